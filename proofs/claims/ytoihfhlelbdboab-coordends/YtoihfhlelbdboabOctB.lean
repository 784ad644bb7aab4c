/- octet's Writer: Nums, Raw, Out, and Join of one row. For rows of up to 2^40 bytes. -/
import Derived.Test.YtoihfhlelbdboabOctA
namespace Go.Proofs.Ytoihfhlelbdboab
open Go.RowKit Go.Dig Go.Inv Go.Oct

/-- a Writer: where it stands, its row, what was laid -/
structure Wri (w : World) (base g : Nat) (v : Value) (L : List Int) : Prop where
  blk : w.heap[g]? = some (.cells #[v] 94 (0, 0))
  row : OwnB w base v L
  ne : v.ownBlock ≠ some g
  lo : base ≤ g
/-- what a Writer's work leaves alone -/
structure Wr (g : Nat) (w w' : World) (v v' : Value) : Prop where
  os : w'.os = w.os
  tape : w'.tape = w.tape
  output : w'.output = w.output
  size : w.heap.size ≤ w'.heap.size
  block : ∀ k, k < w.heap.size → k ≠ g → v.ownBlock ≠ some k → w'.heap[k]? = w.heap[k]?
  own : ∀ k, v'.ownBlock = some k → v.ownBlock = some k ∨ w.heap.size ≤ k
theorem Wr.refl (g : Nat) (w : World) (v : Value) : Wr g w w v v := ⟨rfl, rfl, rfl, Nat.le_refl _, fun _ _ _ _ => rfl, fun _ h => .inl h⟩
theorem Wr.trans {g : Nat} {a b c : World} {u v x : Value} (h : Wr g a b u v) (k : Wr g b c v x) : Wr g a c u x :=
  ⟨k.os.trans h.os, k.tape.trans h.tape, k.output.trans h.output, Nat.le_trans h.size k.size, fun i hi hg hn => (k.block i (Nat.lt_of_lt_of_le hi h.size) hg (fun e => (h.own i e).elim hn (fun g => by omega))).trans (h.block i hi hg hn),
   fun i hi => (k.own i hi).elim (h.own i) (fun g => .inr (Nat.le_trans h.size g))⟩
theorem Wr.of_gr {w w' : World} {v v' : Value} (h : Gr w w' v v') (g : Nat) : Wr g w w' v v' := ⟨h.os, h.tape, h.output, h.size, fun k hk _ hn => h.block k hk hn, h.own⟩
theorem Wr.alloc (g : Nat) (w : World) (o : Obj) (v : Value) : Wr g w (w.alloc o) v v := Wr.of_gr (Gr.alloc w o v) g
theorem Wr.setCell {w : World} (g i : Nat) (v x : Value) : Wr g w (w.setCell ⟨g, i, none⟩ x) v v := ⟨rfl, rfl, rfl, by simp, fun k _ hg _ => Below.heap_setCell _ _ _ _ hg, fun _ h => .inl h⟩
theorem Wr.drew {g : Nat} {w w' : World} {v v' : Value} (h : Wr g w w' v v') : Wr g w w'.drew v v' := ⟨h.os, h.tape, h.output, h.size, h.block, h.own⟩
theorem Wr.below {g : Nat} {w w' : World} {v v' : Value} (h : Wr g w w' v v') {B : Nat} (hB : B ≤ w.heap.size) (hg : B ≤ g) (hv : ∀ k, v.ownBlock = some k → B ≤ k) : Below B w w' :=
  ⟨h.os, h.tape, h.output, h.size, fun k hk => h.block k (Nat.lt_of_lt_of_le hk hB) (by omega) (fun e => by have := hv k e; omega)⟩
theorem Wr.ownNe {g : Nat} {w w' : World} {v v' : Value} (h : Wr g w w' v v') {k : Nat} (hk : k < w.heap.size) (hn : v.ownBlock ≠ some k) : v'.ownBlock ≠ some k := fun e => (h.own k e).elim hn (fun l => by omega)
theorem Wri.alloc {w : World} {base g : Nat} {v : Value} {L : List Int} (h : Wri w base g v L) (o : Obj) : Wri (w.alloc o) base g v L := ⟨alloc_blk_old h.blk o, h.row.alloc o, h.ne, h.lo⟩
theorem Wri.lt {w : World} {base g : Nat} {v : Value} {L : List Int} (h : Wri w base g v L) : g < w.heap.size := lt_blk h.blk
theorem Wri.cell {w : World} {base g : Nat} {v : Value} {L : List Int} (h : Wri w base g v L) : w.cell? ⟨g, 0, none⟩ = some v := (cell_blk h.blk 0).trans rfl
theorem Wri.fr {w : World} {base g : Nat} {v : Value} {L : List Int} (h : Wri w base g v L) : w.frozen? ⟨g, 0, none⟩ = false := frozen_blk h.blk 0
theorem Wri.put {w w' : World} {base g : Nat} {v v' : Value} {L L' : List Int} (h : Wri w base g v L) (hr : OwnB w' base v' L') (hg : Gr w w' v v') : Wri (w'.setCell ⟨g, 0, none⟩ v') base g v' L' := by
  have hlt := h.lt
  have hne : v'.ownBlock ≠ some g := fun e => (hg.own g e).elim h.ne (fun k => by omega)
  have hb : w'.heap[g]? = some (.cells #[v] 94 (0, 0)) := (hg.block g hlt h.ne).trans h.blk
  refine ⟨(set_blk hb 0 v').trans (by simp), hr.same (fun k hk => Below.heap_setCell _ _ _ _ (fun e => hne (by simp only at e; rw [← e]; exact hk))), hne, h.lo⟩
theorem Wri.wr {w w' : World} {base g : Nat} {v v' : Value} {L : List Int} (_ : Wri w base g v L) (hg : Gr w w' v v') : Wr g w (w'.setCell ⟨g, 0, none⟩ v') v v' := (Wr.of_gr hg g).trans (Wr.setCell g 0 v' v')

/-- numbers lie in a row -/
def NumsAt (w : World) (sb so : Nat) (vs : List Int) : Prop := ∀ j, j < vs.length → w.cell? ⟨sb, so + j, none⟩ = some (.int .i64 (vs.getD j 0))
def I64 (vs : List Int) : Prop := ∀ j, j < vs.length → -9223372036854775808 ≤ vs.getD j 0 ∧ vs.getD j 0 ≤ 9223372036854775807

set_option maxRecDepth 10000 in
set_option maxHeartbeats 1000000 in
theorem wNums_any (base g : Nat) (v : Value) (L vs : List Int) (sb so cap : Nat) (w : World) (h : Wri w base g v L) (hc : NumsAt w sb so vs) (hv : I64 vs) (hg : sb ≠ g) (ho : v.ownBlock ≠ some sb) (hb : L.length + 9 * vs.length < 1099511627776) :
    Calls Try.prog 41 #[.pointer (some ⟨g, 0, none⟩), .slice (some ⟨sb, so, none⟩) vs.length cap] w fun e w' => e = .returned (.tuple #[]) ∧ ∃ v', Wri w' base g v' (L ++ nums vs) ∧ Wr g w w' v v' := by
  have HW : Hid (Wri w base g v (L ++ nums (vs.take 0))) := by show Wri _ _ _ _ _; simpa [nums] using h
  have HG : Hid (Wr g w w v v) := Wr.refl g w v
  have HC : Hid (NumsAt w sb so vs) := hc
  have HV : Hid (I64 vs) := hv
  have HS : Hid (sb < w.heap.size ∨ vs.length = 0) := by
    by_cases hn : vs.length = 0
    · exact .inr hn
    · exact .inl (World.block_lt_of_cell? w _ (hc 0 (by omega)))
  have HOn : Hid (v.ownBlock ≠ some sb) := ho
  clear h hc hv ho
  go_enter Try.func41, Try.ntmps41
  go_wp2_with fail
  go_loopw [10] (fun i wr => ∃ (k : Nat) (u : Value), k ≤ vs.length ∧ i = .int .i64 (k : Int) ∧ Hid (Wri wr base g u (L ++ nums (vs.take k))) ∧ Hid (Wr g w wr v u)) (fun i _ => vs.length - (intOf i).toNat)
  case atStart => exact ⟨0, v, by omega, rfl, HW, HG⟩
  case round =>
    clear HW HG
    obtain ⟨k, u, hk, rfl, HW, HG⟩ := hrel
    by_cases hlt : k < vs.length
    · have hsb : sb < w.heap.size := HS.out.elim id (fun e => by omega)
      have hcell : wr.cell? ⟨sb, so + k, none⟩ = some (.int .i64 (vs.getD k 0)) := (World.cell?_of_block (HG.out.block sb hsb hg HOn.out)).trans (HC.out k hlt)
      have hcl : wr.cell? ⟨g, 0, none⟩ = some u := HW.out.cell
      have hl1 : (L ++ nums (vs.take k)).length < 1099511627776 := by
        have := nums_length (vs.take k)
        rw [List.length_append]; rw [List.length_take] at this; omega
      have hz := HV.out k hlt
      obtain ⟨x, hx⟩ : ∃ x, x = vs.getD k 0 := ⟨_, rfl⟩
      rw [← hx] at hcell hz
      have HX : Hid (x = vs.getD k 0) := hx
      clear hx
      have hbw : base ≤ wr.heap.size := Nat.le_trans HW.out.lo (Nat.le_of_lt HW.out.lt)
      go_wp2_with fail
      refine (appendNumber_any base u _ x wr HW.out.row hl1 hbw hz.1 hz.2).mono ?_
      rintro e w1 ⟨v1, rfl, hO1, hG1⟩
      obtain ⟨ao1, n1, c1, rfl, -⟩ := hO1.form
      have HW1 : Hid (Wri (w1.setCell ⟨g, 0, none⟩ (.slice ao1 n1 c1)) base g (.slice ao1 n1 c1) (L ++ nums (vs.take (k + 1)))) := by
        have := HW.out.put hO1 hG1
        rw [nums_take_succ hlt, ← HX.out, ← List.append_assoc]; exact this
      have HG1 : Hid (Wr g w (w1.setCell ⟨g, 0, none⟩ (.slice ao1 n1 c1)) v (.slice ao1 n1 c1)) := HG.out.trans (HW.out.wr hG1)
      have hf1 : w1.frozen? ⟨g, 0, none⟩ = false := by
        have := hG1.block g HW.out.lt HW.out.ne
        exact frozen_blk (this.trans HW.out.blk) 0
      have hc1 : w1.cell? ⟨g, 0, none⟩ = some u := by
        have := hG1.block g HW.out.lt HW.out.ne
        exact (cell_blk (this.trans HW.out.blk) 0).trans rfl
      clear HW HG hO1 hG1 hcell hcl HX
      go_wp2_with fail
      exact ⟨⟨k + 1, _, by omega, rfl, HW1, HG1⟩, by simp [intOf]; omega⟩
    · obtain rfl : k = vs.length := by omega
      go_wp2_with fail
      refine bodyPost_end (v := .tuple #[]) (by simp [results, Try.results41, go_sem]) rfl ?_
      exact ⟨rfl, u, by have := HW.out; rwa [List.take_length] at this, HG.out⟩

set_option maxRecDepth 10000 in
set_option maxHeartbeats 1000000 in
theorem wRaw_any (base g : Nat) (v : Value) (L P : List Int) (ao : Option Addr) (n cap : Nat) (w : World) (h : Wri w base g v L) (hn : n = P.length) (hP : Rowed w ao P cap) (hb : L.length + P.length < 2199023255552) :
    Calls Try.prog 69 #[.pointer (some ⟨g, 0, none⟩), .slice ao n cap] w fun e w' => e = .returned (.tuple #[]) ∧ ∃ v', Wri w' base g v' (L ++ P) ∧ Wr g w w' v v' := by
  have HW : Hid (Wri w base g v L) := h
  have HN : Hid (n = P.length) := hn
  have HP : Hid (Rowed w ao P cap) := hP
  have hcl : w.cell? ⟨g, 0, none⟩ = some v := h.cell
  have hbw : base ≤ w.heap.size := Nat.le_trans h.lo (Nat.le_of_lt h.lt)
  clear h hn hP
  go_enter Try.func69, Try.ntmps69
  go_wp2_with (at_builtin; refine wpList_app rfl _ _ rfl base _ L rfl HW.out.row ao n cap P rfl HN.out HP.out (by rw [HN.out]; exact hb) hbw ?_)
  intro v1 w1 HO1 HG1
  obtain ⟨ao1, n1, c1, rfl, -⟩ := HO1.out.form
  have HW1 : Hid (Wri (w1.setCell ⟨g, 0, none⟩ (.slice ao1 n1 c1)) base g (.slice ao1 n1 c1) (L ++ P)) := HW.out.put HO1.out HG1.out
  have HG2 : Hid (Wr g w (w1.setCell ⟨g, 0, none⟩ (.slice ao1 n1 c1)) v (.slice ao1 n1 c1)) := HW.out.wr HG1.out
  have hf1 : w1.frozen? ⟨g, 0, none⟩ = false := frozen_blk ((HG1.out.block g HW.out.lt HW.out.ne).trans HW.out.blk) 0
  have hc1 : w1.cell? ⟨g, 0, none⟩ = some v := (cell_blk ((HG1.out.block g HW.out.lt HW.out.ne).trans HW.out.blk) 0).trans rfl
  clear HW HO1 HG1 hcl
  go_wp2_with fail
  refine bodyPost_end (v := .tuple #[]) (by simp [results, Try.results69, go_sem]) rfl ?_
  exact ⟨rfl, _, HW1.out, HG2.out⟩

theorem made_own (w : World) (n : Nat) (hn : n ≤ maxLen) : OwnB (w.alloc (.cells (row .u8 n (fun _ => 0)) 5)) w.heap.size (.slice (some ⟨w.heap.size, 0, none⟩) 0 n) [] :=
  ⟨rfl, .inr ⟨w.heap.size, n, _, rfl, Nat.le_refl _, alloc_blk _ _, Nat.zero_le _, hn, by rw [row_size, Nat.mul_one], by simp⟩⟩
set_option maxRecDepth 10000 in
set_option maxHeartbeats 1000000 in
theorem join_any (pb : Nat) (ao : Option Addr) (n cap pc : Nat) (L : List Int) (w : World) (hc : w.cell? ⟨pb, 0, none⟩ = some (.slice ao n cap)) (hn : n = L.length) (hL : Rowed w ao L cap) (hb : L.length < 1099511627776) :
    Calls Try.prog 62 #[.slice (some ⟨pb, 0, none⟩) 1 pc] w fun e w' => ∃ v', e = .returned v' ∧ OwnB w' w.heap.size v' L ∧ Below w.heap.size w w' := by
  have HN : Hid (n = L.length) := hn
  have HL : Hid (Rowed w ao L cap) := hL
  have HC : Hid (w.cell? ⟨pb, 0, none⟩ = some (.slice ao n cap)) := hc
  have hbn : n < 1099511627776 := by omega
  obtain ⟨i8, hi, hz0, hz1, hz2⟩ := info_parts info_u8
  have HI : Hid (Try.prog.info? 5 = some i8) := hi
  clear hn hL hi hc
  go_enter Try.func62, Try.ntmps62
  go_wp2_with fail
  go_loopw [3, 11] (fun sz i wr => wr = w ∧ ((i = .int .i64 0 ∧ sz = .int .i64 0) ∨ (i = .int .i64 1 ∧ sz = .int .i64 (n : Int)))) (fun _ i _ => 1 - (intOf i).toNat)
  case atStart => exact ⟨rfl, .inl ⟨rfl, rfl⟩⟩
  case round =>
    obtain ⟨hw, ⟨rfl, rfl⟩ | ⟨rfl, rfl⟩⟩ := hrel
    · obtain rfl : w = wr := hw.symm
      have hc : w.cell? ⟨pb, 0, none⟩ = some (.slice ao n cap) := HC.out
      go_wp2_with fail
      exact ⟨by simp, by simp [intOf]⟩
    · obtain rfl : w = wr := hw.symm
      have HO0 : Hid (OwnB (w.alloc (.cells (row .u8 n (fun _ => 0)) 5)) w.heap.size (.slice (some ⟨w.heap.size, 0, none⟩) 0 n) []) := made_own w n (by unfold maxLen; omega)
      have hB0 : Below w.heap.size w (w.alloc (.cells (row .u8 n (fun _ => 0)) 5)) := below_alloc _ _
      have hmn : (n : Int) ≤ 9223372036854775807 := by omega
      go_wp2_with (at_make; refine wpList_make_num rfl _ _ 67 rfl 5 i8 .u8 (by kernel_rfl) HI.out hz0 hz1 .i64 .i64 0 (n : Int) 0 n rfl rfl rfl rfl (Nat.zero_le _) (by rw [hz2]; omega) hmn ?_)
      generalize w.alloc (.cells (row .u8 n (fun _ => 0)) 5) = w1 at *
      have HC1 : Hid (w1.cell? ⟨pb, 0, none⟩ = some (.slice ao n cap)) := (hB0.cell (World.block_lt_of_cell? w _ HC.out)).trans HC.out
      have HL1 : Hid (Rowed w1 ao L cap) := HL.out.below hB0 (Nat.le_refl _)
      go_loopw [6, 24] (fun u i wq => (wq = w1 ∧ i = .int .i64 0 ∧ u = .slice (some ⟨w.heap.size, 0, none⟩) 0 n) ∨ (i = .int .i64 1 ∧ Hid (OwnB wq w.heap.size u L) ∧ Below w.heap.size w wq)) (fun _ i _ => 1 - (intOf i).toNat)
      case atStart => exact .inl ⟨rfl, rfl, rfl⟩
      case round =>
        rcases hrel with ⟨hq, rfl, rfl⟩ | ⟨rfl, HO, hB⟩
        · obtain rfl : w1 = wr := hq.symm
          have hc1 : w1.cell? ⟨pb, 0, none⟩ = some (.slice ao n cap) := HC1.out
          go_wp2_with (at_builtin; refine wpList_app rfl _ _ rfl w.heap.size _ [] rfl HO0.out ao n cap L rfl HN.out HL1.out (by simp; omega) hB0.size ?_)
          intro v2 w2 HO2 HG2
          have hB2 : Below w.heap.size w w2 := hB0.trans (HG2.out.below hB0.size (fun k hk => (HO0.out.lt k hk).1))
          clear HG2 HO0 HC1 HL1 hc1
          go_wp2_with fail
          exact ⟨.inr ⟨rfl, HO2, hB2⟩, by simp [intOf]⟩
        · obtain ⟨ao1, n1, c1, rfl, -⟩ := HO.out.form
          go_wp2_with fail
          go_ret
          exact ⟨_, rfl, HO.out, hB⟩

set_option maxRecDepth 10000 in
set_option maxHeartbeats 1000000 in
theorem wOut_any (base g : Nat) (v : Value) (L : List Int) (w : World) (h : Wri w base g v L) (hb : L.length < 1099511627776) :
    Calls Try.prog 42 #[.pointer (some ⟨g, 0, none⟩)] w fun e w' => ∃ v', e = .returned v' ∧ OwnB w' w.heap.size v' L ∧ Below w.heap.size w w' := by
  obtain ⟨ao, n, c, rfl, HF⟩ := h.row.form
  have hcl : w.cell? ⟨g, 0, none⟩ = some (.slice ao n c) := h.cell
  clear h
  go_enter Try.func42, Try.ntmps42
  go_wp2_with fail
  have hA := below_alloc w (.cells #[Value.slice ao n c] 67)
  refine (join_any w.heap.size ao n c 1 L (w.alloc (.cells #[Value.slice ao n c] 67)) ((cell_blk (alloc_blk _ _) 0).trans rfl) HF.out.1 (HF.out.2.2.below hA (Nat.le_refl _)) hb).mono ?_
  rintro e w1 ⟨v1, rfl, hO, hB⟩
  obtain ⟨ao1, n1, c1, rfl, -⟩ := hO.form
  have HO : Hid (OwnB w1 w.heap.size (.slice ao1 n1 c1) L) := hO.mono (by simp)
  have hBB : Below w.heap.size w w1 := hA.trans (hB.mono (by simp))
  clear hO hB HF
  go_wp2_with fail
  go_ret
  exact ⟨_, rfl, HO.out, hBB⟩
end Go.Proofs.Ytoihfhlelbdboab
