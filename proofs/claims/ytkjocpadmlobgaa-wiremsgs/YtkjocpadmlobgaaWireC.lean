/- wire's votes as bytes: laySealed, layVote, layRow of votes. For rows of up to 2^38 bytes. -/
import Derived.Test.YtkjocpadmlobgaaWireB
namespace Go.Proofs.Ytkjocpadmlobgaa
open Go.RowKit Go.Dig Go.Inv Go.Oct

/-- a vote, its digests as functions -/
structure VoteR where
  k : Int
  s : Int
  v : Int
  sum : Nat → Int
  f : Int
  tag : Nat → Int
def VoteR.cells (x : VoteR) : Array Value := #[.int .i64 x.k, .int .i64 x.s, .int .i64 x.v] ++ row .u8 32 x.sum ++ #[.int .i64 x.f] ++ row .u8 32 x.tag
theorem VoteR.size (x : VoteR) : x.cells.size = 68 := by simp [VoteR.cells, row_size]
theorem vote_info (x : VoteR) : (Try.prog.info? 62).map (·.size) = some x.cells.size := by rw [VoteR.size]; kernel_rfl
theorem VoteR.all (x : VoteR) : x.cells.all (·.oneCell') = true := by
  unfold VoteR.cells
  rw [Array.all_append, Array.all_append, Array.all_append, row_all, row_all]
  simp
  exact ⟨⟨rfl, rfl, rfl⟩, rfl⟩
def VoteR.zero : VoteR := ⟨0, 0, 0, fun _ => 0, 0, fun _ => 0⟩
theorem zero_vote : (Try.prog.info? 62).map (·.zero) = some (some (.agg VoteR.zero.cells)) := by kernel_rfl
theorem VoteR.at0 (x : VoteR) : x.cells[0]? = some (.int .i64 x.k) := by simp [VoteR.cells, row_size]
theorem VoteR.at1 (x : VoteR) : x.cells[1]? = some (.int .i64 x.s) := by simp [VoteR.cells, row_size]
theorem VoteR.at2 (x : VoteR) : x.cells[2]? = some (.int .i64 x.v) := by simp [VoteR.cells, row_size]
theorem VoteR.at35 (x : VoteR) : x.cells[35]? = some (.int .i64 x.f) := by
  unfold VoteR.cells
  rw [Array.getElem?_append_left (by simp [row_size]), Array.getElem?_append_right (by simp [row_size])]
  simp [row_size]
theorem VoteR.atSum (x : VoteR) {j : Nat} (h : j < 32) : x.cells[3 + j]? = some (.int .u8 (x.sum j)) := by
  unfold VoteR.cells
  rw [Array.getElem?_append_left (by simp [row_size]; omega), Array.getElem?_append_left (by simp [row_size]; omega), Array.getElem?_append_right (by simp)]
  simp [row_get h]
theorem VoteR.atTag (x : VoteR) {j : Nat} (h : j < 32) : x.cells[36 + j]? = some (.int .u8 (x.tag j)) := by
  unfold VoteR.cells
  rw [Array.getElem?_append_right (by simp [row_size])]
  simp [row_size, row_get h]
def ofF (n : Nat) (f : Nat → Int) : List Int := (List.range n).map f
theorem ofF_length (n : Nat) (f : Nat → Int) : (ofF n f).length = n := by simp [ofF]
theorem ofF_getD {n : Nat} {f : Nat → Int} {j : Nat} (h : j < n) : (ofF n f).getD j 0 = f j := by simp [ofF, List.getD, h]
def sealedL (x : VoteR) : List Int := nums [x.k, x.s, x.v] ++ ofF 32 x.sum ++ num x.f
def voteL (x : VoteR) : List Int := sealedL x ++ ofF 32 x.tag
def VoteR.wf (x : VoteR) : Prop := inI x.k ∧ inI x.s ∧ inI x.v ∧ inI x.f
theorem slice_hash (b o : Nat) (w : World) : (Instr.sliceAt 25 (.pointer (some ⟨b, o, none⟩)) none none none).run Try.prog w = .ok (.slice (some ⟨b, o, none⟩) 32 32) w := by
  have hl : Try.prog.arrayLen 25 = 32 := by kernel_rfl
  have he : Try.prog.elem 25 = 5 := by kernel_rfl
  rw [run_sliceAt_array_all w 25 _ (by kernel_rfl), he, hl]
  have hs : (sizeOf 5).run Try.prog w = .ok 1 w := by simp [go_sem]
  rw [hs]
  simp [slicedAt, addr_add]
theorem rowed_mid {w : World} {b o n : Nat} {f : Nat → Int} {c : Array Value} {t : TypeId} {fr : Nat × Nat} (h : w.heap[b]? = some (.cells c t fr)) (hc : ∀ j, j < n → c[o + j]? = some (.int .u8 (f j))) (cap : Nat) : Rowed w (some ⟨b, o, none⟩) (ofF n f) cap := .inr ⟨_, rfl, fun j hj => by
  rw [ofF_length] at hj
  rw [addr_add, cell_blk h, hc j hj, ofF_getD hj]⟩
set_option maxRecDepth 10000 in
set_option maxHeartbeats 1000000 in
theorem laySealed_any (base g : Nat) (v : Value) (L : List Int) (x : VoteR) (w : World) (h : Wri w base g v L) (hx : x.wf) (hb : L.length < 549755813888) :
    Calls Try.prog 63 #[.pointer (some ⟨g, 0, none⟩), .agg x.cells] w fun e w' => e = .returned (.tuple #[]) ∧ ∃ v', Wri w' base g v' (L ++ sealedL x) ∧ Wr g w w' v v' := by
  have HW : Hid (Wri w base g v L) := h
  have hsl := slice_hash
  have hb0 : (w.alloc (.cells x.cells 62)).heap[w.heap.size]? = some (.cells x.cells 62 (0, 0)) := alloc_blk _ _
  have hc0 : (w.alloc (.cells x.cells 62)).cell? ⟨w.heap.size, 0, none⟩ = some (.int .i64 x.k) := (cell_blk hb0 _).trans x.at0
  have hc1 : (w.alloc (.cells x.cells 62)).cell? ⟨w.heap.size, 1, none⟩ = some (.int .i64 x.s) := (cell_blk hb0 _).trans x.at1
  have hc2 : (w.alloc (.cells x.cells 62)).cell? ⟨w.heap.size, 2, none⟩ = some (.int .i64 x.v) := (cell_blk hb0 _).trans x.at2
  have HB0 : Hid ((w.alloc (.cells x.cells 62)).heap[w.heap.size]? = some (.cells x.cells 62 (0, 0))) := hb0
  clear h hb0
  go_enter Try.func63, Try.ntmps63
  go_wp2_with (first | refine wpList_box_row rfl 62 _ rfl _ rfl ?_)
  refine (wNums_new base g v L [x.k, x.s, x.v] (w.heap.size + 1) 3 _ (HW.out.alloc _) (by simp) ⟨hx.1, hx.2.1, hx.2.2.1, trivial⟩ (by simp; omega)).mono ?_
  rintro e w1 ⟨rfl, v1, hw1, hr1⟩
  have hf := HW.out.fresh
  have hs0 : w.heap.size < (w.alloc (.cells x.cells 62)).heap.size := by simp
  have HB1 : Hid (w1.heap[w.heap.size]? = some (.cells x.cells 62 (0, 0))) := (hr1.block _ hs0 hf.1 hf.2).trans HB0.out
  have ho1 : v1.ownBlock ≠ some w.heap.size := hr1.ownNe hs0 hf.2
  have HR1 : Hid (Wr g w w1 v v1) := (Wr.alloc _ _ _ _).trans hr1
  clear hr1 hc0 hc1 hc2 HB0
  go_wp2_with fail
  refine (wRaw_any base g v1 _ (ofF 32 x.sum) (some ⟨w.heap.size, 3, none⟩) 32 32 _ hw1 (by rw [ofF_length]) (rowed_mid HB1.out (fun j hj => x.atSum hj) 32) (by have := nums_length [x.k, x.s, x.v]; rw [List.length_append, ofF_length]; simp at this; omega)).mono ?_
  rintro e w2 ⟨rfl, v2, hw2, hr2⟩
  have hs1 : w.heap.size < w1.heap.size := lt_blk HB1.out
  have HB2 : Hid (w2.heap[w.heap.size]? = some (.cells x.cells 62 (0, 0))) := (hr2.block _ hs1 hf.1 ho1).trans HB1.out
  have HR2 : Hid (Wr g w w2 v v2) := HR1.out.trans hr2
  have hc3 : w2.cell? ⟨w.heap.size, 35, none⟩ = some (.int .i64 x.f) := (cell_blk HB2.out _).trans x.at35
  clear hr2 HB1 hw1 HR1
  go_wp2_with fail
  refine (wNums_new base g v2 _ [x.f] w2.heap.size 1 _ hw2 rfl ⟨hx.2.2.2, trivial⟩ (by have := nums_length [x.k, x.s, x.v]; simp only [List.length_append, ofF_length]; simp at this ⊢; omega)).mono ?_
  rintro e w3 ⟨rfl, v3, hw3, hr3⟩
  have HR3 : Hid (Wr g w w3 v v3) := HR2.out.trans hr3
  have HW3 : Hid (Wri w3 base g v3 (L ++ sealedL x)) := by
    show Wri _ _ _ _ _
    rw [nums_one] at hw3
    unfold sealedL
    simpa only [List.append_assoc] using hw3
  clear hw3 hr3 hw2 HR2 hc3 HB2
  go_wp2_with fail
  refine bodyPost_end (v := .tuple #[]) (by simp [results, Try.results63, go_sem]) rfl ?_
  exact ⟨rfl, v3, HW3.out, HR3.out⟩
theorem sealedL_length (x : VoteR) : (sealedL x).length ≤ 68 := by
  have := nums_length [x.k, x.s, x.v]
  have := num_length x.f
  unfold sealedL
  simp only [List.length_append, ofF_length]
  simp at *
  omega
theorem vote_row : ∃ d, Try.prog.underlying 62 = some d ∧ d.isRow = true := by
  have h : (Try.prog.underlying 62).map (·.isRow) = some true := by kernel_rfl
  cases hd : Try.prog.underlying 62 with
  | none => rw [hd] at h; cases h
  | some d => rw [hd] at h; exact ⟨d, rfl, by simpa using h⟩
/-- a vote lies at a place -/
def VoteAt (w : World) (b o : Nat) (y : VoteR) : Prop := ∀ i, i < 68 → w.cell? ⟨b, o + i, none⟩ = y.cells[i]?
theorem voteAt_blk {w : World} {b : Nat} {y : VoteR} {t : TypeId} {fr : Nat × Nat} (h : w.heap[b]? = some (.cells y.cells t fr)) : VoteAt w b 0 y := fun i _ => by rw [Nat.zero_add, cell_blk h]
theorem VoteAt.same {w w' : World} {b o : Nat} {y : VoteR} (h : VoteAt w b o y) (hb : w'.heap[b]? = w.heap[b]?) : VoteAt w' b o y := fun i hi => (World.cell?_of_block (a := ⟨b, o + i, none⟩) hb).trans (h i hi)
theorem wpList_load_vote {ops : Array Oper} {rest : List Oper} {o : Oper} {a : Act} {w : World} {Q : Exit → Act → World → Prop} (hgd : o.guard = none) (x : Operand) (ho : o.op = .load 62 x) (b off : Nat) (hx : a.eval x = .pointer (some ⟨b, off, none⟩)) (y : VoteR)
    (hc : VoteAt w b off y) (h : wpList Try.prog ops Q rest (a.put o.dst (.agg y.cells)) w) : wpList Try.prog ops Q (o :: rest) a w := by
  obtain ⟨d, hd1, hd2⟩ := vote_row
  refine wpList_load_mid hgd 62 x ho b off hx y.cells.toList d (fun j v hv => ?_) hd1 hd2 (by rw [Array.length_toList]; exact vote_info y) (by simpa using h)
  have hv' : y.cells[j]? = some v := by simpa using hv
  have hj : j < 68 := by have := (Array.getElem?_eq_some_iff.1 hv').1; rwa [VoteR.size] at this
  rw [hc j hj]; exact hv'
section
variable {ops : Array Oper} {rest : List Oper} {o : Oper} {a : Act} {w : World} {Q : Exit → Act → World → Prop}
theorem wpList_alloc_vote (hgd : o.guard = none) (ho : o.op = .alloc 62) (h : wpList Try.prog ops Q rest (a.put o.dst (.pointer (some ⟨w.heap.size, 0, none⟩))) (w.alloc (.cells VoteR.zero.cells 62))) :
    wpList Try.prog ops Q (o :: rest) a w := wpList_alloc_row hgd 62 ho _ zero_vote h
theorem wpList_store_vote (hgd : o.guard = none) (x y : Operand) (ho : o.op = .store 62 x y) (w0 : World) (z : VoteR) (hx : a.eval x = .pointer (some ⟨w0.heap.size, 0, none⟩)) (hy : a.eval y = .agg z.cells) (hw : w = w0.alloc (.cells VoteR.zero.cells 62))
    (h : wpList Try.prog ops Q rest (a.put o.dst undef) (w0.alloc (.cells z.cells 62))) : wpList Try.prog ops Q (o :: rest) a w := by
  subst hw
  refine wpList_store_blk hgd 62 x y ho w0.heap.size z.cells hx hy 62 _ (alloc_blk _ _) (vote_info z) (by rw [VoteR.size, VoteR.size]) z.all ?_
  rw [setRow_new]; exact h
end
set_option maxRecDepth 10000 in
set_option maxHeartbeats 1000000 in
theorem layVote_any (base g : Nat) (v : Value) (L : List Int) (x : VoteR) (w : World) (h : Wri w base g v L) (hx : x.wf) (hb : L.length < 549755813888) :
    Calls Try.prog 38 #[.pointer (some ⟨g, 0, none⟩), .agg x.cells] w fun e w' => e = .returned (.tuple #[]) ∧ ∃ v', Wri w' base g v' (L ++ voteL x) ∧ Wr g w w' v v' := by
  have HW : Hid (Wri w base g v L) := h
  have hsl := slice_hash
  have HB0 : Hid ((w.alloc (.cells x.cells 62)).heap[w.heap.size]? = some (.cells x.cells 62 (0, 0))) := alloc_blk _ _
  have HV0 : Hid (VoteAt (w.alloc (.cells x.cells 62)) w.heap.size 0 x) := voteAt_blk HB0.out
  clear h
  go_enter Try.func38, Try.ntmps38
  go_wp2_with (first | refine wpList_box_row rfl 62 _ rfl _ rfl ?_ | refine wpList_load_vote rfl _ rfl w.heap.size 0 rfl x HV0.out ?_)
  refine (laySealed_any base g v L x _ (HW.out.alloc _) hx hb).mono ?_
  rintro e w1 ⟨rfl, v1, hw1, hr1⟩
  have hf := HW.out.fresh
  have hs0 : w.heap.size < (w.alloc (.cells x.cells 62)).heap.size := by simp
  have HB1 : Hid (w1.heap[w.heap.size]? = some (.cells x.cells 62 (0, 0))) := (hr1.block _ hs0 hf.1 hf.2).trans HB0.out
  have HR1 : Hid (Wr g w w1 v v1) := (Wr.alloc _ _ _ _).trans hr1
  clear hr1 HB0 HV0
  go_wp2_with fail
  refine (wRaw_any base g v1 _ (ofF 32 x.tag) (some ⟨w.heap.size, 36, none⟩) 32 32 _ hw1 (by rw [ofF_length]) (rowed_mid HB1.out (fun j hj => x.atTag hj) 32) (by have := sealedL_length x; rw [List.length_append, ofF_length]; omega)).mono ?_
  rintro e w2 ⟨rfl, v2, hw2, hr2⟩
  have HR2 : Hid (Wr g w w2 v v2) := HR1.out.trans hr2
  have HW2 : Hid (Wri w2 base g v2 (L ++ voteL x)) := by
    show Wri _ _ _ _ _
    unfold voteL
    simpa only [List.append_assoc] using hw2
  clear hr2 HB1 hw1 HR1 hw2
  go_wp2_with fail
  refine bodyPost_end (v := .tuple #[]) (by simp [results, Try.results38, go_sem]) rfl ?_
  exact ⟨rfl, v2, HW2.out, HR2.out⟩

/-- votes lie one behind the other -/
def VotesAt (w : World) (ao : Option Addr) (ys : List VoteR) : Prop := ys ≠ [] → ∃ b o, ao = some ⟨b, o, none⟩ ∧ ∀ j (hj : j < ys.length), VoteAt w b (o + j * 68) ys[j]
def votesL (ys : List VoteR) : List Int := num ys.length ++ ys.flatMap voteL
theorem voteL_length (x : VoteR) : (voteL x).length ≤ 100 := by
  have := sealedL_length x
  unfold voteL
  rw [List.length_append, ofF_length]; omega
theorem flat_length (ys : List VoteR) : (ys.flatMap voteL).length ≤ 100 * ys.length := by
  induction ys with
  | nil => simp
  | cons y t ih => rw [List.flatMap_cons, List.length_append, List.length_cons]; have := voteL_length y; omega
theorem flat_take_succ {ys : List VoteR} {k : Nat} (h : k < ys.length) : (ys.take (k + 1)).flatMap voteL = (ys.take k).flatMap voteL ++ voteL ys[k] := by
  rw [List.take_add_one, List.getElem?_eq_getElem h, List.flatMap_append]
  simp
set_option maxRecDepth 10000 in
set_option maxHeartbeats 1000000 in
theorem layRowV_any (base g : Nat) (v : Value) (L : List Int) (ys : List VoteR) (ao : Option Addr) (n cap : Nat) (w : World) (h : Wri w base g v L) (hn : n = ys.length) (hP : VotesAt w ao ys) (hA : ys ≠ [] → Apart ao g v) (hw : ∀ y ∈ ys, y.wf) (hb : L.length + 100 * ys.length < 274877906944) :
    Calls Try.prog 37 #[.pointer (some ⟨g, 0, none⟩), .slice ao n cap, .func (.func 38) #[] #[]] w fun e w' => e = .returned (.tuple #[]) ∧ ∃ v', Wri w' base g v' (L ++ num n ++ ys.flatMap voteL) ∧ Wr g w w' v v' := by
  have HW : Hid (Wri w base g v L) := h
  have HN : Hid (n = ys.length) := hn
  have HA : Hid (ys ≠ [] → Apart ao g v) := hA
  have HWF : Hid (∀ y ∈ ys, y.wf) := hw
  have hbn : n < 274877906944 := by omega
  have HL : Hid (∀ k, (L ++ num n ++ (ys.take k).flatMap voteL).length < 549755813888) := fun k => by
    have h1 := num_length n
    have h2 := flat_length (ys.take k)
    have h3 : (ys.take k).length ≤ ys.length := by rw [List.length_take]; omega
    rw [List.length_append, List.length_append]; omega
  have HS : Hid (∀ j, (hj : j < ys.length) → ∃ b o, ao = some ⟨b, o, none⟩ ∧ b < w.heap.size ∧ VoteAt w b (o + j * 68) ys[j]) := fun j hj => by
    obtain ⟨b, o, e, hc⟩ := hP (fun e => by rw [e] at hj; cases hj)
    exact ⟨b, o, e, World.block_lt_of_cell? w _ ((hc j hj 0 (by omega)).trans (VoteR.at0 _)), hc j hj⟩
  clear h hn hP hA hw
  go_enter Try.func37, Try.ntmps37
  go_wp2_with fail
  refine (wNums_new base g v L [(n : Int)] w.heap.size 1 w HW.out rfl ⟨inI_lit (by omega) (by omega), trivial⟩ (by simp; omega)).mono ?_
  rintro e w1 ⟨rfl, v1, hw1, hr1⟩
  rw [nums_one] at hw1
  have HW1 : Hid (Wri w1 base g v1 (L ++ num n ++ (ys.take 0).flatMap voteL)) := by show Wri _ _ _ _ _; simpa using hw1
  have HR1 : Hid (Wr g w w1 v v1) := hr1
  clear hw1 hr1 HW
  go_wp2_with fail
  go_loopw [15] (fun i wr => ∃ (k : Nat) (u : Value), k ≤ n ∧ i = .int .i64 (k : Int) ∧ Hid (Wri wr base g u (L ++ num n ++ (ys.take k).flatMap voteL)) ∧ Hid (Wr g w wr v u)) (fun i _ => n - (intOf i).toNat)
  case atStart => exact ⟨0, v1, by omega, rfl, HW1, HR1⟩
  case round =>
    clear HW1 HR1
    obtain ⟨k, u, hk, rfl, HW, HG⟩ := hrel
    by_cases hlt : k < n
    · have hkP : k < ys.length := by rw [← HN.out]; exact hlt
      obtain ⟨b, o, rfl, hbl, hc⟩ := HS.out k hkP
      have hap := HA.out (fun e => by have h0 := HN.out; rw [e] at h0; simp at h0; omega) _ rfl
      have HV : Hid (VoteAt wr b (o + k * 68) ys[k]) := hc.same (HG.out.block b hbl hap.1 hap.2)
      have HY : Hid (ys[k].wf) := HWF.out _ (List.getElem_mem hkP)
      have HT : Hid ((ys.take (k + 1)).flatMap voteL = (ys.take k).flatMap voteL ++ voteL ys[k]) := flat_take_succ hkP
      obtain ⟨y, hy⟩ : ∃ y, y = ys[k] := ⟨_, rfl⟩
      rw [← hy] at HV HY HT
      clear hy hc hap hkP
      have HV2 : Hid (VoteAt (wr.alloc (.cells y.cells 62)) wr.heap.size 0 y) := voteAt_blk (alloc_blk _ _)
      go_wp2_with (first | (refine wpList_load_vote rfl _ rfl b (o + k * 68) ?_ y ?_ ?_; rfl; exact HV.out) | refine wpList_alloc_vote rfl rfl ?_ | (refine wpList_store_vote rfl _ _ rfl wr y ?_ ?_ ?_ ?_; rfl; rfl; rfl) | (refine wpList_load_vote rfl _ rfl wr.heap.size 0 ?_ y ?_ ?_; rfl; exact HV2.out))
      refine (layVote_any base g u _ y _ (HW.out.alloc _) HY.out (HL.out k)).mono ?_
      rintro e w2 ⟨rfl, v2, hw2, hr2⟩
      have HW2 : Hid (Wri w2 base g v2 (L ++ num n ++ (ys.take (k + 1)).flatMap voteL)) := by
        show Wri _ _ _ _ _
        rw [HT.out, ← List.append_assoc]; exact hw2
      have HG2 : Hid (Wr g w w2 v v2) := (HG.out.trans (Wr.alloc _ _ _ _)).trans hr2
      clear HW HG hw2 hr2 HV HT HY HV2
      go_wp2_with fail
      exact ⟨⟨k + 1, v2, by omega, rfl, HW2, HG2⟩, by simp [intOf]; omega⟩
    · obtain rfl : k = n := by omega
      go_wp2_with fail
      refine bodyPost_end (v := .tuple #[]) (by simp [results, Try.results37, go_sem]) rfl ?_
      refine ⟨rfl, u, ?_, HG.out⟩
      have := HW.out
      rwa [List.take_of_length_le (by rw [HN.out]; exact Nat.le_refl _)] at this
end Go.Proofs.Ytkjocpadmlobgaa
