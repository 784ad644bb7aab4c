/- coord: an operation that may not be changes nothing, and is not remembered. For every row of operations and every operation. -/
import Derived.Test.YtoihfhlelbdboabAgLow
import Derived.Test.YtoihfhlelbdboabDigAll
import Derived.Test.YtoihfhlelbdboabWireB
namespace Go.Proofs.Ytoihfhlelbdboab
open Go.RowKit Go.Dig Go.Inv Go.Oct Go.Hold
open Go.Sha
set_option linter.unusedVariables false
set_option linter.unusedSimpArgs false

theorem heap_setRow_other (w : World) {g k : Nat} (c : Array Value) (h : k ≠ g) : (w.setRow g c).heap[k]? = w.heap[k]? := by
  simp only [World.setRow, Array.getElem?_modify]; rw [if_neg (Ne.symm h)]
section
variable {ops : Array Oper} {rest : List Oper} {o : Oper} {a : Act} {w : World} {Q : Exit → Act → World → Prop}
theorem wpList_alloc_hash (hgd : o.guard = none) (ho : o.op = .alloc 44) (h : wpList Try.prog ops Q rest (a.put o.dst (.pointer (some ⟨w.heap.size, 0, none⟩))) (w.alloc (.cells (row .u8 32 (fun _ => 0)) 44))) :
    wpList Try.prog ops Q (o :: rest) a w := wpList_alloc_row hgd 44 ho _ zero_hash h
theorem wpList_put_hash (hgd : o.guard = none) (x y : Operand) (ho : o.op = .store 44 x y) (g : Nat) (f old : Nat → Int) (hx : a.eval x = .pointer (some ⟨g, 0, none⟩)) (hy : a.eval y = .agg (row .u8 32 f)) (t : TypeId) (hg : w.heap[g]? = some (.cells (row .u8 32 old) t (0, 0)))
    (h : ∀ w', w'.heap[g]? = some (.cells (row .u8 32 f) t (0, 0)) → Keeps g w w' → wpList Try.prog ops Q rest (a.put o.dst undef) w') : wpList Try.prog ops Q (o :: rest) a w :=
  wpList_store_blk hgd 44 x y ho g _ hx hy t _ hg (row_info size_hash _) (by rw [row_size, row_size]) (row_all _ _ _) (h _ (setRow_at hg _) ⟨rfl, rfl, rfl, by simp, fun k _ hk => heap_setRow_other _ _ hk⟩)
/-- a mark is read out of a row -/
theorem wpList_load_mkAt (hgd : o.guard = none) (x : Operand) (ho : o.op = .load 65 x) (g off : Nat) (m : Mk) (hx : a.eval x = .pointer (some ⟨g, off, none⟩)) (hc : ∀ i u, m.cells[i]? = some u → w.cell? ⟨g, off + i, none⟩ = some u)
    (h : wpList Try.prog ops Q rest (a.put o.dst (.agg m.cells)) w) : wpList Try.prog ops Q (o :: rest) a w :=
  wpList_plain hgd fun K hK => by
    obtain ⟨d, hd1, hd2⟩ := row_of (ty := 65) (by kernel_rfl)
    refine wp_load_mid 65 x ho g off hx m.cells.toList d (fun j v hv => hc j v (by simpa using hv)) hd1 hd2 (by kernel_rfl) ?_
    have := hK _ _ h
    simpa using this
end
theorem mkCs_get : ∀ {L : List Mk} {j i : Nat} {m : Mk} {u : Value}, L[j]? = some m → i < 4 → m.cells[i]? = some u → (mkC L)[j * 4 + i]? = some u
  | [], j, i, m, u, h, _, _ => by simp at h
  | a :: r, 0, i, m, u, h, hi, hu => by
    simp at h
    subst h
    have e : mkC (a :: r) = a.cells.toList ++ mkC r := rfl
    rw [e, Nat.zero_mul, Nat.zero_add, List.getElem?_append_left (by simp [Mk.cells]; omega), Array.getElem?_toList]
    exact hu
  | a :: r, j + 1, i, m, u, h, hi, hu => by
    simp at h
    have e : mkC (a :: r) = a.cells.toList ++ mkC r := rfl
    have hl : a.cells.toList.length = 4 := by simp [Mk.cells]
    rw [e, List.getElem?_append_right (by omega), hl, show (j + 1) * 4 + i - 4 = j * 4 + i by omega]
    exact mkCs_get h hi hu
/-- a row of marks, mark by mark -/
theorem OwnM.atC {w : World} {base : Nat} {v : Value} {L : List Mk} (h : OwnM w base v L) (hn : 0 < L.length) : ∃ g c, v = .slice (some ⟨g, 0, none⟩) L.length c ∧ base ≤ g ∧ g < w.heap.size ∧ ∀ (j : Nat) (m : Mk), L[j]? = some m → ∀ i u, m.cells[i]? = some u → w.cell? ⟨g, j * 4 + i, none⟩ = some u := by
  rcases h.1.2 with ⟨e, h0⟩ | ⟨g, cap, cur, e, hb, hg, _⟩
  · omega
  · subst e
    refine ⟨g, cap, rfl, hb, lt_blk hg, fun j m hm i u hu => ?_⟩
    have := h.cells.2 (j * 4 + i) u ?_
    · rwa [addr_add, Nat.zero_add] at this
    · have hi : i < 4 := by
        have := (Array.getElem?_eq_some_iff.1 hu).1
        simpa [Mk.cells] using this
      exact mkCs_get hm hi hu
theorem mkBytes_take {L : List Mk} {i : Nat} {m : Mk} (h : L[i]? = some m) : mkBytes (L.take (i + 1)) = mkBytes (L.take i) ++ if markB m.k m.p m.e m.t then encMark m.k m.p m.e m.t else [] := by
  have hi := (List.getElem?_eq_some_iff.1 h).1
  have he := (List.getElem?_eq_some_iff.1 h).2
  unfold mkBytes
  rw [List.take_succ_eq_append_getElem hi, List.flatMap_append, he]
  simp
theorem encMark_length (k p e t : Int) : (encMark k p e t).length ≤ 45 := by
  have := nums_length [3, k, p, e, t]
  simpa [encMark] using this
theorem mkBytes_length : ∀ L : List Mk, (mkBytes L).length ≤ 45 * L.length
  | [] => by simp [mkBytes]
  | m :: r => by
    have h := mkBytes_length r
    have h1 := encMark_length m.k m.p m.e m.t
    have e : mkBytes (m :: r) = (if markB m.k m.p m.e m.t then encMark m.k m.p m.e m.t else []) ++ mkBytes r := rfl
    rw [e, List.length_append, List.length_cons]
    split <;> simp <;> omega
theorem Mk.Small.inI {m : Mk} (h : m.Small) : Go.Proofs.Ytoihfhlelbdboab.inI m.k ∧ Go.Proofs.Ytoihfhlelbdboab.inI m.p ∧ Go.Proofs.Ytoihfhlelbdboab.inI m.e ∧ Go.Proofs.Ytoihfhlelbdboab.inI m.t := by
  obtain ⟨h1, h2, h3, h4⟩ := h
  exact ⟨⟨by omega, by omega⟩, ⟨by omega, by omega⟩, ⟨by omega, by omega⟩, ⟨by omega, by omega⟩⟩
set_option maxRecDepth 10000 in
set_option maxHeartbeats 1000000 in
/-- digest's Sum -/
theorem dsum_any (P : List Int) (ao : Option Addr) (cap : Nat) (w : World) (hl : Lies w ao P) (hc : P.length ≤ cap) (hz : P.length < 274877906944) :
    Calls Try.prog 28 #[.slice ao P.length cap] w fun e w' => e = .returned (.agg (row .u8 32 (sha P))) ∧ Below w.heap.size w w' := by
  have HL : Hid (Lies w ao P) := hl
  clear hl
  have hb0 := alloc_blk w (.cells (row .u8 32 (fun _ => 0)) 44)
  have hBw := below_alloc w (.cells (row .u8 32 (fun _ => 0)) 44)
  go_enter Try.func28, Try.ntmps28
  go_wp2_with (refine wpList_alloc_hash rfl rfl ?_)
  have hs0 : (w.alloc (.cells (row .u8 32 (fun _ => 0)) 44)).heap.size = w.heap.size + 1 := by simp
  generalize w.alloc (.cells (row .u8 32 (fun _ => 0)) 44) = w0 at *
  rw [← hs0]
  have hcat : cat [(ao, cap, P)] = P := by simp [cat]
  have h := sumRows_any [(ao, cap, P)] w0.heap.size 1 (w0.alloc (.cells #[.slice ao P.length cap] 67)) (fun j hj => by
    obtain rfl : j = 0 := by simp at hj; exact hj
    exact (cell_blk (alloc_blk _ _) 0).trans rfl) (fun x hx => by
    simp at hx; subst hx; exact ⟨HL.out.below (hBw.alloc (by omega) _) (Nat.le_refl _), hc⟩) (by rw [hcat]; omega) (by simp)
  rw [hcat] at h
  refine h.mono ?_
  rintro e w2 ⟨rfl, hB2⟩
  have HC : Hid (w2.heap[w.heap.size]? = some (.cells (row .u8 32 (fun _ => 0)) 44 (0, 0))) := (hB2.block _ (by simp; omega)).trans (alloc_blk_old hb0 _)
  have hB : Below w.heap.size w w2 := (hBw.alloc (by omega) _).trans (hB2.mono (by simp; omega))
  have hz2 : w.heap.size < w2.heap.size := lt_blk HC.out
  clear hB2 h hb0
  go_wp2_with (refine wpList_put_hash rfl _ _ rfl w.heap.size (sha P) (fun _ => 0) ?_ ?_ 44 ?_ ?_; rfl; rfl; exact HC.out)
  intro w3 hc3 hk3
  have hB3 : Below w.heap.size w w3 := hB.trans (hk3.below (Nat.le_refl _) (by omega))
  clear hk3 HC hB
  go_wp2_with fail
  refine bodyPost_ret (v := .agg (row .u8 32 (sha P))) ?_ rfl ⟨rfl, hB3⟩
  exact results_cell_row rfl _ _ w.heap.size _ _ _ (.array 32 5) rfl hc3 (by kernel_rfl) rfl (row_info size_hash _)
end Go.Proofs.Ytoihfhlelbdboab
namespace Go.Proofs.Ytoihfhlelbdboab
open Go.RowKit Go.Dig Go.Inv Go.Oct Go.Hold
open Go.Sha
set_option linter.unusedVariables false
set_option linter.unusedSimpArgs false

theorem Rowed.lies {w : World} {ao : Option Addr} {P : List Int} {cap : Nat} (h : Rowed w ao P cap) : Lies w ao P := fun hp => h.at hp
set_option maxRecDepth 100000 in
set_option maxHeartbeats 4000000 in
theorem Sum_at (own : Own) (w : World) (cb : Nat) (x : Co) (h : CoAt own w cb x) (hm : x.ms.length ≤ 50000) (hs : MsI x) :
    Calls Try.prog 14 #[.pointer (some ⟨cb, 0, none⟩)] w fun e w' => e = .returned (.agg (row .u8 32 (sha (mkBytes x.ms)))) ∧ Below w.heap.size w w' := by
  obtain ⟨pb, rb, mv, q, h⟩ := h
  have c2 : w.cell? ⟨cb, 2, none⟩ = some mv := cell_blk h.blk 2
  have hO := h.ms
  have hcb := lt_blk h.blk
  clear h
  obtain ⟨ao, c, rfl⟩ := hO.form
  have hb0 := alloc_blk w (.cells (row .u8 32 (fun _ => 0)) 44)
  have hBw := below_alloc w (.cells (row .u8 32 (fun _ => 0)) 44)
  go_enter Try.func14, Try.ntmps14
  go_upto_region 1 with (refine wpList_alloc_hash rfl rfl ?_)
  have hs0 : (w.alloc (.cells (row .u8 32 (fun _ => 0)) 44)).heap.size = w.heap.size + 1 := by simp
  generalize w.alloc (.cells (row .u8 32 (fun _ => 0)) 44) = w0 at *
  have c2' := (hBw.cell (p := ⟨cb, 2, none⟩) hcb).trans c2
  have hO0 : OwnM w0 0 (.slice ao x.ms.length c) x.ms := hO.below hBw
  have HO : Hid (OwnM w0 0 (.slice ao x.ms.length c) x.ms) := hO0
  have HC : Hid (w0.heap[w.heap.size]? = some (.cells (row .u8 32 (fun _ => 0)) 44 (0, 0))) := hb0
  have HS : Hid (MsI x) := hs
  obtain ⟨z, HZ⟩ : ∃ z, Hid (x.ms.length = z) := ⟨_, rfl⟩
  rw [HZ.out] at c2' hm HO
  clear c2 hO hO0 hb0 hs
  go_wp2_with fail
  go_loopw [3, 16] (fun v iv wr => ∃ (k : Nat), k ≤ z ∧ iv = .int .i64 (k : Int) ∧ Hid (OwnB wr w0.heap.size v (mkBytes (x.ms.take k))) ∧ Below w0.heap.size w0 wr) (fun _ iv _ => z - (intOf iv).toNat)
  case atStart => exact ⟨0, Nat.zero_le _, rfl, OwnB.nil _ _, Below.refl _ _⟩
  case round =>
    clear c2'
    obtain ⟨k, hk, rfl, HV, hB⟩ := hrel
    by_cases hlt : k < z
    · obtain ⟨g, cg, e, -, hgl, hc⟩ := HO.out.atC (by rw [HZ.out]; omega)
      obtain rfl : ao = some ⟨g, 0, none⟩ := by injection e
      obtain ⟨m, hmk⟩ : ∃ m, x.ms[k]? = some m := ⟨_, List.getElem?_eq_getElem (by rw [HZ.out]; exact hlt)⟩
      have HCG : Hid (∀ i u, m.cells[i]? = some u → wr.cell? ⟨g, k * 4 + i, none⟩ = some u) := fun i u hu => (hB.cell (p := ⟨g, k * 4 + i, none⟩) hgl).trans (hc k m hmk i u hu)
      have HM : Hid (x.ms[k]? = some m) := hmk
      have HSM : Hid m.Small := HS.out m (List.mem_of_getElem? hmk)
      have hlt' : (k : Int) < (z : Int) := by omega
      have hk5 : (k : Int) < 50000 := by omega
      have HK : Hid (k < z) := hlt
      clear e hc hmk hgl
      go_upto_region 8 with (first | (refine wpList_load_mkAt rfl _ rfl g (k * 4) m ?_ HCG.out ?_; rfl) | (refine wpList_alloc_row rfl 65 rfl Mk.zero.cells (by kernel_rfl) ?_) | (refine wpList_store_whole rfl 65 _ _ rfl wr.heap.size m.cells Mk.zero.cells ?_ ?_ 65 (alloc_blk _ _) (by kernel_rfl) (Mk.all _) rfl ?_; rfl; rfl))
      intro w3 h3 hK3
      have HEN : Hid (∀ w, Calls Try.prog 27 #[.agg m.cells] w fun x w' => Enc (markB m.k m.p m.e m.t) (encMark m.k m.p m.e m.t) w w' x) := fun w => encodeMark_any m.k m.p m.e m.t w HSM.out.inI.1 HSM.out.inI.2.1 HSM.out.inI.2.2.1 HSM.out.inI.2.2.2
      have h3s : wr.heap.size < w3.heap.size := lt_blk h3
      have hB3 : Below wr.heap.size wr w3 := (below_alloc _ _).trans (hK3.below (Nat.le_refl _) (by simp))
      have HV3 : Hid (OwnB w3 w0.heap.size u3 (mkBytes (x.ms.take k))) := HV.out.same fun b hb => hB3.block b (HV.out.lt b hb).2
      have hB03 := hB.trans (hB3.mono hB.size)
      clear hK3
      go_upto_region 7 with fail
      apply wp_region_lit
      refine wpList_load_agg rfl 65 (by kernel_rfl) _ rfl wr.heap.size m.cells 65 (0, 0) ?_ h3 (by kernel_rfl) ?_
      · rfl
      go_upto_region 8 with (go_at_call 27; refine (HEN.out _).mono ?_; rintro e w4 ⟨v4, rfl, hv4, hB4⟩; replace hv4 : Hid (OwnB w4 w3.heap.size v4 (if markB m.k m.p m.e m.t then encMark m.k m.p m.e m.t else [])) := hv4; generalize (if markB m.k m.p m.e m.t = true then (0 : Int) else 1) = er)
      have HV4 : Hid (OwnB w4 w0.heap.size u3 (mkBytes (x.ms.take k))) := HV3.out.same fun b hb => hB4.block b (HV3.out.lt b hb).2
      have hB04 := hB03.trans (hB4.mono hB03.size)
      obtain ⟨ao4, n4, cap4, rfl, HF4⟩ := hv4.out.form
      have hlen := mkBytes_length (x.ms.take k)
      have hlen2 := List.length_take_le k x.ms
      have hl4 : (if markB m.k m.p m.e m.t = true then encMark m.k m.p m.e m.t else []).length ≤ 45 := by
        split
        · exact encMark_length _ _ _ _
        · simp
      have HAP : Hid (mkBytes (x.ms.take (k + 1)) = mkBytes (x.ms.take k) ++ if markB m.k m.p m.e m.t = true then encMark m.k m.p m.e m.t else []) := mkBytes_take HM.out
      generalize (if markB m.k m.p m.e m.t = true then encMark m.k m.p m.e m.t else []) = N4 at *
      have hs4 := hB04.size
      clear hv4 hB3 hB03 hB4 h3 HV HV3 HCG
      go_wp2_with (refine wpList_app rfl _ _ rfl w0.heap.size u3 (mkBytes (x.ms.take k)) rfl HV4.out ao4 n4 cap4 N4 rfl HF4.out.1 HF4.out.2.2 (by have := HF4.out.1; omega) hs4 ?_)
      intro v5 w5 hv5 hG5
      rw [← HAP.out] at hv5
      have hB5 := hB04.trans (hG5.out.below hs4 fun b hb => (HV4.out.lt b hb).1)
      go_wp2_with fail
      have hkk := HK.out
      go_roundw
      case rel => exact ⟨k + 1, by omega, by go_num, (by rw [hs0]; exact hv5), hB5⟩
      case measure => simp [intOf]; omega
    · obtain rfl : k = z := by omega
      have hcz : mkBytes (x.ms.take k) = mkBytes x.ms := by rw [← HZ.out, List.take_length]
      rw [hcz] at HV
      obtain ⟨bo, n, cap, rfl, HF⟩ := HV.out.form
      obtain ⟨hn, hcp, hrw⟩ := HF.out
      obtain rfl := hn
      have hlen := mkBytes_length x.ms
      rw [HZ.out] at hlen
      have hB5 := hBw.trans (hB.mono (by omega))
      have HC5 : Hid (wr.heap[w.heap.size]? = some (.cells (row .u8 32 (fun _ => 0)) 44 (0, 0))) := (hB.block _ (by omega)).trans HC.out
      clear hcz HF
      go_wp2_with (first | (refine wpList_put_hash rfl _ _ rfl w.heap.size (sha (mkBytes x.ms)) (fun _ => 0) ?_ ?_ 44 ?_ ?_; rfl; rfl; exact HC6.out) | (go_at_call 28; refine (dsum_any (mkBytes x.ms) bo cap _ hrw.lies hcp (by omega)).mono ?_; rintro e w6 ⟨rfl, hB6⟩; have HC6 : Hid (w6.heap[w.heap.size]? = some (.cells (row .u8 32 (fun _ => 0)) 44 (0, 0))) := (hB6.block _ (lt_blk HC5.out)).trans HC5.out))
      intro w7 hc7 hk7
      have hB7 : Below w.heap.size w w7 := (hB5.trans (hB6.mono hB5.size)).trans (hk7.below (Nat.le_refl _) (hB5.trans (hB6.mono hB5.size)).size)
      clear hk7 HC6 hB6
      go_wp2_with fail
      refine bodyPost_ret (v := .agg (row .u8 32 (sha (mkBytes x.ms)))) ?_ rfl ⟨rfl, hB7⟩
      exact results_cell_row rfl _ _ w.heap.size _ _ _ (.array 32 5) rfl hc7 (by kernel_rfl) rfl (row_info size_hash _)
end Go.Proofs.Ytoihfhlelbdboab
namespace Go.Proofs.Ytoihfhlelbdboab
open Go.RowKit Go.Dig Go.Inv Go.Oct Go.Hold
set_option linter.unusedVariables false
set_option linter.unusedSimpArgs false

def rpsC (L : List Rp.Rp3) : List Value := L.flatMap fun m => (rpC m).toList
theorem rpsC_length : ∀ L : List Rp.Rp3, (rpsC L).length = L.length * 3
  | [] => rfl
  | z :: r => by
    have h := rpsC_length r
    have e : rpsC (z :: r) = (rpC z).toList ++ rpsC r := rfl
    rw [e, List.length_append, h, List.length_cons]; simp [rpC]; omega
theorem rpsC_append (a b : List Rp.Rp3) : rpsC (a ++ b) = rpsC a ++ rpsC b := by unfold rpsC; rw [List.flatMap_append]
theorem rpsC_int (L : List Rp.Rp3) : ∀ u ∈ rpsC L, IsI u := fun u hu => by
  obtain ⟨m, _, hm⟩ := List.mem_flatMap.1 hu
  simp [rpC] at hm
  rcases hm with rfl | rfl | rfl <;> exact ⟨_, rfl⟩
theorem rpsC_one (L : List Rp.Rp3) : ∀ u ∈ rpsC L, u.oneCell' = true := fun u hu => by
  obtain ⟨x, rfl⟩ := rpsC_int L u hu
  rfl
/-- a row of marks that somebody owns, spare room too -/
def OwnP (w : World) (base : Nat) (v : Value) (L : List Rp.Rp3) : Prop := w.ownsRow base 27 3 v L.length (rpsC L) ∧ AllRow w v IsI
theorem OwnP.nil (w : World) (base : Nat) : OwnP w base (.slice none 0 0) [] := ⟨World.ownsRow_nil w base _ 3, fun k hk => by cases hk⟩
theorem OwnP.lt {w : World} {base : Nat} {v : Value} {L : List Rp.Rp3} (h : OwnP w base v L) : ∀ k, v.ownBlock = some k → base ≤ k ∧ k < w.heap.size := World.ownsRow.lt h.1
theorem OwnP.same {w w' : World} {base : Nat} {v : Value} {L : List Rp.Rp3} (h : OwnP w base v L) (hb : ∀ k, v.ownBlock = some k → w'.heap[k]? = w.heap[k]?) : OwnP w' base v L := by
  refine ⟨⟨h.1.1, ?_⟩, fun k hk j u hu => h.2 k hk j u (by rw [← World.cell?_of_block (a := ⟨k, j, none⟩) (hb k hk)]; exact hu)⟩
  rcases h.1.2 with hn | ⟨g, cap, cur, rfl, hb', hgg, rest⟩
  · exact .inl hn
  · exact .inr ⟨g, cap, cur, rfl, hb', (hb g rfl).trans hgg, rest⟩
theorem OwnP.below {w w' : World} {base : Nat} {v : Value} {L : List Rp.Rp3} (h : OwnP w base v L) (hB : Below w.heap.size w w') : OwnP w' base v L := h.same fun k hk => hB.block k (h.lt k hk).2
theorem OwnP.mono {w : World} {base b : Nat} {v : Value} {L : List Rp.Rp3} (h : OwnP w base v L) (hb : b ≤ base) : OwnP w b v L := by
  refine ⟨⟨h.1.1, ?_⟩, h.2⟩
  rcases h.1.2 with hn | ⟨g, cap, cur, e, hb', rest⟩
  · exact .inl hn
  · exact .inr ⟨g, cap, cur, e, Nat.le_trans hb hb', rest⟩
theorem OwnP.form {w : World} {base : Nat} {v : Value} {L : List Rp.Rp3} (h : OwnP w base v L) : ∃ ao cap, v = .slice ao L.length cap := by
  rcases h.1.2 with ⟨rfl, h0⟩ | ⟨g, cap, cur, rfl, _⟩
  · rw [h0]; exact ⟨none, 0, rfl⟩
  · exact ⟨_, cap, rfl⟩
theorem OwnP.blk {w : World} {base : Nat} {v : Value} {L : List Rp.Rp3} (h : OwnP w base v L) {k : Nat} (hk : v.ownBlock = some k) : ∃ c t fr, w.heap[k]? = some (.cells c t fr) := by
  rcases h.1.2 with ⟨rfl, _⟩ | ⟨g, cap, cur, rfl, _, hgg, _⟩
  · cases hk
  · cases hk; exact ⟨_, _, _, hgg⟩
theorem OwnP.low {w : World} {base : Nat} {v : Value} {L : List Rp.Rp3} (h : OwnP w base v L) {k : Nat} (hk : v.ownBlock = some k) : NoLow w k := fun z => by
  refine ⟨fun e => ?_, fun e => ?_⟩
  · obtain ⟨x, hx⟩ := h.2 k hk 3 _ e
    cases hx
  · obtain ⟨x, hx⟩ := h.2 k hk 5 _ e
    cases hx
theorem info_P : (Try.prog.info? 27).map (fun i => (i.zero, i.size, i.bytes)) = some (some (.agg (rpC ⟨0, 0, 0⟩)), 3, 24) := by kernel_rfl
theorem parts_P : (Try.prog.info? 27).map (fun i => (i.zero, i.size)) = some (some (.agg (rpC ⟨0, 0, 0⟩)), 3) := by kernel_rfl
theorem OwnP.cells {w : World} {base : Nat} {g n c : Nat} {o : Nat} {L : List Rp.Rp3} (h : OwnP w base (.slice (some ⟨g, o, none⟩) n c) L) : o = 0 ∧ ∀ j u, (rpsC L)[j]? = some u → w.cell? ((⟨g, 0, none⟩ : Addr).add j) = some u := by
  rcases h.1.2 with ⟨e, _⟩ | ⟨g', cap, cur, e, _⟩
  · cases e
  · cases e; exact ⟨rfl, World.ownsRow.cells h.1 (g := g) rfl⟩
section
variable {ops : Array Oper} {rest : List Oper} {o : Oper} {a : Act} {w : World} {Q : Exit → Act → World → Prop} {K : Act → World → Prop}
end
/-- two rows of n numbers are one -/
def rowEq (n : Nat) (f g : Nat → Int) : Bool := (List.range n).all fun i => f i == g i
theorem rowEq_self (n : Nat) (f : Nat → Int) : rowEq n f f = true := by simp [rowEq]
theorem rowEq_iff {n : Nat} {f g : Nat → Int} : rowEq n f g = true ↔ ∀ j, j < n → f j = g j := by simp [rowEq]
theorem rowEq_comm (n : Nat) (f g : Nat → Int) : rowEq n f g = rowEq n g f := by
  rw [Bool.eq_iff_iff, rowEq_iff, rowEq_iff]
  exact ⟨fun h j hj => (h j hj).symm, fun h j hj => (h j hj).symm⟩

theorem equal_row (d : Nat) (n : Nat) (t e : TypeId) {P : Program} (ht : P.underlying t = some (.array n e)) (he : P.underlying e = some (.int .u8)) (hsz : ∀ w, (sizeOf e).run P w = .ok 1 w) (f g : Nat → Int) (w : World) :
    (Op.equalIn (d + 2) t (.agg (row .u8 n f)) (.agg (row .u8 n g))).run P w = .ok (rowEq n f g) w := by
  rw [rowEq, List.range_eq_range', Op.equalIn]
  simp only [Sem.run_bind, run_underlying ht, Result.andThen_ok, hsz, Std.Legacy.Range.forIn_eq_forIn_range', Std.Legacy.Range.size, Nat.sub_zero, Nat.add_sub_cancel, Nat.div_one]
  have hl : ∀ i ∈ List.range' 0 n 1, i < n := fun i hi => by simpa using (List.mem_range'_1.1 hi).2
  generalize List.range' 0 n 1 = l at hl ⊢
  induction l with
  | nil => simp
  | cons i l ih =>
    have hi : i < n := hl i (by simp)
    have px : (part e (row .u8 n f) (i * 1)).run P w = .ok (.int .u8 (f i)) w := by
      simp [part, isAgg, run_underlying he, row_get hi]
    have py : (part e (row .u8 n g) (i * 1)).run P w = .ok (.int .u8 (g i)) w := by
      simp [part, isAgg, run_underlying he, row_get hi]
    have pe : (Op.equalIn (d + 1) e (.int .u8 (f i)) (.int .u8 (g i))).run P w = .ok (f i == g i) w := run_equalIn_int w d e .u8 .u8 _ _ he
    simp only [List.forIn_cons, Sem.run_bind, px, py, pe, Result.andThen_ok, List.all_cons]
    cases hb : (f i == g i)
    · simp
    · simp only [Bool.not_true, Bool.false_eq_true, if_false, Sem.run_pure, Result.andThen_ok, Bool.true_and]
      exact ih fun j hj => hl j (by simp [hj])
theorem equalIn_hash (f g : Nat → Int) (w : World) : (Op.equalIn 10000 44 (.agg (row .u8 32 f)) (.agg (row .u8 32 g))).run Try.prog w = .ok (rowEq 32 f g) w :=
  equal_row 9998 32 44 5 (by kernel_rfl) (by kernel_rfl) (fun w => by simp [go_sem]) f g w

theorem OwnP.one {w : World} {base : Nat} {v : Value} {L : List Rp.Rp3} (h : OwnP w base v L) (hn : 0 < L.length) : ∃ g c, v = .slice (some ⟨g, 0, none⟩) L.length c ∧ base ≤ g ∧ g < w.heap.size ∧ ∀ (j : Nat) (r : Rp.Rp3), L[j]? = some r → ∀ i u, (rpC r)[i]? = some u → w.cell? ⟨g, j * 3 + i, none⟩ = some u := by
  rcases h.1.2 with ⟨e, h0⟩ | ⟨g, cap, cur, e, hb, hg, _⟩
  · omega
  · subst e
    refine ⟨g, cap, rfl, hb, lt_blk hg, fun j r hr i u hu => ?_⟩
    have hi : i < 3 := by
      have := (Array.getElem?_eq_some_iff.1 hu).1
      simpa [rpC] using this
    have key : ∀ {L : List Rp.Rp3} {j : Nat}, L[j]? = some r → (rpsC L)[j * 3 + i]? = some u := by
      intro L
      induction L with
      | nil => intro j h; simp at h
      | cons a l ih =>
        intro j h
        have e : rpsC (a :: l) = (rpC a).toList ++ rpsC l := rfl
        cases j with
        | zero =>
          simp at h
          subst h
          rw [e, Nat.zero_mul, Nat.zero_add, List.getElem?_append_left (by simp [rpC]; omega), Array.getElem?_toList]
          exact hu
        | succ j =>
          simp at h
          have hl : (rpC a).toList.length = 3 := by simp [rpC]
          rw [e, List.getElem?_append_right (by omega), hl, show (j + 1) * 3 + i - 3 = j * 3 + i by omega]
          exact ih h
    have := h.cells.2 (j * 3 + i) u (key hr)
    rwa [addr_add, Nat.zero_add] at this
section
variable {ops : Array Oper} {rest : List Oper} {o : Oper} {a : Act} {w : World} {K : Act → World → Prop} {Q : Exit → Act → World → Prop}
/-- a reply is read out of a row -/
theorem wp_load_rpAt (x : Operand) (ho : o.op = .load 27 x) (g off : Nat) (r : Rp.Rp3) (hx : a.eval x = .pointer (some ⟨g, off, none⟩)) (hc : ∀ i u, (rpC r)[i]? = some u → w.cell? ⟨g, off + i, none⟩ = some u)
    (h : K (a.put o.dst (.agg (rpC r))) w) : o.wp Try.prog a w K Q := by
  obtain ⟨d, hd1, hd2⟩ := row_of (ty := 27) (by kernel_rfl)
  refine wp_load_mid 27 x ho g off hx (rpC r).toList d (fun j v hv => hc j v (by simpa using hv)) hd1 hd2 (by kernel_rfl) ?_
  simpa using h
end
/-- an unlabelled block that is no node has turned: a coordinator lies on -/
theorem PrC.turn {own : Own} {w w' : World} {i qb : Nat} {p : Pr} {ev : Value} {ov : Option Addr} (h : PrC own w i qb p ev ov) (ho : Owned own w) (hF : Frm (fun k => own k = none ∧ NoLow w k) w w') : PrC own w' i qb p ev ov :=
  ⟨(hF.block qb (lt_blk h.blk) fun hn => by rw [h.lab] at hn; cases hn.1).trans h.blk, h.lab,
   h.ends.same (fun _ _ => rfl) fun k hk => hF.block k (ho k _ hk) fun hn => (by rw [hk] at hn; cases hn.1),
   h.op.same (fun _ _ => rfl) fun k hk => hF.block k (ho k _ hk) fun hn => (by rw [hk] at hn; cases hn.1)⟩
theorem CoAt.turn {own : Own} {w w' : World} {cb : Nat} {x : Co} (h : CoAt own w cb x) (hF : Frm (fun k => own k = none ∧ NoLow w k) w w') : CoAt own w' cb x := by
  obtain ⟨pb, rb, mv, q, h⟩ := h
  refine ⟨pb, rb, mv, q, h.owned.mono hF.size, (hF.block _ (lt_blk h.blk) fun hn => (by rw [h.lc] at hn; cases hn.1)).trans h.blk, h.lc, h.lp, h.lr,
    h.tp.frmL hF (fun hn => by rw [h.lp] at hn; cases hn.1) (fun k ⟨_, hk⟩ z => (hk z).1), h.tr.frmL hF (fun hn => by rw [h.lr] at hn; cases hn.1) (fun k ⟨_, hk⟩ z => (hk z).2),
    h.ms.same fun k hk => hF.block k (h.ms.lt k hk).2 fun hn => (by rw [h.lm k hk] at hn; cases hn.1), h.lm, h.len, fun i p hp => ?_⟩
  obtain ⟨b, h1, ev, ov, h2⟩ := h.pr i p hp
  exact ⟨b, h1, ev, ov, h2.turn h.owned hF⟩
end Go.Proofs.Ytoihfhlelbdboab
namespace Go.Proofs.Ytoihfhlelbdboab
open Go.RowKit Go.Dig Go.Inv Go.Oct Go.Hold
open Go.Sha
set_option linter.unusedVariables false
set_option linter.unusedSimpArgs false

section
variable {ops : Array Oper} {rest : List Oper} {o : Oper} {a : Act} {w : World} {K : Act → World → Prop} {Q : Exit → Act → World → Prop}
/-- a mark is read out of a row -/
theorem wp_load_mkAt (x : Operand) (ho : o.op = .load 65 x) (g off : Nat) (m : Mk) (hx : a.eval x = .pointer (some ⟨g, off, none⟩)) (hc : ∀ i u, m.cells[i]? = some u → w.cell? ⟨g, off + i, none⟩ = some u)
    (h : K (a.put o.dst (.agg m.cells)) w) : o.wp Try.prog a w K Q := by
  obtain ⟨d, hd1, hd2⟩ := row_of (ty := 65) (by kernel_rfl)
  refine wp_load_mid 65 x ho g off hx m.cells.toList d (fun j v hv => hc j v (by simpa using hv)) hd1 hd2 (by kernel_rfl) ?_
  simpa using h
end
set_option maxRecDepth 100000 in
set_option maxHeartbeats 4000000 in
theorem marks_any (w : World) (b1 b2 : Nat) (v1 v2 : Value) (L : List Mk) (h1 : OwnM w b1 v1 L) (h2 : OwnM w b2 v2 L) (hL : L.length ≤ 50000) :
    Calls Try.prog 13 #[v1, v2] w fun e w' => e = .returned (.bool true) ∧ Below w.heap.size w w' := by
  obtain ⟨a1, c1, rfl⟩ := h1.form
  obtain ⟨a2, c2, rfl⟩ := h2.form
  have H1 : Hid (OwnM w b1 (.slice a1 L.length c1) L) := h1
  have H2 : Hid (OwnM w b2 (.slice a2 L.length c2) L) := h2
  clear h1 h2
  go_enter Try.func13, Try.ntmps13
  go_wp2_with fail
  go_loopw [5] (fun iv wr => ∃ i : Nat, i ≤ L.length ∧ iv = .int .i64 (i : Int) ∧ Below w.heap.size w wr) (fun iv _ => L.length - (intOf iv).toNat)
  case atStart => exact ⟨0, Nat.zero_le _, rfl, Below.refl _ _⟩
  case round =>
    obtain ⟨i, hi, rfl, hBw⟩ := hrel
    by_cases hlt : i < L.length
    · obtain ⟨g1, k1, e1, -, hg1, hc1⟩ := H1.out.atC (by omega)
      obtain ⟨g2, k2, e2, -, hg2, hc2⟩ := H2.out.atC (by omega)
      obtain rfl : a1 = some ⟨g1, 0, none⟩ := by injection e1
      obtain rfl : a2 = some ⟨g2, 0, none⟩ := by injection e2
      obtain ⟨m, hm⟩ : ∃ m, L[i]? = some m := ⟨_, List.getElem?_eq_getElem hlt⟩
      have HC1 : Hid (∀ k u, m.cells[k]? = some u → wr.cell? ⟨g1, i * 4 + k, none⟩ = some u) := fun k u hu => (hBw.cell (p := ⟨g1, i * 4 + k, none⟩) hg1).trans (hc1 i m hm k u hu)
      have HC2 : Hid (∀ k u, m.cells[k]? = some u → wr.cell? ⟨g2, i * 4 + k, none⟩ = some u) := fun k u hu => (hBw.cell (p := ⟨g2, i * 4 + k, none⟩) hg2).trans (hc2 i m hm k u hu)
      have hg1' := Nat.lt_of_lt_of_le hg1 hBw.size
      have hg2' := Nat.lt_of_lt_of_le hg2 hBw.size
      have hlt' : (i : Int) < (L.length : Int) := by omega
      have hi5 : (i : Int) < 50000 := by omega
      have HI : Hid (i < L.length) := hlt
      clear e1 e2 hc1 hc2 hm hg1 hg2 hlt hi
      go_upto_region 6 with fail
      refine wp_region_growG (by kernel_rfl) (by kernel_rfl) (fun xS => { tmps := (Value.slice (some (⟨g1, 0, none⟩ : Addr)) L.length c1 :: Value.slice (some (⟨g2, 0, none⟩ : Addr)) L.length c2 :: undef :: undef :: u4 :: Value.int IntKind.i64 (i : Int) :: Value.slice (some (⟨g1, 0, none⟩ : Addr)) L.length c1 :: Value.int IntKind.i64 (L.length : Int) :: Value.slice (some (⟨g2, 0, none⟩ : Addr)) L.length c2 :: Value.int IntKind.i64 (L.length : Int) :: Value.bool false :: Value.int IntKind.i64 (i : Int) :: Value.slice (some (⟨g1, 0, none⟩ : Addr)) L.length c1 :: Value.int IntKind.i64 (L.length : Int) :: Value.bool true :: u15 :: u16 :: xS 0 :: xS 1 :: xS 2 :: xS 3 :: xS 4 :: xS 5 :: xS 6 :: xS 7 :: xS 8 :: []).toArray, defers := [] })
        (fun ii xx WW => match ii with | 0 => xx = Value.slice (some (⟨g1, 0, none⟩ : Addr)) L.length c1 | 1 => xx = Value.int IntKind.i64 (i : Int) | 2 => xx = .pointer (some ⟨g1, i * 4, none⟩) | 3 => xx = .agg m.cells | 4 => xx = Value.slice (some (⟨g2, 0, none⟩ : Addr)) L.length c2 | 5 => xx = Value.int IntKind.i64 (i : Int) | 6 => xx = .pointer (some ⟨g2, i * 4, none⟩) | 7 => xx = .agg m.cells | 8 => xx = .bool false | _ => True) (fun | 0 => u17 | 1 => u18 | 2 => u19 | 3 => u20 | 4 => u21 | 5 => u22 | 6 => u23 | 7 => u24 | 8 => u25 | _ => undef) (by repeat (first | exact trivial | refine ⟨fun _ _ => rfl, ?_⟩)) (fun _ _ _ _ _ h => h) ⟨?_, ?_, ?_, ?_, ?_, ?_, ?_, ?_, ?_, trivial⟩ ?_
      · intro xS W hB hp K hK
        rw [if_pos (wanted_none rfl _)]
        clear hp
        go_simp
        exact hK _ _ (Below.refl _ _) rfl
      · intro xS W hB hp K hK
        rw [if_pos (wanted_none rfl _)]
        clear hp
        go_simp
        exact hK _ _ (Below.refl _ _) rfl
      · intro xS W hB hp K hK
        rw [if_pos (wanted_none rfl _)]
        have h0 : xS 0 = Value.slice (some (⟨g1, 0, none⟩ : Addr)) L.length c1 := hp.1 rfl
        have h1 : xS 1 = Value.int IntKind.i64 (i : Int) := hp.2.1 rfl
        clear hp
        simp only [h0, h1] at hK ⊢
        clear h0 h1
        go_simp
        exact hK _ _ (Below.refl _ _) rfl
      · intro xS W hB hp K hK
        rw [if_pos (wanted_none rfl _)]
        have h2 : xS 2 = .pointer (some ⟨g1, i * 4, none⟩) := hp.1 rfl
        clear hp
        refine wp_load_mkAt _ rfl g1 (i * 4) m ?_ (fun k u hu => (hB.cell (p := ⟨g1, i * 4 + k, none⟩) hg1').trans (HC1.out k u hu)) ?_
        · exact h2
        exact hK _ _ (Below.refl _ _) rfl
      · intro xS W hB hp K hK
        rw [if_pos (wanted_none rfl _)]
        clear hp
        go_simp
        exact hK _ _ (Below.refl _ _) rfl
      · intro xS W hB hp K hK
        rw [if_pos (wanted_none rfl _)]
        clear hp
        go_simp
        exact hK _ _ (Below.refl _ _) rfl
      · intro xS W hB hp K hK
        rw [if_pos (wanted_none rfl _)]
        have h4 : xS 4 = Value.slice (some (⟨g2, 0, none⟩ : Addr)) L.length c2 := hp.1 rfl
        have h5 : xS 5 = Value.int IntKind.i64 (i : Int) := hp.2.1 rfl
        clear hp
        simp only [h4, h5] at hK ⊢
        clear h4 h5
        go_simp
        exact hK _ _ (Below.refl _ _) rfl
      · intro xS W hB hp K hK
        rw [if_pos (wanted_none rfl _)]
        have h6 : xS 6 = .pointer (some ⟨g2, i * 4, none⟩) := hp.1 rfl
        clear hp
        refine wp_load_mkAt _ rfl g2 (i * 4) m ?_ (fun k u hu => (hB.cell (p := ⟨g2, i * 4 + k, none⟩) hg2').trans (HC2.out k u hu)) ?_
        · exact h6
        exact hK _ _ (Below.refl _ _) rfl
      · intro xS W hB hp K hK
        rw [if_pos (wanted_none rfl _)]
        have h3 : xS 3 = .agg m.cells := hp.1 rfl
        have h7 : xS 7 = .agg m.cells := hp.2.1 rfl
        clear hp
        have heq := equal_mk m m
        rw [Mk.eqB_self] at heq
        simp only [h3, h7] at hK ⊢
        clear h3 h7
        go_simp
        exact hK _ _ (Below.refl _ _) rfl
      intro xS W3 hB3 hs
      have h8 : xS 8 = .bool false := hs 8 (by simp)
      clear hs
      simp only [h8]
      go_wp2_with fail
      have hii := HI.out
      go_roundw
      case rel => exact ⟨i + 1, by omega, by go_num, hBw.trans (hB3.mono hBw.size)⟩
      case measure => simp [intOf]; omega
    · obtain rfl : i = L.length := by omega
      clear hi hlt
      go_wp2_with fail
      go_ret
      exact ⟨rfl, hBw⟩
end Go.Proofs.Ytoihfhlelbdboab
namespace Go.Proofs.Ytoihfhlelbdboab
open Go.RowKit Go.Dig Go.Inv Go.Oct Go.Hold
open Go.Sha
set_option linter.unusedVariables false
set_option linter.unusedSimpArgs false

theorem wanted_do {ops : Array Oper} {rest : List Oper} {o : Oper} {a : Act} {w : World} {Q : Exit → Act → World → Prop} (hw : Region.wanted o (yielded ops a.tmps) = true) (h : ∀ K : Act → World → Prop, (∀ a w, wpList Try.prog ops Q rest a w → K a w) → o.wp Try.prog a w K Q) : wpList Try.prog ops Q (o :: rest) a w :=
  wpList_step fun K hK => by rw [hw]; exact h K hK
theorem OpsAt.keep3 {w w' : World} {a : Option Addr} {L : List OpF} (h : OpsAt w a L) (hB : Below w.heap.size w w') : OpsAt w' a L := fun hn => by
  obtain ⟨b, o, rfl, hc⟩ := h hn
  refine ⟨b, o, rfl, fun j x hx i hi => ?_⟩
  have h1 := hc j x hx i hi
  obtain ⟨v, hv⟩ : ∃ v, x.cells[i]? = some v := ⟨x.cells[i]'(by simp [OpF.cells, opC]; omega), Array.getElem?_eq_getElem _⟩
  rw [hv] at h1 ⊢
  exact (hB.cell (World.block_lt_of_cell? w _ h1)).trans h1
/-- no block is both's -/
def Apart2 (o1 o2 : Own) : Prop := ∀ k l, o1 k = some l → o2 k = none
theorem Apart2.symm {o1 o2 : Own} (h : Apart2 o1 o2) : Apart2 o2 o1 := fun k l hk => by
  cases h1 : o1 k with
  | none => rfl
  | some m => rw [h k m h1] at hk; cases hk
/-- what one does leaves the other as it is -/
theorem CoAt.other {P : Lab → Prop} {o1 o1' o2 : Own} {w w' : World} {cb : Nat} {y : Co} (h : CoAt o2 w cb y) (hS : Step P o1 o1' w w') (hd : Apart2 o1 o2) : CoAt o2 w' cb y ∧ Apart2 o1' o2 := by
  refine ⟨h.turn (hS.frm.mono fun k _ ⟨⟨l, h1, _⟩, h2⟩ => ⟨hd k l h1, h2⟩), fun k l hk => ?_⟩
  by_cases hlt : k < w.heap.size
  · rw [hS.old k hlt] at hk; exact hd k l hk
  · exact h.owned.fresh (by omega)
structure AlI (w1 : World) (cb1 cb2 : Nat) (wr : World) (i : Nat) (o1 o2 : Own) (x : Co) (n : Nat) : Prop where
  co1 : CoAt o1 wr cb1 x
  co2 : CoAt o2 wr cb2 x
  inv : x.Inv n
  n : n ≤ i
  ms : MsI x
  ov1 : Over w1.heap.size o1
  ov2 : Over w1.heap.size o2
  ap : Apart2 o1 o2
  below : Below w1.heap.size w1 wr
theorem AlI.lay {w1 : World} {cb1 cb2 : Nat} {wr w' : World} {i : Nat} {o1 o2 : Own} {x : Co} {n : Nat} (h : AlI w1 cb1 cb2 wr i o1 o2 x n) (hB : Below wr.heap.size wr w') : AlI w1 cb1 cb2 w' i o1 o2 x n :=
  ⟨h.co1.below hB, h.co2.below hB, h.inv, h.n, h.ms, h.ov1, h.ov2, h.ap, h.below.trans (hB.mono h.below.size)⟩
set_option maxRecDepth 100000 in
set_option maxHeartbeats 8000000 in
theorem Alike_law (w : World) (a : Option Addr) (cap : Nat) (L : List OpF) (hL : OpsAt w a L) (hW : ∀ o ∈ L, o.Wide) : Calls Try.prog 4 #[.slice a L.length cap] w fun e w' => e = .returned (.bool true) ∧ Below w.heap.size w w' := by
  go_enter Try.func4, Try.ntmps4
  go_wp2_with fail
  refine (long_at w a cap L hL).mono ?_
  rintro e w1 ⟨⟨b, rfl⟩, rfl⟩
  have HL : Hid (OpsAt w1 a L) := hL
  have HW : Hid (∀ o ∈ L, o.Wide) := hW
  clear hL hW
  cases b
  · by_cases h40 : 40 < (L.length : Int)
    · go_wp2_with fail
      go_ret
      exact ⟨rfl, Below.refl _ _⟩
    · have HN : Hid (L.length ≤ 40) := by show L.length ≤ 40; omega
      go_upto_region 6 with (first | (go_at_call 6; refine (New_at w1).mono ?_; rintro e w2 ⟨own1, rfl, hN1, ho1, hB1⟩) | (go_at_call 6; refine (New_at w2).mono ?_; rintro e w3 ⟨own2, rfl, hN2, ho2, hB2⟩))
      clear h40
      have hA0 : AlI w1 w1.heap.size w2.heap.size w3 0 own1 own2 Co.none 0 := ⟨hN1.below hB2, hN2, Co.inv_none, Nat.le_refl _, msI_none, ho1, fun k l hk => Nat.le_trans hB1.size (ho2 k l hk), fun k l hk => (by
        cases h2 : own2 k with
        | none => rfl
        | some m => have := hN1.owned k l hk; have := ho2 k m h2; omega), hB1.trans (hB2.mono hB1.size)⟩
      have HA0 : Hid (AlI w1 w1.heap.size w2.heap.size w3 0 own1 own2 Co.none 0) := hA0
      clear hA0 hN1 hN2 ho1 ho2 hB1 hB2
      obtain ⟨ca, Ha⟩ : ∃ c, Hid (w1.heap.size = c) := ⟨_, rfl⟩
      obtain ⟨cb, Hb⟩ : ∃ c, Hid (w2.heap.size = c) := ⟨_, rfl⟩
      rw [Ha.out, Hb.out] at HA0 ⊢
      go_wp2_with fail
      go_loopw [5] (fun iv wr => ∃ (i : Nat) (o1 o2 : Own) (x : Co) (n : Nat), i ≤ L.length ∧ iv = .int .i64 (i : Int) ∧ AlI w1 ca cb wr i o1 o2 x n) (fun iv _ => L.length - (intOf iv).toNat)
      case atStart => exact ⟨0, own1, own2, Co.none, 0, Nat.zero_le _, rfl, HA0.out⟩
      case round =>
        clear HA0
        obtain ⟨i, o1, o2, x, n, hi, rfl, hA⟩ := hrel
        by_cases hlt : i < L.length
        · obtain ⟨o, hox⟩ : ∃ o, L[i]? = some o := ⟨L[i], List.getElem?_eq_getElem hlt⟩
          have hOA := HL.out.keep3 hA.below
          have HOA : Hid (OpsAt wr a L) := hOA
          obtain ⟨ob, oo, rfl, c0, c1, c2, c3, c4, c5, c6, c7, c8⟩ := hOA.get hox
          have hlt' : (i : Int) < (L.length : Int) := by omega
          have hi4 : (i : Int) < 50 := by have := HN.out; omega
          have HO : Hid (o.Wide ∧ L[i]? = some o ∧ i < L.length) := ⟨HW.out o (List.mem_of_getElem? hox), hox, hlt⟩
          have HA : Hid (AlI w1 ca cb wr i o1 o2 x n) := hA
          clear hox hlt hA hi
          go_upto_region 10 with (first | (go_at_call 7; refine (apply_at o1 _ _ x n HA.out.co1 o HO.out.1 HA.out.inv (by have := HA.out.n; have := HN.out; have := HO.out.2.2; omega)).mono ?_; rintro e w4 ⟨v4, own4, rfl, hO4, hl4, hC4, hS4⟩) | (refine wpList_alloc_row rfl 27 rfl (rpC rp0) (by kernel_rfl) ?_) | (refine wpList_store_whole rfl 27 _ _ rfl w4.heap.size (rpC (x.apply o.ok o).1) (rpC rp0) ?_ ?_ 27 (alloc_blk _ _) (by kernel_rfl) (rpC_all _) rfl ?_; rfl; rfl; intro w5 h5 hK5))
          have hB45 : Below w4.heap.size w4 w5 := (below_alloc _ _).trans (hK5.below (Nat.le_refl _) (by simp))
          obtain ⟨hC2, hd2⟩ := HA.out.co2.other hS4 HA.out.ap
          have hB4 := HA.out.below.trans (HA.out.ov1.below hS4 HA.out.below.size)
          have HB5 : Hid (Below w1.heap.size w1 w5) := hB4.trans (hB45.mono hB4.size)
          have HC1 : Hid (CoAt own4 w5 ca (x.apply o.ok o).2.2) := hC4.below hB45
          have HC2 : Hid (CoAt o2 w5 cb x) := hC2.below hB45
          have HD : Hid (Apart2 own4 o2) := hd2
          have HOV : Hid (Over w1.heap.size own4 ∧ Over w1.heap.size o2) := ⟨HA.out.ov1.step hS4 HA.out.below.size, HA.out.ov2⟩
          have HM5 : Hid (OwnM w5 0 v4 (x.apply o.ok o).2.1) := (hO4.below hB45).mono (Nat.zero_le _)
          have HN5 : Hid (∀ k, v4.ownBlock = some k → o2 k = none) := fun k hk => HA.out.co2.owned.fresh (hO4.lt k hk).1
          have HR5 : Hid (w5.heap[w4.heap.size]? = some (.cells (rpC (x.apply o.ok o).1) 27 (0, 0)) ∧ o2 w4.heap.size = none) := ⟨h5, hC2.owned.fresh (Nat.le_refl _)⟩
          have HX : Hid ((x.apply o.ok o).2.2.Inv (n + 1) ∧ MsI (x.apply o.ok o).2.2 ∧ (x.apply o.ok o).2.1.length ≤ 50000) := by
            have h1 := HA.out.inv.apply o.ok o
            have h2 := HA.out.ms.apply HA.out.inv o.ok o
            have h3 : (x.apply o.ok o).2.1.length ≤ 8 := by
              unfold Co.apply
              split
              · split
                · simp
                · exact (run_ok o HA.out.inv.ok HA.out.inv.now.1).1
              · simp
            exact ⟨h1, h2, by omega⟩
          obtain ⟨ob', oo', e', d0, d1, d2, d3, d4, d5, d6, d7, d8⟩ := (HL.out.keep3 HB5.out).get HO.out.2.1
          obtain ⟨rfl, rfl⟩ : ob = ob' ∧ oo = oo' := by injection e' with e'; injection e' with e1 e2; exact ⟨e1, e2⟩
          obtain ⟨qa, HQ⟩ : ∃ q, Hid (w4.heap.size = q) := ⟨_, rfl⟩
          rw [HQ.out] at HR5 ⊢
          obtain ⟨y, HY⟩ : ∃ y, Hid (x.apply o.ok o = y) := ⟨_, rfl⟩
          have HAN : Hid (x.Inv n ∧ n ≤ i ∧ i < L.length ∧ L.length ≤ 40) := ⟨HA.out.inv, HA.out.n, HO.out.2.2, HN.out⟩
          have HOW : Hid o.Wide := HO.out.1
          rw [HY.out] at HC1 HM5 HR5 HX ⊢
          clear hB45 hC2 hd2 hB4 hO4 hl4 hC4 hS4 hK5 h5 e' HA HO HOA c0 c1 c2 c3 c4 c5 c6 c7 c8
          go_upto_region 11 with (first | (go_at_call 7; refine (apply_at o2 _ _ x n HC2.out o HOW.out HAN.out.1 (by have := HAN.out; omega)).mono ?_; rw [HY.out]; rintro e w6 ⟨v6, own6, rfl, hO6, hl6, hC6, hS6⟩) | (refine wpList_alloc_row rfl 27 rfl (rpC rp0) (by kernel_rfl) ?_) | (refine wpList_store_whole rfl 27 _ _ rfl w6.heap.size (rpC y.1) (rpC rp0) ?_ ?_ 27 (alloc_blk _ _) (by kernel_rfl) (rpC_all _) rfl ?_; rfl; rfl; intro w7 h7 hK7))
          have hB67 : Below w6.heap.size w6 w7 := (below_alloc _ _).trans (hK7.below (Nat.le_refl _) (by simp))
          obtain ⟨hC1, hd1⟩ := HC1.out.other hS6 HD.out.symm
          have hB6 := HB5.out.trans (HOV.out.2.below hS6 HB5.out.size)
          have HM7 : Hid (OwnM w7 0 v4 y.2.1) := (HM5.out.same fun k hk => hS6.block (HM5.out.lt k hk).2 fun l e => by rw [HN5.out k hk] at e; cases e).below hB67
          have HM7' : Hid (OwnM w7 0 v6 y.2.1) := (hO6.below hB67).mono (Nat.zero_le _)
          have hr6 := hS6.keep HR5.out.1 HR5.out.2
          have HR7 : Hid (w7.heap[qa]? = some (.cells (rpC y.1) 27 (0, 0))) := (hB67.block qa (lt_blk hr6)).trans hr6
          have HA7 : Hid (AlI w1 ca cb w7 (i + 1) own4 own6 y.2.2 (n + 1)) := ⟨hC1.below hB67, hC6.below hB67, HX.out.1, by have := HAN.out; omega, HX.out.2.1, HOV.out.1, HOV.out.2.step hS6 HB5.out.size, hd1.symm, hB6.trans (hB67.mono hB6.size)⟩
          have H7 : Hid (w7.heap[w6.heap.size]? = some (.cells (rpC y.1) 27 (0, 0))) := h7
          obtain ⟨qb, HQ6⟩ : ∃ q, Hid (w6.heap.size = q) := ⟨_, rfl⟩
          rw [HQ6.out] at H7 ⊢
          have heq := equal_rp y.1 y.1
          rw [rpE_self] at heq
          clear hB67 hC1 hd1 hB6 hr6 hO6 hl6 hC6 hS6 hK7 h7 HM5 HR5 HC1 HC2 HD d0 d1 d2 d3 d4 d5 d6 d7 d8
          go_wp2_with (first | (refine wpList_load_agg rfl 27 (by kernel_rfl) _ rfl qa (rpC y.1) 27 (0, 0) ?_ HR7.out (by kernel_rfl) ?_; rfl) | (refine wpList_load_agg rfl 27 (by kernel_rfl) _ rfl qb (rpC y.1) 27 (0, 0) ?_ H7.out (by kernel_rfl) ?_; rfl) | (go_at_call 13; refine (marks_any _ _ _ v4 v6 y.2.1 HM7.out HM7'.out HX.out.2.2).mono ?_; rintro e w8 ⟨rfl, hB8⟩) | (refine wanted_do rfl fun _ _ => ?_))
          have hh := HAN.out
          go_roundw
          case rel => exact ⟨i + 1, own4, own6, y.2.2, n + 1, by omega, by go_num, HA7.out.lay hB8⟩
          case measure => simp [intOf]; omega
        · obtain rfl : i = L.length := by omega
          have hml : x.ms.length ≤ 50000 := by have := hA.inv.ms; have := hA.n; have := HN.out; omega
          have HA : Hid (AlI w1 ca cb wr L.length o1 o2 x n) := hA
          have heq := equalIn_hash (sha (mkBytes x.ms)) (sha (mkBytes x.ms))
          rw [rowEq_self] at heq
          have hU1 : Hid (CoAt o1 wr ca x) := HA.out.co1
          have hU3 : Hid (CoAt o1 wr ca x) := HA.out.co1
          clear hA hi hlt
          go_wp2_with (first | (go_at_call 14; refine (Sum_at o1 _ ca x hU1.out hml HA.out.ms).mono ?_; rintro e w4 ⟨rfl, hB4⟩; clear hU1) | (go_at_call 14; refine (Sum_at o2 _ cb x (HA.out.co2.below hB4) hml HA.out.ms).mono ?_; rintro e w5 ⟨rfl, hB5'⟩; have hB5 := hB4.trans (hB5'.mono hB4.size); clear hB4 hB5') | (go_at_call 11; refine (Marks_at o1 _ ca x (hU3.out.below hB5) hml).mono ?_; rintro e w6 ⟨v6, rfl, hv6, hB6'⟩; have hv6' : Hid (OwnM w6 w5.heap.size v6 x.ms) := hv6; have hB6 := hB5.trans (hB6'.mono hB5.size); clear hB5 hB6' hv6 hU3) | (go_at_call 11; refine (Marks_at o2 _ cb x (HA.out.co2.below hB6) hml).mono ?_; rintro e w7 ⟨v7, rfl, hv7, hB7'⟩; have hv7' : Hid (OwnM w7 w6.heap.size v7 x.ms) := hv7; have hv67 : Hid (OwnM w7 w5.heap.size v6 x.ms) := hv6'.out.below hB7'; have hB7 := hB6.trans (hB7'.mono hB6.size); clear hB6 hB7' hv7 hv6') | (go_at_call 13; refine (marks_any _ _ _ v6 v7 x.ms hv67.out hv7'.out hml).mono ?_; rintro e w8 ⟨rfl, hB8'⟩; have hB8 := hB7.trans (hB8'.mono hB7.size); clear hB7 hB8') | (go_at_call 10; refine (known_at _).mono ?_; rintro e w9 ⟨rfl, hB9'⟩; have hB9 := hB8.trans (hB9'.mono hB8.size); clear hB8 hB9') | (refine wanted_do rfl fun _ _ => ?_))
          go_ret
          exact ⟨rfl, HA.out.below.trans (hB9.mono HA.out.below.size)⟩
  · go_wp2_with fail
    go_ret
    exact ⟨rfl, Below.refl _ _⟩
end Go.Proofs.Ytoihfhlelbdboab
namespace Go.Proofs.Ytoihfhlelbdboab
open Go.RowKit Go.Dig Go.Inv Go.Oct Go.Hold
open Go.Sha
set_option linter.unusedVariables false
set_option linter.unusedSimpArgs false

def opZ : OpF := ⟨0, 0, 0, ⟨#[]⟩, 0, 0, 0, 0, false⟩
theorem OpF.all (o : OpF) : o.cells.all (·.oneCell') = true := by
  simp [OpF.cells, opC]
  exact ⟨rfl, rfl, rfl, rfl, rfl, rfl, rfl, rfl, rfl⟩
def OpF.bad9 (o : OpF) : OpF := ⟨9, o.c, o.s, o.n, o.p, o.e, o.t, o.r, o.b⟩
def OpF.bad16 (o : OpF) : OpF := ⟨o.k, 16, o.s, o.n, o.p, o.e, o.t, o.r, o.b⟩
theorem bad9_ok (o : OpF) : o.bad9.ok = false := by simp [OpF.bad9, OpF.ok, opB, inB]
theorem bad16_ok (o : OpF) : o.bad16.ok = false := by simp [OpF.bad16, OpF.ok, opB, inB]
structure BdI (w1 : World) (cb : Nat) (wr : World) (i : Nat) (own : Own) (x : Co) (n : Nat) : Prop where
  co : CoAt own wr cb x
  inv : x.Inv n
  n : n ≤ i
  ms : MsI x
  over : Over w1.heap.size own
  below : Below w1.heap.size w1 wr
theorem BdI.lay {w1 : World} {cb : Nat} {wr w' : World} {i : Nat} {own : Own} {x : Co} {n : Nat} (h : BdI w1 cb wr i own x n) (hB : Below wr.heap.size wr w') : BdI w1 cb w' i own x n :=
  ⟨h.co.below hB, h.inv, h.n, h.ms, h.over, h.below.trans (hB.mono h.below.size)⟩
theorem BdI.step {w1 : World} {cb : Nat} {wr w' : World} {i : Nat} {own own' : Own} {x : Co} {n : Nat} (h : BdI w1 cb wr i own x n) (hC : CoAt own' w' cb x) (hS : Step AllP own own' wr w') : BdI w1 cb w' i own' x n :=
  ⟨hC, h.inv, h.n, h.ms, h.over.step hS h.below.size, h.below.trans (h.over.below hS h.below.size)⟩
set_option maxRecDepth 100000 in
set_option maxHeartbeats 8000000 in
theorem Bad_law (w : World) (a : Option Addr) (cap : Nat) (L : List OpF) (o : OpF) (hL : OpsAt w a L) (hW : ∀ o ∈ L, o.Wide) : Calls Try.prog 5 #[.slice a L.length cap, .agg o.cells] w fun e w' => e = .returned (.bool true) ∧ Below w.heap.size w w' := by
  have hop : (w.alloc (.cells o.cells 32)).heap[w.heap.size]? = some (.cells o.cells 32 (0, 0)) := alloc_blk _ _
  have hB0 := below_alloc w (.cells o.cells 32)
  have hL0 : OpsAt (w.alloc (.cells o.cells 32)) a L := hL.keep3 hB0
  obtain ⟨W0, HW0⟩ : ∃ W0, Hid ((w.alloc (.cells o.cells 32)) = W0) := ⟨_, rfl⟩
  rw [HW0.out] at hop hB0 hL0
  have hpb : w.heap.size < W0.heap.size := lt_blk hop
  have HOP : Hid (W0.heap[w.heap.size]? = some (.cells o.cells 32 (0, 0))) := hop
  obtain ⟨pb, Hpb⟩ : ∃ p, Hid (w.heap.size = p) := ⟨_, rfl⟩
  go_enter Try.func5, Try.ntmps5
  go_upto_region 1 with (first | (refine wpList_box_row rfl 32 _ rfl o.cells rfl ?_; rw [HW0.out]))
  rw [Hpb.out] at HOP hpb hB0 ⊢
  have k3 : W0.cell? ⟨pb, 3, none⟩ = some (.string o.n) := cell_blk HOP.out 3
  clear hop HW0
  go_wp2_with fail
  refine (long_at W0 a cap L hL0).mono ?_
  rintro e w1 ⟨⟨b, rfl⟩, rfl⟩
  have HL : Hid (OpsAt w1 a L) := hL0
  have HW : Hid (∀ o ∈ L, o.Wide) := hW
  have HB0 : Hid (Below pb w w1) := hB0
  clear hL0 hW hL hB0
  cases b
  · by_cases h30 : 30 < (L.length : Int)
    · go_wp2_with (refine wanted_do rfl fun _ _ => ?_)
      go_ret
      exact ⟨rfl, by rw [Hpb.out]; exact HB0.out⟩
    · by_cases h60 : 60 < (o.n.size : Int)
      · go_wp2_with (refine wanted_do rfl fun _ _ => ?_)
        go_ret
        exact ⟨rfl, by rw [Hpb.out]; exact HB0.out⟩
      · go_upto_region 6 with (first | (go_at_call 6; refine (New_at w1).mono ?_; rintro e w2 ⟨own1, rfl, hN1, ho1, hB1⟩))
        have HN : Hid (L.length ≤ 30 ∧ o.n.size ≤ 60) := by show L.length ≤ 30 ∧ o.n.size ≤ 60; omega
        clear h30 h60 k3
        have HA0 : Hid (BdI w1 w1.heap.size w2 0 own1 Co.none 0) := ⟨hN1, Co.inv_none, Nat.le_refl _, msI_none, ho1, hB1⟩
        clear hN1 ho1 hB1
        obtain ⟨cb, Hb⟩ : ∃ c, Hid (w1.heap.size = c) := ⟨_, rfl⟩
        rw [Hb.out] at HA0 ⊢
        go_wp2_with fail
        go_loopw [6] (fun iv wr => ∃ (i : Nat) (own : Own) (x : Co) (n : Nat), i ≤ L.length ∧ iv = .int .i64 (i : Int) ∧ BdI w1 cb wr i own x n) (fun iv _ => L.length - (intOf iv).toNat)
        case atStart => exact ⟨0, own1, Co.none, 0, Nat.zero_le _, rfl, HA0.out⟩
        case round =>
          clear HA0
          obtain ⟨i, own, x, n, hi, rfl, hA⟩ := hrel
          by_cases hlt : i < L.length
          · obtain ⟨q, hox⟩ : ∃ q, L[i]? = some q := ⟨L[i], List.getElem?_eq_getElem hlt⟩
            obtain ⟨ob, oo, rfl, c0, c1, c2, c3, c4, c5, c6, c7, c8⟩ := (HL.out.keep3 hA.below).get hox
            have hlt' : (i : Int) < (L.length : Int) := by omega
            have hi4 : (i : Int) < 50 := by have := HN.out; omega
            have HO : Hid (q.Wide ∧ i < L.length) := ⟨HW.out q (List.mem_of_getElem? hox), hlt⟩
            have HA : Hid (BdI w1 cb wr i own x n) := hA
            clear hox hlt hA hi
            go_wp2_with (first | (go_at_call 7; refine (apply_at own _ cb x n HA.out.co q HO.out.1 HA.out.inv (by have := HA.out.n; have := HN.out; have := HO.out.2; omega)).mono ?_; rintro e w4 ⟨v4, own4, rfl, hO4, hl4, hC4, hS4⟩))
            have hn := HA.out.n
            have hoo := HO.out.2
            have hA4 : BdI w1 cb w4 (i + 1) own4 (x.apply q.ok q).2.2 (n + 1) := ⟨hC4, HA.out.inv.apply q.ok q, by omega, HA.out.ms.apply HA.out.inv q.ok q, HA.out.over.step hS4 HA.out.below.size, HA.out.below.trans (HA.out.over.below hS4 HA.out.below.size)⟩
            go_roundw
            case rel => exact ⟨i + 1, own4, _, n + 1, by omega, by go_num, hA4⟩
            case measure => simp [intOf]; omega
          · obtain rfl : i = L.length := by omega
            have HA : Hid (BdI w1 cb wr L.length own x n) := hA
            have hopw : wr.heap[pb]? = some (.cells o.cells 32 (0, 0)) := (hA.below.block pb hpb).trans HOP.out
            have HM : Hid (x.ms.length ≤ 50000) := by show x.ms.length ≤ 50000; have := hA.inv.ms; have := hA.n; have := HN.out; omega
            have hpw := Nat.lt_of_lt_of_le hpb hA.below.size
            clear hA hi hlt
            go_upto_region 11 with (first | (refine wpList_load_agg rfl 32 (by kernel_rfl) _ rfl pb o.cells 32 (0, 0) ?_ hopw (by kernel_rfl) ?_; rfl) | (refine wpList_alloc_row rfl 32 rfl opZ.cells (by kernel_rfl) ?_) | (refine wpList_store_whole rfl 32 _ _ rfl wr.heap.size o.cells opZ.cells ?_ ?_ 32 (alloc_blk _ _) (by kernel_rfl) o.all rfl ?_; rfl; rfl; intro w5 h5 hK5))
            have hB5 : Below wr.heap.size wr w5 := (below_alloc _ _).trans (hK5.below (Nat.le_refl _) (by simp))
            have HA5 : Hid (BdI w1 cb w5 L.length own x n) := HA.out.lay hB5
            have hop5 : w5.heap[pb]? = some (.cells o.cells 32 (0, 0)) := (hB5.block pb hpw).trans hopw
            have hqs := lt_blk h5
            obtain ⟨qb, Hqb⟩ : ∃ q, Hid (wr.heap.size = q) := ⟨_, rfl⟩
            rw [Hqb.out] at h5 hqs hB5 hpw ⊢
            have f50 : w5.frozen? ⟨qb, 0, none⟩ = false := frozen_blk h5 0
            have c50 : w5.cell? ⟨qb, 0, none⟩ = some (.int .i64 o.k) := cell_blk h5 0
            have hpq : pb ≠ qb := by omega
            have HB6 : Hid (Below qb wr (w5.setCell ⟨qb, 0, none⟩ (.int .i64 9))) := hB5.setCell (p := ⟨qb, 0, none⟩) (Nat.le_refl _) _
            have H6 : Hid ((w5.setCell ⟨qb, 0, none⟩ (.int .i64 9)).heap[qb]? = some (.cells o.bad9.cells 32 (0, 0))) := set_blk h5 0 _
            have HP6 : Hid ((w5.setCell ⟨qb, 0, none⟩ (.int .i64 9)).heap[pb]? = some (.cells o.cells 32 (0, 0))) := (set_blk_other 0 _ hpq).trans hop5
            have HBo : Hid (w1.heap.size ≤ qb) := by show w1.heap.size ≤ qb; rw [← Hqb.out]; exact HA.out.below.size
            have HQO : Hid (own qb = none ∧ own pb = none) := ⟨HA.out.co.owned.fresh (by rw [Hqb.out]; exact Nat.le_refl _), by
              cases hh : own pb with
              | none => rfl
              | some l => have := HA.out.over pb l hh; omega⟩
            clear hK5 hop5 hopw
            go_upto_region 12 with fail
            obtain ⟨W6, HW6⟩ : ∃ W, Hid (w5.setCell ⟨qb, 0, none⟩ (.int .i64 9) = W) := ⟨_, rfl⟩
            rw [HW6.out] at HB6 H6 HP6 ⊢
            have HA6 : Hid (BdI w1 cb W6 L.length own x n) := HA.out.lay (by rw [Hqb.out]; exact HB6.out)
            clear h5 f50 c50 hB5 HA5 HW6
            have hq6 := lt_blk H6.out
            have hp6 := lt_blk HP6.out
            go_upto_region 13 with (first | (go_at_call 14; refine (Sum_at own _ cb x HA6.out.co HM.out HA6.out.ms).mono ?_; rintro e w7 ⟨rfl, hB7⟩) | (go_at_call 15; refine (Now_at own _ cb x (HA6.out.co.below hB7)).mono ?_; rintro e w7' ⟨rfl, hw⟩; subst hw) | (refine wpList_alloc_hash rfl rfl ?_) | (refine wpList_put_hash rfl _ _ rfl w7'.heap.size (sha (mkBytes x.ms)) (fun _ => 0) ?_ ?_ 44 (alloc_blk _ _) ?_; rfl; rfl; intro w8 h8 hK8))
            have hB8 : Below W6.heap.size W6 w8 := hB7.trans (((below_alloc _ _).trans (hK8.below (Nat.le_refl _) (by simp))).mono hB7.size)
            have HA8 : Hid (BdI w1 cb w8 L.length own x n) := HA6.out.lay hB8
            have H8 : Hid (w8.heap[qb]? = some (.cells o.bad9.cells 32 (0, 0))) := (hB8.block qb hq6).trans H6.out
            have HP8 : Hid (w8.heap[pb]? = some (.cells o.cells 32 (0, 0))) := (hB8.block pb hp6).trans HP6.out
            have hqh : own w7'.heap.size = none := HA6.out.co.owned.fresh hB7.size
            have hqq : qb < w7'.heap.size := Nat.lt_of_lt_of_le hq6 hB7.size
            have hpq2 : pb < w7'.heap.size := Nat.lt_of_lt_of_le hp6 hB7.size
            obtain ⟨qh, Hqh⟩ : ∃ q, Hid (w7'.heap.size = q) := ⟨_, rfl⟩
            rw [Hqh.out] at h8 hqh hqq hpq2 ⊢
            have HH8 : Hid (own qh = none ∧ w8.heap[qh]? = some (.cells (row .u8 32 (sha (mkBytes x.ms))) 44 (0, 0))) := ⟨hqh, h8⟩
            clear hB7 hK8 h8 hB8 HA6 H6 HP6 hqh HA
            go_upto_region 14 with (first | (refine wpList_load_agg rfl 32 (by kernel_rfl) _ rfl qb o.bad9.cells 32 (0, 0) ?_ H8.out (by kernel_rfl) ?_; rfl) | (go_at_call 7; refine (apply_bad own _ cb x HA8.out.co o.bad9 (by have := HN.out.2; show o.n.size < 9223372036854775808; omega) (bad9_ok o)).mono ?_; rintro e w9 ⟨v9, own9, rfl, hO9, hl9, hC9, hS9⟩) | (refine wpList_alloc_row rfl 27 rfl (rpC rp0) (by kernel_rfl) ?_) | (refine wpList_store_whole rfl 27 _ _ rfl w9.heap.size (rpC (err 6)) (rpC rp0) ?_ ?_ 27 (alloc_blk _ _) (by kernel_rfl) (rpC_all _) rfl ?_; rfl; rfl; intro w10 h10 hK10))
            have hB10 : Below w9.heap.size w9 w10 := (below_alloc _ _).trans (hK10.below (Nat.le_refl _) (by simp))
            have hA10 : BdI w1 cb w10 L.length own9 x n := (HA8.out.step hC9 hS9).lay hB10
            have h9q := hS9.keep H8.out HQO.out.1
            have h9p := hS9.keep HP8.out HQO.out.2
            have h9h := hS9.keep HH8.out.2 HH8.out.1
            have h10q : w10.heap[qb]? = some (.cells o.bad9.cells 32 (0, 0)) := (hB10.block qb (lt_blk h9q)).trans h9q
            have h10p : w10.heap[pb]? = some (.cells o.cells 32 (0, 0)) := (hB10.block pb (lt_blk h9p)).trans h9p
            have HH10 : Hid (own9 qh = none ∧ w10.heap[qh]? = some (.cells (row .u8 32 (sha (mkBytes x.ms))) 44 (0, 0))) := ⟨hS9.unlab HH8.out.2 HH8.out.1, (hB10.block qh (lt_blk h9h)).trans h9h⟩
            have HQ9 : Hid (own9 qb = none ∧ own9 pb = none ∧ own9 w9.heap.size = none) := ⟨hS9.unlab H8.out HQO.out.1, hS9.unlab HP8.out HQO.out.2, hC9.owned.fresh (Nat.le_refl _)⟩
            obtain ⟨a9, k9, e9⟩ := hO9.form
            rw [List.length_nil] at e9
            subst e9
            obtain ⟨q1, Hq1⟩ : ∃ q, Hid (w9.heap.size = q) := ⟨_, rfl⟩
            have hne1 : qb ≠ w9.heap.size := fun e => (by have := lt_blk h9q; omega)
            rw [Hq1.out] at h10 HQ9 hne1 ⊢
            have c0 : w10.cell? ⟨pb, 0, none⟩ = some (.int .i64 o.k) := cell_blk h10p 0
            have d0 : w10.cell? ⟨qb, 0, none⟩ = some (.int .i64 9) := cell_blk h10q 0
            have d1 : w10.cell? ⟨qb, 1, none⟩ = some (.int .i64 o.c) := cell_blk h10q 1
            have g0 : w10.frozen? ⟨qb, 0, none⟩ = false := frozen_blk h10q 0
            have g1 : w10.frozen? ⟨qb, 1, none⟩ = false := frozen_blk h10q 1
            have HA10 : Hid (BdI w1 cb w10 L.length own9 x n) := hA10
            have hne2 : qh ≠ q1 := fun e => (by have := lt_blk h9h; rw [Hq1.out] at this; omega)
            have hne3 : pb ≠ q1 := fun e => (by have := lt_blk h9p; rw [Hq1.out] at this; omega)
            have HR10 : Hid (w10.heap[q1]? = some (.cells (rpC (err 6)) 27 (0, 0))) := h10
            clear hB10 hA10 h9q h9p h9h hO9 hl9 hC9 hS9 hK10 HA8 H8 HP8 HH8 h10
            go_upto_region 15 with fail
            obtain ⟨W11, HW11⟩ : ∃ W, Hid ((w10.setCell ⟨qb, 0, none⟩ (.int .i64 o.k)).setCell ⟨qb, 1, none⟩ (.int .i64 16) = W) := ⟨_, rfl⟩
            have hF11 : Frm (· = qb) w10 W11 := by rw [← HW11.out]; exact (Frm.setCell _ _ _ _).trans (Frm.setCell _ _ _ _)
            have H11 : Hid (W11.heap[qb]? = some (.cells o.bad16.cells 32 (0, 0))) := by show W11.heap[qb]? = _; rw [← HW11.out]; exact set_blk (set_blk h10q 0 _) 1 _
            have HH11 : Hid (own9 qh = none ∧ W11.heap[qh]? = some (.cells (row .u8 32 (sha (mkBytes x.ms))) 44 (0, 0))) := ⟨HH10.out.1, (hF11.block qh (lt_blk HH10.out.2) (by omega)).trans HH10.out.2⟩
            have HR11 : Hid (W11.heap[q1]? = some (.cells (rpC (err 6)) 27 (0, 0))) := (hF11.block q1 (lt_blk HR10.out) (by omega)).trans HR10.out
            have hlow : NoLow w10 qb := fun z => ⟨fun e => (by rw [cell_blk h10q 3] at e; simp [OpF.cells, opC] at e), fun e => (by rw [cell_blk h10q 5] at e; simp [OpF.cells, opC] at e)⟩
            have HA11 : Hid (BdI w1 cb W11 L.length own9 x n) := ⟨HA10.out.co.turn (hF11.mono fun k _ e => by rw [e]; exact ⟨HQ9.out.1, hlow⟩), HA10.out.inv, HA10.out.n, HA10.out.ms, HA10.out.over, HA10.out.below.trans (hF11.below HA10.out.below.size fun k hk e => by have := HBo.out; omega)⟩
            rw [HW11.out]
            clear HW11 hF11 hlow HA10 HR10 HH10 h10q h10p c0 d0 d1 g0 g1
            go_upto_region 16 with (first | (refine wpList_load_agg rfl 32 (by kernel_rfl) _ rfl qb o.bad16.cells 32 (0, 0) ?_ H11.out (by kernel_rfl) ?_; rfl) | (go_at_call 7; refine (apply_bad own9 _ cb x HA11.out.co o.bad16 (by have := HN.out.2; show o.n.size < 9223372036854775808; omega) (bad16_ok o)).mono ?_; rintro e w12 ⟨v12, own12, rfl, hO12, hl12, hC12, hS12⟩) | (refine wpList_alloc_row rfl 27 rfl (rpC rp0) (by kernel_rfl) ?_) | (refine wpList_store_whole rfl 27 _ _ rfl w12.heap.size (rpC (err 6)) (rpC rp0) ?_ ?_ 27 (alloc_blk _ _) (by kernel_rfl) (rpC_all _) rfl ?_; rfl; rfl; intro w13 h13 hK13))
            have hB13 : Below w12.heap.size w12 w13 := (below_alloc _ _).trans (hK13.below (Nat.le_refl _) (by simp))
            have HA13 : Hid (BdI w1 cb w13 L.length own12 x n) := (HA11.out.step hC12 hS12).lay hB13
            have h12h := hS12.keep HH11.out.2 HH11.out.1
            have h12r := hS12.keep HR11.out HQ9.out.2.2
            have HH13 : Hid (w13.heap[qh]? = some (.cells (row .u8 32 (sha (mkBytes x.ms))) 44 (0, 0))) := (hB13.block qh (lt_blk h12h)).trans h12h
            have HR13 : Hid (w13.heap[q1]? = some (.cells (rpC (err 6)) 27 (0, 0))) := (hB13.block q1 (lt_blk h12r)).trans h12r
            have HS13 : Hid (w13.heap[w12.heap.size]? = some (.cells (rpC (err 6)) 27 (0, 0))) := h13
            obtain ⟨a12, k12, e12⟩ := hO12.form
            rw [List.length_nil] at e12
            subst e12
            obtain ⟨q2, Hq2⟩ : ∃ q, Hid (w12.heap.size = q) := ⟨_, rfl⟩
            rw [Hq2.out] at HS13 ⊢
            have lh := lt_blk HH13.out
            have lr := lt_blk HR13.out
            have ls := lt_blk HS13.out
            have hbt := HA13.out.below
            clear hB13 h12h h12r hO12 hl12 hC12 hS12 hK13 HA11 H11 HH11 HR11 h13
            refine wp_region_growG (by kernel_rfl) (by kernel_rfl) (fun xS => { tmps := (Value.slice a L.length cap :: Value.agg o.cells :: undef :: Value.pointer (some (⟨pb, 0, none⟩ : Addr)) :: xS 31 :: Value.pointer (some (⟨cb, 0, none⟩ : Addr)) :: Value.int IntKind.i64 (L.length : Int) :: Value.pointer (some (⟨qb, 0, none⟩ : Addr)) :: Value.pointer (some (⟨qh, 0, none⟩ : Addr)) :: Value.int IntKind.i64 x.now :: Value.pointer (some (⟨q1, 0, none⟩ : Addr)) :: Value.slice a9 0 k9 :: Value.pointer (some (⟨q2, 0, none⟩ : Addr)) :: Value.slice a12 0 k12 :: Value.slice a L.length cap :: Value.bool false :: Value.bool false :: Value.slice a L.length cap :: Value.int IntKind.i64 (L.length : Int) :: Value.bool (decide (30 < (L.length : Int))) :: Value.bool (decide (30 < (L.length : Int))) :: Value.bool (decide (30 < (L.length : Int))) :: Value.pointer (some (⟨pb, 3, none⟩ : Addr)) :: Value.string o.n :: Value.int IntKind.i64 (o.n.size : Int) :: Value.bool (decide (60 < (o.n.size : Int))) :: Value.bool (decide (30 < (L.length : Int)) || decide (60 < (o.n.size : Int))) :: Value.pointer (some (⟨cb, 0, none⟩ : Addr)) :: Value.pointer (some (⟨cb, 0, none⟩ : Addr)) :: Value.bool false :: Value.int IntKind.i64 (L.length : Int) :: Value.slice a L.length cap :: Value.int IntKind.i64 (L.length : Int) :: Value.bool false :: u34 :: u35 :: u36 :: u37 :: u38 :: u39 :: u40 :: u41 :: Value.agg o.cells :: Value.pointer (some (⟨qb, 0, none⟩ : Addr)) :: Value.pointer (some (⟨cb, 0, none⟩ : Addr)) :: Value.agg (row IntKind.u8 32 (sha (mkBytes x.ms))) :: Value.pointer (some (⟨cb, 0, none⟩ : Addr)) :: Value.int IntKind.i64 x.now :: Value.tuple #[Value.agg (rpC (err 6)), Value.slice a9 0 k9] :: Value.pointer (some (⟨cb, 0, none⟩ : Addr)) :: Value.agg o.bad9.cells :: Value.tuple #[Value.agg (rpC (err 6)), Value.slice a9 0 k9] :: Value.agg (rpC (err 6)) :: Value.slice a9 0 k9 :: Value.pointer (some (⟨pb, 0, none⟩ : Addr)) :: Value.int IntKind.i64 o.k :: Value.pointer (some (⟨qb, 0, none⟩ : Addr)) :: Value.pointer (some (⟨qb, 1, none⟩ : Addr)) :: Value.tuple #[Value.agg (rpC (err 6)), Value.slice a12 0 k12] :: Value.pointer (some (⟨cb, 0, none⟩ : Addr)) :: Value.agg o.bad16.cells :: Value.tuple #[Value.agg (rpC (err 6)), Value.slice a12 0 k12] :: Value.agg (rpC (err 6)) :: Value.slice a12 0 k12 :: xS 0 :: xS 1 :: xS 2 :: xS 3 :: xS 4 :: xS 5 :: xS 6 :: xS 7 :: xS 8 :: xS 9 :: xS 10 :: xS 11 :: xS 12 :: xS 13 :: xS 14 :: xS 15 :: xS 16 :: xS 17 :: xS 18 :: xS 19 :: xS 20 :: xS 21 :: xS 22 :: xS 23 :: xS 24 :: xS 25 :: xS 26 :: xS 27 :: xS 28 :: xS 29 :: xS 30 :: []).toArray, defers := [] })
              (fun ii xx WW => match ii with | 0 => xx = .agg (rpC (err 6)) | 1 => xx = .agg (rpC (err 6)) | 2 => xx = .bool true | 3 => xx = .bool true | 4 => xx = .agg (rpC (err 6)) | 5 => xx = .agg (rpC (err 6)) | 6 => xx = .bool true | 7 => xx = .bool true | 8 => xx = .bool true | 9 => xx = Value.slice a9 0 k9 | 10 => xx = .int .i64 0 | 11 => xx = Value.slice a12 0 k12 | 12 => xx = .int .i64 0 | 13 => xx = .int .i64 0 | 14 => xx = .bool true | 15 => xx = .bool true | 16 => xx = .bool true | 17 => xx = Value.pointer (some (⟨cb, 0, none⟩ : Addr)) | 18 => xx = .agg (row .u8 32 (sha (mkBytes x.ms))) | 19 => xx = .agg (row .u8 32 (sha (mkBytes x.ms))) | 20 => xx = .bool true | 21 => xx = .bool true | 22 => xx = .bool true | 23 => xx = Value.pointer (some (⟨cb, 0, none⟩ : Addr)) | 24 => xx = .int .i64 x.now | 25 => xx = Value.int IntKind.i64 x.now | 26 => xx = .bool true | 27 => xx = .bool true | 28 => xx = .bool true | 29 => xx = .bool true | 30 => xx = .bool true | 31 => xx = .bool true | _ => True) (fun | 0 => undef | 1 => undef | 2 => undef | 3 => undef | 4 => undef | 5 => undef | 6 => undef | 7 => undef | 8 => undef | 9 => undef | 10 => undef | 11 => undef | 12 => undef | 13 => undef | 14 => undef | 15 => undef | 16 => undef | 17 => undef | 18 => undef | 19 => undef | 20 => undef | 21 => undef | 22 => undef | 23 => undef | 24 => undef | 25 => undef | 26 => undef | 27 => undef | 28 => undef | 29 => undef | 30 => undef | 31 => Value.bool false | _ => undef) (by repeat (first | exact trivial | refine ⟨fun _ _ => rfl, ?_⟩)) (fun _ _ _ _ _ h => h) ⟨?_, ?_, ?_, ?_, ?_, ?_, ?_, ?_, ?_, ?_, ?_, ?_, ?_, ?_, ?_, ?_, ?_, ?_, ?_, ?_, ?_, ?_, ?_, ?_, ?_, ?_, ?_, ?_, ?_, ?_, ?_, ?_, trivial⟩ ?_
            · intro xS W hB hp K hK
              rw [if_pos (wanted_none rfl _)]
              clear hp
              refine wp_load_agg 27 (by kernel_rfl) _ rfl q1 (rpC (err 6)) 27 (0, 0) ?_ ((hB.block q1 lr).trans HR13.out) (by kernel_rfl) ?_
              · rfl
              exact hK _ _ (Below.refl _ _) rfl
            · intro xS W hB hp K hK
              rw [if_pos (wanted_none rfl _)]
              clear hp
              refine wp_build_to 27 _ rfl (rpC (err 6)) (by kernel_rfl) ?_
              exact hK _ _ (Below.refl _ _) rfl
            · intro xS W hB hp K hK
              rw [if_pos (wanted_none rfl _)]
              have h0 : xS 0 = .agg (rpC (err 6)) := hp.1 rfl
              have h1 : xS 1 = .agg (rpC (err 6)) := hp.2.1 rfl
              clear hp
              have heq := equal_rp (err 6) (err 6)
              rw [rpE_self] at heq
              simp only [h0, h1] at hK ⊢
              clear h0 h1
              go_simp
              exact hK _ _ (Below.refl _ _) rfl
            · intro xS W hB hp K hK
              rw [if_pos (wanted_none rfl _)]
              have h2 : xS 2 = .bool true := hp.1 rfl
              clear hp
              simp only [h2] at hK ⊢
              clear h2
              go_simp
              exact hK _ _ (Below.refl _ _) rfl
            · intro xS W hB hp K hK
              have hgd : xS 3 = .bool true := hp.1 rfl
              rw [wanted_g (b := true) rfl (by show (match some (xS 3) with | some (.bool b) => some b | _ => none) = some true; rw [hgd])]
              rw [if_pos (show (true == true) = true from rfl)]
              clear hgd
              clear hp
              refine wp_load_agg 27 (by kernel_rfl) _ rfl q2 (rpC (err 6)) 27 (0, 0) ?_ ((hB.block q2 ls).trans HS13.out) (by kernel_rfl) ?_
              · rfl
              exact hK _ _ (Below.refl _ _) rfl
            · intro xS W hB hp K hK
              have hgd : xS 3 = .bool true := hp.1 rfl
              rw [wanted_g (b := true) rfl (by show (match some (xS 3) with | some (.bool b) => some b | _ => none) = some true; rw [hgd])]
              rw [if_pos (show (true == true) = true from rfl)]
              clear hgd
              clear hp
              refine wp_load_agg 27 (by kernel_rfl) _ rfl q1 (rpC (err 6)) 27 (0, 0) ?_ ((hB.block q1 lr).trans HR13.out) (by kernel_rfl) ?_
              · rfl
              exact hK _ _ (Below.refl _ _) rfl
            · intro xS W hB hp K hK
              have hgd : xS 3 = .bool true := hp.2.2.1 rfl
              rw [wanted_g (b := true) rfl (by show (match some (xS 3) with | some (.bool b) => some b | _ => none) = some true; rw [hgd])]
              rw [if_pos (show (true == true) = true from rfl)]
              clear hgd
              have h4 : xS 4 = .agg (rpC (err 6)) := hp.1 rfl
              have h5 : xS 5 = .agg (rpC (err 6)) := hp.2.1 rfl
              clear hp
              have heq := equal_rp (err 6) (err 6)
              rw [rpE_self] at heq
              simp only [h4, h5] at hK ⊢
              clear h4 h5
              go_simp
              exact hK _ _ (Below.refl _ _) rfl
            · intro xS W hB hp K hK
              rw [if_pos (wanted_none rfl _)]
              have h3 : xS 3 = .bool true := hp.1 rfl
              have h6 : xS 6 = .bool true := hp.2.1 rfl
              clear hp
              simp only [h3, h6] at hK ⊢
              clear h3 h6
              go_simp
              exact hK _ _ (Below.refl _ _) rfl
            · intro xS W hB hp K hK
              rw [if_pos (wanted_none rfl _)]
              have h7 : xS 7 = .bool true := hp.1 rfl
              clear hp
              simp only [h7] at hK ⊢
              clear h7
              go_simp
              exact hK _ _ (Below.refl _ _) rfl
            · intro xS W hB hp K hK
              have hgd : xS 8 = .bool true := hp.1 rfl
              rw [wanted_g (b := true) rfl (by show (match some (xS 8) with | some (.bool b) => some b | _ => none) = some true; rw [hgd])]
              rw [if_pos (show (true == true) = true from rfl)]
              clear hgd
              clear hp
              go_simp
              exact hK _ _ (Below.refl _ _) rfl
            · intro xS W hB hp K hK
              have hgd : xS 8 = .bool true := hp.2.1 rfl
              rw [wanted_g (b := true) rfl (by show (match some (xS 8) with | some (.bool b) => some b | _ => none) = some true; rw [hgd])]
              rw [if_pos (show (true == true) = true from rfl)]
              clear hgd
              have h9 : xS 9 = Value.slice a9 0 k9 := hp.1 rfl
              clear hp
              simp only [h9] at hK ⊢
              clear h9
              go_simp
              exact hK _ _ (Below.refl _ _) rfl
            · intro xS W hB hp K hK
              have hgd : xS 8 = .bool true := hp.1 rfl
              rw [wanted_g (b := true) rfl (by show (match some (xS 8) with | some (.bool b) => some b | _ => none) = some true; rw [hgd])]
              rw [if_pos (show (true == true) = true from rfl)]
              clear hgd
              clear hp
              go_simp
              exact hK _ _ (Below.refl _ _) rfl
            · intro xS W hB hp K hK
              have hgd : xS 8 = .bool true := hp.2.1 rfl
              rw [wanted_g (b := true) rfl (by show (match some (xS 8) with | some (.bool b) => some b | _ => none) = some true; rw [hgd])]
              rw [if_pos (show (true == true) = true from rfl)]
              clear hgd
              have h11 : xS 11 = Value.slice a12 0 k12 := hp.1 rfl
              clear hp
              simp only [h11] at hK ⊢
              clear h11
              go_simp
              exact hK _ _ (Below.refl _ _) rfl
            · intro xS W hB hp K hK
              have hgd : xS 8 = .bool true := hp.2.2.1 rfl
              rw [wanted_g (b := true) rfl (by show (match some (xS 8) with | some (.bool b) => some b | _ => none) = some true; rw [hgd])]
              rw [if_pos (show (true == true) = true from rfl)]
              clear hgd
              have h10 : xS 10 = .int .i64 0 := hp.1 rfl
              have h12 : xS 12 = .int .i64 0 := hp.2.1 rfl
              clear hp
              simp only [h10, h12] at hK ⊢
              clear h10 h12
              go_simp
              exact hK _ _ (Below.refl _ _) rfl
            · intro xS W hB hp K hK
              have hgd : xS 8 = .bool true := hp.2.1 rfl
              rw [wanted_g (b := true) rfl (by show (match some (xS 8) with | some (.bool b) => some b | _ => none) = some true; rw [hgd])]
              rw [if_pos (show (true == true) = true from rfl)]
              clear hgd
              have h13 : xS 13 = .int .i64 0 := hp.1 rfl
              clear hp
              simp only [h13] at hK ⊢
              clear h13
              go_simp
              exact hK _ _ (Below.refl _ _) rfl
            · intro xS W hB hp K hK
              rw [if_pos (wanted_none rfl _)]
              have h8 : xS 8 = .bool true := hp.1 rfl
              have h14 : xS 14 = .bool true := hp.2.1 rfl
              clear hp
              simp only [h8, h14] at hK ⊢
              clear h8 h14
              go_simp
              exact hK _ _ (Below.refl _ _) rfl
            · intro xS W hB hp K hK
              rw [if_pos (wanted_none rfl _)]
              have h15 : xS 15 = .bool true := hp.1 rfl
              clear hp
              simp only [h15] at hK ⊢
              clear h15
              go_simp
              exact hK _ _ (Below.refl _ _) rfl
            · intro xS W hB hp K hK
              have hgd : xS 16 = .bool true := hp.1 rfl
              rw [wanted_g (b := true) rfl (by show (match some (xS 16) with | some (.bool b) => some b | _ => none) = some true; rw [hgd])]
              rw [if_pos (show (true == true) = true from rfl)]
              clear hgd
              clear hp
              go_simp
              exact hK _ _ (Below.refl _ _) rfl
            · intro xS W hB hp K hK
              have hgd : xS 16 = .bool true := hp.2.1 rfl
              rw [wanted_g (b := true) rfl (by show (match some (xS 16) with | some (.bool b) => some b | _ => none) = some true; rw [hgd])]
              rw [if_pos (show (true == true) = true from rfl)]
              clear hgd
              have h17 : xS 17 = Value.pointer (some (⟨cb, 0, none⟩ : Addr)) := hp.1 rfl
              clear hp
              simp only [h17] at hK ⊢
              clear h17
              go_simp
              refine (Sum_at own12 _ cb x (HA13.out.co.below hB) HM.out HA13.out.ms).mono ?_
              rintro e w' ⟨rfl, hB'⟩
              exact hK _ _ hB' rfl
            · intro xS W hB hp K hK
              have hgd : xS 16 = .bool true := hp.1 rfl
              rw [wanted_g (b := true) rfl (by show (match some (xS 16) with | some (.bool b) => some b | _ => none) = some true; rw [hgd])]
              rw [if_pos (show (true == true) = true from rfl)]
              clear hgd
              clear hp
              refine wp_load_agg 44 (by kernel_rfl) _ rfl qh (row .u8 32 (sha (mkBytes x.ms))) 44 (0, 0) ?_ ((hB.block qh lh).trans HH13.out) (row_info size_hash _) ?_
              · rfl
              exact hK _ _ (Below.refl _ _) rfl
            · intro xS W hB hp K hK
              have hgd : xS 16 = .bool true := hp.2.2.1 rfl
              rw [wanted_g (b := true) rfl (by show (match some (xS 16) with | some (.bool b) => some b | _ => none) = some true; rw [hgd])]
              rw [if_pos (show (true == true) = true from rfl)]
              clear hgd
              have h18 : xS 18 = .agg (row .u8 32 (sha (mkBytes x.ms))) := hp.1 rfl
              have h19 : xS 19 = .agg (row .u8 32 (sha (mkBytes x.ms))) := hp.2.1 rfl
              clear hp
              have heq := equalIn_hash (sha (mkBytes x.ms)) (sha (mkBytes x.ms))
              rw [rowEq_self] at heq
              simp only [h18, h19] at hK ⊢
              clear h18 h19
              go_simp
              exact hK _ _ (Below.refl _ _) rfl
            · intro xS W hB hp K hK
              rw [if_pos (wanted_none rfl _)]
              have h16 : xS 16 = .bool true := hp.1 rfl
              have h20 : xS 20 = .bool true := hp.2.1 rfl
              clear hp
              simp only [h16, h20] at hK ⊢
              clear h16 h20
              go_simp
              exact hK _ _ (Below.refl _ _) rfl
            · intro xS W hB hp K hK
              rw [if_pos (wanted_none rfl _)]
              have h21 : xS 21 = .bool true := hp.1 rfl
              clear hp
              simp only [h21] at hK ⊢
              clear h21
              go_simp
              exact hK _ _ (Below.refl _ _) rfl
            · intro xS W hB hp K hK
              have hgd : xS 22 = .bool true := hp.1 rfl
              rw [wanted_g (b := true) rfl (by show (match some (xS 22) with | some (.bool b) => some b | _ => none) = some true; rw [hgd])]
              rw [if_pos (show (true == true) = true from rfl)]
              clear hgd
              clear hp
              go_simp
              exact hK _ _ (Below.refl _ _) rfl
            · intro xS W hB hp K hK
              have hgd : xS 22 = .bool true := hp.2.1 rfl
              rw [wanted_g (b := true) rfl (by show (match some (xS 22) with | some (.bool b) => some b | _ => none) = some true; rw [hgd])]
              rw [if_pos (show (true == true) = true from rfl)]
              clear hgd
              have h23 : xS 23 = Value.pointer (some (⟨cb, 0, none⟩ : Addr)) := hp.1 rfl
              clear hp
              simp only [h23] at hK ⊢
              clear h23
              go_simp
              refine (Now_at own12 _ cb x (HA13.out.co.below hB)).mono ?_
              rintro e w' ⟨rfl, hw⟩
              subst hw
              exact hK _ _ (Below.refl _ _) rfl
            · intro xS W hB hp K hK
              have hgd : xS 22 = .bool true := hp.1 rfl
              rw [wanted_g (b := true) rfl (by show (match some (xS 22) with | some (.bool b) => some b | _ => none) = some true; rw [hgd])]
              rw [if_pos (show (true == true) = true from rfl)]
              clear hgd
              clear hp
              go_simp
              exact hK _ _ (Below.refl _ _) rfl
            · intro xS W hB hp K hK
              have hgd : xS 22 = .bool true := hp.2.2.1 rfl
              rw [wanted_g (b := true) rfl (by show (match some (xS 22) with | some (.bool b) => some b | _ => none) = some true; rw [hgd])]
              rw [if_pos (show (true == true) = true from rfl)]
              clear hgd
              have h24 : xS 24 = .int .i64 x.now := hp.1 rfl
              have h25 : xS 25 = Value.int IntKind.i64 x.now := hp.2.1 rfl
              clear hp
              simp only [h24, h25] at hK ⊢
              clear h24 h25
              go_simp
              exact hK _ _ (Below.refl _ _) rfl
            · intro xS W hB hp K hK
              rw [if_pos (wanted_none rfl _)]
              have h22 : xS 22 = .bool true := hp.1 rfl
              have h26 : xS 26 = .bool true := hp.2.1 rfl
              clear hp
              simp only [h22, h26] at hK ⊢
              clear h22 h26
              go_simp
              exact hK _ _ (Below.refl _ _) rfl
            · intro xS W hB hp K hK
              rw [if_pos (wanted_none rfl _)]
              have h27 : xS 27 = .bool true := hp.1 rfl
              clear hp
              simp only [h27] at hK ⊢
              clear h27
              go_simp
              exact hK _ _ (Below.refl _ _) rfl
            · intro xS W hB hp K hK
              have hgd : xS 28 = .bool true := hp.1 rfl
              rw [wanted_g (b := true) rfl (by show (match some (xS 28) with | some (.bool b) => some b | _ => none) = some true; rw [hgd])]
              rw [if_pos (show (true == true) = true from rfl)]
              clear hgd
              clear hp
              go_simp
              refine (known_at _).mono ?_
              rintro e w' ⟨rfl, hB'⟩
              exact hK _ _ hB' rfl
            · intro xS W hB hp K hK
              rw [if_pos (wanted_none rfl _)]
              have h28 : xS 28 = .bool true := hp.1 rfl
              have h29 : xS 29 = .bool true := hp.2.1 rfl
              clear hp
              simp only [h28, h29] at hK ⊢
              clear h28 h29
              go_simp
              exact hK _ _ (Below.refl _ _) rfl
            · intro xS W hB hp K hK
              rw [if_pos (wanted_none rfl _)]
              have h30 : xS 30 = .bool true := hp.1 rfl
              clear hp
              simp only [h30] at hK ⊢
              clear h30
              go_simp
              exact hK _ _ (Below.refl _ _) rfl
            intro xS W3 hB3 hs
            have h31 : xS 31 = .bool true := hs 31 (by simp)
            clear hs
            simp only [h31]
            go_wp2_with fail
            go_ret
            exact ⟨rfl, by rw [Hpb.out]; exact HB0.out.trans ((hbt.trans (hB3.mono hbt.size)).mono (by omega))⟩
  · go_wp2_with (refine wanted_do rfl fun _ _ => ?_)
    go_ret
    exact ⟨rfl, by rw [Hpb.out]; exact HB0.out⟩
end Go.Proofs.Ytoihfhlelbdboab
namespace Go.Proofs.Ytoihfhlelbdboab.coordBad
open Go.ChangeShapes Go.WideShapes Go.ChangeAt Go.RowKit Go.Dig
open Go.ChangeMaps (open_string shut_string)
set_option linter.unusedVariables false

theorem laidOut : laidOutB Try.prog = true := by kernel_rfl
theorem own : ownKnob Try.prog.godebug = none := by kernel_rfl

set_option maxRecDepth 100000 in
theorem lifted (os : Os) (started : os.Started) (H : Type) (enc : TypeId × Value → H) :
    ReturnsInHanded {} Try.checked os 5 .any (Rows.coordBadSpec.pre6 enc Try.prog Try.f5 Rows.coordBadRow.domain false) (Rows.coordBadSpec.post enc Try.prog Try.f5 false true false false) := by
  refine returnsInHanded_of_change (C := Try.checked) own started (by kernel_rfl) Try.func5
    (ChangeSpec.witness6 (enc := enc) (C := Try.checked) false ⟨#[], #[.slice none 0 0, .agg #[.int .i64 0, .int .i64 0, .int .i64 0, .string ⟨#[]⟩, .int .i64 0, .int .i64 0, .int .i64 0, .int .i64 0, .bool false]], []⟩ 8 (by kernel_rfl) (by kernel_rfl) (by kernel_rfl) (by kernel_rfl)) ?_
  intro W base args ds gs before hval0 hW hcnd _
  have hval : ∀ (j : Nat) t v, Try.f5.params[j]? = some t → args[j]? = some v → Value.okWide Try.prog W .any base t v := hval0
  have hW' := hW
  obtain ⟨p, q, hA0, hV, rfl, hfz, hnd⟩ := hW
  have hA : DataW.TrodAll enc Try.prog W 0 (fun _ => true) true Try.f5.params.toList args.toList ds p := hA0
  rw [Try.params5] at hA hval
  obtain ⟨v0, vs0, d0, ds0, p0, q0, hargs, rfl, rfl, h0, r0⟩ := trodAll_cons hA
  obtain ⟨v1, vs1, d1, ds1, p1, q1, rfl, rfl, rfl, h1, r1⟩ := trodAll_cons r0
  obtain ⟨rfl, rfl, rfl⟩ := trodAll_nil r1
  obtain rfl : args = #[v0, v1] := by cases args; simp_all
  obtain ⟨rfl, rfl⟩ := trodVars_none hV
  have k0 := h0
  have lt0 : ∀ x ∈ p0, x.block < W.heap.size := by obtain ⟨m, hm⟩ := k0; exact DataW.trod_lt m _ _ _ hm
  obtain ⟨o0, len0, c0, rfl⟩ := okWide_slice Try.underlying40 (hval 0 40 v0 rfl rfl)
  obtain ⟨L0, rfl, l0, y0⟩ : ∃ L : List OpF, len0 = L.length ∧ OpsAt W o0 L ∧ ∀ y ∈ L, y.Wide := by
    obtain ⟨fuel, hf⟩ := h0
    exact ops_cells hf
  have k1 := h1
  have lt1 : ∀ x ∈ p1, x.block < W.heap.size := by obtain ⟨m, hm⟩ := k1; exact DataW.trod_lt m _ _ _ hm
  obtain ⟨k1k, k1c, k1s, k1n, k1p, k1e, k1t, k1r, k1b, rfl, j1⟩ := open_op (hval 1 32 v1 rfl rfl) h1
  clear hA0 hval0
  refine (Bad_law W o0 c0 L0 ⟨k1k, k1c, k1s, k1n, k1p, k1e, k1t, k1r, k1b⟩ l0 y0).mono fun e W' ⟨he, bel⟩ => ?_
  subst he
  exact ⟨_, rfl, _, _, _, [], _, [], hW', trodAll_mk1 (shut_bool Try.underlying4 _), (trodAll_cons_mk (Below.trod laidOut (by kernel_rfl) (of_decide_eq_true (by kernel_rfl)) k0 bel lt0) (trodAll_cons_mk (Below.trod laidOut (by kernel_rfl) (of_decide_eq_true (by kernel_rfl)) k1 bel lt1) trodAll_mk0)), rfl, bel.frame _, fun h => by cases h⟩

theorem over : Rows.coordBadRow.holds Try.pinned (OpenSpec.ofChange Rows.coordBadSpec) :=
  OpenClaim.holds_of_wide 5 Try.f5 rfl rfl rfl rfl rfl rfl rfl ⟨rfl, rfl, rfl, rfl, rfl⟩ rfl rfl rfl rfl rfl (by kernel_rfl) Try.func5 (by kernel_rfl)
    (of_decide_eq_true (by kernel_rfl)) (by unfold Func.isWrapper; first | (rw [if_pos (by decide +kernel)]; kernel_rfl) | (rw [if_neg (by decide +kernel)]; exact ⟨rfl, rfl⟩))
    (fun os started H enc _ => lifted os started H enc)

theorem proved : Rows.CoordBadSaid := over
#print axioms proved
end Go.Proofs.Ytoihfhlelbdboab.coordBad
