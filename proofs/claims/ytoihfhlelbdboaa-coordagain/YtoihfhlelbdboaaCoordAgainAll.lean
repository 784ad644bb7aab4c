/- coord: operations that were applied ahead are answered as then, and mark nothing. For every row of operations. -/
import Derived.Test.YtoihfhlelbdboaaAgLow
import Derived.Test.YtoihfhlelbdboaaDigAll
import Derived.Test.YtoihfhlelbdboaaWireB
namespace Go.Proofs.Ytoihfhlelbdboaa
open Go.RowKit Go.Dig Go.Inv Go.Oct Go.Hold
open Go.Sha
set_option linter.unusedVariables false
set_option linter.unusedSimpArgs false

theorem heap_setRow_other (w : World) {g k : Nat} (c : Array Value) (h : k ≠ g) : (w.setRow g c).heap[k]? = w.heap[k]? := by
  simp only [World.setRow, Array.getElem?_modify]; rw [if_neg (Ne.symm h)]
section
variable {ops : Array Oper} {rest : List Oper} {o : Oper} {a : Act} {w : World} {Q : Exit → Act → World → Prop}
theorem wpList_alloc_hash (hgd : o.guard = none) (ho : o.op = .alloc 45) (h : wpList Try.prog ops Q rest (a.put o.dst (.pointer (some ⟨w.heap.size, 0, none⟩))) (w.alloc (.cells (row .u8 32 (fun _ => 0)) 45))) :
    wpList Try.prog ops Q (o :: rest) a w := wpList_alloc_row hgd 45 ho _ zero_hash h
theorem wpList_put_hash (hgd : o.guard = none) (x y : Operand) (ho : o.op = .store 45 x y) (g : Nat) (f old : Nat → Int) (hx : a.eval x = .pointer (some ⟨g, 0, none⟩)) (hy : a.eval y = .agg (row .u8 32 f)) (t : TypeId) (hg : w.heap[g]? = some (.cells (row .u8 32 old) t (0, 0)))
    (h : ∀ w', w'.heap[g]? = some (.cells (row .u8 32 f) t (0, 0)) → Keeps g w w' → wpList Try.prog ops Q rest (a.put o.dst undef) w') : wpList Try.prog ops Q (o :: rest) a w :=
  wpList_store_blk hgd 45 x y ho g _ hx hy t _ hg (row_info size_hash _) (by rw [row_size, row_size]) (row_all _ _ _) (h _ (setRow_at hg _) ⟨rfl, rfl, rfl, by simp, fun k _ hk => heap_setRow_other _ _ hk⟩)
/-- a mark is read out of a row -/
theorem wpList_load_mkAt (hgd : o.guard = none) (x : Operand) (ho : o.op = .load 36 x) (g off : Nat) (m : Mk) (hx : a.eval x = .pointer (some ⟨g, off, none⟩)) (hc : ∀ i u, m.cells[i]? = some u → w.cell? ⟨g, off + i, none⟩ = some u)
    (h : wpList Try.prog ops Q rest (a.put o.dst (.agg m.cells)) w) : wpList Try.prog ops Q (o :: rest) a w :=
  wpList_plain hgd fun K hK => by
    obtain ⟨d, hd1, hd2⟩ := row_of (ty := 36) (by kernel_rfl)
    refine wp_load_mid 36 x ho g off hx m.cells.toList d (fun j v hv => hc j v (by simpa using hv)) hd1 hd2 (by kernel_rfl) ?_
    have := hK _ _ h
    simpa using this
end
theorem mkCs_get : ∀ {L : List Mk} {j i : Nat} {m : Mk} {u : Value}, L[j]? = some m → i < 4 → m.cells[i]? = some u → (mkC L)[j * 4 + i]? = some u
  | [], j, i, m, u, h, _, _ => by simp at h
  | a :: r, 0, i, m, u, h, hi, hu => by
    simp at h
    subst h
    have e : mkC (a :: r) = a.cells.toList ++ mkC r := rfl
    rw [e, Nat.zero_mul, Nat.zero_add, List.getElem?_append_left (by simp [Mk.cells]; omega), Array.getElem?_toList]
    exact hu
  | a :: r, j + 1, i, m, u, h, hi, hu => by
    simp at h
    have e : mkC (a :: r) = a.cells.toList ++ mkC r := rfl
    have hl : a.cells.toList.length = 4 := by simp [Mk.cells]
    rw [e, List.getElem?_append_right (by omega), hl, show (j + 1) * 4 + i - 4 = j * 4 + i by omega]
    exact mkCs_get h hi hu
/-- a row of marks, mark by mark -/
theorem OwnM.atC {w : World} {base : Nat} {v : Value} {L : List Mk} (h : OwnM w base v L) (hn : 0 < L.length) : ∃ g c, v = .slice (some ⟨g, 0, none⟩) L.length c ∧ base ≤ g ∧ g < w.heap.size ∧ ∀ (j : Nat) (m : Mk), L[j]? = some m → ∀ i u, m.cells[i]? = some u → w.cell? ⟨g, j * 4 + i, none⟩ = some u := by
  rcases h.1.2 with ⟨e, h0⟩ | ⟨g, cap, cur, e, hb, hg, _⟩
  · omega
  · subst e
    refine ⟨g, cap, rfl, hb, lt_blk hg, fun j m hm i u hu => ?_⟩
    have := h.cells.2 (j * 4 + i) u ?_
    · rwa [addr_add, Nat.zero_add] at this
    · have hi : i < 4 := by
        have := (Array.getElem?_eq_some_iff.1 hu).1
        simpa [Mk.cells] using this
      exact mkCs_get hm hi hu
theorem mkBytes_take {L : List Mk} {i : Nat} {m : Mk} (h : L[i]? = some m) : mkBytes (L.take (i + 1)) = mkBytes (L.take i) ++ if markB m.k m.p m.e m.t then encMark m.k m.p m.e m.t else [] := by
  have hi := (List.getElem?_eq_some_iff.1 h).1
  have he := (List.getElem?_eq_some_iff.1 h).2
  unfold mkBytes
  rw [List.take_succ_eq_append_getElem hi, List.flatMap_append, he]
  simp
theorem encMark_length (k p e t : Int) : (encMark k p e t).length ≤ 45 := by
  have := nums_length [3, k, p, e, t]
  simpa [encMark] using this
theorem mkBytes_length : ∀ L : List Mk, (mkBytes L).length ≤ 45 * L.length
  | [] => by simp [mkBytes]
  | m :: r => by
    have h := mkBytes_length r
    have h1 := encMark_length m.k m.p m.e m.t
    have e : mkBytes (m :: r) = (if markB m.k m.p m.e m.t then encMark m.k m.p m.e m.t else []) ++ mkBytes r := rfl
    rw [e, List.length_append, List.length_cons]
    split <;> simp <;> omega
theorem Mk.Small.inI {m : Mk} (h : m.Small) : Go.Proofs.Ytoihfhlelbdboaa.inI m.k ∧ Go.Proofs.Ytoihfhlelbdboaa.inI m.p ∧ Go.Proofs.Ytoihfhlelbdboaa.inI m.e ∧ Go.Proofs.Ytoihfhlelbdboaa.inI m.t := by
  obtain ⟨h1, h2, h3, h4⟩ := h
  exact ⟨⟨by omega, by omega⟩, ⟨by omega, by omega⟩, ⟨by omega, by omega⟩, ⟨by omega, by omega⟩⟩
set_option maxRecDepth 10000 in
set_option maxHeartbeats 1000000 in
/-- digest's Sum -/
theorem dsum_any (P : List Int) (ao : Option Addr) (cap : Nat) (w : World) (hl : Lies w ao P) (hc : P.length ≤ cap) (hz : P.length < 274877906944) :
    Calls Try.prog 30 #[.slice ao P.length cap] w fun e w' => e = .returned (.agg (row .u8 32 (sha P))) ∧ Below w.heap.size w w' := by
  have HL : Hid (Lies w ao P) := hl
  clear hl
  have hb0 := alloc_blk w (.cells (row .u8 32 (fun _ => 0)) 45)
  have hBw := below_alloc w (.cells (row .u8 32 (fun _ => 0)) 45)
  go_enter Try.func30, Try.ntmps30
  go_wp2_with (refine wpList_alloc_hash rfl rfl ?_)
  have hs0 : (w.alloc (.cells (row .u8 32 (fun _ => 0)) 45)).heap.size = w.heap.size + 1 := by simp
  generalize w.alloc (.cells (row .u8 32 (fun _ => 0)) 45) = w0 at *
  rw [← hs0]
  have hcat : cat [(ao, cap, P)] = P := by simp [cat]
  have h := sumRows_any [(ao, cap, P)] w0.heap.size 1 (w0.alloc (.cells #[.slice ao P.length cap] 51)) (fun j hj => by
    obtain rfl : j = 0 := by simp at hj; exact hj
    exact (cell_blk (alloc_blk _ _) 0).trans rfl) (fun x hx => by
    simp at hx; subst hx; exact ⟨HL.out.below (hBw.alloc (by omega) _) (Nat.le_refl _), hc⟩) (by rw [hcat]; omega) (by simp)
  rw [hcat] at h
  refine h.mono ?_
  rintro e w2 ⟨rfl, hB2⟩
  have HC : Hid (w2.heap[w.heap.size]? = some (.cells (row .u8 32 (fun _ => 0)) 45 (0, 0))) := (hB2.block _ (by simp; omega)).trans (alloc_blk_old hb0 _)
  have hB : Below w.heap.size w w2 := (hBw.alloc (by omega) _).trans (hB2.mono (by simp; omega))
  have hz2 : w.heap.size < w2.heap.size := lt_blk HC.out
  clear hB2 h hb0
  go_wp2_with (refine wpList_put_hash rfl _ _ rfl w.heap.size (sha P) (fun _ => 0) ?_ ?_ 45 ?_ ?_; rfl; rfl; exact HC.out)
  intro w3 hc3 hk3
  have hB3 : Below w.heap.size w w3 := hB.trans (hk3.below (Nat.le_refl _) (by omega))
  clear hk3 HC hB
  go_wp2_with fail
  refine bodyPost_ret (v := .agg (row .u8 32 (sha P))) ?_ rfl ⟨rfl, hB3⟩
  exact results_cell_row rfl _ _ w.heap.size _ _ _ (.array 32 5) rfl hc3 (by kernel_rfl) rfl (row_info size_hash _)
end Go.Proofs.Ytoihfhlelbdboaa
namespace Go.Proofs.Ytoihfhlelbdboaa
open Go.RowKit Go.Dig Go.Inv Go.Oct Go.Hold
open Go.Sha
set_option linter.unusedVariables false
set_option linter.unusedSimpArgs false

theorem Rowed.lies {w : World} {ao : Option Addr} {P : List Int} {cap : Nat} (h : Rowed w ao P cap) : Lies w ao P := fun hp => h.at hp
set_option maxRecDepth 100000 in
set_option maxHeartbeats 4000000 in
theorem Sum_at (own : Own) (w : World) (cb : Nat) (x : Co) (h : CoAt own w cb x) (hm : x.ms.length ≤ 50000) (hs : MsI x) :
    Calls Try.prog 16 #[.pointer (some ⟨cb, 0, none⟩)] w fun e w' => e = .returned (.agg (row .u8 32 (sha (mkBytes x.ms)))) ∧ Below w.heap.size w w' := by
  obtain ⟨pb, rb, mv, q, h⟩ := h
  have c2 : w.cell? ⟨cb, 2, none⟩ = some mv := cell_blk h.blk 2
  have hO := h.ms
  have hcb := lt_blk h.blk
  clear h
  obtain ⟨ao, c, rfl⟩ := hO.form
  have hb0 := alloc_blk w (.cells (row .u8 32 (fun _ => 0)) 45)
  have hBw := below_alloc w (.cells (row .u8 32 (fun _ => 0)) 45)
  go_enter Try.func16, Try.ntmps16
  go_upto_region 1 with (refine wpList_alloc_hash rfl rfl ?_)
  have hs0 : (w.alloc (.cells (row .u8 32 (fun _ => 0)) 45)).heap.size = w.heap.size + 1 := by simp
  generalize w.alloc (.cells (row .u8 32 (fun _ => 0)) 45) = w0 at *
  have c2' := (hBw.cell (p := ⟨cb, 2, none⟩) hcb).trans c2
  have hO0 : OwnM w0 0 (.slice ao x.ms.length c) x.ms := hO.below hBw
  have HO : Hid (OwnM w0 0 (.slice ao x.ms.length c) x.ms) := hO0
  have HC : Hid (w0.heap[w.heap.size]? = some (.cells (row .u8 32 (fun _ => 0)) 45 (0, 0))) := hb0
  have HS : Hid (MsI x) := hs
  obtain ⟨z, HZ⟩ : ∃ z, Hid (x.ms.length = z) := ⟨_, rfl⟩
  rw [HZ.out] at c2' hm HO
  clear c2 hO hO0 hb0 hs
  go_wp2_with fail
  go_loopw [3, 16] (fun v iv wr => ∃ (k : Nat), k ≤ z ∧ iv = .int .i64 (k : Int) ∧ Hid (OwnB wr w0.heap.size v (mkBytes (x.ms.take k))) ∧ Below w0.heap.size w0 wr) (fun _ iv _ => z - (intOf iv).toNat)
  case atStart => exact ⟨0, Nat.zero_le _, rfl, OwnB.nil _ _, Below.refl _ _⟩
  case round =>
    clear c2'
    obtain ⟨k, hk, rfl, HV, hB⟩ := hrel
    by_cases hlt : k < z
    · obtain ⟨g, cg, e, -, hgl, hc⟩ := HO.out.atC (by rw [HZ.out]; omega)
      obtain rfl : ao = some ⟨g, 0, none⟩ := by injection e
      obtain ⟨m, hmk⟩ : ∃ m, x.ms[k]? = some m := ⟨_, List.getElem?_eq_getElem (by rw [HZ.out]; exact hlt)⟩
      have HCG : Hid (∀ i u, m.cells[i]? = some u → wr.cell? ⟨g, k * 4 + i, none⟩ = some u) := fun i u hu => (hB.cell (p := ⟨g, k * 4 + i, none⟩) hgl).trans (hc k m hmk i u hu)
      have HM : Hid (x.ms[k]? = some m) := hmk
      have HSM : Hid m.Small := HS.out m (List.mem_of_getElem? hmk)
      have hlt' : (k : Int) < (z : Int) := by omega
      have hk5 : (k : Int) < 50000 := by omega
      have HK : Hid (k < z) := hlt
      clear e hc hmk hgl
      go_upto_region 8 with (first | (refine wpList_load_mkAt rfl _ rfl g (k * 4) m ?_ HCG.out ?_; rfl) | (refine wpList_alloc_row rfl 36 rfl Mk.zero.cells (by kernel_rfl) ?_) | (refine wpList_store_whole rfl 36 _ _ rfl wr.heap.size m.cells Mk.zero.cells ?_ ?_ 36 (alloc_blk _ _) (by kernel_rfl) (Mk.all _) rfl ?_; rfl; rfl))
      intro w3 h3 hK3
      have HEN : Hid (∀ w, Calls Try.prog 29 #[.agg m.cells] w fun x w' => Enc (markB m.k m.p m.e m.t) (encMark m.k m.p m.e m.t) w w' x) := fun w => encodeMark_any m.k m.p m.e m.t w HSM.out.inI.1 HSM.out.inI.2.1 HSM.out.inI.2.2.1 HSM.out.inI.2.2.2
      have h3s : wr.heap.size < w3.heap.size := lt_blk h3
      have hB3 : Below wr.heap.size wr w3 := (below_alloc _ _).trans (hK3.below (Nat.le_refl _) (by simp))
      have HV3 : Hid (OwnB w3 w0.heap.size u3 (mkBytes (x.ms.take k))) := HV.out.same fun b hb => hB3.block b (HV.out.lt b hb).2
      have hB03 := hB.trans (hB3.mono hB.size)
      clear hK3
      go_upto_region 7 with fail
      apply wp_region_lit
      refine wpList_load_agg rfl 36 (by kernel_rfl) _ rfl wr.heap.size m.cells 36 (0, 0) ?_ h3 (by kernel_rfl) ?_
      · rfl
      go_upto_region 8 with (go_at_call 29; refine (HEN.out _).mono ?_; rintro e w4 ⟨v4, rfl, hv4, hB4⟩; replace hv4 : Hid (OwnB w4 w3.heap.size v4 (if markB m.k m.p m.e m.t then encMark m.k m.p m.e m.t else [])) := hv4; generalize (if markB m.k m.p m.e m.t = true then (0 : Int) else 1) = er)
      have HV4 : Hid (OwnB w4 w0.heap.size u3 (mkBytes (x.ms.take k))) := HV3.out.same fun b hb => hB4.block b (HV3.out.lt b hb).2
      have hB04 := hB03.trans (hB4.mono hB03.size)
      obtain ⟨ao4, n4, cap4, rfl, HF4⟩ := hv4.out.form
      have hlen := mkBytes_length (x.ms.take k)
      have hlen2 := List.length_take_le k x.ms
      have hl4 : (if markB m.k m.p m.e m.t = true then encMark m.k m.p m.e m.t else []).length ≤ 45 := by
        split
        · exact encMark_length _ _ _ _
        · simp
      have HAP : Hid (mkBytes (x.ms.take (k + 1)) = mkBytes (x.ms.take k) ++ if markB m.k m.p m.e m.t = true then encMark m.k m.p m.e m.t else []) := mkBytes_take HM.out
      generalize (if markB m.k m.p m.e m.t = true then encMark m.k m.p m.e m.t else []) = N4 at *
      have hs4 := hB04.size
      clear hv4 hB3 hB03 hB4 h3 HV HV3 HCG
      go_wp2_with (refine wpList_app rfl _ _ rfl w0.heap.size u3 (mkBytes (x.ms.take k)) rfl HV4.out ao4 n4 cap4 N4 rfl HF4.out.1 HF4.out.2.2 (by have := HF4.out.1; omega) hs4 ?_)
      intro v5 w5 hv5 hG5
      rw [← HAP.out] at hv5
      have hB5 := hB04.trans (hG5.out.below hs4 fun b hb => (HV4.out.lt b hb).1)
      go_wp2_with fail
      have hkk := HK.out
      go_roundw
      case rel => exact ⟨k + 1, by omega, by go_num, (by rw [hs0]; exact hv5), hB5⟩
      case measure => simp [intOf]; omega
    · obtain rfl : k = z := by omega
      have hcz : mkBytes (x.ms.take k) = mkBytes x.ms := by rw [← HZ.out, List.take_length]
      rw [hcz] at HV
      obtain ⟨bo, n, cap, rfl, HF⟩ := HV.out.form
      obtain ⟨hn, hcp, hrw⟩ := HF.out
      obtain rfl := hn
      have hlen := mkBytes_length x.ms
      rw [HZ.out] at hlen
      have hB5 := hBw.trans (hB.mono (by omega))
      have HC5 : Hid (wr.heap[w.heap.size]? = some (.cells (row .u8 32 (fun _ => 0)) 45 (0, 0))) := (hB.block _ (by omega)).trans HC.out
      clear hcz HF
      go_wp2_with (first | (refine wpList_put_hash rfl _ _ rfl w.heap.size (sha (mkBytes x.ms)) (fun _ => 0) ?_ ?_ 45 ?_ ?_; rfl; rfl; exact HC6.out) | (go_at_call 30; refine (dsum_any (mkBytes x.ms) bo cap _ hrw.lies hcp (by omega)).mono ?_; rintro e w6 ⟨rfl, hB6⟩; have HC6 : Hid (w6.heap[w.heap.size]? = some (.cells (row .u8 32 (fun _ => 0)) 45 (0, 0))) := (hB6.block _ (lt_blk HC5.out)).trans HC5.out))
      intro w7 hc7 hk7
      have hB7 : Below w.heap.size w w7 := (hB5.trans (hB6.mono hB5.size)).trans (hk7.below (Nat.le_refl _) (hB5.trans (hB6.mono hB5.size)).size)
      clear hk7 HC6 hB6
      go_wp2_with fail
      refine bodyPost_ret (v := .agg (row .u8 32 (sha (mkBytes x.ms)))) ?_ rfl ⟨rfl, hB7⟩
      exact results_cell_row rfl _ _ w.heap.size _ _ _ (.array 32 5) rfl hc7 (by kernel_rfl) rfl (row_info size_hash _)
end Go.Proofs.Ytoihfhlelbdboaa
namespace Go.Proofs.Ytoihfhlelbdboaa
open Go.RowKit Go.Dig Go.Inv Go.Oct Go.Hold
set_option linter.unusedVariables false
set_option linter.unusedSimpArgs false

def rpsC (L : List Rp.Rp3) : List Value := L.flatMap fun m => (rpC m).toList
theorem rpsC_length : ∀ L : List Rp.Rp3, (rpsC L).length = L.length * 3
  | [] => rfl
  | z :: r => by
    have h := rpsC_length r
    have e : rpsC (z :: r) = (rpC z).toList ++ rpsC r := rfl
    rw [e, List.length_append, h, List.length_cons]; simp [rpC]; omega
theorem rpsC_append (a b : List Rp.Rp3) : rpsC (a ++ b) = rpsC a ++ rpsC b := by unfold rpsC; rw [List.flatMap_append]
theorem rpsC_int (L : List Rp.Rp3) : ∀ u ∈ rpsC L, IsI u := fun u hu => by
  obtain ⟨m, _, hm⟩ := List.mem_flatMap.1 hu
  simp [rpC] at hm
  rcases hm with rfl | rfl | rfl <;> exact ⟨_, rfl⟩
theorem rpsC_one (L : List Rp.Rp3) : ∀ u ∈ rpsC L, u.oneCell' = true := fun u hu => by
  obtain ⟨x, rfl⟩ := rpsC_int L u hu
  rfl
/-- a row of marks that somebody owns, spare room too -/
def OwnP (w : World) (base : Nat) (v : Value) (L : List Rp.Rp3) : Prop := w.ownsRow base 28 3 v L.length (rpsC L) ∧ AllRow w v IsI
theorem OwnP.nil (w : World) (base : Nat) : OwnP w base (.slice none 0 0) [] := ⟨World.ownsRow_nil w base _ 3, fun k hk => by cases hk⟩
theorem OwnP.lt {w : World} {base : Nat} {v : Value} {L : List Rp.Rp3} (h : OwnP w base v L) : ∀ k, v.ownBlock = some k → base ≤ k ∧ k < w.heap.size := World.ownsRow.lt h.1
theorem OwnP.same {w w' : World} {base : Nat} {v : Value} {L : List Rp.Rp3} (h : OwnP w base v L) (hb : ∀ k, v.ownBlock = some k → w'.heap[k]? = w.heap[k]?) : OwnP w' base v L := by
  refine ⟨⟨h.1.1, ?_⟩, fun k hk j u hu => h.2 k hk j u (by rw [← World.cell?_of_block (a := ⟨k, j, none⟩) (hb k hk)]; exact hu)⟩
  rcases h.1.2 with hn | ⟨g, cap, cur, rfl, hb', hgg, rest⟩
  · exact .inl hn
  · exact .inr ⟨g, cap, cur, rfl, hb', (hb g rfl).trans hgg, rest⟩
theorem OwnP.below {w w' : World} {base : Nat} {v : Value} {L : List Rp.Rp3} (h : OwnP w base v L) (hB : Below w.heap.size w w') : OwnP w' base v L := h.same fun k hk => hB.block k (h.lt k hk).2
theorem OwnP.mono {w : World} {base b : Nat} {v : Value} {L : List Rp.Rp3} (h : OwnP w base v L) (hb : b ≤ base) : OwnP w b v L := by
  refine ⟨⟨h.1.1, ?_⟩, h.2⟩
  rcases h.1.2 with hn | ⟨g, cap, cur, e, hb', rest⟩
  · exact .inl hn
  · exact .inr ⟨g, cap, cur, e, Nat.le_trans hb hb', rest⟩
theorem OwnP.form {w : World} {base : Nat} {v : Value} {L : List Rp.Rp3} (h : OwnP w base v L) : ∃ ao cap, v = .slice ao L.length cap := by
  rcases h.1.2 with ⟨rfl, h0⟩ | ⟨g, cap, cur, rfl, _⟩
  · rw [h0]; exact ⟨none, 0, rfl⟩
  · exact ⟨_, cap, rfl⟩
theorem OwnP.blk {w : World} {base : Nat} {v : Value} {L : List Rp.Rp3} (h : OwnP w base v L) {k : Nat} (hk : v.ownBlock = some k) : ∃ c t fr, w.heap[k]? = some (.cells c t fr) := by
  rcases h.1.2 with ⟨rfl, _⟩ | ⟨g, cap, cur, rfl, _, hgg, _⟩
  · cases hk
  · cases hk; exact ⟨_, _, _, hgg⟩
theorem OwnP.low {w : World} {base : Nat} {v : Value} {L : List Rp.Rp3} (h : OwnP w base v L) {k : Nat} (hk : v.ownBlock = some k) : NoLow w k := fun z => by
  refine ⟨fun e => ?_, fun e => ?_⟩
  · obtain ⟨x, hx⟩ := h.2 k hk 3 _ e
    cases hx
  · obtain ⟨x, hx⟩ := h.2 k hk 5 _ e
    cases hx
theorem info_P : (Try.prog.info? 28).map (fun i => (i.zero, i.size, i.bytes)) = some (some (.agg (rpC ⟨0, 0, 0⟩)), 3, 24) := by kernel_rfl
theorem parts_P : (Try.prog.info? 28).map (fun i => (i.zero, i.size)) = some (some (.agg (rpC ⟨0, 0, 0⟩)), 3) := by kernel_rfl
theorem run_appP (w : World) (base ty : Nat) (v : Value) (L : List Rp.Rp3) (hown : OwnP w base v L) (ad : Addr) (m c : Nat) (N : List Rp.Rp3) (hm : m = N.length) (hN : ∀ j u, (rpsC N)[j]? = some u → w.cell? (ad.add j) = some u)
    (hb : L.length + m ≤ 100000) (hbase : base ≤ w.heap.size) :
    ∃ v' w', (Builtin.append_ #[43, 43] ty #[v, .slice (some ad) m c]).run Try.prog w = .ok v' w' ∧ OwnP w' base v' (L ++ N) ∧ Gr w w' v v' := by
  subst hm
  obtain ⟨i8, hi, hz0, hz1, hz2⟩ := info_parts info_P
  obtain ⟨v', w', hr, h1, hg, ha⟩ := run_append_all (P := Try.prog) (w := w) base 43 ty 28 i8 (.agg (rpC ⟨0, 0, 0⟩)) 3 24 (by kernel_rfl) hi hz0 hz1 hz2 rfl (by omega) v L.length _ hown.1 ad N.length c (rpsC N) (rpsC_length N) hN (rpsC_one N) (by unfold maxLen; omega) (by omega) hbase IsI hown.2 (rpsC_int N) (by
    intro u hu
    have hu2 : u ∈ rpC (⟨0, 0, 0⟩ : Rp.Rp3) := hu
    exact rpsC_int [⟨0, 0, 0⟩] u (by simpa [rpsC] using hu2))
  refine ⟨v', w', hr, ⟨?_, ha⟩, hg⟩
  rw [rpsC_append, List.length_append]; exact h1
theorem OwnP.cells {w : World} {base : Nat} {g n c : Nat} {o : Nat} {L : List Rp.Rp3} (h : OwnP w base (.slice (some ⟨g, o, none⟩) n c) L) : o = 0 ∧ ∀ j u, (rpsC L)[j]? = some u → w.cell? ((⟨g, 0, none⟩ : Addr).add j) = some u := by
  rcases h.1.2 with ⟨e, _⟩ | ⟨g', cap, cur, e, _⟩
  · cases e
  · cases e; exact ⟨rfl, World.ownsRow.cells h.1 (g := g) rfl⟩
section
variable {ops : Array Oper} {rest : List Oper} {o : Oper} {a : Act} {w : World} {Q : Exit → Act → World → Prop} {K : Act → World → Prop}
/-- append(l, x): one behind the others -/
theorem wp_appP1 (s x : Operand) (ho : o.op = .call { callee := .builtin .append, args := #[s, x], argTypes := #[43, 43] }) (base : Nat) (v : Value) (L : List Rp.Rp3) (hs : a.eval s = v) (g : Nat) (y : Rp.Rp3) (hx : a.eval x = .slice (some ⟨g, 0, none⟩) 1 1)
    (hown : OwnP w base v L) (t : TypeId) (hg : w.heap[g]? = some (.cells (rpC y) t (0, 0))) (hb : L.length + 1 ≤ 100000) (hbase : base ≤ w.heap.size)
    (h : ∀ v' w', OwnP w' base v' (L ++ [y]) → Gr w w' v v' → K (a.put o.dst v') w') : o.wp Try.prog a w K Q := by
  obtain ⟨v', w', hrun, h1, h2⟩ := run_appP w base o.type v L hown ⟨g, 0, none⟩ 1 1 [y] rfl (fun j u hu => by rw [addr_add, Nat.zero_add, cell_blk hg]; simpa [rpsC] using hu) (by simpa using hb) hbase
  unfold Oper.wp
  simp [execOp, ho, resolve, invoke, builtin, hs, hx, hrun, Result.andThen]
  exact h v' w' h1 h2
theorem wpList_appP1 (hgd : o.guard = none) (s x : Operand) (ho : o.op = .call { callee := .builtin .append, args := #[s, x], argTypes := #[43, 43] }) (base : Nat) (v : Value) (L : List Rp.Rp3) (hs : a.eval s = v) (g : Nat) (y : Rp.Rp3) (hx : a.eval x = .slice (some ⟨g, 0, none⟩) 1 1)
    (hown : OwnP w base v L) (t : TypeId) (hg : w.heap[g]? = some (.cells (rpC y) t (0, 0))) (hb : L.length + 1 ≤ 100000) (hbase : base ≤ w.heap.size)
    (h : ∀ v' w', OwnP w' base v' (L ++ [y]) → Gr w w' v v' → wpList Try.prog ops Q rest (a.put o.dst v') w') : wpList Try.prog ops Q (o :: rest) a w :=
  wpList_plain hgd fun K hK => wp_appP1 s x ho base v L hs g y hx hown t hg hb hbase fun v' w' h1 h2 => hK _ _ (h v' w' h1 h2)
/-- append(l, m...): another row, that is owned too, behind the others -/
theorem wpList_appP (hgd : o.guard = none) (s x : Operand) (ho : o.op = .call { callee := .builtin .append, args := #[s, x], argTypes := #[43, 43] }) (base b2 : Nat) (v y : Value) (L N : List Rp.Rp3) (hs : a.eval s = v) (hx : a.eval x = y)
    (hown : OwnP w base v L) (hy : OwnP w b2 y N) (hb : L.length + N.length ≤ 100000) (hbase : base ≤ w.heap.size)
    (h : ∀ v' w', OwnP w' base v' (L ++ N) → Gr w w' v v' → wpList Try.prog ops Q rest (a.put o.dst v') w') : wpList Try.prog ops Q (o :: rest) a w := by
  refine wpList_plain hgd fun K hK' => ?_
  rcases hy.1.2 with ⟨rfl, hn0⟩ | ⟨g, cap, cur, rfl, _⟩
  · obtain ⟨i8, hi, hz0, hz1, hz2⟩ := info_parts info_P
    have hrun := run_append_owned_none (P := Try.prog) w base 43 o.type 28 i8 3 (by kernel_rfl) hi v L.length (rpsC L) hown.1
    have hN : N = [] := List.eq_nil_of_length_eq_zero hn0
    subst hN
    unfold Oper.wp
    simp [execOp, ho, resolve, invoke, builtin, hs, hx, hrun, Result.andThen]
    exact hK' _ _ (h v w (by rw [List.append_nil]; exact hown) (Gr.refl _ _))
  · obtain ⟨v', w', hrun, h1, h2⟩ := run_appP w base o.type v L hown ⟨g, 0, none⟩ N.length cap N rfl hy.cells.2 hb hbase
    unfold Oper.wp
    simp [execOp, ho, resolve, invoke, builtin, hs, hx, hrun, Result.andThen]
    exact hK' _ _ (h v' w' h1 h2)
/-- a row of one is laid -/
theorem wp_rowP (x : Operand) (ho : o.op = .buildSlice 43 1 #[(0, x)]) (y : Rp.Rp3) (hx : a.eval x = .agg (rpC y))
    (h : K (a.put o.dst (.slice (some ⟨w.heap.size, 0, none⟩) 1 1)) (w.alloc (.cells (rpC y) 28))) : o.wp Try.prog a w K Q := by
  have hp := parts_P
  cases hie : Try.prog.info? 28 with
  | none => rw [hie] at hp; cases hp
  | some ie =>
    rw [hie] at hp
    simp at hp
    obtain ⟨hz, hs⟩ := hp
    refine wp_buildSlice 43 28 1 _ ho (rpC y) ie _ (by kernel_rfl) hie hz (by rw [hs]; decide) (by rw [hs]; decide) ?_ h
    have := Great.fill_whole (s := 3) (by decide) [.agg (rpC y)] ((Array.range (1 * ie.size)).map (((.agg (rpC ⟨0, 0, 0⟩)) : Value).cells[· % ((.agg (rpC ⟨0, 0, 0⟩)) : Value).cells.size]!)) (fun v hv => by
      simp at hv; subst hv; rfl) (by simp [hs])
    simp [hx, hs] at this ⊢
    exact this
theorem wpList_rowP (hgd : o.guard = none) (x : Operand) (ho : o.op = .buildSlice 43 1 #[(0, x)]) (y : Rp.Rp3) (hx : a.eval x = .agg (rpC y))
    (h : wpList Try.prog ops Q rest (a.put o.dst (.slice (some ⟨w.heap.size, 0, none⟩) 1 1)) (w.alloc (.cells (rpC y) 28))) : wpList Try.prog ops Q (o :: rest) a w :=
  wpList_plain hgd fun K hK => wp_rowP x ho y hx (hK _ _ h)
end
/-- two rows of n numbers are one -/
def rowEq (n : Nat) (f g : Nat → Int) : Bool := (List.range n).all fun i => f i == g i
theorem rowEq_self (n : Nat) (f : Nat → Int) : rowEq n f f = true := by simp [rowEq]
theorem rowEq_iff {n : Nat} {f g : Nat → Int} : rowEq n f g = true ↔ ∀ j, j < n → f j = g j := by simp [rowEq]
theorem rowEq_comm (n : Nat) (f g : Nat → Int) : rowEq n f g = rowEq n g f := by
  rw [Bool.eq_iff_iff, rowEq_iff, rowEq_iff]
  exact ⟨fun h j hj => (h j hj).symm, fun h j hj => (h j hj).symm⟩

theorem equal_row (d : Nat) (n : Nat) (t e : TypeId) {P : Program} (ht : P.underlying t = some (.array n e)) (he : P.underlying e = some (.int .u8)) (hsz : ∀ w, (sizeOf e).run P w = .ok 1 w) (f g : Nat → Int) (w : World) :
    (Op.equalIn (d + 2) t (.agg (row .u8 n f)) (.agg (row .u8 n g))).run P w = .ok (rowEq n f g) w := by
  rw [rowEq, List.range_eq_range', Op.equalIn]
  simp only [Sem.run_bind, run_underlying ht, Result.andThen_ok, hsz, Std.Legacy.Range.forIn_eq_forIn_range', Std.Legacy.Range.size, Nat.sub_zero, Nat.add_sub_cancel, Nat.div_one]
  have hl : ∀ i ∈ List.range' 0 n 1, i < n := fun i hi => by simpa using (List.mem_range'_1.1 hi).2
  generalize List.range' 0 n 1 = l at hl ⊢
  induction l with
  | nil => simp
  | cons i l ih =>
    have hi : i < n := hl i (by simp)
    have px : (part e (row .u8 n f) (i * 1)).run P w = .ok (.int .u8 (f i)) w := by
      simp [part, isAgg, run_underlying he, row_get hi]
    have py : (part e (row .u8 n g) (i * 1)).run P w = .ok (.int .u8 (g i)) w := by
      simp [part, isAgg, run_underlying he, row_get hi]
    have pe : (Op.equalIn (d + 1) e (.int .u8 (f i)) (.int .u8 (g i))).run P w = .ok (f i == g i) w := run_equalIn_int w d e .u8 .u8 _ _ he
    simp only [List.forIn_cons, Sem.run_bind, px, py, pe, Result.andThen_ok, List.all_cons]
    cases hb : (f i == g i)
    · simp
    · simp only [Bool.not_true, Bool.false_eq_true, if_false, Sem.run_pure, Result.andThen_ok, Bool.true_and]
      exact ih fun j hj => hl j (by simp [hj])
theorem equalIn_hash (f g : Nat → Int) (w : World) : (Op.equalIn 10000 45 (.agg (row .u8 32 f)) (.agg (row .u8 32 g))).run Try.prog w = .ok (rowEq 32 f g) w :=
  equal_row 9998 32 45 5 (by kernel_rfl) (by kernel_rfl) (fun w => by simp [go_sem]) f g w

theorem OwnP.one {w : World} {base : Nat} {v : Value} {L : List Rp.Rp3} (h : OwnP w base v L) (hn : 0 < L.length) : ∃ g c, v = .slice (some ⟨g, 0, none⟩) L.length c ∧ base ≤ g ∧ g < w.heap.size ∧ ∀ (j : Nat) (r : Rp.Rp3), L[j]? = some r → ∀ i u, (rpC r)[i]? = some u → w.cell? ⟨g, j * 3 + i, none⟩ = some u := by
  rcases h.1.2 with ⟨e, h0⟩ | ⟨g, cap, cur, e, hb, hg, _⟩
  · omega
  · subst e
    refine ⟨g, cap, rfl, hb, lt_blk hg, fun j r hr i u hu => ?_⟩
    have hi : i < 3 := by
      have := (Array.getElem?_eq_some_iff.1 hu).1
      simpa [rpC] using this
    have key : ∀ {L : List Rp.Rp3} {j : Nat}, L[j]? = some r → (rpsC L)[j * 3 + i]? = some u := by
      intro L
      induction L with
      | nil => intro j h; simp at h
      | cons a l ih =>
        intro j h
        have e : rpsC (a :: l) = (rpC a).toList ++ rpsC l := rfl
        cases j with
        | zero =>
          simp at h
          subst h
          rw [e, Nat.zero_mul, Nat.zero_add, List.getElem?_append_left (by simp [rpC]; omega), Array.getElem?_toList]
          exact hu
        | succ j =>
          simp at h
          have hl : (rpC a).toList.length = 3 := by simp [rpC]
          rw [e, List.getElem?_append_right (by omega), hl, show (j + 1) * 3 + i - 3 = j * 3 + i by omega]
          exact ih h
    have := h.cells.2 (j * 3 + i) u (key hr)
    rwa [addr_add, Nat.zero_add] at this
section
variable {ops : Array Oper} {rest : List Oper} {o : Oper} {a : Act} {w : World} {K : Act → World → Prop} {Q : Exit → Act → World → Prop}
/-- a reply is read out of a row -/
theorem wp_load_rpAt (x : Operand) (ho : o.op = .load 28 x) (g off : Nat) (r : Rp.Rp3) (hx : a.eval x = .pointer (some ⟨g, off, none⟩)) (hc : ∀ i u, (rpC r)[i]? = some u → w.cell? ⟨g, off + i, none⟩ = some u)
    (h : K (a.put o.dst (.agg (rpC r))) w) : o.wp Try.prog a w K Q := by
  obtain ⟨d, hd1, hd2⟩ := row_of (ty := 28) (by kernel_rfl)
  refine wp_load_mid 28 x ho g off hx (rpC r).toList d (fun j v hv => hc j v (by simpa using hv)) hd1 hd2 (by kernel_rfl) ?_
  simpa using h
end
/-- an unlabelled block that is no node has turned: a coordinator lies on -/
theorem PrC.turn {own : Own} {w w' : World} {i qb : Nat} {p : Pr} {ev : Value} {ov : Option Addr} (h : PrC own w i qb p ev ov) (ho : Owned own w) (hF : Frm (fun k => own k = none ∧ NoLow w k) w w') : PrC own w' i qb p ev ov :=
  ⟨(hF.block qb (lt_blk h.blk) fun hn => by rw [h.lab] at hn; cases hn.1).trans h.blk, h.lab,
   h.ends.same (fun _ _ => rfl) fun k hk => hF.block k (ho k _ hk) fun hn => (by rw [hk] at hn; cases hn.1),
   h.op.same (fun _ _ => rfl) fun k hk => hF.block k (ho k _ hk) fun hn => (by rw [hk] at hn; cases hn.1)⟩
theorem CoAt.turn {own : Own} {w w' : World} {cb : Nat} {x : Co} (h : CoAt own w cb x) (hF : Frm (fun k => own k = none ∧ NoLow w k) w w') : CoAt own w' cb x := by
  obtain ⟨pb, rb, mv, q, h⟩ := h
  refine ⟨pb, rb, mv, q, h.owned.mono hF.size, (hF.block _ (lt_blk h.blk) fun hn => (by rw [h.lc] at hn; cases hn.1)).trans h.blk, h.lc, h.lp, h.lr,
    h.tp.frmL hF (fun hn => by rw [h.lp] at hn; cases hn.1) (fun k ⟨_, hk⟩ z => (hk z).1), h.tr.frmL hF (fun hn => by rw [h.lr] at hn; cases hn.1) (fun k ⟨_, hk⟩ z => (hk z).2),
    h.ms.same fun k hk => hF.block k (h.ms.lt k hk).2 fun hn => (by rw [h.lm k hk] at hn; cases hn.1), h.lm, h.len, fun i p hp => ?_⟩
  obtain ⟨b, h1, ev, ov, h2⟩ := h.pr i p hp
  exact ⟨b, h1, ev, ov, h2.turn h.owned hF⟩
end Go.Proofs.Ytoihfhlelbdboaa
namespace Go.Proofs.Ytoihfhlelbdboaa
open Go.RowKit Go.Dig Go.Inv Go.Oct Go.Hold
open Go.Sha
set_option linter.unusedVariables false
set_option linter.unusedSimpArgs false

theorem OpsAt.keep2 {w w' : World} {a : Option Addr} {L : List OpF} (h : OpsAt w a L) (hB : Below w.heap.size w w') : OpsAt w' a L := fun hn => by
  obtain ⟨b, o, rfl, hc⟩ := h hn
  refine ⟨b, o, rfl, fun j x hx i hi => ?_⟩
  have h1 := hc j x hx i hi
  obtain ⟨v, hv⟩ : ∃ v, x.cells[i]? = some v := ⟨x.cells[i]'(by simp [OpF.cells, opC]; omega), Array.getElem?_eq_getElem _⟩
  rw [hv] at h1 ⊢
  exact (hB.cell (World.block_lt_of_cell? w _ h1)).trans h1
/-- so many are applied, and what they were answered is kept -/
structure AgI (w1 : World) (L : List OpF) (wr : World) (i : Nat) (own : Own) (x : Co) (n : Nat) (v : Value) (R : List Rp.Rp3) : Prop where
  co : CoAt own wr w1.heap.size x
  inv : x.Inv n
  n : n ≤ i
  ms : MsI x
  over : Over w1.heap.size own
  below : Below w1.heap.size w1 wr
  row : OwnP wr w1.heap.size v R
  lab : ∀ k, v.ownBlock = some k → own k = none
  len : R.length = i
  rem : ∀ (j : Nat) (o : OpF), j < i → L[j]? = some o → ∃ r, R[j]? = some r ∧ Rem x o r
theorem AgI.lay {w1 : World} {L : List OpF} {wr w' : World} {i : Nat} {own : Own} {x : Co} {n : Nat} {v : Value} {R : List Rp.Rp3} (h : AgI w1 L wr i own x n v R) (hB : Below wr.heap.size wr w') : AgI w1 L w' i own x n v R :=
  ⟨h.co.below hB, h.inv, h.n, h.ms, h.over, h.below.trans (hB.mono h.below.size), h.row.below hB, h.lab, h.len, h.rem⟩
theorem AgI.again {w1 : World} {L : List OpF} {wr w' : World} {i : Nat} {own own' : Own} {x : Co} {n : Nat} {v : Value} {R : List Rp.Rp3} (h : AgI w1 L wr i own x n v R) (hC : CoAt own' w' w1.heap.size x) (hS : Step AllP own own' wr w') : AgI w1 L w' i own' x n v R :=
  ⟨hC, h.inv, h.n, h.ms, h.over.step hS h.below.size, h.below.trans (h.over.below hS h.below.size), h.row.same fun k hk => hS.block (h.row.lt k hk).2 fun l e => (by rw [h.lab k hk] at e; cases e), fun k hk => (hS.old k (h.row.lt k hk).2).trans (h.lab k hk), h.len, h.rem⟩
theorem gr_turn {own : Own} {w w' : World} {v v' : Value} {b : Nat} {R : List Rp.Rp3} (h : Gr w w' v v') (hl : ∀ k, v.ownBlock = some k → own k = none) (ho : OwnP w b v R) : Frm (fun k => own k = none ∧ NoLow w k) w w' :=
  ⟨h.os, h.tape, h.output, h.size, fun k hk hn => h.block k hk fun e => hn ⟨hl k e, ho.low e⟩⟩
set_option maxRecDepth 100000 in
set_option maxHeartbeats 8000000 in
theorem Again_law (w : World) (a : Option Addr) (cap : Nat) (L : List OpF) (hL : OpsAt w a L) (hW : ∀ o ∈ L, o.Wide) : Calls Try.prog 4 #[.slice a L.length cap] w fun e w' => e = .returned (.bool true) ∧ Below w.heap.size w w' := by
  go_enter Try.func4, Try.ntmps4
  go_wp2_with fail
  refine (long_at w a cap L hL).mono ?_
  rintro e w1 ⟨⟨b, rfl⟩, rfl⟩
  have HL : Hid (OpsAt w1 a L) := hL
  have HW : Hid (∀ o ∈ L, o.Wide) := hW
  clear hL hW
  cases b
  · by_cases h40 : 40 < (L.length : Int)
    · go_wp2_with fail
      go_ret
      exact ⟨rfl, Below.refl _ _⟩
    · go_wp2_with (go_at_call 10; refine (New_at _).mono ?_; rintro e w2 ⟨own1, rfl, hN1, ho1, hB1⟩)
      have HN : Hid (L.length ≤ 40) := by show L.length ≤ 40; omega
      clear h40
      go_loopw [4, 5] (fun v iv wr => ∃ (i : Nat) (own : Own) (x : Co) (n : Nat) (R : List Rp.Rp3), i ≤ L.length ∧ iv = .int .i64 (i : Int) ∧ AgI w1 L wr i own x n v R) (fun _ iv _ => L.length - (intOf iv).toNat)
      case atStart => exact ⟨0, own1, Co.none, 0, [], Nat.zero_le _, rfl, hN1, Co.inv_none, Nat.le_refl _, msI_none, ho1, hB1, OwnP.nil _ _, (fun k hk => by cases hk), rfl, (fun j o hj => by omega)⟩
      case round =>
        obtain ⟨i, own, x, n, R, hi, rfl, hA⟩ := hrel
        by_cases hlt : i < L.length
        · obtain ⟨o, hox⟩ : ∃ o, L[i]? = some o := ⟨L[i], List.getElem?_eq_getElem hlt⟩
          obtain ⟨ob, oo, rfl, c0, c1, c2, c3, c4, c5, c6, c7, c8⟩ := (HL.out.keep2 hA.below).get hox
          have hlt' : (i : Int) < (L.length : Int) := by omega
          have hi4 : (i : Int) < 50 := by have := HN.out; omega
          have HO : Hid (o.Wide ∧ L[i]? = some o ∧ i < L.length) := ⟨HW.out o (List.mem_of_getElem? hox), hox, hlt⟩
          have HA : Hid (AgI w1 L wr i own x n u4 R) := hA
          clear hox hlt hA hi
          go_upto_region 11 with (first | (go_at_call 11; refine (apply_at own _ _ x n HA.out.co o HO.out.1 HA.out.inv (by have := HA.out.n; have := HN.out; have := HO.out.2.2; omega)).mono ?_; rintro e w4 ⟨v4, own4, rfl, hO4, hl4, hC4, hS4⟩) | (refine wpList_alloc_row rfl 28 rfl (rpC rp0) (by kernel_rfl) ?_) | (refine wpList_store_whole rfl 28 _ _ rfl w4.heap.size (rpC (x.apply o.ok o).1) (rpC rp0) ?_ ?_ 28 (alloc_blk _ _) (by kernel_rfl) (rpC_all _) rfl ?_; rfl; rfl; intro w5 h5 hK5))
          have hB45 : Below w4.heap.size w4 w5 := (below_alloc _ _).trans (hK5.below (Nat.le_refl _) (by simp))
          have ho4 := HA.out.over.step hS4 HA.out.below.size
          have hB4 := HA.out.below.trans (HA.out.over.below hS4 HA.out.below.size)
          have hB5 := hB4.trans (hB45.mono hB4.size)
          have hr4 : OwnP w4 w1.heap.size u4 R := HA.out.row.same fun k hk => hS4.block (HA.out.row.lt k hk).2 fun l e => by rw [HA.out.lab k hk] at e; cases e
          have HR5 : Hid (OwnP w5 w1.heap.size u4 R) := hr4.below hB45
          have HL5 : Hid (∀ k, u4.ownBlock = some k → own4 k = none) := fun k hk => (hS4.old k (HA.out.row.lt k hk).2).trans (HA.out.lab k hk)
          have HC5 : Hid (CoAt own4 w5 w1.heap.size (x.apply o.ok o).2.2) := hC4.below hB45
          have HO4 : Hid (Over w1.heap.size own4) := ho4
          have HX : Hid ((x.apply o.ok o).2.2.Inv (n + 1) ∧ MsI (x.apply o.ok o).2.2 ∧ Rem (x.apply o.ok o).2.2 o (x.apply o.ok o).1 ∧ ∀ (j : Nat) (o' : OpF), j < i → L[j]? = some o' → ∃ r, R[j]? = some r ∧ Rem (x.apply o.ok o).2.2 o' r) :=
            ⟨HA.out.inv.apply o.ok o, HA.out.ms.apply HA.out.inv o.ok o, Rem.now x o, fun j o' hj ho' => by obtain ⟨r, h1, h2⟩ := HA.out.rem j o' hj ho'; exact ⟨r, h1, h2.apply o.ok o⟩⟩
          have HNL : Hid (n ≤ i ∧ R.length = i ∧ i < L.length ∧ L.length ≤ 40) := ⟨HA.out.n, HA.out.len, HO.out.2.2, HN.out⟩
          have HOX : Hid (L[i]? = some o) := HO.out.2.1
          have hs5 := hB5.size
          generalize x.apply o.ok o = y at *
          have H5 : Hid (w5.heap[w4.heap.size]? = some (.cells (rpC y.1) 28 (0, 0))) := h5
          clear hB45 ho4 hr4 hC4 hO4 hl4 hS4 hK5 h5 HA HO c0 c1 c2 c3 c4 c5 c6 c7 c8
          go_wp2_with (first | (refine wpList_load_agg rfl 28 (by kernel_rfl) _ rfl w4.heap.size (rpC y.1) 28 (0, 0) ?_ H5.out (by kernel_rfl) ?_; rfl) | (refine wpList_rowP rfl _ rfl y.1 ?_ ?_; rfl) | (refine wpList_appP1 rfl _ _ rfl w1.heap.size u4 R ?_ w5.heap.size y.1 ?_ (HR5.out.below (below_alloc _ _)) 28 (alloc_blk _ _) (by have := HNL.out; omega) (by simp; omega) ?_; rfl; rfl; intro v7 w7 hv7 hG7))
          have h6 : Below w1.heap.size w1 (w5.alloc (.cells (rpC y.1) 28)) := hB5.trans ((below_alloc _ _).mono hs5)
          have hn := HNL.out
          go_roundw
          case rel =>
            refine ⟨i + 1, own4, y.2.2, n + 1, R ++ [y.1], by omega, by go_num, (HC5.out.below (below_alloc _ _)).turn (gr_turn hG7 HL5.out (HR5.out.below (below_alloc _ _))), HX.out.1, by omega, HX.out.2.1, HO4.out, h6.trans (hG7.below h6.size fun k hk => (HR5.out.lt k hk).1), hv7, fun k hk => (hG7.own k hk).elim (HL5.out k) (fun hge => HC5.out.owned.fresh (by simp at hge; omega)), by simp; omega, fun j o' hj ho' => ?_⟩
            by_cases hji : j < i
            · obtain ⟨r, h1, h2⟩ := HX.out.2.2.2 j o' hji ho'
              exact ⟨r, by rw [List.getElem?_append_left (by omega)]; exact h1, h2⟩
            · obtain rfl : j = i := by omega
              rw [HOX.out] at ho'
              obtain rfl := Option.some.inj ho'
              exact ⟨y.1, by rw [List.getElem?_append_right (by omega)]; simp [hn.2.1], HX.out.2.2.1⟩
          case measure => simp [intOf]; omega
        · obtain rfl : i = L.length := by omega
          have hml : x.ms.length ≤ 50000 := by have := hA.inv.ms; have := hA.n; have := HN.out; omega
          have HA : Hid (AgI w1 L wr L.length own x n u4 R) := hA
          clear hA hi
          go_upto_region 13 with (first | (go_at_call 16; refine (Sum_at own _ _ x HA.out.co hml HA.out.ms).mono ?_; rintro e w4 ⟨rfl, hB4⟩) | (refine wpList_alloc_hash rfl rfl ?_) | (refine wpList_put_hash rfl _ _ rfl w4.heap.size (sha (mkBytes x.ms)) (fun _ => 0) ?_ ?_ 45 (alloc_blk _ _) ?_; rfl; rfl; intro w5 h5 hK5))
          have hB5 : Below wr.heap.size wr w5 := hB4.trans (((below_alloc _ _).trans (hK5.below (Nat.le_refl _) (by simp))).mono hB4.size)
          have HH5 : Hid (w5.heap[w4.heap.size]? = some (.cells (row .u8 32 (sha (mkBytes x.ms))) 45 (0, 0))) := h5
          have hh4 : own w4.heap.size = none := HA.out.co.owned.fresh hB4.size
          have HH4 : Hid (own w4.heap.size = none ∧ w1.heap.size ≤ w4.heap.size) := ⟨hh4, Nat.le_trans HA.out.below.size hB4.size⟩
          have HA5 : Hid (AgI w1 L w5 L.length own x n u4 R) := ⟨HA.out.co.below hB5, HA.out.inv, HA.out.n, HA.out.ms, HA.out.over, HA.out.below.trans (hB5.mono HA.out.below.size), HA.out.row.below hB5, HA.out.lab, HA.out.len, HA.out.rem⟩
          obtain ⟨ha, H4⟩ : ∃ ha, Hid (w4.heap.size = ha) := ⟨_, rfl⟩
          rw [H4.out] at HH5 HH4 ⊢
          clear hB4 hB5 h5 hK5 hh4 HA H4
          go_wp2_with fail
          go_loopw [9] (fun iv wq => ∃ (i : Nat) (own : Own), i ≤ L.length ∧ iv = .int .i64 (i : Int) ∧ AgI w1 L wq L.length own x n u4 R ∧ own ha = none ∧ wq.heap[ha]? = some (.cells (row .u8 32 (sha (mkBytes x.ms))) 45 (0, 0))) (fun iv _ => L.length - (intOf iv).toNat)
          case atStart => exact ⟨0, own, Nat.zero_le _, rfl, HA5.out, HH4.out.1, HH5.out⟩
          case round =>
            clear HA5 HH5
            obtain ⟨i, ow, hi, rfl, hA, hoa, hha⟩ := hrel
            by_cases hlt : i < L.length
            · obtain ⟨o, hox⟩ : ∃ o, L[i]? = some o := ⟨L[i], List.getElem?_eq_getElem hlt⟩
              obtain ⟨ob, oo, rfl, c0, c1, c2, c3, c4, c5, c6, c7, c8⟩ := (HL.out.keep2 hA.below).get hox
              have hlt' : (i : Int) < (L.length : Int) := by omega
              have hi4 : (i : Int) < 50 := by have := HN.out; omega
              obtain ⟨r, hr1, hr2⟩ := hA.rem i o hlt hox
              have HO : Hid (o.Wide ∧ x.apply o.ok o = (r, [], x) ∧ R[i]? = some r ∧ i < L.length) := ⟨HW.out o (List.mem_of_getElem? hox), hr2.again, hr1, hlt⟩
              obtain ⟨gr, cr, rfl, hbr, hgr, hcr⟩ := hA.row.one (by rw [hA.len]; omega)
              rw [hA.len] at hA ⊢
              have hlr : ow gr = none := hA.lab gr rfl
              have HA : Hid (AgI w1 L wr L.length ow x n (.slice (some ⟨gr, 0, none⟩) L.length cr) R) := hA
              have HHA : Hid (ow ha = none ∧ wr.heap[ha]? = some (.cells (row .u8 32 (sha (mkBytes x.ms))) 45 (0, 0))) := ⟨hoa, hha⟩
              have HCR : Hid (ow gr = none ∧ gr < wr.heap.size ∧ ∀ k u, (rpC r)[k]? = some u → wr.cell? ⟨gr, i * 3 + k, none⟩ = some u) := ⟨hlr, hgr, hcr i r hr1⟩
              clear hox hlt hA hi hoa hha hr1 hr2 hbr hgr hcr hlr
              go_upto_region 17 with (first | (go_at_call 11; refine (apply_at ow _ _ x n HA.out.co o HO.out.1 HA.out.inv (by have := HA.out.n; have := HN.out; have := HO.out.2.2.2; omega)).mono ?_; rw [HO.out.2.1]; rintro e w4 ⟨v4, own4, rfl, hO4, hl4, hC4, hS4⟩) | (refine wpList_alloc_row rfl 28 rfl (rpC rp0) (by kernel_rfl) ?_) | (refine wpList_store_whole rfl 28 _ _ rfl w4.heap.size (rpC r) (rpC rp0) ?_ ?_ 28 (alloc_blk _ _) (by kernel_rfl) (rpC_all _) rfl ?_; rfl; rfl; intro w5 h5 hK5))
              have hB45 : Below w4.heap.size w4 w5 := (below_alloc _ _).trans (hK5.below (Nat.le_refl _) (by simp))
              have HA5 : Hid (AgI w1 L w5 L.length own4 x n (.slice (some ⟨gr, 0, none⟩) L.length cr) R) := (HA.out.again hC4 hS4).lay hB45
              have HHA5 : Hid (own4 ha = none ∧ w5.heap[ha]? = some (.cells (row .u8 32 (sha (mkBytes x.ms))) 45 (0, 0))) := ⟨hS4.unlab HHA.out.2 HHA.out.1, (hB45.block ha (lt_blk (hS4.keep HHA.out.2 HHA.out.1))).trans (hS4.keep HHA.out.2 HHA.out.1)⟩
              have HCR5 : Hid (∀ k u, (rpC r)[k]? = some u → w5.cell? ⟨gr, i * 3 + k, none⟩ = some u) := fun k u hu =>
                ((hB45.cell (p := ⟨gr, i * 3 + k, none⟩) (Nat.lt_of_lt_of_le HCR.out.2.1 hS4.size)).trans (World.cell?_of_block (a := ⟨gr, i * 3 + k, none⟩) (hS4.block HCR.out.2.1 fun l e => (by rw [HCR.out.1] at e; cases e)))).trans (HCR.out.2.2 k u hu)
              have hgr5 : gr < w5.heap.size := Nat.lt_of_lt_of_le (Nat.lt_of_lt_of_le HCR.out.2.1 hS4.size) hB45.size
              have H5 : Hid (w5.heap[w4.heap.size]? = some (.cells (rpC r) 28 (0, 0))) := h5
              have hl5 : w4.heap.size < w5.heap.size := lt_blk h5
              obtain ⟨a4, k4, e4⟩ := hO4.form
              rw [List.length_nil] at e4
              subst e4
              obtain ⟨q4, HQ4⟩ : ∃ q, Hid (w4.heap.size = q) := ⟨_, rfl⟩
              rw [HQ4.out] at H5 hl5 ⊢
              have HI : Hid (i < L.length) := HO.out.2.2.2
              clear hB45 hO4 hl4 hC4 hS4 hK5 h5 HA HHA HCR HO c0 c1 c2 c3 c4 c5 c6 c7 c8 HQ4
              refine wp_region_growG (by kernel_rfl) (by kernel_rfl) (fun xS => { tmps := (Value.slice (some (⟨ob, oo, none⟩ : Addr)) L.length cap :: undef :: u2 :: Value.pointer (some (⟨w1.heap.size, 0, none⟩ : Addr)) :: Value.slice (some (⟨gr, 0, none⟩ : Addr)) L.length cr :: Value.int IntKind.i64 (L.length : Int) :: u6 :: u7 :: Value.pointer (some (⟨ha, 0, none⟩ : Addr)) :: Value.int IntKind.i64 (i : Int) :: Value.pointer (some (⟨q4, 0, none⟩ : Addr)) :: Value.slice a4 0 k4 :: Value.slice (some (⟨ob, oo, none⟩ : Addr)) L.length cap :: Value.bool false :: Value.bool false :: Value.slice (some (⟨ob, oo, none⟩ : Addr)) L.length cap :: Value.int IntKind.i64 (L.length : Int) :: Value.bool (decide (40 < (L.length : Int))) :: Value.bool (decide (40 < (L.length : Int))) :: Value.pointer (some (⟨w1.heap.size, 0, none⟩ : Addr)) :: Value.pointer (some (⟨w1.heap.size, 0, none⟩ : Addr)) :: Value.bool false :: Value.int IntKind.i64 (L.length : Int) :: Value.slice (some (⟨ob, oo, none⟩ : Addr)) L.length cap :: Value.int IntKind.i64 (L.length : Int) :: Value.bool false :: u26 :: u27 :: u28 :: u29 :: u30 :: u31 :: u32 :: u33 :: u34 :: u35 :: u36 :: u37 :: u38 :: u39 :: u40 :: Value.pointer (some (⟨w1.heap.size, 0, none⟩ : Addr)) :: Value.agg (row IntKind.u8 32 (sha (mkBytes x.ms))) :: Value.int IntKind.i64 (i : Int) :: Value.slice (some (⟨ob, oo, none⟩ : Addr)) L.length cap :: Value.int IntKind.i64 (L.length : Int) :: Value.bool true :: u47 :: u48 :: Value.tuple #[Value.agg (rpC r), Value.slice a4 0 k4] :: Value.pointer (some (⟨w1.heap.size, 0, none⟩ : Addr)) :: Value.slice (some (⟨ob, oo, none⟩ : Addr)) L.length cap :: Value.int IntKind.i64 (i : Int) :: Value.pointer (some (⟨ob, oo + i * 9, none⟩ : Addr)) :: Value.agg #[Value.int IntKind.i64 o.k, Value.int IntKind.i64 o.c, Value.int IntKind.i64 o.s, Value.string o.n, Value.int IntKind.i64 o.p, Value.int IntKind.i64 o.e, Value.int IntKind.i64 o.t, Value.int IntKind.i64 o.r, Value.bool o.b] :: Value.tuple #[Value.agg (rpC r), Value.slice a4 0 k4] :: Value.agg (rpC r) :: Value.slice a4 0 k4 :: xS 0 :: xS 1 :: xS 2 :: xS 3 :: xS 4 :: xS 5 :: xS 6 :: xS 7 :: xS 8 :: xS 9 :: xS 10 :: undef :: undef :: undef :: undef :: undef :: undef :: undef :: []).toArray, defers := [] })
                (fun ii xx WW => match ii with | 0 => xx = .agg (rpC r) | 1 => xx = Value.slice (some (⟨gr, 0, none⟩ : Addr)) L.length cr | 2 => xx = Value.int IntKind.i64 (i : Int) | 3 => xx = .pointer (some ⟨gr, i * 3, none⟩) | 4 => xx = .agg (rpC r) | 5 => xx = .bool false | 6 => xx = .bool false | 7 => xx = Value.slice a4 0 k4 | 8 => xx = .int .i64 0 | 9 => xx = .bool false | 10 => xx = .bool false | _ => True) (fun | 0 => u58 | 1 => u59 | 2 => u60 | 3 => u61 | 4 => u62 | 5 => u63 | 6 => u64 | 7 => u65 | 8 => u66 | 9 => u67 | 10 => u68 | _ => undef) (by repeat (first | exact trivial | refine ⟨fun _ _ => rfl, ?_⟩)) (fun _ _ _ _ _ h => h) ⟨?_, ?_, ?_, ?_, ?_, ?_, ?_, ?_, ?_, ?_, ?_, trivial⟩ ?_
              · intro xS W hB hp K hK
                rw [if_pos (wanted_none rfl _)]
                clear hp
                refine wp_load_agg 28 (by kernel_rfl) _ rfl q4 (rpC r) 28 (0, 0) ?_ ((hB.block q4 hl5).trans H5.out) (by kernel_rfl) ?_
                · rfl
                exact hK _ _ (Below.refl _ _) rfl
              · intro xS W hB hp K hK
                rw [if_pos (wanted_none rfl _)]
                clear hp
                go_simp
                exact hK _ _ (Below.refl _ _) rfl
              · intro xS W hB hp K hK
                rw [if_pos (wanted_none rfl _)]
                clear hp
                go_simp
                exact hK _ _ (Below.refl _ _) rfl
              · intro xS W hB hp K hK
                rw [if_pos (wanted_none rfl _)]
                have h1 : xS 1 = Value.slice (some (⟨gr, 0, none⟩ : Addr)) L.length cr := hp.1 rfl
                have h2 : xS 2 = Value.int IntKind.i64 (i : Int) := hp.2.1 rfl
                clear hp
                simp only [h1, h2] at hK ⊢
                clear h1 h2
                go_simp
                exact hK _ _ (Below.refl _ _) rfl
              · intro xS W hB hp K hK
                rw [if_pos (wanted_none rfl _)]
                have h3 : xS 3 = .pointer (some ⟨gr, i * 3, none⟩) := hp.1 rfl
                clear hp
                refine wp_load_rpAt _ rfl gr (i * 3) r ?_ (fun k u hu => (hB.cell (p := ⟨gr, i * 3 + k, none⟩) hgr5).trans (HCR5.out k u hu)) ?_
                · exact h3
                exact hK _ _ (Below.refl _ _) rfl
              · intro xS W hB hp K hK
                rw [if_pos (wanted_none rfl _)]
                have h0 : xS 0 = .agg (rpC r) := hp.1 rfl
                have h4 : xS 4 = .agg (rpC r) := hp.2.1 rfl
                clear hp
                have heq := equal_rp r r
                rw [rpE_self] at heq
                simp only [h0, h4] at hK ⊢
                clear h0 h4
                go_simp
                exact hK _ _ (Below.refl _ _) rfl
              · intro xS W hB hp K hK
                rw [if_pos (wanted_none rfl _)]
                have h5 : xS 5 = .bool false := hp.1 rfl
                clear hp
                simp only [h5] at hK ⊢
                clear h5
                go_simp
                exact hK _ _ (Below.refl _ _) rfl
              · intro xS W hB hp K hK
                have hgd : xS 6 = .bool false := hp.1 rfl
                rw [wanted_g (b := false) rfl (by show (match some (xS 6) with | some (.bool b) => some b | _ => none) = some false; rw [hgd])]
                rw [if_pos (show (false == false) = true from rfl)]
                clear hgd
                clear hp
                go_simp
                exact hK _ _ (Below.refl _ _) rfl
              · intro xS W hB hp K hK
                have hgd : xS 6 = .bool false := hp.2.1 rfl
                rw [wanted_g (b := false) rfl (by show (match some (xS 6) with | some (.bool b) => some b | _ => none) = some false; rw [hgd])]
                rw [if_pos (show (false == false) = true from rfl)]
                clear hgd
                have h7 : xS 7 = Value.slice a4 0 k4 := hp.1 rfl
                clear hp
                simp only [h7] at hK ⊢
                clear h7
                go_simp
                exact hK _ _ (Below.refl _ _) rfl
              · intro xS W hB hp K hK
                have hgd : xS 6 = .bool false := hp.2.1 rfl
                rw [wanted_g (b := false) rfl (by show (match some (xS 6) with | some (.bool b) => some b | _ => none) = some false; rw [hgd])]
                rw [if_pos (show (false == false) = true from rfl)]
                clear hgd
                have h8 : xS 8 = .int .i64 0 := hp.1 rfl
                clear hp
                simp only [h8] at hK ⊢
                clear h8
                go_simp
                exact hK _ _ (Below.refl _ _) rfl
              · intro xS W hB hp K hK
                rw [if_pos (wanted_none rfl _)]
                have h6 : xS 6 = .bool false := hp.1 rfl
                have h9 : xS 9 = .bool false := hp.2.1 rfl
                clear hp
                simp only [h6, h9] at hK ⊢
                clear h6 h9
                go_simp
                exact hK _ _ (Below.refl _ _) rfl
              intro xS W3 hB3 hs
              have h10 : xS 10 = .bool false := hs 10 (by simp)
              clear hs
              simp only [h10]
              go_wp2_with fail
              have hii := HI.out
              go_roundw
              case rel => exact ⟨i + 1, own4, by omega, by go_num, HA5.out.lay hB3, HHA5.out.1, (hB3.block ha (lt_blk HHA5.out.2)).trans HHA5.out.2⟩
              case measure => simp [intOf]; omega
            · obtain rfl : i = L.length := by omega
              have HA : Hid (AgI w1 L wr L.length ow x n u4 R) := hA
              have HHA : Hid (wr.heap[ha]? = some (.cells (row .u8 32 (sha (mkBytes x.ms))) 45 (0, 0))) := hha
              have hal := lt_blk hha
              have hBw := hA.below
              clear hA hha hoa hi hlt
              go_upto_region 19 with fail
              refine wp_region_growG (by kernel_rfl) (by kernel_rfl) (fun xS => { tmps := (Value.slice a L.length cap :: undef :: xS 7 :: Value.pointer (some (⟨w1.heap.size, 0, none⟩ : Addr)) :: u4 :: Value.int IntKind.i64 (L.length : Int) :: u6 :: u7 :: Value.pointer (some (⟨ha, 0, none⟩ : Addr)) :: Value.int IntKind.i64 (L.length : Int) :: u10 :: u11 :: Value.slice a L.length cap :: Value.bool false :: Value.bool false :: Value.slice a L.length cap :: Value.int IntKind.i64 (L.length : Int) :: Value.bool (decide (40 < (L.length : Int))) :: Value.bool (decide (40 < (L.length : Int))) :: Value.pointer (some (⟨w1.heap.size, 0, none⟩ : Addr)) :: Value.pointer (some (⟨w1.heap.size, 0, none⟩ : Addr)) :: Value.bool false :: Value.int IntKind.i64 (L.length : Int) :: Value.slice a L.length cap :: Value.int IntKind.i64 (L.length : Int) :: Value.bool false :: u26 :: u27 :: u28 :: u29 :: u30 :: u31 :: u32 :: u33 :: u34 :: u35 :: u36 :: u37 :: u38 :: u39 :: u40 :: Value.pointer (some (⟨w1.heap.size, 0, none⟩ : Addr)) :: Value.agg (row IntKind.u8 32 (sha (mkBytes x.ms))) :: Value.int IntKind.i64 (L.length : Int) :: Value.slice a L.length cap :: Value.int IntKind.i64 (L.length : Int) :: Value.bool false :: u47 :: u48 :: u49 :: u50 :: u51 :: u52 :: u53 :: u54 :: u55 :: u56 :: u57 :: u58 :: u59 :: u60 :: u61 :: u62 :: u63 :: u64 :: u65 :: u66 :: u67 :: u68 :: xS 0 :: xS 1 :: xS 2 :: xS 3 :: xS 4 :: xS 5 :: xS 6 :: []).toArray, defers := [] })
                (fun ii xx WW => match ii with | 0 => xx = Value.pointer (some (⟨w1.heap.size, 0, none⟩ : Addr)) | 1 => xx = .agg (row .u8 32 (sha (mkBytes x.ms))) | 2 => xx = .agg (row .u8 32 (sha (mkBytes x.ms))) | 3 => xx = .bool true | 4 => xx = .bool true | 5 => xx = .bool true | 6 => xx = .bool true | 7 => xx = .bool true | _ => True) (fun | 0 => undef | 1 => undef | 2 => undef | 3 => undef | 4 => undef | 5 => undef | 6 => undef | 7 => u2 | _ => undef) (by repeat (first | exact trivial | refine ⟨fun _ _ => rfl, ?_⟩)) (fun _ _ _ _ _ h => h) ⟨?_, ?_, ?_, ?_, ?_, ?_, ?_, ?_, trivial⟩ ?_
              · intro xS W hB hp K hK
                rw [if_pos (wanted_none rfl _)]
                clear hp
                go_simp
                exact hK _ _ (Below.refl _ _) rfl
              · intro xS W hB hp K hK
                rw [if_pos (wanted_none rfl _)]
                have h0 : xS 0 = Value.pointer (some (⟨w1.heap.size, 0, none⟩ : Addr)) := hp.1 rfl
                clear hp
                simp only [h0] at hK ⊢
                clear h0
                go_simp
                refine (Sum_at ow _ _ x (HA.out.co.below hB) (by have := HA.out.inv.ms; have := HA.out.n; have := HN.out; omega) HA.out.ms).mono ?_
                rintro e w' ⟨rfl, hB'⟩
                exact hK _ _ hB' rfl
              · intro xS W hB hp K hK
                rw [if_pos (wanted_none rfl _)]
                clear hp
                refine wp_load_agg 45 (by kernel_rfl) _ rfl ha (row .u8 32 (sha (mkBytes x.ms))) 45 (0, 0) ?_ ((hB.block ha hal).trans HHA.out) (row_info size_hash _) ?_
                · rfl
                exact hK _ _ (Below.refl _ _) rfl
              · intro xS W hB hp K hK
                rw [if_pos (wanted_none rfl _)]
                have h1 : xS 1 = .agg (row .u8 32 (sha (mkBytes x.ms))) := hp.1 rfl
                have h2 : xS 2 = .agg (row .u8 32 (sha (mkBytes x.ms))) := hp.2.1 rfl
                clear hp
                have heq := equalIn_hash (sha (mkBytes x.ms)) (sha (mkBytes x.ms))
                rw [rowEq_self] at heq
                simp only [h1, h2] at hK ⊢
                clear h1 h2
                go_simp
                exact hK _ _ (Below.refl _ _) rfl
              · intro xS W hB hp K hK
                rw [if_pos (wanted_none rfl _)]
                have h3 : xS 3 = .bool true := hp.1 rfl
                clear hp
                simp only [h3] at hK ⊢
                clear h3
                go_simp
                exact hK _ _ (Below.refl _ _) rfl
              · intro xS W hB hp K hK
                have hgd : xS 4 = .bool true := hp.1 rfl
                rw [wanted_g (b := true) rfl (by show (match some (xS 4) with | some (.bool b) => some b | _ => none) = some true; rw [hgd])]
                rw [if_pos (show (true == true) = true from rfl)]
                clear hgd
                clear hp
                go_simp
                refine (known_at _).mono ?_
                rintro e w' ⟨rfl, hB'⟩
                exact hK _ _ hB' rfl
              · intro xS W hB hp K hK
                rw [if_pos (wanted_none rfl _)]
                have h4 : xS 4 = .bool true := hp.1 rfl
                have h5 : xS 5 = .bool true := hp.2.1 rfl
                clear hp
                simp only [h4, h5] at hK ⊢
                clear h4 h5
                go_simp
                exact hK _ _ (Below.refl _ _) rfl
              · intro xS W hB hp K hK
                rw [if_pos (wanted_none rfl _)]
                have h6 : xS 6 = .bool true := hp.1 rfl
                clear hp
                simp only [h6] at hK ⊢
                clear h6
                go_simp
                exact hK _ _ (Below.refl _ _) rfl
              intro xS W3 hB3 hs
              have h7 : xS 7 = .bool true := hs 7 (by simp)
              clear hs
              simp only [h7]
              go_wp2_with fail
              go_ret
              exact ⟨rfl, hBw.trans (hB3.mono hBw.size)⟩
  · go_wp2_with fail
    go_ret
    exact ⟨rfl, Below.refl _ _⟩
end Go.Proofs.Ytoihfhlelbdboaa
namespace Go.Proofs.Ytoihfhlelbdboaa.coordAgain
open Go.ChangeShapes Go.WideShapes Go.ChangeAt Go.RowKit Go.Dig
open Go.ChangeMaps (open_string shut_string)
set_option linter.unusedVariables false

theorem laidOut : laidOutB Try.prog = true := by kernel_rfl
theorem own : ownKnob Try.prog.godebug = none := by kernel_rfl

set_option maxRecDepth 100000 in
theorem lifted (os : Os) (started : os.Started) (H : Type) (enc : TypeId × Value → H) :
    ReturnsInHanded {} Try.checked os 4 .any (Rows.coordAgainSpec.pre6 enc Try.prog Try.f4 Rows.coordAgainRow.domain false) (Rows.coordAgainSpec.post enc Try.prog Try.f4 false true false false) := by
  refine returnsInHanded_of_change (C := Try.checked) own started (by kernel_rfl) Try.func4
    (ChangeSpec.witness6 (enc := enc) (C := Try.checked) false ⟨#[], #[.slice none 0 0], []⟩ 8 (by kernel_rfl) (by kernel_rfl) (by kernel_rfl) (by kernel_rfl)) ?_
  intro W base args ds gs before hval0 hW hcnd _
  have hval : ∀ (j : Nat) t v, Try.f4.params[j]? = some t → args[j]? = some v → Value.okWide Try.prog W .any base t v := hval0
  have hW' := hW
  obtain ⟨p, q, hA0, hV, rfl, hfz, hnd⟩ := hW
  have hA : DataW.TrodAll enc Try.prog W 0 (fun _ => true) true Try.f4.params.toList args.toList ds p := hA0
  rw [Try.params4] at hA hval
  obtain ⟨v0, vs0, d0, ds0, p0, q0, hargs, rfl, rfl, h0, r0⟩ := trodAll_cons hA
  obtain ⟨rfl, rfl, rfl⟩ := trodAll_nil r0
  obtain rfl : args = #[v0] := by cases args; simp_all
  obtain ⟨rfl, rfl⟩ := trodVars_none hV
  have k0 := h0
  have lt0 : ∀ x ∈ p0, x.block < W.heap.size := by obtain ⟨m, hm⟩ := k0; exact DataW.trod_lt m _ _ _ hm
  obtain ⟨o0, len0, c0, rfl⟩ := okWide_slice Try.underlying22 (hval 0 22 v0 rfl rfl)
  obtain ⟨L0, rfl, l0, y0⟩ : ∃ L : List OpF, len0 = L.length ∧ OpsAt W o0 L ∧ ∀ y ∈ L, y.Wide := by
    obtain ⟨fuel, hf⟩ := h0
    exact ops_cells hf
  clear hA0 hval0
  refine (Again_law W o0 c0 L0 l0 y0).mono fun e W' ⟨he, bel⟩ => ?_
  subst he
  exact ⟨_, rfl, _, _, _, [], _, [], hW', trodAll_mk1 (shut_bool Try.underlying4 _), (trodAll_cons_mk (Below.trod laidOut (by kernel_rfl) (of_decide_eq_true (by kernel_rfl)) k0 bel lt0) trodAll_mk0), rfl, bel.frame _, fun h => by cases h⟩

theorem over : Rows.coordAgainRow.holds Try.pinned (OpenSpec.ofChange Rows.coordAgainSpec) :=
  OpenClaim.holds_of_wide 4 Try.f4 rfl rfl rfl rfl rfl rfl rfl ⟨rfl, rfl, rfl, rfl, rfl⟩ rfl rfl rfl rfl rfl (by kernel_rfl) Try.func4 (by kernel_rfl)
    (of_decide_eq_true (by kernel_rfl)) (by unfold Func.isWrapper; first | (rw [if_pos (by decide +kernel)]; kernel_rfl) | (rw [if_neg (by decide +kernel)]; exact ⟨rfl, rfl⟩))
    (fun os started H enc _ => lifted os started H enc)

theorem proved : Rows.CoordAgainSaid := over
#print axioms proved
end Go.Proofs.Ytoihfhlelbdboaa.coordAgain
