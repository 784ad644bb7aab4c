/- A new coordinator. -/
import Derived.Test.YtoihfhlelbdboaaCoX
namespace Go.Proofs.Ytoihfhlelbdboaa
open Go.RowKit Go.Dig Go.Inv Go.Oct Go.Hold
set_option linter.unusedVariables false
set_option linter.unusedSimpArgs false

def coC (a b : Option Addr) : Array Value := #[.pointer a, .pointer b, .slice none 0 0, .int .i64 0]
theorem coS_none (w : World) (cb pb rb : Nat) (hc : w.heap[cb]? = some (.cells (coC (some ⟨pb, 0, none⟩) (some ⟨rb, 0, none⟩)) 56 (0, 0))) (hp : Pp.Tab w pb []) (hr : Rp.Tab w rb []) (h1 : cb ≠ pb) (h2 : cb ≠ rb) (h3 : pb ≠ rb) :
    CoS (fun k => if k = cb then some .co else if k = pb then some .tp else if k = rb then some .tr else none) w cb Co.none pb rb (.slice none 0 0) [] := by
  refine ⟨fun k l hk => ?_, hc, by simp, by simp [h1.symm], by simp [h2.symm, h3.symm], hp, hr, OwnM.nil _ _, fun k hk => (by cases hk), rfl, fun i p hi => by simp [Co.none] at hi⟩
  try dsimp only at hk
  split at hk
  · rename_i e; subst e; exact lt_blk hc
  · split at hk
    · rename_i e; subst e; exact hp.lt
    · split at hk
      · rename_i e; subst e; exact hr.lt
      · cases hk
set_option maxRecDepth 100000 in
set_option maxHeartbeats 1000000 in
theorem prepare_new (w : World) (cb : Nat) (hc : w.heap[cb]? = some (.cells (coC none none) 56 (0, 0))) :
    Calls Try.prog 18 #[.pointer (some ⟨cb, 0, none⟩)] w fun e w' => (∃ v, e = .returned v) ∧ ∃ pb rb, w'.heap[cb]? = some (.cells (coC (some ⟨pb, 0, none⟩) (some ⟨rb, 0, none⟩)) 56 (0, 0)) ∧ Pp.Tab w' pb [] ∧ Rp.Tab w' rb [] ∧ w.heap.size ≤ pb ∧ pb < rb ∧ Frm (· = cb) w w' := by
  have c0 : w.cell? ⟨cb, 0, none⟩ = some (.pointer none) := cell_blk hc 0
  have hcl := lt_blk hc
  go_enter Try.func18, Try.ntmps18
  go_wp2_with fail
  refine (Pp.New_any _).mono ?_
  rintro e w1 ⟨rfl, hT1, hB1⟩
  have hb1 := (hB1.block _ hcl).trans hc
  have d0 : w1.cell? ⟨cb, 0, none⟩ = some (.pointer none) := cell_blk hb1 0
  have f0 := frozen_blk hb1 0
  have hb2 := set_blk hb1 0 (.pointer (some ⟨w.heap.size, 0, none⟩))
  have hT2 : Pp.Tab (w1.setCell ⟨cb, 0, none⟩ (.pointer (some ⟨w.heap.size, 0, none⟩))) w.heap.size [] := hT1.frmL (Frm.setCell _ _ _ _) (by omega) (fun k e z => by subst e; rw [cell_blk hb1]; simp [coC])
  have hF2 : Frm (· = cb) w (w1.setCell ⟨cb, 0, none⟩ (.pointer (some ⟨w.heap.size, 0, none⟩))) := (Frm.of_below hB1).trans (Frm.setCell _ _ _ _)
  obtain ⟨w2, HW2⟩ : ∃ w2, Hid (w1.setCell ⟨cb, 0, none⟩ (.pointer (some ⟨w.heap.size, 0, none⟩)) = w2) := ⟨_, rfl⟩
  rw [HW2.out] at hb2 hT2 hF2
  have HT2 : Hid (Pp.Tab w2 w.heap.size []) := hT2
  have HF2 : Hid (Frm (· = cb) w w2) := hF2
  have HB2 : Hid (w2.heap[cb]? = some (.cells (coC (some ⟨w.heap.size, 0, none⟩) none) 56 (0, 0))) := hb2
  clear hT2 hF2 hb2 hT1 hB1 hb1 c0 hc
  go_wp2_with (rw [HW2.out])
  refine (Rp.New_any _).mono ?_
  rintro e w3 ⟨rfl, hT3, hB3⟩
  have hb3 := (hB3.block _ (lt_blk HB2.out)).trans HB2.out
  have d1 : w3.cell? ⟨cb, 1, none⟩ = some (.pointer none) := cell_blk hb3 1
  have f1 := frozen_blk hb3 1
  have hne : w2.heap.size ≠ cb := by have := lt_blk HB2.out; omega
  have hsz : w.heap.size < w2.heap.size := HT2.out.lt
  have hpc : w.heap.size ≠ cb := by omega
  clear d0 f0
  go_wp2_with fail
  have hlo : ∀ k, k = cb → (∀ z, w3.cell? ⟨k, 3, none⟩ ≠ some (.pointer z)) ∧ ∀ z, w3.cell? ⟨k, 5, none⟩ ≠ some (.pointer z) := fun k e => by
    subst e
    exact ⟨fun z => by rw [cell_blk hb3]; simp [coC], fun z => by rw [cell_blk hb3]; simp [coC]⟩
  exact bodyPost_end (v := .tuple #[]) (by simp [results, Try.results18, go_sem]) rfl ⟨⟨_, rfl⟩, w.heap.size, w2.heap.size, set_blk hb3 1 (.pointer (some ⟨w2.heap.size, 0, none⟩)), (HT2.out.grow hB3).frmL (Frm.setCell _ _ _ _) hpc (fun k e => (hlo k e).1), hT3.frmL (Frm.setCell _ _ _ _) hne (fun k e => (hlo k e).2), Nat.le_refl _, hsz, (HF2.out.trans (Frm.of_below hB3)).trans (Frm.setCell _ _ _ _)⟩
set_option maxRecDepth 100000 in
set_option maxHeartbeats 1000000 in
theorem New_at (w : World) : Calls Try.prog 10 #[] w fun e w' => ∃ own, e = .returned (.pointer (some ⟨w.heap.size, 0, none⟩)) ∧ CoAt own w' w.heap.size Co.none ∧ Over w.heap.size own ∧ Below w.heap.size w w' := by
  have hB0 := below_alloc w (.cells (coC none none) 56)
  have hc : (w.alloc (.cells (coC none none) 56)).heap[w.heap.size]? = some (.cells (coC none none) 56 (0, 0)) := alloc_blk _ _
  go_enter Try.func10, Try.ntmps10
  go_wp2_with (first | (refine wpList_build_to rfl 56 _ rfl (coC none none) (by kernel_rfl) ?_) | (refine wpList_box_row rfl 56 _ rfl (coC none none) ?_ ?_; rfl) | (go_at_call 18; refine (prepare_new _ w.heap.size hc).mono ?_; rintro e w1 ⟨⟨v1, rfl⟩, pb, rb, h1, h2, h3, h4, h5, h6⟩))
  have hs : (w.alloc (.cells (coC none none) 56)).heap.size = w.heap.size + 1 := by simp
  go_ret
  refine ⟨_, rfl, ⟨pb, rb, _, [], coS_none w1 w.heap.size pb rb h1 h2 h3 (by omega) (by omega) (by omega)⟩, fun k l hk => ?_, hB0.trans (h6.below (by omega) (fun k hk e => by omega))⟩
  try dsimp only at hk
  split at hk
  · omega
  · split at hk
    · omega
    · split at hk
      · omega
      · cases hk
end Go.Proofs.Ytoihfhlelbdboaa
