/- known: a transaction of its own. -/
import Derived.Test.YtoihfhlelbdboaaCoO
namespace Go.Proofs.Ytoihfhlelbdboaa
open Go.RowKit Go.Dig Go.Inv Go.Oct Go.Hold
set_option linter.unusedVariables false
set_option linter.unusedSimpArgs false

/-- a block without a label lies on -/
theorem Step.keep {P : Lab → Prop} {own own' : Own} {w w' : World} (h : Step P own own' w w') {k : Nat} {o : Obj} (hk : w.heap[k]? = some o) (hn : own k = none) : w'.heap[k]? = some o :=
  (h.block (lt_blk hk) fun l e => by rw [hn] at e; cases e).trans hk
theorem Step.unlab {P : Lab → Prop} {own own' : Own} {w w' : World} (h : Step P own own' w w') {k : Nat} {o : Obj} (hk : w.heap[k]? = some o) (hn : own k = none) : own' k = none := (h.old k (lt_blk hk)).trans hn
theorem CoAt.owned {own : Own} {w : World} {cb : Nat} {x : Co} (h : CoAt own w cb x) : Owned own w := by obtain ⟨_, _, _, _, h⟩ := h; exact h.owned
theorem Owned.fresh {own : Own} {w : World} (h : Owned own w) {k : Nat} (hk : w.heap.size ≤ k) : own k = none := by
  cases hh : own k with
  | none => rfl
  | some l => have := h k l hh; omega
/-- a row of marks, cell by cell -/
theorem OwnM.cell1 {w : World} {base : Nat} {v : Value} {m : Mk} (h : OwnM w base v [m]) : ∃ g c, v = .slice (some ⟨g, 0, none⟩) 1 c ∧ base ≤ g ∧ ∀ j u, (mkC [m])[j]? = some u → w.cell? ⟨g, j, none⟩ = some u := by
  obtain ⟨ao, c, rfl⟩ := h.form
  rcases h.1.2 with ⟨e, h0⟩ | ⟨g, cap, cur, e, hb, _⟩
  · simp at h0
  · cases e
    refine ⟨g, c, rfl, hb, fun j u hu => ?_⟩
    have := h.cells.2 j u hu
    rwa [addr_add, Nat.zero_add] at this
set_option maxRecDepth 100000 in
set_option maxHeartbeats 4000000 in
theorem known_at (w : World) : Calls Try.prog 15 #[] w fun e w' => e = .returned (.bool true) ∧ Below w.heap.size w w' := by
  go_enter Try.func15, Try.ntmps15
  go_wp2_with (first | (refine wpList_build_to rfl 33 #[(0, .const (.int .i64 1)), (3, .const (.string ⟨#[97]⟩))] rfl op1.cells (by kernel_rfl) ?_) | (go_at_call 10; refine (New_at _).mono ?_; rintro e w1 ⟨own1, rfl, h1, ho1, hB1⟩) | (go_at_call 11; refine (apply_lit own1 _ _ Co.none 0 h1 op1 op1_in Co.inv_none (by omega) op1_ok _ _ _ co1_eq).mono ?_; rintro e w2 ⟨⟨v2, own2, rfl, hO2, hl2, hC2, hS2⟩, hI2⟩) | (refine wpList_alloc_row rfl 28 rfl (rpC rp0) (by kernel_rfl) ?_) | (refine wpList_store_whole rfl 28 _ _ rfl w2.heap.size (rpC ⟨0, 0, 0⟩) (rpC rp0) ?_ ?_ 28 (alloc_blk _ _) (by kernel_rfl) (rpC_all _) rfl ?_; rfl; rfl))
  intro w3 h3 hK3
  have hB3 : Below w2.heap.size w2 w3 := (below_alloc _ _).trans (hK3.below (Nat.le_refl _) (by simp))
  have hO2' := ho1.step hS2 hB1.size
  have hBt2 : Below w.heap.size w w2 := hB1.trans (ho1.below hS2 hB1.size)
  obtain ⟨g2, n2, rfl, hg2, hc2⟩ := hO2.cell1
  have hgl2 : g2 < w2.heap.size := (hO2.lt g2 rfl).2
  have hn2 : own2 g2 = none := hl2 g2 rfl
  have hz2 : own2 w2.heap.size = none := hC2.owned.fresh (Nat.le_refl _)
  have hC3 := hC2.below hB3
  clear hC2 hO2 hl2 h1 hS2 ho1
  go_wp2_with (first | (refine wpList_build_to rfl 33 #[(0, .const (.int .i64 2)), (2, .const (.int .i64 1)), (6, .const (.int .i64 1))] rfl op2.cells (by kernel_rfl) ?_) | (refine wpList_build_to rfl 33 #[(0, .const (.int .i64 3)), (2, .const (.int .i64 2)), (6, .const (.int .i64 1)), (8, .const (.bool true))] rfl op3.cells (by kernel_rfl) ?_) | (go_at_call 11; refine (apply_lit own2 _ _ co1 1 hC3 op2 op2_in hI2 (by omega) op2_ok _ _ _ co2_eq).mono ?_; rintro e w4 ⟨⟨v4, own4, rfl, hO4, hl4, hC4, hS4⟩, hI4⟩; have hL4 : w.heap.size ≤ w3.heap.size := Nat.le_trans hBt2.size hB3.size; have hBt4 := (hBt2.trans (hB3.mono hBt2.size)).trans ((hO2'.below hS4 hL4)); have h4 := hS4.keep h3 hz2; have hO4' := hO2'.step hS4 hL4; have hn4 := (hS4.old g2 (Nat.lt_of_lt_of_le hgl2 hB3.size)).trans hn2; have hz4 := (hS4.old _ (lt_blk h3)).trans hz2; have hE4 : ∀ j, w4.cell? ⟨g2, j, none⟩ = w2.cell? ⟨g2, j, none⟩ := fun j => (World.cell?_of_block (a := ⟨g2, j, none⟩) (hS4.block (Nat.lt_of_lt_of_le hgl2 hB3.size) fun l e => by rw [hn2] at e; cases e)).trans (World.cell?_of_block (a := ⟨g2, j, none⟩) (hB3.block g2 hgl2)); clear hS4 hC3 hI2) | (go_at_call 11; refine (apply_lit own4 _ _ co2 2 hC4 op3 op3_in hI4 (by omega) op3_ok _ _ _ co3_eq).mono ?_; rintro e w6 ⟨⟨v6, own6, rfl, hO6, hl6, hC6, hS6⟩, hI6⟩) | (refine wpList_alloc_row rfl 28 rfl (rpC rp0) (by kernel_rfl) ?_) | (refine wpList_store_whole rfl 28 _ _ rfl w6.heap.size (rpC ⟨0, 0, 0⟩) (rpC rp0) ?_ ?_ 28 (alloc_blk _ _) (by kernel_rfl) (rpC_all _) rfl ?_; rfl; rfl))
  intro w7 h7 hK7
  have hB7 : Below w6.heap.size w6 w7 := (below_alloc _ _).trans (hK7.below (Nat.le_refl _) (by simp))
  have hL4 : w.heap.size ≤ w4.heap.size := hBt4.size
  have hBt6 : Below w.heap.size w w6 := hBt4.trans (hO4'.below hS6 hL4)
  have hBt7 : Below w.heap.size w w7 := hBt6.trans (hB7.mono hBt6.size)
  obtain ⟨g6, n6, rfl, hg6, hc6⟩ := hO6.cell1
  have hgl6 : g6 < w6.heap.size := (hO6.lt g6 rfl).2
  have hcl4 : g2 < w4.heap.size := by have := lt_blk h4; omega
  have hh : w7.heap[w2.heap.size]? = some (.cells (rpC ⟨0, 0, 0⟩) 28 (0, 0)) := (hB7.block _ (Nat.lt_of_lt_of_le (lt_blk h4) hS6.size)).trans (hS6.keep h4 hz4)
  have r0 : w7.cell? ⟨w2.heap.size, 0, none⟩ = some (.int .i64 0) := cell_blk hh 0
  have m0 : w7.cell? ⟨g2, 0, none⟩ = some (.int .i64 1) := by
    refine (hB7.cell (p := ⟨g2, 0, none⟩) (Nat.lt_of_lt_of_le hcl4 hS6.size)).trans ((World.cell?_of_block (a := ⟨g2, 0, none⟩) (hS6.block hcl4 fun l e => by rw [hn4] at e; cases e)).trans ((hE4 0).trans (hc2 0 _ rfl)))
  have n0 : ∀ j u, (mkC [⟨2, 0, 0, 1⟩])[j]? = some u → w7.cell? ⟨g6, j, none⟩ = some u := fun j u hu => (hB7.cell (p := ⟨g6, j, none⟩) hgl6).trans (hc6 j u hu)
  have q0 : w7.cell? ⟨g6, 0, none⟩ = some (.int .i64 2) := n0 0 _ rfl
  have q1 : w7.cell? ⟨g6, 1, none⟩ = some (.int .i64 0) := n0 1 _ rfl
  have q2 : w7.cell? ⟨g6, 2, none⟩ = some (.int .i64 0) := n0 2 _ rfl
  have q3 : w7.cell? ⟨g6, 3, none⟩ = some (.int .i64 1) := n0 3 _ rfl
  clear n0 hc6
  clear hB7 hK7 h7 hC6 hS6 hI6 hO6 hl6 hO4' hC4 hO4 hl4 hI4 hE4 hBt4 hBt6 h4 hz4 hn4 hh hB3 hK3 h3 hc2 hn2 hz2 hO2'
  go_wp2_with fail
  go_ret
  exact ⟨rfl, hBt7⟩
end Go.Proofs.Ytoihfhlelbdboaa
