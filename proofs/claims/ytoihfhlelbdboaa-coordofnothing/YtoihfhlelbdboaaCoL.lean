/- A nil coordinator. -/
import Derived.Test.YtoihfhlelbdboaaCoP
namespace Go.Proofs.Ytoihfhlelbdboaa
open Go.RowKit Go.Dig Go.Inv Go.Oct Go.Hold
set_option linter.unusedVariables false
set_option linter.unusedSimpArgs false

set_option maxHeartbeats 1000000 in
theorem Apply_nil (w : World) (o : OpF) : Calls Try.prog 11 #[.pointer none, .agg o.cells] w fun e w' => e = .returned (.tuple #[.agg (rpC (err 6)), .slice none 0 0]) ∧ Below w.heap.size w w' := by
  have hB0 : Below w.heap.size w ((w.alloc (.cells o.cells 33)).alloc (.cells (rpC rp0) 28)) := (below_alloc _ _).alloc (by simp) _
  have hz0 : ((w.alloc (.cells o.cells 33)).alloc (.cells (rpC rp0) 28)).heap[w.heap.size + 1]? = some (.cells (rpC rp0) 28 (0, 0)) := by
    have := alloc_blk (w.alloc (.cells o.cells 33)) (.cells (rpC rp0) 28)
    rwa [World.size_alloc] at this
  obtain ⟨W1, HW1⟩ : ∃ W1, Hid (((w.alloc (.cells o.cells 33)).alloc (.cells (rpC rp0) 28)) = W1) := ⟨_, rfl⟩
  rw [HW1.out] at hB0 hz0
  go_enter Try.func11, Try.ntmps11
  go_wp2_with (first | (refine wpList_box_row rfl 33 _ rfl o.cells ?_ ?_; rfl) | (refine wpList_alloc_row rfl 28 rfl (rpC rp0) (by kernel_rfl) ?_; rw [World.size_alloc, HW1.out]) | (go_at_call 20; refine (plain_any 6 _).mono ?_; rintro e w3 ⟨rfl, hB3⟩; have hz3 := (hB3.block _ (lt_blk hz0)).trans hz0) | (refine wpList_store_whole rfl 28 _ _ rfl (w.heap.size + 1) (rpC (err 6)) (rpC rp0) ?_ ?_ 28 hz3 (by kernel_rfl) (rpC_all _) rfl ?_; rfl; rfl))
  intro w4 h4 hK4
  go_wp2_with fail
  exact bodyPost_ret (results_agg_tmp rfl _ _ (w.heap.size + 1) (rpC (err 6)) 28 (0, 0) (.slice none 0 0) rfl rfl (by kernel_rfl) h4 (by kernel_rfl)) rfl ⟨rfl, (hB0.trans (hB3.mono hB0.size)).trans (hK4.below (Nat.le_succ _) (hB0.trans (hB3.mono hB0.size)).size)⟩
theorem producer_nil (w : World) (k : Int) : Calls Try.prog 26 #[.pointer none, .int .i64 k] w fun e w' => e = .returned (.pointer none) ∧ w' = w := by
  go_enter Try.func26, Try.ntmps26
  go_wp2
  go_ret
  exact ⟨rfl, rfl⟩
theorem Epoch_nil (w : World) (k : Int) : Calls Try.prog 13 #[.pointer none, .int .i64 k] w fun e w' => e = .returned (.tuple #[.int .i64 0, .bool false]) ∧ w' = w := by
  go_enter Try.func13, Try.ntmps13
  go_wp2_with (go_at_call 26; refine (producer_nil _ k).mono ?_; rintro e w2 ⟨rfl, rfl⟩)
  exact bodyPost_ret (v := .tuple #[.int .i64 0, .bool false]) (by simp [results, Try.results13, go_sem]) rfl ⟨rfl, rfl⟩
theorem Open_nil (w : World) (k : Int) : Calls Try.prog 14 #[.pointer none, .int .i64 k] w fun e w' => e = .returned (.tuple #[.int .i64 0, .slice none 0 0, .bool false]) ∧ w' = w := by
  go_enter Try.func14, Try.ntmps14
  go_wp2_with (go_at_call 26; refine (producer_nil _ k).mono ?_; rintro e w2 ⟨rfl, rfl⟩)
  exact bodyPost_ret (v := .tuple #[.int .i64 0, .slice none 0 0, .bool false]) (by simp [results, Try.results14, go_sem]) rfl ⟨rfl, rfl⟩
theorem Marks_nil (w : World) : Calls Try.prog 12 #[.pointer none] w fun e w' => e = .returned (.slice none 0 0) ∧ w' = w := by
  go_enter Try.func12, Try.ntmps12
  go_wp2
  go_ret
  exact ⟨rfl, rfl⟩
set_option maxRecDepth 100000 in
set_option maxHeartbeats 4000000 in
theorem OfNothing_law (w : World) (o : OpF) : Calls Try.prog 7 #[.agg o.cells] w fun e w' => e = .returned (.bool true) ∧ Below w.heap.size w w' := by
  have hop : (w.alloc (.cells o.cells 33)).heap[w.heap.size]? = some (.cells o.cells 33 (0, 0)) := alloc_blk _ _
  have hB0 := below_alloc w (.cells o.cells 33)
  have k3 : (w.alloc (.cells o.cells 33)).cell? ⟨w.heap.size, 3, none⟩ = some (.string o.n) := cell_blk hop 3
  obtain ⟨W0, HW0⟩ : ∃ W0, Hid ((w.alloc (.cells o.cells 33)) = W0) := ⟨_, rfl⟩
  rw [HW0.out] at hop hB0 k3
  go_enter Try.func7, Try.ntmps7
  go_wp2_with (first | (refine wpList_box_row rfl 33 _ rfl o.cells rfl ?_; rw [HW0.out]) | (refine wpList_load_agg rfl 33 (by kernel_rfl) _ rfl w.heap.size o.cells 33 (0, 0) ?_ hop (by kernel_rfl) ?_; rfl) | (go_at_call 11; refine (Apply_nil _ o).mono ?_; rintro e w2 ⟨rfl, hB2⟩) | (refine wpList_alloc_row rfl 28 rfl (rpC rp0) (by kernel_rfl) ?_) | (refine wpList_store_whole rfl 28 _ _ rfl w2.heap.size (rpC (err 6)) (rpC rp0) ?_ ?_ 28 (alloc_blk _ _) (by kernel_rfl) (rpC_all _) rfl ?_; rfl; rfl))
  · go_ret
    exact ⟨rfl, hB0⟩
  · intro w3 h3 hK3
    have hB3 : Below w2.heap.size w2 w3 := (below_alloc _ _).trans (hK3.below (Nat.le_refl _) (by simp))
    have hBt : Below w.heap.size w w3 := (hB0.trans (hB2.mono hB0.size)).trans (hB3.mono (hB0.trans (hB2.mono hB0.size)).size)
    have r0 : w3.cell? ⟨w2.heap.size, 0, none⟩ = some (.int .i64 6) := cell_blk h3 0
    have r1 : w3.cell? ⟨w2.heap.size, 1, none⟩ = some (.int .i64 0) := cell_blk h3 1
    have r2 : w3.cell? ⟨w2.heap.size, 2, none⟩ = some (.int .i64 0) := cell_blk h3 2
    clear h3 hK3 hB3 hB2 hop k3 hB0
    go_wp2_with (first | (go_at_call 13; refine (Epoch_nil _ 0).mono ?_; rintro e w4 ⟨rfl, rfl⟩) | (go_at_call 14; refine (Open_nil _ 0).mono ?_; rintro e w5 ⟨rfl, rfl⟩) | (go_at_call 12; refine (Marks_nil _).mono ?_; rintro e w6 ⟨rfl, rfl⟩) | (go_at_call 17; refine (Now_nil _).mono ?_; rintro e w7 ⟨rfl, rfl⟩) | (go_at_call 15; refine (known_at _).mono ?_; rintro e w8 ⟨rfl, hB8⟩))
    go_ret
    exact ⟨rfl, hBt.trans (hB8.mono hBt.size)⟩
end Go.Proofs.Ytoihfhlelbdboaa
