/- PlogOfNothing's walk. -/
import Derived.Test.YtjinhahfpkcilaaPlNa
import Derived.Test.YtjinhahfpkcilaaPlW
namespace Go.Proofs.Ytjinhahfpkcilaa
open Go.RowKit Go.Dig Go.Inv Go.Oct
set_option linter.unusedVariables false
set_option linter.unusedSimpArgs false

set_option maxRecDepth 1000000 in
set_option maxHeartbeats 4000000 in
theorem ofNothing_any (r : Rc) (ao : Option Addr) (n cap : Nat) (w : World) : Calls Try.prog 7 #[.agg (rrC (r, .slice ao n cap))] w fun e w' => e = .returned (.bool true) ∧ Below w.heap.size w w' := by
  have hb0 := alloc_blk w (.cells (rrC (r, .slice ao n cap)) 32)
  have hB0 := below_alloc w (.cells (rrC (r, .slice ao n cap)) 32)
  obtain ⟨W0, HW0⟩ : ∃ W0, Hid (w.alloc (.cells (rrC (r, .slice ao n cap)) 32) = W0) := ⟨_, rfl⟩
  rw [HW0.out] at hb0 hB0
  have c4 : W0.cell? ⟨w.heap.size, 4, none⟩ = some (.slice ao n cap) := cell_blk hb0 4
  have HC : Hid (W0.heap[w.heap.size]? = some (.cells (rrC (r, .slice ao n cap)) 32 (0, 0))) := hb0
  have HB : Hid (Below w.heap.size w W0) := hB0
  have hA := Append_nil r (.slice ao n cap) W0
  clear hb0 hB0
  go_enter Try.func7, Try.ntmps7
  go_upto_region 1 with (refine wpList_box_row rfl 32 _ rfl (rrC (r, .slice ao n cap)) rfl ?_; rw [HW0.out])
  by_cases hn : (n : Int) > 500
  · go_wp2
    go_ret
    exact ⟨rfl, HB.out⟩
  · go_wp2_with (first
      | (refine wpList_loadRrAt rfl _ rfl w.heap.size 0 (r, .slice ao n cap) ?_ (fun i u hu => ?_) ?_; rfl; rw [Nat.zero_add, cell_blk HC.out]; exact hu)
      | (go_at_call 20; refine hA.mono ?_; clear hA; rintro e w1 ⟨rfl, hB1⟩
         have hR := Records_nil w1 0
         have HB1 : Hid (Below w.heap.size w w1) := HB.out.trans (hB1.mono HB.out.size); clear hB1)
      | (go_at_call 19; refine hR.mono ?_; clear hR; rintro e w2 ⟨rfl, hw2⟩
         have hB2 : Below w1.heap.size w1 w2 := by rw [hw2]; exact (((Below.refl _ w1).alloc (Nat.le_refl _) _).alloc (by simp) _).alloc (by simp; omega) _
         have hT := told_nil w2 w1.heap.size (w1.heap.size + 1) (w1.heap.size + 2)
           (by rw [hw2]; exact ((Boxed.new w1 _ _).alloc _).alloc _)
           (by rw [hw2]; have := (Boxed.new (w1.alloc (.cells #[.int .i64 0] 3)) 40 (.slice none 0 0)).alloc (.cells #[.func (.func 50) #[] #[.pointer (some ⟨w1.heap.size, 0, none⟩), .pointer (some ⟨w1.heap.size + 1, 0, none⟩)]] 44); rwa [World.size_alloc] at this)
           (by rw [hw2]; have := Boxed.new ((w1.alloc (.cells #[.int .i64 0] 3)).alloc (.cells #[.slice none 0 0] 40)) 44 (.func (.func 50) #[] #[.pointer (some ⟨w1.heap.size, 0, none⟩), .pointer (some ⟨w1.heap.size + 1, 0, none⟩)]); simp only [World.size_alloc, Nat.add_assoc, Nat.reduceAdd] at this; exact this)
         have HB2 : Hid (Below w.heap.size w w2) := HB1.out.trans (hB2.mono HB1.out.size); clear hB2 hw2)
      | (go_at_call 18; refine hT.mono ?_; clear hT; rintro e w3 ⟨rfl, hB3⟩
         have HB3 : Hid (Below w.heap.size w w3) := HB2.out.trans (hB3.mono HB2.out.size); clear hB3)
      | (go_at_call 21; refine (Epoch_nil 0 _).mono ?_; rintro e w4 ⟨rfl, rfl⟩)
      | (refine wanted_do rfl fun _ _ => ?_)
      | (go_at_call 24; refine (Learn_nil 0 0 _).mono ?_; rintro e w4 ⟨rfl, rfl⟩)
      | (go_at_call 22; refine (End_nil 0 0 1 true _).mono ?_; rintro e w4 ⟨rfl, rfl⟩)
      | (go_at_call 15; refine (Len_nil _).mono ?_; rintro e w4 ⟨rfl, rfl⟩)
      | (go_at_call 16; refine (Stable_nil _).mono ?_; rintro e w5 ⟨rfl, hBs⟩)
      | (go_at_call 17; refine (Spans_nil _).mono ?_; rintro e w4 ⟨rfl, rfl⟩)
      | (go_at_call 14; refine (known11_any _).mono ?_; rintro e w6 ⟨rfl, hBk⟩))
    go_ret
    have h2 := hBs.size
    have h3 := HB3.out.size
    exact ⟨rfl, (HB3.out.trans (hBs.mono h3)).trans (hBk.mono (by omega))⟩
end Go.Proofs.Ytjinhahfpkcilaa
