/- What may be; a record's key; the empty log; how long it is; an epoch that is told. -/
import Derived.Test.YtjinhahfpkcilaaPlB
namespace Go.Proofs.Ytjinhahfpkcilaa
open Go.RowKit Go.Dig Go.Inv
set_option linter.unusedVariables false
set_option linter.unusedSimpArgs false

def inB (n a b : Int) : Bool := decide (a ≤ n) && decide (n ≤ b)
set_option maxHeartbeats 400000 in
theorem lwithin_any (n a b : Int) (w : World) : Calls Try.prog 41 #[.int .i64 n, .int .i64 a, .int .i64 b] w fun e w' => e = .returned (.bool (inB n a b)) ∧ w' = w := by
  unfold inB
  by_cases h1 : a ≤ n
  · by_cases h2 : n ≤ b
    · go_enter Try.func41, Try.ntmps41
      go_wp2
      go_ret
      simp [h1, h2]
    · go_enter Try.func41, Try.ntmps41
      go_wp2
      go_ret
      simp [h1, h2]
  · go_enter Try.func41, Try.ntmps41
    go_wp2
    go_ret
    simp
    omega
theorem okW_eq (p e : Int) : okW p e = (inB p 0 7 && inB e 0 100) := by simp [okW, inB, Bool.decide_and]
theorem okT_eq (t : Int) : okT t = inB t 1 100 := by simp [okT, inB, Bool.decide_and]
set_option maxHeartbeats 400000 in
theorem mayWrite_any (p e : Int) (w : World) : Calls Try.prog 42 #[.int .i64 p, .int .i64 e] w fun x w' => x = .returned (.bool (okW p e)) ∧ w' = w := by
  rw [okW_eq]
  have hw1 := lwithin_any p 0 7 w
  cases h1 : inB p 0 7
  · rw [h1] at hw1
    go_enter Try.func42, Try.ntmps42
    go_wp2_with (go_at_call 41; refine hw1.mono ?_; rintro e w1 ⟨rfl, rfl⟩)
    go_ret
    exact ⟨rfl, rfl⟩
  · rw [h1] at hw1
    go_enter Try.func42, Try.ntmps42
    go_wp2_with (first | (go_at_call 41; refine hw1.mono ?_; rintro e w1 ⟨rfl, rfl⟩; clear hw1) | (go_at_call 41; refine (lwithin_any e 0 100 _).mono ?_; rintro e w1 ⟨rfl, rfl⟩))
    go_ret
    exact ⟨by simp, rfl⟩
set_option maxHeartbeats 400000 in
theorem mayNumber_any (t : Int) (w : World) : Calls Try.prog 43 #[.int .i64 t] w fun x w' => x = .returned (.bool (okT t)) ∧ w' = w := by
  rw [okT_eq]
  go_enter Try.func43, Try.ntmps43
  go_wp2_with (first | (go_at_call 41; refine (lwithin_any t 1 100 _).mono ?_; rintro e w1 ⟨rfl, rfl⟩))
  go_ret
  exact ⟨rfl, rfl⟩
theorem New_at (w : World) : Calls Try.prog 10 #[] w fun e w' => ∃ own, e = .returned (.pointer (some ⟨w.heap.size, 0, none⟩)) ∧ LogAt own w' w.heap.size Pl.none ∧ Over w.heap.size own ∧ Below w.heap.size w w' := by
  have hB := below_alloc w (.cells (lgC (List.replicate 8 none) (.slice none 0 0) (.slice none 0 0) none) 68)
  have hb := alloc_blk w (.cells (lgC (List.replicate 8 none) (.slice none 0 0) (.slice none 0 0) none) 68)
  go_enter Try.func10, Try.ntmps10
  go_wp2_with (first | (refine wpList_build_to rfl 68 _ rfl (lgC (List.replicate 8 none) (.slice none 0 0) (.slice none 0 0) none) (by kernel_rfl) ?_) | (refine wpList_box_row rfl 68 _ rfl (lgC (List.replicate 8 none) (.slice none 0 0) (.slice none 0 0) none) ?_ ?_; rfl))
  go_ret
  refine ⟨fun k => if k = w.heap.size then some .lg else none, rfl, ⟨List.replicate 8 none, .slice none 0 0, .slice none 0 0, none, [], ?_⟩, fun k l hk => ?_, hB⟩
  · refine ⟨fun k l hk => ?_, hb, by simp, by simp, rfl, fun i b t h1 h2 => ?_, OwnRr.nil _ _, rfl, fun k hk => (by cases hk), fun i r u h1 _ => (by simp [Pl.none] at h1), OwnSs.nil _ _, fun k hk => (by cases hk), rfl⟩
    · split at hk
      · rename_i e; subst e; exact lt_blk hb
      · cases hk
    · rw [List.getElem?_replicate] at h1
      unfold Pl.none at h2
      dsimp only at h2
      rw [List.getElem?_replicate] at h2
      split at h1
      · rename_i hi
        rw [if_pos hi] at h2
        cases h1; cases h2; trivial
      · cases h1
  · have hk' : (if k = w.heap.size then some Lb.lg else none) = some l := hk
    split at hk'
    · omega
    · cases hk'
end Go.Proofs.Ytjinhahfpkcilaa
