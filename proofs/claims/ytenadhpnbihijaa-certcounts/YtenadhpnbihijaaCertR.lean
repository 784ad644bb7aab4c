/- CertCounts, at all numbers. -/
import Derived.Test.YtenadhpnbihijaaCertP
namespace Go.Proofs.Ytenadhpnbihijaa
open Go.RowKit Go.Dig Go.Sha Go.Inv Go.Oct
set_option maxRecDepth 10000 in
set_option maxHeartbeats 4000000 in
theorem certCounts_any (a : Int) (b : Bool) (f : Nat → Int) (w : World) : Calls Try.prog 5 #[.int .i64 a, .bool b, .agg (row .u8 32 f)] w fun x w' => x = .returned (.bool true) ∧ Below w.heap.size w w' := by
  by_cases h : 0 ≤ a ∧ a ≤ 127
  · exact certCounts_in a b f w h.1 h.2
  · have hc : a < 0 ∨ (0 ≤ a ∧ 127 < a) := by omega
    clear h
    have hB := below_alloc w (.cells (row .u8 32 f) 24)
    rcases hc with h | h
    all_goals
      go_enter Try.func5, Try.ntmps5
      go_wp2_with (refine wpList_box_row rfl 24 _ rfl _ rfl ?_)
      go_ret
      exact ⟨rfl, hB⟩
end Go.Proofs.Ytenadhpnbihijaa
