/- CertOrder, at all numbers. -/
import Derived.Test.YtenadhpnbihijabCertO
namespace Go.Proofs.Ytenadhpnbihijab
open Go.RowKit Go.Dig Go.Sha Go.Inv Go.Oct
set_option maxRecDepth 10000 in
set_option maxHeartbeats 4000000 in
theorem certOrder_any (a b : Int) (w : World) : Calls Try.prog 3 #[.int .i64 a, .int .i64 b] w fun x w' => x = .returned (.bool true) ∧ Below w.heap.size w w' := by
  by_cases h : 0 ≤ a ∧ a ≤ 3 ∧ 0 ≤ b ∧ b ≤ 9
  · have := certOrder_in a.toNat b.toNat w (by omega) (by omega)
    rwa [Int.toNat_of_nonneg h.1, Int.toNat_of_nonneg h.2.2.1] at this
  · have hc : a < 0 ∨ (0 ≤ a ∧ 3 < a) ∨ (0 ≤ a ∧ a ≤ 3 ∧ b < 0) ∨ (0 ≤ a ∧ a ≤ 3 ∧ 0 ≤ b ∧ 9 < b) := by omega
    clear h
    rcases hc with h | h | h | h
    all_goals
      go_enter Try.func3, Try.ntmps3
      go_wp2_with fail
      refine (known6_any _).mono ?_
      rintro x w2 ⟨rfl, hB2⟩
      go_wp2_with fail
      go_ret
      exact ⟨rfl, hB2⟩
end Go.Proofs.Ytenadhpnbihijab
