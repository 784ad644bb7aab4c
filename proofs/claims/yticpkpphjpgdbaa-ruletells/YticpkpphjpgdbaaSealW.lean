/- The walks of seneschallaw4's laws that ask nothing of the reference's digests: SealCounts, SealEnough, SealOfNothing, SealTurned. -/
import Derived.Test.YticpkpphjpgdbaaSealK
namespace Go.Proofs.Yticpkpphjpgdbaa
open Go.RowKit Go.Dig Go.Sha Go.Inv

set_option maxHeartbeats 400000 in
theorem rFaults_any (n : Int) (w : World) (h0 : -9223372036854775808 ≤ n) (h1 : n ≤ 9223372036854775807) :
    Calls Try.prog 60 #[.int .i64 n] w fun e w' => e = .returned (.int .i64 (faultsI n)) ∧ w' = w := by
  by_cases h : n < 1
  · go_enter Try.func60, Try.ntmps60
    go_wp2
    go_ret
    exact ⟨by simp [faultsI, h], rfl⟩
  · go_enter Try.func60, Try.ntmps60
    go_wp2
    go_ret
    exact ⟨by simp [faultsI]; omega, rfl⟩
set_option maxHeartbeats 400000 in
theorem rQuorum_any (n : Int) (w : World) (h0 : -9223372036854775808 ≤ n) (h1 : n ≤ 9223372036854775807) :
    Calls Try.prog 44 #[.int .i64 n] w fun e w' => e = .returned (.int .i64 (quorumI n)) ∧ w' = w := by
  obtain ⟨hf0, hf1, hf2⟩ := faultsI_bd n h0 h1
  have hw : IntKind.i64.wrap (n - faultsI n) = n - faultsI n := by
    rw [IntKind.wrap_i64]
    by_cases h : n < 1
    · have := hf2 h; omega
    · have := hf1 (by omega); omega
  clear hf0 hf1 hf2
  go_enter Try.func44, Try.ntmps44
  go_wp2_with (go_at_call 60; refine (rFaults_any _ _ h0 h1).mono ?_; rintro e w' ⟨rfl, rfl⟩)
  go_ret
  exact ⟨rfl, rfl⟩

theorem enough (f : Int) (h0 : 0 ≤ f) : faultsI (3 * f + 1) = f ∧ quorumI (3 * f + 1) = 2 * f + 1 := by
  have : faultsI (3 * f + 1) = f := by unfold faultsI; rw [if_neg (by omega)]; omega
  exact ⟨this, by unfold quorumI; rw [this]; omega⟩
end Go.Proofs.Yticpkpphjpgdbaa
