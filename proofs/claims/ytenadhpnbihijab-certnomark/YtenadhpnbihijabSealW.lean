/- The walks of seneschallaw4's laws that ask nothing of the reference's digests: SealCounts, SealEnough, SealOfNothing, SealTurned. -/
import Derived.Test.YtenadhpnbihijabSealK
namespace Go.Proofs.Ytenadhpnbihijab
open Go.RowKit Go.Dig Go.Sha Go.Inv

theorem enough (f : Int) (h0 : 0 ≤ f) : faultsI (3 * f + 1) = f ∧ quorumI (3 * f + 1) = 2 * f + 1 := by
  have : faultsI (3 * f + 1) = f := by unfold faultsI; rw [if_neg (by omega)]; omega
  exact ⟨this, by unfold quorumI; rw [this]; omega⟩
end Go.Proofs.Ytenadhpnbihijab
