/- Arguments of seneschallaw5's laws, as they come in: numbers. -/
import Derived.Test.YtkjocpadmlobgaaRows
import Derived.Test.YtkjocpadmlobgaaWireE
import Derived.ProofKit
import Derived.OpenShut
import Derived.ShutString
import Derived.ChangeOld
namespace Go.Proofs.Ytkjocpadmlobgaa
open Go.ChangeShapes Go.WideShapes Go.ChangeAt Go.RowKit Go.Dig

theorem wf_i64 {n : Int} (h : (Lit.int .i64 n).wf = true) : -9223372036854775808 ≤ n ∧ n ≤ 9223372036854775807 := by
  simp [Lit.wf, IntKind.min, IntKind.max, IntKind.signed, IntKind.bits] at h; omega
theorem wf_u8 {n : Int} (h : (Lit.int .u8 n).wf = true) : 0 ≤ n ∧ n < 256 := by
  simp [Lit.wf, IntKind.min, IntKind.max, IntKind.signed, IntKind.bits] at h; omega
end Go.Proofs.Ytkjocpadmlobgaa
