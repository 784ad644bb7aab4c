/-
  No cell of these rows narrows 'for every input' (looked for: loops, veiled, ifaces, maps, wideKeys, modest, calm, conditions, laid).
  DERIVED. THE GIVEN ROWS OF THIS SEAT. 6 by the template 'for every input the law returns true; each argument reads behind the call as it read before'; 0 by the template 'total and deterministic' (their statements: YtenadhpnbihijaaTotals.lean).
  GIVEN WITH THE SEED: the statements are not yours to turn. If you find one false, say at which input.
  Laid BY PROGRAM, IN A SANDBOX (cutbox-rows.mjs): the forced cells as the released guide's own fill.sh prints them over the translation feaa4842606005b6… (all of the seat's roots in one cut). By AI agents, Wed Nov 11 2026. No macro, syntax, notation, axiom, sorry.
-/
import Derived.Test.YtenadhpnbihijaaChecked
import GoSem.Claim
import GoSem.ClaimJoined
import GoSem.ClaimMapViews
import Derived.JoinedTies
import Derived.KernelRfl
namespace Go.Proofs.Ytenadhpnbihijaa
/- THE CELL 'sum', in the pinned program and in every row, IS THE sha256 OF THE DUMP (.gsa) THAT YtenadhpnbihijaaProg.lean LOADS. Nothing in Lean hashes anything: it is a label: what it is worth is what the hold of that sum in a sandbox is worth. -/
noncomputable def Try.pinned : Pinned := { name := "ytenadhpnbihijaa", sum := "feaa4842606005b609c2617d6fa6add8938eaa6f30fd9252e90bc147617607f5", checked := Try.checked }
namespace Rows
def none {H : Type} : Left H := { results := [], args := [] }

/-- 'seneschallaw6.CertTells': WHATEVER THE INPUT: true; the input reads as it did. -/
def certTellsSpec : ChangeSpec := { name := "certTells", fn := fun _ => fun
  | [d1, d2, d3] => { results := [.lit (.bool true)], args := [d1, d2, d3] }
  | _ => none }
def certTellsRow : OpenClaim := { program := "ytenadhpnbihijaa", sum := "feaa4842606005b609c2617d6fa6add8938eaa6f30fd9252e90bc147617607f5", func := "seneschal/seneschallaw6.CertTells", spec := "certTells", inPlace := ["slices.overlaps[int]"], unfollowed := true, recurses := true, apart := false }
def CertTellsSaid : Prop := certTellsRow.holds Try.pinned (OpenSpec.ofChange certTellsSpec)

/-- ITS FALSE NEIGHBOUR: 'it returns false'. Refute it at one input. -/
def certTellsWrong : ChangeSpec := { name := "certTells", fn := fun _ => fun
  | [d1, d2, d3] => { results := [.lit (.bool false)], args := [d1, d2, d3] }
  | _ => none }
def CertTellsWrongFalsely : Prop := certTellsRow.holds Try.pinned (OpenSpec.ofChange certTellsWrong)

/-- 'seneschallaw6.CertMarks': WHATEVER THE INPUT: true; the input reads as it did. -/
def certMarksSpec : ChangeSpec := { name := "certMarks", fn := fun _ => fun
  | [d1, d2, d3, d4] => { results := [.lit (.bool true)], args := [d1, d2, d3, d4] }
  | _ => none }
def certMarksRow : OpenClaim := { program := "ytenadhpnbihijaa", sum := "feaa4842606005b609c2617d6fa6add8938eaa6f30fd9252e90bc147617607f5", func := "seneschal/seneschallaw6.CertMarks", spec := "certMarks", inPlace := ["slices.overlaps[int]"], unfollowed := true, recurses := true, apart := false }
def CertMarksSaid : Prop := certMarksRow.holds Try.pinned (OpenSpec.ofChange certMarksSpec)

/-- ITS FALSE NEIGHBOUR: 'it returns false'. Refute it at one input. -/
def certMarksWrong : ChangeSpec := { name := "certMarks", fn := fun _ => fun
  | [d1, d2, d3, d4] => { results := [.lit (.bool false)], args := [d1, d2, d3, d4] }
  | _ => none }
def CertMarksWrongFalsely : Prop := certMarksRow.holds Try.pinned (OpenSpec.ofChange certMarksWrong)

/-- 'seneschallaw6.CertCounts': WHATEVER THE INPUT: true; the input reads as it did. -/
def certCountsSpec : ChangeSpec := { name := "certCounts", fn := fun _ => fun
  | [d1, d2, d3] => { results := [.lit (.bool true)], args := [d1, d2, d3] }
  | _ => none }
def certCountsRow : OpenClaim := { program := "ytenadhpnbihijaa", sum := "feaa4842606005b609c2617d6fa6add8938eaa6f30fd9252e90bc147617607f5", func := "seneschal/seneschallaw6.CertCounts", spec := "certCounts", inPlace := ["slices.overlaps[int]"], unfollowed := true, recurses := true, apart := false }
def CertCountsSaid : Prop := certCountsRow.holds Try.pinned (OpenSpec.ofChange certCountsSpec)

/-- ITS FALSE NEIGHBOUR: 'it returns false'. Refute it at one input. -/
def certCountsWrong : ChangeSpec := { name := "certCounts", fn := fun _ => fun
  | [d1, d2, d3] => { results := [.lit (.bool false)], args := [d1, d2, d3] }
  | _ => none }
def CertCountsWrongFalsely : Prop := certCountsRow.holds Try.pinned (OpenSpec.ofChange certCountsWrong)

/-- 'seneschallaw6.CertAccepts': WHATEVER THE INPUT: true; the input reads as it did. -/
def certAcceptsSpec : ChangeSpec := { name := "certAccepts", fn := fun _ => fun
  | [d1, d2, d3] => { results := [.lit (.bool true)], args := [d1, d2, d3] }
  | _ => none }
def certAcceptsRow : OpenClaim := { program := "ytenadhpnbihijaa", sum := "feaa4842606005b609c2617d6fa6add8938eaa6f30fd9252e90bc147617607f5", func := "seneschal/seneschallaw6.CertAccepts", spec := "certAccepts", inPlace := ["slices.overlaps[int]"], unfollowed := true, recurses := true, apart := false }
def CertAcceptsSaid : Prop := certAcceptsRow.holds Try.pinned (OpenSpec.ofChange certAcceptsSpec)

/-- ITS FALSE NEIGHBOUR: 'it returns false'. Refute it at one input. -/
def certAcceptsWrong : ChangeSpec := { name := "certAccepts", fn := fun _ => fun
  | [d1, d2, d3] => { results := [.lit (.bool false)], args := [d1, d2, d3] }
  | _ => none }
def CertAcceptsWrongFalsely : Prop := certAcceptsRow.holds Try.pinned (OpenSpec.ofChange certAcceptsWrong)

/-- 'seneschallaw6.CertOfNothing': WHATEVER THE INPUT: true; the input reads as it did. -/
def certOfNothingSpec : ChangeSpec := { name := "certOfNothing", fn := fun _ => fun
  | [d1, d2] => { results := [.lit (.bool true)], args := [d1, d2] }
  | _ => none }
def certOfNothingRow : OpenClaim := { program := "ytenadhpnbihijaa", sum := "feaa4842606005b609c2617d6fa6add8938eaa6f30fd9252e90bc147617607f5", func := "seneschal/seneschallaw6.CertOfNothing", spec := "certOfNothing", inPlace := ["slices.overlaps[int]"], unfollowed := true, recurses := true, apart := false }
def CertOfNothingSaid : Prop := certOfNothingRow.holds Try.pinned (OpenSpec.ofChange certOfNothingSpec)

/-- ITS FALSE NEIGHBOUR: 'it returns false'. Refute it at one input. -/
def certOfNothingWrong : ChangeSpec := { name := "certOfNothing", fn := fun _ => fun
  | [d1, d2] => { results := [.lit (.bool false)], args := [d1, d2] }
  | _ => none }
def CertOfNothingWrongFalsely : Prop := certOfNothingRow.holds Try.pinned (OpenSpec.ofChange certOfNothingWrong)

/-- 'seneschallaw6.CertTurned': WHATEVER THE INPUT: true; the input reads as it did. -/
def certTurnedSpec : ChangeSpec := { name := "certTurned", fn := fun _ => fun
  | [d1, d2] => { results := [.lit (.bool true)], args := [d1, d2] }
  | _ => none }
def certTurnedRow : OpenClaim := { program := "ytenadhpnbihijaa", sum := "feaa4842606005b609c2617d6fa6add8938eaa6f30fd9252e90bc147617607f5", func := "seneschal/seneschallaw6.CertTurned", spec := "certTurned", inPlace := ["slices.overlaps[int]"], unfollowed := true, recurses := true, apart := false }
def CertTurnedSaid : Prop := certTurnedRow.holds Try.pinned (OpenSpec.ofChange certTurnedSpec)

/-- ITS FALSE NEIGHBOUR: 'it returns false'. Refute it at one input. -/
def certTurnedWrong : ChangeSpec := { name := "certTurned", fn := fun _ => fun
  | [d1, d2] => { results := [.lit (.bool false)], args := [d1, d2] }
  | _ => none }
def CertTurnedWrongFalsely : Prop := certTurnedRow.holds Try.pinned (OpenSpec.ofChange certTurnedWrong)

/- THE SECOND FORM. 'bulk': how many values and letters a reading holds, each counted each time it is reached (what is shared counts as often as it is met; a slice's spare places count too). A statement '..UptoSaid' is the law's where the arguments, and the package variables that the reading takes, are together of bulk at most 1048576: NARROWER than '..Said'. Prove '..Said' where nothing that the law and all that it calls make is longer than what came in: it says more and counts as full. Else prove '..UptoSaid'. A law counts once. -/
mutual
def uptoBulk {H : Type} : DataW H → Nat
  | .lit (.string bytes) => bytes.length + 1
  | .lit _ => 1
  | .nil => 1
  | .ptr d => uptoBulk d + 1
  | .slice elems spare => uptoBulkAll elems + uptoBulkAll spare + 1
  | .agg parts => uptoBulkAll parts + 1
  | .iface _ d => uptoBulk d + 1
  | .map entries => uptoBulkEntries entries + 1
  | .held _ => 1
def uptoBulkAll {H : Type} : List (DataW H) → Nat
  | [] => 0
  | d :: r => uptoBulk d + uptoBulkAll r
def uptoBulkEntries {H : Type} : List (Lit × DataW H) → Nat
  | [] => 0
  | x :: r => uptoBulkEntry x + uptoBulkEntries r
def uptoBulkEntry {H : Type} : Lit × DataW H → Nat
  | (.string bytes, d) => bytes.length + uptoBulk d + 1
  | (_, d) => uptoBulk d + 1
 end
def uptoSmall : (H : Type) → List (DataW H) → Bool := fun _ ds => decide (uptoBulkAll ds ≤ 1048576)
def OpenSpec.upto (s : _root_.Go.ChangeSpec) : _root_.Go.OpenSpec := { _root_.Go.OpenSpec.ofChange s with cond := some uptoSmall }

/-- 'seneschallaw6.CertTells', WHERE WHAT IT READS IS OF BULK AT MOST 1048576: true; the input reads as it did. -/
def certTellsUptoRow : OpenClaim := { program := "ytenadhpnbihijaa", sum := "feaa4842606005b609c2617d6fa6add8938eaa6f30fd9252e90bc147617607f5", func := "seneschal/seneschallaw6.CertTells", spec := "certTells", inPlace := ["slices.overlaps[int]"], unfollowed := true, recurses := true, apart := false, narrowed := true }
def CertTellsUptoSaid : Prop := certTellsUptoRow.holds Try.pinned (OpenSpec.upto certTellsSpec)

/-- 'seneschallaw6.CertMarks', WHERE WHAT IT READS IS OF BULK AT MOST 1048576: true; the input reads as it did. -/
def certMarksUptoRow : OpenClaim := { program := "ytenadhpnbihijaa", sum := "feaa4842606005b609c2617d6fa6add8938eaa6f30fd9252e90bc147617607f5", func := "seneschal/seneschallaw6.CertMarks", spec := "certMarks", inPlace := ["slices.overlaps[int]"], unfollowed := true, recurses := true, apart := false, narrowed := true }
def CertMarksUptoSaid : Prop := certMarksUptoRow.holds Try.pinned (OpenSpec.upto certMarksSpec)

/-- 'seneschallaw6.CertCounts', WHERE WHAT IT READS IS OF BULK AT MOST 1048576: true; the input reads as it did. -/
def certCountsUptoRow : OpenClaim := { program := "ytenadhpnbihijaa", sum := "feaa4842606005b609c2617d6fa6add8938eaa6f30fd9252e90bc147617607f5", func := "seneschal/seneschallaw6.CertCounts", spec := "certCounts", inPlace := ["slices.overlaps[int]"], unfollowed := true, recurses := true, apart := false, narrowed := true }
def CertCountsUptoSaid : Prop := certCountsUptoRow.holds Try.pinned (OpenSpec.upto certCountsSpec)

/-- 'seneschallaw6.CertAccepts', WHERE WHAT IT READS IS OF BULK AT MOST 1048576: true; the input reads as it did. -/
def certAcceptsUptoRow : OpenClaim := { program := "ytenadhpnbihijaa", sum := "feaa4842606005b609c2617d6fa6add8938eaa6f30fd9252e90bc147617607f5", func := "seneschal/seneschallaw6.CertAccepts", spec := "certAccepts", inPlace := ["slices.overlaps[int]"], unfollowed := true, recurses := true, apart := false, narrowed := true }
def CertAcceptsUptoSaid : Prop := certAcceptsUptoRow.holds Try.pinned (OpenSpec.upto certAcceptsSpec)

/-- 'seneschallaw6.CertOfNothing', WHERE WHAT IT READS IS OF BULK AT MOST 1048576: true; the input reads as it did. -/
def certOfNothingUptoRow : OpenClaim := { program := "ytenadhpnbihijaa", sum := "feaa4842606005b609c2617d6fa6add8938eaa6f30fd9252e90bc147617607f5", func := "seneschal/seneschallaw6.CertOfNothing", spec := "certOfNothing", inPlace := ["slices.overlaps[int]"], unfollowed := true, recurses := true, apart := false, narrowed := true }
def CertOfNothingUptoSaid : Prop := certOfNothingUptoRow.holds Try.pinned (OpenSpec.upto certOfNothingSpec)

/-- 'seneschallaw6.CertTurned', WHERE WHAT IT READS IS OF BULK AT MOST 1048576: true; the input reads as it did. -/
def certTurnedUptoRow : OpenClaim := { program := "ytenadhpnbihijaa", sum := "feaa4842606005b609c2617d6fa6add8938eaa6f30fd9252e90bc147617607f5", func := "seneschal/seneschallaw6.CertTurned", spec := "certTurned", inPlace := ["slices.overlaps[int]"], unfollowed := true, recurses := true, apart := false, narrowed := true }
def CertTurnedUptoSaid : Prop := certTurnedUptoRow.holds Try.pinned (OpenSpec.upto certTurnedSpec)

end Rows
end Go.Proofs.Ytenadhpnbihijaa
