/-
  No cell of these rows narrows 'for every input' (looked for: loops, veiled, ifaces, maps, wideKeys, modest, calm, conditions, laid).
  DERIVED. THE GIVEN ROWS OF THIS SEAT. 3 by the template 'for every input the law returns true; each argument reads behind the call as it read before'; 0 by the template 'total and deterministic' (their statements: YtoihfhlelbdboabTotals.lean).
  GIVEN WITH THE SEED: the statements are not yours to turn. If you find one false, say at which input.
  Laid BY PROGRAM, IN A SANDBOX (cutbox-rows.mjs): the forced cells as the released guide's own fill.sh prints them over the translation bc73933ceb4d9344… (all of the seat's roots in one cut). By AI agents, Wed Nov 11 2026. No macro, syntax, notation, axiom, sorry.
-/
import Derived.Test.YtoihfhlelbdboabChecked
import GoSem.Claim
import GoSem.ClaimJoined
import GoSem.ClaimMapViews
import Derived.JoinedTies
import Derived.KernelRfl
namespace Go.Proofs.Ytoihfhlelbdboab
/- THE CELL 'sum', in the pinned program and in every row, IS THE sha256 OF THE DUMP (.gsa) THAT YtoihfhlelbdboabProg.lean LOADS. Nothing in Lean hashes anything: it is a label: what it is worth is what the hold of that sum in a sandbox is worth. -/
noncomputable def Try.pinned : Pinned := { name := "ytoihfhlelbdboab", sum := "bc73933ceb4d93443e90759c27bb47fcd6b616bc248c5f507a6f2fcf78b5d2fe", checked := Try.checked }
namespace Rows
def none {H : Type} : Left H := { results := [], args := [] }

/-- 'seneschallaw10.CoordEnds': WHATEVER THE INPUT: true; the input reads as it did. -/
def coordEndsSpec : ChangeSpec := { name := "coordEnds", fn := fun _ => fun
  | [d1, d2] => { results := [.lit (.bool true)], args := [d1, d2] }
  | _ => none }
def coordEndsRow : OpenClaim := { program := "ytoihfhlelbdboab", sum := "bc73933ceb4d93443e90759c27bb47fcd6b616bc248c5f507a6f2fcf78b5d2fe", func := "seneschal/seneschallaw10.CoordEnds", spec := "coordEnds", unfollowed := true, recurses := true, apart := false }
def CoordEndsSaid : Prop := coordEndsRow.holds Try.pinned (OpenSpec.ofChange coordEndsSpec)

/-- ITS FALSE NEIGHBOUR: 'it returns false'. Refute it at one input. -/
def coordEndsWrong : ChangeSpec := { name := "coordEnds", fn := fun _ => fun
  | [d1, d2] => { results := [.lit (.bool false)], args := [d1, d2] }
  | _ => none }
def CoordEndsWrongFalsely : Prop := coordEndsRow.holds Try.pinned (OpenSpec.ofChange coordEndsWrong)

/-- 'seneschallaw10.CoordAlike': WHATEVER THE INPUT: true; the input reads as it did. -/
def coordAlikeSpec : ChangeSpec := { name := "coordAlike", fn := fun _ => fun
  | [d] => { results := [.lit (.bool true)], args := [d] }
  | _ => none }
def coordAlikeRow : OpenClaim := { program := "ytoihfhlelbdboab", sum := "bc73933ceb4d93443e90759c27bb47fcd6b616bc248c5f507a6f2fcf78b5d2fe", func := "seneschal/seneschallaw10.CoordAlike", spec := "coordAlike", unfollowed := true, recurses := true, apart := false }
def CoordAlikeSaid : Prop := coordAlikeRow.holds Try.pinned (OpenSpec.ofChange coordAlikeSpec)

/-- ITS FALSE NEIGHBOUR: 'it returns false'. Refute it at one input. -/
def coordAlikeWrong : ChangeSpec := { name := "coordAlike", fn := fun _ => fun
  | [d] => { results := [.lit (.bool false)], args := [d] }
  | _ => none }
def CoordAlikeWrongFalsely : Prop := coordAlikeRow.holds Try.pinned (OpenSpec.ofChange coordAlikeWrong)

/-- 'seneschallaw10.CoordBad': WHATEVER THE INPUT: true; the input reads as it did. -/
def coordBadSpec : ChangeSpec := { name := "coordBad", fn := fun _ => fun
  | [d1, d2] => { results := [.lit (.bool true)], args := [d1, d2] }
  | _ => none }
def coordBadRow : OpenClaim := { program := "ytoihfhlelbdboab", sum := "bc73933ceb4d93443e90759c27bb47fcd6b616bc248c5f507a6f2fcf78b5d2fe", func := "seneschal/seneschallaw10.CoordBad", spec := "coordBad", unfollowed := true, recurses := true, apart := false }
def CoordBadSaid : Prop := coordBadRow.holds Try.pinned (OpenSpec.ofChange coordBadSpec)

/-- ITS FALSE NEIGHBOUR: 'it returns false'. Refute it at one input. -/
def coordBadWrong : ChangeSpec := { name := "coordBad", fn := fun _ => fun
  | [d1, d2] => { results := [.lit (.bool false)], args := [d1, d2] }
  | _ => none }
def CoordBadWrongFalsely : Prop := coordBadRow.holds Try.pinned (OpenSpec.ofChange coordBadWrong)

/- THE SECOND FORM. 'bulk': how many values and letters a reading holds, each counted each time it is reached (what is shared counts as often as it is met; a slice's spare places count too). A statement '..UptoSaid' is the law's where the arguments, and the package variables that the reading takes, are together of bulk at most 1048576: NARROWER than '..Said'. Prove '..Said' where nothing that the law and all that it calls make is longer than what came in: it says more and counts as full. Else prove '..UptoSaid'. A law counts once. -/
mutual
def uptoBulk {H : Type} : DataW H → Nat
  | .lit (.string bytes) => bytes.length + 1
  | .lit _ => 1
  | .nil => 1
  | .ptr d => uptoBulk d + 1
  | .slice elems spare => uptoBulkAll elems + uptoBulkAll spare + 1
  | .agg parts => uptoBulkAll parts + 1
  | .iface _ d => uptoBulk d + 1
  | .map entries => uptoBulkEntries entries + 1
  | .held _ => 1
def uptoBulkAll {H : Type} : List (DataW H) → Nat
  | [] => 0
  | d :: r => uptoBulk d + uptoBulkAll r
def uptoBulkEntries {H : Type} : List (Lit × DataW H) → Nat
  | [] => 0
  | x :: r => uptoBulkEntry x + uptoBulkEntries r
def uptoBulkEntry {H : Type} : Lit × DataW H → Nat
  | (.string bytes, d) => bytes.length + uptoBulk d + 1
  | (_, d) => uptoBulk d + 1
 end
def uptoSmall : (H : Type) → List (DataW H) → Bool := fun _ ds => decide (uptoBulkAll ds ≤ 1048576)
def OpenSpec.upto (s : _root_.Go.ChangeSpec) : _root_.Go.OpenSpec := { _root_.Go.OpenSpec.ofChange s with cond := some uptoSmall }

/-- 'seneschallaw10.CoordEnds', WHERE WHAT IT READS IS OF BULK AT MOST 1048576: true; the input reads as it did. -/
def coordEndsUptoRow : OpenClaim := { program := "ytoihfhlelbdboab", sum := "bc73933ceb4d93443e90759c27bb47fcd6b616bc248c5f507a6f2fcf78b5d2fe", func := "seneschal/seneschallaw10.CoordEnds", spec := "coordEnds", unfollowed := true, recurses := true, apart := false, narrowed := true }
def CoordEndsUptoSaid : Prop := coordEndsUptoRow.holds Try.pinned (OpenSpec.upto coordEndsSpec)

/-- 'seneschallaw10.CoordAlike', WHERE WHAT IT READS IS OF BULK AT MOST 1048576: true; the input reads as it did. -/
def coordAlikeUptoRow : OpenClaim := { program := "ytoihfhlelbdboab", sum := "bc73933ceb4d93443e90759c27bb47fcd6b616bc248c5f507a6f2fcf78b5d2fe", func := "seneschal/seneschallaw10.CoordAlike", spec := "coordAlike", unfollowed := true, recurses := true, apart := false, narrowed := true }
def CoordAlikeUptoSaid : Prop := coordAlikeUptoRow.holds Try.pinned (OpenSpec.upto coordAlikeSpec)

/-- 'seneschallaw10.CoordBad', WHERE WHAT IT READS IS OF BULK AT MOST 1048576: true; the input reads as it did. -/
def coordBadUptoRow : OpenClaim := { program := "ytoihfhlelbdboab", sum := "bc73933ceb4d93443e90759c27bb47fcd6b616bc248c5f507a6f2fcf78b5d2fe", func := "seneschal/seneschallaw10.CoordBad", spec := "coordBad", unfollowed := true, recurses := true, apart := false, narrowed := true }
def CoordBadUptoSaid : Prop := coordBadUptoRow.holds Try.pinned (OpenSpec.upto coordBadSpec)

end Rows
end Go.Proofs.Ytoihfhlelbdboab
