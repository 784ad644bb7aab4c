/-
  No cell of these rows narrows 'for every input' (looked for: loops, veiled, ifaces, maps, wideKeys, modest, calm, conditions, laid).
  DERIVED. THE GIVEN ROWS OF THIS SEAT. 6 by the template 'for every input the law returns true; each argument reads behind the call as it read before'; 0 by the template 'total and deterministic' (their statements: YtoihfhlelbdboaaTotals.lean).
  GIVEN WITH THE SEED: the statements are not yours to turn. If you find one false, say at which input.
  Laid BY PROGRAM, IN A SANDBOX (cutbox-rows.mjs): the forced cells as the released guide's own fill.sh prints them over the translation cbf5b5640bb625aa… (all of the seat's roots in one cut). By AI agents, Wed Nov 11 2026. No macro, syntax, notation, axiom, sorry.
-/
import Derived.Test.YtoihfhlelbdboaaChecked
import GoSem.Claim
import GoSem.ClaimJoined
import GoSem.ClaimMapViews
import Derived.JoinedTies
import Derived.KernelRfl
namespace Go.Proofs.Ytoihfhlelbdboaa
/- THE CELL 'sum', in the pinned program and in every row, IS THE sha256 OF THE DUMP (.gsa) THAT YtoihfhlelbdboaaProg.lean LOADS. Nothing in Lean hashes anything: it is a label: what it is worth is what the hold of that sum in a sandbox is worth. -/
noncomputable def Try.pinned : Pinned := { name := "ytoihfhlelbdboaa", sum := "cbf5b5640bb625aa9482516d0bd94576b906bbce2a43f6851317a7cfc396a720", checked := Try.checked }
namespace Rows
def none {H : Type} : Left H := { results := [], args := [] }

/-- 'seneschallaw10.CoordOnce': WHATEVER THE INPUT: true; the input reads as it did. -/
def coordOnceSpec : ChangeSpec := { name := "coordOnce", fn := fun _ => fun
  | [d] => { results := [.lit (.bool true)], args := [d] }
  | _ => none }
def coordOnceRow : OpenClaim := { program := "ytoihfhlelbdboaa", sum := "cbf5b5640bb625aa9482516d0bd94576b906bbce2a43f6851317a7cfc396a720", func := "seneschal/seneschallaw10.CoordOnce", spec := "coordOnce", unfollowed := true, recurses := true, apart := false }
def CoordOnceSaid : Prop := coordOnceRow.holds Try.pinned (OpenSpec.ofChange coordOnceSpec)

/-- ITS FALSE NEIGHBOUR: 'it returns false'. Refute it at one input. -/
def coordOnceWrong : ChangeSpec := { name := "coordOnce", fn := fun _ => fun
  | [d] => { results := [.lit (.bool false)], args := [d] }
  | _ => none }
def CoordOnceWrongFalsely : Prop := coordOnceRow.holds Try.pinned (OpenSpec.ofChange coordOnceWrong)

/-- 'seneschallaw10.CoordAgain': WHATEVER THE INPUT: true; the input reads as it did. -/
def coordAgainSpec : ChangeSpec := { name := "coordAgain", fn := fun _ => fun
  | [d] => { results := [.lit (.bool true)], args := [d] }
  | _ => none }
def coordAgainRow : OpenClaim := { program := "ytoihfhlelbdboaa", sum := "cbf5b5640bb625aa9482516d0bd94576b906bbce2a43f6851317a7cfc396a720", func := "seneschal/seneschallaw10.CoordAgain", spec := "coordAgain", unfollowed := true, recurses := true, apart := false }
def CoordAgainSaid : Prop := coordAgainRow.holds Try.pinned (OpenSpec.ofChange coordAgainSpec)

/-- ITS FALSE NEIGHBOUR: 'it returns false'. Refute it at one input. -/
def coordAgainWrong : ChangeSpec := { name := "coordAgain", fn := fun _ => fun
  | [d] => { results := [.lit (.bool false)], args := [d] }
  | _ => none }
def CoordAgainWrongFalsely : Prop := coordAgainRow.holds Try.pinned (OpenSpec.ofChange coordAgainWrong)

/-- 'seneschallaw10.CoordFences': WHATEVER THE INPUT: true; the input reads as it did. -/
def coordFencesSpec : ChangeSpec := { name := "coordFences", fn := fun _ => fun
  | [d1, d2, d3] => { results := [.lit (.bool true)], args := [d1, d2, d3] }
  | _ => none }
def coordFencesRow : OpenClaim := { program := "ytoihfhlelbdboaa", sum := "cbf5b5640bb625aa9482516d0bd94576b906bbce2a43f6851317a7cfc396a720", func := "seneschal/seneschallaw10.CoordFences", spec := "coordFences", unfollowed := true, recurses := true, apart := false }
def CoordFencesSaid : Prop := coordFencesRow.holds Try.pinned (OpenSpec.ofChange coordFencesSpec)

/-- ITS FALSE NEIGHBOUR: 'it returns false'. Refute it at one input. -/
def coordFencesWrong : ChangeSpec := { name := "coordFences", fn := fun _ => fun
  | [d1, d2, d3] => { results := [.lit (.bool false)], args := [d1, d2, d3] }
  | _ => none }
def CoordFencesWrongFalsely : Prop := coordFencesRow.holds Try.pinned (OpenSpec.ofChange coordFencesWrong)

/-- 'seneschallaw10.CoordAges': WHATEVER THE INPUT: true; the input reads as it did. -/
def coordAgesSpec : ChangeSpec := { name := "coordAges", fn := fun _ => fun
  | [d1, d2] => { results := [.lit (.bool true)], args := [d1, d2] }
  | _ => none }
def coordAgesRow : OpenClaim := { program := "ytoihfhlelbdboaa", sum := "cbf5b5640bb625aa9482516d0bd94576b906bbce2a43f6851317a7cfc396a720", func := "seneschal/seneschallaw10.CoordAges", spec := "coordAges", unfollowed := true, recurses := true, apart := false }
def CoordAgesSaid : Prop := coordAgesRow.holds Try.pinned (OpenSpec.ofChange coordAgesSpec)

/-- ITS FALSE NEIGHBOUR: 'it returns false'. Refute it at one input. -/
def coordAgesWrong : ChangeSpec := { name := "coordAges", fn := fun _ => fun
  | [d1, d2] => { results := [.lit (.bool false)], args := [d1, d2] }
  | _ => none }
def CoordAgesWrongFalsely : Prop := coordAgesRow.holds Try.pinned (OpenSpec.ofChange coordAgesWrong)

/-- 'seneschallaw10.CoordOfNothing': WHATEVER THE INPUT: true; the input reads as it did. -/
def coordOfNothingSpec : ChangeSpec := { name := "coordOfNothing", fn := fun _ => fun
  | [d] => { results := [.lit (.bool true)], args := [d] }
  | _ => none }
def coordOfNothingRow : OpenClaim := { program := "ytoihfhlelbdboaa", sum := "cbf5b5640bb625aa9482516d0bd94576b906bbce2a43f6851317a7cfc396a720", func := "seneschal/seneschallaw10.CoordOfNothing", spec := "coordOfNothing", unfollowed := true, recurses := true, apart := false }
def CoordOfNothingSaid : Prop := coordOfNothingRow.holds Try.pinned (OpenSpec.ofChange coordOfNothingSpec)

/-- ITS FALSE NEIGHBOUR: 'it returns false'. Refute it at one input. -/
def coordOfNothingWrong : ChangeSpec := { name := "coordOfNothing", fn := fun _ => fun
  | [d] => { results := [.lit (.bool false)], args := [d] }
  | _ => none }
def CoordOfNothingWrongFalsely : Prop := coordOfNothingRow.holds Try.pinned (OpenSpec.ofChange coordOfNothingWrong)

/-- 'seneschallaw10.CoordNumbers': WHATEVER THE INPUT: true; the input reads as it did. -/
def coordNumbersSpec : ChangeSpec := { name := "coordNumbers", fn := fun _ => fun
  | [d1, d2] => { results := [.lit (.bool true)], args := [d1, d2] }
  | _ => none }
def coordNumbersRow : OpenClaim := { program := "ytoihfhlelbdboaa", sum := "cbf5b5640bb625aa9482516d0bd94576b906bbce2a43f6851317a7cfc396a720", func := "seneschal/seneschallaw10.CoordNumbers", spec := "coordNumbers", unfollowed := true, recurses := true, apart := false }
def CoordNumbersSaid : Prop := coordNumbersRow.holds Try.pinned (OpenSpec.ofChange coordNumbersSpec)

/-- ITS FALSE NEIGHBOUR: 'it returns false'. Refute it at one input. -/
def coordNumbersWrong : ChangeSpec := { name := "coordNumbers", fn := fun _ => fun
  | [d1, d2] => { results := [.lit (.bool false)], args := [d1, d2] }
  | _ => none }
def CoordNumbersWrongFalsely : Prop := coordNumbersRow.holds Try.pinned (OpenSpec.ofChange coordNumbersWrong)

/- THE SECOND FORM. 'bulk': how many values and letters a reading holds, each counted each time it is reached (what is shared counts as often as it is met; a slice's spare places count too). A statement '..UptoSaid' is the law's where the arguments, and the package variables that the reading takes, are together of bulk at most 1048576: NARROWER than '..Said'. Prove '..Said' where nothing that the law and all that it calls make is longer than what came in: it says more and counts as full. Else prove '..UptoSaid'. A law counts once. -/
mutual
def uptoBulk {H : Type} : DataW H → Nat
  | .lit (.string bytes) => bytes.length + 1
  | .lit _ => 1
  | .nil => 1
  | .ptr d => uptoBulk d + 1
  | .slice elems spare => uptoBulkAll elems + uptoBulkAll spare + 1
  | .agg parts => uptoBulkAll parts + 1
  | .iface _ d => uptoBulk d + 1
  | .map entries => uptoBulkEntries entries + 1
  | .held _ => 1
def uptoBulkAll {H : Type} : List (DataW H) → Nat
  | [] => 0
  | d :: r => uptoBulk d + uptoBulkAll r
def uptoBulkEntries {H : Type} : List (Lit × DataW H) → Nat
  | [] => 0
  | x :: r => uptoBulkEntry x + uptoBulkEntries r
def uptoBulkEntry {H : Type} : Lit × DataW H → Nat
  | (.string bytes, d) => bytes.length + uptoBulk d + 1
  | (_, d) => uptoBulk d + 1
 end
def uptoSmall : (H : Type) → List (DataW H) → Bool := fun _ ds => decide (uptoBulkAll ds ≤ 1048576)
def OpenSpec.upto (s : _root_.Go.ChangeSpec) : _root_.Go.OpenSpec := { _root_.Go.OpenSpec.ofChange s with cond := some uptoSmall }

/-- 'seneschallaw10.CoordOnce', WHERE WHAT IT READS IS OF BULK AT MOST 1048576: true; the input reads as it did. -/
def coordOnceUptoRow : OpenClaim := { program := "ytoihfhlelbdboaa", sum := "cbf5b5640bb625aa9482516d0bd94576b906bbce2a43f6851317a7cfc396a720", func := "seneschal/seneschallaw10.CoordOnce", spec := "coordOnce", unfollowed := true, recurses := true, apart := false, narrowed := true }
def CoordOnceUptoSaid : Prop := coordOnceUptoRow.holds Try.pinned (OpenSpec.upto coordOnceSpec)

/-- 'seneschallaw10.CoordAgain', WHERE WHAT IT READS IS OF BULK AT MOST 1048576: true; the input reads as it did. -/
def coordAgainUptoRow : OpenClaim := { program := "ytoihfhlelbdboaa", sum := "cbf5b5640bb625aa9482516d0bd94576b906bbce2a43f6851317a7cfc396a720", func := "seneschal/seneschallaw10.CoordAgain", spec := "coordAgain", unfollowed := true, recurses := true, apart := false, narrowed := true }
def CoordAgainUptoSaid : Prop := coordAgainUptoRow.holds Try.pinned (OpenSpec.upto coordAgainSpec)

/-- 'seneschallaw10.CoordFences', WHERE WHAT IT READS IS OF BULK AT MOST 1048576: true; the input reads as it did. -/
def coordFencesUptoRow : OpenClaim := { program := "ytoihfhlelbdboaa", sum := "cbf5b5640bb625aa9482516d0bd94576b906bbce2a43f6851317a7cfc396a720", func := "seneschal/seneschallaw10.CoordFences", spec := "coordFences", unfollowed := true, recurses := true, apart := false, narrowed := true }
def CoordFencesUptoSaid : Prop := coordFencesUptoRow.holds Try.pinned (OpenSpec.upto coordFencesSpec)

/-- 'seneschallaw10.CoordAges', WHERE WHAT IT READS IS OF BULK AT MOST 1048576: true; the input reads as it did. -/
def coordAgesUptoRow : OpenClaim := { program := "ytoihfhlelbdboaa", sum := "cbf5b5640bb625aa9482516d0bd94576b906bbce2a43f6851317a7cfc396a720", func := "seneschal/seneschallaw10.CoordAges", spec := "coordAges", unfollowed := true, recurses := true, apart := false, narrowed := true }
def CoordAgesUptoSaid : Prop := coordAgesUptoRow.holds Try.pinned (OpenSpec.upto coordAgesSpec)

/-- 'seneschallaw10.CoordOfNothing', WHERE WHAT IT READS IS OF BULK AT MOST 1048576: true; the input reads as it did. -/
def coordOfNothingUptoRow : OpenClaim := { program := "ytoihfhlelbdboaa", sum := "cbf5b5640bb625aa9482516d0bd94576b906bbce2a43f6851317a7cfc396a720", func := "seneschal/seneschallaw10.CoordOfNothing", spec := "coordOfNothing", unfollowed := true, recurses := true, apart := false, narrowed := true }
def CoordOfNothingUptoSaid : Prop := coordOfNothingUptoRow.holds Try.pinned (OpenSpec.upto coordOfNothingSpec)

/-- 'seneschallaw10.CoordNumbers', WHERE WHAT IT READS IS OF BULK AT MOST 1048576: true; the input reads as it did. -/
def coordNumbersUptoRow : OpenClaim := { program := "ytoihfhlelbdboaa", sum := "cbf5b5640bb625aa9482516d0bd94576b906bbce2a43f6851317a7cfc396a720", func := "seneschal/seneschallaw10.CoordNumbers", spec := "coordNumbers", unfollowed := true, recurses := true, apart := false, narrowed := true }
def CoordNumbersUptoSaid : Prop := coordNumbersUptoRow.holds Try.pinned (OpenSpec.upto coordNumbersSpec)

end Rows
end Go.Proofs.Ytoihfhlelbdboaa
