/- Arguments of seneschallaw10's laws, as they come in: an operation, a row of operations. -/
import Derived.Test.YtoihfhlelbdboaaRows
import Derived.Test.YtoihfhlelbdboaaCoF
import Derived.ProofKit
import Derived.OpenShut
import Derived.ShutString
import Derived.ChangeOld
import Derived.Deep.Slices
namespace Go.Proofs.Ytoihfhlelbdboaa
open Go.ChangeShapes Go.WideShapes Go.ChangeAt Go.RowKit Go.Dig Go.Deep

theorem wf_i64 {n : Int} (h : (Lit.int .i64 n).wf = true) : -9223372036854775808 ≤ n ∧ n ≤ 9223372036854775807 := by
  simp [Lit.wf, IntKind.min, IntKind.max, IntKind.signed, IntKind.bits] at h; omega
theorem inI_of {n : Int} (h : (Lit.int .i64 n).wf = true) : inI n := wf_i64 h
set_option maxRecDepth 100000 in
theorem okWide_struct {w : World} {r : Reach} {base : Nat} {t : TypeId} {v : Value} {fs : Array Field} (ht : Try.prog.underlying t = some (.struct fs)) (h : Value.okWide Try.prog w r base t v) : ∃ cs, v = .agg cs := by
  simp only [Value.okWide, ht] at h
  obtain ⟨cs, h1, _⟩ := h
  exact ⟨cs, h1⟩
section
variable {H : Type} {enc : TypeId × Value → H} {W : World} {base : Nat} {spare : Nat → Bool} {held : Bool} {fuel : Nat} {cs : List Value} {x : DataW H × List MemPlace}
theorem int_cell (o : Nat) (h : DataW.trod enc Try.prog W base spare held fuel 3 ((cs.drop o).take (Try.prog.cellsOf 3)) = some x) : ∃ z : Int, cs[o]? = some (.int .i64 z) ∧ inI z := by
  have hc : Try.prog.cellsOf 3 = 1 := by kernel_rfl
  obtain ⟨z, e, _, hw⟩ := DataW.trod_int Try.underlying3 h
  rw [hc] at e
  refine ⟨z, ?_, inI_of hw⟩
  have := congrArg (fun l => l[0]?) e
  simpa [List.getElem?_take, List.getElem?_drop] using this
end
section
variable {H : Type} {enc : TypeId × Value → H} {W : World} {base : Nat} {spare : Nat → Bool} {held : Bool} {fuel : Nat} {cs : List Value} {x : DataW H × List MemPlace}
set_option maxRecDepth 100000 in
/-- an operation's cells -/
theorem op_cells (h : DataW.trod enc Try.prog W base spare held fuel 33 cs = some x) : ∃ (k c s : Int) (n : ByteArray) (p e t r : Int) (b : Bool), cs = (opC k c s n p e t r b).toList ∧ inI k ∧ inI c ∧ inI s ∧ n.size ≤ maxLen ∧ inI p ∧ inI e ∧ inI t ∧ inI r := by
  obtain ⟨xs, m, _, rfl, hl, hlen, hf⟩ := DataW.trod_struct Try.underlying33 h
  have hc : Try.prog.cellsOf 33 = 9 := by kernel_rfl
  have hcs : Try.prog.cellsOf 9 = 1 := by kernel_rfl
  have hcb : Try.prog.cellsOf 4 = 1 := by kernel_rfl
  rw [hc] at hl
  match xs, hlen with
  | [y0, y1, y2, y3, y4, y5, y6, y7, y8], _ =>
    obtain ⟨k, e0, i0⟩ := int_cell 0 (hf 0 _ rfl)
    obtain ⟨c, e1, i1⟩ := int_cell 1 (hf 1 _ rfl)
    obtain ⟨s, e2, i2⟩ := int_cell 2 (hf 2 _ rfl)
    have g3 : DataW.trod enc Try.prog W base spare held m 9 ((cs.drop 3).take (Try.prog.cellsOf 9)) = some y3 := hf 3 _ rfl
    obtain ⟨p, e4, i4⟩ := int_cell 4 (hf 4 _ rfl)
    obtain ⟨e, e5, i5⟩ := int_cell 5 (hf 5 _ rfl)
    obtain ⟨t, e6, i6⟩ := int_cell 6 (hf 6 _ rfl)
    obtain ⟨r, e7, i7⟩ := int_cell 7 (hf 7 _ rfl)
    have g8 : DataW.trod enc Try.prog W base spare held m 4 ((cs.drop 8).take (Try.prog.cellsOf 4)) = some y8 := hf 8 _ rfl
    obtain ⟨n, hn, _, hnl⟩ := DataW.trod_string Try.underlying9 g3
    obtain ⟨b, hb, _⟩ := DataW.trod_bool Try.underlying4 g8
    rw [hcs] at hn
    rw [hcb] at hb
    match cs, hl with
    | [c0, c1, c2, c3, c4, c5, c6, c7, c8], _ =>
      simp at e0 e1 e2 hn e4 e5 e6 e7 hb
      subst e0 e1 e2 hn e4 e5 e6 e7 hb
      exact ⟨k, c, s, n, p, e, t, r, b, rfl, i0, i1, i2, hnl, i4, i5, i6, i7⟩
end
section
variable {H : Type} {enc : TypeId × Value → H} {W : World} {r : Reach} {b0 base : Nat} {spare : Nat → Bool} {held : Bool} {v : Value} {d : DataW H} {ps : List MemPlace}
set_option maxRecDepth 100000 in
theorem open_op (hval : Value.okWide Try.prog W r b0 33 v) (h : DataW.Trod enc Try.prog W base spare held 33 v d ps) : ∃ (k c s : Int) (n : ByteArray) (p e t r : Int) (b : Bool), v = .agg (opC k c s n p e t r b) ∧ inI k ∧ inI c ∧ inI s ∧ n.size ≤ maxLen ∧ inI p ∧ inI e ∧ inI t ∧ inI r := by
  obtain ⟨cs, rfl⟩ := okWide_struct Try.underlying33 hval
  obtain ⟨fuel, hf⟩ := h
  obtain ⟨k, c, s, n, p, e, t, r, b, hc, hi⟩ := op_cells hf
  exact ⟨k, c, s, n, p, e, t, r, b, congrArg Value.agg (Array.toList_inj.1 hc), hi⟩
end
end Go.Proofs.Ytoihfhlelbdboaa
