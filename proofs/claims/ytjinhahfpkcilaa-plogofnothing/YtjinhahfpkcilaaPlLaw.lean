/- Arguments of seneschallaw11's laws, as they come in: a record. -/
import Derived.Test.YtjinhahfpkcilaaRows
import Derived.Test.YtjinhahfpkcilaaPlM
import Derived.Test.YtjinhahfpkcilaaPlA
import Derived.ProofKit
import Derived.OpenShut
import Derived.ShutString
import Derived.ChangeOld
import Derived.Deep.Slices
namespace Go.Proofs.Ytjinhahfpkcilaa
open Go.ChangeShapes Go.WideShapes Go.ChangeAt Go.RowKit Go.Dig Go.Deep

set_option maxRecDepth 100000 in
theorem okWide_struct {w : World} {r : Reach} {base : Nat} {t : TypeId} {v : Value} {fs : Array Field} (ht : Try.prog.underlying t = some (.struct fs)) (h : Value.okWide Try.prog w r base t v) : ∃ cs, v = .agg cs := by
  simp only [Value.okWide, ht] at h
  obtain ⟨cs, h1, _⟩ := h
  exact ⟨cs, h1⟩
section
variable {H : Type} {enc : TypeId × Value → H} {W : World} {base : Nat} {spare : Nat → Bool} {held : Bool} {fuel : Nat} {cs : List Value} {x : DataW H × List MemPlace}
theorem int_cell (o : Nat) (h : DataW.trod enc Try.prog W base spare held fuel 3 ((cs.drop o).take (Try.prog.cellsOf 3)) = some x) : ∃ z : Int, cs[o]? = some (.int .i64 z) := by
  have hc : Try.prog.cellsOf 3 = 1 := by kernel_rfl
  obtain ⟨z, e, _, _⟩ := DataW.trod_int Try.underlying3 h
  rw [hc] at e
  refine ⟨z, ?_⟩
  have := congrArg (fun l => l[0]?) e
  simpa [List.getElem?_take, List.getElem?_drop] using this
end
section
variable {H : Type} {enc : TypeId × Value → H} {W : World} {base : Nat} {spare : Nat → Bool} {held : Bool} {fuel : Nat} {cs : List Value} {x : DataW H × List MemPlace}
set_option maxRecDepth 100000 in
/-- a record's cells -/
theorem rec_cells (h : DataW.trod enc Try.prog W base spare held fuel 32 cs = some x) : ∃ (p e t s : Int) (a : Option Addr) (n c : Nat), cs = (rrC (⟨p, e, t, s, []⟩, .slice a n c)).toList := by
  obtain ⟨xs, m, _, rfl, hl, hlen, hf⟩ := DataW.trod_struct Try.underlying32 h
  have hc : Try.prog.cellsOf 32 = 5 := by kernel_rfl
  have hcb : Try.prog.cellsOf 30 = 1 := by kernel_rfl
  rw [hc] at hl
  match xs, hlen with
  | [y0, y1, y2, y3, y4], _ =>
    obtain ⟨p, e0⟩ := int_cell 0 (hf 0 _ rfl)
    obtain ⟨e, e1⟩ := int_cell 1 (hf 1 _ rfl)
    obtain ⟨t, e2⟩ := int_cell 2 (hf 2 _ rfl)
    obtain ⟨s, e3⟩ := int_cell 3 (hf 3 _ rfl)
    have g4 : DataW.trod enc Try.prog W base spare held m 30 ((cs.drop 4).take (Try.prog.cellsOf 30)) = some y4 := hf 4 _ rfl
    rw [hcb] at g4
    match cs, hl with
    | [c0, c1, c2, c3, c4], _ =>
      simp at e0 e1 e2 e3 g4
      subst e0 e1 e2 e3
      rcases open_slice Try.underlying30 g4 with ⟨hcs, _⟩ | ⟨ad, l, c, m, n, D, Pl, hcs, _⟩
      · simp at hcs; subst hcs; exact ⟨p, e, t, s, none, 0, 0, rfl⟩
      · simp at hcs; subst hcs; exact ⟨p, e, t, s, some ad, l, c, rfl⟩
end
section
variable {H : Type} {enc : TypeId × Value → H} {W : World} {r : Reach} {b0 base : Nat} {spare : Nat → Bool} {held : Bool} {v : Value} {d : DataW H} {ps : List MemPlace}
theorem open_rec (hval : Value.okWide Try.prog W r b0 32 v) (h : DataW.Trod enc Try.prog W base spare held 32 v d ps) : ∃ (p e t s : Int) (a : Option Addr) (n c : Nat), v = .agg (rrC (⟨p, e, t, s, []⟩, .slice a n c)) := by
  obtain ⟨cs, rfl⟩ := okWide_struct Try.underlying32 hval
  obtain ⟨fuel, hf⟩ := h
  obtain ⟨p, e, t, s, a, n, c, hc⟩ := rec_cells hf
  exact ⟨p, e, t, s, a, n, c, congrArg Value.agg (Array.toList_inj.1 hc)⟩
end
end Go.Proofs.Ytjinhahfpkcilaa
