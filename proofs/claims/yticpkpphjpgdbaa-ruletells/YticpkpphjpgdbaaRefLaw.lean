/- A slice of bytes that comes in, as the reference asks for it. -/
import Derived.Test.YticpkpphjpgdbaaWireC
import Derived.Test.YticpkpphjpgdbaaSealLaw
import Derived.Test.YticpkpphjpgdbaaRefC
namespace Go.Proofs.Yticpkpphjpgdbaa
open Go.ChangeShapes Go.WideShapes Go.ChangeAt Go.RowKit Go.Dig

theorem open_rowed {H : Type} {enc : TypeId × Value → H} {W : World} {base : Nat} {spare : Nat → Bool} {held : Bool} {fuel : Nat} {a : Option Addr} {len cap : Nat} {x : DataW H × List MemPlace} (h : DataW.trod enc Try.prog W base spare held fuel 22 (Value.slice a len cap).cells.toList = some x) :
    ∃ P : List Int, len = P.length ∧ Lies W a P ∧ P.length ≤ cap ∧ (∀ y ∈ P, 0 ≤ y ∧ y < 256) ∧ Rowed W a P cap := by
  have h' := h
  obtain ⟨P, hP, hl, hc, hy⟩ := open_bytes h'
  refine ⟨P, hP, hl, hc, hy, ?_⟩
  rcases ChangeShapes.open_ints Try.underlying22 Try.underlying5 (by kernel_rfl) h with ⟨hcs, _⟩ | ⟨b, l, c, zs, hcs, _, _, _, hz, _, hcell, _⟩
  · simp [Value.cells] at hcs
    obtain ⟨rfl, rfl, rfl⟩ := hcs
    exact .inl ⟨rfl, List.length_eq_zero_iff.1 hP.symm, rfl⟩
  · simp [Value.cells] at hcs
    obtain ⟨rfl, rfl, rfl⟩ := hcs
    refine .inr ⟨b, rfl, fun j hj => ?_⟩
    obtain ⟨g, off, e, hcl⟩ := hl (by intro e; subst e; simp at hj)
    cases e
    rw [Addr.add_lit]
    exact hcl j hj
end Go.Proofs.Yticpkpphjpgdbaa
