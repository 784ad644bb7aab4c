/- HoldFrom's walk: for every row of up to 100 keys and every key to begin at. -/
import Derived.Test.YtgafmckiomhceaaWalkM
namespace Go.Proofs.Ytgafmckiomhceaa
open Go.RowKit Go.Hold Go.Inv Go.Shelf Go.Deep
set_option linter.unusedVariables false

/-- what is left when each of the first j keys was set to its place -/
def setsN (xs : List Int) : Nat → List (Int × Int)
  | 0 => []
  | j + 1 => insL (xs.getD j 0) (j : Int) (setsN xs j)
theorem setsN_len (xs : List Int) : ∀ j, (setsN xs j).length ≤ j
  | 0 => Nat.le_refl _
  | j + 1 => by
    have h1 := setsN_len xs j
    have h2 := length_insL (xs.getD j 0) (j : Int) (setsN xs j)
    simp only [setsN]
    omega

/-- v is a slice of these numbers, as it came in -/
def SlF (W : World) (v : Value) (xs : List Int) : Prop := ∃ a cap, v = .slice a xs.length cap ∧ ∀ i x, xs[i]? = some x → ∃ g off, a = some ⟨g, off, none⟩ ∧ W.cell? ⟨g, off + i, none⟩ = some (.int .i64 x)
/-- a slice of numbers that came in -/
theorem open_sl {H : Type} {enc : TypeId × Value → H} {W : World} {base : Nat} {spare : Nat → Bool} {held : Bool} {fuel : Nat} {a : Option Addr} {len cap : Nat} {x : DataW H × List MemPlace} (h : DataW.trod enc Try.prog W base spare held fuel 26 (Value.slice a len cap).cells.toList = some x) :
    ∃ xs, SlF W (.slice a len cap) xs ∧ (∀ y ∈ xs, -9223372036854775808 ≤ y) ∧ xs.length ≤ maxLen := by
  rcases ChangeShapes.open_ints Try.underlying26 Try.underlying3 (by kernel_rfl) h with ⟨hcs, _⟩ | ⟨b, l, c, zs, hcs, _, hl, hm, hz, _, hcell, hwz⟩
  · simp [Value.cells] at hcs
    obtain ⟨rfl, rfl, rfl⟩ := hcs
    exact ⟨[], ⟨none, 0, rfl, fun i x hx => by simp at hx⟩, fun y hy => (by cases hy), Nat.zero_le _⟩
  · simp [Value.cells] at hcs
    obtain ⟨rfl, rfl, rfl⟩ := hcs
    have hz' : len ≤ zs.length := by rw [hz]; split <;> omega
    have hlen : (zs.take len).length = len := by simp; omega
    refine ⟨zs.take len, ⟨some b, cap, by rw [hlen], fun i y hy => ?_⟩, fun y hy => (bounds_i64 (hwz y (List.mem_of_mem_take hy))).1, by rw [hlen]; omega⟩
    have hi : i < len := by
      rw [← hlen]; exact (List.getElem?_eq_some_iff.mp hy).1
    have hc := hcell i (by omega)
    obtain ⟨g, off, sp⟩ := b
    have hs : sp = none := by
      have := spot_none (hcell 0 (by omega))
      simpa [Addr.add] using this
    subst hs
    rw [Addr.add_lit] at hc
    rw [List.getElem?_take_of_lt hi] at hy
    refine ⟨g, off, rfl, ?_⟩
    rw [hc, List.getD_eq_getElem?_getD, hy]
    rfl

end Go.Proofs.Ytgafmckiomhceaa
