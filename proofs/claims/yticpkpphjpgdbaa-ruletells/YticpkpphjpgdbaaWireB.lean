/- wire's rows: layByte, layRow of bytes. For rows of up to 2^39 bytes. -/
import Derived.Test.YticpkpphjpgdbaaSealLaw
import Derived.Test.YticpkpphjpgdbaaWireA
namespace Go.Proofs.Yticpkpphjpgdbaa
open Go.RowKit Go.Dig Go.Inv Go.Oct

theorem Rowed.at {w : World} {ao : Option Addr} {P : List Int} {cap : Nat} (h : Rowed w ao P cap) (hp : P ≠ []) : ∃ b o, ao = some ⟨b, o, none⟩ ∧ ∀ j, j < P.length → w.cell? ⟨b, o + j, none⟩ = some (.int .u8 (P.getD j 0)) := by
  rcases h with ⟨_, h0, _⟩ | ⟨⟨b, o, s⟩, e, hc⟩
  · exact absurd h0 hp
  · have h0 := hc 0 (List.length_pos_iff.2 hp)
    have hs := spot_none h0
    have : s = none := by
      cases s with
      | none => rfl
      | some s => simp [Addr.add] at hs
    subst this
    exact ⟨b, o, e, fun j hj => by have := hc j hj; rwa [addr_add] at this⟩
/-- a row is none of the Writer's -/
def Apart (ao : Option Addr) (g : Nat) (v : Value) : Prop := ∀ ad, ao = some ad → ad.block ≠ g ∧ v.ownBlock ≠ some ad.block

theorem nums_one (x : Int) : nums [x] = num x := by simp [nums]
end Go.Proofs.Yticpkpphjpgdbaa
