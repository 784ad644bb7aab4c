/- A region that draws, two of whose operations change the world, one behind the other; the others only read. No condition. -/
import Derived.Test.YtkjocpadmlobgaaInv
namespace Go.Inv
open Go

structure TwI (D : Nat → Value → Prop) (a b : Nat) (S0 : World → Prop) (S1 : Value → World → Prop) (S2 : Value → Value → World → Prop) (li : Nat → Bool) (xs : Nat → Value) (W : World) : Prop where
  det : ∀ i, li i = true → i ≠ a → i ≠ b → D i (xs i)
  s0 : li a = false → S0 W
  s1 : li a = true → li b = false → S1 (xs a) W
  s2 : li b = true → S2 (xs a) (xs b) W
  late : li b = true → li a = true
section
variable {D : Nat → Value → Prop} {a b : Nat} {S0 : World → Prop} {S1 : Value → World → Prop} {S2 : Value → Value → World → Prop} {li : Nat → Bool} {xs : Nat → Value} {W : World}
theorem TwI.start (h : S0 W) (xs : Nat → Value) : TwI D a b S0 S1 S2 (fun _ => false) xs W := ⟨(fun _ e => by cases e), fun _ => h, (fun e => by cases e), (fun e => by cases e), (fun e => by cases e)⟩
theorem TwI.mark (h : TwI D a b S0 S1 S2 li xs W) (i : Nat) (v : Value) (hv : D i v) (ha : a ≠ i) (hb : b ≠ i) : TwI D a b S0 S1 S2 (upd li i true) (upd xs i v) W := by
  refine ⟨fun j hl h1 h2 => ?_, ?_, ?_, ?_, ?_⟩
  · by_cases hji : j = i
    · subst hji; rw [upd_same]; exact hv
    · rw [upd_other _ _ hji] at hl ⊢; exact h.det j hl h1 h2
  · rw [upd_other _ _ ha]; exact h.s0
  · rw [upd_other _ _ ha, upd_other _ _ ha, upd_other _ _ hb]; exact h.s1
  · rw [upd_other _ _ hb, upd_other _ _ ha, upd_other _ _ hb]; exact h.s2
  · rw [upd_other _ _ hb, upd_other _ _ ha]; exact h.late
theorem TwI.no (h : TwI D a b S0 S1 S2 li xs W) (e : li a = false) : li b = false := by
  cases hb : li b with
  | false => rfl
  | true => rw [h.late hb] at e; cases e
theorem TwI.first (h : TwI D a b S0 S1 S2 li xs W) (e : li a = false) (hab : b ≠ a) (v : Value) {W' : World} (hs : S1 v W') : TwI D a b S0 S1 S2 (upd li a true) (upd xs a v) W' := by
  have hb := h.no e
  refine ⟨fun j hl h1 h2 => ?_, (fun e => by rw [upd_same] at e; cases e), fun _ _ => by rw [upd_same]; exact hs, (fun e => by rw [upd_other _ _ hab, hb] at e; cases e), fun _ => upd_same _ _ _⟩
  rw [upd_other _ _ h1] at hl ⊢
  exact h.det j hl h1 h2
theorem TwI.second (h : TwI D a b S0 S1 S2 li xs W) (e : li a = true) (hab : a ≠ b) (v : Value) {W' : World} (hs : S2 (xs a) v W') : TwI D a b S0 S1 S2 (upd li b true) (upd xs b v) W' := by
  refine ⟨fun j hl h1 h2 => ?_, (fun e2 => by rw [upd_other _ _ hab, e] at e2; cases e2), (fun _ e2 => by rw [upd_same] at e2; cases e2), fun _ => by rw [upd_same, upd_other _ _ hab]; exact hs, fun _ => by rw [upd_other _ _ hab]; exact e⟩
  rw [upd_other _ _ h2] at hl ⊢
  exact h.det j hl h1 h2
end
end Go.Inv
