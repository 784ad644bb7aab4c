/- A region that draws, in which up to four cells of one block are written: an invariant over which writes are done. -/
import Derived.Test.YtoihfhlelbdboabInv
import Derived.Test.YtoihfhlelbdboabDigLaw
namespace Go.Inv
open Go Go.RowKit Go.Dig

structure StI (D : Nat → Value → Prop) (wo : World) (b ty : Nat) (C : Bool → Bool → Bool → Bool → Array Value) (a0 a1 a2 a3 : Nat) (li : Nat → Bool) (xs : Nat → Value) (W : World) : Prop where
  det : ∀ i, li i = true → D i (xs i)
  bel : Below b wo W
  blk : W.heap[b]? = some (.cells (C (li a0) (li a1) (li a2) (li a3)) ty (0, 0))
section
variable {D : Nat → Value → Prop} {wo : World} {b ty : Nat} {C : Bool → Bool → Bool → Bool → Array Value} {a0 a1 a2 a3 : Nat} {li : Nat → Bool} {xs : Nat → Value} {W : World}
theorem StI.detStep (h : StI D wo b ty C a0 a1 a2 a3 li xs W) (i : Nat) (x : Value) (hf : D i x) : ∀ j, upd li i true j = true → D j (upd xs i x j) := fun j hl => by
  by_cases hji : j = i
  · subst hji; rw [upd_same]; exact hf
  · rw [upd_other _ _ hji] at hl ⊢; exact h.det j hl
theorem StI.mark (h : StI D wo b ty C a0 a1 a2 a3 li xs W) (i : Nat) (x : Value) (hf : D i x) (hi : a0 ≠ i ∧ a1 ≠ i ∧ a2 ≠ i ∧ a3 ≠ i) : StI D wo b ty C a0 a1 a2 a3 (upd li i true) (upd xs i x) W :=
  ⟨h.detStep i x hf, h.bel, by rw [upd_other _ _ hi.1, upd_other _ _ hi.2.1, upd_other _ _ hi.2.2.1, upd_other _ _ hi.2.2.2]; exact h.blk⟩
theorem StI.below (h : StI D wo b ty C a0 a1 a2 a3 li xs W) (off : Nat) (v : Value) : Below b wo (W.setCell ⟨b, off, none⟩ v) := h.bel.setCell (p := ⟨b, off, none⟩) (Nat.le_refl _) _
theorem StI.put0 (h : StI D wo b ty C a0 a1 a2 a3 li xs W) (hl : li a0 = false) (off : Nat) (v x : Value) (hf : D a0 x) (hd : a1 ≠ a0 ∧ a2 ≠ a0 ∧ a3 ≠ a0) (hC : ∀ p q r, (C false p q r).setIfInBounds off v = C true p q r) : StI D wo b ty C a0 a1 a2 a3 (upd li a0 true) (upd xs a0 x) (W.setCell ⟨b, off, none⟩ v) :=
  ⟨h.detStep a0 x hf, h.below off v, by rw [upd_same, upd_other _ _ hd.1, upd_other _ _ hd.2.1, upd_other _ _ hd.2.2, set_blk h.blk, hl, hC]⟩
theorem StI.put1 (h : StI D wo b ty C a0 a1 a2 a3 li xs W) (hl : li a1 = false) (off : Nat) (v x : Value) (hf : D a1 x) (hd : a0 ≠ a1 ∧ a2 ≠ a1 ∧ a3 ≠ a1) (hC : ∀ p q r, (C p false q r).setIfInBounds off v = C p true q r) : StI D wo b ty C a0 a1 a2 a3 (upd li a1 true) (upd xs a1 x) (W.setCell ⟨b, off, none⟩ v) :=
  ⟨h.detStep a1 x hf, h.below off v, by rw [upd_same, upd_other _ _ hd.1, upd_other _ _ hd.2.1, upd_other _ _ hd.2.2, set_blk h.blk, hl, hC]⟩
theorem StI.put2 (h : StI D wo b ty C a0 a1 a2 a3 li xs W) (hl : li a2 = false) (off : Nat) (v x : Value) (hf : D a2 x) (hd : a0 ≠ a2 ∧ a1 ≠ a2 ∧ a3 ≠ a2) (hC : ∀ p q r, (C p q false r).setIfInBounds off v = C p q true r) : StI D wo b ty C a0 a1 a2 a3 (upd li a2 true) (upd xs a2 x) (W.setCell ⟨b, off, none⟩ v) :=
  ⟨h.detStep a2 x hf, h.below off v, by rw [upd_same, upd_other _ _ hd.1, upd_other _ _ hd.2.1, upd_other _ _ hd.2.2, set_blk h.blk, hl, hC]⟩
theorem StI.put3 (h : StI D wo b ty C a0 a1 a2 a3 li xs W) (hl : li a3 = false) (off : Nat) (v x : Value) (hf : D a3 x) (hd : a0 ≠ a3 ∧ a1 ≠ a3 ∧ a2 ≠ a3) (hC : ∀ p q r, (C p q r false).setIfInBounds off v = C p q r true) : StI D wo b ty C a0 a1 a2 a3 (upd li a3 true) (upd xs a3 x) (W.setCell ⟨b, off, none⟩ v) :=
  ⟨h.detStep a3 x hf, h.below off v, by rw [upd_same, upd_other _ _ hd.1, upd_other _ _ hd.2.1, upd_other _ _ hd.2.2, set_blk h.blk, hl, hC]⟩
/-- a cell of the block that is written, whatever was done -/
theorem StI.there (h : StI D wo b ty C a0 a1 a2 a3 li xs W) (off : Nat) (hC : ∀ p q r s, off < (C p q r s).size) : ∃ v, W.cell? ⟨b, off, none⟩ = some v := by
  rw [cell_blk h.blk]
  exact ⟨_, Array.getElem?_eq_getElem (hC _ _ _ _)⟩
theorem StI.fr (h : StI D wo b ty C a0 a1 a2 a3 li xs W) (off : Nat) : W.frozen? ⟨b, off, none⟩ = false := frozen_blk h.blk off
theorem StI.start (hD : Below b wo W) (hb : W.heap[b]? = some (.cells (C false false false false) ty (0, 0))) : StI D wo b ty C a0 a1 a2 a3 (fun _ => false) xs W := ⟨(fun _ h => by cases h), hD, hb⟩
end
end Go.Inv
