/- A region that draws its order, with guards, whose operations only read and lay new blocks: one step an operation. No condition. -/
import Derived.Test.YtjinhahfpkcilaaInv
namespace Go.Inv
open Go Go.RowKit
section
variable {P : Program} {Q : Exit → Act → World → Prop}
/-- One operation of such a region; one that its guard rules out leaves undef. -/
def GStepG (P : Program) (ops : Array Oper) (Q : Exit → Act → World → Prop) (A : (Nat → Value) → Act) (spec : Nat → Value → World → Prop) (w : World) (k : Nat) (o : Oper) : Prop :=
  ∀ (xs : Nat → Value) (W : World), Below w.heap.size w W → Preds spec xs W o.after.toList → ∀ K : Act → World → Prop, (∀ v w', Below W.heap.size W w' → spec k v w' → K ((A xs).put o.dst v) w') →
    if Region.wanted o (yielded ops (A xs).tmps) = true then o.wp P (A xs) W K Q else K ((A xs).put o.dst undef) W
def GStepsG (P : Program) (ops : Array Oper) (Q : Exit → Act → World → Prop) (A : (Nat → Value) → Act) (spec : Nat → Value → World → Prop) (w : World) : Nat → List Oper → Prop
  | _, [] => True
  | k, o :: r => GStepG P ops Q A spec w k o ∧ GStepsG P ops Q A spec w (k + 1) r
theorem GStepsG.at {ops : Array Oper} {A : (Nat → Value) → Act} {spec : Nat → Value → World → Prop} {w : World} : ∀ {l : List Oper} {k : Nat}, GStepsG P ops Q A spec w k l → ∀ {i : Nat} {o : Oper}, l[i]? = some o → GStepG P ops Q A spec w (k + i) o
  | [], _, _, i, o, ho => by simp at ho
  | x :: l, k, h, 0, o, ho => by simp at ho; subst ho; exact h.1
  | x :: l, k, h, i + 1, o, ho => by
    have := GStepsG.at h.2 (i := i) (o := o) (by simpa using ho)
    rwa [show k + 1 + i = k + (i + 1) by omega] at this
theorem wp_region_growG {id : Nat} {l : List Oper} {w : World} (hm : P.follows .mixedOrders = true) (hb : back l.toArray = true)
    (A : (Nat → Value) → Act) (spec : Nat → Value → World → Prop) (xs : Nat → Value) (hput : Puts A 0 l)
    (hstab : ∀ i v w w', Below w.heap.size w w' → spec i v w → spec i v w')
    (hstep : GStepsG P l.toArray Q A spec w 0 l)
    (hend : ∀ (xs : Nat → Value) (W : World), Below w.heap.size w W → (∀ i, i < l.length → spec i (xs i) W) → Q .normal (A xs) W) :
    (Code.region id l.toArray true).wp P Q (A xs) w := by
  refine wp_region_inv hm hb A (fun li xs W => Below w.heap.size w W ∧ ∀ i, li i = true → spec i (xs i) W) xs ⟨(Below.refl _ _).drew, fun i h => by cases h⟩ ?_ ?_
  · rintro li xs W i o ⟨hB, hs⟩ ho hli hp
    have ho' : l[i]? = some o := by simpa using ho
    have hst := hstep.at ho'
    have hpt := hput.at ho'
    rw [Nat.zero_add] at hst hpt
    have h := hst xs W hB (Preds.of fun e he hbd => hs _ (hp e (by simpa using he) hbd)) (fun a' w' => ∃ v, a' = A (upd xs i v) ∧ Below w.heap.size w w' ∧ ∀ j, upd li i true j = true → spec j (upd xs i v j) w') (fun v w' hB' hv => by
      refine ⟨v, hpt xs v, hB.trans (hB'.mono hB.size), fun j hj => ?_⟩
      by_cases hji : j = i
      · subst hji; rw [upd_same]; exact hv
      · rw [upd_other _ _ hji] at hj ⊢
        exact hstab _ _ _ _ hB' (hs j hj))
    unfold wpOp
    rw [ho]
    show if Region.wanted o _ = true then _ else _
    split
    · rename_i hw; rw [if_pos hw] at h; exact .inl h
    · rename_i hw; rw [if_neg hw] at h; exact h
  · rintro li xs W ⟨hB, hs⟩ hall
    exact hend xs W hB (fun i hi => hs i (hall i (by simpa using hi)))
end
end Go.Inv
