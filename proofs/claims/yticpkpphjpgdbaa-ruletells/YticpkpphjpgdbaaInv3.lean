/- A region that draws its order, whose last operation waits for all others and may do as it likes; the others only read and lay new blocks. No condition. -/
import Derived.Test.YticpkpphjpgdbaaInv2
namespace Go.Inv
open Go Go.RowKit
section
variable {P : Program} {Q : Exit → Act → World → Prop}
/-- does the operation wait for all that stand ahead of it? -/
def waitsAll (o : Oper) (k : Nat) : Bool := (List.range k).all fun i => o.after.any fun e => Region.binds .any e && e.on == i
theorem waitsAll_spec {o : Oper} {k : Nat} (h : waitsAll o k = true) {i : Nat} (hi : i < k) : ∃ e ∈ o.after, Region.binds .any e = true ∧ e.on = i := by
  have := List.all_eq_true.1 h i (by simpa using hi)
  obtain ⟨n, hn, hb⟩ := Array.any_eq_true.1 this
  simp at hb
  exact ⟨o.after[n], Array.getElem_mem hn, hb.1, hb.2⟩
/-- The last operation. -/
def LStep (P : Program) (Q : Exit → Act → World → Prop) (A : (Nat → Value) → Act) (spec : Nat → Value → World → Prop) (F : (Nat → Value) → World → Prop) (w : World) (k : Nat) (o : Oper) : Prop :=
  o.guard = none ∧ waitsAll o k = true ∧ ∀ (xs : Nat → Value) (W : World), Below w.heap.size w W → (∀ i, i < k → spec i (xs i) W) → ∀ K : Act → World → Prop, (∀ v w', F (upd xs k v) w' → K ((A xs).put o.dst v) w') → o.wp P (A xs) W K Q
def GStepsL (P : Program) (ops : Array Oper) (Q : Exit → Act → World → Prop) (A : (Nat → Value) → Act) (spec : Nat → Value → World → Prop) (F : (Nat → Value) → World → Prop) (w : World) : Nat → List Oper → Prop
  | _, [] => True
  | k, o :: r => (if r = [] then LStep P Q A spec F w k o else GStepG P ops Q A spec w k o) ∧ GStepsL P ops Q A spec F w (k + 1) r
theorem GStepsL.at {ops : Array Oper} {A : (Nat → Value) → Act} {spec : Nat → Value → World → Prop} {F : (Nat → Value) → World → Prop} {w : World} : ∀ {l : List Oper} {k : Nat}, GStepsL P ops Q A spec F w k l → ∀ {i : Nat} {o : Oper}, l[i]? = some o → if i + 1 = l.length then LStep P Q A spec F w (k + i) o else GStepG P ops Q A spec w (k + i) o
  | [], _, _, i, o, ho => by simp at ho
  | x :: l, k, h, 0, o, ho => by
    simp at ho; subst ho
    have := h.1
    cases l with
    | nil => simpa using this
    | cons y l => simpa using this
  | x :: l, k, h, i + 1, o, ho => by
    have := GStepsL.at h.2 (i := i) (o := o) (by simpa using ho)
    rw [show k + 1 + i = k + (i + 1) by omega] at this
    simpa using this
theorem wp_region_last {id : Nat} {l : List Oper} {w : World} (hm : P.follows .mixedOrders = true) (hb : back l.toArray = true)
    (A : (Nat → Value) → Act) (spec : Nat → Value → World → Prop) (F : (Nat → Value) → World → Prop) (xs : Nat → Value) (hput : Puts A 0 l)
    (hstab : ∀ i v w w', Below w.heap.size w w' → spec i v w → spec i v w') (hl : 0 < l.length)
    (hstep : GStepsL P l.toArray Q A spec F w 0 l)
    (hend : ∀ (xs : Nat → Value) (W : World), F xs W → Q .normal (A xs) W) :
    (Code.region id l.toArray true).wp P Q (A xs) w := by
  obtain ⟨m, hm'⟩ : ∃ m, l.length = m + 1 := ⟨l.length - 1, by omega⟩
  refine wp_region_inv hm hb A (fun li xs W => (li m = false → Below w.heap.size w W ∧ ∀ i, li i = true → spec i (xs i) W) ∧ (li m = true → (∀ i, i < m → li i = true) ∧ F xs W)) xs ⟨fun _ => ⟨(Below.refl _ _).drew, fun i h => by cases h⟩, fun h => by cases h⟩ ?_ ?_
  · rintro li xs W i o ⟨h0, h1⟩ ho hli hp
    have ho' : l[i]? = some o := by simpa using ho
    have hil : i < l.length := (List.getElem?_eq_some_iff.1 ho').1
    have hst := hstep.at ho'
    have hpt := hput.at ho'
    rw [Nat.zero_add] at hst hpt
    have hmf : li m = false := by
      cases e : li m with
      | false => rfl
      | true =>
        by_cases him : i < m
        · rw [(h1 e).1 i him] at hli; cases hli
        · have : i = m := by omega
          rw [this, e] at hli; cases hli
    obtain ⟨hB, hs⟩ := h0 hmf
    unfold wpOp
    rw [ho]
    show if Region.wanted o _ = true then _ else _
    by_cases him : i + 1 = l.length
    · rw [if_pos him] at hst
      obtain ⟨hg, hw, hst⟩ := hst
      have him' : i = m := by omega
      have hall : ∀ j, j < i → li j = true := fun j hj => by
        obtain ⟨e, he, hbd, rfl⟩ := waitsAll_spec hw hj
        exact hp e he hbd
      rw [if_pos (wanted_none hg _)]
      refine .inl (hst xs W hB (fun j hj => hs j (hall j hj)) _ fun v w' hF => ?_)
      refine ⟨v, hpt xs v, fun e => ?_, fun _ => ⟨fun j hj => ?_, hF⟩⟩
      · rw [← him', upd_same] at e; cases e
      · rw [upd_other _ _ (by omega)]; exact hall j (by omega)
    · rw [if_neg him] at hst
      have him' : m ≠ i := by omega
      have h := hst xs W hB (Preds.of fun e he hbd => hs _ (hp e (by simpa using he) hbd)) (fun a' w' => ∃ v, a' = A (upd xs i v) ∧ (upd li i true m = false → Below w.heap.size w w' ∧ ∀ j, upd li i true j = true → spec j (upd xs i v j) w') ∧ (upd li i true m = true → (∀ j, j < m → upd li i true j = true) ∧ F (upd xs i v) w')) (fun v w' hB' hv => by
        refine ⟨v, hpt xs v, fun _ => ⟨hB.trans (hB'.mono hB.size), fun j hj => ?_⟩, fun e => ?_⟩
        · by_cases hji : j = i
          · subst hji; rw [upd_same]; exact hv
          · rw [upd_other _ _ hji] at hj ⊢
            exact hstab _ _ _ _ hB' (hs j hj)
        · rw [upd_other _ _ him', hmf] at e; cases e)
      split
      · rename_i hw; rw [if_pos hw] at h; exact .inl h
      · rename_i hw; rw [if_neg hw] at h; exact h
  · rintro li xs W ⟨_, h1⟩ hall
    exact hend xs W (h1 (hall m (by simp; omega))).2
end
end Go.Inv
