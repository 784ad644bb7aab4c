/- A region that draws its order and has a pivot: what stands ahead of it only reads and lays new blocks, and it waits for all of that, be it through others; it may do as it likes; what stands behind it waits for it. No condition. -/
import Derived.Test.YtjinhahfpkcilaaInv2
namespace Go.Inv
open Go Go.RowKit
section
variable {P : Program} {Q : Exit → Act → World → Prop}
/-- does operation i wait for j, be it through others? -/
def waitsFor (ops : Array Oper) : Nat → Nat → Nat → Bool
  | 0, _, _ => false
  | f + 1, i, j => match ops[i]? with
    | some o => o.after.any fun e => Region.binds .any e && (e.on == j || waitsFor ops f e.on j)
    | none => false
def Closed (ops : Array Oper) (li : Nat → Bool) : Prop := ∀ i o, ops[i]? = some o → li i = true → ∀ e ∈ o.after, Region.binds .any e = true → li e.on = true
theorem waitsFor_spec {ops : Array Oper} {li : Nat → Bool} (hc : Closed ops li) : ∀ f i j, waitsFor ops f i j = true → li i = true → li j = true
  | 0, _, _, h, _ => by cases h
  | f + 1, i, j, h, hi => by
    unfold waitsFor at h
    cases ho : ops[i]? with
    | none => rw [ho] at h; cases h
    | some o =>
      rw [ho] at h
      obtain ⟨n, hn, hb⟩ := Array.any_eq_true.1 h
      simp only [Bool.and_eq_true, Bool.or_eq_true, beq_iff_eq] at hb
      have hl := hc i o ho hi o.after[n] (Array.getElem_mem hn) hb.1
      rcases hb.2 with e | e
      · rw [← e]; exact hl
      · exact waitsFor_spec hc f _ j e hl
/-- One operation of such a region. -/
def VStep (P : Program) (ops : Array Oper) (Q : Exit → Act → World → Prop) (A : (Nat → Value) → Act) (spec : Nat → Value → World → Prop) (F : (Nat → Bool) → (Nat → Value) → World → Prop) (w : World) (p k : Nat) (o : Oper) : Prop :=
  if k < p then GStepG P ops Q A spec w k o
  else if k = p then o.guard = none ∧ ∀ (li : Nat → Bool) (xs : Nat → Value) (W : World), Below w.heap.size w W → (∀ i, i < p → spec i (xs i) W) → (∀ i, p < i → li i = false) → ∀ K : Act → World → Prop, (∀ v w', F (upd li p true) (upd xs p v) w' → K ((A xs).put o.dst v) w') → o.wp P (A xs) W K Q
  else IStep P ops Q A F k o
def VSteps (P : Program) (ops : Array Oper) (Q : Exit → Act → World → Prop) (A : (Nat → Value) → Act) (spec : Nat → Value → World → Prop) (F : (Nat → Bool) → (Nat → Value) → World → Prop) (w : World) (p : Nat) : Nat → List Oper → Prop
  | _, [] => True
  | k, o :: r => VStep P ops Q A spec F w p k o ∧ VSteps P ops Q A spec F w p (k + 1) r
theorem VSteps.at {ops : Array Oper} {A : (Nat → Value) → Act} {spec : Nat → Value → World → Prop} {F : (Nat → Bool) → (Nat → Value) → World → Prop} {w : World} {p : Nat} : ∀ {l : List Oper} {k : Nat}, VSteps P ops Q A spec F w p k l → ∀ {i : Nat} {o : Oper}, l[i]? = some o → VStep P ops Q A spec F w p (k + i) o
  | [], _, _, i, o, ho => by simp at ho
  | x :: l, k, h, 0, o, ho => by simp at ho; subst ho; exact h.1
  | x :: l, k, h, i + 1, o, ho => by
    have := VSteps.at h.2 (i := i) (o := o) (by simpa using ho)
    rwa [show k + 1 + i = k + (i + 1) by omega] at this
theorem wp_region_pivot {id : Nat} {l : List Oper} {w : World} (hm : P.follows .mixedOrders = true) (hb : back l.toArray = true) (p : Nat) (hpl : p < l.length)
    (hw0 : ((List.range p).all fun i => waitsFor l.toArray 16 p i) = true) (hw1 : ((List.range (l.length - (p + 1))).all fun i => waitsFor l.toArray 16 (p + 1 + i) p) = true)
    (A : (Nat → Value) → Act) (spec : Nat → Value → World → Prop) (F : (Nat → Bool) → (Nat → Value) → World → Prop) (xs : Nat → Value) (hput : Puts A 0 l)
    (hstab : ∀ i v w w', Below w.heap.size w w' → spec i v w → spec i v w')
    (hstep : VSteps P l.toArray Q A spec F w p 0 l)
    (hend : ∀ (li : Nat → Bool) (xs : Nat → Value) (W : World), F li xs W → (∀ i, i < l.length → li i = true) → Q .normal (A xs) W) :
    (Code.region id l.toArray true).wp P Q (A xs) w := by
  refine wp_region_inv hm hb A (fun li xs W => Closed l.toArray li ∧ (∀ i, l.length ≤ i → li i = false) ∧ (li p = false → Below w.heap.size w W ∧ ∀ i, li i = true → spec i (xs i) W) ∧ (li p = true → F li xs W)) xs
    ⟨(fun _ _ _ h => by cases h), (fun _ _ => rfl), fun _ => ⟨(Below.refl _ _).drew, fun i h => by cases h⟩, fun h => by cases h⟩ ?_ (fun li xs W hI hall => hend li xs W (hI.2.2.2 (hall p (by simpa using hpl))) (fun i hi => hall i (by simpa using hi)))
  rintro li xs W i o ⟨hc, hz, h0, h1⟩ ho hli hp
  have ho' : l[i]? = some o := by simpa using ho
  have hil : i < l.length := (List.getElem?_eq_some_iff.1 ho').1
  have hst := hstep.at ho'
  have hpt := hput.at ho'
  rw [Nat.zero_add] at hst hpt
  have hz' : ∀ j, l.length ≤ j → upd li i true j = false := fun j hj => by rw [upd_other _ _ (by omega)]; exact hz j hj
  have hc' : Closed l.toArray (upd li i true) := fun j q hq hj e he hbd => by
    by_cases hji : j = i
    · subst hji
      rw [ho] at hq; cases hq
      by_cases hei : e.on = j
      · rw [hei, upd_same]
      · rw [upd_other _ _ hei]; exact hp e he hbd
    · rw [upd_other _ _ hji] at hj
      by_cases hei : e.on = i
      · rw [hei, upd_same]
      · rw [upd_other _ _ hei]; exact hc j q hq hj e he hbd
  unfold wpOp
  rw [ho]
  show if Region.wanted o _ = true then _ else _
  unfold VStep at hst
  by_cases hip : i < p
  · rw [if_pos hip] at hst
    have hpf : li p = false := by
      cases e : li p with
      | false => rfl
      | true =>
        have := waitsFor_spec hc 16 p i (List.all_eq_true.1 hw0 i (by simpa using hip)) e
        rw [this] at hli; cases hli
    obtain ⟨hB, hs⟩ := h0 hpf
    have h := hst xs W hB (Preds.of fun e he hbd => hs _ (hp e (by simpa using he) hbd)) (fun a' w' => ∃ v, a' = A (upd xs i v) ∧ Closed l.toArray (upd li i true) ∧ (∀ j, l.length ≤ j → upd li i true j = false) ∧ (upd li i true p = false → Below w.heap.size w w' ∧ ∀ j, upd li i true j = true → spec j (upd xs i v j) w') ∧ (upd li i true p = true → F (upd li i true) (upd xs i v) w')) (fun v w' hB' hv => by
      refine ⟨v, hpt xs v, hc', hz', fun _ => ⟨hB.trans (hB'.mono hB.size), fun j hj => ?_⟩, fun e => ?_⟩
      · by_cases hji : j = i
        · subst hji; rw [upd_same]; exact hv
        · rw [upd_other _ _ hji] at hj ⊢
          exact hstab _ _ _ _ hB' (hs j hj)
      · rw [upd_other _ _ (by omega), hpf] at e; cases e)
    split
    · rename_i hw; rw [if_pos hw] at h; exact .inl h
    · rename_i hw; rw [if_neg hw] at h; exact h
  · rw [if_neg hip] at hst
    by_cases hie : i = p
    · subst hie
      rw [if_pos rfl] at hst
      obtain ⟨hg, hst⟩ := hst
      obtain ⟨hB, hs⟩ := h0 hli
      have hall : ∀ j, j < i → li j = true := fun j hj => by
        have hcl := waitsFor_spec hc' 16 i j (List.all_eq_true.1 hw0 j (by simpa using hj)) (upd_same _ _ _)
        rwa [upd_other _ _ (by omega)] at hcl
      have hno : ∀ j, i < j → li j = false := fun j hj => by
        by_cases hjl : j < l.length
        · cases e : li j with
          | false => rfl
          | true =>
            have := waitsFor_spec hc 16 j i (by have := List.all_eq_true.1 hw1 (j - (i + 1)) (by simp; omega); rwa [show i + 1 + (j - (i + 1)) = j by omega] at this) e
            rw [this] at hli; cases hli
        · exact hz j (by omega)
      rw [if_pos (wanted_none hg _)]
      refine .inl (hst li xs W hB (fun j hj => hs j (hall j hj)) hno _ fun v w' hF => ?_)
      exact ⟨v, hpt xs v, hc', hz', (fun e => by rw [upd_same] at e; cases e), fun _ => hF⟩
    · rw [if_neg hie] at hst
      have hpt' : li p = true := by
        have h2 := waitsFor_spec hc' 16 i p (by have := List.all_eq_true.1 hw1 (i - (p + 1)) (by simp; omega); rwa [show p + 1 + (i - (p + 1)) = i by omega] at this) (upd_same _ _ _)
        rwa [upd_other _ _ (by omega)] at h2
      have h := hst li xs W (h1 hpt') hli (PredsB.of fun e he hbd => hp e (by simpa using he) hbd) (fun a' w' => ∃ v, a' = A (upd xs i v) ∧ Closed l.toArray (upd li i true) ∧ (∀ j, l.length ≤ j → upd li i true j = false) ∧ (upd li i true p = false → Below w.heap.size w w' ∧ ∀ j, upd li i true j = true → spec j (upd xs i v j) w') ∧ (upd li i true p = true → F (upd li i true) (upd xs i v) w')) (fun v w' hF => ⟨v, hpt xs v, hc', hz', (fun e => by rw [upd_other _ _ (by omega), hpt'] at e; cases e), fun _ => hF⟩)
      split
      · rename_i hw; rw [if_pos hw] at h; exact .inl h
      · rename_i hw; rw [if_neg hw] at h; exact h
end
end Go.Inv
