/- Regions that draw their order, walked once an operation: an invariant over which operations have come up, what each left in its temporary, and the world. Holds for every order that the draw allows. No condition. -/
import Derived.Orders
import Derived.OrdersIn
import Derived.Below
namespace Go.Inv
open Go

def upd {α : Type} (f : Nat → α) (i : Nat) (v : α) : Nat → α := fun j => if j = i then v else f j
theorem upd_same {α : Type} (f : Nat → α) (i : Nat) (v : α) : upd f i v i = v := by simp [upd]
theorem upd_other {α : Type} (f : Nat → α) {i j : Nat} (v : α) (h : j ≠ i) : upd f i v j = f j := by simp [upd, h]

/-- how many of the first n are not yet listed -/
def left (n : Nat) (listed : Array Bool) : Nat := ((List.range n).filter fun i => !listed.getD i true).length

theorem filter_lt {l : List Nat} {p q : Nat → Bool} (hpq : ∀ x, q x = true → p x = true) {i : Nat} (hi : i ∈ l) (hp : p i = true) (hq : q i = false) : (l.filter q).length < (l.filter p).length := by
  induction l with
  | nil => cases hi
  | cons a l ih =>
    have hle : (l.filter q).length ≤ (l.filter p).length := by
      clear ih hi
      induction l with
      | nil => simp
      | cons b l ih2 =>
        simp only [List.filter_cons]
        by_cases h1 : q b = true
        · simp [h1, hpq b h1]; exact ih2
        · simp only [h1]
          by_cases h2 : p b = true
          · simp [h2]; omega
          · simp [h2]; exact ih2
    simp only [List.filter_cons]
    rcases List.mem_cons.1 hi with rfl | hi'
    · simp [hp, hq]; omega
    · have := ih hi'
      by_cases h1 : q a = true
      · simp [h1, hpq a h1]; exact this
      · simp only [h1]
        by_cases h2 : p a = true
        · simp [h2]; omega
        · simp [h2]; exact this

theorem left_set {n : Nat} {listed : Array Bool} {i : Nat} (hi : i < n) (hs : i < listed.size) (h : listed.getD i true = false) : left n (listed.setIfInBounds i true) < left n listed := by
  refine filter_lt (i := i) (fun x hx => ?_) (by simpa using hi) (by simp [h]) (by simp [hs])
  by_cases hxi : x = i
  · subst hxi; simp [hs] at hx
  · simp only [Bool.not_eq_true'] at hx ⊢
    have : (listed.setIfInBounds i true).getD x true = listed.getD x true := by simp [Array.getD_eq_getD_getElem?, Array.getElem?_setIfInBounds_ne (Ne.symm hxi)]
    rw [this] at hx; exact hx

/-- every edge leads backward -/
def back (ops : Array Oper) : Bool := (List.range ops.size).all fun i => ((ops[i]?).map fun o => o.after.all fun e => !Region.binds .any e || decide (e.on < i)).getD true

theorem back_spec {ops : Array Oper} (h : back ops = true) {i : Nat} {o : Oper} (ho : ops[i]? = some o) : ∀ e ∈ o.after, Region.binds .any e = true → e.on < i := by
  intro e he hbd
  have hi : i < ops.size := (Array.getElem?_eq_some_iff.1 ho).1
  have := List.all_eq_true.1 h i (by simpa using hi)
  simp only [ho, Option.map_some, Option.getD_some] at this
  have := Array.all_eq_true_iff_forall_mem.1 this e he
  simpa [hbd] using this

theorem all_listed {ops : Array Oper} (hb : back ops = true) {listed : Array Bool} (hs : listed.size = ops.size) (h : Region.ready .any ops listed = []) : ∀ i, i < ops.size → listed.getD i false = true := by
  intro i
  induction i using Nat.strongRecOn with
  | ind i ih =>
    intro hi
    have hn : i ∉ Region.ready .any ops listed := by rw [h]; simp
    have ho : ops[i]? = some ops[i] := Array.getElem?_eq_getElem hi
    cases hc : listed.getD i false with
    | true => rfl
    | false =>
      exfalso
      apply hn
      have hil : i < listed.size := by omega
      unfold Region.ready
      rw [List.mem_filter]
      refine ⟨by simpa using hi, ?_⟩
      have h1 : listed.getD i true = false := by simpa [hil] using hc
      simp only [h1, Bool.not_false, Bool.true_and, ho, Option.map_some, Option.getD_some]
      rw [Array.all_eq_true_iff_forall_mem]
      intro e he
      cases hbd : Region.binds .any e with
      | false => simp
      | true =>
        have hlt := back_spec hb ho e he hbd
        rw [ih e.on hlt (by omega)]
        simp

theorem ready_spec {md : Region.Mode} {ops : Array Oper} {listed : Array Bool} {i : Nat} (h : i ∈ Region.ready md ops listed) : ∃ o, ops[i]? = some o ∧ listed.getD i true = false ∧ ∀ e ∈ o.after, Region.binds md e = true → listed.getD e.on false = true := by
  unfold Region.ready at h
  rw [List.mem_filter] at h
  obtain ⟨h0, h1⟩ := h
  have hi : i < ops.size := by simpa using h0
  refine ⟨ops[i], Array.getElem?_eq_getElem hi, ?_⟩
  rw [Array.getElem?_eq_getElem hi, Bool.and_eq_true] at h1
  obtain ⟨h2, h3⟩ := h1
  refine ⟨by simpa using h2, fun e he hb => ?_⟩
  simp only [Option.map_some, Option.getD_some] at h3
  have := Array.all_eq_true_iff_forall_mem.1 h3 e he
  simpa [hb] using this

section
variable {F : Fence} {n : Nat} {P : Program} {ops : Array Oper} {Q : Exit → Act → World → Prop}

theorem wpAnyIn_inv (hb : back ops = true) (A : (Nat → Value) → Act) (I : (Nat → Bool) → (Nat → Value) → World → Prop)
    (hstep : ∀ (li : Nat → Bool) (xs : Nat → Value) (w : World) (i : Nat) (o : Oper), I li xs w → ops[i]? = some o → li i = false → (∀ e ∈ o.after, Region.binds .any e = true → li e.on = true) →
      wpOpIn F n P ops Q i (fun a' w' => ∃ v, a' = A (upd xs i v) ∧ I (upd li i true) (upd xs i v) w') (A xs) w)
    (hend : ∀ (li : Nat → Bool) (xs : Nat → Value) (w : World), I li xs w → (∀ i, i < ops.size → li i = true) → Q .normal (A xs) w) :
    ∀ (fuel : Nat) (listed : Array Bool) (xs : Nat → Value) (w : World), listed.size = ops.size → left ops.size listed ≤ fuel → I (fun i => listed.getD i false) xs w →
      wpAnyIn F n P .any ops Q fuel listed (A xs) w := by
  intro fuel
  induction fuel with
  | zero =>
    intro listed xs w hs hl hI
    have hr : Region.ready .any ops listed = [] := by
      cases hrr : Region.ready .any ops listed with
      | nil => rfl
      | cons i rs =>
        exfalso
        have hi : i ∈ Region.ready .any ops listed := by rw [hrr]; simp
        obtain ⟨o, ho, h1, h2⟩ := ready_spec hi
        have hlt : i < ops.size := (Array.getElem?_eq_some_iff.1 ho).1
        have := left_set (n := ops.size) hlt (by omega) h1
        omega
    exact ⟨hr, hend _ _ _ hI (all_listed hb hs hr)⟩
  | succ fuel ih =>
    intro listed xs w hs hl hI
    refine ⟨fun hr => hend _ _ _ hI (all_listed hb hs hr), fun i hi => ?_⟩
    obtain ⟨o, ho, h1, h2⟩ := ready_spec hi
    have hlt : i < ops.size := (Array.getElem?_eq_some_iff.1 ho).1
    have hil : i < listed.size := by omega
    have h1' : listed.getD i false = false := by simpa [hil] using h1
    refine wpOpIn_mono ?_ (hstep _ xs w i o hI ho h1' h2)
    rintro a' w' ⟨v, rfl, hI'⟩
    refine ih _ _ _ (by simpa using hs) (by have := left_set (n := ops.size) hlt hil h1; omega) ?_
    have e : (fun j => (listed.setIfInBounds i true).getD j false) = upd (fun j => listed.getD j false) i true := by
      funext j
      by_cases hj : j = i
      · subst hj; simp [upd, hil]
      · simp [upd, hj, Array.getElem?_setIfInBounds_ne (Ne.symm hj)]
    rw [e]; exact hI'

theorem wpAny_inv (hb : back ops = true) (A : (Nat → Value) → Act) (I : (Nat → Bool) → (Nat → Value) → World → Prop)
    (hstep : ∀ (li : Nat → Bool) (xs : Nat → Value) (w : World) (i : Nat) (o : Oper), I li xs w → ops[i]? = some o → li i = false → (∀ e ∈ o.after, Region.binds .any e = true → li e.on = true) →
      wpOp P ops Q i (fun a' w' => ∃ v, a' = A (upd xs i v) ∧ I (upd li i true) (upd xs i v) w') (A xs) w)
    (hend : ∀ (li : Nat → Bool) (xs : Nat → Value) (w : World), I li xs w → (∀ i, i < ops.size → li i = true) → Q .normal (A xs) w) :
    ∀ (fuel : Nat) (listed : Array Bool) (xs : Nat → Value) (w : World), listed.size = ops.size → left ops.size listed ≤ fuel → I (fun i => listed.getD i false) xs w →
      wpAny P .any ops Q fuel listed (A xs) w := by
  intro fuel
  induction fuel with
  | zero =>
    intro listed xs w hs hl hI
    have hr : Region.ready .any ops listed = [] := by
      cases hrr : Region.ready .any ops listed with
      | nil => rfl
      | cons i rs =>
        exfalso
        have hi : i ∈ Region.ready .any ops listed := by rw [hrr]; simp
        obtain ⟨o, ho, h1, h2⟩ := ready_spec hi
        have hlt : i < ops.size := (Array.getElem?_eq_some_iff.1 ho).1
        have := left_set (n := ops.size) hlt (by omega) h1
        omega
    exact ⟨hr, hend _ _ _ hI (all_listed hb hs hr)⟩
  | succ fuel ih =>
    intro listed xs w hs hl hI
    refine ⟨fun hr => hend _ _ _ hI (all_listed hb hs hr), fun i hi => ?_⟩
    obtain ⟨o, ho, h1, h2⟩ := ready_spec hi
    have hlt : i < ops.size := (Array.getElem?_eq_some_iff.1 ho).1
    have hil : i < listed.size := by omega
    have h1' : listed.getD i false = false := by simpa [hil] using h1
    refine wpOp_mono ?_ (hstep _ xs w i o hI ho h1' h2)
    rintro a' w' ⟨v, rfl, hI'⟩
    refine ih _ _ _ (by simpa using hs) (by have := left_set (n := ops.size) hlt hil h1; omega) ?_
    have e : (fun j => (listed.setIfInBounds i true).getD j false) = upd (fun j => listed.getD j false) i true := by
      funext j
      by_cases hj : j = i
      · subst hj; simp [upd, hil]
      · simp [upd, hj, Array.getElem?_setIfInBounds_ne (Ne.symm hj)]
    rw [e]; exact hI'

theorem left_le (n : Nat) (listed : Array Bool) : left n listed ≤ n := by
  unfold left
  exact Nat.le_trans (List.length_filter_le _ _) (by simp)

/-- The region, inside a fence. -/
theorem wpIn_region_inv {id : Nat} {l : List Oper} {w : World} (hm : P.follows .mixedOrders = true) (hb : back l.toArray = true) (A : (Nat → Value) → Act) (I : (Nat → Bool) → (Nat → Value) → World → Prop) (xs : Nat → Value)
    (h0 : I (fun _ => false) xs w.drew)
    (hstep : ∀ (li : Nat → Bool) (xs : Nat → Value) (w : World) (i : Nat) (o : Oper), I li xs w → l.toArray[i]? = some o → li i = false → (∀ e ∈ o.after, Region.binds .any e = true → li e.on = true) →
      wpOpIn F n P l.toArray Q i (fun a' w' => ∃ v, a' = A (upd xs i v) ∧ I (upd li i true) (upd xs i v) w') (A xs) w)
    (hend : ∀ (li : Nat → Bool) (xs : Nat → Value) (w : World), I li xs w → (∀ i, i < l.toArray.size → li i = true) → Q .normal (A xs) w) :
    (Code.region id l.toArray true).wpIn F n P Q (A xs) w := by
  refine wpIn_region_any hm (wpAnyIn_inv hb A I hstep hend _ _ _ _ (by simp) (left_le _ _) ?_)
  have e : (fun i => (Array.replicate l.toArray.size false).getD i false) = fun _ => false := by
    funext i; simp only [Array.getD_eq_getD_getElem?, Array.getElem?_replicate]; split <;> rfl
  rw [e]; exact h0

/-- The region, plain. -/
theorem wp_region_inv {id : Nat} {l : List Oper} {w : World} (hm : P.follows .mixedOrders = true) (hb : back l.toArray = true) (A : (Nat → Value) → Act) (I : (Nat → Bool) → (Nat → Value) → World → Prop) (xs : Nat → Value)
    (h0 : I (fun _ => false) xs w.drew)
    (hstep : ∀ (li : Nat → Bool) (xs : Nat → Value) (w : World) (i : Nat) (o : Oper), I li xs w → l.toArray[i]? = some o → li i = false → (∀ e ∈ o.after, Region.binds .any e = true → li e.on = true) →
      wpOp P l.toArray Q i (fun a' w' => ∃ v, a' = A (upd xs i v) ∧ I (upd li i true) (upd xs i v) w') (A xs) w)
    (hend : ∀ (li : Nat → Bool) (xs : Nat → Value) (w : World), I li xs w → (∀ i, i < l.toArray.size → li i = true) → Q .normal (A xs) w) :
    (Code.region id l.toArray true).wp P Q (A xs) w := by
  refine wp_region_any hm (wpAny_inv hb A I hstep hend _ _ _ _ (by simp) (left_le _ _) ?_)
  have e : (fun i => (Array.replicate l.toArray.size false).getD i false) = fun _ => false := by
    funext i; simp only [Array.getD_eq_getD_getElem?, Array.getElem?_replicate]; split <;> rfl
  rw [e]; exact h0

/-! ### The same, a step a row -/

/-- what is known of the operations that this one waits for -/
def Preds (spec : Nat → Value → World → Prop) (xs : Nat → Value) (W : World) : List Edge → Prop
  | [] => True
  | e :: r => (Region.binds .any e = true → spec e.on (xs e.on) W) ∧ Preds spec xs W r
theorem Preds.of {spec : Nat → Value → World → Prop} {xs : Nat → Value} {W : World} : ∀ {l : List Edge}, (∀ e ∈ l, Region.binds .any e = true → spec e.on (xs e.on) W) → Preds spec xs W l
  | [], _ => trivial
  | e :: _, h => ⟨h e (by simp), Preds.of fun e he => h e (by simp [he])⟩
def PredsB (li : Nat → Bool) : List Edge → Prop
  | [] => True
  | e :: r => (Region.binds .any e = true → li e.on = true) ∧ PredsB li r
theorem PredsB.of {li : Nat → Bool} : ∀ {l : List Edge}, (∀ e ∈ l, Region.binds .any e = true → li e.on = true) → PredsB li l
  | [], _ => trivial
  | e :: _, h => ⟨h e (by simp), PredsB.of fun e he => h e (by simp [he])⟩

def Puts (A : (Nat → Value) → Act) : Nat → List Oper → Prop
  | _, [] => True
  | k, o :: r => (∀ xs v, (A xs).put o.dst v = A (upd xs k v)) ∧ Puts A (k + 1) r
theorem Puts.at {A : (Nat → Value) → Act} : ∀ {l : List Oper} {k : Nat}, Puts A k l → ∀ {i : Nat} {o : Oper}, l[i]? = some o → ∀ xs v, (A xs).put o.dst v = A (upd xs (k + i) v)
  | [], _, _, i, o, ho => by simp at ho
  | x :: l, k, h, 0, o, ho => by simp at ho; subst ho; exact h.1
  | x :: l, k, h, i + 1, o, ho => by
    have := Puts.at h.2 (i := i) (o := o) (by simpa using ho)
    rwa [show k + 1 + i = k + (i + 1) by omega] at this

open Go.RowKit

/-- One operation of a region that only reads and lays blocks. -/
def GStep (P : Program) (Q : Exit → Act → World → Prop) (A : (Nat → Value) → Act) (spec : Nat → Value → World → Prop) (w : World) (k : Nat) (o : Oper) : Prop :=
  ∀ (xs : Nat → Value) (W : World), Below w.heap.size w W → Preds spec xs W o.after.toList → ∀ K : Act → World → Prop, (∀ v w', Below W.heap.size W w' → spec k v w' → K ((A xs).put o.dst v) w') → o.wp P (A xs) W K Q
def GSteps (P : Program) (Q : Exit → Act → World → Prop) (A : (Nat → Value) → Act) (spec : Nat → Value → World → Prop) (w : World) : Nat → List Oper → Prop
  | _, [] => True
  | k, o :: r => GStep P Q A spec w k o ∧ GSteps P Q A spec w (k + 1) r
theorem GSteps.at {A : (Nat → Value) → Act} {spec : Nat → Value → World → Prop} {w : World} : ∀ {l : List Oper} {k : Nat}, GSteps P Q A spec w k l → ∀ {i : Nat} {o : Oper}, l[i]? = some o → GStep P Q A spec w (k + i) o
  | [], _, _, i, o, ho => by simp at ho
  | x :: l, k, h, 0, o, ho => by simp at ho; subst ho; exact h.1
  | x :: l, k, h, i + 1, o, ho => by
    have := GSteps.at h.2 (i := i) (o := o) (by simpa using ho)
    rwa [show k + 1 + i = k + (i + 1) by omega] at this

theorem wanted_none {o : Oper} (h : o.guard = none) (y : Nat → Option Bool) : Region.wanted o y = true := by simp [Region.wanted, h]
theorem guards_at {l : List Oper} (h : l.all (fun o => o.guard.isNone) = true) {i : Nat} {o : Oper} (ho : l[i]? = some o) : o.guard = none := by
  have := List.all_eq_true.1 h o (List.mem_of_getElem? ho)
  simpa using this

/-- **A region without guards whose operations only read and lay new blocks: one step an operation.** -/
theorem wp_region_grow {id : Nat} {l : List Oper} {w : World} (hm : P.follows .mixedOrders = true) (hb : back l.toArray = true) (hg : l.all (fun o => o.guard.isNone) = true)
    (A : (Nat → Value) → Act) (spec : Nat → Value → World → Prop) (xs : Nat → Value) (hput : Puts A 0 l)
    (hstab : ∀ i v w w', Below w.heap.size w w' → spec i v w → spec i v w')
    (hstep : GSteps P Q A spec w 0 l)
    (hend : ∀ (xs : Nat → Value) (W : World), Below w.heap.size w W → (∀ i, i < l.length → spec i (xs i) W) → Q .normal (A xs) W) :
    (Code.region id l.toArray true).wp P Q (A xs) w := by
  refine wp_region_inv hm hb A (fun li xs W => Below w.heap.size w W ∧ ∀ i, li i = true → spec i (xs i) W) xs ⟨(Below.refl _ _).drew, fun i h => by cases h⟩ ?_ ?_
  · rintro li xs W i o ⟨hB, hs⟩ ho hli hp
    have ho' : l[i]? = some o := by simpa using ho
    have hst := hstep.at ho'
    have hpt := hput.at ho'
    rw [Nat.zero_add] at hst hpt
    unfold wpOp
    rw [ho]
    show if _ then _ else _
    rw [if_pos (wanted_none (guards_at hg ho') _)]
    refine .inl (hst xs W hB (Preds.of fun e he hbd => hs _ (hp e (by simpa using he) hbd)) _ fun v w' hB' hv => ?_)
    refine ⟨v, hpt xs v, hB.trans (hB'.mono hB.size), fun j hj => ?_⟩
    by_cases hji : j = i
    · subst hji; rw [upd_same]; exact hv
    · rw [upd_other _ _ hji] at hj ⊢
      exact hstab _ _ _ _ hB' (hs j hj)
  · rintro li xs W ⟨hB, hs⟩ hall
    exact hend xs W hB (fun i hi => hs i (hall i (by simpa using hi)))

/-- One operation, under an invariant. -/
def IStep (P : Program) (ops : Array Oper) (Q : Exit → Act → World → Prop) (A : (Nat → Value) → Act) (I : (Nat → Bool) → (Nat → Value) → World → Prop) (k : Nat) (o : Oper) : Prop :=
  ∀ (li : Nat → Bool) (xs : Nat → Value) (W : World), I li xs W → li k = false → PredsB li o.after.toList → ∀ K : Act → World → Prop, (∀ v w', I (upd li k true) (upd xs k v) w' → K ((A xs).put o.dst v) w') →
    if Region.wanted o (yielded ops (A xs).tmps) = true then o.wp P (A xs) W K Q else K ((A xs).put o.dst undef) W
def ISteps (P : Program) (ops : Array Oper) (Q : Exit → Act → World → Prop) (A : (Nat → Value) → Act) (I : (Nat → Bool) → (Nat → Value) → World → Prop) : Nat → List Oper → Prop
  | _, [] => True
  | k, o :: r => IStep P ops Q A I k o ∧ ISteps P ops Q A I (k + 1) r
theorem ISteps.at {A : (Nat → Value) → Act} {I : (Nat → Bool) → (Nat → Value) → World → Prop} : ∀ {l : List Oper} {k : Nat}, ISteps P ops Q A I k l → ∀ {i : Nat} {o : Oper}, l[i]? = some o → IStep P ops Q A I (k + i) o
  | [], _, _, i, o, ho => by simp at ho
  | x :: l, k, h, 0, o, ho => by simp at ho; subst ho; exact h.1
  | x :: l, k, h, i + 1, o, ho => by
    have := ISteps.at h.2 (i := i) (o := o) (by simpa using ho)
    rwa [show k + 1 + i = k + (i + 1) by omega] at this

/-- **Any region that draws, by an invariant: one step an operation.** -/
theorem wp_region_steps {id : Nat} {l : List Oper} {w : World} (hm : P.follows .mixedOrders = true) (hb : back l.toArray = true) (A : (Nat → Value) → Act) (I : (Nat → Bool) → (Nat → Value) → World → Prop) (xs : Nat → Value) (hput : Puts A 0 l)
    (h0 : I (fun _ => false) xs w.drew) (hstep : ISteps P l.toArray Q A I 0 l)
    (hend : ∀ (li : Nat → Bool) (xs : Nat → Value) (W : World), I li xs W → (∀ i, i < l.length → li i = true) → Q .normal (A xs) W) :
    (Code.region id l.toArray true).wp P Q (A xs) w := by
  refine wp_region_inv hm hb A I xs h0 ?_ (fun li xs W hI hall => hend li xs W hI (fun i hi => hall i (by simpa using hi)))
  intro li xs W i o hI ho hli hp
  have ho' : l[i]? = some o := by simpa using ho
  have hst := hstep.at ho'
  have hpt := hput.at ho'
  rw [Nat.zero_add] at hst hpt
  have h := hst li xs W hI hli (PredsB.of fun e he hbd => hp e (by simpa using he) hbd) (fun a' w' => ∃ v, a' = A (upd xs i v) ∧ I (upd li i true) (upd xs i v) w') (fun v w' hI' => ⟨v, hpt xs v, hI'⟩)
  unfold wpOp
  rw [ho]
  show if Region.wanted o _ = true then _ else _
  split
  · rename_i hw; rw [if_pos hw] at h; exact .inl h
  · rename_i hw; rw [if_neg hw] at h; exact h

def IStepIn (F : Fence) (n : Nat) (P : Program) (ops : Array Oper) (Q : Exit → Act → World → Prop) (A : (Nat → Value) → Act) (I : (Nat → Bool) → (Nat → Value) → World → Prop) (k : Nat) (o : Oper) : Prop :=
  ∀ (li : Nat → Bool) (xs : Nat → Value) (W : World), I li xs W → li k = false → PredsB li o.after.toList → ∀ K : Act → World → Prop, (∀ v w', I (upd li k true) (upd xs k v) w' → K ((A xs).put o.dst v) w') →
    if Region.wanted o (yielded ops (A xs).tmps) = true then o.wpIn F n P (A xs) W K Q else (∀ f, o.about P W (A xs).eval = some f → F.fn f) ∧ K ((A xs).put o.dst undef) W
def IStepsIn (F : Fence) (n : Nat) (P : Program) (ops : Array Oper) (Q : Exit → Act → World → Prop) (A : (Nat → Value) → Act) (I : (Nat → Bool) → (Nat → Value) → World → Prop) : Nat → List Oper → Prop
  | _, [] => True
  | k, o :: r => IStepIn F n P ops Q A I k o ∧ IStepsIn F n P ops Q A I (k + 1) r
theorem IStepsIn.at {A : (Nat → Value) → Act} {I : (Nat → Bool) → (Nat → Value) → World → Prop} : ∀ {l : List Oper} {k : Nat}, IStepsIn F n P ops Q A I k l → ∀ {i : Nat} {o : Oper}, l[i]? = some o → IStepIn F n P ops Q A I (k + i) o
  | [], _, _, i, o, ho => by simp at ho
  | x :: l, k, h, 0, o, ho => by simp at ho; subst ho; exact h.1
  | x :: l, k, h, i + 1, o, ho => by
    have := IStepsIn.at h.2 (i := i) (o := o) (by simpa using ho)
    rwa [show k + 1 + i = k + (i + 1) by omega] at this

/-- The same inside a fence. -/
theorem wpIn_region_steps {id : Nat} {l : List Oper} {w : World} (hm : P.follows .mixedOrders = true) (hb : back l.toArray = true) (A : (Nat → Value) → Act) (I : (Nat → Bool) → (Nat → Value) → World → Prop) (xs : Nat → Value) (hput : Puts A 0 l)
    (h0 : I (fun _ => false) xs w.drew) (hstep : IStepsIn F n P l.toArray Q A I 0 l)
    (hend : ∀ (li : Nat → Bool) (xs : Nat → Value) (W : World), I li xs W → (∀ i, i < l.length → li i = true) → Q .normal (A xs) W) :
    (Code.region id l.toArray true).wpIn F n P Q (A xs) w := by
  refine wpIn_region_inv hm hb A I xs h0 ?_ (fun li xs W hI hall => hend li xs W hI (fun i hi => hall i (by simpa using hi)))
  intro li xs W i o hI ho hli hp
  have ho' : l[i]? = some o := by simpa using ho
  have hst := hstep.at ho'
  have hpt := hput.at ho'
  rw [Nat.zero_add] at hst hpt
  have h := hst li xs W hI hli (PredsB.of fun e he hbd => hp e (by simpa using he) hbd) (fun a' w' => ∃ v, a' = A (upd xs i v) ∧ I (upd li i true) (upd xs i v) w') (fun v w' hI' => ⟨v, hpt xs v, hI'⟩)
  unfold wpOpIn
  rw [ho]
  show if Region.wanted o _ = true then _ else _
  split
  · rename_i hw; rw [if_pos hw] at h; exact h
  · rename_i hw; rw [if_neg hw] at h; exact h

end
end Go.Inv
