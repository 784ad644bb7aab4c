/- A region that draws its order, some of whose operations (the turns, each waiting for the ones ahead of it) change the world as they like; the others only read and lay new blocks, at whatever stage their edges allow. No condition. -/
import Derived.Test.YtjinhahfpkcilaaInv2
namespace Go.Inv
open Go Go.RowKit
section
variable {P : Program} {Q : Exit → Act → World → Prop}
/-- does operation i wait for j, be it through others? -/
def waits (ops : Array Oper) : Nat → Nat → Nat → Bool
  | 0, _, _ => false
  | f + 1, i, j => match ops[i]? with
    | some o => o.after.any fun e => Region.binds .any e && (e.on == j || waits ops f e.on j)
    | none => false
def Shut (ops : Array Oper) (li : Nat → Bool) : Prop := ∀ i o, ops[i]? = some o → li i = true → ∀ e ∈ o.after, Region.binds .any e = true → li e.on = true
theorem waits_spec {ops : Array Oper} {li : Nat → Bool} (hc : Shut ops li) : ∀ f i j, waits ops f i j = true → li i = true → li j = true
  | 0, _, _, h, _ => by cases h
  | f + 1, i, j, h, hi => by
    unfold waits at h
    cases ho : ops[i]? with
    | none => rw [ho] at h; cases h
    | some o =>
      rw [ho] at h
      obtain ⟨n, hn, hb⟩ := Array.any_eq_true.1 h
      simp only [Bool.and_eq_true, Bool.or_eq_true, beq_iff_eq] at hb
      have hl := hc i o ho hi o.after[n] (Array.getElem_mem hn) hb.1
      rcases hb.2 with e | e
      · rw [← e]; exact hl
      · exact waits_spec hc f _ j e hl
/-- each turn waits for those ahead of it -/
def rowed (ops : Array Oper) : List Nat → Bool
  | [] => true
  | a :: r => r.all (fun b => waits ops 12 b a) && rowed ops r
def stage (ts : List Nat) (li : Nat → Bool) : Nat := (ts.filter li).length
/-- may operation k be done when s turns are done? -/
def mayAt (ops : Array Oper) (ts : List Nat) (k s : Nat) : Bool := (List.range ts.length).all fun j => if j < s then !waits ops 12 (ts.getD j 0) k else !waits ops 12 k (ts.getD j 0)
theorem stage_lt {ops : Array Oper} {li : Nat → Bool} (hc : Shut ops li) : ∀ {ts : List Nat}, rowed ops ts = true → ∀ {j : Nat}, j < ts.length → (li (ts.getD j 0) = true ↔ j < stage ts li)
  | [], _, j, h => by cases h
  | a :: r, hr, j, hj => by
    unfold rowed at hr
    rw [Bool.and_eq_true] at hr
    have hno : li a = false → ∀ b ∈ r, li b = false := fun ha b hb => by
      cases hb' : li b with
      | false => rfl
      | true =>
        have := waits_spec hc 12 b a (List.all_eq_true.1 hr.1 b hb) hb'
        rw [ha] at this; cases this
    cases ha : li a with
    | true =>
      have e : stage (a :: r) li = stage r li + 1 := by unfold stage; rw [List.filter_cons_of_pos (by simp [ha])]; rfl
      cases j with
      | zero => rw [e]; simp [ha]
      | succ j =>
        have := stage_lt hc hr.2 (j := j) (by simpa using hj)
        rw [e]
        simp only [List.getD_cons_succ]
        rw [this]
        omega
    | false =>
      have e : stage (a :: r) li = 0 := by
        unfold stage
        rw [List.filter_cons_of_neg (by simp [ha]), List.length_eq_zero_iff, List.filter_eq_nil_iff]
        intro b hb
        simp [hno ha b hb]
      rw [e]
      constructor
      · intro h
        cases j with
        | zero => simp [ha] at h
        | succ j =>
          simp only [List.getD_cons_succ] at h
          have hj' : j < r.length := by simpa using hj
          rw [hno ha _ (by rw [List.getD_eq_getElem?_getD, List.getElem?_eq_getElem hj']; exact List.getElem_mem _)] at h
          cases h
      · intro h; omega
theorem stage_upd_other {ts : List Nat} {li : Nat → Bool} {k : Nat} (hk : k ∉ ts) : stage ts (upd li k true) = stage ts li := by
  unfold stage
  congr 1
  apply List.filter_congr
  intro a ha
  have hak : a ≠ k := fun e => by subst e; exact hk ha
  exact upd_other _ _ hak
theorem stage_upd_turn {li : Nat → Bool} {k : Nat} (hl : li k = false) : ∀ {ts : List Nat}, ts.Nodup → k ∈ ts → stage ts (upd li k true) = stage ts li + 1
  | [], _, h => by cases h
  | a :: r, hn, h => by
    have hn' := List.nodup_cons.1 hn
    by_cases hak : a = k
    · subst hak
      have e := stage_upd_other (li := li) hn'.1
      unfold stage at e ⊢
      rw [List.filter_cons_of_pos (by simp [upd_same]), List.filter_cons_of_neg (by simp [hl])]
      simp only [List.length_cons, e]
    · have hk : k ∈ r := by
        rcases List.mem_cons.1 h with e | e
        · exact absurd e.symm hak
        · exact e
      have ih := stage_upd_turn hl hn'.2 hk
      unfold stage at ih ⊢
      cases ha : li a with
      | true => rw [List.filter_cons_of_pos (by rw [upd_other _ _ hak]; exact ha), List.filter_cons_of_pos (by exact ha)]; simp only [List.length_cons, ih]
      | false => rw [List.filter_cons_of_neg (by rw [upd_other _ _ hak]; simp [ha]), List.filter_cons_of_neg (by simp [ha])]; exact ih
/-- One operation that is no turn. -/
def PStep (P : Program) (ops : Array Oper) (ts : List Nat) (Q : Exit → Act → World → Prop) (A : (Nat → Value) → Act) (spec : Nat → Value → World → Prop) (S : Nat → World → Prop) (k : Nat) (o : Oper) : Prop :=
  ∀ (s : Nat) (_ : s ≤ ts.length) (_ : mayAt ops ts k s = true) (xs : Nat → Value) (W : World), S s W → Preds spec xs W o.after.toList → ∀ K : Act → World → Prop, (∀ v w', Below W.heap.size W w' → spec k v w' → K ((A xs).put o.dst v) w') →
    if Region.wanted o (yielded ops (A xs).tmps) = true then o.wp P (A xs) W K Q else K ((A xs).put o.dst undef) W
/-- One turn, the s-th. -/
def TStep (P : Program) (ops : Array Oper) (Q : Exit → Act → World → Prop) (A : (Nat → Value) → Act) (spec : Nat → Value → World → Prop) (S : Nat → World → Prop) (s k : Nat) (o : Oper) : Prop :=
  o.guard = none ∧ ∀ (xs : Nat → Value) (W : World), S s W → (∀ i, waits ops 12 k i = true → spec i (xs i) W) → ∀ K : Act → World → Prop,
    (∀ v w', S (s + 1) w' → (∀ i x, spec i x W → spec i x w') → spec k v w' → K ((A xs).put o.dst v) w') → o.wp P (A xs) W K Q
def TSteps (P : Program) (ops : Array Oper) (ts : List Nat) (Q : Exit → Act → World → Prop) (A : (Nat → Value) → Act) (spec : Nat → Value → World → Prop) (S : Nat → World → Prop) : Nat → List Oper → Prop
  | _, [] => True
  | k, o :: r => (if k ∈ ts then TStep P ops Q A spec S (ts.idxOf k) k o else PStep P ops ts Q A spec S k o) ∧ TSteps P ops ts Q A spec S (k + 1) r
theorem TSteps.at {ops : Array Oper} {ts : List Nat} {A : (Nat → Value) → Act} {spec : Nat → Value → World → Prop} {S : Nat → World → Prop} : ∀ {l : List Oper} {k : Nat}, TSteps P ops ts Q A spec S k l → ∀ {i : Nat} {o : Oper}, l[i]? = some o →
    if k + i ∈ ts then TStep P ops Q A spec S (ts.idxOf (k + i)) (k + i) o else PStep P ops ts Q A spec S (k + i) o
  | [], _, _, i, o, ho => by simp at ho
  | x :: l, k, h, 0, o, ho => by simp at ho; subst ho; exact h.1
  | x :: l, k, h, i + 1, o, ho => by
    have := TSteps.at h.2 (i := i) (o := o) (by simpa using ho)
    rwa [show k + 1 + i = k + (i + 1) by omega] at this
theorem stage_le (ts : List Nat) (li : Nat → Bool) : stage ts li ≤ ts.length := List.length_filter_le _ _
theorem wp_region_turns {id : Nat} {l : List Oper} {w : World} (hm : P.follows .mixedOrders = true) (hb : back l.toArray = true) (ts : List Nat)
    (hr : rowed l.toArray ts = true) (hn : ts.Nodup) (ht : ∀ a ∈ ts, a < l.length)
    (A : (Nat → Value) → Act) (spec : Nat → Value → World → Prop) (S : Nat → World → Prop) (xs : Nat → Value) (hput : Puts A 0 l)
    (hstab : ∀ i v w w', Below w.heap.size w w' → spec i v w → spec i v w') (hS : ∀ s w w', Below w.heap.size w w' → S s w → S s w') (h0 : S 0 w.drew)
    (hstep : TSteps P l.toArray ts Q A spec S 0 l)
    (hend : ∀ (xs : Nat → Value) (W : World), S ts.length W → (∀ i, i < l.length → spec i (xs i) W) → Q .normal (A xs) W) :
    (Code.region id l.toArray true).wp P Q (A xs) w := by
  refine wp_region_inv hm hb A (fun li xs W => Shut l.toArray li ∧ (∀ i, l.length ≤ i → li i = false) ∧ S (stage ts li) W ∧ ∀ i, li i = true → spec i (xs i) W) xs
    ⟨(fun _ _ _ h => by cases h), (fun _ _ => rfl), ?_, fun i h => by cases h⟩ ?_ ?_
  · have : stage ts (fun _ => false) = 0 := by unfold stage; rw [List.length_eq_zero_iff, List.filter_eq_nil_iff]; simp
    rw [this]; exact h0
  · rintro li xs W i o ⟨hc, hz, h1, h2⟩ ho hli hp
    have ho' : l[i]? = some o := by simpa using ho
    have hil : i < l.length := (List.getElem?_eq_some_iff.1 ho').1
    have hst := hstep.at ho'
    have hpt := hput.at ho'
    rw [Nat.zero_add] at hst hpt
    have hz' : ∀ j, l.length ≤ j → upd li i true j = false := fun j hj => by rw [upd_other _ _ (by omega)]; exact hz j hj
    have hc' : Shut l.toArray (upd li i true) := fun j q hq hj e he hbd => by
      by_cases hji : j = i
      · subst hji
        rw [ho] at hq; cases hq
        by_cases hei : e.on = j
        · rw [hei, upd_same]
        · rw [upd_other _ _ hei]; exact hp e he hbd
      · rw [upd_other _ _ hji] at hj
        by_cases hei : e.on = i
        · rw [hei, upd_same]
        · rw [upd_other _ _ hei]; exact hc j q hq hj e he hbd
    have aw : ∀ j, waits l.toArray 12 i j = true → li j = true := fun j hj => by
      have hcl := waits_spec hc' 12 i j hj (upd_same _ _ _)
      by_cases hji : j = i
      · subst hji
        exfalso
        have hself : ∀ (f a c : Nat), waits l.toArray f a c = true → c < a := fun f => by
          induction f with
          | zero => intro a c h; cases h
          | succ f ih =>
            intro a c h
            unfold waits at h
            cases hoa : l.toArray[a]? with
            | none => rw [hoa] at h; cases h
            | some oa =>
              rw [hoa] at h
              obtain ⟨n, hn, hbb⟩ := Array.any_eq_true.1 h
              simp only [Bool.and_eq_true, Bool.or_eq_true, beq_iff_eq] at hbb
              have hlt := back_spec hb hoa oa.after[n] (Array.getElem_mem hn) hbb.1
              rcases hbb.2 with e | e
              · omega
              · have := ih _ _ e; omega
        have := hself _ _ _ hj
        omega
      · rwa [upd_other _ _ hji] at hcl
    unfold wpOp
    rw [ho]
    show if Region.wanted o _ = true then _ else _
    by_cases hit : i ∈ ts
    · rw [if_pos hit] at hst
      obtain ⟨hg, hst⟩ := hst
      have hidx : ts.idxOf i < ts.length := List.idxOf_lt_length_iff.2 hit
      have hget : ts.getD (ts.idxOf i) 0 = i := by rw [List.getD_eq_getElem?_getD, List.getElem?_eq_getElem hidx]; simp
      have hs1 : stage ts li = ts.idxOf i := by
        have ha : ¬ ts.idxOf i < stage ts li := fun h => by
          have := (stage_lt hc hr hidx).2 h
          rw [hget, hli] at this; cases this
        have hb2 : ¬ stage ts li < ts.idxOf i := fun h => by
          have hu : ts.idxOf i < stage ts (upd li i true) := (stage_lt hc' hr hidx).1 (by rw [hget, upd_same])
          rw [stage_upd_turn hli hn hit] at hu
          omega
        omega
      rw [if_pos (wanted_none hg _)]
      rw [hs1] at h1
      refine .inl (hst xs W h1 (fun j hj => h2 j (aw j hj)) _ fun v w' hS' hk hv => ?_)
      refine ⟨v, hpt xs v, hc', hz', by rw [stage_upd_turn hli hn hit, hs1]; exact hS', fun j hj => ?_⟩
      by_cases hji : j = i
      · subst hji; rw [upd_same]; exact hv
      · rw [upd_other _ _ hji] at hj ⊢
        exact hk _ _ (h2 j hj)
    · rw [if_neg hit] at hst
      have hmay : mayAt l.toArray ts i (stage ts li) = true := by
        unfold mayAt
        rw [List.all_eq_true]
        intro j hj
        have hjl : j < ts.length := by simpa using hj
        split
        · rename_i hjs
          have hl := (stage_lt hc hr hjl).2 hjs
          cases hw : waits l.toArray 12 (ts.getD j 0) i with
          | false => rfl
          | true => have := waits_spec hc 12 _ _ hw hl; rw [hli] at this; cases this
        · rename_i hjs
          cases hw : waits l.toArray 12 i (ts.getD j 0) with
          | false => rfl
          | true => exact absurd ((stage_lt hc hr hjl).1 (aw _ hw)) hjs
      have h := hst _ (stage_le _ _) hmay xs W h1 (Preds.of fun e he hbd => h2 _ (hp e (by simpa using he) hbd)) (fun a' w' => ∃ v, a' = A (upd xs i v) ∧ Shut l.toArray (upd li i true) ∧ (∀ j, l.length ≤ j → upd li i true j = false) ∧ S (stage ts (upd li i true)) w' ∧ ∀ j, upd li i true j = true → spec j (upd xs i v j) w') (fun v w' hB' hv => by
        refine ⟨v, hpt xs v, hc', hz', by rw [stage_upd_other hit]; exact hS _ _ _ hB' h1, fun j hj => ?_⟩
        by_cases hji : j = i
        · subst hji; rw [upd_same]; exact hv
        · rw [upd_other _ _ hji] at hj ⊢
          exact hstab _ _ _ _ hB' (h2 j hj))
      split
      · rename_i hw; rw [if_pos hw] at h; exact .inl h
      · rename_i hw; rw [if_neg hw] at h; exact h
  · rintro li xs W ⟨hc, hz, h1, h2⟩ hall
    have hs : stage ts li = ts.length := by
      have : ts.filter li = ts := by
        rw [List.filter_eq_self]
        intro a ha
        exact hall a (by simpa using ht a ha)
      unfold stage; rw [this]
    rw [hs] at h1
    exact hend xs W h1 (fun i hi => h2 i (hall i (by simpa using hi)))
end
end Go.Inv
