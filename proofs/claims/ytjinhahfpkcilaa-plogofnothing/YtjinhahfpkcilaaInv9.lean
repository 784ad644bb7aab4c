/- As Inv8, and what is known of the world may name the values of the turns that are done. No condition. -/
import Derived.Test.YtjinhahfpkcilaaInv8
namespace Go.Inv
open Go Go.RowKit
section
variable {P : Program} {Q : Exit → Act → World → Prop}
/-- One operation that is no turn. -/
def PStepV (P : Program) (ops : Array Oper) (ts : List Nat) (Q : Exit → Act → World → Prop) (A : (Nat → Value) → Act) (spec : Nat → Value → World → Prop) (S : List Value → World → Prop) (k : Nat) (o : Oper) : Prop :=
  ∀ (s : Nat) (_ : s ≤ ts.length) (_ : mayAt ops ts k s = true) (xs : Nat → Value) (W : World), S ((ts.take s).map xs) W → Preds spec xs W o.after.toList → ∀ K : Act → World → Prop, (∀ v w', Below W.heap.size W w' → spec k v w' → K ((A xs).put o.dst v) w') →
    if Region.wanted o (yielded ops (A xs).tmps) = true then o.wp P (A xs) W K Q else K ((A xs).put o.dst undef) W
/-- One turn, the s-th. -/
def TStepV (P : Program) (ops : Array Oper) (ts : List Nat) (Q : Exit → Act → World → Prop) (A : (Nat → Value) → Act) (spec : Nat → Value → World → Prop) (S : List Value → World → Prop) (s k : Nat) (o : Oper) : Prop :=
  o.guard = none ∧ ∀ (xs : Nat → Value) (W : World), S ((ts.take s).map xs) W → (∀ i, waits ops 12 k i = true → spec i (xs i) W) → ∀ K : Act → World → Prop,
    (∀ v w', S ((ts.take s).map xs ++ [v]) w' → (∀ i x, spec i x W → spec i x w') → K ((A xs).put o.dst v) w') → o.wp P (A xs) W K Q
def TStepsV (P : Program) (ops : Array Oper) (ts : List Nat) (Q : Exit → Act → World → Prop) (A : (Nat → Value) → Act) (spec : Nat → Value → World → Prop) (S : List Value → World → Prop) : Nat → List Oper → Prop
  | _, [] => True
  | k, o :: r => (if k ∈ ts then TStepV P ops ts Q A spec S (ts.idxOf k) k o else PStepV P ops ts Q A spec S k o) ∧ TStepsV P ops ts Q A spec S (k + 1) r
theorem TStepsV.at {ops : Array Oper} {ts : List Nat} {A : (Nat → Value) → Act} {spec : Nat → Value → World → Prop} {S : List Value → World → Prop} : ∀ {l : List Oper} {k : Nat}, TStepsV P ops ts Q A spec S k l → ∀ {i : Nat} {o : Oper}, l[i]? = some o →
    if k + i ∈ ts then TStepV P ops ts Q A spec S (ts.idxOf (k + i)) (k + i) o else PStepV P ops ts Q A spec S (k + i) o
  | [], _, _, i, o, ho => by simp at ho
  | x :: l, k, h, 0, o, ho => by simp at ho; subst ho; exact h.1
  | x :: l, k, h, i + 1, o, ho => by
    have := TStepsV.at h.2 (i := i) (o := o) (by simpa using ho)
    rwa [show k + 1 + i = k + (i + 1) by omega] at this
theorem wp_region_turnsV {id : Nat} {l : List Oper} {w : World} (hm : P.follows .mixedOrders = true) (hb : back l.toArray = true) (ts : List Nat)
    (hr : rowed l.toArray ts = true) (hn : ts.Nodup) (ht : ∀ a ∈ ts, a < l.length)
    (A : (Nat → Value) → Act) (spec : Nat → Value → World → Prop) (S : List Value → World → Prop) (xs : Nat → Value) (hput : Puts A 0 l)
    (hstab : ∀ i v w w', Below w.heap.size w w' → spec i v w → spec i v w') (hT : ∀ i, i ∈ ts → ∀ v W, spec i v W) (hS : ∀ s w w', Below w.heap.size w w' → S s w → S s w') (h0 : S [] w.drew)
    (hstep : TStepsV P l.toArray ts Q A spec S 0 l)
    (hend : ∀ (xs : Nat → Value) (W : World), S (ts.map xs) W → (∀ i, i < l.length → spec i (xs i) W) → Q .normal (A xs) W) :
    (Code.region id l.toArray true).wp P Q (A xs) w := by
  refine wp_region_inv hm hb A (fun li xs W => Shut l.toArray li ∧ (∀ i, l.length ≤ i → li i = false) ∧ S ((ts.take (stage ts li)).map xs) W ∧ ∀ i, li i = true → spec i (xs i) W) xs
    ⟨(fun _ _ _ h => by cases h), (fun _ _ => rfl), ?_, fun i h => by cases h⟩ ?_ ?_
  · have : stage ts (fun _ => false) = 0 := by unfold stage; rw [List.length_eq_zero_iff, List.filter_eq_nil_iff]; simp
    rw [this]; exact h0
  · rintro li xs W i o ⟨hc, hz, h1, h2⟩ ho hli hp
    have ho' : l[i]? = some o := by simpa using ho
    have hil : i < l.length := (List.getElem?_eq_some_iff.1 ho').1
    have hst := hstep.at ho'
    have hpt := hput.at ho'
    rw [Nat.zero_add] at hst hpt
    have hz' : ∀ j, l.length ≤ j → upd li i true j = false := fun j hj => by rw [upd_other _ _ (by omega)]; exact hz j hj
    have hc' : Shut l.toArray (upd li i true) := fun j q hq hj e he hbd => by
      by_cases hji : j = i
      · subst hji
        rw [ho] at hq; cases hq
        by_cases hei : e.on = j
        · rw [hei, upd_same]
        · rw [upd_other _ _ hei]; exact hp e he hbd
      · rw [upd_other _ _ hji] at hj
        by_cases hei : e.on = i
        · rw [hei, upd_same]
        · rw [upd_other _ _ hei]; exact hc j q hq hj e he hbd
    have aw : ∀ j, waits l.toArray 12 i j = true → li j = true := fun j hj => by
      have hcl := waits_spec hc' 12 i j hj (upd_same _ _ _)
      by_cases hji : j = i
      · subst hji
        exfalso
        have hself : ∀ (f a c : Nat), waits l.toArray f a c = true → c < a := fun f => by
          induction f with
          | zero => intro a c h; cases h
          | succ f ih =>
            intro a c h
            unfold waits at h
            cases hoa : l.toArray[a]? with
            | none => rw [hoa] at h; cases h
            | some oa =>
              rw [hoa] at h
              obtain ⟨n, hn, hbb⟩ := Array.any_eq_true.1 h
              simp only [Bool.and_eq_true, Bool.or_eq_true, beq_iff_eq] at hbb
              have hlt := back_spec hb hoa oa.after[n] (Array.getElem_mem hn) hbb.1
              rcases hbb.2 with e | e
              · omega
              · have := ih _ _ e; omega
        have := hself _ _ _ hj
        omega
      · rwa [upd_other _ _ hji] at hcl
    unfold wpOp
    rw [ho]
    show if Region.wanted o _ = true then _ else _
    by_cases hit : i ∈ ts
    · rw [if_pos hit] at hst
      obtain ⟨hg, hst⟩ := hst
      have hidx : ts.idxOf i < ts.length := List.idxOf_lt_length_iff.2 hit
      have hget : ts.getD (ts.idxOf i) 0 = i := by rw [List.getD_eq_getElem?_getD, List.getElem?_eq_getElem hidx]; simp
      have hs1 : stage ts li = ts.idxOf i := by
        have ha : ¬ ts.idxOf i < stage ts li := fun h => by
          have := (stage_lt hc hr hidx).2 h
          rw [hget, hli] at this; cases this
        have hb2 : ¬ stage ts li < ts.idxOf i := fun h => by
          have hu : ts.idxOf i < stage ts (upd li i true) := (stage_lt hc' hr hidx).1 (by rw [hget, upd_same])
          rw [stage_upd_turn hli hn hit] at hu
          omega
        omega
      rw [if_pos (wanted_none hg _)]
      rw [hs1] at h1
      refine .inl (hst xs W h1 (fun j hj => h2 j (aw j hj)) _ fun v w' hS' hk => ?_)
      have hlen : (ts.take (ts.idxOf i)).map (upd xs i v) = (ts.take (ts.idxOf i)).map xs := List.map_congr_left fun a ha => upd_other _ _ (fun e => by
        subst e
        obtain ⟨n, hn1, hn2⟩ := List.mem_iff_getElem.1 ha
        rw [List.length_take] at hn1
        rw [List.getElem_take] at hn2
        have h3 : ts[ts.idxOf a]'hidx = a := by simp
        have := (List.getElem_inj (h₀ := by omega) (h₁ := hidx) hn).1 (hn2.trans h3.symm)
        omega)
      have hlast : (ts.take (ts.idxOf i + 1)).map (upd xs i v) = (ts.take (ts.idxOf i)).map xs ++ [v] := by
        rw [List.take_add_one, List.map_append, hlen, List.getElem?_eq_getElem hidx]
        simp [upd_same]
      refine ⟨v, hpt xs v, hc', hz', by rw [stage_upd_turn hli hn hit, hs1, hlast]; exact hS', fun j hj => ?_⟩
      by_cases hji : j = i
      · subst hji; exact hT _ hit _ _
      · rw [upd_other _ _ hji] at hj ⊢
        exact hk _ _ (h2 j hj)
    · rw [if_neg hit] at hst
      have hmay : mayAt l.toArray ts i (stage ts li) = true := by
        unfold mayAt
        rw [List.all_eq_true]
        intro j hj
        have hjl : j < ts.length := by simpa using hj
        split
        · rename_i hjs
          have hl := (stage_lt hc hr hjl).2 hjs
          cases hw : waits l.toArray 12 (ts.getD j 0) i with
          | false => rfl
          | true => have := waits_spec hc 12 _ _ hw hl; rw [hli] at this; cases this
        · rename_i hjs
          cases hw : waits l.toArray 12 i (ts.getD j 0) with
          | false => rfl
          | true => exact absurd ((stage_lt hc hr hjl).1 (aw _ hw)) hjs
      have h := hst _ (stage_le _ _) hmay xs W h1 (Preds.of fun e he hbd => h2 _ (hp e (by simpa using he) hbd)) (fun a' w' => ∃ v, a' = A (upd xs i v) ∧ Shut l.toArray (upd li i true) ∧ (∀ j, l.length ≤ j → upd li i true j = false) ∧ S ((ts.take (stage ts (upd li i true))).map (upd xs i v)) w' ∧ ∀ j, upd li i true j = true → spec j (upd xs i v j) w') (fun v w' hB' hv => by
        refine ⟨v, hpt xs v, hc', hz', by rw [stage_upd_other hit, List.map_congr_left (g := xs) fun a ha => upd_other _ _ (fun e => by subst e; exact hit (List.mem_of_mem_take ha))]; exact hS _ _ _ hB' h1, fun j hj => ?_⟩
        by_cases hji : j = i
        · subst hji; rw [upd_same]; exact hv
        · rw [upd_other _ _ hji] at hj ⊢
          exact hstab _ _ _ _ hB' (h2 j hj))
      split
      · rename_i hw; rw [if_pos hw] at h; exact .inl h
      · rename_i hw; rw [if_neg hw] at h; exact h
  · rintro li xs W ⟨hc, hz, h1, h2⟩ hall
    have hs : stage ts li = ts.length := by
      have : ts.filter li = ts := by
        rw [List.filter_eq_self]
        intro a ha
        exact hall a (by simpa using ht a ha)
      unfold stage; rw [this]
    rw [hs, List.take_length] at h1
    exact hend xs W h1 (fun i hi => h2 i (hall i (by simpa using hi)))
/-- the only stage at which it may be done -/
theorem stage_of {ops : Array Oper} {ts : List Nat} {k s s0 : Nat} (hs : s ≤ ts.length) (h : mayAt ops ts k s = true) (hd : ((List.range (ts.length + 1)).all fun t => !mayAt ops ts k t || t == s0) = true) : s = s0 := by
  have := List.all_eq_true.1 hd s (by simp; omega)
  rw [h] at this
  simpa using this
end
end Go.Inv
