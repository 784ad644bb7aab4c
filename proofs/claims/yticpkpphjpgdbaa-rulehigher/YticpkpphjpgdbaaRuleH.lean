/- rule's Higher: the later one of two locks, each at the view that its votes prove. For every ring and locks of up to a thousand votes. -/
import Derived.Test.YticpkpphjpgdbaaRuleM
import Derived.Test.YticpkpphjpgdbaaInv4
namespace Go.Inv
open Go Go.RowKit
section
variable {P : Program} {Q : Exit → Act → World → Prop}
/-- One operation of such a region whose answer is none that another one has given. -/
def GStepD (P : Program) (ops : Array Oper) (Q : Exit → Act → World → Prop) (A : (Nat → Value) → Act) (spec : Nat → Value → World → Prop) (w : World) (d k : Nat) (o : Oper) : Prop :=
  ∀ (xs : Nat → Value) (W : World), Below w.heap.size w W → Preds spec xs W o.after.toList → ∀ K : Act → World → Prop, (∀ v w', Below W.heap.size W w' → spec k v w' → (∀ x, spec d x W → x ≠ v) → K ((A xs).put o.dst v) w') →
    if Region.wanted o (yielded ops (A xs).tmps) = true then o.wp P (A xs) W K Q else K ((A xs).put o.dst undef) W
/-- One operation of such a region. -/
def DStep (P : Program) (ops : Array Oper) (Q : Exit → Act → World → Prop) (A : (Nat → Value) → Act) (spec : Nat → Value → World → Prop) (F : (Nat → Bool) → (Nat → Value) → World → Prop) (w : World) (p d1 d2 k : Nat) (o : Oper) : Prop :=
  if k = d1 then GStepD P ops Q A spec w d2 k o
  else if k = d2 then GStepD P ops Q A spec w d1 k o
  else if k < p then GStepG P ops Q A spec w k o
  else if k = p then o.guard = none ∧ ∀ (li : Nat → Bool) (xs : Nat → Value) (W : World), Below w.heap.size w W → (∀ i, i < p → spec i (xs i) W) → (∀ i, p < i → li i = false) → xs d1 ≠ xs d2 → ∀ K : Act → World → Prop, (∀ v w', F (upd li p true) (upd xs p v) w' → K ((A xs).put o.dst v) w') → o.wp P (A xs) W K Q
  else IStep P ops Q A F k o
def DSteps (P : Program) (ops : Array Oper) (Q : Exit → Act → World → Prop) (A : (Nat → Value) → Act) (spec : Nat → Value → World → Prop) (F : (Nat → Bool) → (Nat → Value) → World → Prop) (w : World) (p d1 d2 : Nat) : Nat → List Oper → Prop
  | _, [] => True
  | k, o :: r => DStep P ops Q A spec F w p d1 d2 k o ∧ DSteps P ops Q A spec F w p d1 d2 (k + 1) r
theorem DSteps.at {ops : Array Oper} {A : (Nat → Value) → Act} {spec : Nat → Value → World → Prop} {F : (Nat → Bool) → (Nat → Value) → World → Prop} {w : World} {p d1 d2 : Nat} : ∀ {l : List Oper} {k : Nat}, DSteps P ops Q A spec F w p d1 d2 k l → ∀ {i : Nat} {o : Oper}, l[i]? = some o → DStep P ops Q A spec F w p d1 d2 (k + i) o
  | [], _, _, i, o, ho => by simp at ho
  | x :: l, k, h, 0, o, ho => by simp at ho; subst ho; exact h.1
  | x :: l, k, h, i + 1, o, ho => by
    have := DSteps.at h.2 (i := i) (o := o) (by simpa using ho)
    rwa [show k + 1 + i = k + (i + 1) by omega] at this
theorem wp_region_pivotD {id : Nat} {l : List Oper} {w : World} (hm : P.follows .mixedOrders = true) (hb : back l.toArray = true) (p d1 d2 : Nat) (hpl : p < l.length) (hd1 : d1 < p) (hd2 : d2 < p) (hdd : d1 ≠ d2)
    (hw0 : ((List.range p).all fun i => waitsFor l.toArray 16 p i) = true) (hw1 : ((List.range (l.length - (p + 1))).all fun i => waitsFor l.toArray 16 (p + 1 + i) p) = true)
    (A : (Nat → Value) → Act) (spec : Nat → Value → World → Prop) (F : (Nat → Bool) → (Nat → Value) → World → Prop) (xs : Nat → Value) (hput : Puts A 0 l)
    (hstab : ∀ i v w w', Below w.heap.size w w' → spec i v w → spec i v w')
    (hstep : DSteps P l.toArray Q A spec F w p d1 d2 0 l)
    (hend : ∀ (li : Nat → Bool) (xs : Nat → Value) (W : World), F li xs W → (∀ i, i < l.length → li i = true) → Q .normal (A xs) W) :
    (Code.region id l.toArray true).wp P Q (A xs) w := by
  refine wp_region_inv hm hb A (fun li xs W => Closed l.toArray li ∧ (∀ i, l.length ≤ i → li i = false) ∧ (li p = false → Below w.heap.size w W ∧ (∀ i, li i = true → spec i (xs i) W) ∧ (li d1 = true → li d2 = true → xs d1 ≠ xs d2)) ∧ (li p = true → F li xs W)) xs
    ⟨(fun _ _ _ h => by cases h), (fun _ _ => rfl), fun _ => ⟨(Below.refl _ _).drew, (fun i h => by cases h), fun h => by cases h⟩, fun h => by cases h⟩ ?_ (fun li xs W hI hall => hend li xs W (hI.2.2.2 (hall p (by simpa using hpl))) (fun i hi => hall i (by simpa using hi)))
  rintro li xs W i o ⟨hc, hz, h0, h1⟩ ho hli hp
  have ho' : l[i]? = some o := by simpa using ho
  have hil : i < l.length := (List.getElem?_eq_some_iff.1 ho').1
  have hst := hstep.at ho'
  have hpt := hput.at ho'
  rw [Nat.zero_add] at hst hpt
  have hz' : ∀ j, l.length ≤ j → upd li i true j = false := fun j hj => by rw [upd_other _ _ (by omega)]; exact hz j hj
  have hc' : Closed l.toArray (upd li i true) := fun j q hq hj e he hbd => by
    by_cases hji : j = i
    · subst hji
      rw [ho] at hq; cases hq
      by_cases hei : e.on = j
      · rw [hei, upd_same]
      · rw [upd_other _ _ hei]; exact hp e he hbd
    · rw [upd_other _ _ hji] at hj
      by_cases hei : e.on = i
      · rw [hei, upd_same]
      · rw [upd_other _ _ hei]; exact hc j q hq hj e he hbd
  unfold wpOp
  rw [ho]
  show if Region.wanted o _ = true then _ else _
  unfold DStep at hst
  by_cases hip : i < p
  · have hpf : li p = false := by
      cases e : li p with
      | false => rfl
      | true =>
        have := waitsFor_spec hc 16 p i (List.all_eq_true.1 hw0 i (by simpa using hip)) e
        rw [this] at hli; cases hli
    obtain ⟨hB, hs, hdis⟩ := h0 hpf
    have hgo : ((¬ (i = d1 ∨ i = d2)) ∧ GStepG P l.toArray Q A spec w i o) ∨ (∃ d, ((i = d1 ∧ d = d2) ∨ (i = d2 ∧ d = d1)) ∧ GStepD P l.toArray Q A spec w d i o) := by
      by_cases e1 : i = d1
      · rw [if_pos e1] at hst; exact .inr ⟨d2, .inl ⟨e1, rfl⟩, hst⟩
      · rw [if_neg e1] at hst
        by_cases e2 : i = d2
        · rw [if_pos e2] at hst; exact .inr ⟨d1, .inr ⟨e2, rfl⟩, hst⟩
        · rw [if_neg e2, if_pos hip] at hst; exact .inl ⟨fun e => e.elim e1 e2, hst⟩
    have hpr : Preds spec xs W o.after.toList := Preds.of fun e he hbd => hs _ (hp e (by simpa using he) hbd)
    have key : ∀ v w', Below W.heap.size W w' → spec i v w' → ((i = d1 → li d2 = true → v ≠ xs d2) ∧ (i = d2 → li d1 = true → xs d1 ≠ v)) →
        ∃ v', (A xs).put o.dst v = A (upd xs i v') ∧ Closed l.toArray (upd li i true) ∧ (∀ j, l.length ≤ j → upd li i true j = false) ∧ (upd li i true p = false → Below w.heap.size w w' ∧ (∀ j, upd li i true j = true → spec j (upd xs i v' j) w') ∧ (upd li i true d1 = true → upd li i true d2 = true → upd xs i v' d1 ≠ upd xs i v' d2)) ∧ (upd li i true p = true → F (upd li i true) (upd xs i v') w') := fun v w' hB' hv hd => by
      refine ⟨v, hpt xs v, hc', hz', fun _ => ⟨hB.trans (hB'.mono hB.size), fun j hj => ?_, fun u1 u2 => ?_⟩, fun e => ?_⟩
      · by_cases hji : j = i
        · subst hji; rw [upd_same]; exact hv
        · rw [upd_other _ _ hji] at hj ⊢
          exact hstab _ _ _ _ hB' (hs j hj)
      · by_cases e1 : d1 = i
        · subst e1
          rw [upd_other _ _ (Ne.symm hdd)] at u2
          rw [upd_same, upd_other _ _ (Ne.symm hdd)]
          exact hd.1 rfl u2
        · rw [upd_other _ _ e1] at u1
          by_cases e2 : d2 = i
          · subst e2
            rw [upd_same, upd_other _ _ hdd]
            exact hd.2 rfl u1
          · rw [upd_other _ _ e2] at u2
            rw [upd_other _ _ e1, upd_other _ _ e2]; exact hdis u1 u2
      · rw [upd_other _ _ (by omega), hpf] at e; cases e
    rcases hgo with ⟨hno, hst⟩ | ⟨d, hd, hst⟩
    · have h := hst xs W hB hpr (fun a' w' => ∃ v, a' = A (upd xs i v) ∧ Closed l.toArray (upd li i true) ∧ (∀ j, l.length ≤ j → upd li i true j = false) ∧ (upd li i true p = false → Below w.heap.size w w' ∧ (∀ j, upd li i true j = true → spec j (upd xs i v j) w') ∧ (upd li i true d1 = true → upd li i true d2 = true → upd xs i v d1 ≠ upd xs i v d2)) ∧ (upd li i true p = true → F (upd li i true) (upd xs i v) w')) (fun v w' hB' hv => key v w' hB' hv ⟨fun e => absurd (.inl e) hno, fun e => absurd (.inr e) hno⟩)
      split
      · rename_i hw; rw [if_pos hw] at h; exact .inl h
      · rename_i hw; rw [if_neg hw] at h; exact h
    · have h := hst xs W hB hpr (fun a' w' => ∃ v, a' = A (upd xs i v) ∧ Closed l.toArray (upd li i true) ∧ (∀ j, l.length ≤ j → upd li i true j = false) ∧ (upd li i true p = false → Below w.heap.size w w' ∧ (∀ j, upd li i true j = true → spec j (upd xs i v j) w') ∧ (upd li i true d1 = true → upd li i true d2 = true → upd xs i v d1 ≠ upd xs i v d2)) ∧ (upd li i true p = true → F (upd li i true) (upd xs i v) w')) (fun v w' hB' hv hne => key v w' hB' hv ⟨fun e u => by
          rcases hd with ⟨_, rfl⟩ | ⟨e', _⟩
          · exact Ne.symm (hne _ (hs _ u))
          · exact absurd (e.symm.trans e') hdd, fun e u => by
          rcases hd with ⟨e', _⟩ | ⟨_, rfl⟩
          · exact absurd (e'.symm.trans e) hdd
          · exact hne _ (hs _ u)⟩)
      split
      · rename_i hw; rw [if_pos hw] at h; exact .inl h
      · rename_i hw; rw [if_neg hw] at h; exact h
  · rw [if_neg (by omega), if_neg (by omega), if_neg hip] at hst
    by_cases hie : i = p
    · subst hie
      rw [if_pos rfl] at hst
      obtain ⟨hg, hst⟩ := hst
      obtain ⟨hB, hs, hdis⟩ := h0 hli
      have hall : ∀ j, j < i → li j = true := fun j hj => by
        have hcl := waitsFor_spec hc' 16 i j (List.all_eq_true.1 hw0 j (by simpa using hj)) (upd_same _ _ _)
        rwa [upd_other _ _ (by omega)] at hcl
      have hno : ∀ j, i < j → li j = false := fun j hj => by
        by_cases hjl : j < l.length
        · cases e : li j with
          | false => rfl
          | true =>
            have := waitsFor_spec hc 16 j i (by have := List.all_eq_true.1 hw1 (j - (i + 1)) (by simp; omega); rwa [show i + 1 + (j - (i + 1)) = j by omega] at this) e
            rw [this] at hli; cases hli
        · exact hz j (by omega)
      rw [if_pos (wanted_none hg _)]
      refine .inl (hst li xs W hB (fun j hj => hs j (hall j hj)) hno (hdis (hall _ hd1) (hall _ hd2)) _ fun v w' hF => ?_)
      exact ⟨v, hpt xs v, hc', hz', (fun e => by rw [upd_same] at e; cases e), fun _ => hF⟩
    · rw [if_neg hie] at hst
      have hpt' : li p = true := by
        have h2 := waitsFor_spec hc' 16 i p (by have := List.all_eq_true.1 hw1 (i - (p + 1)) (by simp; omega); rwa [show p + 1 + (i - (p + 1)) = i by omega] at this) (upd_same _ _ _)
        rwa [upd_other _ _ (by omega)] at h2
      have h := hst li xs W (h1 hpt') hli (PredsB.of fun e he hbd => hp e (by simpa using he) hbd) (fun a' w' => ∃ v, a' = A (upd xs i v) ∧ Closed l.toArray (upd li i true) ∧ (∀ j, l.length ≤ j → upd li i true j = false) ∧ (upd li i true p = false → Below w.heap.size w w' ∧ (∀ j, upd li i true j = true → spec j (upd xs i v j) w') ∧ (upd li i true d1 = true → upd li i true d2 = true → upd xs i v d1 ≠ upd xs i v d2)) ∧ (upd li i true p = true → F (upd li i true) (upd xs i v) w')) (fun v w' hF => ⟨v, hpt xs v, hc', hz', (fun e => by rw [upd_other _ _ (by omega), hpt'] at e; cases e), fun _ => hF⟩)
      split
      · rename_i hw; rw [if_pos hw] at h; exact .inl h
      · rename_i hw; rw [if_neg hw] at h; exact h
end
end Go.Inv
namespace Go.Proofs.Yticpkpphjpgdbaa
open Go.RowKit Go.Dig Go.Sha Go.Inv Go.Oct

def gotB (o : Option Int) (K : List Int) : List Int := match o with
  | some _ => K
  | none => []
def gotV (o : Option Int) (ys : List VoteW) : List VoteW := match o with
  | some _ => ys
  | none => []
/-- a lock as Higher lays it -/
def LockG (W : World) (base : Nat) (y : Value) (o : Option Int) (K : List Int) (ys : List VoteW) : Prop := ∃ x z, y = .agg #[.int .i64 (o.getD (-1)), x, z] ∧ OwnB W base x (gotB o K) ∧ OwnV W base z (gotV o ys)
theorem LockG.below {W W' : World} {base : Nat} {y : Value} {o : Option Int} {K : List Int} {ys : List VoteW} (h : LockG W base y o K ys) (hB : Below W.heap.size W W') : LockG W' base y o K ys := by
  obtain ⟨x, z, e, h1, h2⟩ := h
  exact ⟨x, z, e, h1.below hB, h2.below hB⟩
/-- a lock as it comes in -/
structure LockIn (w : World) (K : List Int) (ka : Option Addr) (kc : Nat) (ys : List VoteW) (va : Option Addr) (vc : Nat) : Prop where
  row : Rowed w ka K kc
  lies : Lies w ka K
  le : K.length ≤ kc
  lt : K.length < 274877906944
  votes : VotesIn w va vc ys
  few : ys.length ≤ 1000
theorem LockIn.below {w w' : World} {K : List Int} {ka : Option Addr} {kc : Nat} {ys : List VoteW} {va : Option Addr} {vc : Nat} (h : LockIn w K ka kc ys va vc) (hB : Below w.heap.size w w') : LockIn w' K ka kc ys va vc :=
  ⟨h.row.below hB (Nat.le_refl _), h.lies.below hB (Nat.le_refl _), h.le, h.lt, h.votes.below hB, h.few⟩
section
variable {o : Oper} {a : Act} {w : World} {Q : Exit → Act → World → Prop} {K : Act → World → Prop}
theorem wp_appR0 (s x : Operand) (ho : o.op = .call { callee := .builtin .append, args := #[s, x], argTypes := #[22, 22] }) (hs : a.eval s = .slice none 0 0) (ao : Option Addr) (m c : Nat) (N : List Int) (hx : a.eval x = .slice ao m c) (hm : m = N.length) (hN : Rowed w ao N c) (hb : m < 1099511627776)
    (h : ∀ v' w', OwnB w' w.heap.size v' N → Below w.heap.size w w' → K (a.put o.dst v') w') : o.wp Try.prog a w K Q := by
  have hown := OwnB.nil w w.heap.size
  rcases hN with ⟨rfl, rfl, rfl⟩ | ⟨ad, rfl, hc⟩
  · subst hm
    obtain ⟨i8, hi, hz0, hz1, hz2⟩ := info_parts info_u8
    have hrun := run_append_owned_none (P := Try.prog) w w.heap.size 22 o.type 5 i8 1 (by kernel_rfl) hi (.slice none 0 0) 0 [] hown
    unfold Oper.wp
    simp [execOp, ho, resolve, invoke, builtin, hs, hx, hrun, Result.andThen]
    exact h _ w hown (Below.refl _ _)
  · obtain ⟨v', w', hrun, h1, h2⟩ := run_app w w.heap.size o.type _ [] hown ad m c N hm hc (by simp; omega) (Nat.le_refl _)
    unfold Oper.wp
    simp [execOp, ho, resolve, invoke, builtin, hs, hx, hrun, Result.andThen]
    exact h v' w' h1 (h2.below (Nat.le_refl _) (fun k hk => by cases hk))
theorem wp_appV0 (s x : Operand) (ho : o.op = .call { callee := .builtin .append, args := #[s, x], argTypes := #[23, 23] }) (hs : a.eval s = .slice none 0 0) (ao : Option Addr) (m c : Nat) (ys : List VoteW) (hx : a.eval x = .slice ao m c) (hm : m = ys.length) (hV : VotesIn w ao c ys) (hb : m ≤ 1000)
    (h : ∀ v' w', OwnV w' w.heap.size v' ys → Below w.heap.size w w' → K (a.put o.dst v') w') : o.wp Try.prog a w K Q := by
  have hown := OwnV.nil w w.heap.size
  cases ao with
  | none =>
    have hc := hV.nil rfl
    have hl := hV.le
    obtain rfl : ys = [] := List.eq_nil_of_length_eq_zero (by omega)
    subst hm hc
    obtain ⟨i8, hi, hz0, hz1, hz2⟩ := info_parts info_vote
    have hrun := run_append_owned_none (P := Try.prog) w w.heap.size 23 o.type 51 i8 68 (by kernel_rfl) hi (.slice none 0 0) 0 [] hown
    unfold Oper.wp
    simp [execOp, ho, resolve, invoke, builtin, hs, hx, hrun, Result.andThen]
    exact h _ w hown (Below.refl _ _)
  | some ad =>
    obtain ⟨v', w', hrun, h1, h2⟩ := run_appV w w.heap.size o.type _ [] hown ad m c ys hm hV (by simp; omega) (Nat.le_refl _)
    unfold Oper.wp
    simp [execOp, ho, resolve, invoke, builtin, hs, hx, hrun, Result.andThen]
    exact h v' w' h1 (h2.below (Nat.le_refl _) (fun k hk => by cases hk))
end
section
variable {ops : Array Oper} {rest : List Oper} {o : Oper} {a : Act} {w : World} {Q : Exit → Act → World → Prop}
theorem wpList_put_lock (hgd : o.guard = none) (x y : Operand) (ho : o.op = .store 25 x y) (g : Nat) (c0 c1 c2 d0 d1 d2 : Value) (hx : a.eval x = .pointer (some ⟨g, 0, none⟩)) (hy : a.eval y = .agg #[c0, c1, c2]) (t : TypeId) (hg : w.heap[g]? = some (.cells #[d0, d1, d2] t (0, 0)))
    (h1 : (#[c0, c1, c2] : Array Value).all (·.oneCell') = true) (h : ∀ w', w'.heap[g]? = some (.cells #[c0, c1, c2] t (0, 0)) → Keeps g w w' → wpList Try.prog ops Q rest (a.put o.dst undef) w') : wpList Try.prog ops Q (o :: rest) a w :=
  wpList_store_blk hgd 25 x y ho g #[c0, c1, c2] hx hy t _ hg (lock_info _ _ _) rfl h1 (h _ (setRow_at hg _) ⟨rfl, rfl, rfl, by simp, fun k _ hk => heap_setRow_other _ _ hk⟩)
end
theorem OwnB.keep {w w' : World} {base g : Nat} {v : Value} {L : List Int} (h : OwnB w base v L) (hk : Keeps g w w') (hg : g < base) : OwnB w' base v L := h.same fun k hk' => hk.block k (h.lt k hk').2 (fun e => by have := (h.lt k hk').1; omega)
theorem OwnV.keep {w w' : World} {base g : Nat} {v : Value} {zs : List VoteW} (h : OwnV w base v zs) (hk : Keeps g w w') (hg : g < base) : OwnV w' base v zs := h.same fun k hk' => hk.block k (h.lt k hk').2 (fun e => by have := (h.lt k hk').1; omega)
theorem OwnB.one {w : World} {base : Nat} {v : Value} {L : List Int} (h : OwnB w base v L) : v.oneCell' = true := by obtain ⟨a, n, c, rfl, -⟩ := h.form; rfl
theorem OwnV.one {w : World} {base : Nat} {v : Value} {zs : List VoteW} (h : OwnV w base v zs) : v.oneCell' = true := by obtain ⟨a, c, rfl, -⟩ := h.form; rfl
theorem lock_one {c0 c1 c2 : Value} (h0 : c0.oneCell' = true) (h1 : c1.oneCell' = true) (h2 : c2.oneCell' = true) : (#[c0, c1, c2] : Array Value).all (·.oneCell') = true := by simp [h0, h1, h2]
theorem two_new (w : World) (o0 o1 : Obj) {W : World} (hW : (w.alloc o0).alloc o1 = W) : W.heap.size = w.heap.size + 2 ∧ W.heap[w.heap.size]? = some o0 ∧ W.heap[w.heap.size + 1]? = some o1 ∧ Below w.heap.size w W := by
  subst hW
  refine ⟨by simp, ?_, ?_, ((Below.refl _ w).alloc (Nat.le_refl _) _).alloc (by simp) _⟩
  all_goals
    have hp : ∀ (X : World) (o : Obj), (X.alloc o).heap = X.heap.push o := fun _ _ => rfl
    simp only [hp, Array.getElem?_push, Array.size_push]
    simp
/-- what the copy's line leaves, operation by operation -/
def cpSpec (b base : Nat) (v : Int) (K : List Int) (ka : Option Addr) (kc : Nat) (ys : List VoteW) (va : Option Addr) (vc : Nat) : Nat → Value → World → Prop
  | 0, y, _ => y = .int .i64 v
  | 1, y, _ => y = .pointer (some ⟨b, 1, none⟩)
  | 2, y, _ => y = .slice ka K.length kc
  | 3, y, W => OwnB W base y K
  | 4, y, _ => y = .pointer (some ⟨b, 2, none⟩)
  | 5, y, _ => y = .slice va ys.length vc
  | 6, y, W => OwnV W base y ys
  | 7, y, W => ∃ x z, y = .agg #[.int .i64 v, x, z] ∧ OwnB W base x K ∧ OwnV W base z ys
  | _, _, _ => True
set_option maxRecDepth 10000 in
set_option maxHeartbeats 2000000 in
theorem lproved_any (pr : Value) (R : RingO) (kv : Int) (K : List Int) (ka : Option Addr) (kc : Nat) (ys : List VoteW) (va : Option Addr) (vc : Nat) (slot below : Int) (w : World) (hR : RingV w pr R) (hn : nodesR R ≤ 10) (hK : LockIn w K ka kc ys va vc) :
    Calls Try.prog 33 #[.agg #[.int .i64 kv, .slice ka K.length kc, .slice va ys.length vc], pr, .int .i64 slot, .int .i64 below] w fun e w' => ∃ y, e = .returned y ∧ LockG w' w.heap.size y (provesR R ys slot below K) K ys ∧ Below w.heap.size w w' := by
  obtain ⟨a, rfl⟩ := hR.form
  obtain ⟨W, hW⟩ : ∃ W, (w.alloc (.cells #[.int .i64 kv, .slice ka K.length kc, .slice va ys.length vc] 25)).alloc (.cells #[.int .i64 0, .slice none 0 0, .slice none 0 0] 25) = W := ⟨_, rfl⟩
  obtain ⟨hs, hb0, hb1, hBw⟩ := two_new w _ _ hW
  have HR : Hid (RingV W (.pointer a) R) := hR.below hBw
  have HK : Hid (LockIn W K ka kc ys va vc) := hK.below hBw
  have HB0 : Hid _ := hb0
  have HB1 : Hid _ := hb1
  have HS : Hid (W.heap.size = w.heap.size + 2) := hs
  have HPD : Hid (∃ d, Try.prog.underlying 25 = some d ∧ (match d with | .struct _ | .array _ _ => true | _ => false) = true) := lock_rowM
  have hc1 : W.cell? ⟨w.heap.size, 1, none⟩ = some (.slice ka K.length kc) := (cell_blk hb0 1).trans rfl
  have hc2 : W.cell? ⟨w.heap.size, 2, none⟩ = some (.slice va ys.length vc) := (cell_blk hb0 2).trans rfl
  clear hb0 hb1 hs hR hK
  go_enter Try.func33, Try.ntmps33
  go_wp2_with fail
  clear hW
  refine (proves_any (.pointer a) R va vc ys slot below K ka kc W HR.out hn HK.out.votes HK.out.lies HK.out.le HK.out.lt).mono ?_
  rintro e w2 ⟨rfl, hB2⟩
  have HB2 : Hid (w2.heap[w.heap.size + 1]? = some (.cells #[.int .i64 0, .slice none 0 0, .slice none 0 0] 25 (0, 0))) := (hB2.block _ (lt_blk HB1.out)).trans HB1.out
  have HA2 : Hid (w2.heap[w.heap.size]? = some (.cells #[.int .i64 kv, .slice ka K.length kc, .slice va ys.length vc] 25 (0, 0))) := (hB2.block _ (lt_blk HB0.out)).trans HB0.out
  have HK2 : Hid (LockIn w2 K ka kc ys va vc) := HK.out.below hB2
  have hBw2 : Below w.heap.size w w2 := hBw.trans (hB2.mono hBw.size)
  have hz2 : w.heap.size + 2 ≤ w2.heap.size := by have := hB2.size; have := HS.out; omega
  clear hB2 HB0 HB1 HS HK HR hc1 hc2 hBw
  cases hp : provesR R ys slot below K with
  | none =>
    simp only [provedV, Option.getD_none, Option.isSome_none]
    go_wp2_with fail
    refine (free_any w2).mono ?_
    rintro e w3 ⟨rfl, hB3⟩
    have HB3 : Hid (w3.heap[w.heap.size + 1]? = some (.cells #[.int .i64 0, .slice none 0 0, .slice none 0 0] 25 (0, 0))) := (hB3.block _ (lt_blk HB2.out)).trans HB2.out
    have hBw3 : Below w.heap.size w w3 := hBw2.trans (hB3.mono hBw2.size)
    have hz3 : w.heap.size + 2 ≤ w3.heap.size := by have := hB3.size; omega
    clear hB3 HB2 HA2 HK2 hBw2 hz2
    go_wp2_with (refine wpList_put_lock rfl _ _ rfl (w.heap.size + 1) (.int .i64 (-1)) (.slice none 0 0) (.slice none 0 0) (.int .i64 0) (.slice none 0 0) (.slice none 0 0) ?_ ?_ 25 ?_ ?_ ?_; rfl; rfl; exact HB3.out; exact lock_one rfl rfl rfl)
    intro w4 hc4 hk4
    go_wp2_with fail
    obtain ⟨d, hd1, hd2⟩ := HPD.out
    refine bodyPost_ret (v := .agg #[.int .i64 (-1), .slice none 0 0, .slice none 0 0]) ?_ rfl ⟨_, rfl, (by rw [hp]; exact ⟨_, _, rfl, OwnB.nil _ _, OwnV.nil _ _⟩), hBw3.trans (hk4.below (by omega) (by omega))⟩
    refine results_cell_row rfl _ _ (w.heap.size + 1) _ _ _ d rfl hc4 hd1 ?_ (lock_info _ _ _)
    cases d <;> first | rfl | exact hd2
  | some v =>
    simp only [provedV, Option.getD_some, Option.isSome_some]
    go_wp2_with fail
    refine wp_region_pivot (by kernel_rfl) (by kernel_rfl) 8 (by decide) (by kernel_rfl) (by kernel_rfl) (fun xs => { tmps := (Value.agg #[Value.int IntKind.i64 kv, Value.slice ka K.length kc, Value.slice va ys.length vc] :: Value.pointer a :: Value.int IntKind.i64 slot :: Value.int IntKind.i64 below :: Value.pointer (some (⟨w.heap.size, 0, none⟩ : Addr)) :: undef :: undef :: undef :: Value.pointer (some (⟨w.heap.size + 1, 0, none⟩ : Addr)) :: Value.int IntKind.i64 v :: Value.bool true :: Value.tuple #[Value.int IntKind.i64 v, Value.bool true] :: Value.pointer a :: Value.pointer (some (⟨w.heap.size, 2, none⟩ : Addr)) :: Value.slice va ys.length vc :: Value.int IntKind.i64 slot :: Value.int IntKind.i64 below :: Value.pointer (some (⟨w.heap.size, 1, none⟩ : Addr)) :: Value.slice ka K.length kc :: Value.tuple #[Value.int IntKind.i64 v, Value.bool true] :: Value.int IntKind.i64 v :: Value.bool true :: Value.bool true :: Value.bool false :: undef :: xs 0 :: xs 1 :: xs 2 :: xs 3 :: xs 4 :: xs 5 :: xs 6 :: xs 7 :: []).toArray, defers := [] })
      (cpSpec w.heap.size w2.heap.size v K ka kc ys va vc) (fun li xs W' => Below w.heap.size w W' ∧ ∃ x z, W'.heap[w.heap.size + 1]? = some (.cells #[.int .i64 v, x, z] 25 (0, 0)) ∧ OwnB W' w2.heap.size x K ∧ OwnV W' w2.heap.size z ys) (fun _ => undef) (by repeat (first | exact trivial | refine ⟨fun _ _ => rfl, ?_⟩))
      (by
        intro i y w w' h hs
        unfold cpSpec at *
        split at hs <;> first | exact hs | exact trivial | exact OwnB.below hs h | exact OwnV.below hs h | (obtain ⟨x, z, e, h1, h2⟩ := hs; exact ⟨x, z, e, h1.below h, h2.below h⟩)) ⟨?_, ?_, ?_, ?_, ?_, ?_, ?_, ?_, ⟨rfl, ?_⟩, trivial⟩ ?_
    · intro xs W' hB hp K' hK
      rw [if_pos (wanted_none rfl _)]
      go_simp
      exact hK _ _ (Below.refl _ _) rfl
    · intro xs W' hB hp K' hK
      rw [if_pos (wanted_none rfl _)]
      go_simp
      exact hK _ _ (Below.refl _ _) rfl
    · intro xs W' hB hp K' hK
      have h1 : xs 1 = .pointer (some ⟨w.heap.size, 1, none⟩) := hp.1 rfl
      have hc : W'.cell? ⟨w.heap.size, 1, none⟩ = some (.slice ka K.length kc) := (cell_blk ((hB.block _ (lt_blk HA2.out)).trans HA2.out) _).trans rfl
      clear hp
      rw [if_pos (wanted_none rfl _)]
      simp only [h1] at hK ⊢
      go_simp
      exact hK _ _ (Below.refl _ _) rfl
    · intro xs W' hB hp K' hK
      have h2 : xs 2 = .slice ka K.length kc := hp.1 rfl
      rw [if_pos (wanted_none rfl _)]
      exact wp_appR0 _ _ rfl rfl ka K.length kc K h2 rfl (HK2.out.below hB).row (by have := HK2.out.lt; omega) (fun v' w' h4 h5 => hK _ _ h5 (h4.mono hB.size))
    · intro xs W' hB hp K' hK
      rw [if_pos (wanted_none rfl _)]
      go_simp
      exact hK _ _ (Below.refl _ _) rfl
    · intro xs W' hB hp K' hK
      have h1 : xs 4 = .pointer (some ⟨w.heap.size, 2, none⟩) := hp.1 rfl
      have hc : W'.cell? ⟨w.heap.size, 2, none⟩ = some (.slice va ys.length vc) := (cell_blk ((hB.block _ (lt_blk HA2.out)).trans HA2.out) _).trans rfl
      clear hp
      rw [if_pos (wanted_none rfl _)]
      simp only [h1] at hK ⊢
      go_simp
      exact hK _ _ (Below.refl _ _) rfl
    · intro xs W' hB hp K' hK
      have h5 : xs 5 = .slice va ys.length vc := hp.1 rfl
      rw [if_pos (wanted_none rfl _)]
      exact wp_appV0 _ _ rfl rfl va ys.length vc ys h5 rfl (HK2.out.below hB).votes HK2.out.few (fun v' w' h4 h6 => hK _ _ h6 (h4.mono hB.size))
    · intro xs W' hB hp K' hK
      have h0 : xs 0 = .int .i64 v := hp.1 rfl
      have h3 : OwnB W' w2.heap.size (xs 3) K := hp.2.1 rfl
      have h6 : OwnV W' w2.heap.size (xs 6) ys := hp.2.2.1 rfl
      obtain ⟨a3, n3, c3, e3, -⟩ := h3.form
      obtain ⟨a6, c6, e6, -⟩ := h6.form
      rw [e3] at h3
      rw [e6] at h6
      have H3 : Hid (OwnB W' w2.heap.size (.slice a3 n3 c3) K) := h3
      have H6 : Hid (OwnV W' w2.heap.size (.slice a6 ys.length c6) ys) := h6
      clear hp h3 h6
      rw [if_pos (wanted_none rfl _)]
      simp only [h0, e3, e6] at hK ⊢
      go_simp
      exact hK _ _ (Below.refl _ _) ⟨_, _, rfl, H3.out, H6.out⟩
    · intro li xs W' hB hs hli K' hK
      obtain ⟨x, z, h7, h3, h6⟩ : ∃ x z, xs 7 = .agg #[.int .i64 v, x, z] ∧ OwnB W' w2.heap.size x K ∧ OwnV W' w2.heap.size z ys := hs 7 (by decide)
      have hg := (hB.block _ (lt_blk HB2.out)).trans HB2.out
      have hkp : Keeps (w.heap.size + 1) W' (W'.setRow (w.heap.size + 1) #[.int .i64 v, x, z]) := ⟨rfl, rfl, rfl, by simp, fun k _ hk => heap_setRow_other _ _ hk⟩
      refine wp_store_row _ _ _ rfl (w.heap.size + 1) #[.int .i64 v, x, z] rfl h7 _ _ hg (lock_info _ _ _) rfl (lock_one rfl h3.one h6.one) (hK undef _ ⟨(hBw2.trans (hB.mono hBw2.size)).trans (hkp.below (by omega) (by have := hB.size; omega)), x, z, setRow_at hg _, h3.keep hkp (by omega), h6.keep hkp (by omega)⟩)
    · rintro li xs W' ⟨hB, x, z, hg, h3, h6⟩ hall
      have HG : Hid _ := hg
      clear hg
      go_wp2_with fail
      obtain ⟨d, hd1, hd2⟩ := HPD.out
      refine bodyPost_ret (v := .agg #[.int .i64 v, x, z]) ?_ rfl ⟨_, rfl, (by rw [hp]; exact ⟨x, z, rfl, h3.mono hBw2.size, h6.mono hBw2.size⟩), hB⟩
      refine results_cell_row rfl _ _ (w.heap.size + 1) _ _ _ d rfl HG.out hd1 ?_ (lock_info _ _ _)
      cases d <;> first | rfl | exact hd2
theorem wp_load_lock {o : Oper} {a : Act} {w : World} {K : Act → World → Prop} {Q : Exit → Act → World → Prop} (x : Operand) (ho : o.op = .load 25 x) (g : Nat) (hx : a.eval x = .pointer (some ⟨g, 0, none⟩)) (c0 c1 c2 : Value)
    (hc : w.heap[g]? = some (.cells #[c0, c1, c2] 25 (0, 0))) (h : K (a.put o.dst (.agg #[c0, c1, c2])) w) : o.wp Try.prog a w K Q := by
  obtain ⟨d, hd1, hd2⟩ := lock_row
  refine wp_load_mid 25 x ho g 0 hx [c0, c1, c2] d (fun j v hv => ?_) hd1 hd2 (by exact lock_info c0 c1 c2) (by simpa using h)
  rw [cell_blk hc, Nat.zero_add]
  simpa using hv
/-- what the line of the two leaves, operation by operation -/
def hiSpec (pr : Value) (slot below : Int) (base : Nat) (la lb : Value) (oa ob : Option Int) (Ka Kb : List Int) (ya yb : List VoteW) : Nat → Value → World → Prop
  | 0, y, _ => y = la
  | 1, y, _ => y = pr
  | 2, y, _ => y = .int .i64 slot
  | 3, y, _ => y = .int .i64 below
  | 4, y, W => LockG W base y oa Ka ya
  | 5, y, _ => y = lb
  | 6, y, _ => y = pr
  | 7, y, _ => y = .int .i64 slot
  | 8, y, _ => y = .int .i64 below
  | 9, y, W => LockG W base y ob Kb yb
  | 10, y, W => ∃ g, y = .pointer (some ⟨g, 0, none⟩) ∧ base ≤ g ∧ W.heap[g]? = some (.cells #[.int .i64 0, .slice none 0 0, .slice none 0 0] 25 (0, 0))
  | 11, y, W => ∃ g, y = .pointer (some ⟨g, 0, none⟩) ∧ base ≤ g ∧ W.heap[g]? = some (.cells #[.int .i64 0, .slice none 0 0, .slice none 0 0] 25 (0, 0))
  | _, _, _ => True
/-- a row is none of a lock's own block -/
theorem ownB_neLock {w : World} {base g : Nat} {v : Value} {L : List Int} {c : Array Value} (h : OwnB w base v L) (hg : w.heap[g]? = some (.cells c 25 (0, 0))) : v.ownBlock ≠ some g := fun e => by
  rcases h.2 with ⟨rfl, _⟩ | ⟨g', cap, cur, rfl, _, hgg, _⟩
  · cases e
  · cases e; rw [hg] at hgg; injection hgg with h1; injection h1 with _ h2; exact absurd h2 (by decide)
theorem ownV_neLock {w : World} {base g : Nat} {v : Value} {zs : List VoteW} {c : Array Value} (h : OwnV w base v zs) (hg : w.heap[g]? = some (.cells c 25 (0, 0))) : v.ownBlock ≠ some g := fun e => by
  rcases h.2 with ⟨rfl, _⟩ | ⟨g', cap, cur, rfl, _, hgg, _⟩
  · cases e
  · cases e; rw [hg] at hgg; injection hgg with h1; injection h1 with _ h2; exact absurd h2 (by decide)
theorem LockG.put {W W' : World} {base g : Nat} {y : Value} {o : Option Int} {K : List Int} {ys : List VoteW} {c : Array Value} (h : LockG W base y o K ys) (hg : W.heap[g]? = some (.cells c 25 (0, 0))) (hk : Keeps g W W') : LockG W' base y o K ys := by
  obtain ⟨x, z, e, h1, h2⟩ := h
  exact ⟨x, z, e, h1.same fun k hk' => hk.block k (h1.lt k hk').2 (fun e => ownB_neLock h1 hg (by rw [← e]; exact hk')), h2.same fun k hk' => hk.block k (h2.lt k hk').2 (fun e => ownV_neLock h2 hg (by rw [← e]; exact hk'))⟩
theorem LockG.cells {W : World} {base : Nat} {y : Value} {o : Option Int} {K : List Int} {ys : List VoteW} (h : LockG W base y o K ys) : ∃ x z, y = .agg #[.int .i64 (o.getD (-1)), x, z] ∧ (#[.int .i64 (o.getD (-1)), x, z] : Array Value).all (·.oneCell') = true := by
  obtain ⟨x, z, e, h1, h2⟩ := h
  exact ⟨x, z, e, lock_one rfl h1.one h2.one⟩
/-- behind the two stores -/
def HiF (w0 : World) (oa ob : Option Int) (Ka Kb : List Int) (ya yb : List VoteW) (li : Nat → Bool) (xs : Nat → Value) (W : World) : Prop :=
  Below w0.heap.size w0 W ∧ ∃ g1 g2 x1 z1 x2 z2, xs 10 = .pointer (some ⟨g1, 0, none⟩) ∧ xs 11 = .pointer (some ⟨g2, 0, none⟩) ∧ g1 ≠ g2 ∧ w0.heap.size ≤ g1 ∧ w0.heap.size ≤ g2
    ∧ LockG W w0.heap.size (.agg #[.int .i64 (oa.getD (-1)), x1, z1]) oa Ka ya ∧ W.heap[g1]? = some (.cells #[.int .i64 (oa.getD (-1)), x1, z1] 25 (0, 0))
    ∧ xs 9 = .agg #[.int .i64 (ob.getD (-1)), x2, z2] ∧ LockG W w0.heap.size (.agg #[.int .i64 (ob.getD (-1)), x2, z2]) ob Kb yb
    ∧ (li 13 = false → W.heap[g2]? = some (.cells #[.int .i64 0, .slice none 0 0, .slice none 0 0] 25 (0, 0))) ∧ (li 13 = true → W.heap[g2]? = some (.cells #[.int .i64 (ob.getD (-1)), x2, z2] 25 (0, 0)))
set_option maxRecDepth 10000 in
set_option maxHeartbeats 2000000 in
theorem higher_any (pr : Value) (R : RingO) (slot below : Int) (ka kb : Int) (Ka Kb : List Int) (pa pb : Option Addr) (ca cb : Nat) (ya yb : List VoteW) (va vb : Option Addr) (da db : Nat) (w : World) (hR : RingV w pr R) (hn : nodesR R ≤ 10) (hA : LockIn w Ka pa ca ya va da) (hB : LockIn w Kb pb cb yb vb db)
    (oa ob : Option Int) (hoa : provesR R ya slot below Ka = oa) (hob : provesR R yb slot below Kb = ob) :
    Calls Try.prog 17 #[pr, .int .i64 slot, .int .i64 below, .agg #[.int .i64 ka, .slice pa Ka.length ca, .slice va ya.length da], .agg #[.int .i64 kb, .slice pb Kb.length cb, .slice vb yb.length db]] w
      fun e w' => ∃ y, e = .returned y ∧ (oa.getD (-1) < ob.getD (-1) → LockG w' w.heap.size y ob Kb yb) ∧ (¬ oa.getD (-1) < ob.getD (-1) → LockG w' w.heap.size y oa Ka ya) ∧ Below w.heap.size w w' := by
  obtain ⟨a, rfl⟩ := hR.form
  obtain ⟨w0, hW⟩ : ∃ W, ((w.alloc (.cells #[.int .i64 ka, .slice pa Ka.length ca, .slice va ya.length da] 25)).alloc (.cells #[.int .i64 kb, .slice pb Kb.length cb, .slice vb yb.length db] 25)).alloc (.cells #[.int .i64 0, .slice none 0 0, .slice none 0 0] 25) = W := ⟨_, rfl⟩
  obtain ⟨hs, hb0, hb1, hb2, hBw⟩ := three_new w _ _ _ hW
  have HR : Hid (RingV w0 (.pointer a) R) := hR.below hBw
  have HA : Hid (LockIn w0 Ka pa ca ya va da) := hA.below hBw
  have HBB : Hid (LockIn w0 Kb pb cb yb vb db) := hB.below hBw
  have HB0 : Hid (w0.heap[w.heap.size]? = some (.cells #[.int .i64 ka, .slice pa Ka.length ca, .slice va ya.length da] 25 (0, 0))) := hb0
  have HB1 : Hid (w0.heap[w.heap.size + 1]? = some (.cells #[.int .i64 kb, .slice pb Kb.length cb, .slice vb yb.length db] 25 (0, 0))) := hb1
  have HB2 : Hid (w0.heap[w.heap.size + 2]? = some (.cells #[.int .i64 0, .slice none 0 0, .slice none 0 0] 25 (0, 0))) := hb2
  have HS : Hid (w0.heap.size = w.heap.size + 3) := hs
  have HOA : Hid (provesR R ya slot below Ka = oa) := hoa
  have HOB : Hid (provesR R yb slot below Kb = ob) := hob
  clear hb0 hb1 hb2 hs hR hA hB hoa hob
  go_enter Try.func17, Try.ntmps17
  go_wp2_with fail
  clear hW
  refine wp_region_pivotD (by kernel_rfl) (by kernel_rfl) 12 10 11 (by decide) (by decide) (by decide) (by decide) (by kernel_rfl) (by kernel_rfl) (fun xs => { tmps := (Value.pointer a :: Value.int IntKind.i64 slot :: Value.int IntKind.i64 below :: Value.agg #[Value.int IntKind.i64 ka, Value.slice pa Ka.length ca, Value.slice va ya.length da] :: Value.agg #[Value.int IntKind.i64 kb, Value.slice pb Kb.length cb, Value.slice vb yb.length db] :: undef :: undef :: undef :: Value.pointer (some (⟨w.heap.size, 0, none⟩ : Addr)) :: Value.pointer (some (⟨w.heap.size + 1, 0, none⟩ : Addr)) :: Value.pointer (some (⟨w.heap.size + 1 + 1, 0, none⟩ : Addr)) :: xs 10 :: xs 11 :: xs 0 :: xs 1 :: xs 2 :: xs 3 :: xs 4 :: xs 5 :: xs 6 :: xs 7 :: xs 8 :: xs 9 :: undef :: undef :: undef :: undef :: undef :: undef :: undef :: []).toArray, defers := [] })
    (hiSpec (.pointer a) slot below w0.heap.size (.agg #[.int .i64 ka, .slice pa Ka.length ca, .slice va ya.length da]) (.agg #[.int .i64 kb, .slice pb Kb.length cb, .slice vb yb.length db]) oa ob Ka Kb ya yb) (HiF w0 oa ob Ka Kb ya yb) (fun _ => undef) (by repeat (first | exact trivial | refine ⟨fun _ _ => rfl, ?_⟩))
    (by
      intro i y w w' h hs
      unfold hiSpec at *
      split at hs <;> first | exact hs | exact trivial | exact LockG.below hs h | (obtain ⟨g, e, hb, hl⟩ := hs; exact ⟨g, e, hb, (h.block g (lt_blk hl)).trans hl⟩)) ⟨?_, ?_, ?_, ?_, ?_, ?_, ?_, ?_, ?_, ?_, ?_, ?_, ⟨rfl, ?_⟩, ?_, trivial⟩ ?_
  · intro xs W hB hp K hK
    rw [if_pos (wanted_none rfl _)]
    exact wp_load_lock _ rfl w.heap.size rfl _ _ _ ((hB.block _ (lt_blk HB0.out)).trans HB0.out) (hK _ _ (Below.refl _ _) rfl)
  · intro xs W hB hp K hK
    rw [if_pos (wanted_none rfl _)]
    go_simp
    exact hK _ _ (Below.refl _ _) rfl
  · intro xs W hB hp K hK
    rw [if_pos (wanted_none rfl _)]
    go_simp
    exact hK _ _ (Below.refl _ _) rfl
  · intro xs W hB hp K hK
    rw [if_pos (wanted_none rfl _)]
    go_simp
    exact hK _ _ (Below.refl _ _) rfl
  · intro xs W hB hp K hK
    have h0 : xs 0 = .agg #[.int .i64 ka, .slice pa Ka.length ca, .slice va ya.length da] := hp.1 rfl
    have h1 : xs 1 = .pointer a := hp.2.1 rfl
    have h2 : xs 2 = .int .i64 slot := hp.2.2.1 rfl
    have h3 : xs 3 = .int .i64 below := hp.2.2.2.1 rfl
    clear hp
    rw [if_pos (wanted_none rfl _)]
    simp only [h0, h1, h2, h3] at hK ⊢
    clear h0 h1 h2 h3
    go_simp
    refine (lproved_any (.pointer a) R ka Ka pa ca ya va da slot below W (HR.out.below hB) hn (HA.out.below hB)).mono ?_
    rintro e w' ⟨y, rfl, hy, hB'⟩
    rw [HOA.out] at hy
    obtain ⟨x1, z1, rfl, hx⟩ := hy
    exact hK _ _ hB' ⟨x1, z1, rfl, hx.1.mono hB.size, hx.2.mono hB.size⟩
  · intro xs W hB hp K hK
    rw [if_pos (wanted_none rfl _)]
    exact wp_load_lock _ rfl (w.heap.size + 1) rfl _ _ _ ((hB.block _ (lt_blk HB1.out)).trans HB1.out) (hK _ _ (Below.refl _ _) rfl)
  · intro xs W hB hp K hK
    rw [if_pos (wanted_none rfl _)]
    go_simp
    exact hK _ _ (Below.refl _ _) rfl
  · intro xs W hB hp K hK
    rw [if_pos (wanted_none rfl _)]
    go_simp
    exact hK _ _ (Below.refl _ _) rfl
  · intro xs W hB hp K hK
    rw [if_pos (wanted_none rfl _)]
    go_simp
    exact hK _ _ (Below.refl _ _) rfl
  · intro xs W hB hp K hK
    have h5 : xs 5 = .agg #[.int .i64 kb, .slice pb Kb.length cb, .slice vb yb.length db] := hp.1 rfl
    have h6 : xs 6 = .pointer a := hp.2.1 rfl
    have h7 : xs 7 = .int .i64 slot := hp.2.2.1 rfl
    have h8 : xs 8 = .int .i64 below := hp.2.2.2.1 rfl
    clear hp
    rw [if_pos (wanted_none rfl _)]
    simp only [h5, h6, h7, h8] at hK ⊢
    clear h5 h6 h7 h8
    go_simp
    refine (lproved_any (.pointer a) R kb Kb pb cb yb vb db slot below W (HR.out.below hB) hn (HBB.out.below hB)).mono ?_
    rintro e w' ⟨y, rfl, hy, hB'⟩
    rw [HOB.out] at hy
    obtain ⟨x1, z1, rfl, hx⟩ := hy
    exact hK _ _ hB' ⟨x1, z1, rfl, hx.1.mono hB.size, hx.2.mono hB.size⟩
  · intro xs W hB hp K hK
    rw [if_pos (wanted_none rfl _)]
    go_simp
    exact hK _ _ (below_alloc _ _) ⟨_, rfl, hB.size, alloc_blk _ _⟩ (fun x ⟨g, e, _, hg⟩ => by
      subst e
      intro e
      have := lt_blk hg
      simp at e <;> omega)
  · intro xs W hB hp K hK
    rw [if_pos (wanted_none rfl _)]
    go_simp
    exact hK _ _ (below_alloc _ _) ⟨_, rfl, hB.size, alloc_blk _ _⟩ (fun x ⟨g, e, _, hg⟩ => by
      subst e
      intro e
      have := lt_blk hg
      simp at e <;> omega)
  · intro li xs W hB hs hli hne K hK
    have h4 : LockG W w0.heap.size (xs 4) oa Ka ya := hs 4 (by decide)
    have h9 : LockG W w0.heap.size (xs 9) ob Kb yb := hs 9 (by decide)
    obtain ⟨g1, e1, hg1, hb1⟩ : ∃ g, xs 10 = .pointer (some ⟨g, 0, none⟩) ∧ w0.heap.size ≤ g ∧ W.heap[g]? = some (.cells #[.int .i64 0, .slice none 0 0, .slice none 0 0] 25 (0, 0)) := hs 10 (by decide)
    obtain ⟨g2, e2, hg2, hb2⟩ : ∃ g, xs 11 = .pointer (some ⟨g, 0, none⟩) ∧ w0.heap.size ≤ g ∧ W.heap[g]? = some (.cells #[.int .i64 0, .slice none 0 0, .slice none 0 0] 25 (0, 0)) := hs 11 (by decide)
    have hgg : g1 ≠ g2 := fun e => hne (by rw [e1, e2, e])
    obtain ⟨x1, z1, c4, o4⟩ := h4.cells
    obtain ⟨x2, z2, c9, o9⟩ := h9.cells
    rw [c4] at h4
    rw [c9] at h9
    have hkp : Keeps g1 W (W.setRow g1 #[.int .i64 (oa.getD (-1)), x1, z1]) := ⟨rfl, rfl, rfl, by simp, fun k _ hk => heap_setRow_other _ _ hk⟩
    refine wp_store_row _ _ _ rfl g1 #[.int .i64 (oa.getD (-1)), x1, z1] e1 c4 _ _ hb1 (lock_info _ _ _) rfl o4 (hK undef _ ⟨hB.trans (hkp.below hg1 hB.size), g1, g2, x1, z1, x2, z2, e1, e2, hgg, hg1, hg2, h4.put hb1 hkp, setRow_at hb1 _, c9, h9.put hb1 hkp, fun _ => (heap_setRow_other _ _ (Ne.symm hgg)).trans hb2, fun e => ?_⟩)
    rw [upd_other _ _ (by decide), hli 13 (by decide)] at e; cases e
  · intro li xs W hF hli hp K hK
    obtain ⟨hB, g1, g2, x1, z1, x2, z2, e1, e2, hgg, hg1, hg2, h4, hb1, c9, h9, hb2, -⟩ := hF
    have hb2 := hb2 hli
    obtain ⟨_, _, c9', o9⟩ := h9.cells
    cases c9'
    have hkp : Keeps g2 W (W.setRow g2 #[.int .i64 (ob.getD (-1)), x2, z2]) := ⟨rfl, rfl, rfl, by simp, fun k _ hk => heap_setRow_other _ _ hk⟩
    rw [if_pos (wanted_none rfl _)]
    refine wp_store_row _ _ _ rfl g2 #[.int .i64 (ob.getD (-1)), x2, z2] e2 c9 _ _ hb2 (lock_info _ _ _) rfl o9 (hK undef _ ⟨hB.trans (hkp.below hg2 hB.size), g1, g2, x1, z1, x2, z2, e1, e2, hgg, hg1, hg2, h4.put hb2 hkp, (heap_setRow_other _ _ hgg).trans hb1, c9, h9.put hb2 hkp, (fun e => by rw [upd_same] at e; cases e), fun _ => setRow_at hb2 _⟩)
  · rintro li xs W ⟨hB, g1, g2, x1, z1, x2, z2, e1, e2, hgg, hg1, hg2, h4, hb1, c9, h9, -, hb2⟩ hall
    have hb2 := hb2 (hall 13 (by decide))
    simp only [e1, e2, c9]
    obtain ⟨_, _, c4', o4⟩ := h4.cells
    cases c4'
    obtain ⟨_, _, c9', o9⟩ := h9.cells
    cases c9'
    have HO4 : Hid _ := o4
    have HO9 : Hid _ := o9
    have HG1 : Hid _ := hb1
    have HG2 : Hid _ := hb2
    have HG3 : Hid (W.heap[w.heap.size + 2]? = some (.cells #[.int .i64 0, .slice none 0 0, .slice none 0 0] 25 (0, 0))) := (hB.block _ (lt_blk HB2.out)).trans HB2.out
    have H4 : Hid (LockG W w0.heap.size (.agg #[.int .i64 (oa.getD (-1)), x1, z1]) oa Ka ya) := h4
    have H9 : Hid (LockG W w0.heap.size (.agg #[.int .i64 (ob.getD (-1)), x2, z2]) ob Kb yb) := h9
    have hv1 : W.cell? ⟨g1, 0, none⟩ = some (.int .i64 (oa.getD (-1))) := (cell_blk hb1 0).trans rfl
    have hv2 : W.cell? ⟨g2, 0, none⟩ = some (.int .i64 (ob.getD (-1))) := (cell_blk hb2 0).trans rfl
    have hBW : Below w.heap.size w W := hBw.trans (hB.mono hBw.size)
    have hsz : w.heap.size + 3 ≤ W.heap.size := by have := hB.size; have := HS.out; omega
    have hbase : w.heap.size ≤ w0.heap.size := hBw.size
    have HPD : Hid (∃ d, Try.prog.underlying 25 = some d ∧ (match d with | .struct _ | .array _ _ => true | _ => false) = true) := lock_rowM
    clear hb1 hb2 h4 h9 o4 o9 HR HA HBB HB0 HB1 HB2 HOA HOB hB hall hBw e1 e2 c9
    generalize hva : oa.getD (-1) = na at *
    generalize hvb : ob.getD (-1) = nb at *
    have HVA : Hid (oa.getD (-1) = na) := hva
    have HVB : Hid (ob.getD (-1) = nb) := hvb
    clear hva hvb
    by_cases q : na < nb
    · go_wp2_with (first | (refine wpList_load_lock rfl _ rfl g2 ?_ (.int .i64 nb) x2 z2 ?_ ?_; rfl; exact HG2.out) | (refine wpList_put_lock rfl _ _ rfl (w.heap.size + 2) (.int .i64 nb) x2 z2 (.int .i64 0) (.slice none 0 0) (.slice none 0 0) ?_ ?_ 25 ?_ ?_ ?_; rfl; rfl; exact HG3.out; exact HO9.out))
      intro w4 hc4 hk4
      go_wp2_with fail
      obtain ⟨d, hd1, hd2⟩ := HPD.out
      have hL : LockG w4 w.heap.size (.agg #[.int .i64 nb, x2, z2]) ob Kb yb := by
        obtain ⟨x', z', e', q1, q2⟩ := (LockG.put H9.out HG3.out hk4)
        exact ⟨x', z', e', q1.mono hbase, q2.mono hbase⟩
      refine bodyPost_ret (v := .agg #[.int .i64 nb, x2, z2]) ?_ rfl ⟨_, rfl, fun _ => hL, fun h => by exfalso; have := HVA.out; have := HVB.out; omega, hBW.trans (hk4.below (by omega) (by omega))⟩
      refine results_cell_row rfl _ _ (w.heap.size + 2) _ _ _ d rfl hc4 hd1 ?_ (lock_info _ _ _)
      cases d <;> first | rfl | exact hd2
    · go_wp2_with (first | (refine wpList_load_lock rfl _ rfl g1 ?_ (.int .i64 na) x1 z1 ?_ ?_; rfl; exact HG1.out) | (refine wpList_put_lock rfl _ _ rfl (w.heap.size + 2) (.int .i64 na) x1 z1 (.int .i64 0) (.slice none 0 0) (.slice none 0 0) ?_ ?_ 25 ?_ ?_ ?_; rfl; rfl; exact HG3.out; exact HO4.out))
      intro w4 hc4 hk4
      go_wp2_with fail
      obtain ⟨d, hd1, hd2⟩ := HPD.out
      have hL : LockG w4 w.heap.size (.agg #[.int .i64 na, x1, z1]) oa Ka ya := by
        obtain ⟨x', z', e', q1, q2⟩ := (LockG.put H4.out HG3.out hk4)
        exact ⟨x', z', e', q1.mono hbase, q2.mono hbase⟩
      refine bodyPost_ret (v := .agg #[.int .i64 na, x1, z1]) ?_ rfl ⟨_, rfl, fun h => by exfalso; have := HVA.out; have := HVB.out; omega, fun _ => hL, hBW.trans (hk4.below (by omega) (by omega))⟩
      refine results_cell_row rfl _ _ (w.heap.size + 2) _ _ _ d rfl hc4 hd1 ?_ (lock_info _ _ _)
      cases d <;> first | rfl | exact hd2
end Go.Proofs.Yticpkpphjpgdbaa
