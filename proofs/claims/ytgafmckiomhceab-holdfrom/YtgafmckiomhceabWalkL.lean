/- One act in both tables. For tables of up to 900 entries. -/
import Derived.Test.YtgafmckiomhceabWalkK
namespace Go.Proofs.Ytgafmckiomhceab
open Go.RowKit Go.Hold Go.Inv Go.Shelf
set_option linter.unusedVariables false

theorem Tab.notNum {W : World} {bt : Nat} {l : List (Int × Int)} (h : Tab W bt l) : ∀ i x, W.cell? ⟨bt, i, none⟩ ≠ some (.int .i64 x) := by
  obtain ⟨p, t, hb, _⟩ := h
  intro i x e
  match i with
  | 0 => simp [World.cell?, show W.heap[bt]? = _ from hb] at e
  | i + 1 => simp [World.cell?, show W.heap[bt]? = _ from hb] at e

theorem ints1_eq (l : List (Int × Int)) : ints1 l = (keysL l).map (Value.int .i64) := by unfold ints1 keysL; rw [List.map_map]; rfl
theorem ints2_eq (l : List (Int × Int)) : ints2 l = (valsL l).map (Value.int .i64) := by unfold ints2 valsL; rw [List.map_map]; rfl

def stepL (kind k v : Int) (l : List (Int × Int)) : List (Int × Int) := if kind = 1 then insL k v l else if kind = 2 then delL k l else l
theorem stepL_len (kind k v : Int) (l : List (Int × Int)) : (stepL kind k v l).length ≤ l.length + 1 := by
  unfold stepL
  split
  · exact length_insL k v l
  · split
    · have := length_delL k l; omega
    · omega

structure ActI (S : Nat → Prop) (W : World) (bt rt : Nat) (l l' : List (Int × Int)) (D : Nat → Value → Prop) (li : Nat → Bool) (xs : Nat → Value) (W1 : World) : Prop where
  det : ∀ i, li i = true → D i (xs i)
  frm : Frm S W W1
  tab0 : li 3 = false → Tab W1 bt l
  tab1 : li 3 = true → Tab W1 bt l'
  ref0 : li 7 = false → Ref W1 rt l
  ref1 : li 7 = true → Ref W1 rt l'
section
variable {S : Nat → Prop} {W : World} {bt rt : Nat} {l l' : List (Int × Int)} {D : Nat → Value → Prop} {li : Nat → Bool} {xs : Nat → Value} {W1 : World}
theorem ActI.detStep (h : ActI S W bt rt l l' D li xs W1) (i : Nat) (x : Value) (hf : D i x) : ∀ j, upd li i true j = true → D j (upd xs i x j) := fun j hl => by
  by_cases hji : j = i
  · subst hji; rw [upd_same]; exact hf
  · rw [upd_other _ _ hji] at hl ⊢; exact h.det j hl
theorem ActI.mark (h : ActI S W bt rt l l' D li xs W1) (i : Nat) (x : Value) (hf : D i x) (hi : i ≠ 3 ∧ i ≠ 7) : ActI S W bt rt l l' D (upd li i true) (upd xs i x) W1 := by
  have e3 : upd li i true 3 = li 3 := upd_other _ _ (Ne.symm hi.1)
  have e7 : upd li i true 7 = li 7 := upd_other _ _ (Ne.symm hi.2)
  exact ⟨h.detStep i x hf, h.frm, by rw [e3]; exact h.tab0, by rw [e3]; exact h.tab1, by rw [e7]; exact h.ref0, by rw [e7]; exact h.ref1⟩
theorem ActI.call3 (h : ActI S W bt rt l l' D li xs W1) (x : Value) (hf : D 3 x) (hS : S bt) (hne : bt ≠ rt) (l3 : li 3 = false) (w' : World) (hT : Tab w' bt l') (hF : Frm (· = bt) W1 w') : ActI S W bt rt l l' D (upd li 3 true) (upd xs 3 x) w' := by
  have e7 : upd li 3 true 7 = li 7 := upd_other _ _ (by decide)
  have key : ∀ {m : List (Int × Int)}, Ref W1 rt m → Ref w' rt m := fun hr => hr.frm hF (fun e => hne e.symm) (fun k hk => by cases hk; exact (h.tab0 l3).notNum)
  refine ⟨h.detStep 3 x hf, h.frm.trans (hF.mono (fun k _ hk => by cases hk; exact hS)), fun hh => ?_, fun _ => hT, by rw [e7]; exact fun hh => key (h.ref0 hh), by rw [e7]; exact fun hh => key (h.ref1 hh)⟩
  rw [upd_same] at hh; cases hh
theorem ActI.call7 (h : ActI S W bt rt l l' D li xs W1) (x : Value) (hf : D 7 x) (hS : S rt) (hne : bt ≠ rt) (l7 : li 7 = false) (w' : World) (hR : Ref w' rt l') (hF : Frm (· = rt) W1 w') : ActI S W bt rt l l' D (upd li 7 true) (upd xs 7 x) w' := by
  have e3 : upd li 7 true 3 = li 3 := upd_other _ _ (by decide)
  have key : ∀ {m : List (Int × Int)}, Tab W1 bt m → Tab w' bt m := fun hr => hr.frm hF hne (fun k hk => by cases hk; exact (h.ref0 l7).cell4)
  refine ⟨h.detStep 7 x hf, h.frm.trans (hF.mono (fun k _ hk => by cases hk; exact hS)), by rw [e3]; exact fun hh => key (h.tab0 hh), by rw [e3]; exact fun hh => key (h.tab1 hh), fun hh => ?_, fun _ => hR⟩
  rw [upd_same] at hh; cases hh
end

theorem wanted_step {ops : Array Oper} {rest : List Oper} {o : Oper} {a : Act} {w : World} {Q : Exit → Act → World → Prop} (hw : Region.wanted o (yielded ops a.tmps) = true)
    (h : ∀ K : Act → World → Prop, (∀ a w, wpList Try.prog ops Q rest a w → K a w) → o.wp Try.prog a w K Q) : wpList Try.prog ops Q (o :: rest) a w :=
  wpList_step fun K hK => by rw [if_pos hw]; exact h K hK

/-- s[n:] of numbers -/
theorem wpList_from {w : World} {ops : Array Oper} {rest : List Oper} {o : Oper} {a : Act} {Q : Exit → Act → World → Prop} (hw : Region.wanted o (yielded ops a.tmps) = true) (s x : Operand) (hop : o.op = Op.slice 22 s (some x) none none)
    (v : Value) (A : List Int) (p : Nat) (hs : a.eval s = v) (hx : a.eval x = .int .i64 (p : Int)) (hv : Sl w v A) (hp : p ≤ A.length) (hA : A.length ≤ 1000000) (h : ∀ v', Sl w v' (A.drop p) → wpList Try.prog ops Q rest (a.put o.dst v') w) : wpList Try.prog ops Q (o :: rest) a w := by
  refine wanted_step hw fun K hK => ?_
  rcases hv.take with ⟨e, hA0⟩ | ⟨g, off, cap, e, hcap, ht, hd⟩
  · obtain rfl : p = 0 := by rw [hA0] at hp; simpa using hp
    have h' := h (.slice none 0 0) (.inl ⟨rfl, by rw [hA0]; simp⟩)
    unfold Oper.wp execOp
    simp only [hop, hs, Option.map_some, hx, e]
    go_simp
    exact hK _ _ h'
  · by_cases hcp : cap = p
    · have h' := h (.slice (some ⟨g, off, none⟩) 0 0) (.inr ⟨g, off, 0, by simp; omega, by simp; omega, fun i x hx => by rw [List.getElem?_drop, List.getElem?_eq_none (by omega)] at hx; cases hx⟩)
      have hAp : A.length = p := by omega
      unfold Oper.wp execOp
      simp only [hop, hs, Option.map_some, hx, e]
      rw [hcp, hAp]
      clear hAp hcp
      go_simp
      exact hK _ _ h'
    · have h' := h _ (hd p (cap - p) hp (by omega))
      unfold Oper.wp execOp
      simp only [hop, hs, Option.map_some, hx, e]
      go_simp
      exact hK _ _ h'

end Go.Proofs.Ytgafmckiomhceab
