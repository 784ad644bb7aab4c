/- Apply, of any operation; what may be known of a coordinator after so many; a new one. -/
import Derived.Test.YtoihfhlelbdboabCoW
namespace Go.Proofs.Ytoihfhlelbdboab
open Go.RowKit Go.Dig Go.Inv Go.Oct Go.Hold
set_option linter.unusedVariables false
set_option linter.unusedSimpArgs false

/-- what may be known after n operations -/
structure Co.Inv (x : Co) (n : Nat) : Prop where
  ok : x.ps.length ≤ 8 ∧ ∀ p ∈ x.ps, 0 ≤ p.ep ∧ p.ep ≤ 100 ∧ PrOk x.now p
  rs : x.rs.length ≤ n
  ms : x.ms.length ≤ 8 * n
  now : 0 ≤ x.now ∧ x.now ≤ n
theorem Co.Inv.coOk {x : Co} {n : Nat} (h : x.Inv n) (hn : n ≤ 1000) : CoOk x := ⟨h.ok.1, h.ok.2, by have := h.now; omega⟩
theorem Co.inv_none : Co.none.Inv 0 := ⟨⟨by simp [Co.none], fun p hp => by cases hp⟩, by simp [Co.none], by simp [Co.none], by simp [Co.none]⟩
theorem prOk_add {p : Pr} {now : Int} (h : PrOk now p) (h0 : 0 ≤ now) (t r : Int) : PrOk now (p.add t r now).1 ∧ (p.add t r now).1.ep = p.ep := by
  unfold Pr.add
  cases ho : p.op with
  | some z =>
    obtain ⟨b, l⟩ := z
    dsimp only
    split
    · refine ⟨⟨?_, fun b' l' e => ?_⟩, rfl⟩
      · have := h.1; rw [ho] at this; simpa [Pr.opened] using this
      · simp [Pr.opened] at e
        obtain ⟨rfl, -⟩ := e
        exact h.2 b l ho
    · exact ⟨h, rfl⟩
  | none =>
    dsimp only
    split
    · exact ⟨h, rfl⟩
    · rename_i hl
      split
      · refine ⟨⟨?_, fun b' l' e => ?_⟩, rfl⟩
        · unfold Pr.last at hl
          rw [ho] at hl
          simp at hl
          simp [Pr.opened]; omega
        · simp [Pr.opened] at e
          obtain ⟨rfl, -⟩ := e
          exact ⟨h0, Int.le_refl _⟩
      · exact ⟨h, rfl⟩
theorem prOk_close {p : Pr} {now : Int} (h : PrOk now p) (ho : p.op.isSome = true) (k : Int) : PrOk now (p.close k) := by
  refine ⟨?_, fun b l e => by cases e⟩
  have := h.1
  rw [ho] at this
  simp at this
  simp [Pr.close]; omega
theorem prOk_fin {p : Pr} {now : Int} (h : PrOk now p) (i : Nat) (t : Int) (c : Bool) : PrOk now (p.fin i t c).1 ∧ (p.fin i t c).1.ep = p.ep ∧ (p.fin i t c).2.1.length ≤ 1 := by
  unfold Pr.fin
  split
  · rename_i hc
    exact ⟨prOk_close h hc.1 _, rfl, by simp⟩
  · split <;> exact ⟨h, rfl, by simp⟩
theorem PrOk.later {p : Pr} {now m : Int} (h : PrOk now p) (hm : now ≤ m) : PrOk m p := ⟨h.1, fun b l e => by have := h.2 b l e; omega⟩
theorem ageMs_length (now : Int) : ∀ (i : Nat) (ps : List Pr), (ageMs now i ps).length ≤ ps.length
  | _, [] => by simp [ageMs]
  | i, p :: r => by
    have h := ageMs_length now (i + 1) r
    have : (p.ageM i now).length ≤ 1 := by unfold Pr.ageM; split <;> simp
    simp [ageMs]; omega
theorem age_ep (p : Pr) (now : Int) : (p.age now).ep = p.ep := by unfold Pr.age; split <;> rfl
theorem coOk_set {ps : List Pr} {now : Int} (h : ps.length ≤ 8 ∧ ∀ p ∈ ps, 0 ≤ p.ep ∧ p.ep ≤ 100 ∧ PrOk now p) {i : Nat} {p' : Pr} (hp : 0 ≤ p'.ep ∧ p'.ep ≤ 100 ∧ PrOk now p') : (ps.set i p').length ≤ 8 ∧ ∀ p ∈ ps.set i p', 0 ≤ p.ep ∧ p.ep ≤ 100 ∧ PrOk now p := by
  refine ⟨by simpa using h.1, fun p hm => ?_⟩
  rcases List.mem_or_eq_of_mem_set hm with h1 | h1
  · exact h.2 p h1
  · rw [h1]; exact hp
/-- what an operation does keeps the bounds -/
theorem run_ok {x : Co} (o : OpF) (h : x.ps.length ≤ 8 ∧ ∀ p ∈ x.ps, 0 ≤ p.ep ∧ p.ep ≤ 100 ∧ PrOk x.now p) (h0 : 0 ≤ x.now) : (x.run o).2.1.length ≤ 8 ∧ ((x.run o).2.2.1.length ≤ 8 ∧ ∀ p ∈ (x.run o).2.2.1, 0 ≤ p.ep ∧ p.ep ≤ 100 ∧ PrOk (x.run o).2.2.2 p) ∧ x.now ≤ (x.run o).2.2.2 ∧ (x.run o).2.2.2 ≤ x.now + 1 := by
  unfold Co.run
  split
  · refine ⟨?_, ?_, by simp, by simp; omega⟩
    · dsimp only
      unfold Co.admit
      split
      · split
        · split
          · simp
          · rename_i p _ _
            have : ∀ i, (p.renewM i).length ≤ 1 := fun i => by unfold Pr.renewM; split <;> simp
            have := this (by assumption)
            simp; omega
        · simp
      · split <;> simp
    · dsimp only
      unfold Co.admit
      split
      · split
        · split
          · exact h
          · rename_i i _ p hp he
            obtain ⟨h1, h2, h3⟩ := h.2 p (List.mem_of_getElem? hp)
            exact coOk_set h ⟨by simp [Pr.renew]; omega, by simp [Pr.renew]; omega, by simp [Pr.renew], fun b l e => by cases e⟩
        · exact h
      · split
        · exact h
        · rename_i hl
          refine ⟨by simp; omega, fun p hp => ?_⟩
          rcases List.mem_append.1 hp with hp | hp
          · exact h.2 p hp
          · obtain rfl := List.mem_singleton.1 hp
            exact ⟨by simp [fresh], by simp [fresh], by simp [fresh], fun b l e => by cases e⟩
  · split
    · refine ⟨?_, ⟨by simpa using h.1, fun p hp => ?_⟩, by simp; omega, by simp⟩
      · have := ageMs_length (x.now + 1) 0 x.ps
        have := h.1
        dsimp only; omega
      · obtain ⟨p0, hp0, rfl⟩ := List.mem_map.1 hp
        obtain ⟨h1, h2, h3⟩ := h.2 p0 hp0
        rw [age_ep]
        exact ⟨h1, h2, (PrOk.later (m := x.now + 1) h3 (by omega)).age _⟩
    · split
      · exact ⟨by simp, h, by simp, by simp; omega⟩
      · rename_i i q hq
        have hqi : x.ps[i]? = some q := by
          unfold Co.at at hq
          split at hq
          · cases hz : x.ps[o.p.toNat]? with
            | none => rw [hz] at hq; cases hq
            | some z =>
              rw [hz] at hq
              simp at hq
              obtain ⟨rfl, rfl⟩ := hq
              exact hz
          · cases hq
        obtain ⟨h1, h2, h3⟩ := h.2 q (List.mem_of_getElem? hqi)
        split
        · exact ⟨by simp, h, by simp, by simp; omega⟩
        · split
          · obtain ⟨h4, h5⟩ := prOk_add h3 h0 o.t o.r
            exact ⟨by simp, coOk_set h ⟨by rw [h5]; exact h1, by rw [h5]; exact h2, h4⟩, by simp, by simp; omega⟩
          · obtain ⟨h4, h5, h6⟩ := prOk_fin h3 i o.t o.b
            exact ⟨by dsimp only; omega, coOk_set h ⟨by rw [h5]; exact h1, by rw [h5]; exact h2, h4⟩, by simp, by simp; omega⟩
theorem Co.Inv.apply {x : Co} {n : Nat} (h : x.Inv n) (ok : Bool) (o : OpF) : ((x.apply ok o).2.2).Inv (n + 1) := by
  unfold Co.apply
  split
  · split
    · exact ⟨h.ok, by have := h.rs; dsimp only; omega, by have := h.ms; dsimp only; omega, by have := h.now; dsimp only; omega⟩
    · obtain ⟨h1, h2, h3, h4⟩ := run_ok o h.ok h.now.1
      refine ⟨h2, ?_, ?_, ?_⟩
      · have := length_insL o.key (x.run o).1 x.rs
        have := h.rs
        dsimp only; omega
      · have := h.ms
        simp only [List.length_append]; omega
      · have := h.now
        dsimp only; omega
  · exact ⟨h.ok, by have := h.rs; dsimp only; omega, by have := h.ms; dsimp only; omega, by have := h.now; dsimp only; omega⟩
/-- other labels, the same of all that lies here -/
theorem PrC.relab {own own' : Own} {w : World} {i qb : Nat} {p : Pr} {ev : Value} {ov : Option Addr} (h : PrC own w i qb p ev ov) (ho : ∀ k l, own k = some l → l ≠ .tmp → own' k = some l) : PrC own' w i qb p ev ov := by
  refine ⟨h.blk, ho _ _ h.lab (fun e => by cases e), ⟨h.ends.1, fun k hk => ho _ _ (h.ends.2 k hk) (fun e => by cases e)⟩, ?_⟩
  have := h.op
  unfold OpAt at this ⊢
  cases hp : p.op with
  | none => rw [hp] at this; exact this
  | some z =>
    rw [hp] at this
    obtain ⟨ob, h1, h2, h3, h4⟩ := this
    exact ⟨ob, h1, ho _ _ h2 (fun e => by cases e), h3, h4⟩
theorem CoAt.relab {own own' : Own} {w : World} {cb : Nat} {x : Co} (h : CoAt own w cb x) (ho : ∀ k l, own k = some l → l ≠ .tmp → own' k = some l) (hw : Owned own' w) : CoAt own' w cb x := by
  obtain ⟨pb, rb, mv, q, h⟩ := h
  refine ⟨pb, rb, mv, q, hw, h.blk, ho _ _ h.lc (fun e => by cases e), ho _ _ h.lp (fun e => by cases e), ho _ _ h.lr (fun e => by cases e), h.tp, h.tr, h.ms, fun k hk => ho _ _ (h.lm k hk) (fun e => by cases e), h.len, fun i p hp => ?_⟩
  obtain ⟨b, h1, ev, ov, h2⟩ := h.pr i p hp
  exact ⟨b, h1, ev, ov, h2.relab ho⟩
/-- what Apply answers, as one uses it: the row of marks has no label -/
def ApR (own : Own) (w : World) (cb : Nat) (r : Rp.Rp3) (ms : List Mk) (x' : Co) (e : Ending) (w' : World) : Prop :=
  ∃ v own', e = .returned (.tuple #[.agg (rpC r), v]) ∧ OwnM w' w.heap.size v ms ∧ (∀ k, v.ownBlock = some k → own' k = none) ∧ CoAt own' w' cb x' ∧ Step AllP own own' w w'
theorem ApQ.free {own : Own} {w : World} {cb : Nat} {r : Rp.Rp3} {ms : List Mk} {x' : Co} {e : Ending} {w' : World} (h : ApQ own w cb r ms x' e w') : ApR own w cb r ms x' e w' := by
  obtain ⟨v, own2, h1, h2, h3, h4, h5⟩ := h
  have hn : Owned (fun k => if v.ownBlock = some k then none else own2 k) w' := fun k l hk => by
    dsimp only at hk
    split at hk
    · cases hk
    · exact h5.new k l hk
  refine ⟨v, fun k => if v.ownBlock = some k then none else own2 k, h1, h2, fun k hk => if_pos hk, h4.relab (fun k l hk hl => ?_) hn, h5.frm, fun k hk => ?_, hn, h5.non⟩
  · try dsimp only
    rw [if_neg (fun e => by have := h3 k e; rw [hk] at this; cases this; exact hl rfl)]
    exact hk
  · try dsimp only
    rw [if_neg (fun e => by have := (h2.lt k e).1; omega)]
    exact h5.old k hk
/-- Apply, of any operation -/
theorem apply_at (own : Own) (w : World) (cb : Nat) (x : Co) (n : Nat) (h : CoAt own w cb x) (o : OpF) (hin : o.Wide) (hi : x.Inv n) (hn : n ≤ 1000) :
    Calls Try.prog 7 #[.pointer (some ⟨cb, 0, none⟩), .agg o.cells] w (ApR own w cb (x.apply o.ok o).1 (x.apply o.ok o).2.1 (x.apply o.ok o).2.2) := by
  refine Calls.mono ?_ fun e w' h => ApQ.free h
  cases hb : o.ok
  · exact apply_bad own w cb x h o hin.n hb
  · have := run_ok o hi.ok hi.now.1
    exact apply_ok own w cb x h o (hin.small hb) hb (hi.coOk hn) (by have := hi.rs; omega) (by have := hi.ms; omega) (by omega)
/-- all labels lie from B on -/
def Over (B : Nat) (own : Own) : Prop := ∀ k l, own k = some l → B ≤ k
theorem Over.step {B : Nat} {P : Lab → Prop} {own own' : Own} {w w' : World} (h : Over B own) (hs : Step P own own' w w') (hB : B ≤ w.heap.size) : Over B own' := fun k l hk => by
  by_cases hlt : k < w.heap.size
  · rw [hs.old k hlt] at hk; exact h k l hk
  · omega
theorem Over.below {B : Nat} {P : Lab → Prop} {own own' : Own} {w w' : World} (h : Over B own) (hs : Step P own own' w w') (hB : B ≤ w.heap.size) : Below B w w' :=
  hs.frm.below hB fun k hk ⟨⟨l, h1, _⟩, _⟩ => by have := h k l h1; omega
end Go.Proofs.Ytoihfhlelbdboab
