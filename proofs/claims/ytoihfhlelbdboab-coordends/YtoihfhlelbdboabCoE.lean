/- A producer ends a transaction; begins a new epoch. -/
import Derived.Test.YtoihfhlelbdboabCoD
namespace Go.Proofs.Ytoihfhlelbdboab
open Go.RowKit Go.Dig Go.Inv Go.Hold
set_option linter.unusedVariables false
set_option linter.unusedSimpArgs false

theorem OwnM.one (w : World) (y : Mk) {base : Nat} (hb : base ≤ w.heap.size) : OwnM (w.alloc (.cells y.cells 65)) base (.slice (some ⟨w.heap.size, 0, none⟩) 1 1) [y] := by
  refine ⟨⟨rfl, .inr ⟨w.heap.size, 1, y.cells, rfl, hb, alloc_blk _ _, Nat.le_refl _, by unfold maxLen; omega, rfl, ?_⟩⟩, fun k hk j u hu => ?_⟩
  · simp [mkC, Mk.cells]
  · cases hk
    rw [cell_blk (alloc_blk _ _)] at hu
    have hm := Array.mem_of_getElem? hu
    exact mkC_int [y] u (by simpa [mkC] using hm)
theorem OwnI.at {w : World} {base g n c o : Nat} {L : List Int} (h : OwnI w base (.slice (some ⟨g, o, none⟩) n c) L) {j : Nat} (hj : j < L.length) : w.cell? ⟨g, j, none⟩ = some (.int .i64 (L.getD j 0)) := by
  have := h.cells.2 j (.int .i64 (L.getD j 0)) (by simp [intC, List.getD, hj])
  rwa [addr_add, Nat.zero_add] at this
/-- the calls that end: what they answer, and what of the producer has turned -/
def Fin (own : Own) (w : World) (i qb : Nat) (p : Pr) (ms : List Mk) (z : Int) (e : Ending) (w' : World) : Prop :=
  ∃ v, e = .returned (.tuple #[v, .int .i64 z]) ∧ OwnM w' w.heap.size v ms ∧ ∃ own', (∀ k, v.ownBlock = some k → own' k = some .tmp) ∧ PrAt own' w' i qb p ∧ Step (OfP i) own own' w w'
set_option maxRecDepth 10000 in
set_option maxHeartbeats 1000000 in
theorem fin_yes (own : Own) (w : World) (i qb : Nat) (p : Pr) (t : Int) (c : Bool) (h : PrAt own w i qb p) (ho : Owned own w) (hn : p.ends.length ≤ 1000) (hs : p.op.isSome = true) (ht : t = p.last) :
    Calls Try.prog 37 #[.pointer (some ⟨qb, 0, none⟩), .int .i64 t, .bool c] w (Fin own w i qb (p.close (kindC c)) [p.mark i (kindC c)] 0) := by
  obtain ⟨ev, ov, h⟩ := h
  have hv := h.op.isSome
  have c4 : w.cell? ⟨qb, 4, none⟩ = some (.pointer ov) := cell_blk h.blk 4
  have HP : Hid (PrC own w i qb p ev ov) := h
  obtain ⟨L, HL⟩ : ∃ L, Hid (p.last = L) := ⟨_, rfl⟩
  obtain rfl : t = L := ht.trans HL.out
  rw [hs] at hv
  obtain ⟨a, rfl⟩ := Option.isSome_iff_exists.1 hv
  clear h ht hs hv
  go_enter Try.func37, Try.ntmps37
  cases c
  all_goals
    go_wp2_with (first | (go_at_call 24; refine (last_at own _ i qb p ev _ HP.out hn).mono ?_; rintro e w' ⟨rfl, rfl⟩; rw [HL.out]) | (go_at_call 54; refine (decide_at own _ i qb p _ ⟨ev, _, HP.out⟩ ho hn).mono ?_; rintro e w1 ⟨rfl, own1, hp1, hs1⟩) | (refine wpList_rowM rfl _ rfl (p.mark i 3) ?_ ?_; rfl) | (refine wpList_rowM rfl _ rfl (p.mark i 2) ?_ ?_; rfl))
    have hst : ∀ P : Lab → Prop, ∀ o : Obj, Step P own1 (own1.put w1.heap.size .tmp) w1 (w1.alloc o) := fun P o => Step.alloc (below_alloc _ _) (Nat.le_refl _) (by simp) hs1.new
    refine bodyPost_ret (by simp [results, Try.results37, go_sem]) rfl ⟨_, rfl, OwnM.one w1 _ hs1.size, own1.put w1.heap.size .tmp, fun k hk => (by cases hk; exact Own.put_same _ _ _), hp1.step (hst (fun _ => False) _) hs1.new (fun h => h) (fun h => h) (fun h => h), hs1.trans (hst _ _)⟩
set_option maxRecDepth 10000 in
set_option maxHeartbeats 1000000 in
theorem fin_no (own : Own) (w : World) (i qb : Nat) (p : Pr) (t : Int) (c : Bool) (h : PrAt own w i qb p) (ho : Owned own w) (hn : p.ends.length ≤ 1000) (hs : ¬ (p.op.isSome = true ∧ t = p.last)) :
    Calls Try.prog 37 #[.pointer (some ⟨qb, 0, none⟩), .int .i64 t, .bool c] w fun e w' => w' = w ∧ e = .returned (.tuple #[.slice none 0 0, .int .i64 (if 1 ≤ t ∧ t ≤ (p.ends.length : Int) ∧ p.ends.getD (t.toNat - 1) 0 = kindC c then 0 else 6)]) := by
  obtain ⟨ev, ov, h⟩ := h
  have hv := h.op.isSome
  rw [← hv] at hs
  obtain ⟨ao, cap, rfl⟩ := h.ends.1.form
  have c3 : w.cell? ⟨qb, 3, none⟩ = some (.slice ao p.ends.length cap) := cell_blk h.blk 3
  have c4 : w.cell? ⟨qb, 4, none⟩ = some (.pointer ov) := cell_blk h.blk 4
  have HP : Hid (PrC own w i qb p (.slice ao p.ends.length cap) ov) := h
  have hl0 : 0 ≤ p.last := by unfold Pr.last; split <;> omega
  obtain ⟨L, HL⟩ : ∃ L, Hid (p.last = L) := ⟨_, rfl⟩
  rw [HL.out] at hs hl0
  obtain ⟨D, HD⟩ : ∃ D, Hid (p.ends.getD (t.toNat - 1) 0 = D) := ⟨_, rfl⟩
  rw [HD.out]
  obtain ⟨z, HZ⟩ : ∃ z, Hid ((if 1 ≤ t ∧ t ≤ (p.ends.length : Int) ∧ D = kindC c then (0 : Int) else 6) = z) := ⟨_, rfl⟩
  rw [HZ.out]
  clear h hv
  go_enter Try.func37, Try.ntmps37
  have hov : ov = none ∨ (∃ a, ov = some a) ∧ (t == L) = false := by
    cases ov with
    | none => exact .inl rfl
    | some a => exact .inr ⟨⟨a, rfl⟩, by simpa using hs⟩
  clear hs
  by_cases h1 : 1 ≤ t
  · by_cases h2 : t ≤ (p.ends.length : Int)
    · obtain ⟨m, rfl⟩ : ∃ m : Nat, t = (m : Int) + 1 := ⟨(t - 1).toNat, by omega⟩
      have hm : m < p.ends.length := by omega
      have hmt : ((m : Int) + 1).toNat - 1 = m := by omega
      rw [hmt] at HD
      have hx : ∃ g, ao = some ⟨g, 0, none⟩ := by
        rcases HP.out.ends.1.1.2 with ⟨e, e0⟩ | ⟨g, _, _, e, _⟩
        · omega
        · cases e; exact ⟨g, rfl⟩
      obtain ⟨g, rfl⟩ := hx
      have kx : w.cell? ⟨g, m, none⟩ = some (.int .i64 D) := by rw [← HD.out]; exact HP.out.ends.1.at hm
      have hsub : (m : Int) + 1 - 1 = m := by omega
      rcases hov with rfl | ⟨⟨a, rfl⟩, hb⟩ <;> cases c
      all_goals
        go_wp2_with (first | (go_at_call 24; refine (last_at own _ i qb p _ _ HP.out hn).mono ?_; rintro e w' ⟨rfl, rfl⟩; rw [HL.out]))
      all_goals first
        | (refine bodyPost_ret (v := .tuple #[.slice none 0 0, .int .i64 0]) (by simp [results, Try.results37, go_sem]) rfl ⟨rfl, ?_⟩; rw [← HZ.out]; simp_all [kindC] <;> (intros; omega))
        | (refine bodyPost_ret (v := .tuple #[.slice none 0 0, .int .i64 6]) (by simp [results, Try.results37, go_sem]) rfl ⟨rfl, ?_⟩; rw [← HZ.out]; simp_all [kindC] <;> (intros; omega))
    · have hd : decide (t ≤ (p.ends.length : Int)) = false := by simpa using h2
      rcases hov with rfl | ⟨⟨a, rfl⟩, hb⟩ <;> cases c
      all_goals
        go_wp2_with (first | (go_at_call 24; refine (last_at own _ i qb p _ _ HP.out hn).mono ?_; rintro e w' ⟨rfl, rfl⟩; rw [HL.out]))
      all_goals first
        | (refine bodyPost_ret (v := .tuple #[.slice none 0 0, .int .i64 0]) (by simp [results, Try.results37, go_sem]) rfl ⟨rfl, ?_⟩; rw [← HZ.out]; simp_all [kindC] <;> (intros; omega))
        | (refine bodyPost_ret (v := .tuple #[.slice none 0 0, .int .i64 6]) (by simp [results, Try.results37, go_sem]) rfl ⟨rfl, ?_⟩; rw [← HZ.out]; simp_all [kindC] <;> (intros; omega))
  · have hd : decide (1 ≤ t) = false := by simpa using h1
    rcases hov with rfl | ⟨⟨a, rfl⟩, hb⟩ <;> cases c
    all_goals
      go_wp2_with (first | (go_at_call 24; refine (last_at own _ i qb p _ _ HP.out hn).mono ?_; rintro e w' ⟨rfl, rfl⟩; rw [HL.out]))
    all_goals first
      | (refine bodyPost_ret (v := .tuple #[.slice none 0 0, .int .i64 0]) (by simp [results, Try.results37, go_sem]) rfl ⟨rfl, ?_⟩; rw [← HZ.out]; simp_all [kindC] <;> (intros; omega))
      | (refine bodyPost_ret (v := .tuple #[.slice none 0 0, .int .i64 6]) (by simp [results, Try.results37, go_sem]) rfl ⟨rfl, ?_⟩; rw [← HZ.out]; simp_all [kindC] <;> (intros; omega))
/-- an ending is asked -/
theorem fin_at (own : Own) (w : World) (i qb : Nat) (p : Pr) (t : Int) (c : Bool) (h : PrAt own w i qb p) (ho : Owned own w) (hn : p.ends.length ≤ 1000) :
    Calls Try.prog 37 #[.pointer (some ⟨qb, 0, none⟩), .int .i64 t, .bool c] w (Fin own w i qb (p.fin i t c).1 (p.fin i t c).2.1 (p.fin i t c).2.2) := by
  by_cases hs : p.op.isSome = true ∧ t = p.last
  · have e : p.fin i t c = (p.close (kindC c), [p.mark i (kindC c)], 0) := by unfold Pr.fin; rw [if_pos hs]
    rw [e]
    exact fin_yes own w i qb p t c h ho hn hs.1 hs.2
  · have e : p.fin i t c = (p, [], if 1 ≤ t ∧ t ≤ (p.ends.length : Int) ∧ p.ends.getD (t.toNat - 1) 0 = kindC c then 0 else 6) := by
      unfold Pr.fin
      rw [if_neg hs]
      split <;> rfl
    rw [e]
    refine (fin_no own w i qb p t c h ho hn hs).mono ?_
    rintro e w' ⟨rfl, rfl⟩
    exact ⟨_, rfl, OwnM.nil _ _, own, fun k hk => (by cases hk), h, Step.refl ho⟩
/-- the epoch is one more, of this one nothing has ended -/
theorem renew_set {own : Own} {w : World} {i qb : Nat} {p : Pr} {nm : ByteArray} {ep : Int} {L : List Int} {ev : Value} (h : PrC own w i qb ⟨nm, ep, L, none⟩ ev none) (ho : Owned own w) :
    PrAt own ((w.setCell ⟨qb, 2, none⟩ (.int .i64 (ep + 1))).setCell ⟨qb, 3, none⟩ (.slice none 0 0)) i qb ⟨nm, ep + 1, [], none⟩ ∧ Step (OfP i) own own w ((w.setCell ⟨qb, 2, none⟩ (.int .i64 (ep + 1))).setCell ⟨qb, 3, none⟩ (.slice none 0 0)) :=
  ⟨⟨.slice none 0 0, none, set_blk (set_blk h.blk 2 (.int .i64 (ep + 1))) 3 (.slice none 0 0), h.lab, ⟨OwnI.nil _ _, fun k hk => by cases hk⟩, rfl⟩,
    Step.one ((Frm.setCell _ _ _ _).trans (Frm.setCell _ _ _ _)) h.lab (.inl rfl) h.low ho h.blk⟩
set_option maxRecDepth 10000 in
set_option maxHeartbeats 1000000 in
theorem renew_at (own : Own) (w : World) (i qb : Nat) (p : Pr) (h : PrAt own w i qb p) (ho : Owned own w) (hn : p.ends.length ≤ 1000) (he : 0 ≤ p.ep ∧ p.ep ≤ 1000) :
    Calls Try.prog 52 #[.pointer (some ⟨qb, 0, none⟩)] w fun e w' => ∃ v, e = .returned v ∧ OwnM w' w.heap.size v (p.renewM i) ∧ ∃ own', (∀ k, v.ownBlock = some k → own' k = some .tmp) ∧ PrAt own' w' i qb p.renew ∧ Step (OfP i) own own' w w' := by
  have HH : Hid (PrAt own w i qb p) := h
  obtain ⟨ev, ov, h⟩ := h
  have hv := h.op.isSome
  have c4 : w.cell? ⟨qb, 4, none⟩ = some (.pointer ov) := cell_blk h.blk 4
  have HP : Hid (PrC own w i qb p ev ov) := h
  clear h
  go_enter Try.func52, Try.ntmps52
  cases ov with
  | none =>
    have hm : p.renewM i = [] := by unfold Pr.renewM; rw [← hv]; rfl
    have hop : p.op = none := by cases ho : p.op with | none => rfl | some x => rw [ho] at hv; cases hv
    rw [hm]
    have HR : Hid _ := renew_set (p := p) (ep := p.ep) (nm := p.nm) (L := p.ends) (ev := ev) ⟨HP.out.blk, HP.out.lab, HP.out.ends, rfl⟩ ho
    obtain ⟨ao, cap, rfl⟩ := HP.out.ends.1.form
    have c2 : w.cell? ⟨qb, 2, none⟩ = some (.int .i64 p.ep) := cell_blk HP.out.blk 2
    have c3 : w.cell? ⟨qb, 3, none⟩ = some (.slice ao p.ends.length cap) := cell_blk HP.out.blk 3
    have f2 := frozen_blk HP.out.blk 2
    have f3 := frozen_blk HP.out.blk 3
    clear hv hm hop
    go_wp2_with fail
    refine bodyPost_ret (v := .slice none 0 0) (by simp [results, Try.results52, go_sem]) rfl ⟨_, rfl, OwnM.nil _ _, own, fun k hk => (by cases hk), HR.out⟩
  | some a =>
    have hm : p.renewM i = [p.mark i 3] := by unfold Pr.renewM; rw [← hv]; rfl
    rw [hm]
    clear hv hm
    go_wp2_with (first | (go_at_call 54; refine (decide_at own _ i qb p _ HH.out ho hn).mono ?_; rintro e w1 ⟨rfl, own1, hp1, hs1⟩) | (refine wpList_rowM rfl _ rfl (p.mark i 3) ?_ ?_; rfl) | (refine wpList_appM1 rfl _ _ rfl w.heap.size (.slice none 0 0) [] ?_ w1.heap.size (p.mark i 3) ?_ (OwnM.nil _ _) 65 (alloc_blk _ _) (by simp) (by have := hs1.size; simp; omega) ?_; rfl; rfl))
    intro v' w3 hO3 hG3
    obtain ⟨ev1, ov1, h1⟩ := hp1
    have hov : ov1 = none := h1.op
    subst hov
    have hBa := below_alloc w1 (.cells (p.mark i 3).cells 65)
    have hBb : Below w1.heap.size w1 w3 := hBa.trans (hG3.below (by simp) (fun k hk => by cases hk))
    have h2 := h1.below hBa hs1.new
    have hsg : ∀ P : Lab → Prop, Step P own1 (own1.row v' .tmp) (w1.alloc (.cells (p.mark i 3).cells 65)) w3 := fun P => Step.gr' hG3 (fun k hk => (hO3.lt k hk).2) (hs1.new.mono hBa.size)
    have h3 := h2.step (hsg (fun _ => False)) (hs1.new.mono hBa.size) (fun h => h) (fun h => h) (fun h => h)
    obtain ⟨ao, cap, rfl⟩ := h3.ends.1.form
    have HR : Hid _ := renew_set (p := p) (ep := p.ep) (nm := p.nm) (L := p.ends ++ [3]) h3 (hsg (fun _ => False)).new
    have hs3 : Step (OfP i) own (own1.row v' .tmp) w w3 := (hs1.trans (Step.of_below hBa hs1.new)).trans (hsg _)
    have c2 : w3.cell? ⟨qb, 2, none⟩ = some (.int .i64 p.ep) := cell_blk h3.blk 2
    have c3 : w3.cell? ⟨qb, 3, none⟩ = some (.slice ao (p.ends ++ [3]).length cap) := cell_blk h3.blk 3
    have f2 := frozen_blk h3.blk 2
    have f3 := frozen_blk h3.blk 3
    have HO3 : Hid (OwnM w3 w.heap.size v' [p.mark i 3]) := hO3
    have HS3 : Hid (Step (OfP i) own (own1.row v' .tmp) w w3) := hs3
    have hqw : qb < w.heap.size := lt_blk HP.out.blk
    obtain ⟨a3, p3, rfl⟩ := hO3.form
    clear hO3 hG3 hBa hBb h3 h2 h1 hs1 hs3 hsg HP c4 HH
    go_wp2_with fail
    refine bodyPost_ret (by simp [results, Try.results52, go_sem]) rfl ⟨_, rfl, HO3.out.same fun b hb => ?_, own1.row _ .tmp, fun k hk => Own.row_yes hk, HR.out.1, HS3.out.trans HR.out.2⟩
    have hb2 := (HO3.out.lt b hb).1
    exact (set_blk_other _ _ (by omega)).trans (set_blk_other _ _ (by omega))
end Go.Proofs.Ytoihfhlelbdboab
