/- The tick: what has been open for too long is aborted. -/
import Derived.Test.YtoihfhlelbdboabCoI
namespace Go.Proofs.Ytoihfhlelbdboab
open Go.RowKit Go.Dig Go.Inv Go.Oct Go.Hold
attribute [local go_sem] Oper.semAt_some
set_option linter.unusedVariables false
set_option linter.unusedSimpArgs false

/-- what non-cells do to it: nothing -/
theorem OwnI.turn {A B : World} {row : Option Nat} {base : Nat} {v : Value} {L : List Int} (h : OwnI A base v L) (hg : A.grownBy B row) (hr : ∀ r, row = some r → ∃ o : Obj, A.heap[r]? = some o ∧ o.isCells = false) : OwnI B base v L := h.same fun k hk => by
  rcases h.1.2 with ⟨rfl, _⟩ | ⟨g, cap, cur, rfl, _, hgg, _⟩
  · cases hk
  · cases hk; exact (blk_turn hgg hg hr).trans hgg.symm
theorem OwnM.turn {A B : World} {row : Option Nat} {base : Nat} {v : Value} {L : List Mk} (h : OwnM A base v L) (hg : A.grownBy B row) (hr : ∀ r, row = some r → ∃ o : Obj, A.heap[r]? = some o ∧ o.isCells = false) : OwnM B base v L := h.same fun k hk => by
  rcases h.1.2 with ⟨rfl, _⟩ | ⟨g, cap, cur, rfl, _, hgg, _⟩
  · cases hk
  · cases hk; exact (blk_turn hgg hg hr).trans hgg.symm
theorem OpAt.turn {own : Own} {A B : World} {row : Option Nat} {i : Nat} {v : Option Addr} (hg : A.grownBy B row) (hr : ∀ r, row = some r → ∃ o : Obj, A.heap[r]? = some o ∧ o.isCells = false) : ∀ {op : Option (Int × List Bool)}, OpAt own A i v op → OpAt own B i v op
  | none, h => h
  | some (b, l), ⟨ob, h1, h2, h3, h4⟩ => ⟨ob, h1, h2, h3, blk_turn h4 hg hr⟩
theorem CoS.turn {own : Own} {A B : World} {row : Option Nat} {cb : Nat} {x : Co} {pb rb : Nat} {mv : Value} {q : List Nat} (h : CoS own A cb x pb rb mv q) (hg : A.grownBy B row) (hr : ∀ r, row = some r → ∃ o : Obj, A.heap[r]? = some o ∧ o.isCells = false) : CoS own B cb x pb rb mv q := by
  have hF : Frm (fun k => ∃ o : Obj, A.heap[k]? = some o ∧ o.isCells = false) A B := ⟨hg.os, hg.tape, hg.output, hg.size, fun k hk hn => hg.block k hk fun e => hn (hr k e.symm)⟩
  have hnc : ∀ k, (∃ o : Obj, A.heap[k]? = some o ∧ o.isCells = false) → ∀ i v, A.cell? ⟨k, i, none⟩ ≠ some v := fun k ⟨o, h1, h2⟩ i v e => by
    cases o <;> simp_all [World.cell?, Obj.isCells]
  have hno : ∀ (k : Nat) (c : Array Value) (t : TypeId) (fr : Nat × Nat), A.heap[k]? = some (Obj.cells c t fr) → ¬ ∃ o : Obj, A.heap[k]? = some o ∧ o.isCells = false := fun k c t fr h1 hx => by
    obtain ⟨o, h2, h3⟩ := hx
    rw [h1] at h2; cases h2; cases h3
  refine ⟨h.owned.mono hg.size, blk_turn h.blk hg hr, h.lc, h.lp, h.lr, ?_, ?_, h.ms.turn hg hr, h.lm, h.len, fun i p hp => ?_⟩
  · obtain ⟨p, hb⟩ := pp_cell h.tp
    exact h.tp.frmL hF (hno _ _ _ _ hb) fun k hk z => hnc k hk _ _
  · obtain ⟨p, hb⟩ := rp_cell h.tr
    exact h.tr.frmL hF (hno _ _ _ _ hb) fun k hk z => hnc k hk _ _
  · obtain ⟨b, h1, ev, ov, h2⟩ := h.pr i p hp
    exact ⟨b, h1, ev, ov, blk_turn h2.blk hg hr, h2.lab, ⟨h2.ends.1.turn hg hr, h2.ends.2⟩, h2.op.turn hg hr⟩
/-- one producer of it has become another one -/
theorem CoS.prod {own own' : Own} {w w' : World} {cb : Nat} {x : Co} {pb rb : Nat} {mv : Value} {q : List Nat} {i qb : Nat} {p' : Pr} (h : CoS own w cb x pb rb mv q) (hs : Step (OfP i) own own' w w') (hq : q[i]? = some qb) (hp : PrAt own' w' i qb p') :
    CoS own' w' cb ⟨x.ps.set i p', x.rs, x.ms, x.now⟩ pb rb mv q := by
  have no : ∀ l, (∀ j, l ≠ .prod j) → (∀ j, l ≠ .ends j) → (∀ j, l ≠ .opn j) → ¬ OfP i l := fun l h1 h2 h3 h => by
    rcases h with h | h | h
    · exact h1 i h
    · exact h2 i h
    · exact h3 i h
  have nco : ¬ OfP i .co := no _ (fun _ e => by cases e) (fun _ e => by cases e) (fun _ e => by cases e)
  have ntp : ¬ OfP i .tp := no _ (fun _ e => by cases e) (fun _ e => by cases e) (fun _ e => by cases e)
  have ntr : ¬ OfP i .tr := no _ (fun _ e => by cases e) (fun _ e => by cases e) (fun _ e => by cases e)
  have nms : ¬ OfP i .ms := no _ (fun _ e => by cases e) (fun _ e => by cases e) (fun _ e => by cases e)
  refine ⟨hs.new, (hs.block (lt_blk h.blk) fun l e => by rw [h.lc] at e; cases e; exact nco).trans h.blk, (hs.old _ (lt_blk h.blk)).trans h.lc, (hs.old _ h.tp.lt).trans h.lp, (hs.old _ h.tr.lt).trans h.lr, pp_step h.tp hs h.lp ntp, rp_step h.tr hs h.lr ntr,
   h.ms.same fun k hk => hs.block (h.ms.lt k hk).2 fun l e => by rw [h.lm k hk] at e; cases e; exact nms, fun k hk => (hs.old k (h.ms.lt k hk).2).trans (h.lm k hk), by rw [List.length_set]; exact h.len, fun j p hj => ?_⟩
  by_cases hji : j = i
  · subst hji
    rw [List.getElem?_set] at hj
    simp at hj
    exact ⟨qb, hq, hj.2 ▸ hp⟩
  · rw [List.getElem?_set_ne (fun e => hji e.symm)] at hj
    obtain ⟨b, h1, h2⟩ := h.pr j p hj
    refine ⟨b, h1, h2.step hs h.owned ?_ ?_ ?_⟩
    · rintro (e | e | e) <;> cases e; exact hji rfl
    · rintro (e | e | e) <;> cases e; exact hji rfl
    · rintro (e | e | e) <;> cases e; exact hji rfl
/-- its own block, and its marks, have turned -/
theorem CoS.coord {own own' : Own} {w w' : World} {cb : Nat} {x : Co} {pb rb : Nat} {mv mv' : Value} {q : List Nat} {ms' : List Mk} {now' : Int} (h : CoS own w cb x pb rb mv q) (hs : Step (fun l => l = .co ∨ l = .ms) own own' w w')
    (hb : w'.heap[cb]? = some (.cells #[.pointer (some ⟨pb, 0, none⟩), .pointer (some ⟨rb, 0, none⟩), mv', .int .i64 now'] 51 (0, 0))) (hm : OwnM w' 0 mv' ms') (hl : ∀ k, mv'.ownBlock = some k → own' k = some .ms) :
    CoS own' w' cb ⟨x.ps, x.rs, ms', now'⟩ pb rb mv' q := by
  have n1 : ∀ l : Lab, l ≠ .co → l ≠ .ms → ¬ (l = .co ∨ l = .ms) := fun l h1 h2 h3 => h3.elim h1 h2
  refine ⟨hs.new, hb, (hs.old _ (lt_blk h.blk)).trans h.lc, (hs.old _ h.tp.lt).trans h.lp, (hs.old _ h.tr.lt).trans h.lr, pp_step h.tp hs h.lp (n1 _ (fun e => by cases e) (fun e => by cases e)), rp_step h.tr hs h.lr (n1 _ (fun e => by cases e) (fun e => by cases e)), hm, hl, h.len, fun i p hp => ?_⟩
  obtain ⟨b, h1, h2⟩ := h.pr i p hp
  exact ⟨b, h1, h2.step hs h.owned (n1 _ (fun e => by cases e) (fun e => by cases e)) (n1 _ (fun e => by cases e) (fun e => by cases e)) (n1 _ (fun e => by cases e) (fun e => by cases e))⟩
theorem CoS.setNow {own : Own} {w : World} {cb : Nat} {x : Co} {pb rb : Nat} {mv : Value} {q : List Nat} (h : CoS own w cb x pb rb mv q) (z : Int) :
    CoS own (w.setCell ⟨cb, 3, none⟩ (.int .i64 z)) cb ⟨x.ps, x.rs, x.ms, z⟩ pb rb mv q ∧ Step (· = .co) own own w (w.setCell ⟨cb, 3, none⟩ (.int .i64 z)) := by
  have hs : Step (· = .co) own own w (w.setCell ⟨cb, 3, none⟩ (.int .i64 z)) := Step.one (Frm.setCell _ _ _ _) h.lc rfl h.low h.owned h.blk
  refine ⟨h.coord (hs.mono fun l e => .inl e) (set_blk h.blk 3 (.int .i64 z)) (h.ms.same fun k hk => set_blk_other _ _ fun e => ?_) h.lm, hs⟩
  have := h.lm k hk
  rw [e, h.lc] at this; cases this
theorem set_same_of {α : Type} {l : List α} {i : Nat} {a : α} (h : l[i]? = some a) : l.set i a = l := by
  apply List.ext_getElem?
  intro j
  by_cases hj : i = j
  · subst hj
    rw [List.getElem?_set_self (List.getElem?_eq_some_iff.1 h).1, h]
  · rw [List.getElem?_set_ne hj]
/-- the producer i ages -/
def agedAt (now : Int) (s : List Pr × List Mk) (i : Nat) : List Pr × List Mk := match s.1[i]? with | some p => (s.1.set i (p.age now), s.2 ++ p.ageM i now) | .none => s
def aged (now : Int) (ps : List Pr) (l : List Nat) : List Pr × List Mk := l.foldl (agedAt now) (ps, [])
theorem aged_snoc (now : Int) (ps : List Pr) (l : List Nat) (i : Nat) : aged now ps (l ++ [i]) = agedAt now (aged now ps l) i := by unfold aged; rw [List.foldl_append]; rfl
theorem aged_rest (now : Int) : ∀ (B A : List Pr) (ms : List Mk), (List.range' A.length B.length).foldl (agedAt now) (A ++ B, ms) = (A ++ B.map (·.age now), ms ++ ageMs now A.length B)
  | [], A, ms => by simp [ageMs]
  | p :: r, A, ms => by
    have e : agedAt now (A ++ p :: r, ms) A.length = ((A ++ [p.age now]) ++ r, ms ++ p.ageM A.length now) := by
      unfold agedAt
      simp
    have h := aged_rest now r (A ++ [p.age now]) (ms ++ p.ageM A.length now)
    simp only [List.length_append, List.length_cons, List.length_nil] at h
    simp only [List.length_cons, List.range'_succ, List.foldl_cons]
    rw [e]
    have e2 : A.length + (0 + 1) = A.length + 1 := by omega
    rw [e2] at h
    rw [h]
    simp [ageMs]
theorem aged_all (now : Int) (ps : List Pr) : aged now ps (List.range ps.length) = (ps.map (·.age now), ageMs now 0 ps) := by
  have h := aged_rest now ps [] []
  simp only [List.length_nil, List.nil_append] at h
  unfold aged
  rw [List.range_eq_range', h]
def PrOk (now : Int) (p : Pr) : Prop := p.ends.length + (if p.op.isSome then 1 else 0) ≤ 100 ∧ ∀ b l, p.op = some (b, l) → 0 ≤ b ∧ b ≤ now
theorem PrOk.age {now : Int} {p : Pr} (h : PrOk now p) (m : Int) : PrOk now (p.age m) := by
  unfold Pr.age
  split
  · rename_i hd
    refine ⟨?_, fun b l e => by cases e⟩
    have h1 := h.1
    cases ho : p.op with
    | none => unfold Pr.due at hd; rw [ho] at hd; cases hd
    | some x => rw [ho] at h1; simp at h1; simp [Pr.close]; omega
  · exact h
theorem aged_okF {now : Int} (m : Int) : ∀ (l : List Nat) (s : List Pr × List Mk), (∀ p ∈ s.1, PrOk now p) → (∀ p ∈ (l.foldl (agedAt m) s).1, PrOk now p) ∧ (l.foldl (agedAt m) s).1.length = s.1.length ∧ (l.foldl (agedAt m) s).2.length ≤ s.2.length + l.length
  | [], s, h => ⟨h, rfl, by simp⟩
  | i :: l, s, h => by
    have key : (∀ p ∈ (agedAt m s i).1, PrOk now p) ∧ (agedAt m s i).1.length = s.1.length ∧ (agedAt m s i).2.length ≤ s.2.length + 1 := by
      unfold agedAt
      cases hp : s.1[i]? with
      | none => exact ⟨h, rfl, by simp⟩
      | some p =>
        refine ⟨fun p' hp' => ?_, by simp, ?_⟩
        · rcases List.mem_or_eq_of_mem_set hp' with h4 | h4
          · exact h p' h4
          · rw [h4]; exact (h p (List.mem_of_getElem? hp)).age m
        · have : (p.ageM i m).length ≤ 1 := by unfold Pr.ageM; split <;> simp
          simp; omega
    obtain ⟨h1, h2, h3⟩ := aged_okF m l (agedAt m s i) key.1
    exact ⟨h1, h2.trans key.2.1, by simp only [List.foldl_cons, List.length_cons]; omega⟩
theorem aged_ok {now : Int} {ps : List Pr} (h : ∀ p ∈ ps, PrOk now p) (m : Int) (l : List Nat) : (∀ p ∈ (aged m ps l).1, PrOk now p) ∧ (aged m ps l).1.length = ps.length ∧ (aged m ps l).2.length ≤ l.length := by
  have := aged_okF (now := now) m l (ps, []) h
  simpa [aged] using this
def idxs {q : List Nat} (pre : List { x : Int × Option Addr // Ent q x }) : List Nat := pre.map fun e => e.1.1.toNat
def TkP (l : Lab) : Prop := l = .co ∨ l = .tmp ∨ ∃ i, OfP i l
/-- what holds between two of those told -/
structure TkI (w W0 : World) (own0 : Own) (cb : Nat) (x : Co) (pb rb : Nat) (mv : Value) (q : List Nat) (now1 : Int) (pre : List { x : Int × Option Addr // Ent q x }) (W : World) (own' : Own) (u : Value) : Prop where
  co : CoS own' W cb ⟨(aged now1 x.ps (idxs pre)).1, x.rs, x.ms, now1⟩ pb rb mv q
  step : Step TkP own0 own' W0 W
  kept : Pp.Kept (fun b => b < W0.heap.size ∧ ∃ z, W0.cell? ⟨b, 3, none⟩ = some (.pointer z)) W0 W
  box : Boxed W (w.heap.size + 1) 28 u
  lab : own' (w.heap.size + 1) = some .tmp
  own : OwnM W w.heap.size u (aged now1 x.ps (idxs pre)).2
  labs : ∀ k, u.ownBlock = some k → own' k = some .tmp
def TkJ (w W0 : World) (own0 : Own) (cb : Nat) (x : Co) (pb rb : Nat) (mv : Value) (q : List Nat) (now1 : Int) (pre : List { x : Int × Option Addr // Ent q x }) (W : World) : Prop := ∃ own' u, TkI w W0 own0 cb x pb rb mv q now1 pre W own' u
theorem TkJ.own {w W0 : World} {own0 : Own} {cb : Nat} {x : Co} {pb rb : Nat} {mv : Value} {q : List Nat} {now1 : Int} : OwnFrom W0.heap.size (TkJ w W0 own0 cb x pb rb mv q now1) := fun pre A B row hs hg hr => by
  obtain ⟨own', u, h⟩ := hs
  have hr' : ∀ r, row = some r → ∃ o : Obj, A.heap[r]? = some o ∧ o.isCells = false := fun r e => (hr r e).2
  have hB : Below W0.heap.size A B := ⟨hg.os, hg.tape, hg.output, hg.size, fun k hk => hg.block k (Nat.lt_of_lt_of_le hk h.step.size) (fun e => by have := (hr k e.symm).1; omega)⟩
  exact ⟨own', u, h.co.turn hg hr', h.step.tail hB, fun b hb => (hB.block b hb.1).trans (h.kept b hb), blk_turn h.box hg hr', h.lab, h.own.turn hg hr', h.labs⟩
/-- while one is aborted -/
structure TkG (w W : World) (own' : Own) (cb : Nat) (x : Co) (pb rb : Nat) (mv : Value) (q : List Nat) (now1 : Int) (ps : List Pr) (WW : World) (own2 : Own) (u r : Value) (ms : List Mk) : Prop where
  co : CoS own2 WW cb ⟨ps, x.rs, x.ms, now1⟩ pb rb mv q
  step : Step TkP own' own2 W WW
  box : Boxed WW (w.heap.size + 1) 28 u
  lab : own2 (w.heap.size + 1) = some .tmp
  own : OwnM WW w.heap.size r ms
  labs : ∀ k, r.ownBlock = some k → own2 k = some .tmp
theorem TkG.below {w W : World} {own' : Own} {cb : Nat} {x : Co} {pb rb : Nat} {mv : Value} {q : List Nat} {now1 : Int} {ps : List Pr} {WW W4 : World} {own2 : Own} {u r : Value} {ms : List Mk} (h : TkG w W own' cb x pb rb mv q now1 ps WW own2 u r ms) (hB : Below WW.heap.size WW W4) : TkG w W own' cb x pb rb mv q now1 ps W4 own2 u r ms :=
  ⟨h.co.below hB, h.step.trans (Step.of_below hB h.co.owned), h.box.grow hB, h.lab, h.own.below hB, h.labs⟩
theorem CoS.stepT {own own' : Own} {w w' : World} {cb : Nat} {x : Co} {pb rb : Nat} {mv : Value} {q : List Nat} (h : CoS own w cb x pb rb mv q) (hs : Step (· = .tmp) own own' w w') : CoS own' w' cb x pb rb mv q := by
  have n1 : ∀ l : Lab, l ≠ .tmp → ¬ (l = .tmp) := fun l h => h
  refine ⟨hs.new, (hs.block (lt_blk h.blk) fun l e => ?_).trans h.blk, (hs.old _ (lt_blk h.blk)).trans h.lc, (hs.old _ h.tp.lt).trans h.lp, (hs.old _ h.tr.lt).trans h.lr, pp_step h.tp hs h.lp (fun e => by cases e), rp_step h.tr hs h.lr (fun e => by cases e),
   h.ms.same fun k hk => hs.block (h.ms.lt k hk).2 fun l e => ?_, fun k hk => (hs.old k (h.ms.lt k hk).2).trans (h.lm k hk), h.len, fun i p hp => ?_⟩
  · rw [h.lc] at e; cases e; exact fun e => by cases e
  · rw [h.lm k hk] at e; cases e; exact fun e => by cases e
  · obtain ⟨b, h1, h2⟩ := h.pr i p hp
    exact ⟨b, h1, h2.step hs h.owned (fun e => by cases e) (fun e => by cases e) (fun e => by cases e)⟩
theorem OwnM.ne_box {w : World} {base tb : Nat} {r u : Value} {L : List Mk} (h : OwnM w base r L) (hb : Boxed w tb 28 u) {k : Nat} (hk : r.ownBlock = some k) : k ≠ tb := fun e => by
  subst e
  rcases h.1.2 with ⟨rfl, _⟩ | ⟨g, cap, cur, rfl, _, hgg, _⟩
  · cases hk
  · cases hk
    rw [show w.heap[g]? = _ from hb] at hgg
    injection hgg with h1
    injection h1 with _ h1
    exact absurd h1 (by decide)
section
variable {w W : World} {own' : Own} {cb : Nat} {x : Co} {pb rb : Nat} {mv : Value} {q : List Nat} {now1 : Int} {ps : List Pr} {WW W5 : World} {own2 own3 : Own} {u r v' : Value} {ms ms' : List Mk}
theorem TkG.decided {i b : Nat} {p' : Pr} (h : TkG w W own' cb x pb rb mv q now1 ps WW own2 u r ms) (hs : Step (OfP i) own2 own3 WW W5) (hq : q[i]? = some b) (hp : PrAt own3 W5 i b p') : TkG w W own' cb x pb rb mv q now1 (ps.set i p') W5 own3 u r ms := by
  have nt : ¬ OfP i .tmp := by rintro (e | e | e) <;> cases e
  refine ⟨h.co.prod hs hq hp, h.step.trans (hs.mono fun l e => .inr (.inr ⟨i, e⟩)), (hs.block h.box.lt fun l e => by rw [h.lab] at e; cases e; exact nt).trans h.box, (hs.old _ h.box.lt).trans h.lab, h.own.same fun k hk => hs.block (h.own.lt k hk).2 fun l e => by rw [h.labs k hk] at e; cases e; exact nt, fun k hk => (hs.old k (h.own.lt k hk).2).trans (h.labs k hk)⟩
theorem TkG.appended (h : TkG w W own' cb x pb rb mv q now1 ps WW own2 u u ms) (hO : OwnM W5 w.heap.size v' ms') (hG : Gr WW W5 u v') : TkG w W own' cb x pb rb mv q now1 ps W5 (own2.row v' .tmp) u v' ms' := by
  have hs : Step (· = .tmp) own2 (own2.row v' .tmp) WW W5 := Step.gr hG h.labs rfl (fun k hk => h.own.low hk) (fun k hk => (hO.lt k hk).2) h.co.owned (fun k hk => h.own.blk hk)
  refine ⟨h.co.stepT hs, h.step.trans (hs.mono fun l e => .inr (.inl e)), (hG.block _ h.box.lt (fun e => h.own.ne_box h.box e rfl)).trans h.box, ?_, hO, fun k hk => Own.row_yes hk⟩
  unfold Own.row
  split
  · rfl
  · exact h.lab
theorem TkG.stored (h : TkG w W own' cb x pb rb mv q now1 ps WW own2 u r ms) : TkG w W own' cb x pb rb mv q now1 ps (WW.setCell ⟨w.heap.size + 1, 0, none⟩ r) own2 r r ms := by
  have hs : Step (· = .tmp) own2 own2 WW (WW.setCell ⟨w.heap.size + 1, 0, none⟩ r) := Step.one (Frm.setCell _ _ _ _) h.lab rfl (fun z => ⟨fun e => (by rw [h.box.cellN (by decide)] at e; cases e), fun e => (by rw [h.box.cellN (by decide)] at e; cases e)⟩) h.co.owned h.box
  exact ⟨h.co.stepT hs, h.step.trans (hs.mono fun l e => .inr (.inl e)), h.box.set r, h.lab, h.own.same fun k hk => set_blk_other _ _ (h.own.ne_box h.box hk), h.labs⟩
/-- one that is due is told -/
theorem TkI.next {W0 : World} {own0 : Own} {pre pre' : List { x : Int × Option Addr // Ent q x }} (h : TkI w W0 own0 cb x pb rb mv q now1 pre W own' u) (hG : TkG w W own' cb x pb rb mv q now1 ps WW own2 r r ms)
    (he : aged now1 x.ps (idxs pre') = (ps, ms)) : KeepsFrom W0.heap.size W WW ∧ Pp.Kept (fun b => b < W0.heap.size ∧ ∃ z, W0.cell? ⟨b, 3, none⟩ = some (.pointer z)) W WW ∧ TkJ w W0 own0 cb x pb rb mv q now1 pre' WW := by
  have hk : Pp.Kept (fun b => b < W0.heap.size ∧ ∃ z, W0.cell? ⟨b, 3, none⟩ = some (.pointer z)) W WW := fun b hb => by
    obtain ⟨h1, z, h2⟩ := hb
    refine hG.step.frm.block b (Nat.lt_of_lt_of_le h1 h.step.size) fun ⟨_, hn⟩ => (hn z).1 ?_
    rw [World.cell?_of_block (a := ⟨b, 3, none⟩) (h.kept b ⟨h1, z, h2⟩)]; exact h2
  refine ⟨⟨hG.step.size, fun k o _ h1 h2 => hG.step.non k o h1 h2⟩, hk, own2, r, ?_, h.step.trans hG.step, h.kept.trans hk, hG.box, hG.lab, ?_, hG.labs⟩
  · rw [he]; exact hG.co
  · rw [he]; exact hG.own
end
def TkT (w W : World) (own' : Own) (cb : Nat) (x : Co) (pb rb : Nat) (mv : Value) (q : List Nat) (now1 : Int) (ps : List Pr) (i : Nat) (p : Pr) (u : Value) (ms : List Mk) : List Value → World → Prop
  | [], WW => TkG w W own' cb x pb rb mv q now1 ps WW own' u u ms
  | [v], WW => v = .agg (p.mark i 3).cells ∧ ∃ own2, TkG w W own' cb x pb rb mv q now1 (ps.set i (p.close 3)) WW own2 u u ms
  | [_, r], WW => ∃ own2, TkG w W own' cb x pb rb mv q now1 (ps.set i (p.close 3)) WW own2 u r (ms ++ [p.mark i 3])
  | [_, r, _], WW => ∃ own2, TkG w W own' cb x pb rb mv q now1 (ps.set i (p.close 3)) WW own2 r r (ms ++ [p.mark i 3])
  | _, _ => True
theorem TkT.below {w W : World} {own' : Own} {cb : Nat} {x : Co} {pb rb : Nat} {mv : Value} {q : List Nat} {now1 : Int} {ps : List Pr} {i : Nat} {p : Pr} {u : Value} {ms : List Mk} : ∀ (s : List Value) (A B : World), Below A.heap.size A B → TkT w W own' cb x pb rb mv q now1 ps i p u ms s A → TkT w W own' cb x pb rb mv q now1 ps i p u ms s B
  | [], A, B, hB, h => TkG.below h hB
  | [v], A, B, hB, ⟨h1, own2, h⟩ => ⟨h1, own2, h.below hB⟩
  | [_, r], A, B, hB, ⟨own2, h⟩ => ⟨own2, h.below hB⟩
  | [_, r, _], A, B, hB, ⟨own2, h⟩ => ⟨own2, h.below hB⟩
  | _ :: _ :: _ :: _ :: _, _, _, _, _ => trivial
/-- one that is not due is told -/
theorem TkI.same {w W0 W W3 : World} {own0 own' : Own} {cb : Nat} {x : Co} {pb rb : Nat} {mv : Value} {q : List Nat} {now1 : Int} {pre pre' : List { x : Int × Option Addr // Ent q x }} {u : Value} (h : TkI w W0 own0 cb x pb rb mv q now1 pre W own' u) (hB : Below W.heap.size W W3)
    (he : aged now1 x.ps (idxs pre') = aged now1 x.ps (idxs pre)) : KeepsFrom W0.heap.size W W3 ∧ Pp.Kept (fun b => b < W0.heap.size ∧ ∃ z, W0.cell? ⟨b, 3, none⟩ = some (.pointer z)) W W3 ∧ TkJ w W0 own0 cb x pb rb mv q now1 pre' W3 := by
  have hk : Pp.Kept (fun b => b < W0.heap.size ∧ ∃ z, W0.cell? ⟨b, 3, none⟩ = some (.pointer z)) W W3 := kept_below (fun b hb => Nat.lt_of_lt_of_le hb.1 h.step.size) hB
  refine ⟨⟨hB.size, fun k o _ h _ => (hB.block k (Array.getElem?_eq_some_iff.1 h).1).trans h⟩, hk, own', u, ?_, h.step.trans (Step.of_below hB h.co.owned), h.kept.trans hk, h.box.grow hB, h.lab, ?_, h.labs⟩
  · rw [he]; exact h.co.below hB
  · rw [he]; exact h.own.below hB
set_option maxRecDepth 100000 in
set_option maxHeartbeats 4000000 in
theorem tick_at (own : Own) (w : World) (cb : Nat) (x : Co) (pb rb : Nat) (mv : Value) (q : List Nat) (h : CoS own w cb x pb rb mv q) (hok : ∀ p ∈ x.ps, PrOk x.now p) (hps : x.ps.length ≤ 8) (hnow : 0 ≤ x.now ∧ x.now ≤ 100000) :
    Calls Try.prog 35 #[.pointer (some ⟨cb, 0, none⟩)] w fun e w' => ∃ v own', e = .returned v ∧ OwnM w' w.heap.size v (ageMs (x.now + 1) 0 x.ps) ∧ (∀ k, v.ownBlock = some k → own' k = some .tmp) ∧ CoS own' w' cb ⟨x.ps.map (·.age (x.now + 1)), x.rs, x.ms, x.now + 1⟩ pb rb mv q ∧ Step TkP own own' w w' := by
  have HS : Hid (CoS own w cb x pb rb mv q) := h
  obtain ⟨ma, mc, rfl⟩ := h.ms.form
  have hB1 : Below w.heap.size w (w.alloc (.cells #[.pointer (some ⟨cb, 0, none⟩)] 23)) := below_alloc _ _
  have b1 := Boxed.new w 23 (.pointer (some ⟨cb, 0, none⟩))
  have h1 := h.below hB1
  have c3 : (w.alloc (.cells #[.pointer (some ⟨cb, 0, none⟩)] 23)).cell? ⟨cb, 3, none⟩ = some (.int .i64 x.now) := cell_blk h1.blk 3
  have f3 := frozen_blk h1.blk 3
  have c0 : (w.alloc (.cells #[.pointer (some ⟨cb, 0, none⟩)] 23)).cell? ⟨cb, 0, none⟩ = some (.pointer (some ⟨pb, 0, none⟩)) := cell_blk h1.blk 0
  have cw := b1.cell
  have d1 : (((w.alloc (.cells #[.pointer (some ⟨cb, 0, none⟩)] 23)).setCell ⟨cb, 3, none⟩ (.int .i64 (x.now + 1))).alloc (.cells #[.slice none 0 0] 28)).cell? ⟨w.heap.size, 0, none⟩ = some (.pointer (some ⟨cb, 0, none⟩)) :=
    cell_blk (alloc_blk_old ((set_blk_other _ _ (fun e => by have := lt_blk h.blk; omega)).trans b1) _) 0
  have d0 : (((w.alloc (.cells #[.pointer (some ⟨cb, 0, none⟩)] 23)).setCell ⟨cb, 3, none⟩ (.int .i64 (x.now + 1))).alloc (.cells #[.slice none 0 0] 28)).cell? ⟨cb, 0, none⟩ = some (.pointer (some ⟨pb, 0, none⟩)) :=
    cell_blk (alloc_blk_old (set_blk h1.blk 3 (.int .i64 (x.now + 1))) _) 0
  have hcw : ¬ w.heap.size = cb := fun e => by have := lt_blk h.blk; omega
  have hcw' : ¬ cb = w.heap.size := fun e => by have := lt_blk h.blk; omega
  refine (callsIn_wide (n := 9)).1 ?_
  refine callsIn_of_wp_marks Try.func35 rfl trivial ?_ rfl
  simp only [Try.ntmps35, List.size_toArray, List.length_cons, List.length_nil, Nat.reduceAdd, Nat.reduceSub, Array.replicate_succ, Array.replicate_zero, List.push_toArray, List.append_toArray, List.nil_append, List.cons_append]
  gi_wp2_with fail
  refine ⟨trivial, ?_⟩
  refine (callsIn_wide.2 (Pp.All_any _ _)).mono ?_
  rintro e w2 ⟨rfl, rfl⟩
  obtain ⟨W3, hW3⟩ : ∃ W3, ((w.alloc (.cells #[.pointer (some ⟨cb, 0, none⟩)] 23)).setCell ⟨cb, 3, none⟩ (.int .i64 (x.now + 1))).alloc (.cells #[.slice none 0 0] 28) = W3 := ⟨_, rfl⟩
  have hn1 := h1.setNow (x.now + 1)
  have hs3 : W3.heap.size = w.heap.size + 2 := by rw [← hW3]; simp [World.setCell]
  have bx3 : Boxed W3 (w.heap.size + 1) 28 (.slice none 0 0) := by
    have := Boxed.new ((w.alloc (.cells #[.pointer (some ⟨cb, 0, none⟩)] 23)).setCell ⟨cb, 3, none⟩ (.int .i64 (x.now + 1))) 28 (.slice none 0 0)
    rw [hW3] at this
    have e : ((w.alloc (.cells #[.pointer (some ⟨cb, 0, none⟩)] 23)).setCell ⟨cb, 3, none⟩ (.int .i64 (x.now + 1))).heap.size = w.heap.size + 1 := by simp [World.setCell]
    rw [e] at this; exact this
  have bc3 : Boxed W3 w.heap.size 23 (.pointer (some ⟨cb, 0, none⟩)) := by rw [← hW3]; exact alloc_blk_old ((set_blk_other _ _ (fun e => by have := lt_blk h.blk; omega)).trans b1) _
  have hsz2 : ((w.alloc (.cells #[.pointer (some ⟨cb, 0, none⟩)] 23)).setCell ⟨cb, 3, none⟩ (.int .i64 (x.now + 1))).heap.size = w.heap.size + 1 := by simp [World.setCell]
  have hB3 := below_alloc ((w.alloc (.cells #[.pointer (some ⟨cb, 0, none⟩)] 23)).setCell ⟨cb, 3, none⟩ (.int .i64 (x.now + 1))) (.cells #[.slice none 0 0] 28)
  rw [hW3] at hB3 ⊢
  have hSt : ∀ P : Lab → Prop, Step P own (own.put (w.heap.size + 1) .tmp) ((w.alloc (.cells #[.pointer (some ⟨cb, 0, none⟩)] 23)).setCell ⟨cb, 3, none⟩ (.int .i64 (x.now + 1))) W3 := fun P => Step.alloc hB3 (by omega) (by omega) hn1.2.new
  have hco3 := hn1.1.step (hSt _)
  have hst3 : Step TkP own (own.put (w.heap.size + 1) .tmp) w W3 := ((Step.of_below hB1 h.owned).trans (hn1.2.mono fun l e => .inl e)).trans (hSt _)
  clear hW3 hn1 hsz2 hB3 hSt d0 d1 cw c0 f3 c3 h1 b1 hcw hcw'
  obtain ⟨W0, hW0⟩ : ∃ W0, (W3.alloc (.cells #[.pointer (some ⟨pb, 0, none⟩)] 48)).alloc (.cells #[.int .i64 (-9223372036854775808)] 3) = W0 := ⟨_, rfl⟩
  have hB0 : Below W3.heap.size W3 W0 := by rw [← hW0]; exact ((Below.refl _ W3).alloc (Nat.le_refl _) _).alloc (by simp) _
  have bT := (Boxed.new W3 48 (.pointer (some ⟨pb, 0, none⟩))).alloc (.cells #[.int .i64 (-9223372036854775808)] 3)
  have bF := Boxed.new (W3.alloc (.cells #[.pointer (some ⟨pb, 0, none⟩)] 48)) 3 (.int .i64 (-9223372036854775808))
  rw [World.size_alloc] at bF
  have hsz0 : W0.heap.size = w.heap.size + 4 := by rw [← hW0]; simp; omega
  rw [hW0] at bT bF ⊢
  rw [hs3] at bT bF ⊢
  have bx0 : Boxed W0 (w.heap.size + 1) 28 (.slice none 0 0) := bx3.grow hB0
  have bc0 : Boxed W0 w.heap.size 23 (.pointer (some ⟨cb, 0, none⟩)) := bc3.grow hB0
  have hco0 := hco3.below hB0
  obtain ⟨own0, hown0⟩ : ∃ own0, own.put (w.heap.size + 1) .tmp = own0 := ⟨_, rfl⟩
  have hl0 : own0 (w.heap.size + 1) = some .tmp := by rw [← hown0]; exact Own.put_same _ _ _
  have hl1 : own0 w.heap.size = none := by
    rw [← hown0]
    unfold Own.put
    rw [if_neg (by omega)]
    cases ho : own w.heap.size with
    | none => rfl
    | some l => have := h.owned _ _ ho; omega
  rw [hown0] at hco0 hst3
  have hseq := all_seq q pb W0 hco0.tp (w.heap.size + 2) (w.heap.size + 2 + 1) bT bF (fun b => b < W0.heap.size ∧ ∃ z, W0.cell? ⟨b, 3, none⟩ = some (.pointer z)) (fun b z hb hz => ⟨hb, z, hz⟩) (fun b hb => hb.1)
  have HC0 : Hid (CoS own0 W0 cb ⟨x.ps, x.rs, x.ms, x.now + 1⟩ pb rb (.slice ma x.ms.length mc) q) := hco0
  have HST : Hid (Step TkP own own0 w W0) := hst3.trans (Step.of_below hB0 hst3.new)
  have HBX : Hid (Boxed W0 (w.heap.size + 1) 28 (.slice none 0 0)) := bx0
  have HBC : Hid (Boxed W0 w.heap.size 23 (.pointer (some ⟨cb, 0, none⟩))) := bc0
  have HS0 : Hid (W0.heap.size = w.heap.size + 4) := hsz0
  have HL0 : Hid (own0 (w.heap.size + 1) = some .tmp) := hl0
  have HL1 : Hid (own0 w.heap.size = none) := hl1
  have HQ : Hid _ := hseq
  have hrun : ∀ W, Sem.run Try.prog (binOp BinOp.eql 109 (Value.func (Fn.func 82) #[] #[.pointer (some ⟨w.heap.size + 2, 0, none⟩), .pointer (some ⟨w.heap.size + 2 + 1, 0, none⟩)]) Value.nilFunc) W = .ok (.bool false) W := fun _ => rfl
  clear hseq bT bF bx0 bc0 hco0 hco3 hst3 hl0 hl1 hown0 hsz0 hB0 hW0 bx3 bc3 hs3 h
  gi_wp2_with fail
  refine wpIn_rangeFunc_ownG rfl (by decide) (gf := 82) (lb := #[.pointer (some ⟨w.heap.size + 2, 0, none⟩), .pointer (some ⟨w.heap.size + 2 + 1, 0, none⟩)]) rfl trivial (enters_of Try.func82 (by kernel_rfl) rfl) (HQ.out _) (fun h k => Pp.Kept.trans h k)
    (fun W l o o' hl _ _ _ b hb => World.putObj_heap_other (by have := hb.1; omega)) (Below.refl _ _) (fun _ => rfl)
    (TkJ w W0 own0 cb x pb rb (.slice ma x.ms.length mc) q (x.now + 1)) (fun _ _ _ => False) TkJ.own (fun _ _ _ _ _ hs _ _ => hs)
    ⟨own0, .slice none 0 0, HC0.out, Step.refl HC0.out.owned, Pp.Kept.refl _ _, HBX.out, HL0.out, OwnM.nil _ _, fun k hk => by cases hk⟩
    (fun x' => { tmps := (Value.pointer (some (⟨cb, 0, none⟩ : Addr)) :: Value.pointer (some (⟨w.heap.size, 0, none⟩ : Addr)) :: Value.slice none 0 0 :: Value.pointer (some (⟨w.heap.size + 1, 0, none⟩ : Addr)) :: undef :: Value.pointer x'.1.2 :: Value.pointer (some (⟨cb, 0, none⟩ : Addr)) :: Value.pointer (some (⟨cb, 0, none⟩ : Addr)) :: Value.pointer (some (⟨cb, 3, none⟩ : Addr)) :: Value.int .i64 x.now :: Value.int .i64 (x.now + 1) :: Value.pointer (some (⟨cb, 0, none⟩ : Addr)) :: Value.pointer (some (⟨cb, 3, none⟩ : Addr)) :: Value.pointer (some (⟨cb, 0, none⟩ : Addr)) :: Value.pointer (some (⟨cb, 0, none⟩ : Addr)) :: Value.pointer (some (⟨cb, 0, none⟩ : Addr)) :: Value.pointer (some (⟨pb, 0, none⟩ : Addr)) :: Value.func (Fn.func 82) #[] #[Value.pointer (some (⟨w.heap.size + 2, 0, none⟩ : Addr)), Value.pointer (some (⟨w.heap.size + 2 + 1, 0, none⟩ : Addr))] :: Value.int .i64 x'.1.1 :: Value.pointer x'.1.2 :: undef :: undef :: undef :: undef :: undef :: undef :: undef :: undef :: undef :: undef :: undef :: undef :: undef :: undef :: undef :: undef :: undef :: undef :: undef :: undef :: undef :: undef :: undef :: undef :: undef :: undef :: []).toArray, defers := [] }) ?assign ?body ?done ?stop
  case assign =>
    intro l x' W K hK
    gi_wp2
    exact hK
  case body =>
    rintro l pre ⟨⟨ek, ea⟩, i, b, he, hqb⟩ W ⟨own', u, hI⟩ hlt
    cases he
    have hs0 := HS0.out
    obtain ⟨hk1, hk2, hk3⟩ := aged_ok (now := x.now) hok (x.now + 1) (idxs pre)
    have hlq : q.length = (aged (x.now + 1) x.ps (idxs pre)).1.length := hI.co.len
    obtain ⟨p, hp⟩ : ∃ p, (aged (x.now + 1) x.ps (idxs pre)).1[i]? = some p := by
      have h1 := (List.getElem?_eq_some_iff.1 hqb).1
      rw [hlq] at h1
      exact ⟨_, List.getElem?_eq_getElem h1⟩
    obtain ⟨b', hb', ev, ov, hP⟩ := hI.co.pr i p hp
    rw [hqb] at hb'
    cases hb'
    obtain ⟨ho1, ho2⟩ := hk1 p (List.mem_of_getElem? hp)
    have hag : ∀ hx, aged (x.now + 1) x.ps (idxs (pre ++ [⟨((i : Int), some ⟨b, 0, none⟩), hx⟩])) = ((aged (x.now + 1) x.ps (idxs pre)).1.set i (p.age (x.now + 1)), (aged (x.now + 1) x.ps (idxs pre)).2 ++ p.ageM i (x.now + 1)) := fun hx => by
      have : idxs (pre ++ [⟨((i : Int), some ⟨b, 0, none⟩), hx⟩]) = idxs pre ++ [i] := by simp [idxs]
      rw [this, aged_snoc]
      unfold agedAt
      rw [hp]
    have hml : (aged (x.now + 1) x.ps (idxs pre)).2.length ≤ 8 := by
      have h1 : (idxs pre).length = pre.length := by simp [idxs]
      omega
    have hbc : Boxed W w.heap.size 23 (.pointer (some ⟨cb, 0, none⟩)) := (hI.step.block (by omega) fun l e => by rw [HL1.out] at e; cases e).trans HBC.out
    have c1 := hbc.cell
    have cn : W.cell? ⟨cb, 3, none⟩ = some (.int .i64 (x.now + 1)) := cell_blk hI.co.blk 3
    have c4 : W.cell? ⟨b, 4, none⟩ = some (.pointer ov) := cell_blk hP.blk 4
    have hbl : b < W.heap.size := lt_blk hP.blk
    have hwl : w.heap.size < W.heap.size := hbc.lt
    have hcl : cb < W.heap.size := lt_blk hI.co.blk
    have HI : Hid (TkI w W0 own0 cb x pb rb (.slice ma x.ms.length mc) q (x.now + 1) pre W own' u) := hI
    have HP : Hid (PrC own' W i b p ev ov) := hP
    have HPS : Hid ((aged (x.now + 1) x.ps (idxs pre)).1[i]? = some p) := hp
    have HAG : Hid _ := hag
    have hop := hP.op
    cases hpo : p.op with
    | none =>
      rw [hpo] at hop
      obtain rfl : ov = none := hop
      have hage : p.age (x.now + 1) = p := by unfold Pr.age Pr.due; rw [hpo]; rfl
      have hagm : p.ageM i (x.now + 1) = [] := by unfold Pr.ageM Pr.due; rw [hpo]; rfl
      clear hs0 hI hP hp hag hbc hk1 hk2 hk3 hlq ho1 ho2
      gi_wp2_with fail
      refine wpIn_region_growG (by kernel_rfl) (by kernel_rfl) (fun xS => { tmps := (Value.pointer (some (⟨cb, 0, none⟩ : Addr)) :: Value.pointer (some (⟨w.heap.size, 0, none⟩ : Addr)) :: Value.slice none 0 0 :: Value.pointer (some (⟨w.heap.size + 1, 0, none⟩ : Addr)) :: undef :: Value.pointer (some (⟨b, 0, none⟩ : Addr)) :: Value.pointer (some (⟨cb, 0, none⟩ : Addr)) :: Value.pointer (some (⟨cb, 0, none⟩ : Addr)) :: Value.pointer (some (⟨cb, 3, none⟩ : Addr)) :: Value.int IntKind.i64 x.now :: Value.int IntKind.i64 (x.now + 1) :: Value.pointer (some (⟨cb, 0, none⟩ : Addr)) :: Value.pointer (some (⟨cb, 3, none⟩ : Addr)) :: Value.pointer (some (⟨cb, 0, none⟩ : Addr)) :: Value.pointer (some (⟨cb, 0, none⟩ : Addr)) :: Value.pointer (some (⟨cb, 0, none⟩ : Addr)) :: Value.pointer (some (⟨pb, 0, none⟩ : Addr)) :: Value.func (Fn.func 82) #[] #[Value.pointer (some (⟨w.heap.size + 2, 0, none⟩ : Addr)), Value.pointer (some (⟨w.heap.size + 2 + 1, 0, none⟩ : Addr))] :: Value.int IntKind.i64 (i : Int) :: Value.pointer (some (⟨b, 0, none⟩ : Addr)) :: xS 0 :: xS 1 :: xS 2 :: xS 3 :: xS 4 :: xS 5 :: xS 6 :: xS 7 :: xS 8 :: xS 9 :: xS 10 :: xS 11 :: xS 12 :: xS 13 :: xS 14 :: xS 15 :: xS 16 :: xS 17 :: xS 18 :: xS 19 :: undef :: undef :: undef :: undef :: undef :: undef :: []).toArray, defers := [] })
        (fun ii xx WW => match ii with | 0 => xx = .pointer (some ⟨b, 0, none⟩) | 1 => xx = .pointer (some ⟨b, 0, none⟩) | 2 => xx = .pointer (some ⟨b, 4, none⟩) | 3 => xx = .pointer none | 4 => xx = .bool false | 5 => xx = .bool false | 19 => xx = .bool false | _ => True) (fun | 0 => undef | 1 => undef | 2 => undef | 3 => undef | 4 => undef | 5 => undef | 6 => undef | 7 => undef | 8 => undef | 9 => undef | 10 => undef | 11 => undef | 12 => undef | 13 => undef | 14 => undef | 15 => undef | 16 => undef | 17 => undef | 18 => undef | 19 => undef | _ => undef) (by repeat (first | exact trivial | refine ⟨fun _ _ => rfl, ?_⟩)) (fun _ _ _ _ _ h => h) ⟨?_, ?_, ?_, ?_, ?_, ?_, ?_, ?_, ?_, ?_, ?_, ?_, ?_, ?_, ?_, ?_, ?_, ?_, ?_, ?_, trivial⟩ ?_
      · intro xS W hB hp K hK
        rw [if_pos (wanted_none rfl _)]
        clear hp
        go_simp
        exact hK _ _ (Below.refl _ _) rfl
      · intro xS W hB hp K hK
        rw [if_pos (wanted_none rfl _)]
        have h0 : xS 0 = .pointer (some ⟨b, 0, none⟩) := hp.1 rfl
        clear hp
        simp only [h0] at hK ⊢
        clear h0
        go_simp
        exact hK _ _ (Below.refl _ _) rfl
      · intro xS W hB hp K hK
        rw [if_pos (wanted_none rfl _)]
        have h1 : xS 1 = .pointer (some ⟨b, 0, none⟩) := hp.1 rfl
        clear hp
        simp only [h1] at hK ⊢
        clear h1
        go_simp
        exact hK _ _ (Below.refl _ _) rfl
      · intro xS W hB hp K hK
        rw [if_pos (wanted_none rfl _)]
        have h2 : xS 2 = .pointer (some ⟨b, 4, none⟩) := hp.1 rfl
        clear hp
        have hc := (hB.cell (p := ⟨b, 4, none⟩) hbl).trans c4
        simp only [h2] at hK ⊢
        clear h2
        go_simp
        exact hK _ _ (Below.refl _ _) rfl
      · intro xS W hB hp K hK
        rw [if_pos (wanted_none rfl _)]
        have h3 : xS 3 = .pointer none := hp.1 rfl
        clear hp
        simp only [h3] at hK ⊢
        clear h3
        go_simp
        exact hK _ _ (Below.refl _ _) rfl
      · intro xS W hB hp K hK
        rw [if_pos (wanted_none rfl _)]
        have h4 : xS 4 = .bool false := hp.1 rfl
        clear hp
        simp only [h4] at hK ⊢
        clear h4
        go_simp
        exact hK _ _ (Below.refl _ _) rfl
      · intro xS W hB hp K hK
        have hgd : xS 5 = .bool false := hp.1 rfl
        rw [wanted_g (b := false) rfl (by show (match some (xS 5) with | some (.bool b) => some b | _ => none) = some false; rw [hgd])]
        rw [if_neg (by decide)]
        exact ⟨fun _ _ => trivial, hK _ _ (Below.refl _ _) trivial⟩
      · intro xS W hB hp K hK
        have hgd : xS 5 = .bool false := hp.2.1 rfl
        rw [wanted_g (b := false) rfl (by show (match some (xS 5) with | some (.bool b) => some b | _ => none) = some false; rw [hgd])]
        rw [if_neg (by decide)]
        exact ⟨fun _ _ => trivial, hK _ _ (Below.refl _ _) trivial⟩
      · intro xS W hB hp K hK
        have hgd : xS 5 = .bool false := hp.2.1 rfl
        rw [wanted_g (b := false) rfl (by show (match some (xS 5) with | some (.bool b) => some b | _ => none) = some false; rw [hgd])]
        rw [if_neg (by decide)]
        exact ⟨fun _ _ => trivial, hK _ _ (Below.refl _ _) trivial⟩
      · intro xS W hB hp K hK
        have hgd : xS 5 = .bool false := hp.2.1 rfl
        rw [wanted_g (b := false) rfl (by show (match some (xS 5) with | some (.bool b) => some b | _ => none) = some false; rw [hgd])]
        rw [if_neg (by decide)]
        exact ⟨fun _ _ => trivial, hK _ _ (Below.refl _ _) trivial⟩
      · intro xS W hB hp K hK
        have hgd : xS 5 = .bool false := hp.1 rfl
        rw [wanted_g (b := false) rfl (by show (match some (xS 5) with | some (.bool b) => some b | _ => none) = some false; rw [hgd])]
        rw [if_neg (by decide)]
        exact ⟨fun _ _ => trivial, hK _ _ (Below.refl _ _) trivial⟩
      · intro xS W hB hp K hK
        have hgd : xS 5 = .bool false := hp.2.1 rfl
        rw [wanted_g (b := false) rfl (by show (match some (xS 5) with | some (.bool b) => some b | _ => none) = some false; rw [hgd])]
        rw [if_neg (by decide)]
        exact ⟨fun _ _ => trivial, hK _ _ (Below.refl _ _) trivial⟩
      · intro xS W hB hp K hK
        have hgd : xS 5 = .bool false := hp.2.1 rfl
        rw [wanted_g (b := false) rfl (by show (match some (xS 5) with | some (.bool b) => some b | _ => none) = some false; rw [hgd])]
        rw [if_neg (by decide)]
        exact ⟨fun _ _ => trivial, hK _ _ (Below.refl _ _) trivial⟩
      · intro xS W hB hp K hK
        have hgd : xS 5 = .bool false := hp.2.1 rfl
        rw [wanted_g (b := false) rfl (by show (match some (xS 5) with | some (.bool b) => some b | _ => none) = some false; rw [hgd])]
        rw [if_neg (by decide)]
        exact ⟨fun _ _ => trivial, hK _ _ (Below.refl _ _) trivial⟩
      · intro xS W hB hp K hK
        have hgd : xS 5 = .bool false := hp.2.1 rfl
        rw [wanted_g (b := false) rfl (by show (match some (xS 5) with | some (.bool b) => some b | _ => none) = some false; rw [hgd])]
        rw [if_neg (by decide)]
        exact ⟨fun _ _ => trivial, hK _ _ (Below.refl _ _) trivial⟩
      · intro xS W hB hp K hK
        have hgd : xS 5 = .bool false := hp.2.1 rfl
        rw [wanted_g (b := false) rfl (by show (match some (xS 5) with | some (.bool b) => some b | _ => none) = some false; rw [hgd])]
        rw [if_neg (by decide)]
        exact ⟨fun _ _ => trivial, hK _ _ (Below.refl _ _) trivial⟩
      · intro xS W hB hp K hK
        have hgd : xS 5 = .bool false := hp.2.1 rfl
        rw [wanted_g (b := false) rfl (by show (match some (xS 5) with | some (.bool b) => some b | _ => none) = some false; rw [hgd])]
        rw [if_neg (by decide)]
        exact ⟨fun _ _ => trivial, hK _ _ (Below.refl _ _) trivial⟩
      · intro xS W hB hp K hK
        have hgd : xS 5 = .bool false := hp.2.2.1 rfl
        rw [wanted_g (b := false) rfl (by show (match some (xS 5) with | some (.bool b) => some b | _ => none) = some false; rw [hgd])]
        rw [if_neg (by decide)]
        exact ⟨fun _ _ => trivial, hK _ _ (Below.refl _ _) trivial⟩
      · intro xS W hB hp K hK
        have hgd : xS 5 = .bool false := hp.2.1 rfl
        rw [wanted_g (b := false) rfl (by show (match some (xS 5) with | some (.bool b) => some b | _ => none) = some false; rw [hgd])]
        rw [if_neg (by decide)]
        exact ⟨fun _ _ => trivial, hK _ _ (Below.refl _ _) trivial⟩
      · intro xS W hB hp K hK
        rw [if_pos (wanted_none rfl _)]
        have h5 : xS 5 = .bool false := hp.1 rfl
        clear hp
        simp only [h5] at hK ⊢
        clear h5
        go_simp
        exact hK _ _ (Below.refl _ _) rfl
      intro xS W3 hB3 hs
      have h19 : xS 19 = .bool false := hs 19 (by simp)
      clear hs
      simp only [h19]
      clear c1 cn c4 h19
      gi_wp2_with fail
      exact HI.out.same hB3 ((HAG.out _).trans (by rw [hage, hagm, List.append_nil, set_same_of HPS.out]))
    | some z =>
      obtain ⟨bb, pl⟩ := z
      rw [hpo] at hop
      obtain ⟨ob, rfl, hol, hl4, hob⟩ := hop
      have cob : W.cell? ⟨ob, 0, none⟩ = some (.int .i64 bb) := cell_blk hob 0
      have hobl : ob < W.heap.size := lt_blk hob
      obtain ⟨hb0, hb1⟩ := ho2 bb pl hpo
      obtain ⟨hn0, hn1⟩ := hnow
      have hwr : IntKind.i64.wrap (x.now + 1 - bb) = x.now + 1 - bb := by rw [IntKind.wrap_i64]; omega
      have hdue : p.due (x.now + 1) = decide (5 ≤ x.now + 1 - bb) := by unfold Pr.due; rw [hpo]
      clear hs0 hI hP hp hag hbc hk1 hk2 hk3 hlq ho2
      gi_wp2_with fail
      refine wpIn_region_growG (by kernel_rfl) (by kernel_rfl) (fun xS => { tmps := (Value.pointer (some (⟨cb, 0, none⟩ : Addr)) :: Value.pointer (some (⟨w.heap.size, 0, none⟩ : Addr)) :: Value.slice none 0 0 :: Value.pointer (some (⟨w.heap.size + 1, 0, none⟩ : Addr)) :: undef :: Value.pointer (some (⟨b, 0, none⟩ : Addr)) :: Value.pointer (some (⟨cb, 0, none⟩ : Addr)) :: Value.pointer (some (⟨cb, 0, none⟩ : Addr)) :: Value.pointer (some (⟨cb, 3, none⟩ : Addr)) :: Value.int IntKind.i64 x.now :: Value.int IntKind.i64 (x.now + 1) :: Value.pointer (some (⟨cb, 0, none⟩ : Addr)) :: Value.pointer (some (⟨cb, 3, none⟩ : Addr)) :: Value.pointer (some (⟨cb, 0, none⟩ : Addr)) :: Value.pointer (some (⟨cb, 0, none⟩ : Addr)) :: Value.pointer (some (⟨cb, 0, none⟩ : Addr)) :: Value.pointer (some (⟨pb, 0, none⟩ : Addr)) :: Value.func (Fn.func 82) #[] #[Value.pointer (some (⟨w.heap.size + 2, 0, none⟩ : Addr)), Value.pointer (some (⟨w.heap.size + 2 + 1, 0, none⟩ : Addr))] :: Value.int IntKind.i64 (i : Int) :: Value.pointer (some (⟨b, 0, none⟩ : Addr)) :: xS 0 :: xS 1 :: xS 2 :: xS 3 :: xS 4 :: xS 5 :: xS 6 :: xS 7 :: xS 8 :: xS 9 :: xS 10 :: xS 11 :: xS 12 :: xS 13 :: xS 14 :: xS 15 :: xS 16 :: xS 17 :: xS 18 :: xS 19 :: undef :: undef :: undef :: undef :: undef :: undef :: []).toArray, defers := [] })
        (fun ii xx WW => match ii with | 0 => xx = .pointer (some ⟨b, 0, none⟩) | 1 => xx = .pointer (some ⟨b, 0, none⟩) | 2 => xx = .pointer (some ⟨b, 4, none⟩) | 3 => xx = .pointer (some ⟨ob, 0, none⟩) | 4 => xx = .bool true | 5 => xx = .bool true | 6 => xx = .pointer (some ⟨cb, 0, none⟩) | 7 => xx = .pointer (some ⟨cb, 0, none⟩) | 8 => xx = .pointer (some ⟨cb, 3, none⟩) | 9 => xx = .int .i64 (x.now + 1) | 10 => xx = .pointer (some ⟨b, 0, none⟩) | 11 => xx = .pointer (some ⟨b, 0, none⟩) | 12 => xx = .pointer (some ⟨b, 4, none⟩) | 13 => xx = .pointer (some ⟨ob, 0, none⟩) | 14 => xx = .pointer (some ⟨ob, 0, none⟩) | 15 => xx = .pointer (some ⟨ob, 0, none⟩) | 16 => xx = .int .i64 bb | 17 => xx = .int .i64 (x.now + 1 - bb) | 18 => xx = .bool (decide (5 ≤ x.now + 1 - bb)) | 19 => xx = .bool (decide (5 ≤ x.now + 1 - bb)) | _ => True) (fun | 0 => undef | 1 => undef | 2 => undef | 3 => undef | 4 => undef | 5 => undef | 6 => undef | 7 => undef | 8 => undef | 9 => undef | 10 => undef | 11 => undef | 12 => undef | 13 => undef | 14 => undef | 15 => undef | 16 => undef | 17 => undef | 18 => undef | 19 => undef | _ => undef) (by repeat (first | exact trivial | refine ⟨fun _ _ => rfl, ?_⟩)) (fun _ _ _ _ _ h => h) ⟨?_, ?_, ?_, ?_, ?_, ?_, ?_, ?_, ?_, ?_, ?_, ?_, ?_, ?_, ?_, ?_, ?_, ?_, ?_, ?_, trivial⟩ ?_
      · intro xS W hB hp K hK
        rw [if_pos (wanted_none rfl _)]
        clear hp
        go_simp
        exact hK _ _ (Below.refl _ _) rfl
      · intro xS W hB hp K hK
        rw [if_pos (wanted_none rfl _)]
        have h0 : xS 0 = .pointer (some ⟨b, 0, none⟩) := hp.1 rfl
        clear hp
        simp only [h0] at hK ⊢
        clear h0
        go_simp
        exact hK _ _ (Below.refl _ _) rfl
      · intro xS W hB hp K hK
        rw [if_pos (wanted_none rfl _)]
        have h1 : xS 1 = .pointer (some ⟨b, 0, none⟩) := hp.1 rfl
        clear hp
        simp only [h1] at hK ⊢
        clear h1
        go_simp
        exact hK _ _ (Below.refl _ _) rfl
      · intro xS W hB hp K hK
        rw [if_pos (wanted_none rfl _)]
        have h2 : xS 2 = .pointer (some ⟨b, 4, none⟩) := hp.1 rfl
        clear hp
        have hc := (hB.cell (p := ⟨b, 4, none⟩) hbl).trans c4
        simp only [h2] at hK ⊢
        clear h2
        go_simp
        exact hK _ _ (Below.refl _ _) rfl
      · intro xS W hB hp K hK
        rw [if_pos (wanted_none rfl _)]
        have h3 : xS 3 = .pointer (some ⟨ob, 0, none⟩) := hp.1 rfl
        clear hp
        simp only [h3] at hK ⊢
        clear h3
        go_simp
        exact hK _ _ (Below.refl _ _) rfl
      · intro xS W hB hp K hK
        rw [if_pos (wanted_none rfl _)]
        have h4 : xS 4 = .bool true := hp.1 rfl
        clear hp
        simp only [h4] at hK ⊢
        clear h4
        go_simp
        exact hK _ _ (Below.refl _ _) rfl
      · intro xS W hB hp K hK
        have hgd : xS 5 = .bool true := hp.1 rfl
        rw [wanted_g (b := true) rfl (by show (match some (xS 5) with | some (.bool b) => some b | _ => none) = some true; rw [hgd])]
        rw [if_pos (show (true == true) = true from rfl)]
        clear hgd
        clear hp
        have hc := (hB.cell (p := ⟨w.heap.size, 0, none⟩) hwl).trans c1
        go_simp
        exact hK _ _ (Below.refl _ _) rfl
      · intro xS W hB hp K hK
        have hgd : xS 5 = .bool true := hp.2.1 rfl
        rw [wanted_g (b := true) rfl (by show (match some (xS 5) with | some (.bool b) => some b | _ => none) = some true; rw [hgd])]
        rw [if_pos (show (true == true) = true from rfl)]
        clear hgd
        have h6 : xS 6 = .pointer (some ⟨cb, 0, none⟩) := hp.1 rfl
        clear hp
        simp only [h6] at hK ⊢
        clear h6
        go_simp
        exact hK _ _ (Below.refl _ _) rfl
      · intro xS W hB hp K hK
        have hgd : xS 5 = .bool true := hp.2.1 rfl
        rw [wanted_g (b := true) rfl (by show (match some (xS 5) with | some (.bool b) => some b | _ => none) = some true; rw [hgd])]
        rw [if_pos (show (true == true) = true from rfl)]
        clear hgd
        have h7 : xS 7 = .pointer (some ⟨cb, 0, none⟩) := hp.1 rfl
        clear hp
        simp only [h7] at hK ⊢
        clear h7
        go_simp
        exact hK _ _ (Below.refl _ _) rfl
      · intro xS W hB hp K hK
        have hgd : xS 5 = .bool true := hp.2.1 rfl
        rw [wanted_g (b := true) rfl (by show (match some (xS 5) with | some (.bool b) => some b | _ => none) = some true; rw [hgd])]
        rw [if_pos (show (true == true) = true from rfl)]
        clear hgd
        have h8 : xS 8 = .pointer (some ⟨cb, 3, none⟩) := hp.1 rfl
        clear hp
        have hc := (hB.cell (p := ⟨cb, 3, none⟩) hcl).trans cn
        simp only [h8] at hK ⊢
        clear h8
        go_simp
        exact hK _ _ (Below.refl _ _) rfl
      · intro xS W hB hp K hK
        have hgd : xS 5 = .bool true := hp.1 rfl
        rw [wanted_g (b := true) rfl (by show (match some (xS 5) with | some (.bool b) => some b | _ => none) = some true; rw [hgd])]
        rw [if_pos (show (true == true) = true from rfl)]
        clear hgd
        clear hp
        go_simp
        exact hK _ _ (Below.refl _ _) rfl
      · intro xS W hB hp K hK
        have hgd : xS 5 = .bool true := hp.2.1 rfl
        rw [wanted_g (b := true) rfl (by show (match some (xS 5) with | some (.bool b) => some b | _ => none) = some true; rw [hgd])]
        rw [if_pos (show (true == true) = true from rfl)]
        clear hgd
        have h10 : xS 10 = .pointer (some ⟨b, 0, none⟩) := hp.1 rfl
        clear hp
        simp only [h10] at hK ⊢
        clear h10
        go_simp
        exact hK _ _ (Below.refl _ _) rfl
      · intro xS W hB hp K hK
        have hgd : xS 5 = .bool true := hp.2.1 rfl
        rw [wanted_g (b := true) rfl (by show (match some (xS 5) with | some (.bool b) => some b | _ => none) = some true; rw [hgd])]
        rw [if_pos (show (true == true) = true from rfl)]
        clear hgd
        have h11 : xS 11 = .pointer (some ⟨b, 0, none⟩) := hp.1 rfl
        clear hp
        simp only [h11] at hK ⊢
        clear h11
        go_simp
        exact hK _ _ (Below.refl _ _) rfl
      · intro xS W hB hp K hK
        have hgd : xS 5 = .bool true := hp.2.1 rfl
        rw [wanted_g (b := true) rfl (by show (match some (xS 5) with | some (.bool b) => some b | _ => none) = some true; rw [hgd])]
        rw [if_pos (show (true == true) = true from rfl)]
        clear hgd
        have h12 : xS 12 = .pointer (some ⟨b, 4, none⟩) := hp.1 rfl
        clear hp
        have hc := (hB.cell (p := ⟨b, 4, none⟩) hbl).trans c4
        simp only [h12] at hK ⊢
        clear h12
        go_simp
        exact hK _ _ (Below.refl _ _) rfl
      · intro xS W hB hp K hK
        have hgd : xS 5 = .bool true := hp.2.1 rfl
        rw [wanted_g (b := true) rfl (by show (match some (xS 5) with | some (.bool b) => some b | _ => none) = some true; rw [hgd])]
        rw [if_pos (show (true == true) = true from rfl)]
        clear hgd
        have h13 : xS 13 = .pointer (some ⟨ob, 0, none⟩) := hp.1 rfl
        clear hp
        simp only [h13] at hK ⊢
        clear h13
        go_simp
        exact hK _ _ (Below.refl _ _) rfl
      · intro xS W hB hp K hK
        have hgd : xS 5 = .bool true := hp.2.1 rfl
        rw [wanted_g (b := true) rfl (by show (match some (xS 5) with | some (.bool b) => some b | _ => none) = some true; rw [hgd])]
        rw [if_pos (show (true == true) = true from rfl)]
        clear hgd
        have h14 : xS 14 = .pointer (some ⟨ob, 0, none⟩) := hp.1 rfl
        clear hp
        simp only [h14] at hK ⊢
        clear h14
        go_simp
        exact hK _ _ (Below.refl _ _) rfl
      · intro xS W hB hp K hK
        have hgd : xS 5 = .bool true := hp.2.1 rfl
        rw [wanted_g (b := true) rfl (by show (match some (xS 5) with | some (.bool b) => some b | _ => none) = some true; rw [hgd])]
        rw [if_pos (show (true == true) = true from rfl)]
        clear hgd
        have h15 : xS 15 = .pointer (some ⟨ob, 0, none⟩) := hp.1 rfl
        clear hp
        have hc := (hB.cell (p := ⟨ob, 0, none⟩) hobl).trans cob
        simp only [h15] at hK ⊢
        clear h15
        go_simp
        exact hK _ _ (Below.refl _ _) rfl
      · intro xS W hB hp K hK
        have hgd : xS 5 = .bool true := hp.2.2.1 rfl
        rw [wanted_g (b := true) rfl (by show (match some (xS 5) with | some (.bool b) => some b | _ => none) = some true; rw [hgd])]
        rw [if_pos (show (true == true) = true from rfl)]
        clear hgd
        have h9 : xS 9 = .int .i64 (x.now + 1) := hp.1 rfl
        have h16 : xS 16 = .int .i64 bb := hp.2.1 rfl
        clear hp
        simp only [h9, h16] at hK ⊢
        clear h9 h16
        go_simp
        exact hK _ _ (Below.refl _ _) rfl
      · intro xS W hB hp K hK
        have hgd : xS 5 = .bool true := hp.2.1 rfl
        rw [wanted_g (b := true) rfl (by show (match some (xS 5) with | some (.bool b) => some b | _ => none) = some true; rw [hgd])]
        rw [if_pos (show (true == true) = true from rfl)]
        clear hgd
        have h17 : xS 17 = .int .i64 (x.now + 1 - bb) := hp.1 rfl
        clear hp
        simp only [h17] at hK ⊢
        clear h17
        go_simp
        exact hK _ _ (Below.refl _ _) rfl
      · intro xS W hB hp K hK
        rw [if_pos (wanted_none rfl _)]
        have h5 : xS 5 = .bool true := hp.1 rfl
        have h18 : xS 18 = .bool (decide (5 ≤ x.now + 1 - bb)) := hp.2.1 rfl
        clear hp
        simp only [h5, h18] at hK ⊢
        clear h5 h18
        go_simp
        exact hK _ _ (Below.refl _ _) rfl
      intro xs0 W3 hB3 hs
      have h19 : xs0 19 = .bool (decide (5 ≤ x.now + 1 - bb)) := hs 19 (by simp)
      clear hs
      simp only [h19]
      have HI3 : Hid (TkI w W0 own0 cb x pb rb (.slice ma x.ms.length mc) q (x.now + 1) pre W own' u) := HI.out
      clear c1 cn c4 h19 cob hwr
      cases hd : decide (5 ≤ x.now + 1 - bb) with
      | false =>
        have hage : p.age (x.now + 1) = p := by unfold Pr.age; rw [hdue, hd]; rfl
        have hagm : p.ageM i (x.now + 1) = [] := by unfold Pr.ageM; rw [hdue, hd]; rfl
        gi_wp2_with fail
        exact HI.out.same hB3 ((HAG.out _).trans (by rw [hage, hagm, List.append_nil, set_same_of HPS.out]))
      | true =>
        have hage : p.age (x.now + 1) = p.close 3 := by unfold Pr.age; rw [hdue, hd]; rfl
        have hagm : p.ageM i (x.now + 1) = [p.mark i 3] := by unfold Pr.ageM; rw [hdue, hd]; rfl
        have HG3 : Hid (TkG w W own' cb x pb rb (.slice ma x.ms.length mc) q (x.now + 1) (aged (x.now + 1) x.ps (idxs pre)).1 W3 own' u u (aged (x.now + 1) x.ps (idxs pre)).2) :=
          TkG.below ⟨HI.out.co, Step.refl HI.out.co.owned, HI.out.box, HI.out.lab, HI.out.own, HI.out.labs⟩ hB3
        have HQB : Hid (q[i]? = some b) := hqb
        have HOW : Hid (Owned own' W) := HI.out.co.owned
        have HPE : Hid (p.ends.length ≤ 1000) := by have := ho1; show p.ends.length ≤ 1000; split at this <;> omega
        have HML : Hid ((aged (x.now + 1) x.ps (idxs pre)).2.length ≤ 8) := hml
        have HLB : Hid (∀ k, u.ownBlock = some k → own' k = some .tmp) := HI.out.labs
        have HLT : Hid (own' (w.heap.size + 1) = some .tmp) := HI.out.lab
        clear ho1 hml
        gi_wp2_with fail
        refine wpIn_region_turnsV (by kernel_rfl) (by kernel_rfl) [2, 4, 5] (by kernel_rfl) (by decide) (by decide) (fun xS => { tmps := (Value.pointer (some (⟨cb, 0, none⟩ : Addr)) :: Value.pointer (some (⟨w.heap.size, 0, none⟩ : Addr)) :: Value.slice none 0 0 :: Value.pointer (some (⟨w.heap.size + 1, 0, none⟩ : Addr)) :: undef :: Value.pointer (some (⟨b, 0, none⟩ : Addr)) :: Value.pointer (some (⟨cb, 0, none⟩ : Addr)) :: Value.pointer (some (⟨cb, 0, none⟩ : Addr)) :: Value.pointer (some (⟨cb, 3, none⟩ : Addr)) :: Value.int IntKind.i64 x.now :: Value.int IntKind.i64 (x.now + 1) :: Value.pointer (some (⟨cb, 0, none⟩ : Addr)) :: Value.pointer (some (⟨cb, 3, none⟩ : Addr)) :: Value.pointer (some (⟨cb, 0, none⟩ : Addr)) :: Value.pointer (some (⟨cb, 0, none⟩ : Addr)) :: Value.pointer (some (⟨cb, 0, none⟩ : Addr)) :: Value.pointer (some (⟨pb, 0, none⟩ : Addr)) :: Value.func (Fn.func 82) #[] #[Value.pointer (some (⟨w.heap.size + 2, 0, none⟩ : Addr)), Value.pointer (some (⟨w.heap.size + 2 + 1, 0, none⟩ : Addr))] :: Value.int IntKind.i64 (i : Int) :: Value.pointer (some (⟨b, 0, none⟩ : Addr)) :: xs0 0 :: xs0 1 :: xs0 2 :: xs0 3 :: xs0 4 :: xs0 5 :: xs0 6 :: xs0 7 :: xs0 8 :: xs0 9 :: xs0 10 :: xs0 11 :: xs0 12 :: xs0 13 :: xs0 14 :: xs0 15 :: xs0 16 :: xs0 17 :: xs0 18 :: Value.bool true :: xS 0 :: xS 1 :: xS 2 :: xS 3 :: xS 4 :: undef :: []).toArray, defers := [] })
          (fun ii xx WW => match ii with | 0 => xx = u | 1 => xx = .pointer (some ⟨b, 0, none⟩) | 3 => ∃ g, xx = .slice (some ⟨g, 0, none⟩) 1 1 ∧ own' g = none ∧ WW.heap[g]? = some (.cells (p.mark i 3).cells 65 (0, 0)) | _ => True) (TkT w W own' cb x pb rb (.slice ma x.ms.length mc) q (x.now + 1) (aged (x.now + 1) x.ps (idxs pre)).1 i p u (aged (x.now + 1) x.ps (idxs pre)).2) (fun | 0 => undef | 1 => undef | 2 => undef | 3 => undef | 4 => undef | _ => undef) (by repeat (first | exact trivial | refine ⟨fun _ _ => rfl, ?_⟩)) (by intro i x w w' h hs; (try dsimp only at hs ⊢); split at hs <;> first | exact hs | exact trivial | (obtain ⟨g, h1, h2, h3⟩ := hs; exact ⟨g, h1, h2, (h.block g (lt_blk h3)).trans h3⟩)) (by intro i hi v W; simp only [List.mem_cons, List.mem_nil_iff, or_false] at hi; rcases hi with rfl | rfl | rfl <;> trivial) (fun s A B hB h => TkT.below s A B hB h) (TkG.below HG3.out (Below.refl _ _).drew) ⟨?_, ?_, ?_, ?_, ?_, ?_, trivial⟩ ?_
        · rw [if_neg (by decide)]
          intro s hs hmay xS W4 hS hp K hK
          rw [if_pos (wanted_none rfl _)]
          clear hp
          have hbx : Boxed W4 (w.heap.size + 1) 28 u := by
            match s, hs, hmay, hS with
            | 0, _, _, h => exact (TkG.box h)
            | 1, _, _, h => obtain ⟨_, own2, h⟩ := h; exact h.box
            | 2, _, h, _ => exact absurd (h.symm.trans (by kernel_rfl : _ = false)) (by decide)
            | 3, _, h, _ => exact absurd (h.symm.trans (by kernel_rfl : _ = false)) (by decide)
          have hcx := hbx.cell
          go_simp
          exact hK _ _ (Below.refl _ _) rfl
        · rw [if_neg (by decide)]
          intro s hs hmay xS W4 hS hp K hK
          rw [if_pos (wanted_none rfl _)]
          clear hp
          go_simp
          exact hK _ _ (Below.refl _ _) rfl
        · rw [if_pos (by decide)]
          refine ⟨rfl, ?_⟩
          intro xS W4 hS hw K hK
          have h1 : xS 1 = .pointer (some ⟨b, 0, none⟩) := hw 1 (by kernel_rfl)
          clear hw
          have hG : TkG w W own' cb x pb rb (.slice ma x.ms.length mc) q (x.now + 1) (aged (x.now + 1) x.ps (idxs pre)).1 W4 own' u u (aged (x.now + 1) x.ps (idxs pre)).2 := hS
          obtain ⟨b2, hb2, hpr⟩ := hG.co.pr i p HPS.out
          rw [HQB.out] at hb2
          cases hb2
          simp only [h1] at hK ⊢
          go_simp
          refine ⟨trivial, ?_⟩
          refine (CallsIn.inRound l (callsIn_wide.2 (decide_at own' W4 i b p 3 hpr hG.co.owned HPE.out))).mono ?_
          rintro e W5 ⟨rfl, own2, hp2, hs2⟩
          refine hK _ _ ⟨rfl, own2, hG.decided hs2 HQB.out hp2⟩ ?_
          intro j y hj
          (try dsimp only at hj ⊢)
          split at hj <;> first | exact hj | exact trivial | (obtain ⟨g, q1, q2, q3⟩ := hj; exact ⟨g, q1, q2, (hs2.block (lt_blk q3) (fun lb e => by rw [q2] at e; cases e)).trans q3⟩)
        · rw [if_neg (by decide)]
          intro s hs hmay xS W4 hS hp K hK
          rw [if_pos (wanted_none rfl _)]
          have hse := stage_of (s0 := 1) hs hmay (by kernel_rfl)
          subst hse
          replace hS : (TkT w W own' cb x pb rb (.slice ma x.ms.length mc) q (x.now + 1) (aged (x.now + 1) x.ps (idxs pre)).1 i p u (aged (x.now + 1) x.ps (idxs pre)).2) [xS 2] W4 := hS
          clear hp
          obtain ⟨hv, own2, hG⟩ := hS
          refine wpIn_rowM _ rfl (p.mark i 3) ?_ (hK _ _ (below_alloc _ _) ⟨_, rfl, ?_, alloc_blk _ _⟩)
          · exact hv
          · cases ho : own' W4.heap.size with
            | none => rfl
            | some lb => have := HOW.out _ _ ho; have := hG.step.size; omega
        · rw [if_pos (by decide)]
          refine ⟨rfl, ?_⟩
          intro xS W4 hS hw K hK
          have h0 : xS 0 = u := hw 0 (by kernel_rfl)
          have h3 : ∃ g, (xS 3) = .slice (some ⟨g, 0, none⟩) 1 1 ∧ own' g = none ∧ W4.heap[g]? = some (.cells (p.mark i 3).cells 65 (0, 0)) := hw 3 (by kernel_rfl)
          replace hS : (TkT w W own' cb x pb rb (.slice ma x.ms.length mc) q (x.now + 1) (aged (x.now + 1) x.ps (idxs pre)).1 i p u (aged (x.now + 1) x.ps (idxs pre)).2) [xS 2] W4 := hS
          clear hw
          obtain ⟨hv, own2, hG⟩ := hS
          obtain ⟨g, h3, h4, h5⟩ := h3
          refine wpIn_appM1 _ _ rfl w.heap.size u (aged (x.now + 1) x.ps (idxs pre)).2 h0 g (p.mark i 3) h3 hG.own 65 h5 (by have := HML.out; omega) (by have := hG.step.size; have := HI.out.box.lt; omega) ?_
          intro v' W5 hO5 hG5
          refine hK _ _ ⟨_, hG.appended hO5 hG5⟩ ?_
          intro j y hj
          (try dsimp only at hj ⊢)
          split at hj <;> first | exact hj | exact trivial | (obtain ⟨g, q1, q2, q3⟩ := hj; exact ⟨g, q1, q2, (hG5.block g (lt_blk q3) (fun e => by have := HLB.out g e; rw [q2] at this; cases this)).trans q3⟩)
        · rw [if_pos (by decide)]
          refine ⟨rfl, ?_⟩
          intro xS W4 hS hw K hK
          replace hS : (TkT w W own' cb x pb rb (.slice ma x.ms.length mc) q (x.now + 1) (aged (x.now + 1) x.ps (idxs pre)).1 i p u (aged (x.now + 1) x.ps (idxs pre)).2) [xS 2, xS 4] W4 := hS
          clear hw
          obtain ⟨own2, hG⟩ := hS
          have hbx := hG.box
          have hcx := hbx.cell
          have hfx := hbx.frozen
          obtain ⟨ra, rl, rc, hr⟩ : ∃ ra rl rc, xS 4 = .slice ra rl rc := by obtain ⟨a, c, h⟩ := hG.own.form; exact ⟨a, _, c, h⟩
          rw [hr] at hG
          simp only [hr] at hK ⊢
          go_simp
          refine hK undef _ ⟨own2, by rw [hr]; exact hG.stored⟩ ?_
          intro j y hj
          (try dsimp only at hj ⊢)
          split at hj <;> first | exact hj | exact trivial | (obtain ⟨g, q1, q2, q3⟩ := hj; exact ⟨g, q1, q2, (set_blk_other _ _ (fun e => by rw [e, HLT.out] at q2; cases q2)).trans q3⟩)
        rintro xS W4 ⟨own2, hG⟩ -
        clear HLT HLB
        gi_wp2_with fail
        exact HI.out.next hG ((HAG.out _).trans (by rw [hage, hagm]))
  case done =>
    rintro D ys W hD hys ⟨own', u, hI⟩ hK
    have hix : idxs ys = List.range x.ps.length := by
      have h1 : idxs ys = (ys.map (·.1)).map fun e => e.1.toNat := by simp [idxs]
      rw [h1, hys]
      have hl : q.length = x.ps.length := HS.out.len
      apply List.ext_getElem?
      intro j
      rw [List.getElem?_map, tabP_at]
      by_cases hj : j < q.length
      · rw [List.getElem?_eq_getElem hj, List.getElem?_range (by omega)]; simp
      · rw [List.getElem?_eq_none (by omega), List.getElem?_eq_none (by simp; omega)]; rfl
    have hag : aged (x.now + 1) x.ps (idxs ys) = (x.ps.map (·.age (x.now + 1)), ageMs (x.now + 1) 0 x.ps) := by rw [hix]; exact aged_all _ _
    have hcx := hI.box.cell
    have HI : Hid (TkI w W0 own0 cb x pb rb (.slice ma x.ms.length mc) q (x.now + 1) ys W own' u) := hI
    have HAG : Hid _ := hag
    clear hI hix hag
    gi_wp2_with fail
    have hg := grownBy_putObj' W D (.deferred none)
    have hr : ∀ r, some D = some r → ∃ o : Obj, W.heap[r]? = some o ∧ o.isCells = false := fun r e => by cases e; exact ⟨_, hK, rfl⟩
    refine ⟨by simp, .inl ⟨_, _, rfl, run_takeDeferred hK, ?_⟩⟩
    have h1 := HI.out.own
    have h2 := HI.out.co
    rw [HAG.out] at h1 h2
    exact ⟨_, results_tmp rfl _ _ _, u, own', rfl, h1.turn hg hr, HI.out.labs, h2.turn hg hr, (HST.out.trans HI.out.step).tail (belowK_b (w := w) (Nat.le_refl _) W D _ _ (by have := HS0.out; omega) hK rfl rfl)⟩
  case stop =>
    rintro D c pre W _ _ h _
    exact h.elim
end Go.Proofs.Ytoihfhlelbdboab
