/- A name is admitted. -/
import Derived.Test.YtoihfhlelbdboabCoT
import Derived.Test.YtoihfhlelbdboabInv10
import Derived.Test.YtoihfhlelbdboabInv9
namespace Go.Proofs.Ytoihfhlelbdboab
open Go.RowKit Go.Dig Go.Inv Go.Oct Go.Hold
set_option linter.unusedVariables false
set_option linter.unusedSimpArgs false

def AllP (_ : Lab) : Prop := True
theorem Step.all {P : Lab → Prop} {a b : Own} {u v : World} (h : Step P a b u v) : Step AllP a b u v := h.mono fun _ _ => trivial
/-- what the calls that do an operation answer -/
def RunQ (own : Own) (w : World) (cb : Nat) (x : Co) (pb rb : Nat) (mv : Value) (r : Rp.Rp3) (ms : List Mk) (ps : List Pr) (now : Int) (e : Ending) (w' : World) : Prop :=
  ∃ v own' q', e = .returned (.tuple #[.agg (rpC r), v]) ∧ OwnM w' w.heap.size v ms ∧ (∀ k, v.ownBlock = some k → own' k = some .tmp) ∧ CoS own' w' cb ⟨ps, x.rs, x.ms, now⟩ pb rb mv q' ∧ Step AllP own own' w w'
/-- what may be known of the producers -/
structure PsOk (ps : List Pr) : Prop where
  len : ps.length ≤ 8
  each : ∀ p ∈ ps, p.ends.length ≤ 1000 ∧ 0 ≤ p.ep ∧ p.ep ≤ 1000
theorem findN_at : ∀ (nm : ByteArray) (ps : List Pr) (i k : Nat), findN nm ps i = some k → i ≤ k ∧ k - i < ps.length
  | _, [], _, _, h => by cases h
  | nm, p :: r, i, k, h => by
    unfold findN at h
    split at h
    · cases h; simp
    · have := findN_at nm r (i + 1) k h
      simp; omega
/-- a block that is none of its own has turned, and is no node -/
theorem CoS.other {own : Own} {A B : World} {cb g : Nat} {x : Co} {pb rb : Nat} {mv : Value} {q : List Nat} (h : CoS own A cb x pb rb mv q) (hF : Frm (· = g) A B) (hg : own g = none) (hl : NoLow A g) : CoS own B cb x pb rb mv q := by
  have hb : ∀ k l, own k = some l → B.heap[k]? = A.heap[k]? := fun k l hk => hF.block k (h.owned k l hk) fun e => by
    have e : k = g := e
    rw [e, hg] at hk; cases hk
  have hn : ∀ k l, own k = some l → ¬ k = g := fun k l hk e => by rw [e, hg] at hk; cases hk
  refine ⟨h.owned.mono hF.size, (hb _ _ h.lc).trans h.blk, h.lc, h.lp, h.lr, h.tp.frmL hF (hn _ _ h.lp) (fun k e z => by subst e; exact (hl z).1), h.tr.frmL hF (hn _ _ h.lr) (fun k e z => by subst e; exact (hl z).2), h.ms.same fun k hk => hb k _ (h.lm k hk), h.lm, h.len, fun i p hp => ?_⟩
  obtain ⟨b, h1, ev, ov, h2⟩ := h.pr i p hp
  exact ⟨b, h1, ev, ov, (hb _ _ h2.lab).trans h2.blk, h2.lab, ⟨h2.ends.1.same fun k hk => hb k _ (h2.ends.2 k hk), h2.ends.2⟩, h2.op.same (fun _ _ => rfl) fun k hk => hb k _ hk⟩
theorem low_reply {w : World} {g : Nat} {r : Rp.Rp3} (h : w.heap[g]? = some (.cells (rpC r) 27 (0, 0))) : NoLow w g := fun z =>
  ⟨fun e => (by rw [cell_blk h] at e; simp [rpC] at e), fun e => (by rw [cell_blk h] at e; simp [rpC] at e)⟩
section
variable {o : Oper} {a : Act} {w : World} {K : Act → World → Prop} {Q : Exit → Act → World → Prop}
theorem wp_box_row (hgd : o.guard = none) (ty : TypeId) (x : Operand) (ho : o.op = .box ty x) (c : Array Value) (hx : a.eval x = .agg c) (h : K (a.put o.dst (.pointer (some ⟨w.heap.size, 0, none⟩))) (w.alloc (.cells c ty))) : o.wp Try.prog a w K Q := by
  unfold Oper.wp execOp
  simp [ho, hx, Instr.box, newVar, newRow, Value.cells]
  exact h
end
def rp0 : Rp.Rp3 := ⟨0, 0, 0⟩
set_option maxRecDepth 100000 in
set_option maxHeartbeats 4000000 in
theorem admit_full (own : Own) (w : World) (cb : Nat) (x : Co) (pb rb : Nat) (mv : Value) (q : List Nat) (h : CoS own w cb x pb rb mv q) (hok : PsOk x.ps) (nm : ByteArray) (hf : findN nm x.ps 0 = none) (h8 : 8 ≤ x.ps.length) :
    Calls Try.prog 34 #[.pointer (some ⟨cb, 0, none⟩), .string nm] w (RunQ own w cb x pb rb mv (err 3) [] x.ps x.now) := by
  have hB0 := below_alloc w (.cells #[.int .i64 0, .int .i64 0, .int .i64 0] 27)
  have z0 : (w.alloc (.cells #[.int .i64 0, .int .i64 0, .int .i64 0] 27)).heap[w.heap.size]? = some (.cells (rpC rp0) 27 (0, 0)) := alloc_blk _ _
  have hs0 : (w.alloc (.cells #[.int .i64 0, .int .i64 0, .int .i64 0] 27)).heap.size = w.heap.size + 1 := by simp
  have h0 := h.below hB0
  have h2 : (x.ps.length : Int) = (q.length : Int) := by rw [h.len]
  have hz : (8 : Int) ≤ (q.length : Int) := by omega
  go_enter Try.func34, Try.ntmps34
  go_wp2_with (first | (go_at_call 48; refine (named_at own _ cb x pb rb mv q h0 nm).mono ?_; rw [hf]; rintro e w1 ⟨rfl, hB1⟩; have h1 := h0.below hB1; have c0 : w1.cell? ⟨cb, 0, none⟩ = some (.pointer (some ⟨pb, 0, none⟩)) := cell_blk h1.blk 0) | (go_at_call 49; refine (Pp.Len_any _ (tabP 0 q) _ (.inr ⟨pb, rfl, h1.tp⟩)).mono ?_; rintro e w2 ⟨rfl, rfl⟩; rw [tabP_length]) | (go_at_call 18; refine (plain_any 3 _).mono ?_; rintro e w3 ⟨rfl, hB3⟩; have hz3 := (hB3.block _ (by have := hB1.size; omega)).trans ((hB1.block _ (by omega)).trans z0)) | (refine wpList_store_whole rfl 27 _ _ rfl w.heap.size (rpC (err 3)) (rpC rp0) ?_ ?_ 27 hz3 (by kernel_rfl) (rpC_all _) rfl ?_; rfl; rfl))
  intro w4 h4 hK4
  go_wp2_with fail
  have hBa : Below w.heap.size w w4 := ((hB0.trans (hB1.mono (by omega))).trans (hB3.mono (by have := hB1.size; omega))).trans (hK4.below (Nat.le_refl _) (by have := hB1.size; have := hB3.size; omega))
  exact bodyPost_ret (results_agg_tmp rfl _ _ w.heap.size (rpC (err 3)) 27 (0, 0) (.slice none 0 0) rfl rfl (by kernel_rfl) h4 (by kernel_rfl)) rfl ⟨_, own, q, rfl, OwnM.nil _ _, fun k hk => (by cases hk), h.below hBa, Step.of_below hBa h.owned⟩
set_option maxRecDepth 100000 in
set_option maxHeartbeats 4000000 in
theorem admit_used (own : Own) (w : World) (cb : Nat) (x : Co) (pb rb : Nat) (mv : Value) (q : List Nat) (h : CoS own w cb x pb rb mv q) (hok : PsOk x.ps) (nm : ByteArray) (i : Nat) (p : Pr) (hf : findN nm x.ps 0 = some i) (hp : x.ps[i]? = some p) (he : 100 ≤ p.ep) :
    Calls Try.prog 34 #[.pointer (some ⟨cb, 0, none⟩), .string nm] w (RunQ own w cb x pb rb mv (err 7) [] x.ps x.now) := by
  have hB0 := below_alloc w (.cells #[.int .i64 0, .int .i64 0, .int .i64 0] 27)
  have z0 : (w.alloc (.cells #[.int .i64 0, .int .i64 0, .int .i64 0] 27)).heap[w.heap.size]? = some (.cells (rpC rp0) 27 (0, 0)) := alloc_blk _ _
  have hs0 : (w.alloc (.cells #[.int .i64 0, .int .i64 0, .int .i64 0] 27)).heap.size = w.heap.size + 1 := by simp
  have h0 := h.below hB0
  obtain ⟨b, hq, hpr⟩ := h0.pr i p hp
  obtain ⟨ev, ov, hpr⟩ := hpr
  have hbind : ((some i : Option Nat).bind fun i => (q[i]?).map fun b => (⟨b, 0, none⟩ : Addr)) = some ⟨b, 0, none⟩ := by simp [hq]
  go_enter Try.func34, Try.ntmps34
  go_wp2_with (first | (go_at_call 48; refine (named_at own _ cb x pb rb mv q h0 nm).mono ?_; rw [hf, hbind]; rintro e w1 ⟨rfl, hB1⟩; have h1 := hpr.below hB1 h0.owned; have c2 : w1.cell? ⟨b, 2, none⟩ = some (.int .i64 p.ep) := cell_blk h1.blk 2) | (go_at_call 18; refine (plain_any 7 _).mono ?_; rintro e w3 ⟨rfl, hB3⟩; have hz3 := (hB3.block _ (by have := hB1.size; omega)).trans ((hB1.block _ (by omega)).trans z0)) | (refine wpList_store_whole rfl 27 _ _ rfl w.heap.size (rpC (err 7)) (rpC rp0) ?_ ?_ 27 hz3 (by kernel_rfl) (rpC_all _) rfl ?_; rfl; rfl))
  intro w4 h4 hK4
  go_wp2_with fail
  have hBa : Below w.heap.size w w4 := ((hB0.trans (hB1.mono (by omega))).trans (hB3.mono (by have := hB1.size; omega))).trans (hK4.below (Nat.le_refl _) (by have := hB1.size; have := hB3.size; omega))
  exact bodyPost_ret (results_agg_tmp rfl _ _ w.heap.size (rpC (err 7)) 27 (0, 0) (.slice none 0 0) rfl rfl (by kernel_rfl) h4 (by kernel_rfl)) rfl ⟨_, own, q, rfl, OwnM.nil _ _, fun k hk => (by cases hk), h.below hBa, Step.of_below hBa h.owned⟩
/-- the world in which a mark is laid behind the others, and the reply answered -/
structure AdmI (own : Own) (w : World) (cb : Nat) (x : Co) (pb rb : Nat) (mv : Value) (ps : List Pr) (b : Nat) (i ep : Int) (v : Value) (ms : List Mk) (own2 : Own) (q2 : List Nat) (W : World) : Prop where
  co : CoS own2 W cb ⟨ps, x.rs, x.ms, x.now⟩ pb rb mv q2
  step : Step AllP own own2 w W
  row : OwnM W w.heap.size v ms
  labs : ∀ k, v.ownBlock = some k → own2 k = some .tmp
  cell : W.heap[w.heap.size]? = some (.cells (rpC rp0) 27 (0, 0))
  free : own2 w.heap.size = none
  blk : ∃ nm ev ov, W.heap[b]? = some (.cells (prC nm i ep ev ov) 62 (0, 0))
theorem AdmI.below {own : Own} {w : World} {cb : Nat} {x : Co} {pb rb : Nat} {mv : Value} {ps : List Pr} {b : Nat} {i ep : Int} {v : Value} {ms : List Mk} {own2 : Own} {q2 : List Nat} {W W4 : World} (h : AdmI own w cb x pb rb mv ps b i ep v ms own2 q2 W) (hB : Below W.heap.size W W4) : AdmI own w cb x pb rb mv ps b i ep v ms own2 q2 W4 :=
  ⟨h.co.below hB, h.step.trans (Step.of_below hB h.co.owned), h.row.below hB, h.labs, (hB.block _ (lt_blk h.cell)).trans h.cell, h.free, by obtain ⟨nm, ev, ov, h1⟩ := h.blk; exact ⟨nm, ev, ov, (hB.block _ (lt_blk h1)).trans h1⟩⟩
theorem OwnM.tag {w : World} {base : Nat} {v : Value} {L : List Mk} (h : OwnM w base v L) {k : Nat} (hk : v.ownBlock = some k) : ∃ c, w.heap[k]? = some (.cells c 65 (0, 0)) := by
  rcases h.1.2 with ⟨rfl, _⟩ | ⟨g, cap, cur, rfl, _, hgg, _⟩
  · cases hk
  · cases hk; exact ⟨_, hgg⟩
/-- a mark is laid behind the others -/
theorem AdmI.app {own : Own} {w : World} {cb : Nat} {x : Co} {pb rb : Nat} {mv : Value} {ps : List Pr} {b : Nat} {i ep : Int} {v v' : Value} {ms ms' : List Mk} {own2 : Own} {q2 : List Nat} {W W4 : World} (h : AdmI own w cb x pb rb mv ps b i ep v ms own2 q2 W) (hO : OwnM W4 w.heap.size v' ms') (hG : Gr W W4 v v') :
    AdmI own w cb x pb rb mv ps b i ep v' ms' (own2.row v' .tmp) q2 W4 := by
  have hs : ∀ P : Lab → Prop, P .tmp → Step P own2 (own2.row v' .tmp) W W4 := fun P hP => Step.gr hG h.labs hP (fun k hk => h.row.low hk) (fun k hk => (hO.lt k hk).2) h.co.owned (fun k hk => h.row.blk hk)
  have hne : ∀ k c t, W.heap[k]? = some (.cells c t (0, 0)) → t ≠ 65 → v.ownBlock ≠ some k := fun k c t h1 h2 e => by
    obtain ⟨c', h3⟩ := h.row.tag e
    rw [h1] at h3; injection h3 with h3; injection h3 with _ h3; exact h2 h3
  refine ⟨h.co.stepT (hs _ rfl), h.step.trans (hs _ trivial), hO, fun k hk => Own.row_yes hk, (hG.block _ (lt_blk h.cell) (hne _ _ _ h.cell (by decide))).trans h.cell, ?_, ?_⟩
  · rw [Own.row_not (fun e => ?_)]
    · exact h.free
    · rcases hG.own _ e with h1 | h1
      · have := h.labs _ h1
        rw [h.free] at this; cases this
      · have := lt_blk h.cell; omega
  · obtain ⟨nm, ev, ov, h1⟩ := h.blk
    exact ⟨nm, ev, ov, (hG.block _ (lt_blk h1) (hne _ _ _ h1 (by decide))).trans h1⟩
/-- the reply is laid, and that is all -/
theorem AdmI.done {own : Own} {w : World} {cb : Nat} {x : Co} {pb rb : Nat} {mv : Value} {ps : List Pr} {b : Nat} {i ep : Int} {v : Value} {ms : List Mk} {own2 : Own} {q2 : List Nat} {W W4 : World} {r : Rp.Rp3} (h : AdmI own w cb x pb rb mv ps b i ep v ms own2 q2 W) (hK : Keeps w.heap.size W W4) :
    RunQ own w cb x pb rb mv r ms ps x.now (.returned (.tuple #[.agg (rpC r), v])) W4 := by
  have hF : Frm (· = w.heap.size) W W4 := ⟨hK.os, hK.tape, hK.output, hK.size, fun k hk hn => hK.block k hk hn⟩
  have hne : ∀ k, v.ownBlock = some k → k ≠ w.heap.size := fun k hk e => by have := h.labs k hk; rw [e, h.free] at this; cases this
  exact ⟨v, own2, q2, rfl, h.row.same fun k hk => hK.block k (h.row.lt k hk).2 (hne k hk), h.labs, h.co.other hF h.free (low_reply h.cell), h.step.tail (hK.below (Nat.le_refl _) h.step.size)⟩
theorem RunQ.below {own : Own} {w : World} {cb : Nat} {x : Co} {pb rb : Nat} {mv : Value} {r : Rp.Rp3} {ms : List Mk} {ps : List Pr} {now : Int} {e : Ending} {W W4 : World} (h : RunQ own w cb x pb rb mv r ms ps now e W) (hB : Below W.heap.size W W4) : RunQ own w cb x pb rb mv r ms ps now e W4 := by
  obtain ⟨v, own2, q2, h1, h2, h3, h4, h5⟩ := h
  exact ⟨v, own2, q2, h1, h2.below hB, h3, h4.below hB, h5.trans (Step.of_below hB h4.owned)⟩
def AdmS (own : Own) (w : World) (cb : Nat) (x : Co) (pb rb : Nat) (mv : Value) (ps : List Pr) (b : Nat) (i ep : Int) (v : Value) (ms : List Mk) (own2 : Own) (q2 : List Nat) (r : Rp.Rp3) : List Value → World → Prop
  | [], W => AdmI own w cb x pb rb mv ps b i ep v ms own2 q2 W
  | _ :: _, W => W.heap[w.heap.size]? = some (.cells (rpC r) 27 (0, 0)) ∧ RunQ own w cb x pb rb mv r ms ps x.now (.returned (.tuple #[.agg (rpC r), v])) W
theorem AdmS.below {own : Own} {w : World} {cb : Nat} {x : Co} {pb rb : Nat} {mv : Value} {ps : List Pr} {b : Nat} {i ep : Int} {v : Value} {ms : List Mk} {own2 : Own} {q2 : List Nat} {r : Rp.Rp3} : ∀ (s : List Value) (A B : World), Below A.heap.size A B → AdmS own w cb x pb rb mv ps b i ep v ms own2 q2 r s A → AdmS own w cb x pb rb mv ps b i ep v ms own2 q2 r s B
  | [], A, B, hB, h => AdmI.below h hB
  | _ :: _, A, B, hB, ⟨h1, h2⟩ => ⟨(hB.block _ (lt_blk h1)).trans h1, h2.below hB⟩
set_option maxRecDepth 100000 in
set_option maxHeartbeats 4000000 in
theorem admit_old (own : Own) (w : World) (cb : Nat) (x : Co) (pb rb : Nat) (mv : Value) (q : List Nat) (h : CoS own w cb x pb rb mv q) (hok : PsOk x.ps) (nm : ByteArray) (i : Nat) (p : Pr) (hf : findN nm x.ps 0 = some i) (hp : x.ps[i]? = some p) (he : ¬ 100 ≤ p.ep) :
    Calls Try.prog 34 #[.pointer (some ⟨cb, 0, none⟩), .string nm] w (RunQ own w cb x pb rb mv ⟨0, i, p.ep + 1⟩ (p.renewM i ++ [⟨1, i, p.ep + 1, 0⟩]) (x.ps.set i p.renew) x.now) := by
  have hB0 := below_alloc w (.cells #[.int .i64 0, .int .i64 0, .int .i64 0] 27)
  have z0 : (w.alloc (.cells #[.int .i64 0, .int .i64 0, .int .i64 0] 27)).heap[w.heap.size]? = some (.cells (rpC rp0) 27 (0, 0)) := alloc_blk _ _
  have hs0 : (w.alloc (.cells #[.int .i64 0, .int .i64 0, .int .i64 0] 27)).heap.size = w.heap.size + 1 := by simp
  have h0 := h.below hB0
  obtain ⟨b, hq, ev, ov, hpr⟩ := h0.pr i p hp
  obtain ⟨ho1, ho2, ho3⟩ := hok.each p (List.mem_of_getElem? hp)
  have hbind : ((some i : Option Nat).bind fun i => (q[i]?).map fun b => (⟨b, 0, none⟩ : Addr)) = some ⟨b, 0, none⟩ := by simp [hq]
  go_enter Try.func34, Try.ntmps34
  go_upto_region 11 with (first | (go_at_call 48; refine (named_at own _ cb x pb rb mv q h0 nm).mono ?_; rw [hf, hbind]; rintro e w1 ⟨rfl, hB1⟩; have h1 := hpr.below hB1 h0.owned; have c2 : w1.cell? ⟨b, 2, none⟩ = some (.int .i64 p.ep) := cell_blk h1.blk 2) | (go_at_call 52; refine (renew_at own w1 i b p ⟨ev, ov, h1⟩ (h0.owned.mono hB1.size) ho1 ⟨ho2, ho3⟩).mono ?_; rintro e w2 ⟨v, rfl, hO2, own2, hl2, hp2, hst2⟩))
  have HI : Hid (AdmI own w cb x pb rb mv (x.ps.set i p.renew) b i (p.ep + 1) v (p.renewM i) own2 q w2) := by
    have hco1 := h0.below hB1
    have hst0 : Step AllP own own w w1 := Step.of_below (hB0.trans (hB1.mono (by omega))) h.owned
    have hw1 : w.heap.size < w1.heap.size := by have := hB1.size; omega
    have hfree : own w.heap.size = none := by
      cases ho : own w.heap.size with
      | none => rfl
      | some l => have := h.owned _ _ ho; omega
    obtain ⟨ev2, ov2, hp2'⟩ := hp2
    refine ⟨hco1.prod hst2 hq ⟨ev2, ov2, hp2'⟩, hst0.trans hst2.all, hO2.mono (by omega), hl2, (hst2.block hw1 fun l e => by rw [hfree] at e; cases e).trans ((hB1.block _ (by omega)).trans z0), (hst2.old _ hw1).trans hfree, p.nm, ev2, ov2, hp2'.blk⟩
  have HM : Hid ((p.renewM i).length ≤ 10) := by show (p.renewM i).length ≤ 10; unfold Pr.renewM; split <;> simp
  obtain ⟨N, HN⟩ : ∃ N, Hid (p.renewM i = N) := ⟨_, rfl⟩
  obtain ⟨E, HE⟩ : ∃ E, Hid (p.ep + 1 = E) := ⟨_, rfl⟩
  obtain ⟨PS, HPS⟩ : ∃ PS, Hid (x.ps.set i p.renew = PS) := ⟨_, rfl⟩
  obtain ⟨I, HII⟩ : ∃ I : Int, Hid ((i : Int) = I) := ⟨_, rfl⟩
  rw [HN.out, HE.out, HPS.out, HII.out] at HI
  rw [HN.out] at HM
  rw [HN.out, HE.out, HPS.out, HII.out]
  clear hB1 h1 c2 hO2 hl2 hp2 hst2 hB0 z0 hs0 h0 hpr hbind hf he ho1 ho2 ho3
  obtain ⟨nm2, ev2, ov2, hb2⟩ := HI.out.blk
  have cb1 : w2.cell? ⟨b, 1, none⟩ = some (.int .i64 I) := cell_blk hb2 1
  have cb2 : w2.cell? ⟨b, 2, none⟩ = some (.int .i64 E) := cell_blk hb2 2
  have hbl := lt_blk hb2
  clear hb2
  refine wp_region_pivotX (by kernel_rfl) (by kernel_rfl) 11 (by decide) (by kernel_rfl) (by kernel_rfl) (fun xS => { tmps := (Value.pointer (some (⟨cb, 0, none⟩ : Addr)) :: Value.string nm :: undef :: undef :: Value.pointer (some (⟨w.heap.size, 0, none⟩ : Addr)) :: Value.slice none 0 0 :: xS 12 :: Value.pointer (some (⟨b, 0, none⟩ : Addr)) :: Value.pointer (some (⟨cb, 0, none⟩ : Addr)) :: Value.string nm :: Value.pointer (some (⟨b, 0, none⟩ : Addr)) :: Value.pointer (some (⟨b, 0, none⟩ : Addr)) :: v :: Value.bool false :: Value.pointer (some (⟨b, 0, none⟩ : Addr)) :: Value.bool false :: Value.bool false :: undef :: undef :: undef :: undef :: undef :: undef :: Value.bool false :: undef :: Value.bool false :: Value.pointer (some (⟨b, 0, none⟩ : Addr)) :: Value.bool false :: undef :: undef :: undef :: undef :: undef :: undef :: undef :: undef :: undef :: undef :: undef :: undef :: undef :: undef :: undef :: undef :: undef :: undef :: undef :: Value.bool (decide (100 ≤ p.ep)) :: Value.pointer (some (⟨b, 0, none⟩ : Addr)) :: Value.pointer (some (⟨b, 0, none⟩ : Addr)) :: Value.pointer (some (⟨b, 2, none⟩ : Addr)) :: Value.int IntKind.i64 p.ep :: Value.bool (decide (100 ≤ p.ep)) :: undef :: xS 0 :: xS 1 :: xS 2 :: xS 3 :: xS 4 :: xS 5 :: xS 6 :: xS 7 :: xS 8 :: xS 9 :: xS 10 :: xS 11 :: undef :: undef :: undef :: undef :: undef :: undef :: undef :: undef :: undef :: undef :: []).toArray, defers := [] })
    (fun ii xx WW => match ii with | 0 => xx = v | 1 => xx = Value.pointer (some (⟨b, 0, none⟩ : Addr)) | 2 => xx = Value.pointer (some (⟨b, 0, none⟩ : Addr)) | 3 => xx = .pointer (some ⟨b, 1, none⟩) | 4 => xx = .int .i64 I | 5 => xx = Value.pointer (some (⟨b, 0, none⟩ : Addr)) | 6 => xx = Value.pointer (some (⟨b, 0, none⟩ : Addr)) | 7 => xx = .pointer (some ⟨b, 2, none⟩) | 8 => xx = .int .i64 E | 9 => xx = .agg (Mk.cells ⟨1, I, E, 0⟩) | 10 => ∃ g, xx = .slice (some ⟨g, 0, none⟩) 1 1 ∧ WW.heap[g]? = some (.cells (Mk.cells ⟨1, I, E, 0⟩) 65 (0, 0)) | _ => True) (fun li xS W => ∃ own3 q3, (li 12 = true → xS 12 = xS 11) ∧ AdmI own w cb x pb rb mv PS b I E (xS 11) (N ++ [⟨1, I, E, 0⟩]) own3 q3 W) (fun | 0 => undef | 1 => undef | 2 => undef | 3 => undef | 4 => undef | 5 => undef | 6 => undef | 7 => undef | 8 => undef | 9 => undef | 10 => undef | 11 => undef | 12 => v | _ => undef) (by repeat (first | exact trivial | refine ⟨fun _ _ => rfl, ?_⟩)) (by intro i x w w' h hs; (try dsimp only at hs ⊢); split at hs <;> first | exact hs | exact trivial | (obtain ⟨g, h1, h3⟩ := hs; exact ⟨g, h1, (h.block g (lt_blk h3)).trans h3⟩)) ⟨?_, ?_, ?_, ?_, ?_, ?_, ?_, ?_, ?_, ?_, ?_, ⟨rfl, ?_⟩, ?_, trivial⟩ ?_
  · intro xS W hx hB hp K hK
    rw [if_pos (wanted_none rfl _)]
    clear hp
    have h12 : xS 12 = v := hx 12 (by decide)
    clear hx
    simp only [h12] at hK ⊢
    clear h12
    go_simp
    exact hK _ _ (Below.refl _ _) rfl
  · intro xS W hx hB hp K hK
    clear hx
    rw [if_pos (wanted_none rfl _)]
    clear hp
    go_simp
    exact hK _ _ (Below.refl _ _) rfl
  · intro xS W hx hB hp K hK
    clear hx
    rw [if_pos (wanted_none rfl _)]
    have h1 : xS 1 = Value.pointer (some (⟨b, 0, none⟩ : Addr)) := hp.1 rfl
    clear hp
    simp only [h1] at hK ⊢
    clear h1
    go_simp
    exact hK _ _ (Below.refl _ _) rfl
  · intro xS W hx hB hp K hK
    clear hx
    rw [if_pos (wanted_none rfl _)]
    have h2 : xS 2 = Value.pointer (some (⟨b, 0, none⟩ : Addr)) := hp.1 rfl
    clear hp
    simp only [h2] at hK ⊢
    clear h2
    go_simp
    exact hK _ _ (Below.refl _ _) rfl
  · intro xS W hx hB hp K hK
    clear hx
    rw [if_pos (wanted_none rfl _)]
    have h3 : xS 3 = .pointer (some ⟨b, 1, none⟩) := hp.1 rfl
    clear hp
    have hc := (hB.cell (p := ⟨b, 1, none⟩) hbl).trans cb1
    simp only [h3] at hK ⊢
    clear h3
    go_simp
    exact hK _ _ (Below.refl _ _) rfl
  · intro xS W hx hB hp K hK
    clear hx
    rw [if_pos (wanted_none rfl _)]
    clear hp
    go_simp
    exact hK _ _ (Below.refl _ _) rfl
  · intro xS W hx hB hp K hK
    clear hx
    rw [if_pos (wanted_none rfl _)]
    have h5 : xS 5 = Value.pointer (some (⟨b, 0, none⟩ : Addr)) := hp.1 rfl
    clear hp
    simp only [h5] at hK ⊢
    clear h5
    go_simp
    exact hK _ _ (Below.refl _ _) rfl
  · intro xS W hx hB hp K hK
    clear hx
    rw [if_pos (wanted_none rfl _)]
    have h6 : xS 6 = Value.pointer (some (⟨b, 0, none⟩ : Addr)) := hp.1 rfl
    clear hp
    simp only [h6] at hK ⊢
    clear h6
    go_simp
    exact hK _ _ (Below.refl _ _) rfl
  · intro xS W hx hB hp K hK
    clear hx
    rw [if_pos (wanted_none rfl _)]
    have h7 : xS 7 = .pointer (some ⟨b, 2, none⟩) := hp.1 rfl
    clear hp
    have hc := (hB.cell (p := ⟨b, 2, none⟩) hbl).trans cb2
    simp only [h7] at hK ⊢
    clear h7
    go_simp
    exact hK _ _ (Below.refl _ _) rfl
  · intro xS W hx hB hp K hK
    clear hx
    rw [if_pos (wanted_none rfl _)]
    have h4 : xS 4 = .int .i64 I := hp.1 rfl
    have h8 : xS 8 = .int .i64 E := hp.2.1 rfl
    clear hp
    simp only [h4, h8] at hK ⊢
    refine wp_build_to 65 _ rfl (Mk.cells ⟨1, I, E, 0⟩) (by kernel_rfl) ?_
    exact hK _ _ (Below.refl _ _) rfl
  · intro xS W hx hB hp K hK
    clear hx
    rw [if_pos (wanted_none rfl _)]
    have h9 : xS 9 = .agg (Mk.cells ⟨1, I, E, 0⟩) := hp.1 rfl
    clear hp
    exact wp_rowM _ rfl ⟨1, I, E, 0⟩ h9 (hK _ _ (below_alloc _ _) ⟨_, rfl, alloc_blk _ _⟩)
  · intro li xS W hB hs hno K hK
    have h0 : xS 0 = v := hs 0 (by decide)
    have h10 : ∃ g, (xS 10) = .slice (some ⟨g, 0, none⟩) 1 1 ∧ W.heap[g]? = some (.cells (Mk.cells ⟨1, I, E, 0⟩) 65 (0, 0)) := hs 10 (by decide)
    clear hs
    obtain ⟨g, h10, hg10⟩ := h10
    have hA := HI.out.below hB
    refine wp_appM1 _ _ rfl w.heap.size v N h0 g ⟨1, I, E, 0⟩ h10 hA.row 65 hg10 (by have := HM.out; omega) (by have := lt_blk hA.cell; omega) ?_
    intro v' W5 hO5 hG5
    exact hK _ _ ⟨_, _, fun h => absurd h (by rw [upd_other _ _ (by decide)]; rw [hno 12 (by decide)]; decide), by rw [upd_same]; exact hA.app hO5 hG5⟩
  · intro li xS W hF hli hp K hK
    rw [if_pos (wanted_none rfl _)]
    obtain ⟨own3, q3, -, hA⟩ := hF
    go_simp
    exact hK _ _ ⟨own3, q3, fun _ => by rw [upd_same, upd_other _ _ (by decide)], by rw [upd_other _ _ (by decide)]; exact hA⟩
  rintro li xs0 W3 ⟨own3, q3, h12, hA⟩ hall
  have h12 := h12 (hall 12 (by decide))
  simp only [h12]
  obtain ⟨nm3, ev3, ov3, hb3⟩ := hA.blk
  have cd1 : W3.cell? ⟨b, 1, none⟩ = some (.int .i64 I) := cell_blk hb3 1
  have cd2 : W3.cell? ⟨b, 2, none⟩ = some (.int .i64 E) := cell_blk hb3 2
  have hbl3 := lt_blk hb3
  obtain ⟨v3, hv3⟩ : ∃ v3, xs0 11 = v3 := ⟨_, rfl⟩
  rw [hv3] at hA
  simp only [hv3]
  have HA3 : Hid (AdmI own w cb x pb rb mv PS b I E v3 (N ++ [⟨1, I, E, 0⟩]) own3 q3 W3) := hA
  clear hA hb3 h12 hv3
  go_upto_region 12 with fail
  refine wp_region_turnsV (by kernel_rfl) (by kernel_rfl) [10] (by kernel_rfl) (by decide) (by decide) (fun xS => { tmps := (Value.pointer (some (⟨cb, 0, none⟩ : Addr)) :: Value.string nm :: undef :: undef :: Value.pointer (some (⟨w.heap.size, 0, none⟩ : Addr)) :: xS 11 :: v3 :: Value.pointer (some (⟨b, 0, none⟩ : Addr)) :: Value.pointer (some (⟨cb, 0, none⟩ : Addr)) :: Value.string nm :: Value.pointer (some (⟨b, 0, none⟩ : Addr)) :: Value.pointer (some (⟨b, 0, none⟩ : Addr)) :: v :: Value.bool false :: Value.pointer (some (⟨b, 0, none⟩ : Addr)) :: Value.bool false :: Value.bool false :: undef :: undef :: undef :: undef :: undef :: undef :: Value.bool false :: undef :: Value.bool false :: Value.pointer (some (⟨b, 0, none⟩ : Addr)) :: Value.bool false :: undef :: undef :: undef :: undef :: undef :: undef :: undef :: undef :: undef :: undef :: undef :: undef :: undef :: undef :: undef :: undef :: undef :: undef :: undef :: Value.bool (decide (100 ≤ p.ep)) :: Value.pointer (some (⟨b, 0, none⟩ : Addr)) :: Value.pointer (some (⟨b, 0, none⟩ : Addr)) :: Value.pointer (some (⟨b, 2, none⟩ : Addr)) :: Value.int IntKind.i64 p.ep :: Value.bool (decide (100 ≤ p.ep)) :: undef :: xs0 0 :: xs0 1 :: xs0 2 :: xs0 3 :: xs0 4 :: xs0 5 :: xs0 6 :: xs0 7 :: xs0 8 :: xs0 9 :: xs0 10 :: v3 :: xS 0 :: xS 1 :: xS 2 :: xS 3 :: xS 4 :: xS 5 :: xS 6 :: xS 7 :: xS 8 :: xS 9 :: []).toArray, defers := [] })
    (fun ii xx WW => match ii with | 0 => xx = Value.pointer (some (⟨b, 0, none⟩ : Addr)) | 1 => xx = Value.pointer (some (⟨b, 0, none⟩ : Addr)) | 2 => xx = .pointer (some ⟨b, 1, none⟩) | 3 => xx = .int .i64 I | 4 => xx = Value.pointer (some (⟨b, 0, none⟩ : Addr)) | 5 => xx = Value.pointer (some (⟨b, 0, none⟩ : Addr)) | 6 => xx = .pointer (some ⟨b, 2, none⟩) | 7 => xx = .int .i64 E | 8 => xx = .agg (rpC ⟨0, I, E⟩) | 9 => xx = v3 | 11 => xx = v3 | _ => True) (AdmS own w cb x pb rb mv PS b I E v3 (N ++ [⟨1, I, E, 0⟩]) own3 q3 ⟨0, I, E⟩) (fun | 0 => undef | 1 => undef | 2 => undef | 3 => undef | 4 => undef | 5 => undef | 6 => undef | 7 => undef | 8 => undef | 9 => undef | 11 => Value.slice none 0 0 | _ => undef) (by repeat (first | exact trivial | refine ⟨fun _ _ => rfl, ?_⟩)) (fun _ _ _ _ _ h => h) (by intro i hi v W; simp only [List.mem_cons, List.mem_nil_iff, or_false] at hi; rcases hi with rfl <;> trivial) (fun s A B hB h => AdmS.below s A B hB h) (AdmI.below HA3.out (Below.refl _ _).drew) ⟨?_, ?_, ?_, ?_, ?_, ?_, ?_, ?_, ?_, ?_, ?_, ?_, trivial⟩ ?_
  · rw [if_neg (by decide)]
    intro s hs hmay xS W hS hp K hK
    rw [if_pos (wanted_none rfl _)]
    clear hp
    go_simp
    exact hK _ _ (Below.refl _ _) rfl
  · rw [if_neg (by decide)]
    intro s hs hmay xS W hS hp K hK
    rw [if_pos (wanted_none rfl _)]
    have h0 : xS 0 = Value.pointer (some (⟨b, 0, none⟩ : Addr)) := hp.1 rfl
    clear hp
    simp only [h0] at hK ⊢
    clear h0
    go_simp
    exact hK _ _ (Below.refl _ _) rfl
  · rw [if_neg (by decide)]
    intro s hs hmay xS W hS hp K hK
    rw [if_pos (wanted_none rfl _)]
    have h1 : xS 1 = Value.pointer (some (⟨b, 0, none⟩ : Addr)) := hp.1 rfl
    clear hp
    simp only [h1] at hK ⊢
    clear h1
    go_simp
    exact hK _ _ (Below.refl _ _) rfl
  · rw [if_neg (by decide)]
    intro s hs hmay xS W hS hp K hK
    rw [if_pos (wanted_none rfl _)]
    have hse := stage_of (s0 := 0) hs hmay (by kernel_rfl)
    subst hse
    replace hS : AdmS own w cb x pb rb mv PS b I E v3 (N ++ [⟨1, I, E, 0⟩]) own3 q3 ⟨0, I, E⟩ [] W := hS
    have h2 : xS 2 = .pointer (some ⟨b, 1, none⟩) := hp.1 rfl
    clear hp
    have hA : AdmI own w cb x pb rb mv PS b I E v3 (N ++ [⟨1, I, E, 0⟩]) own3 q3 W := hS
    obtain ⟨nmK, evK, ovK, hbK⟩ := hA.blk
    have hc : W.cell? ⟨b, 1, none⟩ = some (.int .i64 I) := cell_blk hbK 1
    simp only [h2] at hK ⊢
    go_simp
    exact hK _ _ (Below.refl _ _) rfl
  · rw [if_neg (by decide)]
    intro s hs hmay xS W hS hp K hK
    rw [if_pos (wanted_none rfl _)]
    clear hp
    go_simp
    exact hK _ _ (Below.refl _ _) rfl
  · rw [if_neg (by decide)]
    intro s hs hmay xS W hS hp K hK
    rw [if_pos (wanted_none rfl _)]
    have h4 : xS 4 = Value.pointer (some (⟨b, 0, none⟩ : Addr)) := hp.1 rfl
    clear hp
    simp only [h4] at hK ⊢
    clear h4
    go_simp
    exact hK _ _ (Below.refl _ _) rfl
  · rw [if_neg (by decide)]
    intro s hs hmay xS W hS hp K hK
    rw [if_pos (wanted_none rfl _)]
    have h5 : xS 5 = Value.pointer (some (⟨b, 0, none⟩ : Addr)) := hp.1 rfl
    clear hp
    simp only [h5] at hK ⊢
    clear h5
    go_simp
    exact hK _ _ (Below.refl _ _) rfl
  · rw [if_neg (by decide)]
    intro s hs hmay xS W hS hp K hK
    rw [if_pos (wanted_none rfl _)]
    have hse := stage_of (s0 := 0) hs hmay (by kernel_rfl)
    subst hse
    replace hS : AdmS own w cb x pb rb mv PS b I E v3 (N ++ [⟨1, I, E, 0⟩]) own3 q3 ⟨0, I, E⟩ [] W := hS
    have h6 : xS 6 = .pointer (some ⟨b, 2, none⟩) := hp.1 rfl
    clear hp
    have hA : AdmI own w cb x pb rb mv PS b I E v3 (N ++ [⟨1, I, E, 0⟩]) own3 q3 W := hS
    obtain ⟨nmK, evK, ovK, hbK⟩ := hA.blk
    have hc : W.cell? ⟨b, 2, none⟩ = some (.int .i64 E) := cell_blk hbK 2
    simp only [h6] at hK ⊢
    go_simp
    exact hK _ _ (Below.refl _ _) rfl
  · rw [if_neg (by decide)]
    intro s hs hmay xS W hS hp K hK
    rw [if_pos (wanted_none rfl _)]
    have h3 : xS 3 = .int .i64 I := hp.1 rfl
    have h7 : xS 7 = .int .i64 E := hp.2.1 rfl
    clear hp
    simp only [h3, h7] at hK ⊢
    refine wp_build_to 27 _ rfl (rpC ⟨0, I, E⟩) (by kernel_rfl) ?_
    exact hK _ _ (Below.refl _ _) rfl
  · rw [if_neg (by decide)]
    intro s hs hmay xS W hS hp K hK
    rw [if_pos (wanted_none rfl _)]
    clear hp
    go_simp
    exact hK _ _ (Below.refl _ _) rfl
  · rw [if_pos (by decide)]
    refine ⟨rfl, ?_⟩
    intro xS W hS hw K hK
    have h8 : xS 8 = .agg (rpC ⟨0, I, E⟩) := hw 8 (by kernel_rfl)
    replace hS : AdmS own w cb x pb rb mv PS b I E v3 (N ++ [⟨1, I, E, 0⟩]) own3 q3 ⟨0, I, E⟩ [] W := hS
    clear hw
    have hA : AdmI own w cb x pb rb mv PS b I E v3 (N ++ [⟨1, I, E, 0⟩]) own3 q3 W := hS
    refine wp_store_whole 27 _ _ rfl w.heap.size (rpC ⟨0, I, E⟩) (rpC rp0) rfl h8 27 hA.cell (by kernel_rfl) (rpC_all _) rfl ?_
    intro W5 h5 hK5
    exact hK undef _ ⟨h5, hA.done hK5⟩ (fun j y hj => hj)
  · rw [if_neg (by decide)]
    intro s hs hmay xS W hS hp K hK
    rw [if_pos (wanted_none rfl _)]
    have h9 : xS 9 = v3 := hp.1 rfl
    clear hp
    simp only [h9] at hK ⊢
    clear h9
    go_simp
    exact hK _ _ (Below.refl _ _) rfl
  rintro xs1 W6 ⟨h6, hR6⟩ hs
  have h11 : xs1 11 = v3 := hs 11 (by decide)
  clear hs
  simp only [h11]
  go_wp2_with fail
  have e1 := HN.out
  have e2 := HE.out
  have e3 := HPS.out
  have e4 := HII.out
  subst e1 e2 e3 e4
  exact bodyPost_ret (results_agg_tmp rfl _ _ w.heap.size (rpC ⟨0, _, _⟩) 27 (0, 0) v3 rfl rfl (by kernel_rfl) h6 (by kernel_rfl)) rfl hR6
/-- a producer more -/
theorem CoS.add {own : Own} {w w' : World} {cb : Nat} {x : Co} {pb rb : Nat} {mv : Value} {q : List Nat} {g : Nat} {p : Pr} (h : CoS own w cb x pb rb mv q) (hs : Step (· = .tp) own own w w') (hT : Pp.Tab w' pb (tabP 0 (q ++ [g]))) (hp : PrAt own w' x.ps.length g p) :
    CoS own w' cb ⟨x.ps ++ [p], x.rs, x.ms, x.now⟩ pb rb mv (q ++ [g]) := by
  have n1 : ∀ l : Lab, l ≠ .tp → ¬ (l = .tp) := fun l h => h
  refine ⟨hs.new, (hs.block (lt_blk h.blk) fun l e => ?_).trans h.blk, h.lc, h.lp, h.lr, hT, rp_step h.tr hs h.lr (fun e => by cases e), h.ms.same fun k hk => hs.block (h.ms.lt k hk).2 fun l e => ?_, h.lm, by simp [h.len], fun i p' hi => ?_⟩
  · rw [h.lc] at e; cases e; exact fun e => by cases e
  · rw [h.lm k hk] at e; cases e; exact fun e => by cases e
  · by_cases hlt : i < x.ps.length
    · rw [List.getElem?_append_left hlt] at hi
      obtain ⟨b, h1, h2⟩ := h.pr i p' hi
      have hq : i < q.length := by rw [h.len]; exact hlt
      exact ⟨b, by rw [List.getElem?_append_left hq]; exact h1, h2.step hs h.owned (fun e => by cases e) (fun e => by cases e) (fun e => by cases e)⟩
    · rw [List.getElem?_append_right (by omega)] at hi
      have h0 : i - x.ps.length = 0 := by
        have := (List.getElem?_eq_some_iff.1 hi).1
        simp at this; omega
      rw [h0] at hi
      simp at hi
      obtain rfl : i = x.ps.length := by omega
      exact ⟨g, by rw [List.getElem?_append_right (by rw [h.len]; exact Nat.le_refl _)]; simp [h.len], hi ▸ hp⟩
set_option maxRecDepth 100000 in
set_option maxHeartbeats 4000000 in
theorem admit_new (own : Own) (w : World) (cb : Nat) (x : Co) (pb rb : Nat) (mv : Value) (q : List Nat) (h : CoS own w cb x pb rb mv q) (hok : PsOk x.ps) (nm : ByteArray) (hnm : nm.size < 1073741824) (hf : findN nm x.ps 0 = none) (h8 : ¬ 8 ≤ x.ps.length) :
    Calls Try.prog 34 #[.pointer (some ⟨cb, 0, none⟩), .string nm] w (RunQ own w cb x pb rb mv ⟨0, x.ps.length, 0⟩ ([] ++ [⟨1, x.ps.length, 0, 0⟩]) (x.ps ++ [fresh nm]) x.now) := by
  have hB0 := below_alloc w (.cells #[.int .i64 0, .int .i64 0, .int .i64 0] 27)
  have z0 : (w.alloc (.cells #[.int .i64 0, .int .i64 0, .int .i64 0] 27)).heap[w.heap.size]? = some (.cells (rpC rp0) 27 (0, 0)) := alloc_blk _ _
  have hs0 : (w.alloc (.cells #[.int .i64 0, .int .i64 0, .int .i64 0] 27)).heap.size = w.heap.size + 1 := by simp
  have h0 := h.below hB0
  have hz : ¬ (8 : Int) ≤ (q.length : Int) := by rw [h.len]; omega
  go_enter Try.func34, Try.ntmps34
  go_upto_region 7 with (first | (go_at_call 48; refine (named_at own _ cb x pb rb mv q h0 nm).mono ?_; rw [hf]; rintro e w1 ⟨rfl, hB1⟩; have h1 := h0.below hB1; have c0 : w1.cell? ⟨cb, 0, none⟩ = some (.pointer (some ⟨pb, 0, none⟩)) := cell_blk h1.blk 0) | (go_at_call 49; refine (Pp.Len_any _ (tabP 0 q) _ (.inr ⟨pb, rfl, h1.tp⟩)).mono ?_; rintro e w2 ⟨rfl, rfl⟩; rw [tabP_length]))
  have HC1 : Hid (CoS own w2 cb x pb rb mv q) := h1
  have hcl : cb < w2.heap.size := lt_blk h1.blk
  have HB1 : Hid (Below w.heap.size w w2) := hB0.trans (hB1.mono (by omega))
  have HZ1 : Hid (w2.heap[w.heap.size]? = some (.cells (rpC rp0) 27 (0, 0))) := (hB1.block _ (by omega)).trans z0
  have HL : Hid (q.length = x.ps.length) := h.len
  have HN : Hid (nm.size ≤ 281474976710656) := by show _ ≤ _; omega
  clear h1 hB1 h0 hB0 z0 hs0 hz
  refine wp_region_growG (by kernel_rfl) (by kernel_rfl) (fun xS => { tmps := (Value.pointer (some (⟨cb, 0, none⟩ : Addr)) :: Value.string nm :: undef :: undef :: Value.pointer (some (⟨w.heap.size, 0, none⟩ : Addr)) :: Value.slice none 0 0 :: Value.slice none 0 0 :: xS 9 :: Value.pointer (some (⟨cb, 0, none⟩ : Addr)) :: Value.string nm :: Value.pointer none :: undef :: undef :: Value.bool (decide (8 ≤ (q.length : Int))) :: Value.pointer none :: Value.bool true :: Value.bool true :: Value.pointer (some (⟨cb, 0, none⟩ : Addr)) :: Value.pointer (some (⟨cb, 0, none⟩ : Addr)) :: Value.pointer (some (⟨cb, 0, none⟩ : Addr)) :: Value.pointer (some (⟨pb, 0, none⟩ : Addr)) :: Value.int IntKind.i64 (q.length : Int) :: Value.bool (decide (8 ≤ (q.length : Int))) :: Value.bool (decide (8 ≤ (q.length : Int))) :: undef :: Value.bool true :: Value.pointer none :: Value.bool true :: xS 0 :: xS 1 :: xS 2 :: xS 3 :: xS 4 :: xS 5 :: xS 6 :: xS 7 :: xS 8 :: undef :: undef :: undef :: undef :: undef :: undef :: undef :: undef :: undef :: undef :: undef :: undef :: undef :: undef :: undef :: undef :: undef :: undef :: undef :: undef :: undef :: undef :: undef :: undef :: undef :: undef :: undef :: undef :: undef :: undef :: undef :: undef :: undef :: undef :: undef :: undef :: undef :: undef :: undef :: []).toArray, defers := [] })
    (fun ii xx WW => match ii with | 0 => xx = Value.string nm | 1 => xx = .string nm | 2 => xx = Value.pointer (some (⟨cb, 0, none⟩ : Addr)) | 3 => xx = Value.pointer (some (⟨cb, 0, none⟩ : Addr)) | 4 => xx = .pointer (some ⟨cb, 0, none⟩) | 5 => xx = .pointer (some ⟨pb, 0, none⟩) | 6 => xx = .int .i64 (q.length : Int) | 7 => xx = .agg (prC nm (q.length : Int) 0 (.slice none 0 0) none) | 8 => ∃ g, xx = .pointer (some ⟨g, 0, none⟩) ∧ w2.heap.size ≤ g ∧ WW.heap[g]? = some (.cells (prC nm (q.length : Int) 0 (.slice none 0 0) none) 62 (0, 0)) | 9 => ∃ g, xx = .pointer (some ⟨g, 0, none⟩) ∧ w2.heap.size ≤ g ∧ WW.heap[g]? = some (.cells (prC nm (q.length : Int) 0 (.slice none 0 0) none) 62 (0, 0)) | _ => True) (fun | 0 => undef | 1 => undef | 2 => undef | 3 => undef | 4 => undef | 5 => undef | 6 => undef | 7 => undef | 8 => undef | 9 => Value.pointer none | _ => undef) (by repeat (first | exact trivial | refine ⟨fun _ _ => rfl, ?_⟩)) (by intro i x w w' h hs; (try dsimp only at hs ⊢); split at hs <;> first | exact hs | exact trivial | (obtain ⟨g, h1, h2, h3⟩ := hs; exact ⟨g, h1, h2, (h.block g (lt_blk h3)).trans h3⟩)) ⟨?_, ?_, ?_, ?_, ?_, ?_, ?_, ?_, ?_, ?_, trivial⟩ ?_
  · intro xS W hB hp K hK
    rw [if_pos (wanted_none rfl _)]
    clear hp
    go_simp
    exact hK _ _ (Below.refl _ _) rfl
  · intro xS W hB hp K hK
    rw [if_pos (wanted_none rfl _)]
    have h0 : xS 0 = Value.string nm := hp.1 rfl
    clear hp
    simp only [h0] at hK ⊢
    clear h0
    go_simp
    refine (sClone_any nm _ HN.out).mono ?_
    rintro e w' ⟨rfl, hB'⟩
    exact hK _ _ hB' rfl
  · intro xS W hB hp K hK
    rw [if_pos (wanted_none rfl _)]
    clear hp
    go_simp
    exact hK _ _ (Below.refl _ _) rfl
  · intro xS W hB hp K hK
    rw [if_pos (wanted_none rfl _)]
    have h2 : xS 2 = Value.pointer (some (⟨cb, 0, none⟩ : Addr)) := hp.1 rfl
    clear hp
    simp only [h2] at hK ⊢
    clear h2
    go_simp
    exact hK _ _ (Below.refl _ _) rfl
  · intro xS W hB hp K hK
    rw [if_pos (wanted_none rfl _)]
    have h3 : xS 3 = Value.pointer (some (⟨cb, 0, none⟩ : Addr)) := hp.1 rfl
    clear hp
    simp only [h3] at hK ⊢
    clear h3
    go_simp
    exact hK _ _ (Below.refl _ _) rfl
  · intro xS W hB hp K hK
    rw [if_pos (wanted_none rfl _)]
    have h4 : xS 4 = .pointer (some ⟨cb, 0, none⟩) := hp.1 rfl
    clear hp
    have hc := (hB.cell (p := ⟨cb, 0, none⟩) hcl).trans c0
    simp only [h4] at hK ⊢
    clear h4
    go_simp
    exact hK _ _ (Below.refl _ _) rfl
  · intro xS W hB hp K hK
    rw [if_pos (wanted_none rfl _)]
    have h5 : xS 5 = .pointer (some ⟨pb, 0, none⟩) := hp.1 rfl
    clear hp
    simp only [h5] at hK ⊢
    clear h5
    go_simp
    refine (Pp.Len_any _ (tabP 0 q) _ (.inr ⟨pb, rfl, (HC1.out.below hB).tp⟩)).mono ?_
    rintro e w' ⟨rfl, rfl⟩
    rw [tabP_length]
    exact hK _ _ (Below.refl _ _) rfl
  · intro xS W hB hp K hK
    rw [if_pos (wanted_none rfl _)]
    have h1 : xS 1 = .string nm := hp.1 rfl
    have h6 : xS 6 = .int .i64 (q.length : Int) := hp.2.1 rfl
    clear hp
    simp only [h1, h6] at hK ⊢
    refine wp_build_to 62 _ rfl (prC nm (q.length : Int) 0 (.slice none 0 0) none) (by kernel_rfl) ?_
    exact hK _ _ (Below.refl _ _) rfl
  · intro xS W hB hp K hK
    rw [if_pos (wanted_none rfl _)]
    have h7 : xS 7 = .agg (prC nm (q.length : Int) 0 (.slice none 0 0) none) := hp.1 rfl
    clear hp
    exact wp_box_row rfl 62 _ rfl _ h7 (hK _ _ (below_alloc _ _) ⟨_, rfl, hB.size, alloc_blk _ _⟩)
  · intro xS W hB hp K hK
    rw [if_pos (wanted_none rfl _)]
    have h8 : ∃ g, (xS 8) = .pointer (some ⟨g, 0, none⟩) ∧ w2.heap.size ≤ g ∧ W.heap[g]? = some (.cells (prC nm (q.length : Int) 0 (.slice none 0 0) none) 62 (0, 0)) := hp.1 rfl
    clear hp
    obtain ⟨g, h8, hg1, hg2⟩ := h8
    simp only [h8] at hK ⊢
    go_simp
    exact hK _ _ (Below.refl _ _) ⟨g, rfl, hg1, hg2⟩
  intro xs7 W3 hB3 hs
  obtain ⟨b, h9, hb1, hb2⟩ := hs 9 (by simp)
  clear hs
  simp only [h9]
  have HB3 : Hid (Below w2.heap.size w2 W3) := hB3
  have HG3 : Hid (W3.heap[b]? = some (.cells (prC nm (q.length : Int) 0 (.slice none 0 0) none) 62 (0, 0))) := hb2
  have HC3 : Hid (CoS own W3 cb x pb rb mv q) := HC1.out.below hB3
  have cc0 : W3.cell? ⟨cb, 0, none⟩ = some (.pointer (some ⟨pb, 0, none⟩)) := cell_blk HC3.out.blk 0
  have cg1 : W3.cell? ⟨b, 1, none⟩ = some (.int .i64 (q.length : Int)) := cell_blk hb2 1
  have hcl3 : cb < W3.heap.size := lt_blk HC3.out.blk
  have hgl : b < W3.heap.size := lt_blk hb2
  clear hB3 hb2 h9 c0
  go_upto_region 8 with fail
  refine wp_region_pivot (by kernel_rfl) (by kernel_rfl) 9 (by decide) (by kernel_rfl) (by kernel_rfl) (fun xS => { tmps := (Value.pointer (some (⟨cb, 0, none⟩ : Addr)) :: Value.string nm :: undef :: undef :: Value.pointer (some (⟨w.heap.size, 0, none⟩ : Addr)) :: Value.slice none 0 0 :: Value.slice none 0 0 :: Value.pointer (some (⟨b, 0, none⟩ : Addr)) :: Value.pointer (some (⟨cb, 0, none⟩ : Addr)) :: Value.string nm :: Value.pointer none :: undef :: undef :: Value.bool (decide (8 ≤ (q.length : Int))) :: Value.pointer none :: Value.bool true :: Value.bool true :: Value.pointer (some (⟨cb, 0, none⟩ : Addr)) :: Value.pointer (some (⟨cb, 0, none⟩ : Addr)) :: Value.pointer (some (⟨cb, 0, none⟩ : Addr)) :: Value.pointer (some (⟨pb, 0, none⟩ : Addr)) :: Value.int IntKind.i64 (q.length : Int) :: Value.bool (decide (8 ≤ (q.length : Int))) :: Value.bool (decide (8 ≤ (q.length : Int))) :: undef :: Value.bool true :: Value.pointer none :: Value.bool true :: xs7 0 :: xs7 1 :: xs7 2 :: xs7 3 :: xs7 4 :: xs7 5 :: xs7 6 :: xs7 7 :: xs7 8 :: xS 0 :: xS 1 :: xS 2 :: xS 3 :: xS 4 :: xS 5 :: xS 6 :: xS 7 :: xS 8 :: xS 9 :: undef :: undef :: undef :: undef :: undef :: undef :: undef :: undef :: undef :: undef :: undef :: undef :: undef :: undef :: undef :: undef :: undef :: undef :: undef :: undef :: undef :: undef :: undef :: undef :: undef :: undef :: undef :: undef :: undef :: []).toArray, defers := [] })
    (fun ii xx WW => match ii with | 0 => xx = Value.pointer (some (⟨cb, 0, none⟩ : Addr)) | 1 => xx = Value.pointer (some (⟨cb, 0, none⟩ : Addr)) | 2 => xx = .pointer (some ⟨cb, 0, none⟩) | 3 => xx = .pointer (some ⟨pb, 0, none⟩) | 4 => xx = Value.pointer (some (⟨b, 0, none⟩ : Addr)) | 5 => xx = Value.pointer (some (⟨b, 0, none⟩ : Addr)) | 6 => xx = .pointer (some ⟨b, 1, none⟩) | 7 => xx = .int .i64 (q.length : Int) | 8 => xx = Value.pointer (some (⟨b, 0, none⟩ : Addr)) | _ => True) (fun li xS W => Pp.Tab W pb (tabP 0 (q ++ [b])) ∧ Frm (· = pb) W3 W) (fun | 0 => undef | 1 => undef | 2 => undef | 3 => undef | 4 => undef | 5 => undef | 6 => undef | 7 => undef | 8 => undef | 9 => undef | _ => undef) (by repeat (first | exact trivial | refine ⟨fun _ _ => rfl, ?_⟩)) (fun _ _ _ _ _ h => h) ⟨?_, ?_, ?_, ?_, ?_, ?_, ?_, ?_, ?_, ⟨rfl, ?_⟩, trivial⟩ ?_
  · intro xS W hB hp K hK
    rw [if_pos (wanted_none rfl _)]
    clear hp
    go_simp
    exact hK _ _ (Below.refl _ _) rfl
  · intro xS W hB hp K hK
    rw [if_pos (wanted_none rfl _)]
    have h0 : xS 0 = Value.pointer (some (⟨cb, 0, none⟩ : Addr)) := hp.1 rfl
    clear hp
    simp only [h0] at hK ⊢
    clear h0
    go_simp
    exact hK _ _ (Below.refl _ _) rfl
  · intro xS W hB hp K hK
    rw [if_pos (wanted_none rfl _)]
    have h1 : xS 1 = Value.pointer (some (⟨cb, 0, none⟩ : Addr)) := hp.1 rfl
    clear hp
    simp only [h1] at hK ⊢
    clear h1
    go_simp
    exact hK _ _ (Below.refl _ _) rfl
  · intro xS W hB hp K hK
    rw [if_pos (wanted_none rfl _)]
    have h2 : xS 2 = .pointer (some ⟨cb, 0, none⟩) := hp.1 rfl
    clear hp
    have hc := (hB.cell (p := ⟨cb, 0, none⟩) hcl3).trans cc0
    simp only [h2] at hK ⊢
    clear h2
    go_simp
    exact hK _ _ (Below.refl _ _) rfl
  · intro xS W hB hp K hK
    rw [if_pos (wanted_none rfl _)]
    clear hp
    go_simp
    exact hK _ _ (Below.refl _ _) rfl
  · intro xS W hB hp K hK
    rw [if_pos (wanted_none rfl _)]
    have h4 : xS 4 = Value.pointer (some (⟨b, 0, none⟩ : Addr)) := hp.1 rfl
    clear hp
    simp only [h4] at hK ⊢
    clear h4
    go_simp
    exact hK _ _ (Below.refl _ _) rfl
  · intro xS W hB hp K hK
    rw [if_pos (wanted_none rfl _)]
    have h5 : xS 5 = Value.pointer (some (⟨b, 0, none⟩ : Addr)) := hp.1 rfl
    clear hp
    simp only [h5] at hK ⊢
    clear h5
    go_simp
    exact hK _ _ (Below.refl _ _) rfl
  · intro xS W hB hp K hK
    rw [if_pos (wanted_none rfl _)]
    have h6 : xS 6 = .pointer (some ⟨b, 1, none⟩) := hp.1 rfl
    clear hp
    have hc := (hB.cell (p := ⟨b, 1, none⟩) hgl).trans cg1
    simp only [h6] at hK ⊢
    clear h6
    go_simp
    exact hK _ _ (Below.refl _ _) rfl
  · intro xS W hB hp K hK
    rw [if_pos (wanted_none rfl _)]
    clear hp
    go_simp
    exact hK _ _ (Below.refl _ _) rfl
  · intro li xS W hB hs hno K hK
    have h3 : xS 3 = .pointer (some ⟨pb, 0, none⟩) := hs 3 (by decide)
    have h7 : xS 7 = .int .i64 (q.length : Int) := hs 7 (by decide)
    have h8 : xS 8 = Value.pointer (some (⟨b, 0, none⟩ : Addr)) := hs 8 (by decide)
    clear hs
    simp only [h3, h7, h8] at hK ⊢
    clear h3 h7 h8
    go_simp
    refine (Pp.Set_any pb (tabP 0 q) (q.length : Int) (some ⟨b, 0, none⟩) W (HC3.out.below hB).tp (by rw [tabP_length]; have := HL.out; unfold Pp.big; omega) (by omega)).mono ?_
    rintro e W5 ⟨⟨v5, rfl⟩, hT5, hF5⟩
    have hins := tabP_ins 0 q b
    rw [Nat.zero_add] at hins
    rw [hins] at hT5
    exact hK _ _ ⟨hT5, (Frm.of_below hB).trans hF5⟩
  rintro li xs8 w5 ⟨hT5, hF5⟩ -
  have hw2 : w.heap.size < w2.heap.size := lt_blk HZ1.out
  have hsA : ∀ P : Lab → Prop, Step P own (own.put b (.prod x.ps.length)) w2 W3 := fun P => Step.alloc HB3.out hb1 hgl HC1.out.owned
  have hC3 := HC1.out.step (hsA _)
  obtain ⟨pp, hpb⟩ := pp_cell hC3.tp
  have hsT : Step (· = .tp) (own.put b (.prod x.ps.length)) (own.put b (.prod x.ps.length)) W3 w5 := Step.one hF5 hC3.lp rfl (pp_low hC3.tp) hC3.owned hpb
  have hpr : PrC (own.put b (.prod x.ps.length)) W3 x.ps.length b (fresh nm) (.slice none 0 0) none := ⟨by have := HG3.out; rw [HL.out] at this; exact this, Own.put_same _ _ _, ⟨OwnI.nil _ _, fun k hk => by cases hk⟩, rfl⟩
  have hpr5 := hpr.step hsT hC3.owned (fun e => by cases e) (fun e => by cases e) (fun e => by cases e)
  have hCo5 := hC3.add hsT hT5 ⟨_, _, hpr5⟩
  have hfree0 : own w.heap.size = none := by
    cases ho : own w.heap.size with
    | none => rfl
    | some l => have := h.owned _ _ ho; omega
  have hfree : own.put b (.prod x.ps.length) w.heap.size = none := by unfold Own.put; rw [if_neg (by omega)]; exact hfree0
  have HI : Hid (AdmI own w cb x pb rb mv (x.ps ++ [fresh nm]) b (x.ps.length : Int) 0 (.slice none 0 0) [] (own.put b (.prod x.ps.length)) (q ++ [b]) w5) :=
    ⟨hCo5, ((Step.of_below HB1.out h.owned).trans (hsA AllP)).trans hsT.all, OwnM.nil _ _, fun k hk => (by cases hk), (hF5.block _ (by have := HB3.out.size; omega) (fun e => by have e : w.heap.size = pb := e; rw [e, hC3.lp] at hfree; cases hfree)).trans ((HB3.out.block _ hw2).trans HZ1.out), hfree, nm, _, _, hpr5.blk⟩
  have HM : Hid (([] : List Mk).length ≤ 10) := by show ([] : List Mk).length ≤ 10; simp
  obtain ⟨N, HN⟩ : ∃ N, Hid (([] : List Mk) = N) := ⟨_, rfl⟩
  obtain ⟨E, HE⟩ : ∃ E : Int, Hid (0 = E) := ⟨_, rfl⟩
  obtain ⟨PS, HPS⟩ : ∃ PS, Hid (x.ps ++ [fresh nm] = PS) := ⟨_, rfl⟩
  obtain ⟨I, HII⟩ : ∃ I : Int, Hid ((x.ps.length : Int) = I) := ⟨_, rfl⟩
  rw [HN.out, HPS.out, HII.out] at HI
  rw [HN.out] at HM
  have hEz := HE.out
  have HI : Hid (AdmI own w cb x pb rb mv PS b I E (.slice none 0 0) N (own.put b (.prod x.ps.length)) (q ++ [b]) w5) := by rw [← hEz]; exact HI
  obtain ⟨nm2, ev2, ov2, hb2⟩ := HI.out.blk
  have cb1 : w5.cell? ⟨b, 1, none⟩ = some (.int .i64 I) := cell_blk hb2 1
  have cb2 : w5.cell? ⟨b, 2, none⟩ = some (.int .i64 E) := cell_blk hb2 2
  have hbl := lt_blk hb2
  clear hb2 hEz hsA hC3 hpb hsT hpr hpr5 hCo5 hfree0 hfree hT5 hF5 cc0 cg1 hw2
  go_upto_region 11 with fail
  refine wp_region_pivotX (by kernel_rfl) (by kernel_rfl) 11 (by decide) (by kernel_rfl) (by kernel_rfl) (fun xS => { tmps := (Value.pointer (some (⟨cb, 0, none⟩ : Addr)) :: Value.string nm :: undef :: undef :: Value.pointer (some (⟨w.heap.size, 0, none⟩ : Addr)) :: Value.slice none 0 0 :: xS 12 :: Value.pointer (some (⟨b, 0, none⟩ : Addr)) :: Value.pointer (some (⟨cb, 0, none⟩ : Addr)) :: Value.string nm :: Value.pointer none :: undef :: undef :: Value.bool (decide (8 ≤ (q.length : Int))) :: Value.pointer none :: Value.bool true :: Value.bool true :: Value.pointer (some (⟨cb, 0, none⟩ : Addr)) :: Value.pointer (some (⟨cb, 0, none⟩ : Addr)) :: Value.pointer (some (⟨cb, 0, none⟩ : Addr)) :: Value.pointer (some (⟨pb, 0, none⟩ : Addr)) :: Value.int IntKind.i64 (q.length : Int) :: Value.bool (decide (8 ≤ (q.length : Int))) :: Value.bool (decide (8 ≤ (q.length : Int))) :: undef :: Value.bool true :: Value.pointer none :: Value.bool true :: xs7 0 :: xs7 1 :: xs7 2 :: xs7 3 :: xs7 4 :: xs7 5 :: xs7 6 :: xs7 7 :: xs7 8 :: xs8 0 :: xs8 1 :: xs8 2 :: xs8 3 :: xs8 4 :: xs8 5 :: xs8 6 :: xs8 7 :: xs8 8 :: xs8 9 :: undef :: undef :: undef :: undef :: undef :: undef :: undef :: xS 0 :: xS 1 :: xS 2 :: xS 3 :: xS 4 :: xS 5 :: xS 6 :: xS 7 :: xS 8 :: xS 9 :: xS 10 :: xS 11 :: undef :: undef :: undef :: undef :: undef :: undef :: undef :: undef :: undef :: undef :: []).toArray, defers := [] })
    (fun ii xx WW => match ii with | 0 => xx = Value.slice none 0 0 | 1 => xx = Value.pointer (some (⟨b, 0, none⟩ : Addr)) | 2 => xx = Value.pointer (some (⟨b, 0, none⟩ : Addr)) | 3 => xx = .pointer (some ⟨b, 1, none⟩) | 4 => xx = .int .i64 I | 5 => xx = Value.pointer (some (⟨b, 0, none⟩ : Addr)) | 6 => xx = Value.pointer (some (⟨b, 0, none⟩ : Addr)) | 7 => xx = .pointer (some ⟨b, 2, none⟩) | 8 => xx = .int .i64 E | 9 => xx = .agg (Mk.cells ⟨1, I, E, 0⟩) | 10 => ∃ g, xx = .slice (some ⟨g, 0, none⟩) 1 1 ∧ WW.heap[g]? = some (.cells (Mk.cells ⟨1, I, E, 0⟩) 65 (0, 0)) | _ => True) (fun li xS W => ∃ own3 q3, (li 12 = true → xS 12 = xS 11) ∧ AdmI own w cb x pb rb mv PS b I E (xS 11) (N ++ [⟨1, I, E, 0⟩]) own3 q3 W) (fun | 0 => undef | 1 => undef | 2 => undef | 3 => undef | 4 => undef | 5 => undef | 6 => undef | 7 => undef | 8 => undef | 9 => undef | 10 => undef | 11 => undef | 12 => Value.slice none 0 0 | _ => undef) (by repeat (first | exact trivial | refine ⟨fun _ _ => rfl, ?_⟩)) (by intro i x w w' h hs; (try dsimp only at hs ⊢); split at hs <;> first | exact hs | exact trivial | (obtain ⟨g, h1, h3⟩ := hs; exact ⟨g, h1, (h.block g (lt_blk h3)).trans h3⟩)) ⟨?_, ?_, ?_, ?_, ?_, ?_, ?_, ?_, ?_, ?_, ?_, ⟨rfl, ?_⟩, ?_, trivial⟩ ?_
  · intro xS W hx hB hp K hK
    rw [if_pos (wanted_none rfl _)]
    clear hp
    have h12 : xS 12 = Value.slice none 0 0 := hx 12 (by decide)
    clear hx
    simp only [h12] at hK ⊢
    clear h12
    go_simp
    exact hK _ _ (Below.refl _ _) rfl
  · intro xS W hx hB hp K hK
    clear hx
    rw [if_pos (wanted_none rfl _)]
    clear hp
    go_simp
    exact hK _ _ (Below.refl _ _) rfl
  · intro xS W hx hB hp K hK
    clear hx
    rw [if_pos (wanted_none rfl _)]
    have h1 : xS 1 = Value.pointer (some (⟨b, 0, none⟩ : Addr)) := hp.1 rfl
    clear hp
    simp only [h1] at hK ⊢
    clear h1
    go_simp
    exact hK _ _ (Below.refl _ _) rfl
  · intro xS W hx hB hp K hK
    clear hx
    rw [if_pos (wanted_none rfl _)]
    have h2 : xS 2 = Value.pointer (some (⟨b, 0, none⟩ : Addr)) := hp.1 rfl
    clear hp
    simp only [h2] at hK ⊢
    clear h2
    go_simp
    exact hK _ _ (Below.refl _ _) rfl
  · intro xS W hx hB hp K hK
    clear hx
    rw [if_pos (wanted_none rfl _)]
    have h3 : xS 3 = .pointer (some ⟨b, 1, none⟩) := hp.1 rfl
    clear hp
    have hc := (hB.cell (p := ⟨b, 1, none⟩) hbl).trans cb1
    simp only [h3] at hK ⊢
    clear h3
    go_simp
    exact hK _ _ (Below.refl _ _) rfl
  · intro xS W hx hB hp K hK
    clear hx
    rw [if_pos (wanted_none rfl _)]
    clear hp
    go_simp
    exact hK _ _ (Below.refl _ _) rfl
  · intro xS W hx hB hp K hK
    clear hx
    rw [if_pos (wanted_none rfl _)]
    have h5 : xS 5 = Value.pointer (some (⟨b, 0, none⟩ : Addr)) := hp.1 rfl
    clear hp
    simp only [h5] at hK ⊢
    clear h5
    go_simp
    exact hK _ _ (Below.refl _ _) rfl
  · intro xS W hx hB hp K hK
    clear hx
    rw [if_pos (wanted_none rfl _)]
    have h6 : xS 6 = Value.pointer (some (⟨b, 0, none⟩ : Addr)) := hp.1 rfl
    clear hp
    simp only [h6] at hK ⊢
    clear h6
    go_simp
    exact hK _ _ (Below.refl _ _) rfl
  · intro xS W hx hB hp K hK
    clear hx
    rw [if_pos (wanted_none rfl _)]
    have h7 : xS 7 = .pointer (some ⟨b, 2, none⟩) := hp.1 rfl
    clear hp
    have hc := (hB.cell (p := ⟨b, 2, none⟩) hbl).trans cb2
    simp only [h7] at hK ⊢
    clear h7
    go_simp
    exact hK _ _ (Below.refl _ _) rfl
  · intro xS W hx hB hp K hK
    clear hx
    rw [if_pos (wanted_none rfl _)]
    have h4 : xS 4 = .int .i64 I := hp.1 rfl
    have h8 : xS 8 = .int .i64 E := hp.2.1 rfl
    clear hp
    simp only [h4, h8] at hK ⊢
    refine wp_build_to 65 _ rfl (Mk.cells ⟨1, I, E, 0⟩) (by kernel_rfl) ?_
    exact hK _ _ (Below.refl _ _) rfl
  · intro xS W hx hB hp K hK
    clear hx
    rw [if_pos (wanted_none rfl _)]
    have h9 : xS 9 = .agg (Mk.cells ⟨1, I, E, 0⟩) := hp.1 rfl
    clear hp
    exact wp_rowM _ rfl ⟨1, I, E, 0⟩ h9 (hK _ _ (below_alloc _ _) ⟨_, rfl, alloc_blk _ _⟩)
  · intro li xS W hB hs hno K hK
    have h0 : xS 0 = Value.slice none 0 0 := hs 0 (by decide)
    have h10 : ∃ g, (xS 10) = .slice (some ⟨g, 0, none⟩) 1 1 ∧ W.heap[g]? = some (.cells (Mk.cells ⟨1, I, E, 0⟩) 65 (0, 0)) := hs 10 (by decide)
    clear hs
    obtain ⟨g, h10, hg10⟩ := h10
    have hA := HI.out.below hB
    refine wp_appM1 _ _ rfl w.heap.size (Value.slice none 0 0) N h0 g ⟨1, I, E, 0⟩ h10 hA.row 65 hg10 (by have := HM.out; omega) (by have := lt_blk hA.cell; omega) ?_
    intro v' W5 hO5 hG5
    exact hK _ _ ⟨_, _, fun h => absurd h (by rw [upd_other _ _ (by decide)]; rw [hno 12 (by decide)]; decide), by rw [upd_same]; exact hA.app hO5 hG5⟩
  · intro li xS W hF hli hp K hK
    rw [if_pos (wanted_none rfl _)]
    obtain ⟨own3, q3, -, hA⟩ := hF
    go_simp
    exact hK _ _ ⟨own3, q3, fun _ => by rw [upd_same, upd_other _ _ (by decide)], by rw [upd_other _ _ (by decide)]; exact hA⟩
  rintro li xs0 W3 ⟨own3, q3, h12, hA⟩ hall
  have h12 := h12 (hall 12 (by decide))
  simp only [h12]
  obtain ⟨nm3, ev3, ov3, hb3⟩ := hA.blk
  have cd1 : W3.cell? ⟨b, 1, none⟩ = some (.int .i64 I) := cell_blk hb3 1
  have cd2 : W3.cell? ⟨b, 2, none⟩ = some (.int .i64 E) := cell_blk hb3 2
  have hbl3 := lt_blk hb3
  obtain ⟨v3, hv3⟩ : ∃ v3, xs0 11 = v3 := ⟨_, rfl⟩
  rw [hv3] at hA
  simp only [hv3]
  have HA3 : Hid (AdmI own w cb x pb rb mv PS b I E v3 (N ++ [⟨1, I, E, 0⟩]) own3 q3 W3) := hA
  clear hA hb3 h12 hv3
  go_upto_region 12 with fail
  refine wp_region_turnsV (by kernel_rfl) (by kernel_rfl) [10] (by kernel_rfl) (by decide) (by decide) (fun xS => { tmps := (Value.pointer (some (⟨cb, 0, none⟩ : Addr)) :: Value.string nm :: undef :: undef :: Value.pointer (some (⟨w.heap.size, 0, none⟩ : Addr)) :: xS 11 :: v3 :: Value.pointer (some (⟨b, 0, none⟩ : Addr)) :: Value.pointer (some (⟨cb, 0, none⟩ : Addr)) :: Value.string nm :: Value.pointer none :: undef :: undef :: Value.bool (decide (8 ≤ (q.length : Int))) :: Value.pointer none :: Value.bool true :: Value.bool true :: Value.pointer (some (⟨cb, 0, none⟩ : Addr)) :: Value.pointer (some (⟨cb, 0, none⟩ : Addr)) :: Value.pointer (some (⟨cb, 0, none⟩ : Addr)) :: Value.pointer (some (⟨pb, 0, none⟩ : Addr)) :: Value.int IntKind.i64 (q.length : Int) :: Value.bool (decide (8 ≤ (q.length : Int))) :: Value.bool (decide (8 ≤ (q.length : Int))) :: undef :: Value.bool true :: Value.pointer none :: Value.bool true :: xs7 0 :: xs7 1 :: xs7 2 :: xs7 3 :: xs7 4 :: xs7 5 :: xs7 6 :: xs7 7 :: xs7 8 :: xs8 0 :: xs8 1 :: xs8 2 :: xs8 3 :: xs8 4 :: xs8 5 :: xs8 6 :: xs8 7 :: xs8 8 :: xs8 9 :: undef :: undef :: undef :: undef :: undef :: undef :: undef :: xs0 0 :: xs0 1 :: xs0 2 :: xs0 3 :: xs0 4 :: xs0 5 :: xs0 6 :: xs0 7 :: xs0 8 :: xs0 9 :: xs0 10 :: v3 :: xS 0 :: xS 1 :: xS 2 :: xS 3 :: xS 4 :: xS 5 :: xS 6 :: xS 7 :: xS 8 :: xS 9 :: []).toArray, defers := [] })
    (fun ii xx WW => match ii with | 0 => xx = Value.pointer (some (⟨b, 0, none⟩ : Addr)) | 1 => xx = Value.pointer (some (⟨b, 0, none⟩ : Addr)) | 2 => xx = .pointer (some ⟨b, 1, none⟩) | 3 => xx = .int .i64 I | 4 => xx = Value.pointer (some (⟨b, 0, none⟩ : Addr)) | 5 => xx = Value.pointer (some (⟨b, 0, none⟩ : Addr)) | 6 => xx = .pointer (some ⟨b, 2, none⟩) | 7 => xx = .int .i64 E | 8 => xx = .agg (rpC ⟨0, I, E⟩) | 9 => xx = v3 | 11 => xx = v3 | _ => True) (AdmS own w cb x pb rb mv PS b I E v3 (N ++ [⟨1, I, E, 0⟩]) own3 q3 ⟨0, I, E⟩) (fun | 0 => undef | 1 => undef | 2 => undef | 3 => undef | 4 => undef | 5 => undef | 6 => undef | 7 => undef | 8 => undef | 9 => undef | 11 => Value.slice none 0 0 | _ => undef) (by repeat (first | exact trivial | refine ⟨fun _ _ => rfl, ?_⟩)) (fun _ _ _ _ _ h => h) (by intro i hi v W; simp only [List.mem_cons, List.mem_nil_iff, or_false] at hi; rcases hi with rfl <;> trivial) (fun s A B hB h => AdmS.below s A B hB h) (AdmI.below HA3.out (Below.refl _ _).drew) ⟨?_, ?_, ?_, ?_, ?_, ?_, ?_, ?_, ?_, ?_, ?_, ?_, trivial⟩ ?_
  · rw [if_neg (by decide)]
    intro s hs hmay xS W hS hp K hK
    rw [if_pos (wanted_none rfl _)]
    clear hp
    go_simp
    exact hK _ _ (Below.refl _ _) rfl
  · rw [if_neg (by decide)]
    intro s hs hmay xS W hS hp K hK
    rw [if_pos (wanted_none rfl _)]
    have h0 : xS 0 = Value.pointer (some (⟨b, 0, none⟩ : Addr)) := hp.1 rfl
    clear hp
    simp only [h0] at hK ⊢
    clear h0
    go_simp
    exact hK _ _ (Below.refl _ _) rfl
  · rw [if_neg (by decide)]
    intro s hs hmay xS W hS hp K hK
    rw [if_pos (wanted_none rfl _)]
    have h1 : xS 1 = Value.pointer (some (⟨b, 0, none⟩ : Addr)) := hp.1 rfl
    clear hp
    simp only [h1] at hK ⊢
    clear h1
    go_simp
    exact hK _ _ (Below.refl _ _) rfl
  · rw [if_neg (by decide)]
    intro s hs hmay xS W hS hp K hK
    rw [if_pos (wanted_none rfl _)]
    have hse := stage_of (s0 := 0) hs hmay (by kernel_rfl)
    subst hse
    replace hS : AdmS own w cb x pb rb mv PS b I E v3 (N ++ [⟨1, I, E, 0⟩]) own3 q3 ⟨0, I, E⟩ [] W := hS
    have h2 : xS 2 = .pointer (some ⟨b, 1, none⟩) := hp.1 rfl
    clear hp
    have hA : AdmI own w cb x pb rb mv PS b I E v3 (N ++ [⟨1, I, E, 0⟩]) own3 q3 W := hS
    obtain ⟨nmK, evK, ovK, hbK⟩ := hA.blk
    have hc : W.cell? ⟨b, 1, none⟩ = some (.int .i64 I) := cell_blk hbK 1
    simp only [h2] at hK ⊢
    go_simp
    exact hK _ _ (Below.refl _ _) rfl
  · rw [if_neg (by decide)]
    intro s hs hmay xS W hS hp K hK
    rw [if_pos (wanted_none rfl _)]
    clear hp
    go_simp
    exact hK _ _ (Below.refl _ _) rfl
  · rw [if_neg (by decide)]
    intro s hs hmay xS W hS hp K hK
    rw [if_pos (wanted_none rfl _)]
    have h4 : xS 4 = Value.pointer (some (⟨b, 0, none⟩ : Addr)) := hp.1 rfl
    clear hp
    simp only [h4] at hK ⊢
    clear h4
    go_simp
    exact hK _ _ (Below.refl _ _) rfl
  · rw [if_neg (by decide)]
    intro s hs hmay xS W hS hp K hK
    rw [if_pos (wanted_none rfl _)]
    have h5 : xS 5 = Value.pointer (some (⟨b, 0, none⟩ : Addr)) := hp.1 rfl
    clear hp
    simp only [h5] at hK ⊢
    clear h5
    go_simp
    exact hK _ _ (Below.refl _ _) rfl
  · rw [if_neg (by decide)]
    intro s hs hmay xS W hS hp K hK
    rw [if_pos (wanted_none rfl _)]
    have hse := stage_of (s0 := 0) hs hmay (by kernel_rfl)
    subst hse
    replace hS : AdmS own w cb x pb rb mv PS b I E v3 (N ++ [⟨1, I, E, 0⟩]) own3 q3 ⟨0, I, E⟩ [] W := hS
    have h6 : xS 6 = .pointer (some ⟨b, 2, none⟩) := hp.1 rfl
    clear hp
    have hA : AdmI own w cb x pb rb mv PS b I E v3 (N ++ [⟨1, I, E, 0⟩]) own3 q3 W := hS
    obtain ⟨nmK, evK, ovK, hbK⟩ := hA.blk
    have hc : W.cell? ⟨b, 2, none⟩ = some (.int .i64 E) := cell_blk hbK 2
    simp only [h6] at hK ⊢
    go_simp
    exact hK _ _ (Below.refl _ _) rfl
  · rw [if_neg (by decide)]
    intro s hs hmay xS W hS hp K hK
    rw [if_pos (wanted_none rfl _)]
    have h3 : xS 3 = .int .i64 I := hp.1 rfl
    have h7 : xS 7 = .int .i64 E := hp.2.1 rfl
    clear hp
    simp only [h3, h7] at hK ⊢
    refine wp_build_to 27 _ rfl (rpC ⟨0, I, E⟩) (by kernel_rfl) ?_
    exact hK _ _ (Below.refl _ _) rfl
  · rw [if_neg (by decide)]
    intro s hs hmay xS W hS hp K hK
    rw [if_pos (wanted_none rfl _)]
    clear hp
    go_simp
    exact hK _ _ (Below.refl _ _) rfl
  · rw [if_pos (by decide)]
    refine ⟨rfl, ?_⟩
    intro xS W hS hw K hK
    have h8 : xS 8 = .agg (rpC ⟨0, I, E⟩) := hw 8 (by kernel_rfl)
    replace hS : AdmS own w cb x pb rb mv PS b I E v3 (N ++ [⟨1, I, E, 0⟩]) own3 q3 ⟨0, I, E⟩ [] W := hS
    clear hw
    have hA : AdmI own w cb x pb rb mv PS b I E v3 (N ++ [⟨1, I, E, 0⟩]) own3 q3 W := hS
    refine wp_store_whole 27 _ _ rfl w.heap.size (rpC ⟨0, I, E⟩) (rpC rp0) rfl h8 27 hA.cell (by kernel_rfl) (rpC_all _) rfl ?_
    intro W5 h5 hK5
    exact hK undef _ ⟨h5, hA.done hK5⟩ (fun j y hj => hj)
  · rw [if_neg (by decide)]
    intro s hs hmay xS W hS hp K hK
    rw [if_pos (wanted_none rfl _)]
    have h9 : xS 9 = v3 := hp.1 rfl
    clear hp
    simp only [h9] at hK ⊢
    clear h9
    go_simp
    exact hK _ _ (Below.refl _ _) rfl
  rintro xs1 W6 ⟨h6, hR6⟩ hs
  have h11 : xs1 11 = v3 := hs 11 (by decide)
  clear hs
  simp only [h11]
  go_wp2_with fail
  have e1 := HN.out
  have e2 := HE.out
  have e3 := HPS.out
  have e4 := HII.out
  subst e1 e2 e3 e4
  exact bodyPost_ret (results_agg_tmp rfl _ _ w.heap.size (rpC ⟨0, _, _⟩) 27 (0, 0) v3 rfl rfl (by kernel_rfl) h6 (by kernel_rfl)) rfl hR6
/-- a name is admitted -/
theorem admit_at (own : Own) (w : World) (cb : Nat) (x : Co) (pb rb : Nat) (mv : Value) (q : List Nat) (h : CoS own w cb x pb rb mv q) (hok : PsOk x.ps) (nm : ByteArray) (hnm : nm.size < 1073741824) :
    Calls Try.prog 34 #[.pointer (some ⟨cb, 0, none⟩), .string nm] w (RunQ own w cb x pb rb mv (x.admit nm).1 (x.admit nm).2.1 (x.admit nm).2.2 x.now) := by
  cases hf : findN nm x.ps 0 with
  | none =>
    by_cases h8 : 8 ≤ x.ps.length
    · have e : x.admit nm = (err 3, [], x.ps) := by unfold Co.admit; rw [hf]; simp [h8]
      rw [e]
      exact admit_full own w cb x pb rb mv q h hok nm hf h8
    · have e : x.admit nm = (⟨0, x.ps.length, 0⟩, [⟨1, x.ps.length, 0, 0⟩], x.ps ++ [fresh nm]) := by unfold Co.admit; rw [hf]; simp [h8]
      rw [e]
      exact admit_new own w cb x pb rb mv q h hok nm hnm hf h8
  | some i =>
    obtain ⟨p, hp⟩ : ∃ p, x.ps[i]? = some p := ⟨_, List.getElem?_eq_getElem (by have := findN_at nm x.ps 0 i hf; omega)⟩
    by_cases he : 100 ≤ p.ep
    · have e : x.admit nm = (err 7, [], x.ps) := by unfold Co.admit; rw [hf]; simp [hp, he]
      rw [e]
      exact admit_used own w cb x pb rb mv q h hok nm i p hf hp he
    · have e : x.admit nm = (⟨0, i, p.ep + 1⟩, p.renewM i ++ [⟨1, i, p.ep + 1, 0⟩], x.ps.set i p.renew) := by unfold Co.admit; rw [hf]; simp [hp, he]
      rw [e]
      exact admit_old own w cb x pb rb mv q h hok nm i p hf hp he
end Go.Proofs.Ytoihfhlelbdboab
