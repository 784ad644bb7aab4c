/- An operation that was not applied ahead is done. -/
import Derived.Test.YtoihfhlelbdboabCoU
namespace Go.Proofs.Ytoihfhlelbdboab
open Go.RowKit Go.Dig Go.Inv Go.Oct Go.Hold
set_option linter.unusedVariables false
set_option linter.unusedSimpArgs false

/-- what may be known of all producers -/
structure CoOk (x : Co) : Prop where
  len : x.ps.length ≤ 8
  each : ∀ p ∈ x.ps, 0 ≤ p.ep ∧ p.ep ≤ 100 ∧ PrOk x.now p
  now : 0 ≤ x.now ∧ x.now ≤ 10000
theorem CoOk.ends {x : Co} (h : CoOk x) {p : Pr} (hp : p ∈ x.ps) : p.ends.length ≤ 1000 := by
  have := (h.each p hp).2.2.1
  split at this <;> omega
theorem CoOk.ps {x : Co} (h : CoOk x) : PsOk x.ps := ⟨h.len, fun p hp => ⟨h.ends hp, (h.each p hp).1, by have := (h.each p hp).2.1; omega⟩⟩
/-- the reply is laid in a block of the caller -/
theorem RunQ.wrap {own : Own} {w w1 w2 w3 : World} {cb g : Nat} {x : Co} {pb rb : Nat} {mv : Value} {r r0 : Rp.Rp3} {ms : List Mk} {ps : List Pr} {now : Int} {e : Ending} (hB : Below w.heap.size w w1) (ho : Owned own w) (h : RunQ own w1 cb x pb rb mv r ms ps now e w2) (hK : Keeps g w2 w3) (hg : w.heap.size ≤ g) (hg1 : g < w1.heap.size) (hc : w2.heap[g]? = some (.cells (rpC r0) 27 (0, 0))) :
    RunQ own w cb x pb rb mv r ms ps now e w3 := by
  obtain ⟨v, own2, q2, h1, h2, h3, h4, h5⟩ := h
  have hfree : own2 g = none := by
    rw [h5.old g hg1]
    cases hh : own g with
    | none => rfl
    | some l => have := ho g l hh; omega
  have hF : Frm (· = g) w2 w3 := ⟨hK.os, hK.tape, hK.output, hK.size, fun k hk hn => hK.block k hk hn⟩
  have hne : ∀ k, v.ownBlock = some k → k ≠ g := fun k hk e => by have := h3 k hk; rw [e, hfree] at this; cases this
  exact ⟨v, own2, q2, h1, (h2.mono hB.size).same fun k hk => hK.block k (h2.lt k hk).2 (hne k hk), h3, h4.other hF hfree (low_reply hc), ((Step.of_below hB ho).trans h5).tail (hK.below hg (Nat.le_trans hB.size h5.size))⟩
theorem CoOk.nameOf {o : OpF} (h : o.In) : o.n.size < 1073741824 := h.n
set_option maxRecDepth 100000 in
set_option maxHeartbeats 4000000 in
theorem run_init (own : Own) (w : World) (cb : Nat) (x : Co) (pb rb : Nat) (mv : Value) (q : List Nat) (h : CoS own w cb x pb rb mv q) (hok : CoOk x) (o : OpF) (hin : o.In) (hk : o.k = 1) :
    Calls Try.prog 21 #[.pointer (some ⟨cb, 0, none⟩), .agg o.cells] w (RunQ own w cb x pb rb mv (x.admit o.n).1 (x.admit o.n).2.1 (x.admit o.n).2.2 x.now) := by
  have hB0 : Below w.heap.size w ((w.alloc (.cells o.cells 32)).alloc (.cells (rpC rp0) 27)) := (below_alloc _ _).alloc (by simp) _
  have hop : ((w.alloc (.cells o.cells 32)).alloc (.cells (rpC rp0) 27)).heap[w.heap.size]? = some (.cells o.cells 32 (0, 0)) := alloc_blk_old (alloc_blk _ _) _
  have hz0 : ((w.alloc (.cells o.cells 32)).alloc (.cells (rpC rp0) 27)).heap[w.heap.size + 1]? = some (.cells (rpC rp0) 27 (0, 0)) := by
    have := alloc_blk (w.alloc (.cells o.cells 32)) (.cells (rpC rp0) 27)
    rwa [World.size_alloc] at this
  have hs0 : ((w.alloc (.cells o.cells 32)).alloc (.cells (rpC rp0) 27)).heap.size = w.heap.size + 2 := by simp
  have h0 := h.below hB0
  have k0 : ((w.alloc (.cells o.cells 32)).alloc (.cells (rpC rp0) 27)).cell? ⟨w.heap.size, 0, none⟩ = some (.int .i64 1) := by rw [← hk]; exact cell_blk hop 0
  have k3 : ((w.alloc (.cells o.cells 32)).alloc (.cells (rpC rp0) 27)).cell? ⟨w.heap.size, 3, none⟩ = some (.string o.n) := cell_blk hop 3
  obtain ⟨W1, HW1⟩ : ∃ W1, Hid ((w.alloc (.cells o.cells 32)).alloc (.cells (rpC rp0) 27) = W1) := ⟨_, rfl⟩
  rw [HW1.out] at hB0 hop hz0 hs0 h0 k0 k3
  go_enter Try.func21, Try.ntmps21
  go_wp2_with (first | (refine wpList_box_row rfl 32 _ rfl o.cells ?_ ?_; rfl) | (refine wpList_alloc_row rfl 27 rfl (rpC rp0) (by kernel_rfl) ?_; rw [World.size_alloc, HW1.out]) | (go_at_call 34; refine (admit_at own _ cb x pb rb mv q h0 hok.ps o.n hin.n).mono ?_; rintro e w2 hR; obtain ⟨v, own2, q2, he, hO, hl, hC, hS⟩ := hR; subst he; have hg2 : w2.heap[w.heap.size + 1]? = some (.cells (rpC rp0) 27 (0, 0)) := (hS.block (by omega) (fun l e => (by exfalso; have := h.owned _ _ e; omega))).trans hz0; have HR : Hid (RunQ own W1 cb x pb rb mv (x.admit o.n).1 (x.admit o.n).2.1 (x.admit o.n).2.2 x.now (.returned (.tuple #[.agg (rpC (x.admit o.n).1), v])) w2) := ⟨v, own2, q2, rfl, hO, hl, hC, hS⟩; clear hO hl hC hS) | (refine wpList_store_whole rfl 27 _ _ rfl (w.heap.size + 1) (rpC (x.admit o.n).1) (rpC rp0) ?_ ?_ 27 hg2 (by kernel_rfl) (rpC_all _) rfl ?_; rfl; rfl))
  intro w3 h3 hK3
  go_wp2_with fail
  exact bodyPost_ret (results_agg_tmp rfl _ _ (w.heap.size + 1) (rpC (x.admit o.n).1) 27 (0, 0) v rfl rfl (by kernel_rfl) h3 (by kernel_rfl)) rfl (RunQ.wrap hB0 h.owned HR.out hK3 (by omega) (by omega) hg2)
/-- on the way: the reply's block is there, what was marked stands in a row of its own -/
structure RnI (own : Own) (w : World) (cb : Nat) (x : Co) (pb rb : Nat) (mv : Value) (ps : List Pr) (g : Nat) (v : Value) (ms : List Mk) (own2 : Own) (q2 : List Nat) (W : World) : Prop where
  co : CoS own2 W cb ⟨ps, x.rs, x.ms, x.now⟩ pb rb mv q2
  step : Step AllP own own2 w W
  row : OwnM W w.heap.size v ms
  labs : ∀ k, v.ownBlock = some k → own2 k = some .tmp
  cell : W.heap[g]? = some (.cells (rpC rp0) 27 (0, 0))
  free : own2 g = none
section
variable {own : Own} {w : World} {cb : Nat} {x : Co} {pb rb : Nat} {mv : Value} {ps : List Pr} {g : Nat} {v : Value} {ms : List Mk} {own2 own3 : Own} {q2 : List Nat} {W W4 : World} {r : Rp.Rp3}
theorem RnI.below (h : RnI own w cb x pb rb mv ps g v ms own2 q2 W) (hB : Below W.heap.size W W4) : RnI own w cb x pb rb mv ps g v ms own2 q2 W4 :=
  ⟨h.co.below hB, h.step.trans (Step.of_below hB h.co.owned), h.row.below hB, h.labs, (hB.block _ (lt_blk h.cell)).trans h.cell, h.free⟩
theorem RnI.done (h : RnI own w cb x pb rb mv ps g v ms own2 q2 W) (hK : Keeps g W W4) (hg : w.heap.size ≤ g) : RunQ own w cb x pb rb mv r ms ps x.now (.returned (.tuple #[.agg (rpC r), v])) W4 := by
  have hF : Frm (· = g) W W4 := ⟨hK.os, hK.tape, hK.output, hK.size, fun k hk hn => hK.block k hk hn⟩
  have hne : ∀ k, v.ownBlock = some k → k ≠ g := fun k hk e => by have := h.labs k hk; rw [e, h.free] at this; cases this
  exact ⟨v, own2, q2, rfl, h.row.same fun k hk => hK.block k (h.row.lt k hk).2 (hne k hk), h.labs, h.co.other hF h.free (low_reply h.cell), h.step.tail (hK.below hg h.step.size)⟩
theorem RnI.prod {i b : Nat} {p' : Pr} (h : RnI own w cb x pb rb mv ps g (.slice none 0 0) [] own2 q2 W) (hs : Step (OfP i) own2 own3 W W4) (hq : q2[i]? = some b) (hp : PrAt own3 W4 i b p') : RnI own w cb x pb rb mv (ps.set i p') g (.slice none 0 0) [] own3 q2 W4 :=
  ⟨h.co.prod hs hq hp, h.step.trans hs.all, OwnM.nil _ _, fun k hk => (by cases hk), (hs.block (lt_blk h.cell) fun l e => by rw [h.free] at e; cases e).trans h.cell, (hs.old _ (lt_blk h.cell)).trans h.free⟩
theorem RnI.start (h : CoS own w cb x pb rb mv q2) (hB : Below w.heap.size w W) (hg : w.heap.size ≤ g) (hc : W.heap[g]? = some (.cells (rpC rp0) 27 (0, 0))) : RnI own w cb x pb rb mv x.ps g (.slice none 0 0) [] own q2 W :=
  ⟨h.below hB, Step.of_below hB h.owned, OwnM.nil _ _, fun k hk => (by cases hk), hc, by
    cases hh : own g with
    | none => rfl
    | some l => have := h.owned g l hh; omega⟩
end
set_option maxRecDepth 100000 in
set_option maxHeartbeats 4000000 in
theorem run_tick (own : Own) (w : World) (cb : Nat) (x : Co) (pb rb : Nat) (mv : Value) (q : List Nat) (h : CoS own w cb x pb rb mv q) (hok : CoOk x) (o : OpF) (hk : o.k = 4) :
    Calls Try.prog 21 #[.pointer (some ⟨cb, 0, none⟩), .agg o.cells] w (RunQ own w cb x pb rb mv (err 0) (ageMs (x.now + 1) 0 x.ps) (x.ps.map (·.age (x.now + 1))) (x.now + 1)) := by
  have hB0 : Below w.heap.size w ((w.alloc (.cells o.cells 32)).alloc (.cells (rpC rp0) 27)) := (below_alloc _ _).alloc (by simp) _
  have hop : ((w.alloc (.cells o.cells 32)).alloc (.cells (rpC rp0) 27)).heap[w.heap.size]? = some (.cells o.cells 32 (0, 0)) := alloc_blk_old (alloc_blk _ _) _
  have hz0 : ((w.alloc (.cells o.cells 32)).alloc (.cells (rpC rp0) 27)).heap[w.heap.size + 1]? = some (.cells (rpC rp0) 27 (0, 0)) := by
    have := alloc_blk (w.alloc (.cells o.cells 32)) (.cells (rpC rp0) 27)
    rwa [World.size_alloc] at this
  have hs0 : ((w.alloc (.cells o.cells 32)).alloc (.cells (rpC rp0) 27)).heap.size = w.heap.size + 2 := by simp
  have h0 := h.below hB0
  have k0 : ((w.alloc (.cells o.cells 32)).alloc (.cells (rpC rp0) 27)).cell? ⟨w.heap.size, 0, none⟩ = some (.int .i64 o.k) := cell_blk hop 0
  have k1 : ((w.alloc (.cells o.cells 32)).alloc (.cells (rpC rp0) 27)).cell? ⟨w.heap.size, 1, none⟩ = some (.int .i64 o.c) := cell_blk hop 1
  have k2 : ((w.alloc (.cells o.cells 32)).alloc (.cells (rpC rp0) 27)).cell? ⟨w.heap.size, 2, none⟩ = some (.int .i64 o.s) := cell_blk hop 2
  have k3 : ((w.alloc (.cells o.cells 32)).alloc (.cells (rpC rp0) 27)).cell? ⟨w.heap.size, 3, none⟩ = some (.string o.n) := cell_blk hop 3
  have k4 : ((w.alloc (.cells o.cells 32)).alloc (.cells (rpC rp0) 27)).cell? ⟨w.heap.size, 4, none⟩ = some (.int .i64 o.p) := cell_blk hop 4
  have k5 : ((w.alloc (.cells o.cells 32)).alloc (.cells (rpC rp0) 27)).cell? ⟨w.heap.size, 5, none⟩ = some (.int .i64 o.e) := cell_blk hop 5
  have k6 : ((w.alloc (.cells o.cells 32)).alloc (.cells (rpC rp0) 27)).cell? ⟨w.heap.size, 6, none⟩ = some (.int .i64 o.t) := cell_blk hop 6
  have k7 : ((w.alloc (.cells o.cells 32)).alloc (.cells (rpC rp0) 27)).cell? ⟨w.heap.size, 7, none⟩ = some (.int .i64 o.r) := cell_blk hop 7
  have k8 : ((w.alloc (.cells o.cells 32)).alloc (.cells (rpC rp0) 27)).cell? ⟨w.heap.size, 8, none⟩ = some (.bool o.b) := cell_blk hop 8
  obtain ⟨W1, HW1⟩ : ∃ W1, Hid (((w.alloc (.cells o.cells 32)).alloc (.cells (rpC rp0) 27)) = W1) := ⟨_, rfl⟩
  rw [HW1.out] at hB0 hop hz0 hs0 h0 k0 k1 k2 k3 k4 k5 k6 k7 k8
  have hwl : w.heap.size < W1.heap.size := by omega
  have hcl : cb < W1.heap.size := lt_blk h0.blk
  have cn : W1.cell? ⟨cb, 3, none⟩ = some (.int .i64 x.now) := cell_blk h0.blk 3
  rw [hk] at k0
  go_enter Try.func21, Try.ntmps21
  go_wp2_with (first | (refine wpList_box_row rfl 32 _ rfl o.cells ?_ ?_; rfl) | (refine wpList_alloc_row rfl 27 rfl (rpC rp0) (by kernel_rfl) ?_; rw [World.size_alloc, HW1.out]) | (refine wpList_build_to rfl 27 _ rfl (rpC (err 0)) (by kernel_rfl) ?_) | (go_at_call 35; refine (tick_at own _ cb x pb rb mv q h0 (fun p hp => (hok.each p hp).2.2) hok.len (by have := hok.now; omega)).mono ?_; rintro e w2 hR; obtain ⟨v, own2, he, hO, hl, hC, hS⟩ := hR; subst he; have hg2 : w2.heap[w.heap.size + 1]? = some (.cells (rpC rp0) 27 (0, 0)) := (hS.block (by omega) (fun l e => (by exfalso; have := h.owned _ _ e; omega))).trans hz0; have HR : Hid (RunQ own W1 cb x pb rb mv (err 0) (ageMs (x.now + 1) 0 x.ps) (x.ps.map (·.age (x.now + 1))) (x.now + 1) (.returned (.tuple #[.agg (rpC (err 0)), v])) w2) := ⟨v, own2, q, rfl, hO, hl, hC, hS.all⟩; clear hO hl hC hS) | (refine wpList_store_whole rfl 27 _ _ rfl (w.heap.size + 1) (rpC (err 0)) (rpC rp0) ?_ ?_ 27 hg2 (by kernel_rfl) (rpC_all _) rfl ?_; rfl; rfl))
  intro w3 h3 hK3
  go_wp2_with fail
  exact bodyPost_ret (results_agg_tmp rfl _ _ (w.heap.size + 1) (rpC (err 0)) 27 (0, 0) v rfl rfl (by kernel_rfl) h3 (by kernel_rfl)) rfl (RunQ.wrap hB0 h.owned HR.out hK3 (by omega) (by omega) hg2)
set_option maxRecDepth 100000 in
set_option maxHeartbeats 4000000 in
theorem run_none (own : Own) (w : World) (cb : Nat) (x : Co) (pb rb : Nat) (mv : Value) (q : List Nat) (h : CoS own w cb x pb rb mv q) (o : OpF) (hk1 : o.k ≠ 1) (hk4 : o.k ≠ 4) (hp : ptrAt q o.p = none) :
    Calls Try.prog 21 #[.pointer (some ⟨cb, 0, none⟩), .agg o.cells] w (RunQ own w cb x pb rb mv (err 4) [] x.ps x.now) := by
  have hB0 : Below w.heap.size w ((w.alloc (.cells o.cells 32)).alloc (.cells (rpC rp0) 27)) := (below_alloc _ _).alloc (by simp) _
  have hop : ((w.alloc (.cells o.cells 32)).alloc (.cells (rpC rp0) 27)).heap[w.heap.size]? = some (.cells o.cells 32 (0, 0)) := alloc_blk_old (alloc_blk _ _) _
  have hz0 : ((w.alloc (.cells o.cells 32)).alloc (.cells (rpC rp0) 27)).heap[w.heap.size + 1]? = some (.cells (rpC rp0) 27 (0, 0)) := by
    have := alloc_blk (w.alloc (.cells o.cells 32)) (.cells (rpC rp0) 27)
    rwa [World.size_alloc] at this
  have hs0 : ((w.alloc (.cells o.cells 32)).alloc (.cells (rpC rp0) 27)).heap.size = w.heap.size + 2 := by simp
  have h0 := h.below hB0
  have k0 : ((w.alloc (.cells o.cells 32)).alloc (.cells (rpC rp0) 27)).cell? ⟨w.heap.size, 0, none⟩ = some (.int .i64 o.k) := cell_blk hop 0
  have k1 : ((w.alloc (.cells o.cells 32)).alloc (.cells (rpC rp0) 27)).cell? ⟨w.heap.size, 1, none⟩ = some (.int .i64 o.c) := cell_blk hop 1
  have k2 : ((w.alloc (.cells o.cells 32)).alloc (.cells (rpC rp0) 27)).cell? ⟨w.heap.size, 2, none⟩ = some (.int .i64 o.s) := cell_blk hop 2
  have k3 : ((w.alloc (.cells o.cells 32)).alloc (.cells (rpC rp0) 27)).cell? ⟨w.heap.size, 3, none⟩ = some (.string o.n) := cell_blk hop 3
  have k4 : ((w.alloc (.cells o.cells 32)).alloc (.cells (rpC rp0) 27)).cell? ⟨w.heap.size, 4, none⟩ = some (.int .i64 o.p) := cell_blk hop 4
  have k5 : ((w.alloc (.cells o.cells 32)).alloc (.cells (rpC rp0) 27)).cell? ⟨w.heap.size, 5, none⟩ = some (.int .i64 o.e) := cell_blk hop 5
  have k6 : ((w.alloc (.cells o.cells 32)).alloc (.cells (rpC rp0) 27)).cell? ⟨w.heap.size, 6, none⟩ = some (.int .i64 o.t) := cell_blk hop 6
  have k7 : ((w.alloc (.cells o.cells 32)).alloc (.cells (rpC rp0) 27)).cell? ⟨w.heap.size, 7, none⟩ = some (.int .i64 o.r) := cell_blk hop 7
  have k8 : ((w.alloc (.cells o.cells 32)).alloc (.cells (rpC rp0) 27)).cell? ⟨w.heap.size, 8, none⟩ = some (.bool o.b) := cell_blk hop 8
  obtain ⟨W1, HW1⟩ : ∃ W1, Hid (((w.alloc (.cells o.cells 32)).alloc (.cells (rpC rp0) 27)) = W1) := ⟨_, rfl⟩
  rw [HW1.out] at hB0 hop hz0 hs0 h0 k0 k1 k2 k3 k4 k5 k6 k7 k8
  have hwl : w.heap.size < W1.heap.size := by omega
  have hcl : cb < W1.heap.size := lt_blk h0.blk
  have cn : W1.cell? ⟨cb, 3, none⟩ = some (.int .i64 x.now) := cell_blk h0.blk 3
  have hb1 : (o.k == 1) = false := by simpa using hk1
  have hb4 : (o.k == 4) = false := by simpa using hk4
  go_enter Try.func21, Try.ntmps21
  go_wp2_with (first | (refine wpList_box_row rfl 32 _ rfl o.cells ?_ ?_; rfl) | (refine wpList_alloc_row rfl 27 rfl (rpC rp0) (by kernel_rfl) ?_; rw [World.size_alloc, HW1.out]) | (go_at_call 23; refine (producer_at own _ cb x pb rb mv q h0 o.p).mono ?_; rw [hp]; rintro e w2 ⟨rfl, rfl⟩) | (go_at_call 18; refine (plain_any 4 _).mono ?_; rintro e w3 ⟨rfl, hB3⟩; have hz3 := (hB3.block _ (by omega)).trans hz0) | (refine wpList_store_whole rfl 27 _ _ rfl (w.heap.size + 1) (rpC (err 4)) (rpC rp0) ?_ ?_ 27 hz3 (by kernel_rfl) (rpC_all _) rfl ?_; rfl; rfl))
  intro w4 h4 hK4
  go_wp2_with fail
  exact bodyPost_ret (results_agg_tmp rfl _ _ (w.heap.size + 1) (rpC (err 4)) 27 (0, 0) (.slice none 0 0) rfl rfl (by kernel_rfl) h4 (by kernel_rfl)) rfl ((RnI.start h (hB0.trans (hB3.mono (by omega))) (Nat.le_succ _) hz3).done hK4 (Nat.le_succ _))
set_option maxRecDepth 100000 in
set_option maxHeartbeats 4000000 in
theorem run_fenced (own : Own) (w : World) (cb : Nat) (x : Co) (pb rb : Nat) (mv : Value) (q : List Nat) (h : CoS own w cb x pb rb mv q) (o : OpF) (hk1 : o.k ≠ 1) (hk4 : o.k ≠ 4) (i b : Nat) (p : Pr) (hp : ptrAt q o.p = some ⟨b, 0, none⟩) (hq : q[i]? = some b) (hpi : x.ps[i]? = some p) (he : o.e ≠ p.ep) :
    Calls Try.prog 21 #[.pointer (some ⟨cb, 0, none⟩), .agg o.cells] w (RunQ own w cb x pb rb mv (err 5) [] x.ps x.now) := by
  have hB0 : Below w.heap.size w ((w.alloc (.cells o.cells 32)).alloc (.cells (rpC rp0) 27)) := (below_alloc _ _).alloc (by simp) _
  have hop : ((w.alloc (.cells o.cells 32)).alloc (.cells (rpC rp0) 27)).heap[w.heap.size]? = some (.cells o.cells 32 (0, 0)) := alloc_blk_old (alloc_blk _ _) _
  have hz0 : ((w.alloc (.cells o.cells 32)).alloc (.cells (rpC rp0) 27)).heap[w.heap.size + 1]? = some (.cells (rpC rp0) 27 (0, 0)) := by
    have := alloc_blk (w.alloc (.cells o.cells 32)) (.cells (rpC rp0) 27)
    rwa [World.size_alloc] at this
  have hs0 : ((w.alloc (.cells o.cells 32)).alloc (.cells (rpC rp0) 27)).heap.size = w.heap.size + 2 := by simp
  have h0 := h.below hB0
  have k0 : ((w.alloc (.cells o.cells 32)).alloc (.cells (rpC rp0) 27)).cell? ⟨w.heap.size, 0, none⟩ = some (.int .i64 o.k) := cell_blk hop 0
  have k1 : ((w.alloc (.cells o.cells 32)).alloc (.cells (rpC rp0) 27)).cell? ⟨w.heap.size, 1, none⟩ = some (.int .i64 o.c) := cell_blk hop 1
  have k2 : ((w.alloc (.cells o.cells 32)).alloc (.cells (rpC rp0) 27)).cell? ⟨w.heap.size, 2, none⟩ = some (.int .i64 o.s) := cell_blk hop 2
  have k3 : ((w.alloc (.cells o.cells 32)).alloc (.cells (rpC rp0) 27)).cell? ⟨w.heap.size, 3, none⟩ = some (.string o.n) := cell_blk hop 3
  have k4 : ((w.alloc (.cells o.cells 32)).alloc (.cells (rpC rp0) 27)).cell? ⟨w.heap.size, 4, none⟩ = some (.int .i64 o.p) := cell_blk hop 4
  have k5 : ((w.alloc (.cells o.cells 32)).alloc (.cells (rpC rp0) 27)).cell? ⟨w.heap.size, 5, none⟩ = some (.int .i64 o.e) := cell_blk hop 5
  have k6 : ((w.alloc (.cells o.cells 32)).alloc (.cells (rpC rp0) 27)).cell? ⟨w.heap.size, 6, none⟩ = some (.int .i64 o.t) := cell_blk hop 6
  have k7 : ((w.alloc (.cells o.cells 32)).alloc (.cells (rpC rp0) 27)).cell? ⟨w.heap.size, 7, none⟩ = some (.int .i64 o.r) := cell_blk hop 7
  have k8 : ((w.alloc (.cells o.cells 32)).alloc (.cells (rpC rp0) 27)).cell? ⟨w.heap.size, 8, none⟩ = some (.bool o.b) := cell_blk hop 8
  obtain ⟨W1, HW1⟩ : ∃ W1, Hid (((w.alloc (.cells o.cells 32)).alloc (.cells (rpC rp0) 27)) = W1) := ⟨_, rfl⟩
  rw [HW1.out] at hB0 hop hz0 hs0 h0 k0 k1 k2 k3 k4 k5 k6 k7 k8
  have hwl : w.heap.size < W1.heap.size := by omega
  have hcl : cb < W1.heap.size := lt_blk h0.blk
  have cn : W1.cell? ⟨cb, 3, none⟩ = some (.int .i64 x.now) := cell_blk h0.blk 3
  have hb1 : (o.k == 1) = false := by simpa using hk1
  have hb4 : (o.k == 4) = false := by simpa using hk4
  have hbe : (o.e != p.ep) = true := by simpa using he
  obtain ⟨b', hb', ev, ov, hpr⟩ := h0.pr i p hpi
  rw [hq] at hb'
  cases hb'
  have c2 : W1.cell? ⟨b, 2, none⟩ = some (.int .i64 p.ep) := cell_blk hpr.blk 2
  have hbl : b < W1.heap.size := lt_blk hpr.blk
  go_enter Try.func21, Try.ntmps21
  go_upto_region 9 with (first | (refine wpList_box_row rfl 32 _ rfl o.cells ?_ ?_; rfl) | (refine wpList_alloc_row rfl 27 rfl (rpC rp0) (by kernel_rfl) ?_; rw [World.size_alloc, HW1.out]) | (go_at_call 23; refine (producer_at own _ cb x pb rb mv q h0 o.p).mono ?_; rw [hp]; rintro e w2 ⟨rfl, hw2⟩; subst hw2))
  refine wp_region_growG (by kernel_rfl) (by kernel_rfl) (fun xS => { tmps := (Value.pointer (some (⟨cb, 0, none⟩ : Addr)) :: Value.agg o.cells :: undef :: Value.pointer (some (⟨w.heap.size, 0, none⟩ : Addr)) :: Value.pointer (some (⟨w.heap.size + 1, 0, none⟩ : Addr)) :: Value.slice none 0 0 :: Value.pointer (some (⟨b, 0, none⟩ : Addr)) :: undef :: undef :: Value.pointer (some (⟨w.heap.size, 0, none⟩ : Addr)) :: Value.int IntKind.i64 o.k :: Value.bool false :: Value.bool false :: undef :: undef :: undef :: undef :: undef :: undef :: Value.bool false :: Value.bool false :: undef :: undef :: undef :: Value.pointer (some (⟨cb, 0, none⟩ : Addr)) :: Value.pointer (some (⟨w.heap.size, 4, none⟩ : Addr)) :: Value.int IntKind.i64 o.p :: Value.pointer (some (⟨b, 0, none⟩ : Addr)) :: Value.bool false :: Value.pointer (some (⟨b, 0, none⟩ : Addr)) :: Value.bool false :: undef :: xS 7 :: xS 0 :: xS 1 :: xS 2 :: xS 3 :: xS 4 :: xS 5 :: xS 6 :: undef :: undef :: undef :: undef :: undef :: undef :: undef :: undef :: undef :: undef :: undef :: undef :: undef :: undef :: undef :: undef :: undef :: undef :: undef :: undef :: undef :: undef :: undef :: undef :: undef :: undef :: undef :: undef :: []).toArray, defers := [] })
    (fun ii xx WW => match ii with | 0 => xx = .pointer (some ⟨w.heap.size, 5, none⟩) | 1 => xx = .int .i64 o.e | 2 => xx = Value.pointer (some (⟨b, 0, none⟩ : Addr)) | 3 => xx = Value.pointer (some (⟨b, 0, none⟩ : Addr)) | 4 => xx = .pointer (some ⟨b, 2, none⟩) | 5 => xx = .int .i64 p.ep | 6 => xx = .bool true | 7 => xx = .bool true | _ => True) (fun | 0 => undef | 1 => undef | 2 => undef | 3 => undef | 4 => undef | 5 => undef | 6 => undef | 7 => undef | _ => undef) (by repeat (first | exact trivial | refine ⟨fun _ _ => rfl, ?_⟩)) (fun _ _ _ _ _ h => h) ⟨?_, ?_, ?_, ?_, ?_, ?_, ?_, ?_, trivial⟩ ?_
  · intro xS W hB hp K hK
    rw [if_pos (wanted_none rfl _)]
    clear hp
    go_simp
    exact hK _ _ (Below.refl _ _) rfl
  · intro xS W hB hp K hK
    rw [if_pos (wanted_none rfl _)]
    have h0 : xS 0 = .pointer (some ⟨w.heap.size, 5, none⟩) := hp.1 rfl
    clear hp
    have hc := (hB.cell (p := ⟨w.heap.size, 5, none⟩) hwl).trans k5
    simp only [h0] at hK ⊢
    clear h0
    go_simp
    exact hK _ _ (Below.refl _ _) rfl
  · intro xS W hB hp K hK
    rw [if_pos (wanted_none rfl _)]
    clear hp
    go_simp
    exact hK _ _ (Below.refl _ _) rfl
  · intro xS W hB hp K hK
    rw [if_pos (wanted_none rfl _)]
    have h2 : xS 2 = Value.pointer (some (⟨b, 0, none⟩ : Addr)) := hp.1 rfl
    clear hp
    simp only [h2] at hK ⊢
    clear h2
    go_simp
    exact hK _ _ (Below.refl _ _) rfl
  · intro xS W hB hp K hK
    rw [if_pos (wanted_none rfl _)]
    have h3 : xS 3 = Value.pointer (some (⟨b, 0, none⟩ : Addr)) := hp.1 rfl
    clear hp
    simp only [h3] at hK ⊢
    clear h3
    go_simp
    exact hK _ _ (Below.refl _ _) rfl
  · intro xS W hB hp K hK
    rw [if_pos (wanted_none rfl _)]
    have h4 : xS 4 = .pointer (some ⟨b, 2, none⟩) := hp.1 rfl
    clear hp
    have hc := (hB.cell (p := ⟨b, 2, none⟩) hbl).trans c2
    simp only [h4] at hK ⊢
    clear h4
    go_simp
    exact hK _ _ (Below.refl _ _) rfl
  · intro xS W hB hp K hK
    rw [if_pos (wanted_none rfl _)]
    have h1 : xS 1 = .int .i64 o.e := hp.1 rfl
    have h5 : xS 5 = .int .i64 p.ep := hp.2.1 rfl
    clear hp
    simp only [h1, h5] at hK ⊢
    clear h1 h5
    go_simp
    exact hK _ _ (Below.refl _ _) rfl
  · intro xS W hB hp K hK
    rw [if_pos (wanted_none rfl _)]
    have h6 : xS 6 = .bool true := hp.1 rfl
    clear hp
    simp only [h6] at hK ⊢
    clear h6
    go_simp
    exact hK _ _ (Below.refl _ _) rfl
  intro xs9 W2 hB2 hs
  have h7 : xs9 7 = .bool true := hs 7 (by simp)
  clear hs
  simp only [h7]
  have hz2 := (hB2.block _ (by omega)).trans hz0
  have HB2 : Hid (Below w.heap.size w W2) := hB0.trans (hB2.mono (by omega))
  clear hB2 c2 k0 k1 k2 k3 k4 k5 k6 k7 k8 cn h0 hpr h7
  go_wp2_with (first | (go_at_call 18; refine (plain_any 5 _).mono ?_; rintro e w3 ⟨rfl, hB3⟩; have hz3 := (hB3.block _ (lt_blk hz2)).trans hz2) | (refine wpList_store_whole rfl 27 _ _ rfl (w.heap.size + 1) (rpC (err 5)) (rpC rp0) ?_ ?_ 27 hz3 (by kernel_rfl) (rpC_all _) rfl ?_; rfl; rfl))
  intro w4 h4 hK4
  go_wp2_with fail
  exact bodyPost_ret (results_agg_tmp rfl _ _ (w.heap.size + 1) (rpC (err 5)) 27 (0, 0) (.slice none 0 0) rfl rfl (by kernel_rfl) h4 (by kernel_rfl)) rfl ((RnI.start h (HB2.out.trans (hB3.mono HB2.out.size)) (Nat.le_succ _) hz3).done hK4 (Nat.le_succ _))
def AddS (own : Own) (w : World) (cb : Nat) (x : Co) (pb rb : Nat) (mv : Value) (q : List Nat) (i : Nat) (p : Pr) (o : OpF) (Wb : World) : List Value → World → Prop
  | [], W => RnI own w cb x pb rb mv x.ps (w.heap.size + 1) (.slice none 0 0) [] own q W ∧ Below Wb.heap.size Wb W
  | [v], W => v = .int .i64 (p.add o.t o.r x.now).2 ∧ ∃ own2, RnI own w cb x pb rb mv (x.ps.set i (p.add o.t o.r x.now).1) (w.heap.size + 1) (.slice none 0 0) [] own2 q W
  | _ :: _ :: _, W => W.heap[w.heap.size + 1]? = some (.cells (rpC (err (p.add o.t o.r x.now).2)) 27 (0, 0)) ∧ RunQ own w cb x pb rb mv (err (p.add o.t o.r x.now).2) [] (x.ps.set i (p.add o.t o.r x.now).1) x.now (.returned (.tuple #[.agg (rpC (err (p.add o.t o.r x.now).2)), .slice none 0 0])) W
theorem AddS.below {own : Own} {w : World} {cb : Nat} {x : Co} {pb rb : Nat} {mv : Value} {q : List Nat} {i : Nat} {p : Pr} {o : OpF} {Wb : World} : ∀ (s : List Value) (A B : World), Below A.heap.size A B → AddS own w cb x pb rb mv q i p o Wb s A → AddS own w cb x pb rb mv q i p o Wb s B
  | [], A, B, hB, ⟨h1, h2⟩ => ⟨h1.below hB, h2.trans (hB.mono h2.size)⟩
  | [v], A, B, hB, ⟨h1, own2, h2⟩ => ⟨h1, own2, h2.below hB⟩
  | _ :: _ :: _, A, B, hB, ⟨h1, h2⟩ => ⟨(hB.block _ (lt_blk h1)).trans h1, h2.below hB⟩
set_option maxRecDepth 100000 in
set_option maxHeartbeats 4000000 in
theorem run_add (own : Own) (w : World) (cb : Nat) (x : Co) (pb rb : Nat) (mv : Value) (q : List Nat) (h : CoS own w cb x pb rb mv q) (o : OpF) (hk : o.k = 2) (hr : 0 ≤ o.r ∧ o.r ≤ 3) (i b : Nat) (p : Pr) (hp : ptrAt q o.p = some ⟨b, 0, none⟩) (hq : q[i]? = some b) (hpi : x.ps[i]? = some p) (hpe : p.ends.length ≤ 1000) (he : o.e = p.ep) :
    Calls Try.prog 21 #[.pointer (some ⟨cb, 0, none⟩), .agg o.cells] w (RunQ own w cb x pb rb mv (err (p.add o.t o.r x.now).2) [] (x.ps.set i (p.add o.t o.r x.now).1) x.now) := by
  have hB0 : Below w.heap.size w ((w.alloc (.cells o.cells 32)).alloc (.cells (rpC rp0) 27)) := (below_alloc _ _).alloc (by simp) _
  have hop : ((w.alloc (.cells o.cells 32)).alloc (.cells (rpC rp0) 27)).heap[w.heap.size]? = some (.cells o.cells 32 (0, 0)) := alloc_blk_old (alloc_blk _ _) _
  have hz0 : ((w.alloc (.cells o.cells 32)).alloc (.cells (rpC rp0) 27)).heap[w.heap.size + 1]? = some (.cells (rpC rp0) 27 (0, 0)) := by
    have := alloc_blk (w.alloc (.cells o.cells 32)) (.cells (rpC rp0) 27)
    rwa [World.size_alloc] at this
  have hs0 : ((w.alloc (.cells o.cells 32)).alloc (.cells (rpC rp0) 27)).heap.size = w.heap.size + 2 := by simp
  have h0 := h.below hB0
  have k0 : ((w.alloc (.cells o.cells 32)).alloc (.cells (rpC rp0) 27)).cell? ⟨w.heap.size, 0, none⟩ = some (.int .i64 o.k) := cell_blk hop 0
  have k1 : ((w.alloc (.cells o.cells 32)).alloc (.cells (rpC rp0) 27)).cell? ⟨w.heap.size, 1, none⟩ = some (.int .i64 o.c) := cell_blk hop 1
  have k2 : ((w.alloc (.cells o.cells 32)).alloc (.cells (rpC rp0) 27)).cell? ⟨w.heap.size, 2, none⟩ = some (.int .i64 o.s) := cell_blk hop 2
  have k3 : ((w.alloc (.cells o.cells 32)).alloc (.cells (rpC rp0) 27)).cell? ⟨w.heap.size, 3, none⟩ = some (.string o.n) := cell_blk hop 3
  have k4 : ((w.alloc (.cells o.cells 32)).alloc (.cells (rpC rp0) 27)).cell? ⟨w.heap.size, 4, none⟩ = some (.int .i64 o.p) := cell_blk hop 4
  have k5 : ((w.alloc (.cells o.cells 32)).alloc (.cells (rpC rp0) 27)).cell? ⟨w.heap.size, 5, none⟩ = some (.int .i64 o.e) := cell_blk hop 5
  have k6 : ((w.alloc (.cells o.cells 32)).alloc (.cells (rpC rp0) 27)).cell? ⟨w.heap.size, 6, none⟩ = some (.int .i64 o.t) := cell_blk hop 6
  have k7 : ((w.alloc (.cells o.cells 32)).alloc (.cells (rpC rp0) 27)).cell? ⟨w.heap.size, 7, none⟩ = some (.int .i64 o.r) := cell_blk hop 7
  have k8 : ((w.alloc (.cells o.cells 32)).alloc (.cells (rpC rp0) 27)).cell? ⟨w.heap.size, 8, none⟩ = some (.bool o.b) := cell_blk hop 8
  obtain ⟨W1, HW1⟩ : ∃ W1, Hid (((w.alloc (.cells o.cells 32)).alloc (.cells (rpC rp0) 27)) = W1) := ⟨_, rfl⟩
  rw [HW1.out] at hB0 hop hz0 hs0 h0 k0 k1 k2 k3 k4 k5 k6 k7 k8
  have hwl : w.heap.size < W1.heap.size := by omega
  have hcl : cb < W1.heap.size := lt_blk h0.blk
  have cn : W1.cell? ⟨cb, 3, none⟩ = some (.int .i64 x.now) := cell_blk h0.blk 3
  have hb1 : (o.k == 1) = false := by simp [hk]
  have hb4 : (o.k == 4) = false := by simp [hk]
  have hb2 : (o.k == 2) = true := by simp [hk]
  have hbe : (o.e != p.ep) = false := by simpa using he
  obtain ⟨b', hb', ev, ov, hpr⟩ := h0.pr i p hpi
  rw [hq] at hb'
  cases hb'
  have c2 : W1.cell? ⟨b, 2, none⟩ = some (.int .i64 p.ep) := cell_blk hpr.blk 2
  have hbl : b < W1.heap.size := lt_blk hpr.blk
  clear hk he
  go_enter Try.func21, Try.ntmps21
  go_upto_region 9 with (first | (refine wpList_box_row rfl 32 _ rfl o.cells ?_ ?_; rfl) | (refine wpList_alloc_row rfl 27 rfl (rpC rp0) (by kernel_rfl) ?_; rw [World.size_alloc, HW1.out]) | (go_at_call 23; refine (producer_at own _ cb x pb rb mv q h0 o.p).mono ?_; rw [hp]; rintro e w2 ⟨rfl, hw2⟩; subst hw2))
  refine wp_region_growG (by kernel_rfl) (by kernel_rfl) (fun xS => { tmps := (Value.pointer (some (⟨cb, 0, none⟩ : Addr)) :: Value.agg o.cells :: undef :: Value.pointer (some (⟨w.heap.size, 0, none⟩ : Addr)) :: Value.pointer (some (⟨w.heap.size + 1, 0, none⟩ : Addr)) :: Value.slice none 0 0 :: Value.pointer (some (⟨b, 0, none⟩ : Addr)) :: undef :: undef :: Value.pointer (some (⟨w.heap.size, 0, none⟩ : Addr)) :: Value.int IntKind.i64 o.k :: Value.bool false :: Value.bool false :: undef :: undef :: undef :: undef :: undef :: undef :: Value.bool false :: Value.bool false :: undef :: undef :: undef :: Value.pointer (some (⟨cb, 0, none⟩ : Addr)) :: Value.pointer (some (⟨w.heap.size, 4, none⟩ : Addr)) :: Value.int IntKind.i64 o.p :: Value.pointer (some (⟨b, 0, none⟩ : Addr)) :: Value.bool false :: Value.pointer (some (⟨b, 0, none⟩ : Addr)) :: Value.bool false :: undef :: xS 7 :: xS 0 :: xS 1 :: xS 2 :: xS 3 :: xS 4 :: xS 5 :: xS 6 :: undef :: undef :: undef :: undef :: undef :: undef :: undef :: undef :: undef :: undef :: undef :: undef :: undef :: undef :: undef :: undef :: undef :: undef :: undef :: undef :: undef :: undef :: undef :: undef :: undef :: undef :: undef :: undef :: []).toArray, defers := [] })
    (fun ii xx WW => match ii with | 0 => xx = .pointer (some ⟨w.heap.size, 5, none⟩) | 1 => xx = .int .i64 o.e | 2 => xx = Value.pointer (some (⟨b, 0, none⟩ : Addr)) | 3 => xx = Value.pointer (some (⟨b, 0, none⟩ : Addr)) | 4 => xx = .pointer (some ⟨b, 2, none⟩) | 5 => xx = .int .i64 p.ep | 6 => xx = .bool false | 7 => xx = .bool false | _ => True) (fun | 0 => undef | 1 => undef | 2 => undef | 3 => undef | 4 => undef | 5 => undef | 6 => undef | 7 => undef | _ => undef) (by repeat (first | exact trivial | refine ⟨fun _ _ => rfl, ?_⟩)) (fun _ _ _ _ _ h => h) ⟨?_, ?_, ?_, ?_, ?_, ?_, ?_, ?_, trivial⟩ ?_
  · intro xS W hB hp K hK
    rw [if_pos (wanted_none rfl _)]
    clear hp
    go_simp
    exact hK _ _ (Below.refl _ _) rfl
  · intro xS W hB hp K hK
    rw [if_pos (wanted_none rfl _)]
    have h0 : xS 0 = .pointer (some ⟨w.heap.size, 5, none⟩) := hp.1 rfl
    clear hp
    have hc := (hB.cell (p := ⟨w.heap.size, 5, none⟩) hwl).trans k5
    simp only [h0] at hK ⊢
    clear h0
    go_simp
    exact hK _ _ (Below.refl _ _) rfl
  · intro xS W hB hp K hK
    rw [if_pos (wanted_none rfl _)]
    clear hp
    go_simp
    exact hK _ _ (Below.refl _ _) rfl
  · intro xS W hB hp K hK
    rw [if_pos (wanted_none rfl _)]
    have h2 : xS 2 = Value.pointer (some (⟨b, 0, none⟩ : Addr)) := hp.1 rfl
    clear hp
    simp only [h2] at hK ⊢
    clear h2
    go_simp
    exact hK _ _ (Below.refl _ _) rfl
  · intro xS W hB hp K hK
    rw [if_pos (wanted_none rfl _)]
    have h3 : xS 3 = Value.pointer (some (⟨b, 0, none⟩ : Addr)) := hp.1 rfl
    clear hp
    simp only [h3] at hK ⊢
    clear h3
    go_simp
    exact hK _ _ (Below.refl _ _) rfl
  · intro xS W hB hp K hK
    rw [if_pos (wanted_none rfl _)]
    have h4 : xS 4 = .pointer (some ⟨b, 2, none⟩) := hp.1 rfl
    clear hp
    have hc := (hB.cell (p := ⟨b, 2, none⟩) hbl).trans c2
    simp only [h4] at hK ⊢
    clear h4
    go_simp
    exact hK _ _ (Below.refl _ _) rfl
  · intro xS W hB hp K hK
    rw [if_pos (wanted_none rfl _)]
    have h1 : xS 1 = .int .i64 o.e := hp.1 rfl
    have h5 : xS 5 = .int .i64 p.ep := hp.2.1 rfl
    clear hp
    simp only [h1, h5] at hK ⊢
    clear h1 h5
    go_simp
    exact hK _ _ (Below.refl _ _) rfl
  · intro xS W hB hp K hK
    rw [if_pos (wanted_none rfl _)]
    have h6 : xS 6 = .bool false := hp.1 rfl
    clear hp
    simp only [h6] at hK ⊢
    clear h6
    go_simp
    exact hK _ _ (Below.refl _ _) rfl
  intro xs9 W2 hB2 hs
  have h7 : xs9 7 = .bool false := hs 7 (by simp)
  clear hs
  simp only [h7]
  have hz2 := (hB2.block _ (by omega)).trans hz0
  have HB2 : Hid (Below w.heap.size w W2) := hB0.trans (hB2.mono (by omega))
  have j0 := (hB2.cell (p := ⟨w.heap.size, 0, none⟩) hwl).trans k0
  have j6 := (hB2.cell (p := ⟨w.heap.size, 6, none⟩) hwl).trans k6
  have j7 := (hB2.cell (p := ⟨w.heap.size, 7, none⟩) hwl).trans k7
  have j8 := (hB2.cell (p := ⟨w.heap.size, 8, none⟩) hwl).trans k8
  have jn := (hB2.cell (p := ⟨cb, 3, none⟩) hcl).trans cn
  have hwl2 : w.heap.size < W2.heap.size := by have := hB2.size; omega
  have hcl2 : cb < W2.heap.size := by have := hB2.size; omega
  have HA2 : Hid (RnI own w cb x pb rb mv x.ps (w.heap.size + 1) (.slice none 0 0) [] own q W2) := RnI.start h (hB0.trans (hB2.mono (by omega))) (Nat.le_succ _) hz2
  have HP : Hid (x.ps[i]? = some p) := hpi
  have HQ : Hid (q[i]? = some b) := hq
  have HE : Hid (p.ends.length ≤ 1000) := hpe
  clear hB2 c2 k0 k1 k2 k3 k4 k5 k6 k7 k8 cn h0 hpr h7 hz2 hz0 hop hs0 hB0 hwl hcl hbl
  have HRR : Hid (0 ≤ o.r ∧ o.r ≤ 3) := hr
  go_upto_region 12 with fail
  refine wp_region_turnsV (by kernel_rfl) (by kernel_rfl) [9, 11] (by kernel_rfl) (by decide) (by decide) (fun xS => { tmps := (Value.pointer (some (⟨cb, 0, none⟩ : Addr)) :: Value.agg o.cells :: undef :: Value.pointer (some (⟨w.heap.size, 0, none⟩ : Addr)) :: Value.pointer (some (⟨w.heap.size + 1, 0, none⟩ : Addr)) :: xS 12 :: Value.pointer (some (⟨b, 0, none⟩ : Addr)) :: undef :: undef :: Value.pointer (some (⟨w.heap.size, 0, none⟩ : Addr)) :: Value.int IntKind.i64 o.k :: Value.bool false :: Value.bool false :: undef :: undef :: undef :: undef :: undef :: undef :: Value.bool false :: Value.bool false :: undef :: undef :: undef :: Value.pointer (some (⟨cb, 0, none⟩ : Addr)) :: Value.pointer (some (⟨w.heap.size, 4, none⟩ : Addr)) :: Value.int IntKind.i64 o.p :: Value.pointer (some (⟨b, 0, none⟩ : Addr)) :: Value.bool false :: Value.pointer (some (⟨b, 0, none⟩ : Addr)) :: Value.bool false :: undef :: Value.bool false :: xs9 0 :: xs9 1 :: xs9 2 :: xs9 3 :: xs9 4 :: xs9 5 :: xs9 6 :: undef :: Value.bool true :: Value.pointer (some (⟨w.heap.size, 0, none⟩ : Addr)) :: Value.int IntKind.i64 o.k :: Value.bool true :: xS 0 :: xS 1 :: xS 2 :: xS 3 :: xS 4 :: xS 5 :: xS 6 :: xS 7 :: xS 8 :: xS 9 :: xS 10 :: undef :: undef :: undef :: undef :: undef :: undef :: undef :: undef :: undef :: undef :: undef :: undef :: []).toArray, defers := [] })
    (fun ii xx WW => match ii with | 0 => xx = Value.pointer (some (⟨b, 0, none⟩ : Addr)) | 1 => xx = .pointer (some ⟨w.heap.size, 6, none⟩) | 2 => xx = .int .i64 o.t | 3 => xx = .pointer (some ⟨w.heap.size, 7, none⟩) | 4 => xx = .int .i64 o.r | 5 => xx = Value.pointer (some (⟨cb, 0, none⟩ : Addr)) | 6 => xx = Value.pointer (some (⟨cb, 0, none⟩ : Addr)) | 7 => xx = .pointer (some ⟨cb, 3, none⟩) | 8 => xx = .int .i64 x.now | 10 => xx = .agg (rpC (err (p.add o.t o.r x.now).2)) | 12 => xx = (Value.slice none 0 0) | _ => True) (AddS own w cb x pb rb mv q i p o W2) (fun | 0 => undef | 1 => undef | 2 => undef | 3 => undef | 4 => undef | 5 => undef | 6 => undef | 7 => undef | 8 => undef | 9 => undef | 10 => undef | 12 => Value.slice none 0 0 | _ => undef) (by repeat (first | exact trivial | refine ⟨fun _ _ => rfl, ?_⟩)) (fun _ _ _ _ _ h => h) (by intro i hi v W; simp only [List.mem_cons, List.mem_nil_iff, or_false] at hi; rcases hi with rfl | rfl <;> trivial) (fun s A B hB h => AddS.below s A B hB h) ⟨(RnI.below HA2.out (Below.refl _ _).drew), (Below.refl _ _).drew⟩ ⟨?_, ?_, ?_, ?_, ?_, ?_, ?_, ?_, ?_, ?_, ?_, ?_, ?_, trivial⟩ ?_
  · rw [if_neg (by decide)]
    intro s hs hmay xS W hS hp K hK
    rw [if_pos (wanted_none rfl _)]
    clear hp
    go_simp
    exact hK _ _ (Below.refl _ _) rfl
  · rw [if_neg (by decide)]
    intro s hs hmay xS W hS hp K hK
    rw [if_pos (wanted_none rfl _)]
    clear hp
    go_simp
    exact hK _ _ (Below.refl _ _) rfl
  · rw [if_neg (by decide)]
    intro s hs hmay xS W hS hp K hK
    rw [if_pos (wanted_none rfl _)]
    have hse := stage_of (s0 := 0) hs hmay (by kernel_rfl)
    subst hse
    replace hS : (AddS own w cb x pb rb mv q i p o W2) [] W := hS
    have h1 : xS 1 = .pointer (some ⟨w.heap.size, 6, none⟩) := hp.1 rfl
    clear hp
    have hA : RnI own w cb x pb rb mv x.ps (w.heap.size + 1) (.slice none 0 0) [] own q W ∧ Below W2.heap.size W2 W := hS
    have hc := (hA.2.cell (p := ⟨w.heap.size, 6, none⟩) hwl2).trans j6
    simp only [h1] at hK ⊢
    go_simp
    exact hK _ _ (Below.refl _ _) rfl
  · rw [if_neg (by decide)]
    intro s hs hmay xS W hS hp K hK
    rw [if_pos (wanted_none rfl _)]
    clear hp
    go_simp
    exact hK _ _ (Below.refl _ _) rfl
  · rw [if_neg (by decide)]
    intro s hs hmay xS W hS hp K hK
    rw [if_pos (wanted_none rfl _)]
    have hse := stage_of (s0 := 0) hs hmay (by kernel_rfl)
    subst hse
    replace hS : (AddS own w cb x pb rb mv q i p o W2) [] W := hS
    have h3 : xS 3 = .pointer (some ⟨w.heap.size, 7, none⟩) := hp.1 rfl
    clear hp
    have hA : RnI own w cb x pb rb mv x.ps (w.heap.size + 1) (.slice none 0 0) [] own q W ∧ Below W2.heap.size W2 W := hS
    have hc := (hA.2.cell (p := ⟨w.heap.size, 7, none⟩) hwl2).trans j7
    simp only [h3] at hK ⊢
    go_simp
    exact hK _ _ (Below.refl _ _) rfl
  · rw [if_neg (by decide)]
    intro s hs hmay xS W hS hp K hK
    rw [if_pos (wanted_none rfl _)]
    clear hp
    go_simp
    exact hK _ _ (Below.refl _ _) rfl
  · rw [if_neg (by decide)]
    intro s hs hmay xS W hS hp K hK
    rw [if_pos (wanted_none rfl _)]
    have h5 : xS 5 = Value.pointer (some (⟨cb, 0, none⟩ : Addr)) := hp.1 rfl
    clear hp
    simp only [h5] at hK ⊢
    clear h5
    go_simp
    exact hK _ _ (Below.refl _ _) rfl
  · rw [if_neg (by decide)]
    intro s hs hmay xS W hS hp K hK
    rw [if_pos (wanted_none rfl _)]
    have h6 : xS 6 = Value.pointer (some (⟨cb, 0, none⟩ : Addr)) := hp.1 rfl
    clear hp
    simp only [h6] at hK ⊢
    clear h6
    go_simp
    exact hK _ _ (Below.refl _ _) rfl
  · rw [if_neg (by decide)]
    intro s hs hmay xS W hS hp K hK
    rw [if_pos (wanted_none rfl _)]
    have hse := stage_of (s0 := 0) hs hmay (by kernel_rfl)
    subst hse
    replace hS : (AddS own w cb x pb rb mv q i p o W2) [] W := hS
    have h7 : xS 7 = .pointer (some ⟨cb, 3, none⟩) := hp.1 rfl
    clear hp
    have hA : RnI own w cb x pb rb mv x.ps (w.heap.size + 1) (.slice none 0 0) [] own q W ∧ Below W2.heap.size W2 W := hS
    have hc := (hA.2.cell (p := ⟨cb, 3, none⟩) hcl2).trans jn
    simp only [h7] at hK ⊢
    go_simp
    exact hK _ _ (Below.refl _ _) rfl
  · rw [if_pos (by decide)]
    refine ⟨rfl, ?_⟩
    intro xS W hS hw K hK
    have h0 : xS 0 = Value.pointer (some (⟨b, 0, none⟩ : Addr)) := hw 0 (by kernel_rfl)
    have h2 : xS 2 = .int .i64 o.t := hw 2 (by kernel_rfl)
    have h4 : xS 4 = .int .i64 o.r := hw 4 (by kernel_rfl)
    have h8 : xS 8 = .int .i64 x.now := hw 8 (by kernel_rfl)
    replace hS : (AddS own w cb x pb rb mv q i p o W2) [] W := hS
    clear hw
    have hA : RnI own w cb x pb rb mv x.ps (w.heap.size + 1) (.slice none 0 0) [] own q W ∧ Below W2.heap.size W2 W := hS
    obtain ⟨b2, hb2, hpr⟩ := hA.1.co.pr i p HP.out
    rw [HQ.out] at hb2
    cases hb2
    simp only [h0, h2, h4, h8] at hK ⊢
    go_simp
    refine (add_at own W i b p o.t o.r x.now hpr hA.1.co.owned HE.out HRR.out).mono ?_
    rintro e W5 ⟨rfl, own2, hp2, hs2⟩
    exact hK _ _ ⟨rfl, own2, hA.1.prod hs2 HQ.out hp2⟩ (fun j y hj => hj)
  · rw [if_neg (by decide)]
    intro s hs hmay xS W hS hp K hK
    rw [if_pos (wanted_none rfl _)]
    have hse := stage_of (s0 := 1) hs hmay (by kernel_rfl)
    subst hse
    replace hS : (AddS own w cb x pb rb mv q i p o W2) [xS 9] W := hS
    clear hp
    obtain ⟨hv, own2, hA⟩ := hS
    simp only [hv] at hK ⊢
    go_simp
    refine (plain_any _ _).mono ?_
    rintro e W5 ⟨rfl, hB5⟩
    exact hK _ _ hB5 rfl
  · rw [if_pos (by decide)]
    refine ⟨rfl, ?_⟩
    intro xS W hS hw K hK
    have h10 : xS 10 = .agg (rpC (err (p.add o.t o.r x.now).2)) := hw 10 (by kernel_rfl)
    replace hS : (AddS own w cb x pb rb mv q i p o W2) [xS 9] W := hS
    clear hw
    obtain ⟨own2, hA⟩ : ∃ own2, RnI own w cb x pb rb mv (x.ps.set i (p.add o.t o.r x.now).1) (w.heap.size + 1) (.slice none 0 0) [] own2 q W := hS.2
    refine wp_store_whole 27 _ _ rfl (w.heap.size + 1) (rpC (err (p.add o.t o.r x.now).2)) (rpC rp0) rfl h10 27 hA.cell (by kernel_rfl) (rpC_all _) rfl ?_
    intro W5 h5 hK5
    exact hK undef _ ⟨h5, hA.done hK5 (Nat.le_succ _)⟩ (fun j y hj => hj)
  · rw [if_neg (by decide)]
    intro s hs hmay xS W hS hp K hK
    rw [if_pos (wanted_none rfl _)]
    clear hp
    go_simp
    exact hK _ _ (Below.refl _ _) rfl
  rintro xs12 W6 ⟨h6, hR6⟩ hs
  have h12 : xs12 12 = .slice none 0 0 := hs 12 (by decide)
  clear hs
  simp only [h12]
  go_wp2_with fail
  exact bodyPost_ret (results_agg_tmp rfl _ _ (w.heap.size + 1) (rpC (err (p.add o.t o.r x.now).2)) 27 (0, 0) (.slice none 0 0) rfl rfl (by kernel_rfl) h6 (by kernel_rfl)) rfl hR6
theorem RnI.fin {own : Own} {w : World} {cb : Nat} {x : Co} {pb rb : Nat} {mv : Value} {ps : List Pr} {g : Nat} {v : Value} {ms : List Mk} {own2 own3 : Own} {q2 : List Nat} {W W4 : World} {i b : Nat} {p' : Pr} (h : RnI own w cb x pb rb mv ps g (.slice none 0 0) [] own2 q2 W) (hs : Step (OfP i) own2 own3 W W4) (hq : q2[i]? = some b) (hp : PrAt own3 W4 i b p') (hO : OwnM W4 W.heap.size v ms) (hl : ∀ k, v.ownBlock = some k → own3 k = some .tmp) :
    RnI own w cb x pb rb mv (ps.set i p') g v ms own3 q2 W4 :=
  ⟨h.co.prod hs hq hp, h.step.trans hs.all, hO.mono h.step.size, hl, (hs.block (lt_blk h.cell) fun l e => by rw [h.free] at e; cases e).trans h.cell, (hs.old _ (lt_blk h.cell)).trans h.free⟩
set_option maxRecDepth 100000 in
set_option maxHeartbeats 4000000 in
theorem run_end (own : Own) (w : World) (cb : Nat) (x : Co) (pb rb : Nat) (mv : Value) (q : List Nat) (h : CoS own w cb x pb rb mv q) (o : OpF) (hk1 : o.k ≠ 1) (hk2 : o.k ≠ 2) (hk4 : o.k ≠ 4) (i b : Nat) (p : Pr) (hp : ptrAt q o.p = some ⟨b, 0, none⟩) (hq : q[i]? = some b) (hpi : x.ps[i]? = some p) (hpe : p.ends.length ≤ 1000) (he : o.e = p.ep) :
    Calls Try.prog 21 #[.pointer (some ⟨cb, 0, none⟩), .agg o.cells] w (RunQ own w cb x pb rb mv (err (p.fin i o.t o.b).2.2) (p.fin i o.t o.b).2.1 (x.ps.set i (p.fin i o.t o.b).1) x.now) := by
  have hB0 : Below w.heap.size w ((w.alloc (.cells o.cells 32)).alloc (.cells (rpC rp0) 27)) := (below_alloc _ _).alloc (by simp) _
  have hop : ((w.alloc (.cells o.cells 32)).alloc (.cells (rpC rp0) 27)).heap[w.heap.size]? = some (.cells o.cells 32 (0, 0)) := alloc_blk_old (alloc_blk _ _) _
  have hz0 : ((w.alloc (.cells o.cells 32)).alloc (.cells (rpC rp0) 27)).heap[w.heap.size + 1]? = some (.cells (rpC rp0) 27 (0, 0)) := by
    have := alloc_blk (w.alloc (.cells o.cells 32)) (.cells (rpC rp0) 27)
    rwa [World.size_alloc] at this
  have hs0 : ((w.alloc (.cells o.cells 32)).alloc (.cells (rpC rp0) 27)).heap.size = w.heap.size + 2 := by simp
  have h0 := h.below hB0
  have k0 : ((w.alloc (.cells o.cells 32)).alloc (.cells (rpC rp0) 27)).cell? ⟨w.heap.size, 0, none⟩ = some (.int .i64 o.k) := cell_blk hop 0
  have k1 : ((w.alloc (.cells o.cells 32)).alloc (.cells (rpC rp0) 27)).cell? ⟨w.heap.size, 1, none⟩ = some (.int .i64 o.c) := cell_blk hop 1
  have k2 : ((w.alloc (.cells o.cells 32)).alloc (.cells (rpC rp0) 27)).cell? ⟨w.heap.size, 2, none⟩ = some (.int .i64 o.s) := cell_blk hop 2
  have k3 : ((w.alloc (.cells o.cells 32)).alloc (.cells (rpC rp0) 27)).cell? ⟨w.heap.size, 3, none⟩ = some (.string o.n) := cell_blk hop 3
  have k4 : ((w.alloc (.cells o.cells 32)).alloc (.cells (rpC rp0) 27)).cell? ⟨w.heap.size, 4, none⟩ = some (.int .i64 o.p) := cell_blk hop 4
  have k5 : ((w.alloc (.cells o.cells 32)).alloc (.cells (rpC rp0) 27)).cell? ⟨w.heap.size, 5, none⟩ = some (.int .i64 o.e) := cell_blk hop 5
  have k6 : ((w.alloc (.cells o.cells 32)).alloc (.cells (rpC rp0) 27)).cell? ⟨w.heap.size, 6, none⟩ = some (.int .i64 o.t) := cell_blk hop 6
  have k7 : ((w.alloc (.cells o.cells 32)).alloc (.cells (rpC rp0) 27)).cell? ⟨w.heap.size, 7, none⟩ = some (.int .i64 o.r) := cell_blk hop 7
  have k8 : ((w.alloc (.cells o.cells 32)).alloc (.cells (rpC rp0) 27)).cell? ⟨w.heap.size, 8, none⟩ = some (.bool o.b) := cell_blk hop 8
  obtain ⟨W1, HW1⟩ : ∃ W1, Hid (((w.alloc (.cells o.cells 32)).alloc (.cells (rpC rp0) 27)) = W1) := ⟨_, rfl⟩
  rw [HW1.out] at hB0 hop hz0 hs0 h0 k0 k1 k2 k3 k4 k5 k6 k7 k8
  have hwl : w.heap.size < W1.heap.size := by omega
  have hcl : cb < W1.heap.size := lt_blk h0.blk
  have cn : W1.cell? ⟨cb, 3, none⟩ = some (.int .i64 x.now) := cell_blk h0.blk 3
  have hb1 : (o.k == 1) = false := by simpa using hk1
  have hb4 : (o.k == 4) = false := by simpa using hk4
  have hb2 : (o.k == 2) = false := by simpa using hk2
  have hbe : (o.e != p.ep) = false := by simpa using he
  obtain ⟨b', hb', ev, ov, hpr⟩ := h0.pr i p hpi
  rw [hq] at hb'
  cases hb'
  have c2 : W1.cell? ⟨b, 2, none⟩ = some (.int .i64 p.ep) := cell_blk hpr.blk 2
  have hbl : b < W1.heap.size := lt_blk hpr.blk
  clear hk1 hk2 hk4 he
  go_enter Try.func21, Try.ntmps21
  go_upto_region 9 with (first | (refine wpList_box_row rfl 32 _ rfl o.cells ?_ ?_; rfl) | (refine wpList_alloc_row rfl 27 rfl (rpC rp0) (by kernel_rfl) ?_; rw [World.size_alloc, HW1.out]) | (go_at_call 23; refine (producer_at own _ cb x pb rb mv q h0 o.p).mono ?_; rw [hp]; rintro e w2 ⟨rfl, hw2⟩; subst hw2))
  refine wp_region_growG (by kernel_rfl) (by kernel_rfl) (fun xS => { tmps := (Value.pointer (some (⟨cb, 0, none⟩ : Addr)) :: Value.agg o.cells :: undef :: Value.pointer (some (⟨w.heap.size, 0, none⟩ : Addr)) :: Value.pointer (some (⟨w.heap.size + 1, 0, none⟩ : Addr)) :: Value.slice none 0 0 :: Value.pointer (some (⟨b, 0, none⟩ : Addr)) :: undef :: undef :: Value.pointer (some (⟨w.heap.size, 0, none⟩ : Addr)) :: Value.int IntKind.i64 o.k :: Value.bool false :: Value.bool false :: undef :: undef :: undef :: undef :: undef :: undef :: Value.bool false :: Value.bool false :: undef :: undef :: undef :: Value.pointer (some (⟨cb, 0, none⟩ : Addr)) :: Value.pointer (some (⟨w.heap.size, 4, none⟩ : Addr)) :: Value.int IntKind.i64 o.p :: Value.pointer (some (⟨b, 0, none⟩ : Addr)) :: Value.bool false :: Value.pointer (some (⟨b, 0, none⟩ : Addr)) :: Value.bool false :: undef :: xS 7 :: xS 0 :: xS 1 :: xS 2 :: xS 3 :: xS 4 :: xS 5 :: xS 6 :: undef :: undef :: undef :: undef :: undef :: undef :: undef :: undef :: undef :: undef :: undef :: undef :: undef :: undef :: undef :: undef :: undef :: undef :: undef :: undef :: undef :: undef :: undef :: undef :: undef :: undef :: undef :: undef :: []).toArray, defers := [] })
    (fun ii xx WW => match ii with | 0 => xx = .pointer (some ⟨w.heap.size, 5, none⟩) | 1 => xx = .int .i64 o.e | 2 => xx = Value.pointer (some (⟨b, 0, none⟩ : Addr)) | 3 => xx = Value.pointer (some (⟨b, 0, none⟩ : Addr)) | 4 => xx = .pointer (some ⟨b, 2, none⟩) | 5 => xx = .int .i64 p.ep | 6 => xx = .bool false | 7 => xx = .bool false | _ => True) (fun | 0 => undef | 1 => undef | 2 => undef | 3 => undef | 4 => undef | 5 => undef | 6 => undef | 7 => undef | _ => undef) (by repeat (first | exact trivial | refine ⟨fun _ _ => rfl, ?_⟩)) (fun _ _ _ _ _ h => h) ⟨?_, ?_, ?_, ?_, ?_, ?_, ?_, ?_, trivial⟩ ?_
  · intro xS W hB hp K hK
    rw [if_pos (wanted_none rfl _)]
    clear hp
    go_simp
    exact hK _ _ (Below.refl _ _) rfl
  · intro xS W hB hp K hK
    rw [if_pos (wanted_none rfl _)]
    have h0 : xS 0 = .pointer (some ⟨w.heap.size, 5, none⟩) := hp.1 rfl
    clear hp
    have hc := (hB.cell (p := ⟨w.heap.size, 5, none⟩) hwl).trans k5
    simp only [h0] at hK ⊢
    clear h0
    go_simp
    exact hK _ _ (Below.refl _ _) rfl
  · intro xS W hB hp K hK
    rw [if_pos (wanted_none rfl _)]
    clear hp
    go_simp
    exact hK _ _ (Below.refl _ _) rfl
  · intro xS W hB hp K hK
    rw [if_pos (wanted_none rfl _)]
    have h2 : xS 2 = Value.pointer (some (⟨b, 0, none⟩ : Addr)) := hp.1 rfl
    clear hp
    simp only [h2] at hK ⊢
    clear h2
    go_simp
    exact hK _ _ (Below.refl _ _) rfl
  · intro xS W hB hp K hK
    rw [if_pos (wanted_none rfl _)]
    have h3 : xS 3 = Value.pointer (some (⟨b, 0, none⟩ : Addr)) := hp.1 rfl
    clear hp
    simp only [h3] at hK ⊢
    clear h3
    go_simp
    exact hK _ _ (Below.refl _ _) rfl
  · intro xS W hB hp K hK
    rw [if_pos (wanted_none rfl _)]
    have h4 : xS 4 = .pointer (some ⟨b, 2, none⟩) := hp.1 rfl
    clear hp
    have hc := (hB.cell (p := ⟨b, 2, none⟩) hbl).trans c2
    simp only [h4] at hK ⊢
    clear h4
    go_simp
    exact hK _ _ (Below.refl _ _) rfl
  · intro xS W hB hp K hK
    rw [if_pos (wanted_none rfl _)]
    have h1 : xS 1 = .int .i64 o.e := hp.1 rfl
    have h5 : xS 5 = .int .i64 p.ep := hp.2.1 rfl
    clear hp
    simp only [h1, h5] at hK ⊢
    clear h1 h5
    go_simp
    exact hK _ _ (Below.refl _ _) rfl
  · intro xS W hB hp K hK
    rw [if_pos (wanted_none rfl _)]
    have h6 : xS 6 = .bool false := hp.1 rfl
    clear hp
    simp only [h6] at hK ⊢
    clear h6
    go_simp
    exact hK _ _ (Below.refl _ _) rfl
  intro xs9 W2 hB2 hs
  have h7 : xs9 7 = .bool false := hs 7 (by simp)
  clear hs
  simp only [h7]
  have hz2 := (hB2.block _ (by omega)).trans hz0
  have HB2 : Hid (Below w.heap.size w W2) := hB0.trans (hB2.mono (by omega))
  have j0 := (hB2.cell (p := ⟨w.heap.size, 0, none⟩) hwl).trans k0
  have j6 := (hB2.cell (p := ⟨w.heap.size, 6, none⟩) hwl).trans k6
  have j7 := (hB2.cell (p := ⟨w.heap.size, 7, none⟩) hwl).trans k7
  have j8 := (hB2.cell (p := ⟨w.heap.size, 8, none⟩) hwl).trans k8
  have jn := (hB2.cell (p := ⟨cb, 3, none⟩) hcl).trans cn
  have hwl2 : w.heap.size < W2.heap.size := by have := hB2.size; omega
  have hcl2 : cb < W2.heap.size := by have := hB2.size; omega
  have HA2 : Hid (RnI own w cb x pb rb mv x.ps (w.heap.size + 1) (.slice none 0 0) [] own q W2) := RnI.start h (hB0.trans (hB2.mono (by omega))) (Nat.le_succ _) hz2
  have HP : Hid (x.ps[i]? = some p) := hpi
  have HQ : Hid (q[i]? = some b) := hq
  have HE : Hid (p.ends.length ≤ 1000) := hpe
  clear hB2 c2 k0 k1 k2 k3 k4 k5 k6 k7 k8 cn h0 hpr h7 hz2 hz0 hop hs0 hB0 hwl hcl hbl
  obtain ⟨Z, HZ⟩ : ∃ Z, Hid ((p.fin i o.t o.b).2.2 = Z) := ⟨_, rfl⟩
  obtain ⟨b2, hb2', hpr2⟩ := HA2.out.co.pr i p HP.out
  rw [HQ.out] at hb2'
  cases hb2'
  have HPR : Hid (PrAt own W2 i b p) := hpr2
  clear hpr2
  go_wp2_with (first | (go_at_call 37; refine (fin_at own W2 i b p o.t o.b HPR.out HA2.out.co.owned HE.out).mono ?_; rintro e w3 hR; obtain ⟨v, he3, hO, own3, hl, hp3, hs3⟩ := hR; rw [HZ.out] at he3; subst he3; have HA3 : Hid (RnI own w cb x pb rb mv (x.ps.set i (p.fin i o.t o.b).1) (w.heap.size + 1) v (p.fin i o.t o.b).2.1 own3 q w3) := HA2.out.fin hs3 HQ.out hp3 hO hl; clear hO hl hp3 hs3) | (go_at_call 18; refine (plain_any Z _).mono ?_; rintro e w4 ⟨rfl, hB4⟩; have HA4 : Hid (RnI own w cb x pb rb mv (x.ps.set i (p.fin i o.t o.b).1) (w.heap.size + 1) v (p.fin i o.t o.b).2.1 own3 q w4) := HA3.out.below hB4; clear hB4) | (refine wpList_store_whole rfl 27 _ _ rfl (w.heap.size + 1) (rpC (err Z)) (rpC rp0) ?_ ?_ 27 HA4.out.cell (by kernel_rfl) (rpC_all _) rfl ?_; rfl; rfl))
  intro w5 h5 hK5
  go_wp2_with fail
  rw [HZ.out]
  exact bodyPost_ret (results_agg_tmp rfl _ _ (w.heap.size + 1) (rpC (err Z)) 27 (0, 0) v rfl rfl (by kernel_rfl) h5 (by kernel_rfl)) rfl (HA4.out.done hK5 (Nat.le_succ _))
/-- an operation that was not applied ahead -/
theorem run_at (own : Own) (w : World) (cb : Nat) (x : Co) (pb rb : Nat) (mv : Value) (q : List Nat) (h : CoS own w cb x pb rb mv q) (hok : CoOk x) (o : OpF) (hin : o.In) (hr : 0 ≤ o.r ∧ o.r ≤ 3) :
    Calls Try.prog 21 #[.pointer (some ⟨cb, 0, none⟩), .agg o.cells] w (RunQ own w cb x pb rb mv (x.run o).1 (x.run o).2.1 (x.run o).2.2.1 (x.run o).2.2.2) := by
  by_cases hk1 : o.k = 1
  · have e : x.run o = ((x.admit o.n).1, (x.admit o.n).2.1, (x.admit o.n).2.2, x.now) := by unfold Co.run; rw [if_pos hk1]
    rw [e]
    exact run_init own w cb x pb rb mv q h hok o hin hk1
  · by_cases hk4 : o.k = 4
    · have e : x.run o = (err 0, ageMs (x.now + 1) 0 x.ps, x.ps.map (·.age (x.now + 1)), x.now + 1) := by unfold Co.run; rw [if_neg hk1, if_pos hk4]
      rw [e]
      exact run_tick own w cb x pb rb mv q h hok o hk4
    · rcases at_ptr h o.p with ⟨h1, h2⟩ | ⟨i, p, b, h1, h3, h2, h4, hp⟩
      · have e : x.run o = (err 4, [], x.ps, x.now) := by unfold Co.run; rw [if_neg hk1, if_neg hk4, h1]
        rw [e]
        exact run_none own w cb x pb rb mv q h o hk1 hk4 h2
      · have hpe := hok.ends (List.mem_of_getElem? h3)
        by_cases he : o.e = p.ep
        · by_cases hk2 : o.k = 2
          · have e : x.run o = (err (p.add o.t o.r x.now).2, [], x.ps.set i (p.add o.t o.r x.now).1, x.now) := by unfold Co.run; rw [if_neg hk1, if_neg hk4, h1]; simp [he, hk2]
            rw [e]
            exact run_add own w cb x pb rb mv q h o hk2 hr i b p h2 h4 h3 hpe he
          · have e : x.run o = (err (p.fin i o.t o.b).2.2, (p.fin i o.t o.b).2.1, x.ps.set i (p.fin i o.t o.b).1, x.now) := by unfold Co.run; rw [if_neg hk1, if_neg hk4, h1]; simp [he, hk2]
            rw [e]
            exact run_end own w cb x pb rb mv q h o hk1 hk2 hk4 i b p h2 h4 h3 hpe he
        · have e : x.run o = (err 5, [], x.ps, x.now) := by unfold Co.run; rw [if_neg hk1, if_neg hk4, h1]; simp [he]
          rw [e]
          exact run_fenced own w cb x pb rb mv q h o hk1 hk4 i b p h2 h4 h3 he
end Go.Proofs.Ytoihfhlelbdboab
