/- An operation is applied. -/
import Derived.Test.YtoihfhlelbdboabCoR
namespace Go.Proofs.Ytoihfhlelbdboab
open Go.RowKit Go.Dig Go.Inv Go.Oct Go.Hold
set_option linter.unusedVariables false
set_option linter.unusedSimpArgs false

theorem Gr.frm {w w' : World} {v v' : Value} (h : Gr w w' v v') : Frm (fun k => v.ownBlock = some k) w w' := ⟨h.os, h.tape, h.output, h.size, fun k hk hn => h.block k hk hn⟩
set_option maxHeartbeats 400000 in
theorem prepare_at (own : Own) (w : World) (cb : Nat) (x : Co) (pb rb : Nat) (mv : Value) (q : List Nat) (h : CoS own w cb x pb rb mv q) : Calls Try.prog 16 #[.pointer (some ⟨cb, 0, none⟩)] w fun e w' => (∃ v, e = .returned v) ∧ w' = w := by
  have c0 : w.cell? ⟨cb, 0, none⟩ = some (.pointer (some ⟨pb, 0, none⟩)) := cell_blk h.blk 0
  go_enter Try.func16, Try.ntmps16
  go_wp2
  exact bodyPost_end (v := .tuple #[]) (by simp [results, Try.results16, go_sem]) rfl ⟨⟨_, rfl⟩, rfl⟩
/-- a reply is remembered -/
theorem CoS.reply {own : Own} {w w' : World} {cb : Nat} {x : Co} {pb rb : Nat} {mv : Value} {q : List Nat} {rs : List (Int × Rp.Rp3)} (h : CoS own w cb x pb rb mv q) (hF : Frm (· = rb) w w') (hT : Rp.Tab w' rb rs) : CoS own w' cb ⟨x.ps, rs, x.ms, x.now⟩ pb rb mv q ∧ Step AllP own own w w' := by
  obtain ⟨pp, hpb⟩ := rp_cell h.tr
  have hs : Step (· = .tr) own own w w' := Step.one hF h.lr rfl (rp_low h.tr) h.owned hpb
  refine ⟨⟨hs.new, (hs.block (lt_blk h.blk) fun l e => ?_).trans h.blk, h.lc, h.lp, h.lr, pp_step h.tp hs h.lp (fun e => by cases e), hT, h.ms.same fun k hk => hs.block (h.ms.lt k hk).2 fun l e => ?_, h.lm, h.len, fun i p hi => ?_⟩, hs.all⟩
  · rw [h.lc] at e; cases e; exact fun e => by cases e
  · rw [h.lm k hk] at e; cases e; exact fun e => by cases e
  · obtain ⟨b, h1, h2⟩ := h.pr i p hi
    exact ⟨b, h1, h2.step hs h.owned (fun e => by cases e) (fun e => by cases e) (fun e => by cases e)⟩
/-- what is marked is told with the rest -/
theorem CoS.marked {own : Own} {w w' : World} {cb : Nat} {x : Co} {pb rb : Nat} {mv mv' : Value} {q : List Nat} {ms : List Mk} (h : CoS own w cb x pb rb mv q) (hO : OwnM w' 0 mv' ms) (hG : Gr w w' mv mv') :
    ∃ own', CoS own' (w'.setCell ⟨cb, 2, none⟩ mv') cb ⟨x.ps, x.rs, ms, x.now⟩ pb rb mv' q ∧ Step AllP own own' w (w'.setCell ⟨cb, 2, none⟩ mv') := by
  have hs1 : Step (fun l => l = .co ∨ l = .ms) own (own.row mv' .ms) w w' := Step.gr hG h.lm (.inr rfl) (fun k hk => h.ms.low hk) (fun k hk => (hO.lt k hk).2) h.owned (fun k hk => h.ms.blk hk)
  have hne : mv.ownBlock ≠ some cb := fun e => by have := h.lm _ e; rw [h.lc] at this; cases this
  have hcb := (hG.block cb (lt_blk h.blk) hne).trans h.blk
  have hlc : own.row mv' .ms cb = some .co := (hs1.old cb (lt_blk h.blk)).trans h.lc
  have hlow : NoLow w' cb := fun z => ⟨fun e => (by rw [cell_blk hcb] at e; simp at e), fun e => (by rw [cell_blk hcb] at e; simp at e)⟩
  have hs2 : Step (fun l => l = .co ∨ l = .ms) (own.row mv' .ms) (own.row mv' .ms) w' (w'.setCell ⟨cb, 2, none⟩ mv') := Step.one (Frm.setCell _ _ _ _) hlc (.inl rfl) hlow hs1.new hcb
  have hs := hs1.trans hs2
  refine ⟨own.row mv' .ms, h.coord hs (set_blk hcb 2 mv') (hO.same fun k hk => set_blk_other _ _ fun e => ?_) (fun k hk => Own.row_yes hk), hs.all⟩
  have : own.row mv' .ms k = some .ms := Own.row_yes hk
  rw [e, hlc] at this; cases this
/-- what Apply answers -/
def ApQ (own : Own) (w : World) (cb : Nat) (r : Rp.Rp3) (ms : List Mk) (x' : Co) (e : Ending) (w' : World) : Prop :=
  ∃ v own', e = .returned (.tuple #[.agg (rpC r), v]) ∧ OwnM w' w.heap.size v ms ∧ (∀ k, v.ownBlock = some k → own' k = some .tmp) ∧ CoAt own' w' cb x' ∧ Step AllP own own' w w'
set_option maxRecDepth 100000 in
set_option maxHeartbeats 4000000 in
theorem apply_bad (own : Own) (w : World) (cb : Nat) (x : Co) (h : CoAt own w cb x) (o : OpF) (hin : o.n.size < 9223372036854775808) (hb : o.ok = false) :
    Calls Try.prog 7 #[.pointer (some ⟨cb, 0, none⟩), .agg o.cells] w (ApQ own w cb (err 6) [] x) := by
  obtain ⟨pb, rb, mv, q, h⟩ := h
  have hB0 : Below w.heap.size w ((w.alloc (.cells o.cells 32)).alloc (.cells (rpC rp0) 27)) := (below_alloc _ _).alloc (by simp) _
  have hop : ((w.alloc (.cells o.cells 32)).alloc (.cells (rpC rp0) 27)).heap[w.heap.size]? = some (.cells o.cells 32 (0, 0)) := alloc_blk_old (alloc_blk _ _) _
  have hz0 : ((w.alloc (.cells o.cells 32)).alloc (.cells (rpC rp0) 27)).heap[w.heap.size + 1]? = some (.cells (rpC rp0) 27 (0, 0)) := by
    have := alloc_blk (w.alloc (.cells o.cells 32)) (.cells (rpC rp0) 27)
    rwa [World.size_alloc] at this
  have hs0 : ((w.alloc (.cells o.cells 32)).alloc (.cells (rpC rp0) 27)).heap.size = w.heap.size + 2 := by simp
  have h0 := h.below hB0
  have k0 : ((w.alloc (.cells o.cells 32)).alloc (.cells (rpC rp0) 27)).cell? ⟨w.heap.size, 0, none⟩ = some (.int .i64 o.k) := cell_blk hop 0
  have k1 : ((w.alloc (.cells o.cells 32)).alloc (.cells (rpC rp0) 27)).cell? ⟨w.heap.size, 1, none⟩ = some (.int .i64 o.c) := cell_blk hop 1
  have k2 : ((w.alloc (.cells o.cells 32)).alloc (.cells (rpC rp0) 27)).cell? ⟨w.heap.size, 2, none⟩ = some (.int .i64 o.s) := cell_blk hop 2
  have k3 : ((w.alloc (.cells o.cells 32)).alloc (.cells (rpC rp0) 27)).cell? ⟨w.heap.size, 3, none⟩ = some (.string o.n) := cell_blk hop 3
  have k4 : ((w.alloc (.cells o.cells 32)).alloc (.cells (rpC rp0) 27)).cell? ⟨w.heap.size, 4, none⟩ = some (.int .i64 o.p) := cell_blk hop 4
  have k5 : ((w.alloc (.cells o.cells 32)).alloc (.cells (rpC rp0) 27)).cell? ⟨w.heap.size, 5, none⟩ = some (.int .i64 o.e) := cell_blk hop 5
  have k6 : ((w.alloc (.cells o.cells 32)).alloc (.cells (rpC rp0) 27)).cell? ⟨w.heap.size, 6, none⟩ = some (.int .i64 o.t) := cell_blk hop 6
  have k7 : ((w.alloc (.cells o.cells 32)).alloc (.cells (rpC rp0) 27)).cell? ⟨w.heap.size, 7, none⟩ = some (.int .i64 o.r) := cell_blk hop 7
  have k8 : ((w.alloc (.cells o.cells 32)).alloc (.cells (rpC rp0) 27)).cell? ⟨w.heap.size, 8, none⟩ = some (.bool o.b) := cell_blk hop 8
  obtain ⟨W1, HW1⟩ : ∃ W1, Hid (((w.alloc (.cells o.cells 32)).alloc (.cells (rpC rp0) 27)) = W1) := ⟨_, rfl⟩
  rw [HW1.out] at hB0 hop hz0 hs0 h0 k0 k1 k2 k3 k4 k5 k6 k7 k8
  have hwl : w.heap.size < W1.heap.size := by omega
  have hcl : cb < W1.heap.size := lt_blk h0.blk
  have cn : W1.cell? ⟨cb, 3, none⟩ = some (.int .i64 x.now) := cell_blk h0.blk 3
  go_enter Try.func7, Try.ntmps7
  go_wp2_with (first | (refine wpList_box_row rfl 32 _ rfl o.cells ?_ ?_; rfl) | (refine wpList_alloc_row rfl 27 rfl (rpC rp0) (by kernel_rfl) ?_; rw [World.size_alloc, HW1.out]) | (refine wpList_load_agg rfl 32 (by kernel_rfl) _ rfl w.heap.size o.cells 32 (0, 0) ?_ hop (by kernel_rfl) ?_; rfl) | (go_at_call 17; refine (mayBe_bad o hin hb _).mono ?_; rw [hb]; rintro e w2 ⟨rfl, hB2⟩; have hz2 := (hB2.block _ (by omega)).trans hz0) | (go_at_call 18; refine (plain_any 6 _).mono ?_; rintro e w3 ⟨rfl, hB3⟩; have hz3 := (hB3.block _ (lt_blk hz2)).trans hz2) | (refine wpList_store_whole rfl 27 _ _ rfl (w.heap.size + 1) (rpC (err 6)) (rpC rp0) ?_ ?_ 27 hz3 (by kernel_rfl) (rpC_all _) rfl ?_; rfl; rfl))
  intro w4 h4 hK4
  go_wp2_with fail
  obtain ⟨v, own2, q2, e1, e2, el, e3, e4⟩ := (RnI.start h (hB0.trans ((hB2.mono (by omega)).trans (hB3.mono (by have := hB2.size; omega)))) (Nat.le_succ _) hz3).done (r := err 6) hK4 (Nat.le_succ _)
  exact bodyPost_ret (results_agg_tmp rfl _ _ (w.heap.size + 1) (rpC (err 6)) 27 (0, 0) (.slice none 0 0) rfl rfl (by kernel_rfl) h4 (by kernel_rfl)) rfl ⟨v, own2, e1, e2, el, ⟨pb, rb, mv, q2, e3⟩, e4⟩
/-- the bounds of one that may be -/
theorem OpF.ok_b {o : OpF} (h : o.ok = true) : (1 ≤ o.k ∧ o.k ≤ 4) ∧ (0 ≤ o.c ∧ o.c ≤ 15) ∧ (0 ≤ o.s ∧ o.s ≤ 1048576) ∧ (0 ≤ o.r ∧ o.r ≤ 3) := by
  unfold OpF.ok opB at h
  simp only [Bool.and_eq_true, inB_iff] at h
  omega
/-- while a remembered reply is looked up -/
def GetS (w3 : World) (D : Rp.Rp3) : List Value → World → Prop
  | [], W => Below w3.heap.size w3 W
  | [v], W => (∃ g, v = .pointer (some ⟨g, 0, none⟩) ∧ w3.heap.size ≤ g ∧ W.heap[g]? = some (.cells (rpC rp0) 27 (0, 0))) ∧ Below w3.heap.size w3 W
  | v :: _ :: _, W => (∃ g, v = .pointer (some ⟨g, 0, none⟩) ∧ w3.heap.size ≤ g ∧ W.heap[g]? = some (.cells (rpC D) 27 (0, 0))) ∧ Below w3.heap.size w3 W
theorem GetS.bel {w3 : World} {D : Rp.Rp3} : ∀ {s : List Value} {W : World}, GetS w3 D s W → Below w3.heap.size w3 W
  | [], _, h => h
  | [_], _, h => h.2
  | _ :: _ :: _, _, h => h.2
theorem GetS.below {w3 : World} {D : Rp.Rp3} : ∀ (s : List Value) (A B : World), Below A.heap.size A B → GetS w3 D s A → GetS w3 D s B
  | [], A, B, hB, h => Below.trans h (hB.mono (Below.size h))
  | [_], A, B, hB, ⟨⟨g, h1, h2, h3⟩, h⟩ => ⟨⟨g, h1, h2, (hB.block _ (lt_blk h3)).trans h3⟩, h.trans (hB.mono h.size)⟩
  | _ :: _ :: _, A, B, hB, ⟨⟨g, h1, h2, h3⟩, h⟩ => ⟨⟨g, h1, h2, (hB.block _ (lt_blk h3)).trans h3⟩, h.trans (hB.mono h.size)⟩
set_option maxRecDepth 100000 in
set_option maxHeartbeats 4000000 in
theorem apply_ok (own : Own) (w : World) (cb : Nat) (x : Co) (h : CoAt own w cb x) (o : OpF) (hin : o.In) (hb : o.ok = true) (hok : CoOk x) (hrs : x.rs.length ≤ 10000) (hms : x.ms.length ≤ 50000) (hrm : (x.run o).2.1.length ≤ 10) :
    Calls Try.prog 7 #[.pointer (some ⟨cb, 0, none⟩), .agg o.cells] w (ApQ own w cb (x.apply true o).1 (x.apply true o).2.1 (x.apply true o).2.2) := by
  obtain ⟨pb, rb, mv, q, h⟩ := h
  obtain ⟨-, hbc, hbs, hbr⟩ := OpF.ok_b hb
  have hB0 : Below w.heap.size w ((w.alloc (.cells o.cells 32)).alloc (.cells (rpC rp0) 27)) := (below_alloc _ _).alloc (by simp) _
  have hop : ((w.alloc (.cells o.cells 32)).alloc (.cells (rpC rp0) 27)).heap[w.heap.size]? = some (.cells o.cells 32 (0, 0)) := alloc_blk_old (alloc_blk _ _) _
  have hz0 : ((w.alloc (.cells o.cells 32)).alloc (.cells (rpC rp0) 27)).heap[w.heap.size + 1]? = some (.cells (rpC rp0) 27 (0, 0)) := by
    have := alloc_blk (w.alloc (.cells o.cells 32)) (.cells (rpC rp0) 27)
    rwa [World.size_alloc] at this
  have hs0 : ((w.alloc (.cells o.cells 32)).alloc (.cells (rpC rp0) 27)).heap.size = w.heap.size + 2 := by simp
  have h0 := h.below hB0
  have k0 : ((w.alloc (.cells o.cells 32)).alloc (.cells (rpC rp0) 27)).cell? ⟨w.heap.size, 0, none⟩ = some (.int .i64 o.k) := cell_blk hop 0
  have k1 : ((w.alloc (.cells o.cells 32)).alloc (.cells (rpC rp0) 27)).cell? ⟨w.heap.size, 1, none⟩ = some (.int .i64 o.c) := cell_blk hop 1
  have k2 : ((w.alloc (.cells o.cells 32)).alloc (.cells (rpC rp0) 27)).cell? ⟨w.heap.size, 2, none⟩ = some (.int .i64 o.s) := cell_blk hop 2
  have k3 : ((w.alloc (.cells o.cells 32)).alloc (.cells (rpC rp0) 27)).cell? ⟨w.heap.size, 3, none⟩ = some (.string o.n) := cell_blk hop 3
  have k4 : ((w.alloc (.cells o.cells 32)).alloc (.cells (rpC rp0) 27)).cell? ⟨w.heap.size, 4, none⟩ = some (.int .i64 o.p) := cell_blk hop 4
  have k5 : ((w.alloc (.cells o.cells 32)).alloc (.cells (rpC rp0) 27)).cell? ⟨w.heap.size, 5, none⟩ = some (.int .i64 o.e) := cell_blk hop 5
  have k6 : ((w.alloc (.cells o.cells 32)).alloc (.cells (rpC rp0) 27)).cell? ⟨w.heap.size, 6, none⟩ = some (.int .i64 o.t) := cell_blk hop 6
  have k7 : ((w.alloc (.cells o.cells 32)).alloc (.cells (rpC rp0) 27)).cell? ⟨w.heap.size, 7, none⟩ = some (.int .i64 o.r) := cell_blk hop 7
  have k8 : ((w.alloc (.cells o.cells 32)).alloc (.cells (rpC rp0) 27)).cell? ⟨w.heap.size, 8, none⟩ = some (.bool o.b) := cell_blk hop 8
  obtain ⟨W1, HW1⟩ : ∃ W1, Hid (((w.alloc (.cells o.cells 32)).alloc (.cells (rpC rp0) 27)) = W1) := ⟨_, rfl⟩
  rw [HW1.out] at hB0 hop hz0 hs0 h0 k0 k1 k2 k3 k4 k5 k6 k7 k8
  have hwl : w.heap.size < W1.heap.size := by omega
  have hcl : cb < W1.heap.size := lt_blk h0.blk
  have cn : W1.cell? ⟨cb, 3, none⟩ = some (.int .i64 x.now) := cell_blk h0.blk 3
  go_enter Try.func7, Try.ntmps7
  go_upto_region 4 with (first | (refine wpList_box_row rfl 32 _ rfl o.cells ?_ ?_; rfl) | (refine wpList_alloc_row rfl 27 rfl (rpC rp0) (by kernel_rfl) ?_; rw [World.size_alloc, HW1.out]) | (refine wpList_load_agg rfl 32 (by kernel_rfl) _ rfl w.heap.size o.cells 32 (0, 0) ?_ hop (by kernel_rfl) ?_; rfl) | (go_at_call 17; refine (mayBe_any o hin _).mono ?_; rw [hb]; rintro e w2 ⟨rfl, hB2⟩; have h2 := h0.below hB2) | (go_at_call 16; refine (prepare_at own _ cb x pb rb mv q h2).mono ?_; rintro e w3 ⟨⟨v3, rfl⟩, hw3⟩; subst hw3))
  have HS3 : Hid (CoS own w3 cb x pb rb mv q) := h2
  have HB3 : Hid (Below w.heap.size w w3) := hB0.trans (hB2.mono (by omega))
  have HOP : Hid (w3.heap[w.heap.size]? = some (.cells o.cells 32 (0, 0))) := (hB2.block _ hwl).trans hop
  have HZ : Hid (w3.heap[w.heap.size + 1]? = some (.cells (rpC rp0) 27 (0, 0))) := (hB2.block _ (by omega)).trans hz0
  have c1 : w3.cell? ⟨cb, 1, none⟩ = some (.pointer (some ⟨rb, 0, none⟩)) := cell_blk h2.blk 1
  have hcl3 : cb < w3.heap.size := lt_blk h2.blk
  obtain ⟨ky, HK⟩ : ∃ ky, Hid (o.key = ky) := ⟨_, rfl⟩
  obtain ⟨D, HD⟩ : ∃ D, Hid ((lookL ky x.rs).getD (⟨0, 0, 0⟩ : Rp.Rp3) = D) := ⟨_, rfl⟩
  obtain ⟨G, HG⟩ : ∃ G, Hid ((lookL ky x.rs).isSome = G) := ⟨_, rfl⟩
  have HBC : Hid ((0 ≤ o.c ∧ o.c ≤ 15) ∧ (0 ≤ o.s ∧ o.s ≤ 1048576)) := ⟨hbc, hbs⟩
  clear k0 k1 k2 k3 k4 k5 k6 k7 k8 h0 hs0 hz0 hop hwl hcl cn hB2 h2 hbc hbs
  refine wp_region_turnsV (by kernel_rfl) (by kernel_rfl) [10, 11] (by kernel_rfl) (by decide) (by decide) (fun xS => { tmps := (Value.pointer (some (⟨cb, 0, none⟩ : Addr)) :: Value.agg o.cells :: undef :: Value.pointer (some (⟨w.heap.size, 0, none⟩ : Addr)) :: Value.pointer (some (⟨w.heap.size + 1, 0, none⟩ : Addr)) :: Value.slice none 0 0 :: xS 10 :: xS 12 :: undef :: undef :: Value.pointer (some (⟨cb, 0, none⟩ : Addr)) :: Value.bool false :: Value.bool false :: Value.agg #[Value.int IntKind.i64 o.k, Value.int IntKind.i64 o.c, Value.int IntKind.i64 o.s, Value.string o.n, Value.int IntKind.i64 o.p, Value.int IntKind.i64 o.e, Value.int IntKind.i64 o.t, Value.int IntKind.i64 o.r, Value.bool o.b] :: Value.bool true :: Value.bool false :: Value.bool false :: undef :: Value.pointer (some (⟨cb, 0, none⟩ : Addr)) :: v3 :: xS 7 :: xS 0 :: xS 1 :: xS 2 :: xS 3 :: xS 4 :: xS 5 :: xS 6 :: xS 8 :: xS 9 :: undef :: undef :: undef :: undef :: undef :: undef :: undef :: undef :: undef :: undef :: undef :: undef :: undef :: undef :: undef :: undef :: undef :: undef :: undef :: undef :: undef :: undef :: undef :: undef :: undef :: undef :: undef :: []).toArray, defers := [] })
    (fun ii xx WW => match ii with | 0 => xx = Value.pointer (some (⟨cb, 0, none⟩ : Addr)) | 1 => xx = Value.pointer (some (⟨cb, 0, none⟩ : Addr)) | 2 => xx = .pointer (some ⟨cb, 1, none⟩) | 3 => xx = .pointer (some ⟨rb, 0, none⟩) | 4 => xx = .agg o.cells | 5 => xx = .int .i64 ky | 6 => xx = .tuple #[.agg (rpC D), .bool G] | 7 => xx = .tuple #[.agg (rpC D), .bool G] | 8 => xx = .agg (rpC D) | 9 => xx = .bool G | 12 => xx = .bool G | _ => True) (GetS w3 D) (fun | 0 => undef | 1 => undef | 2 => undef | 3 => undef | 4 => undef | 5 => undef | 6 => undef | 7 => undef | 8 => undef | 9 => undef | 10 => undef | 12 => undef | _ => undef) (by repeat (first | exact trivial | refine ⟨fun _ _ => rfl, ?_⟩)) (fun _ _ _ _ _ h => h) (by intro i hi v W; simp only [List.mem_cons, List.mem_nil_iff, or_false] at hi; rcases hi with rfl | rfl <;> trivial) (fun s A B hB h => GetS.below s A B hB h) ((Below.refl _ _).drew) ⟨?_, ?_, ?_, ?_, ?_, ?_, ?_, ?_, ?_, ?_, ?_, ?_, ?_, trivial⟩ ?_
  · rw [if_neg (by decide)]
    intro s hs hmay xS W hS hp K hK
    rw [if_pos (wanted_none rfl _)]
    clear hp
    go_simp
    exact hK _ _ (Below.refl _ _) rfl
  · rw [if_neg (by decide)]
    intro s hs hmay xS W hS hp K hK
    rw [if_pos (wanted_none rfl _)]
    have h0 : xS 0 = Value.pointer (some (⟨cb, 0, none⟩ : Addr)) := hp.1 rfl
    clear hp
    simp only [h0] at hK ⊢
    clear h0
    go_simp
    exact hK _ _ (Below.refl _ _) rfl
  · rw [if_neg (by decide)]
    intro s hs hmay xS W hS hp K hK
    rw [if_pos (wanted_none rfl _)]
    have h1 : xS 1 = Value.pointer (some (⟨cb, 0, none⟩ : Addr)) := hp.1 rfl
    clear hp
    simp only [h1] at hK ⊢
    clear h1
    go_simp
    exact hK _ _ (Below.refl _ _) rfl
  · rw [if_neg (by decide)]
    intro s hs hmay xS W hS hp K hK
    rw [if_pos (wanted_none rfl _)]
    have h2 : xS 2 = .pointer (some ⟨cb, 1, none⟩) := hp.1 rfl
    clear hp
    have hB := GetS.bel hS
    have hc := (hB.cell (p := ⟨cb, 1, none⟩) hcl3).trans c1
    simp only [h2] at hK ⊢
    clear h2
    go_simp
    exact hK _ _ (Below.refl _ _) rfl
  · rw [if_neg (by decide)]
    intro s hs hmay xS W hS hp K hK
    rw [if_pos (wanted_none rfl _)]
    clear hp
    have hB := GetS.bel hS
    exact wp_load_agg 32 (by kernel_rfl) _ rfl w.heap.size o.cells 32 (0, 0) rfl ((hB.block _ (lt_blk HOP.out)).trans HOP.out) (by kernel_rfl) (hK _ _ (Below.refl _ _) rfl)
  · rw [if_neg (by decide)]
    intro s hs hmay xS W hS hp K hK
    rw [if_pos (wanted_none rfl _)]
    have h4 : xS 4 = .agg o.cells := hp.1 rfl
    clear hp
    simp only [h4] at hK ⊢
    clear h4
    go_simp
    refine (key_any o HBC.out.1 HBC.out.2 _).mono ?_
    rintro e w' ⟨rfl, hB'⟩
    rw [HK.out]
    exact hK _ _ hB' rfl
  · rw [if_neg (by decide)]
    intro s hs hmay xS W hS hp K hK
    rw [if_pos (wanted_none rfl _)]
    have h3 : xS 3 = .pointer (some ⟨rb, 0, none⟩) := hp.1 rfl
    have h5 : xS 5 = .int .i64 ky := hp.2.1 rfl
    clear hp
    simp only [h3, h5] at hK ⊢
    clear h3 h5
    go_simp
    have hB := GetS.bel hS
    refine (Rp.Get_any _ x.rs ky _ (.inr ⟨rb, rfl, (HS3.out.below hB).tr⟩)).mono ?_
    rintro e w' ⟨hB', rfl⟩
    rw [HD.out, HG.out]
    exact hK _ _ hB' rfl
  · rw [if_neg (by decide)]
    intro s hs hmay xS W hS hp K hK
    rw [if_pos (wanted_none rfl _)]
    have h6 : xS 6 = .tuple #[.agg (rpC D), .bool G] := hp.1 rfl
    clear hp
    simp only [h6] at hK ⊢
    clear h6
    go_simp
    exact hK _ _ (Below.refl _ _) rfl
  · rw [if_neg (by decide)]
    intro s hs hmay xS W hS hp K hK
    rw [if_pos (wanted_none rfl _)]
    have h7 : xS 7 = .tuple #[.agg (rpC D), .bool G] := hp.1 rfl
    clear hp
    simp only [h7] at hK ⊢
    clear h7
    go_simp
    exact hK _ _ (Below.refl _ _) rfl
  · rw [if_neg (by decide)]
    intro s hs hmay xS W hS hp K hK
    rw [if_pos (wanted_none rfl _)]
    have h7 : xS 7 = .tuple #[.agg (rpC D), .bool G] := hp.1 rfl
    clear hp
    simp only [h7] at hK ⊢
    clear h7
    go_simp
    exact hK _ _ (Below.refl _ _) rfl
  · rw [if_pos (by decide)]
    refine ⟨rfl, ?_⟩
    intro xS W hS hw K hK
    replace hS : GetS w3 D [] W := hS
    clear hw
    have hB : Below w3.heap.size w3 W := hS
    exact wp_alloc_row 27 rfl _ (by kernel_rfl) (hK _ _ ⟨⟨_, rfl, hB.size, alloc_blk _ _⟩, hB.trans ((below_alloc _ _).mono hB.size)⟩ (fun j y hj => hj))
  · rw [if_pos (by decide)]
    refine ⟨rfl, ?_⟩
    intro xS W hS hw K hK
    have h8 : xS 8 = .agg (rpC D) := hw 8 (by kernel_rfl)
    replace hS : GetS w3 D [xS 10] W := hS
    clear hw
    obtain ⟨⟨g, h10, hgl, hgc⟩, hB⟩ := hS
    refine wp_store_whole 27 _ _ rfl g (rpC D) (rpC rp0) h10 h8 27 hgc (by kernel_rfl) (rpC_all _) rfl ?_
    intro W5 h5 hK5
    exact hK undef _ ⟨⟨g, h10, hgl, h5⟩, hB.trans (hK5.below hgl hB.size)⟩ (fun j y hj => hj)
  · rw [if_neg (by decide)]
    intro s hs hmay xS W hS hp K hK
    rw [if_pos (wanted_none rfl _)]
    have h9 : xS 9 = .bool G := hp.1 rfl
    clear hp
    simp only [h9] at hK ⊢
    clear h9
    go_simp
    exact hK _ _ (Below.refl _ _) rfl
  rintro xs4 W4 ⟨⟨g, h10, hgl, hg4⟩, hB4⟩ hs
  have h12 : xs4 12 = .bool G := hs 12 (by decide)
  clear hs
  simp only [h10, h12]
  have HS4 : Hid (CoS own W4 cb x pb rb mv q) := HS3.out.below hB4
  have HB4 : Hid (Below w.heap.size w W4) := HB3.out.trans (hB4.mono HB3.out.size)
  have HOP4 : Hid (W4.heap[w.heap.size]? = some (.cells o.cells 32 (0, 0))) := (hB4.block _ (lt_blk HOP.out)).trans HOP.out
  have HZ4 : Hid (W4.heap[w.heap.size + 1]? = some (.cells (rpC rp0) 27 (0, 0))) := (hB4.block _ (lt_blk HZ.out)).trans HZ.out
  have hgz : w.heap.size + 1 < W4.heap.size := lt_blk HZ4.out
  clear hB4 c1 hcl3 h12
  cases hGG : G with
  | true =>
    have hlk : ∃ r, lookL ky x.rs = some r := by
      have := HG.out
      rw [hGG] at this
      exact Option.isSome_iff_exists.1 this
    obtain ⟨r, hlk⟩ := hlk
    have hDr : D = r := by rw [← HD.out, hlk]; rfl
    subst hDr
    have happ : x.apply true o = (D, [], x) := by unfold Co.apply; rw [HK.out, hlk]; rfl
    go_wp2_with (first | (refine wpList_load_agg rfl 27 (by kernel_rfl) _ rfl g (rpC D) 27 (0, 0) ?_ hg4 (by kernel_rfl) ?_; rfl) | (refine wpList_store_whole rfl 27 _ _ rfl (w.heap.size + 1) (rpC D) (rpC rp0) ?_ ?_ 27 HZ4.out (by kernel_rfl) (rpC_all _) rfl ?_; rfl; rfl))
    intro w5 h5 hK5
    go_wp2_with fail
    obtain ⟨v, own2, q2, e1, e2, el, e3, e4⟩ := (RnI.start h HB4.out (Nat.le_succ _) HZ4.out).done (r := D) hK5 (Nat.le_succ _)
    rw [happ]
    exact bodyPost_ret (results_agg_tmp rfl _ _ (w.heap.size + 1) (rpC D) 27 (0, 0) (.slice none 0 0) rfl rfl (by kernel_rfl) h5 (by kernel_rfl)) rfl ⟨v, own2, e1, e2, el, ⟨pb, rb, mv, q2, e3⟩, e4⟩
  | false =>
    have hlk : lookL ky x.rs = none := by
      have := HG.out
      rw [hGG] at this
      cases hl : lookL ky x.rs with
      | none => rfl
      | some _ => rw [hl] at this; cases this
    have happ : x.apply true o = ((x.run o).1, (x.run o).2.1, ⟨(x.run o).2.2.1, insL ky (x.run o).1 x.rs, x.ms ++ (x.run o).2.1, (x.run o).2.2.2⟩) := by unfold Co.apply; rw [HK.out, hlk]; rfl
    go_upto_region 8 with (first | (refine wpList_load_agg rfl 32 (by kernel_rfl) _ rfl w.heap.size o.cells 32 (0, 0) ?_ HOP4.out (by kernel_rfl) ?_; rfl) | (go_at_call 21; refine (run_at own W4 cb x pb rb mv q HS4.out hok o hin hbr).mono ?_; rintro e w5 hR; obtain ⟨v, own2, q2, he5, hO5, hl5, hC5, hS5⟩ := hR; subst he5) | (refine wpList_alloc_row rfl 27 rfl (rpC rp0) (by kernel_rfl) ?_) | (refine wpList_store_whole rfl 27 _ _ rfl w5.heap.size (rpC (x.run o).1) (rpC rp0) ?_ ?_ 27 (alloc_blk _ _) (by kernel_rfl) (rpC_all _) rfl ?_; rfl; rfl))
    intro w7 h7 hK7
    obtain ⟨ma, mc, rfl⟩ := hC5.ms.form
    have hB57 : Below w5.heap.size w5 w7 := (below_alloc _ _).trans (hK7.below (Nat.le_refl _) (by simp))
    have h5z : W4.heap.size ≤ w5.heap.size := hS5.size
    have hfr : ∀ k, w.heap.size ≤ k → k < W4.heap.size → own2 k = none := fun k h1 h2 => by
      rw [hS5.old k h2]
      cases hh : own k with
      | none => rfl
      | some l => have := h.owned k l hh; omega
    have hold : ∀ k c t, w.heap.size ≤ k → W4.heap[k]? = some (.cells c t (0, 0)) → w7.heap[k]? = some (.cells c t (0, 0)) := fun k c t h1 h2 =>
      (hB57.block k (Nat.lt_of_lt_of_le (lt_blk h2) h5z)).trans ((hS5.block (lt_blk h2) fun l e => by rw [← hS5.old k (lt_blk h2), hfr k h1 (lt_blk h2)] at e; cases e).trans h2)
    have HC7 : Hid (CoS own2 w7 cb ⟨(x.run o).2.2.1, x.rs, x.ms, (x.run o).2.2.2⟩ pb rb (.slice ma x.ms.length mc) q2) := hC5.below hB57
    have HO7 : Hid (OwnM w7 W4.heap.size v (x.run o).2.1) := hO5.below hB57
    have HOP7 : Hid (w7.heap[w.heap.size]? = some (.cells o.cells 32 (0, 0))) := hold _ _ _ (Nat.le_refl _) HOP4.out
    have HZ7 : Hid (w7.heap[w.heap.size + 1]? = some (.cells (rpC rp0) 27 (0, 0))) := hold _ _ _ (Nat.le_succ _) HZ4.out
    have H7 : Hid (w7.heap[w5.heap.size]? = some (.cells (rpC (x.run o).1) 27 (0, 0))) := h7
    have HF7 : Hid (own2 w5.heap.size = none) := by
      show own2 w5.heap.size = none
      cases hh : own2 w5.heap.size with
      | none => rfl
      | some l => have := hC5.owned _ l hh; omega
    have HFZ : Hid (own2 (w.heap.size + 1) = none) := hfr _ (Nat.le_succ _) hgz
    have HL7 : Hid (∀ k, v.ownBlock = some k → own2 k = some .tmp) := hl5
    have HST7 : Hid (Step AllP own own2 w w7) := ((Step.of_below HB4.out h.owned).trans hS5).trans (Step.of_below hB57 hC5.owned)
    have HZN : Hid (w.heap.size + 1 ≠ w5.heap.size ∧ w.heap.size ≤ W4.heap.size) := by show _ ∧ _; omega
    have HW4 : Hid (w.heap.size ≤ W4.heap.size) := by show _ ≤ _; omega
    have e1 : w7.cell? ⟨cb, 1, none⟩ = some (.pointer (some ⟨rb, 0, none⟩)) := cell_blk HC7.out.blk 1
    have hcl7 : cb < w7.heap.size := lt_blk HC7.out.blk
    clear h7 hK7 hB57 hfr hold hC5 hO5 hl5 hS5 h5z
    go_upto_region 8 with fail
    refine wp_region_pivot (by kernel_rfl) (by kernel_rfl) 7 (by decide) (by kernel_rfl) (by kernel_rfl) (fun xS => { tmps := (Value.pointer (some (⟨cb, 0, none⟩ : Addr)) :: Value.agg o.cells :: undef :: Value.pointer (some (⟨w.heap.size, 0, none⟩ : Addr)) :: Value.pointer (some (⟨w.heap.size + 1, 0, none⟩ : Addr)) :: Value.slice none 0 0 :: Value.pointer (some (⟨g, 0, none⟩ : Addr)) :: Value.bool false :: Value.pointer (some (⟨w5.heap.size, 0, none⟩ : Addr)) :: v :: Value.pointer (some (⟨cb, 0, none⟩ : Addr)) :: Value.bool false :: Value.bool false :: Value.agg #[Value.int IntKind.i64 o.k, Value.int IntKind.i64 o.c, Value.int IntKind.i64 o.s, Value.string o.n, Value.int IntKind.i64 o.p, Value.int IntKind.i64 o.e, Value.int IntKind.i64 o.t, Value.int IntKind.i64 o.r, Value.bool o.b] :: Value.bool true :: Value.bool false :: Value.bool false :: undef :: Value.pointer (some (⟨cb, 0, none⟩ : Addr)) :: v3 :: xs4 7 :: xs4 0 :: xs4 1 :: xs4 2 :: xs4 3 :: xs4 4 :: xs4 5 :: xs4 6 :: xs4 8 :: xs4 9 :: Value.bool false :: undef :: Value.tuple #[Value.agg (rpC (x.run o).fst), v] :: Value.pointer (some (⟨cb, 0, none⟩ : Addr)) :: Value.agg o.cells :: Value.tuple #[Value.agg (rpC (x.run o).fst), v] :: Value.agg (rpC (x.run o).fst) :: v :: xS 0 :: xS 1 :: xS 2 :: xS 3 :: xS 4 :: xS 5 :: xS 6 :: xS 7 :: undef :: undef :: undef :: undef :: undef :: undef :: undef :: undef :: undef :: undef :: undef :: []).toArray, defers := [] })
      (fun ii xx WW => match ii with | 0 => xx = Value.pointer (some (⟨cb, 0, none⟩ : Addr)) | 1 => xx = Value.pointer (some (⟨cb, 0, none⟩ : Addr)) | 2 => xx = .pointer (some ⟨cb, 1, none⟩) | 3 => xx = .pointer (some ⟨rb, 0, none⟩) | 4 => xx = .agg o.cells | 5 => xx = .int .i64 ky | 6 => xx = .agg (rpC (x.run o).1) | _ => True) (fun li xS W => Rp.Tab W rb (insL ky (x.run o).1 x.rs) ∧ Frm (· = rb) w7 W) (fun | 0 => undef | 1 => undef | 2 => undef | 3 => undef | 4 => undef | 5 => undef | 6 => undef | 7 => undef | _ => undef) (by repeat (first | exact trivial | refine ⟨fun _ _ => rfl, ?_⟩)) (fun _ _ _ _ _ h => h) ⟨?_, ?_, ?_, ?_, ?_, ?_, ?_, ⟨rfl, ?_⟩, trivial⟩ ?_
    · intro xS W hB hp K hK
      rw [if_pos (wanted_none rfl _)]
      clear hp
      go_simp
      exact hK _ _ (Below.refl _ _) rfl
    · intro xS W hB hp K hK
      rw [if_pos (wanted_none rfl _)]
      have h0 : xS 0 = Value.pointer (some (⟨cb, 0, none⟩ : Addr)) := hp.1 rfl
      clear hp
      simp only [h0] at hK ⊢
      clear h0
      go_simp
      exact hK _ _ (Below.refl _ _) rfl
    · intro xS W hB hp K hK
      rw [if_pos (wanted_none rfl _)]
      have h1 : xS 1 = Value.pointer (some (⟨cb, 0, none⟩ : Addr)) := hp.1 rfl
      clear hp
      simp only [h1] at hK ⊢
      clear h1
      go_simp
      exact hK _ _ (Below.refl _ _) rfl
    · intro xS W hB hp K hK
      rw [if_pos (wanted_none rfl _)]
      have h2 : xS 2 = .pointer (some ⟨cb, 1, none⟩) := hp.1 rfl
      clear hp
      have hc := (hB.cell (p := ⟨cb, 1, none⟩) hcl7).trans e1
      simp only [h2] at hK ⊢
      clear h2
      go_simp
      exact hK _ _ (Below.refl _ _) rfl
    · intro xS W hB hp K hK
      rw [if_pos (wanted_none rfl _)]
      clear hp
      exact wp_load_agg 32 (by kernel_rfl) _ rfl w.heap.size o.cells 32 (0, 0) rfl ((hB.block _ (lt_blk HOP7.out)).trans HOP7.out) (by kernel_rfl) (hK _ _ (Below.refl _ _) rfl)
    · intro xS W hB hp K hK
      rw [if_pos (wanted_none rfl _)]
      have h4 : xS 4 = .agg o.cells := hp.1 rfl
      clear hp
      simp only [h4] at hK ⊢
      clear h4
      go_simp
      refine (key_any o HBC.out.1 HBC.out.2 _).mono ?_
      rintro e w' ⟨rfl, hB'⟩
      rw [HK.out]
      exact hK _ _ hB' rfl
    · intro xS W hB hp K hK
      rw [if_pos (wanted_none rfl _)]
      clear hp
      exact wp_load_agg 27 (by kernel_rfl) _ rfl w5.heap.size (rpC (x.run o).1) 27 (0, 0) rfl ((hB.block _ (lt_blk H7.out)).trans H7.out) (by kernel_rfl) (hK _ _ (Below.refl _ _) rfl)
    · intro li xS W hB hs hno K hK
      have h3 : xS 3 = .pointer (some ⟨rb, 0, none⟩) := hs 3 (by decide)
      have h5 : xS 5 = .int .i64 ky := hs 5 (by decide)
      have h6 : xS 6 = .agg (rpC (x.run o).1) := hs 6 (by decide)
      clear hs
      simp only [h3, h5, h6] at hK ⊢
      clear h3 h5 h6
      go_simp
      refine (Rp.Set_any rb x.rs ky (x.run o).1 W (HC7.out.below hB).tr (by unfold Rp.big; omega) (by have := HK.out; unfold OpF.key at this; have := HBC.out; omega)).mono ?_
      rintro e w' ⟨⟨v5, rfl⟩, hT5, hF5⟩
      exact hK _ _ ⟨hT5, (Frm.of_below hB).trans hF5⟩
    rintro li xs8 w8 ⟨hT8, hF8⟩ -
    have hcr := HC7.out.reply hF8 hT8
    have HC8 : Hid (CoS own2 w8 cb ⟨(x.run o).2.2.1, insL ky (x.run o).1 x.rs, x.ms, (x.run o).2.2.2⟩ pb rb (.slice ma x.ms.length mc) q2) := hcr.1
    have hlr : own2 rb = some .tr := HC7.out.lr
    have HO8 : Hid (OwnM w8 W4.heap.size v (x.run o).2.1) := HO7.out.same fun k hk => hF8.block k (HO7.out.lt k hk).2 fun e => by
      have e : k = rb := e
      have := HL7.out k hk
      rw [e, hlr] at this; cases this
    have HZ8 : Hid (w8.heap[w.heap.size + 1]? = some (.cells (rpC rp0) 27 (0, 0))) := (hF8.block _ (lt_blk HZ7.out) fun e => by
      have e : w.heap.size + 1 = rb := e
      have := HFZ.out
      rw [e, hlr] at this; cases this).trans HZ7.out
    have H8 : Hid (w8.heap[w5.heap.size]? = some (.cells (rpC (x.run o).1) 27 (0, 0))) := (hF8.block _ (lt_blk H7.out) fun e => by
      have e : w5.heap.size = rb := e
      have := HF7.out
      rw [e, hlr] at this; cases this).trans H7.out
    have HST8 : Hid (Step AllP own own2 w w8) := HST7.out.trans hcr.2
    have d2 : w8.cell? ⟨cb, 2, none⟩ = some (.slice ma x.ms.length mc) := cell_blk HC8.out.blk 2
    clear hcr hF8 hT8 e1 hcl7 hlr
    go_wp2_with (first | (refine wpList_appM rfl _ _ rfl 0 W4.heap.size (.slice ma x.ms.length mc) v x.ms (x.run o).2.1 ?_ ?_ HC8.out.ms HO8.out (by omega) (Nat.zero_le _) ?_; rfl; rfl))
    intro v' w9 hO9 hG9
    obtain ⟨n9, hn9⟩ : ∃ n9, (x.ms ++ (x.run o).2.1).length = n9 := ⟨_, rfl⟩
    obtain ⟨a9, c9, rfl⟩ := hO9.form
    rw [hn9] at hG9 hO9 ⊢
    obtain ⟨own9, hC9, hS9⟩ := HC8.out.marked hO9 hG9
    have hne : ∀ k l, own2 k = some l → l ≠ .ms → (Value.slice ma x.ms.length mc).ownBlock ≠ some k := fun k l h1 h2 e => by
      have := HC8.out.lm k e
      rw [h1] at this; injection this with this; exact h2 this
    have hnn : ∀ k, own2 k = none → (Value.slice ma x.ms.length mc).ownBlock ≠ some k := fun k h1 e => by
      have := HC8.out.lm k e
      rw [h1] at this; cases this
    have hcb9 := (hG9.block cb (lt_blk HC8.out.blk) (hne cb _ HC8.out.lc (fun e => by cases e))).trans HC8.out.blk
    have g2 : w9.cell? ⟨cb, 2, none⟩ = some (.slice ma x.ms.length mc) := cell_blk hcb9 2
    have f2 := frozen_blk hcb9 2
    have hlc : own2 cb = some .co := HC8.out.lc
    obtain ⟨w10, hw10⟩ : ∃ w10, w9.setCell ⟨cb, 2, none⟩ (.slice a9 n9 c9) = w10 := ⟨_, rfl⟩
    have HW10 : Hid (w9.setCell ⟨cb, 2, none⟩ (.slice a9 n9 c9) = w10) := hw10
    have hun : ∀ k o, own2 k = none → w8.heap[k]? = some o → w10.heap[k]? = some o := fun k o h1 h2 => by
      rw [← hw10]
      exact (set_blk_other _ _ (fun e => by rw [e, hlc] at h1; cases h1)).trans ((hG9.block k (lt_blk h2) (hnn k h1)).trans h2)
    have H10 : Hid (w10.heap[w5.heap.size]? = some (.cells (rpC (x.run o).1) 27 (0, 0))) := hun _ _ HF7.out H8.out
    have HZ10 : Hid (w10.heap[w.heap.size + 1]? = some (.cells (rpC rp0) 27 (0, 0))) := hun _ _ HFZ.out HZ8.out
    have HO10 : Hid (OwnM w10 W4.heap.size v (x.run o).2.1) := HO8.out.same fun k hk => by
      rw [← hw10]
      refine (set_blk_other _ _ (fun e => ?_)).trans (hG9.block k (HO8.out.lt k hk).2 (hne k _ (HL7.out k hk) (fun e => by cases e)))
      have := HL7.out k hk
      rw [e, hlc] at this; cases this
    rw [hw10] at hC9 hS9
    have HC10 : Hid (CoS own9 w10 cb ⟨(x.run o).2.2.1, insL ky (x.run o).1 x.rs, x.ms ++ (x.run o).2.1, (x.run o).2.2.2⟩ pb rb (.slice a9 n9 c9) q2) := hC9
    have HST10 : Hid (Step AllP own own9 w w10) := HST8.out.trans hS9
    have HF9 : Hid (own9 (w.heap.size + 1) = none) := (hS9.old _ (lt_blk HZ8.out)).trans HFZ.out
    have HL10 : Hid (∀ k, v.ownBlock = some k → own9 k = some .tmp) := fun k hk => (hS9.old k (HO8.out.lt k hk).2).trans (HL7.out k hk)
    clear hun hw10 hcb9 hlc hne hnn hC9 hS9 hO9 hG9 d2 hn9
    go_wp2_with (first | (refine wpList_load_agg rfl 27 (by kernel_rfl) _ rfl w5.heap.size (rpC (x.run o).1) 27 (0, 0) ?_ (by rw [HW10.out]; exact H10.out) (by kernel_rfl) ?_; rfl) | (refine wpList_store_whole rfl 27 _ _ rfl (w.heap.size + 1) (rpC (x.run o).1) (rpC rp0) ?_ ?_ 27 (by rw [HW10.out]; exact HZ10.out) (by kernel_rfl) (rpC_all _) rfl ?_; rfl; rfl))
    rw [HW10.out]
    intro w11 h11 hK11
    go_wp2_with fail
    rw [happ]
    have hF : Frm (· = w.heap.size + 1) w10 w11 := ⟨hK11.os, hK11.tape, hK11.output, hK11.size, fun k hk hn => hK11.block k hk hn⟩
    have hne : ∀ k, v.ownBlock = some k → k ≠ w.heap.size + 1 := fun k hk e => by have := HL10.out k hk; rw [e, HF9.out] at this; cases this
    exact bodyPost_ret (results_agg_tmp rfl _ _ (w.heap.size + 1) (rpC (x.run o).1) 27 (0, 0) v rfl rfl (by kernel_rfl) h11 (by kernel_rfl)) rfl
      ⟨v, own9, rfl, (HO10.out.mono HW4.out).same fun k hk => hK11.block k (HO10.out.lt k hk).2 (hne k hk), HL10.out, ⟨pb, rb, _, q2, HC10.out.other hF HF9.out (low_reply HZ10.out)⟩, HST10.out.tail (hK11.below (Nat.le_succ _) HST10.out.size)⟩
end Go.Proofs.Ytoihfhlelbdboab
