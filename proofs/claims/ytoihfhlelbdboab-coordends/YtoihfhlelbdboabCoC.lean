/- A producer decides its open transaction. -/
import Derived.Test.YtoihfhlelbdboabCoK
import Derived.Test.YtoihfhlelbdboabInv4
namespace Go.Proofs.Ytoihfhlelbdboab
open Go.RowKit Go.Dig Go.Inv Go.Hold
set_option linter.unusedVariables false
set_option linter.unusedSimpArgs false

set_option maxRecDepth 10000 in
set_option maxHeartbeats 1000000 in
theorem decide_at (own : Own) (w : World) (i qb : Nat) (p : Pr) (k : Int) (h : PrAt own w i qb p) (ho : Owned own w) (hn : p.ends.length ≤ 1000) :
    Calls Try.prog 54 #[.pointer (some ⟨qb, 0, none⟩), .int .i64 k] w fun e w' => e = .returned (.agg (p.mark i k).cells) ∧ ∃ own', PrAt own' w' i qb (p.close k) ∧ Step (OfP i) own own' w w' := by
  obtain ⟨ev, ov, h⟩ := h
  obtain ⟨ao, cap, rfl⟩ := h.ends.1.form
  have hB0 : Below w.heap.size w (w.alloc (.cells #[.int .i64 0, .int .i64 0, .int .i64 0, .int .i64 0] 65)) := (Below.refl _ _).alloc (Nat.le_refl _) _
  have z0 : (w.alloc (.cells #[.int .i64 0, .int .i64 0, .int .i64 0, .int .i64 0] 65)).heap[w.heap.size]? = some (.cells Mk.zero.cells 65 (0, 0)) := alloc_blk _ _
  have hs0 : (w.alloc (.cells #[.int .i64 0, .int .i64 0, .int .i64 0, .int .i64 0] 65)).heap.size = w.heap.size + 1 := by simp
  go_enter Try.func54, Try.ntmps54
  go_upto_region 1 with fail
  obtain ⟨W1, hW1⟩ : ∃ W1, w.alloc (.cells #[.int .i64 0, .int .i64 0, .int .i64 0, .int .i64 0] 65) = W1 := ⟨_, rfl⟩
  rw [hW1] at hB0 z0 hs0 ⊢
  clear hW1
  have hS0 : Step (OfP i) own own w W1 := Step.of_below hB0 ho
  have h1 : PrC own W1 i qb p (.slice ao p.ends.length cap) ov := h.below hB0 ho
  have c1 : W1.cell? ⟨qb, 1, none⟩ = some (.int .i64 i) := cell_blk h1.blk 1
  have c2 : W1.cell? ⟨qb, 2, none⟩ = some (.int .i64 p.ep) := cell_blk h1.blk 2
  have HP : Hid (PrC own W1 i qb p (.slice ao p.ends.length cap) ov) := h1
  have HO : Hid (Owned own W1) := hS0.new
  have HS : Hid (Step (OfP i) own own w W1) := hS0
  have HZ : Hid (W1.heap[w.heap.size]? = some (.cells Mk.zero.cells 65 (0, 0))) := z0
  have hlt : qb < W1.heap.size := lt_blk h1.blk
  have hwl : w.heap.size < W1.heap.size := by omega
  have hqw : qb < w.heap.size := lt_blk h.blk
  obtain ⟨L, HL⟩ : ∃ L, Hid (p.last = L) := ⟨_, rfl⟩
  clear h h1 hS0 z0 hB0
  refine wp_region_pivot (by kernel_rfl) (by kernel_rfl) 13 (by decide) (by kernel_rfl) (by kernel_rfl) (fun xS => { tmps := (Value.pointer (some (⟨qb, 0, none⟩ : Addr)) :: Value.int IntKind.i64 k :: undef :: undef :: Value.pointer (some (⟨w.heap.size, 0, none⟩ : Addr)) :: xS 12 :: xS 0 :: xS 1 :: xS 2 :: xS 3 :: xS 4 :: xS 5 :: xS 6 :: xS 7 :: xS 8 :: xS 9 :: xS 10 :: xS 11 :: undef :: undef :: undef :: undef :: undef :: undef :: undef :: undef :: undef :: undef :: undef :: undef :: undef :: undef :: []).toArray, defers := [] })
    (fun ii xx WW => match ii with | 0 => xx = Value.int IntKind.i64 k | 1 => xx = Value.pointer (some (⟨qb, 0, none⟩ : Addr)) | 2 => xx = Value.pointer (some (⟨qb, 0, none⟩ : Addr)) | 3 => xx = .pointer (some ⟨qb, 1, none⟩) | 4 => xx = .int .i64 i | 5 => xx = Value.pointer (some (⟨qb, 0, none⟩ : Addr)) | 6 => xx = Value.pointer (some (⟨qb, 0, none⟩ : Addr)) | 7 => xx = .pointer (some ⟨qb, 2, none⟩) | 8 => xx = .int .i64 p.ep | 9 => xx = Value.pointer (some (⟨qb, 0, none⟩ : Addr)) | 10 => xx = .int .i64 L | 11 => xx = .agg (Mk.cells ⟨k, i, p.ep, L⟩) | 12 => ∃ g, xx = .pointer (some ⟨g, 0, none⟩) ∧ W1.heap.size ≤ g ∧ WW.heap[g]? = some (.cells Mk.zero.cells 65 (0, 0)) | _ => True) (fun li xS W => ∃ g, xS 12 = .pointer (some ⟨g, 0, none⟩) ∧ W1.heap.size ≤ g ∧ W.heap[g]? = some (.cells (Mk.cells ⟨k, i, p.ep, L⟩) 65 (0, 0)) ∧ Below W1.heap.size W1 W) (fun | 0 => undef | 1 => undef | 2 => undef | 3 => undef | 4 => undef | 5 => undef | 6 => undef | 7 => undef | 8 => undef | 9 => undef | 10 => undef | 11 => undef | 12 => undef | _ => undef) (by repeat (first | exact trivial | refine ⟨fun _ _ => rfl, ?_⟩)) (by intro i x w w' h hs; (try dsimp only at hs ⊢); split at hs <;> first | exact hs | exact trivial | (obtain ⟨g, h1, h2, h3⟩ := hs; exact ⟨g, h1, h2, (h.block g (lt_blk h3)).trans h3⟩)) ⟨?_, ?_, ?_, ?_, ?_, ?_, ?_, ?_, ?_, ?_, ?_, ?_, ?_, ⟨rfl, ?_⟩, trivial⟩ ?_
  · intro xS W hB hp K hK
    rw [if_pos (wanted_none rfl _)]
    clear hp
    go_simp
    exact hK _ _ (Below.refl _ _) rfl
  · intro xS W hB hp K hK
    rw [if_pos (wanted_none rfl _)]
    clear hp
    go_simp
    exact hK _ _ (Below.refl _ _) rfl
  · intro xS W hB hp K hK
    rw [if_pos (wanted_none rfl _)]
    have h1 : xS 1 = Value.pointer (some (⟨qb, 0, none⟩ : Addr)) := hp.1 rfl
    clear hp
    simp only [h1] at hK ⊢
    clear h1
    go_simp
    exact hK _ _ (Below.refl _ _) rfl
  · intro xS W hB hp K hK
    rw [if_pos (wanted_none rfl _)]
    have h2 : xS 2 = Value.pointer (some (⟨qb, 0, none⟩ : Addr)) := hp.1 rfl
    clear hp
    simp only [h2] at hK ⊢
    clear h2
    go_simp
    exact hK _ _ (Below.refl _ _) rfl
  · intro xS W hB hp K hK
    rw [if_pos (wanted_none rfl _)]
    have h3 : xS 3 = .pointer (some ⟨qb, 1, none⟩) := hp.1 rfl
    clear hp
    have hc := (hB.cell (p := ⟨qb, 1, none⟩) hlt).trans c1
    simp only [h3] at hK ⊢
    clear h3
    go_simp
    exact hK _ _ (Below.refl _ _) rfl
  · intro xS W hB hp K hK
    rw [if_pos (wanted_none rfl _)]
    clear hp
    go_simp
    exact hK _ _ (Below.refl _ _) rfl
  · intro xS W hB hp K hK
    rw [if_pos (wanted_none rfl _)]
    have h5 : xS 5 = Value.pointer (some (⟨qb, 0, none⟩ : Addr)) := hp.1 rfl
    clear hp
    simp only [h5] at hK ⊢
    clear h5
    go_simp
    exact hK _ _ (Below.refl _ _) rfl
  · intro xS W hB hp K hK
    rw [if_pos (wanted_none rfl _)]
    have h6 : xS 6 = Value.pointer (some (⟨qb, 0, none⟩ : Addr)) := hp.1 rfl
    clear hp
    simp only [h6] at hK ⊢
    clear h6
    go_simp
    exact hK _ _ (Below.refl _ _) rfl
  · intro xS W hB hp K hK
    rw [if_pos (wanted_none rfl _)]
    have h7 : xS 7 = .pointer (some ⟨qb, 2, none⟩) := hp.1 rfl
    clear hp
    have hc := (hB.cell (p := ⟨qb, 2, none⟩) hlt).trans c2
    simp only [h7] at hK ⊢
    clear h7
    go_simp
    exact hK _ _ (Below.refl _ _) rfl
  · intro xS W hB hp K hK
    rw [if_pos (wanted_none rfl _)]
    clear hp
    go_simp
    exact hK _ _ (Below.refl _ _) rfl
  · intro xS W hB hp K hK
    rw [if_pos (wanted_none rfl _)]
    have h9 : xS 9 = Value.pointer (some (⟨qb, 0, none⟩ : Addr)) := hp.1 rfl
    clear hp
    simp only [h9] at hK ⊢
    clear h9
    go_simp
    refine (last_at own _ i qb p _ ov (HP.out.below hB HO.out) hn).mono ?_
    rintro e w' ⟨rfl, rfl⟩
    rw [HL.out]
    exact hK _ _ (Below.refl _ _) rfl
  · intro xS W hB hp K hK
    rw [if_pos (wanted_none rfl _)]
    have h0 : xS 0 = Value.int IntKind.i64 k := hp.1 rfl
    have h4 : xS 4 = .int .i64 i := hp.2.1 rfl
    have h8 : xS 8 = .int .i64 p.ep := hp.2.2.1 rfl
    have h10 : xS 10 = .int .i64 L := hp.2.2.2.1 rfl
    clear hp
    simp only [h0, h4, h8, h10] at hK ⊢
    refine wp_build_to 65 _ rfl (Mk.cells ⟨k, i, p.ep, L⟩) (by kernel_rfl) ?_
    exact hK _ _ (Below.refl _ _) rfl
  · intro xS W hB hp K hK
    rw [if_pos (wanted_none rfl _)]
    clear hp
    exact wp_alloc_row 65 rfl _ (by kernel_rfl) (hK _ _ (below_alloc _ _) ⟨_, rfl, hB.size, alloc_blk _ _⟩)
  · intro li xS W hB hs hno K hK
    have h11 : xS 11 = .agg (Mk.cells ⟨k, i, p.ep, L⟩) := hs 11 (by decide)
    have h12 : ∃ g, (xS 12) = .pointer (some ⟨g, 0, none⟩) ∧ W1.heap.size ≤ g ∧ W.heap[g]? = some (.cells Mk.zero.cells 65 (0, 0)) := hs 12 (by decide)
    clear hs
    obtain ⟨g, h12, hgl, hgc⟩ := h12
    refine wp_store_whole 65 _ _ rfl g _ _ h12 h11 65 hgc (by kernel_rfl) (Mk.all _) rfl ?_
    intro w' h1 h2
    exact hK undef w' ⟨g, by rw [upd_other _ _ (by decide)]; exact h12, hgl, h1, hB.trans (h2.below hgl hB.size)⟩
  rintro li xs0 w2 ⟨g, h12, hgl, hgc, hB2⟩ -
  simp only [h12]
  have hP2 := HP.out.below hB2 HO.out
  have d3 : w2.cell? ⟨qb, 3, none⟩ = some (.slice ao p.ends.length cap) := cell_blk hP2.blk 3
  have HP2 : Hid (PrC own w2 i qb p (.slice ao p.ends.length cap) ov) := hP2
  have HO2 : Hid (Owned own w2) := HO.out.mono hB2.size
  have HG2 : Hid (w2.heap[g]? = some (.cells (Mk.cells ⟨k, i, p.ep, L⟩) 65 (0, 0))) := hgc
  have HZ2 : Hid (w2.heap[w.heap.size]? = some (.cells Mk.zero.cells 65 (0, 0))) := (hB2.block _ hwl).trans HZ.out
  have HS2 : Hid (Step (OfP i) own own w w2) := HS.out.trans (Step.of_below hB2 HO.out)
  clear hP2 hgc h12 hB2
  go_wp2_with (first | (refine wpList_rowI rfl _ rfl k ?_ ?_; rfl) | (refine wpList_appI1 rfl _ _ rfl 0 (.slice ao p.ends.length cap) p.ends ?_ w2.heap.size k ?_ ?_ 3 ?_ ?_ ?_ ?_; rfl; rfl; exact HP2.out.ends.1.below (below_alloc _ _); exact alloc_blk _ _; omega; exact Nat.zero_le _))
  intro v' w3 hO3 hG3
  obtain ⟨a3, p3, rfl⟩ := hO3.form
  generalize hl3 : (p.ends ++ [k]).length = n3 at hO3 hG3
  have hBa := below_alloc w2 (.cells #[.int .i64 k] 3)
  have hPa := HP2.out.below hBa HO2.out
  have hSa : Step (OfP i) own own w2 (w2.alloc (.cells #[.int .i64 k] 3)) := Step.of_below hBa HO2.out
  have hSg : Step (OfP i) own (own.row (.slice a3 n3 p3) (.ends i)) (w2.alloc (.cells #[.int .i64 k] 3)) w3 := Step.gr hG3 hPa.ends.2 (.inr (.inl rfl)) (fun k hk => hPa.ends.1.low hk) (fun k hk => (hO3.lt k hk).2) hSa.new (fun k hk => hPa.ends.1.blk hk)
  have HS3 : Hid (Step (OfP i) own (own.row (.slice a3 n3 p3) (.ends i)) w w3) := (HS2.out.trans hSa).trans hSg
  have hnq : ∀ q, own q ≠ some (.ends i) → (Value.slice ao p.ends.length cap).ownBlock ≠ some q := fun q h1 e => h1 (hPa.ends.2 q e)
  have hq3 : w3.heap[qb]? = some (.cells (prC p.nm i p.ep (.slice ao p.ends.length cap) ov) 62 (0, 0)) := (hG3.block qb (lt_blk hPa.blk) (hnq qb (by rw [HP2.out.lab]; exact fun e => by cases e))).trans hPa.blk
  have hga := alloc_blk_old HG2.out (.cells #[.int .i64 k] 3)
  have hza := alloc_blk_old HZ2.out (.cells #[.int .i64 k] 3)
  have hg3 : w3.heap[g]? = some (.cells (Mk.cells ⟨k, i, p.ep, L⟩) 65 (0, 0)) := (hG3.block g (lt_blk hga) (hnq g (fun e => by have := HO.out g _ e; omega))).trans hga
  have hz3 : w3.heap[w.heap.size]? = some (.cells Mk.zero.cells 65 (0, 0)) := (hG3.block _ (lt_blk hza) (hnq _ (fun e => by have := ho _ _ e; omega))).trans hza
  have k3 : w3.cell? ⟨qb, 3, none⟩ = some (.slice ao p.ends.length cap) := cell_blk hq3 3
  have f3 : w3.frozen? ⟨qb, 3, none⟩ = false := frozen_blk hq3 3
  have k4 : w3.cell? ⟨qb, 4, none⟩ = some (.pointer ov) := cell_blk hq3 4
  have f4 : w3.frozen? ⟨qb, 4, none⟩ = false := frozen_blk hq3 4
  have hgq : g ≠ qb := by omega
  have hzq : w.heap.size ≠ qb := by omega
  have hgz : w.heap.size ≠ g := by omega
  obtain ⟨W5, hW5⟩ : ∃ W5, (w3.setCell ⟨qb, 3, none⟩ (.slice a3 n3 p3)).setCell ⟨qb, 4, none⟩ (.pointer none) = W5 := ⟨_, rfl⟩
  have HG5 : Hid (W5.heap[g]? = some (.cells (Mk.cells ⟨k, i, p.ep, L⟩) 65 (0, 0))) := by subst hW5; exact (set_blk_other _ _ hgq).trans ((set_blk_other _ _ hgq).trans hg3)
  have HZ5 : Hid (W5.heap[w.heap.size]? = some (.cells Mk.zero.cells 65 (0, 0))) := by subst hW5; exact (set_blk_other _ _ hzq).trans ((set_blk_other _ _ hzq).trans hz3)
  have HQ5 : Hid (W5.heap[qb]? = some (.cells (prC p.nm i p.ep (.slice a3 n3 p3) none) 62 (0, 0))) := by subst hW5; exact set_blk (set_blk hq3 3 (.slice a3 n3 p3)) 4 (.pointer none)
  have HF5 : Hid (Frm (· = qb) w3 W5) := by subst hW5; exact (Frm.setCell _ _ _ _).trans (Frm.setCell _ _ _ _)
  have HW5 : Hid ((w3.setCell ⟨qb, 3, none⟩ (.slice a3 n3 p3)).setCell ⟨qb, 4, none⟩ (.pointer none) = W5) := hW5
  have HE3 : Hid (OwnI w3 0 (.slice a3 n3 p3) (p.ends ++ [k])) := hO3
  have HN3 : Hid (∀ b, (Value.slice a3 n3 p3).ownBlock = some b → b ≠ qb ∧ b ≠ w.heap.size) := fun b hb => by
    have hw2 : w.heap.size < w2.heap.size := lt_blk HZ2.out
    have hal : (w2.alloc (.cells #[.int .i64 k] 3)).heap.size = w2.heap.size + 1 := by simp
    rcases hG3.own b hb with h1 | h1
    · have h2 := hPa.ends.2 b h1
      exact ⟨fun e => (by rw [e, HP2.out.lab] at h2; cases h2), fun e => (by rw [e] at h2; have := ho _ _ h2; omega)⟩
    · exact ⟨by omega, by omega⟩
  have HQ3 : Hid (w3.heap[qb]? = some (.cells (prC p.nm i p.ep (.slice ao p.ends.length cap) ov) 62 (0, 0))) := hq3
  have HLO : Hid (NoLow w3 qb) := fun z => ⟨fun e => (by rw [k3] at e; cases e), fun e => (by rw [cell_blk hq3] at e; simp [prC] at e)⟩
  clear hW5 hq3 hg3 hz3 hga hza hO3 hPa hSa hSg hG3 hBa hnq d3
  go_wp2_with (first | (refine wpList_load_agg rfl 65 (by kernel_rfl) _ rfl g (Mk.cells ⟨k, i, p.ep, L⟩) 65 (0, 0) ?_ (by rw [HW5.out]; exact HG5.out) (by kernel_rfl) ?_; rfl) | (refine wpList_store_whole rfl 65 _ _ rfl w.heap.size (Mk.cells ⟨k, i, p.ep, L⟩) Mk.zero.cells ?_ ?_ 65 (by rw [HW5.out]; exact HZ5.out) (by kernel_rfl) (Mk.all _) rfl ?_; rfl; rfl))
  rw [HW5.out]
  intro w6 h6 hK6
  go_wp2_with fail
  have hn6 : ∀ b, b ≠ w.heap.size → b < W5.heap.size → w6.heap[b]? = W5.heap[b]? := fun b h1 h2 => hK6.block b h2 h1
  have hz53 : w3.heap.size ≤ W5.heap.size := HF5.out.size
  refine bodyPost_ret (results_agg rfl _ _ w.heap.size (Mk.cells ⟨k, i, p.ep, L⟩) 65 (0, 0) rfl (by kernel_rfl) h6 (by kernel_rfl)) rfl ⟨by rw [← HL.out]; rfl, own.row (.slice a3 n3 p3) (.ends i), ⟨.slice a3 n3 p3, none, ?_⟩, ?_⟩
  · refine ⟨?_, ?_, ⟨HE3.out.same fun b hb => ?_, fun b hb => Own.row_yes hb⟩, rfl⟩
    · exact (hn6 qb (fun e => hzq e.symm) (lt_blk HQ5.out)).trans HQ5.out
    · rw [Own.row_not (fun e => (HN3.out qb e).1 rfl)]
      exact HP2.out.lab
    · have hb2 := (HE3.out.lt b hb).2
      obtain ⟨h1, h2⟩ := HN3.out b hb
      exact (hn6 b h2 (Nat.lt_of_lt_of_le hb2 hz53)).trans (HF5.out.block b hb2 h1)
  · have hl : own.row (.slice a3 n3 p3) (.ends i) qb = some (.prod i) := by rw [Own.row_not (fun e => (HN3.out qb e).1 rfl)]; exact HP2.out.lab
    have hS5 := HS3.out.trans (Step.one (P := OfP i) HF5.out hl (.inl rfl) HLO.out HS3.out.new HQ3.out)
    exact hS5.tail (hK6.below (Nat.le_refl _) hS5.size)
end Go.Proofs.Ytoihfhlelbdboab
