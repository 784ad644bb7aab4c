/- WireApart's walk: two messages that may be, and are unlike in what is sealed, have unlike bodies; two votes, too. No condition. -/
import Derived.Test.YtkjocpadmlobgaaWireT
namespace Go.Proofs.Ytkjocpadmlobgaa
open Go.RowKit Go.Dig Go.Inv Go.Oct

set_option linter.unusedVariables false
def apartSpec (m n c : MsgR) (v d : VoteR) (A B C D : List Int) (eb ev : Bool) : Nat → Value → World → Prop
  | 0, xx, _ => xx = .agg m.cells
  | 1, xx, WW => ∃ ao k cap, xx = .slice ao k cap ∧ k = A.length ∧ Rowed WW ao A cap
  | 2, xx, _ => xx = .string (strOf A)
  | 3, xx, _ => xx = .agg n.cells
  | 4, xx, WW => ∃ ao k cap, xx = .slice ao k cap ∧ k = B.length ∧ Rowed WW ao B cap
  | 5, xx, _ => xx = .string (strOf B)
  | 6, xx, _ => xx = .bool eb
  | 7, xx, _ => xx = .agg m.cells
  | 8, xx, _ => xx = .agg c.cells
  | 9, xx, _ => xx = .bool eb
  | 10, xx, _ => xx = .bool true
  | 11, xx, _ => xx = .bool true
  | 12, xx, _ => xx = .agg v.cells
  | 13, xx, WW => ∃ ao k cap, xx = .slice ao k cap ∧ k = C.length ∧ Rowed WW ao C cap
  | 14, xx, _ => xx = .string (strOf C)
  | 15, xx, _ => xx = .agg d.cells
  | 16, xx, WW => ∃ ao k cap, xx = .slice ao k cap ∧ k = D.length ∧ Rowed WW ao D cap
  | 17, xx, _ => xx = .string (strOf D)
  | 18, xx, _ => xx = .bool ev
  | 19, xx, _ => xx = .agg v.cells
  | 20, xx, _ => xx = .agg d.cells
  | 21, xx, _ => xx = .bool ev
  | 22, xx, _ => xx = .bool true
  | 23, xx, _ => xx = .bool true
  | 24, xx, _ => xx = .bool true
  | 25, xx, _ => xx = .bool true
  | 26, xx, _ => xx = .bool true
  | 27, xx, _ => xx = .bool true
  | _, _, _ => True
set_option maxRecDepth 10000 in
set_option maxHeartbeats 8000000 in
theorem wireApart_any (m n : MsgR) (v u : VoteR) (P Q : List Int) (ys zs : List VoteR) (w : World) (hm : MsgIn w m P ys) (hn : MsgIn w n Q zs) (hv : v.wf) (hu : u.wf) (hvb : VBytes v) (hub : VBytes u) :
    Calls Try.prog 7 #[.agg m.cells, .agg n.cells, .agg v.cells, .agg u.cells] w fun e w' => e = .returned (.bool true) ∧ Below w.heap.size w w' := by
  have hB1 : Below w.heap.size w ((((w.alloc (.cells m.cells 27)).alloc (.cells n.cells 27)).alloc (.cells v.cells 62)).alloc (.cells u.cells 62)) := (((below_alloc _ _).trans ((below_alloc _ _).mono (by simp))).trans ((below_alloc _ _).mono (by simp; omega))).trans ((below_alloc _ _).mono (by simp; omega))
  have hb0 : ((((w.alloc (.cells m.cells 27)).alloc (.cells n.cells 27)).alloc (.cells v.cells 62)).alloc (.cells u.cells 62)).heap[w.heap.size]? = some (.cells m.cells 27 (0, 0)) := alloc_blk_old (alloc_blk_old (alloc_blk_old (alloc_blk _ _) _) _) _
  have hb1 : ((((w.alloc (.cells m.cells 27)).alloc (.cells n.cells 27)).alloc (.cells v.cells 62)).alloc (.cells u.cells 62)).heap[w.heap.size + 1]? = some (.cells n.cells 27 (0, 0)) := by
    have := alloc_blk_old (alloc_blk_old (alloc_blk (w.alloc (.cells m.cells 27)) (.cells n.cells 27)) (.cells v.cells 62)) (.cells u.cells 62)
    simpa using this
  have hb2 : ((((w.alloc (.cells m.cells 27)).alloc (.cells n.cells 27)).alloc (.cells v.cells 62)).alloc (.cells u.cells 62)).heap[w.heap.size + 2]? = some (.cells v.cells 62 (0, 0)) := by
    have := alloc_blk_old (alloc_blk ((w.alloc (.cells m.cells 27)).alloc (.cells n.cells 27)) (.cells v.cells 62)) (.cells u.cells 62)
    simpa using this
  have hb3 : ((((w.alloc (.cells m.cells 27)).alloc (.cells n.cells 27)).alloc (.cells v.cells 62)).alloc (.cells u.cells 62)).heap[w.heap.size + 3]? = some (.cells u.cells 62 (0, 0)) := by
    have := alloc_blk (((w.alloc (.cells m.cells 27)).alloc (.cells n.cells 27)).alloc (.cells v.cells 62)) (.cells u.cells 62)
    simpa using this
  have HB : Hid (((((w.alloc (.cells m.cells 27)).alloc (.cells n.cells 27)).alloc (.cells v.cells 62)).alloc (.cells u.cells 62)).heap[w.heap.size]? = some (.cells m.cells 27 (0, 0)) ∧ ((((w.alloc (.cells m.cells 27)).alloc (.cells n.cells 27)).alloc (.cells v.cells 62)).alloc (.cells u.cells 62)).heap[w.heap.size + 1]? = some (.cells n.cells 27 (0, 0)) ∧ ((((w.alloc (.cells m.cells 27)).alloc (.cells n.cells 27)).alloc (.cells v.cells 62)).alloc (.cells u.cells 62)).heap[w.heap.size + 2]? = some (.cells v.cells 62 (0, 0)) ∧ ((((w.alloc (.cells m.cells 27)).alloc (.cells n.cells 27)).alloc (.cells v.cells 62)).alloc (.cells u.cells 62)).heap[w.heap.size + 3]? = some (.cells u.cells 62 (0, 0))) := ⟨hb0, hb1, hb2, hb3⟩
  have HM1 : Hid (MsgIn ((((w.alloc (.cells m.cells 27)).alloc (.cells n.cells 27)).alloc (.cells v.cells 62)).alloc (.cells u.cells 62)) m P ys) := { hm with val := hm.val.below hB1 (Nat.le_refl _), vot := hm.vot.below hB1 (Nat.le_refl _) }
  have HN1 : Hid (MsgIn ((((w.alloc (.cells m.cells 27)).alloc (.cells n.cells 27)).alloc (.cells v.cells 62)).alloc (.cells u.cells 62)) n Q zs) := { hn with val := hn.val.below hB1 (Nat.le_refl _), vot := hn.vot.below hB1 (Nat.le_refl _) }
  have HB1 : Hid (Below w.heap.size w ((((w.alloc (.cells m.cells 27)).alloc (.cells n.cells 27)).alloc (.cells v.cells 62)).alloc (.cells u.cells 62))) := hB1
  have HM0 : Hid (MsgIn w m P ys) := hm
  have HN0 : Hid (MsgIn w n Q zs) := hn
  have hsz : ((((w.alloc (.cells m.cells 27)).alloc (.cells n.cells 27)).alloc (.cells v.cells 62)).alloc (.cells u.cells 62)).heap.size = w.heap.size + 4 := by simp
  clear hB1 hb0 hb1 hb2 hb3 hm hn
  go_enter Try.func7, Try.ntmps7
  go_upto_region 1 with (first | (refine wpList_box_row rfl 27 _ rfl _ ?_ ?_; rfl) | (refine wpList_box_row rfl 62 _ rfl _ ?_ ?_; rfl))
  generalize ((((w.alloc (.cells m.cells 27)).alloc (.cells n.cells 27)).alloc (.cells v.cells 62)).alloc (.cells u.cells 62)) = w1 at *
  go_wp2_with (first | (refine wpList_load_msg rfl _ rfl w.heap.size m 27 (0, 0) ?_ ?_ ?_; rfl; exact HB.out.1))
  refine (rIsMsg_any m P ys w1 HM1.out).mono ?_
  rintro e w2 ⟨rfl, hB2⟩
  have HB2 : Hid (Below (w.heap.size + 4) w1 w2) := hB2.mono (by omega)
  have hz2 : w.heap.size + 4 ≤ w2.heap.size := by have := hB2.size; omega
  have hW2 : Below w.heap.size w w2 := HB1.out.trans (hB2.mono (by omega))
  have HN2 : Hid (MsgIn w2 n Q zs) := { HN1.out with val := HN1.out.val.below hB2 (Nat.le_refl _), vot := HN1.out.vot.below hB2 (Nat.le_refl _) }
  clear hB2
  cases qm : msgB m ys
  · go_wp2_with fail
    go_ret
    exact ⟨rfl, hW2⟩
  go_wp2_with (first | (refine wpList_load_msgG rfl rfl _ rfl (w.heap.size + 1) n 27 (0, 0) ?_ ?_ ?_; rfl; exact (HB2.out.block _ (by omega)).trans HB.out.2.1))
  refine (rIsMsg_any n Q zs w2 HN2.out).mono ?_
  rintro e w3 ⟨rfl, hB3⟩
  have HB3 : Hid (Below (w.heap.size + 4) w1 w3) := HB2.out.trans (hB3.mono hz2)
  have hz3 : w.heap.size + 4 ≤ w3.heap.size := by have := hB3.size; omega
  have hW3 : Below w.heap.size w w3 := hW2.trans (hB3.mono (by omega))
  clear hB3 HN2 HB2 hW2
  cases qn : msgB n zs
  · go_wp2_with fail
    go_ret
    exact ⟨rfl, hW3⟩
  go_wp2_with (first | (refine wpList_load_voteG rfl rfl _ rfl (w.heap.size + 2) v 62 (0, 0) ?_ ?_ ?_; rfl; exact (HB3.out.block _ (by omega)).trans HB.out.2.2.1))
  refine (rIsVote_any v w3).mono ?_
  rintro e w4 ⟨rfl, hB4⟩
  have HB4 : Hid (Below (w.heap.size + 4) w1 w4) := HB3.out.trans (hB4.mono hz3)
  have hz4 : w.heap.size + 4 ≤ w4.heap.size := by have := hB4.size; omega
  have hW4 : Below w.heap.size w w4 := hW3.trans (hB4.mono (by omega))
  clear hB4 HB3 hW3
  cases qv : voteB v
  · go_wp2_with fail
    go_ret
    exact ⟨rfl, hW4⟩
  go_wp2_with (first | (refine wpList_load_voteG rfl rfl _ rfl (w.heap.size + 3) u 62 (0, 0) ?_ ?_ ?_; rfl; exact (HB4.out.block _ (by omega)).trans HB.out.2.2.2))
  refine (rIsVote_any u w4).mono ?_
  rintro e w5 ⟨rfl, hB5⟩
  have HB5 : Hid (Below (w.heap.size + 4) w1 w5) := HB4.out.trans (hB5.mono hz4)
  have hz5 : w.heap.size + 4 ≤ w5.heap.size := by have := hB5.size; omega
  have hW5 : Below w.heap.size w w5 := hW4.trans (hB5.mono (by omega))
  clear hB5 HB4 hW4
  cases qu : voteB u
  · go_wp2_with fail
    go_ret
    exact ⟨rfl, hW5⟩
  have HOM : Hid (MsgOk m P ys) := msgB_ok qm HM1.out.vl HM1.out.yl
  have HON : Hid (MsgOk n Q zs) := msgB_ok qn HN1.out.vl HN1.out.yl
  have HOV : Hid (VoteOk v) := voteB_ok qv
  have HOU : Hid (VoteOk u) := voteB_ok qu
  have HA : Hid ((w5.alloc (.cells n.cells 27)).heap[w5.heap.size]? = some (.cells n.cells 27 (0, 0))) := alloc_blk _ _
  have HB6 : Hid (Below (w.heap.size + 4) w1 (w5.alloc (.cells n.cells 27))) := HB5.out.trans ((below_alloc _ _).mono hz5)
  go_upto_region 4 with (first | (refine wpList_load_msg rfl _ rfl (w.heap.size + 1) n 27 (0, 0) ?_ ?_ ?_; rfl; exact (HB5.out.block _ (by omega)).trans HB.out.2.1) | refine wpList_alloc_msg rfl rfl ?_ | (refine wpList_store_msg rfl _ _ rfl w5 n ?_ ?_ ?_ ?_; rfl; rfl; rfl))
  have hs6 : (w5.alloc (.cells n.cells 27)).heap.size = w5.heap.size + 1 := by simp
  generalize w5.alloc (.cells n.cells 27) = w6 at *
  obtain ⟨g, hg⟩ : ∃ g, w5.heap.size = g := ⟨_, rfl⟩
  rw [hg] at HA hs6 hz5
  simp only [hg]
  have hzg : g < w6.heap.size := by omega
  have hz6 : w.heap.size + 4 ≤ w6.heap.size := by omega
  clear hg HB5 hW5 qm qn qv qu
  simp only [Act.put, List.setIfInBounds_toArray, List.set_cons_succ, List.set_cons_zero]
  refine wp_region_steps (by kernel_rfl) (by kernel_rfl) (fun xs => { tmps := (Value.agg m.cells :: Value.agg n.cells :: Value.agg v.cells :: Value.agg u.cells :: Value.pointer (some (⟨w.heap.size, 0, none⟩ : Addr)) :: Value.pointer (some (⟨w.heap.size + 1, 0, none⟩ : Addr)) :: Value.pointer (some (⟨w.heap.size + 1 + 1, 0, none⟩ : Addr)) :: Value.pointer (some (⟨w.heap.size + 1 + 1 + 1, 0, none⟩ : Addr)) :: Value.bool false :: Value.pointer (some (⟨g, 0, none⟩ : Addr)) :: Value.agg m.cells :: Value.bool true :: Value.bool false :: Value.bool false :: Value.agg n.cells :: Value.bool true :: Value.bool false :: Value.bool false :: Value.bool false :: Value.agg v.cells :: Value.bool true :: Value.bool false :: Value.bool false :: Value.bool false :: Value.agg u.cells :: Value.bool true :: Value.bool false :: Value.bool false :: Value.agg n.cells :: xs 0 :: xs 1 :: xs 2 :: xs 3 :: xs 4 :: xs 6 :: undef :: undef :: undef :: undef :: undef :: undef :: undef :: undef :: undef :: undef :: undef :: undef :: undef :: undef :: undef :: undef :: undef :: undef :: undef :: undef :: undef :: undef :: undef :: undef :: undef :: undef :: undef :: undef :: undef :: undef :: []).toArray, defers := [] }) (Wri2 w6 (w.heap.size + 4) g n m.t m.tag (fun | 0 => some (.pointer (some ⟨w.heap.size, 2, none⟩)) | 1 => some (.int .i64 m.t) | 2 => some (.pointer (some ⟨w.heap.size, 7, none⟩)) | 3 => some (.agg (row .u8 32 m.tag)) | 4 => some (.pointer (some ⟨g, 2, none⟩)) | 6 => some (.pointer (some ⟨g, 7, none⟩)) | _ => none)) (fun _ => undef) (by repeat (first | exact trivial | refine ⟨fun _ _ => rfl, ?_⟩))
    ⟨(Below.refl _ _).drew, fun _ _ _ => rfl, Nat.le_refl _, (fun _ _ h => by cases h), HA.out, ⟨hz5, hz6⟩⟩ ⟨?_, ?_, ?_, ?_, ?_, ?_, ?_, ?_, trivial⟩ ?_
  · intro li xs W hI hli hp K hK
    rw [if_pos (wanted_none rfl _)]
    clear hp
    go_simp
    exact hK _ _ (hI.pure _ ⟨by decide, by decide⟩ rfl)
  · intro li xs W hI hli hp K hK
    rw [if_pos (wanted_none rfl _)]
    have f0 : xs 0 = .pointer (some ⟨w.heap.size, 2, none⟩) := hI.det 0 _ (hp.1 rfl) rfl
    clear hp
    have hc : W.cell? ⟨w.heap.size, 2, none⟩ = some (.int .i64 m.t) := (cell_blk ((hI.keep _ (by omega) (by omega)).trans ((HB6.out.block _ (by omega)).trans HB.out.1)) _).trans m.at2
    simp only [f0] at hK ⊢
    clear f0
    go_simp
    exact hK _ _ (hI.pure _ ⟨by decide, by decide⟩ rfl)
  · intro li xs W hI hli hp K hK
    rw [if_pos (wanted_none rfl _)]
    clear hp
    go_simp
    exact hK _ _ (hI.pure _ ⟨by decide, by decide⟩ rfl)
  · intro li xs W hI hli hp K hK
    rw [if_pos (wanted_none rfl _)]
    have f2 : xs 2 = .pointer (some ⟨w.heap.size, 7, none⟩) := hI.det 2 _ (hp.1 rfl) rfl
    exact wp_load_hash _ rfl w.heap.size 7 f2 m.tag (fun j hj => by rw [cell_blk ((hI.keep _ (by omega) (by omega)).trans ((HB6.out.block _ (by omega)).trans HB.out.1)), m.atTag hj]) (hK _ _ (hI.pure _ ⟨by decide, by decide⟩ rfl))
  · intro li xs W hI hli hp K hK
    rw [if_pos (wanted_none rfl _)]
    clear hp
    go_simp
    exact hK _ _ (hI.pure _ ⟨by decide, by decide⟩ rfl)
  · intro li xs W hI hli hp K hK
    rw [if_pos (wanted_none rfl _)]
    have f1 : xs 1 = .int .i64 m.t := hI.det 1 _ (hp.2.1 rfl) rfl
    have f4 : xs 4 = .pointer (some ⟨g, 2, none⟩) := hI.det 4 _ (hp.1 rfl) rfl
    clear hp
    obtain ⟨y, hc⟩ : ∃ y, W.cell? ⟨g, 2, none⟩ = some y := by rw [cell_blk hI.m]; exact ⟨_, MsgR.at2 _⟩
    have hf := frozen_blk hI.m 2
    simp only [f1, f4] at hK ⊢
    clear f1 f4
    go_simp
    refine hK undef _ (hI.put undef rfl ((Keeps.refl _ _).setCell _ _) ?_)
    rw [upd_same, upd_other _ _ (by decide), set_blk hI.m, MsgR.set_to]; rfl
  · intro li xs W hI hli hp K hK
    rw [if_pos (wanted_none rfl _)]
    clear hp
    go_simp
    exact hK _ _ (hI.pure _ ⟨by decide, by decide⟩ rfl)
  · intro li xs W hI hli hp K hK
    rw [if_pos (wanted_none rfl _)]
    have f3 : xs 3 = .agg (row .u8 32 m.tag) := hI.det 3 _ (hp.2.1 rfl) rfl
    have f6 : xs 6 = .pointer (some ⟨g, 7, none⟩) := hI.det 6 _ (hp.1 rfl) rfl
    refine wp_store_tagM _ _ rfl g m.tag _ f6 f3 27 hI.m (fun w' h1 h2 => hK _ _ (hI.put _ rfl h2 ?_))
    rw [upd_same, upd_other _ _ (by decide)]; exact h1
  rintro li xs w7 hI hall
  have hgb := hI.m
  rw [hall 5 (by decide), hall 7 (by decide)] at hgb
  simp only [if_true] at hgb
  have HG7 : Hid (w7.heap[g]? = some (.cells ({ n with t := m.t, tag := m.tag } : MsgR).cells 27 (0, 0))) := hgb
  have HB7 : Hid (Below (w.heap.size + 4) w1 w7) := HB6.out.trans hI.bel
  have hz7 : w.heap.size + 4 ≤ w7.heap.size := by have := hI.size; omega
  generalize xs 0 = x0
  generalize xs 1 = x1
  generalize xs 2 = x2
  generalize xs 3 = x3
  generalize xs 4 = x4
  generalize xs 6 = x6
  clear hI hall hgb HA HB6
  go_wp2_with (first | (refine wpList_load_hashN rfl _ rfl (w.heap.size + 2) 36 ?_ v.tag ?_ ?_; rfl; exact (fun j hj => by rw [cell_blk ((HB7.out.block _ (by omega)).trans HB.out.2.2.1), v.atTag hj])) | (refine wpList_store_tagV rfl _ _ rfl (w.heap.size + 3) v.tag u ?_ ?_ 62 ?_ ?_; rfl; rfl; exact (HB7.out.block _ (by omega)).trans HB.out.2.2.2))
  intro w8 hb8 hk8
  have HU8 : Hid (w8.heap[w.heap.size + 3]? = some (.cells ({ u with tag := v.tag } : VoteR).cells 62 (0, 0))) := hb8
  have hz7' : g < w7.heap.size := lt_blk HG7.out
  have HG8 : Hid (w8.heap[g]? = some (.cells ({ n with t := m.t, tag := m.tag } : MsgR).cells 27 (0, 0))) := (hk8.block g hz7' (by omega)).trans HG7.out
  have HB8 : Hid (Below (w.heap.size + 3) w1 w8) := (HB7.out.mono (by omega)).trans (hk8.below (Nat.le_refl _) (by omega))
  have hz8 : w.heap.size + 4 ≤ w8.heap.size := by have := hk8.size; omega
  clear hb8 hk8 HG7 HB7 hz7'
  go_wp2_with fail
  obtain ⟨c, HC⟩ : ∃ c : MsgR, Hid (c = { n with t := m.t, tag := m.tag }) := ⟨_, rfl⟩
  obtain ⟨d, HD⟩ : ∃ d : VoteR, Hid (d = { u with tag := v.tag }) := ⟨_, rfl⟩
  rw [← HC.out] at HG8
  rw [← HD.out] at HU8
  have H0 : Hid (w8.heap[w.heap.size]? = some (.cells m.cells 27 (0, 0))) := (HB8.out.block _ (by omega)).trans HB.out.1
  have H1 : Hid (w8.heap[w.heap.size + 1]? = some (.cells n.cells 27 (0, 0))) := (HB8.out.block _ (by omega)).trans HB.out.2.1
  have H2 : Hid (w8.heap[w.heap.size + 2]? = some (.cells v.cells 62 (0, 0))) := (HB8.out.block _ (by omega)).trans HB.out.2.2.1
  have hmb := HOM.out.vb
  have hmy := HOM.out.yb
  have hnb := HON.out.vb
  have hny := HON.out.yb
  have kv := HM1.out.vl
  have ky := HM1.out.yl
  have kv' := HN1.out.vl
  have ky' := HN1.out.yl
  have hBw8 : Below w.heap.size w w8 := HB1.out.trans (HB8.out.mono (by omega))
  have HMI : Hid (∀ W, Below w8.heap.size w8 W → MsgIn W m P ys) := fun W hW => { HM0.out with val := HM0.out.val.below (hBw8.trans (hW.mono hBw8.size)) (Nat.le_refl _), vot := HM0.out.vot.below (hBw8.trans (hW.mono hBw8.size)) (Nat.le_refl _) }
  have HNI : Hid (∀ W, Below w8.heap.size w8 W → MsgIn W n Q zs) := fun W hW => { HN0.out with val := HN0.out.val.below (hBw8.trans (hW.mono hBw8.size)) (Nat.le_refl _), vot := HN0.out.vot.below (hBw8.trans (hW.mono hBw8.size)) (Nat.le_refl _) }
  have HCI : Hid (∀ W, Below w8.heap.size w8 W → MsgIn W c Q zs) := fun W hW => by rw [HC.out]; exact { HNI.out W hW with wf := ⟨(HNI.out W hW).wf.1, (HNI.out W hW).wf.2.1, HM1.out.wf.2.2.1, (HNI.out W hW).wf.2.2.2⟩, tb := HM1.out.tb }
  have HMA : Hid (MsgAt w8 m P ys) := (HMI.out w8 (Below.refl _ _)).at (by omega) (by omega)
  have HNA : Hid (MsgAt w8 n Q zs) := (HNI.out w8 (Below.refl _ _)).at (by omega) (by omega)
  have hd : d.wf := by rw [HD.out]; exact hu
  have hdb : VBytes d := by rw [HD.out]; exact fun j hj => ⟨(hub j hj).1, (hvb j hj).2⟩
  obtain ⟨A, EA⟩ : ∃ A, Hid (bodyL m P ys = A) := ⟨_, rfl⟩
  obtain ⟨B, EB⟩ : ∃ B, Hid (bodyL n Q zs = B) := ⟨_, rfl⟩
  obtain ⟨C, EC⟩ : ∃ C, Hid (vbody v = C) := ⟨_, rfl⟩
  obtain ⟨D, ED⟩ : ∃ D, Hid (vbody d = D) := ⟨_, rfl⟩
  obtain ⟨eb, HEB⟩ : ∃ eb, Hid (decide (A = B) = eb) := ⟨_, rfl⟩
  obtain ⟨ev, HEV⟩ : ∃ ev, Hid (decide (C = D) = ev) := ⟨_, rfl⟩
  have ES : Hid (sameMsgB m c P Q ys zs = eb) := by show _ = _; rw [HC.out, sameMsg_body HOM.out HON.out, EA.out, EB.out, HEB.out]
  have EV : Hid (voteEqB v d = ev) := by
    show _ = _
    rw [voteEq_body HOV.out (by rw [HD.out]; exact HOU.out) (by rw [HD.out]), EC.out, ED.out, HEV.out]
  have SB : Hid ((strOf A == strOf B) = eb ∧ ((strOf A).toList == (strOf B).toList) = eb) := by
    have h1 : (strOf A == strOf B) = eb := by rw [strOf_beq (by rw [← EA.out]; exact bodyL_bytes HM1.out.pb HM1.out.yb) (by rw [← EB.out]; exact bodyL_bytes HN1.out.pb HN1.out.yb), HEB.out]
    exact ⟨h1, by rw [← beq_toListBytes]; exact h1⟩
  have SV : Hid ((strOf C == strOf D) = ev ∧ ((strOf C).toList == (strOf D).toList) = ev) := by
    have h1 : (strOf C == strOf D) = ev := by rw [strOf_beq (by rw [← EC.out]; exact vbody_bytes hvb) (by rw [← ED.out]; exact vbody_bytes hdb), HEV.out]
    exact ⟨h1, by rw [← beq_toListBytes]; exact h1⟩
  clear kv ky kv' ky' HC HD
  refine wp_region_growG (by kernel_rfl) (by kernel_rfl) (fun xs => { tmps := (Value.agg m.cells :: Value.agg n.cells :: Value.agg v.cells :: Value.agg u.cells :: Value.pointer (some (⟨w.heap.size, 0, none⟩ : Addr)) :: Value.pointer (some (⟨w.heap.size + 1, 0, none⟩ : Addr)) :: Value.pointer (some (⟨w.heap.size + 1 + 1, 0, none⟩ : Addr)) :: Value.pointer (some (⟨w.heap.size + 1 + 1 + 1, 0, none⟩ : Addr)) :: xs 27 :: Value.pointer (some (⟨g, 0, none⟩ : Addr)) :: Value.agg m.cells :: Value.bool true :: Value.bool false :: Value.bool false :: Value.agg n.cells :: Value.bool true :: Value.bool false :: Value.bool false :: Value.bool false :: Value.agg v.cells :: Value.bool true :: Value.bool false :: Value.bool false :: Value.bool false :: Value.agg u.cells :: Value.bool true :: Value.bool false :: Value.bool false :: Value.agg n.cells :: x0 :: x1 :: x2 :: x3 :: x4 :: x6 :: Value.pointer (some (⟨w.heap.size + 1 + 1, 36, none⟩ : Addr)) :: Value.agg (row IntKind.u8 32 v.tag) :: Value.pointer (some (⟨w.heap.size + 1 + 1 + 1, 36, none⟩ : Addr)) :: xs 0 :: xs 1 :: xs 2 :: xs 3 :: xs 4 :: xs 5 :: xs 6 :: xs 7 :: xs 8 :: xs 9 :: xs 10 :: xs 11 :: xs 12 :: xs 13 :: xs 14 :: xs 15 :: xs 16 :: xs 17 :: xs 18 :: xs 19 :: xs 20 :: xs 21 :: xs 22 :: xs 23 :: xs 24 :: xs 25 :: xs 26 :: []).toArray, defers := [] })
    (apartSpec m n c v d A B C D eb ev) (fun | 27 => .bool false | _ => undef) (by repeat (first | exact trivial | refine ⟨fun _ _ => rfl, ?_⟩)) (by
      intro i y w w' h hs
      unfold apartSpec at *
      split at hs <;> first | exact hs | exact trivial | (obtain ⟨ao, n, cap, e1, e2, e3⟩ := hs; exact ⟨ao, n, cap, e1, e2, e3.below h (Nat.le_refl _)⟩)) ⟨?_, ?_, ?_, ?_, ?_, ?_, ?_, ?_, ?_, ?_, ?_, ?_, ?_, ?_, ?_, ?_, ?_, ?_, ?_, ?_, ?_, ?_, ?_, ?_, ?_, ?_, ?_, ?_, trivial⟩ ?_
  · intro xs W hB hp K hK
    rw [if_pos (wanted_none rfl _)]
    clear hp
    exact wp_load_msg _ rfl w.heap.size m 27 (0, 0) rfl ((hB.block _ (lt_blk H0.out)).trans H0.out) (hK _ _ (Below.refl _ _) rfl)
  · intro xs W hB hp K hK
    rw [if_pos (wanted_none rfl _)]
    have h0 : xs 0 = .agg m.cells := hp.1 rfl
    clear hp
    simp only [h0] at hK ⊢
    clear h0
    go_simp
    refine (body_any m P ys W (HMA.out.below hB (Nat.le_refl _))).mono ?_
    rintro e w' ⟨v', rfl, hO, hB'⟩
    rw [EA.out] at hO
    obtain ⟨ao9, k9, c9, rfl, HF9⟩ := hO.form
    exact hK _ _ hB' ⟨ao9, k9, c9, rfl, HF9.out.1, HF9.out.2.2⟩
  · intro xs W hB hp K hK
    rw [if_pos (wanted_none rfl _)]
    have h1 : ∃ ao k cap, (xs 1) = .slice ao k cap ∧ k = A.length ∧ Rowed W ao A cap := hp.1 rfl
    clear hp
    obtain ⟨ao9, k9, c9, e9, hn9, hR9⟩ := h1
    simp only [e9] at hK ⊢
    have hcv := conv_str hR9 hn9
    clear e9 hR9 hn9
    go_simp
    exact hK _ _ (Below.refl _ _) rfl
  · intro xs W hB hp K hK
    rw [if_pos (wanted_none rfl _)]
    clear hp
    exact wp_load_msg _ rfl (w.heap.size + 1) n 27 (0, 0) rfl ((hB.block _ (lt_blk H1.out)).trans H1.out) (hK _ _ (Below.refl _ _) rfl)
  · intro xs W hB hp K hK
    rw [if_pos (wanted_none rfl _)]
    have h3 : xs 3 = .agg n.cells := hp.1 rfl
    clear hp
    simp only [h3] at hK ⊢
    clear h3
    go_simp
    refine (body_any n Q zs W (HNA.out.below hB (Nat.le_refl _))).mono ?_
    rintro e w' ⟨v', rfl, hO, hB'⟩
    rw [EB.out] at hO
    obtain ⟨ao9, k9, c9, rfl, HF9⟩ := hO.form
    exact hK _ _ hB' ⟨ao9, k9, c9, rfl, HF9.out.1, HF9.out.2.2⟩
  · intro xs W hB hp K hK
    rw [if_pos (wanted_none rfl _)]
    have h4 : ∃ ao k cap, (xs 4) = .slice ao k cap ∧ k = B.length ∧ Rowed W ao B cap := hp.1 rfl
    clear hp
    obtain ⟨ao9, k9, c9, e9, hn9, hR9⟩ := h4
    simp only [e9] at hK ⊢
    have hcv := conv_str hR9 hn9
    clear e9 hR9 hn9
    go_simp
    exact hK _ _ (Below.refl _ _) rfl
  · intro xs W hB hp K hK
    rw [if_pos (wanted_none rfl _)]
    have h2 : xs 2 = .string (strOf A) := hp.1 rfl
    have h5 : xs 5 = .string (strOf B) := hp.2.1 rfl
    clear hp
    have q1 := SB.out.1
    have q2 := SB.out.2
    simp only [h2, h5] at hK ⊢
    clear h2 h5
    go_simp
    exact hK _ _ (Below.refl _ _) rfl
  · intro xs W hB hp K hK
    rw [if_pos (wanted_none rfl _)]
    clear hp
    exact wp_load_msg _ rfl w.heap.size m 27 (0, 0) rfl ((hB.block _ (lt_blk H0.out)).trans H0.out) (hK _ _ (Below.refl _ _) rfl)
  · intro xs W hB hp K hK
    rw [if_pos (wanted_none rfl _)]
    clear hp
    exact wp_load_msg _ rfl g c 27 (0, 0) rfl ((hB.block _ (lt_blk HG8.out)).trans HG8.out) (hK _ _ (Below.refl _ _) rfl)
  · intro xs W hB hp K hK
    rw [if_pos (wanted_none rfl _)]
    have h7 : xs 7 = .agg m.cells := hp.1 rfl
    have h8 : xs 8 = .agg c.cells := hp.2.1 rfl
    clear hp
    simp only [h7, h8] at hK ⊢
    clear h7 h8
    go_simp
    refine (rSameMsg_any m c P Q ys zs W (HMI.out W hB) (HCI.out W hB) (by omega)).mono ?_
    rintro e w' ⟨rfl, hB'⟩
    rw [ES.out]
    exact hK _ _ hB' rfl
  · intro xs W hB hp K hK
    rw [if_pos (wanted_none rfl _)]
    have h6 : xs 6 = .bool eb := hp.1 rfl
    have h9 : xs 9 = .bool eb := hp.2.1 rfl
    clear hp
    simp only [h6, h9] at hK ⊢
    clear h6 h9
    go_simp
    exact hK _ _ (Below.refl _ _) (by first | rfl | (show Value.bool _ = _; simp; done) | (show Value.bool _ = _; simp; omega))
  · intro xs W hB hp K hK
    rw [if_pos (wanted_none rfl _)]
    have h10 : xs 10 = .bool true := hp.1 rfl
    clear hp
    simp only [h10] at hK ⊢
    clear h10
    go_simp
    exact hK _ _ (Below.refl _ _) rfl
  · intro xs W hB hp K hK
    have hgd : xs 11 = .bool true := hp.1 rfl
    rw [wanted_g (b := true) rfl (by show (match some (xs 11) with | some (.bool b) => some b | _ => none) = some true; rw [hgd])]
    rw [if_pos (show (true == true) = true from rfl)]
    clear hgd
    clear hp
    exact wp_load_voteB _ rfl (w.heap.size + 2) v 62 (0, 0) rfl ((hB.block _ (lt_blk H2.out)).trans H2.out) (hK _ _ (Below.refl _ _) rfl)
  · intro xs W hB hp K hK
    have hgd : xs 11 = .bool true := hp.2.1 rfl
    rw [wanted_g (b := true) rfl (by show (match some (xs 11) with | some (.bool b) => some b | _ => none) = some true; rw [hgd])]
    rw [if_pos (show (true == true) = true from rfl)]
    clear hgd
    have h12 : xs 12 = .agg v.cells := hp.1 rfl
    clear hp
    simp only [h12] at hK ⊢
    clear h12
    go_simp
    refine (voteBody_any v W hv).mono ?_
    rintro e w' ⟨v', rfl, hO, hB'⟩
    rw [EC.out] at hO
    obtain ⟨ao9, k9, c9, rfl, HF9⟩ := hO.form
    exact hK _ _ hB' ⟨ao9, k9, c9, rfl, HF9.out.1, HF9.out.2.2⟩
  · intro xs W hB hp K hK
    have hgd : xs 11 = .bool true := hp.2.1 rfl
    rw [wanted_g (b := true) rfl (by show (match some (xs 11) with | some (.bool b) => some b | _ => none) = some true; rw [hgd])]
    rw [if_pos (show (true == true) = true from rfl)]
    clear hgd
    have h13 : ∃ ao k cap, (xs 13) = .slice ao k cap ∧ k = C.length ∧ Rowed W ao C cap := hp.1 rfl
    clear hp
    obtain ⟨ao9, k9, c9, e9, hn9, hR9⟩ := h13
    simp only [e9] at hK ⊢
    have hcv := conv_str hR9 hn9
    clear e9 hR9 hn9
    go_simp
    exact hK _ _ (Below.refl _ _) rfl
  · intro xs W hB hp K hK
    have hgd : xs 11 = .bool true := hp.1 rfl
    rw [wanted_g (b := true) rfl (by show (match some (xs 11) with | some (.bool b) => some b | _ => none) = some true; rw [hgd])]
    rw [if_pos (show (true == true) = true from rfl)]
    clear hgd
    clear hp
    exact wp_load_voteB _ rfl (w.heap.size + 3) d 62 (0, 0) rfl ((hB.block _ (lt_blk HU8.out)).trans HU8.out) (hK _ _ (Below.refl _ _) rfl)
  · intro xs W hB hp K hK
    have hgd : xs 11 = .bool true := hp.2.2.1 rfl
    rw [wanted_g (b := true) rfl (by show (match some (xs 11) with | some (.bool b) => some b | _ => none) = some true; rw [hgd])]
    rw [if_pos (show (true == true) = true from rfl)]
    clear hgd
    have h15 : xs 15 = .agg d.cells := hp.1 rfl
    clear hp
    simp only [h15] at hK ⊢
    clear h15
    go_simp
    refine (voteBody_any d W hd).mono ?_
    rintro e w' ⟨v', rfl, hO, hB'⟩
    rw [ED.out] at hO
    obtain ⟨ao9, k9, c9, rfl, HF9⟩ := hO.form
    exact hK _ _ hB' ⟨ao9, k9, c9, rfl, HF9.out.1, HF9.out.2.2⟩
  · intro xs W hB hp K hK
    have hgd : xs 11 = .bool true := hp.2.1 rfl
    rw [wanted_g (b := true) rfl (by show (match some (xs 11) with | some (.bool b) => some b | _ => none) = some true; rw [hgd])]
    rw [if_pos (show (true == true) = true from rfl)]
    clear hgd
    have h16 : ∃ ao k cap, (xs 16) = .slice ao k cap ∧ k = D.length ∧ Rowed W ao D cap := hp.1 rfl
    clear hp
    obtain ⟨ao9, k9, c9, e9, hn9, hR9⟩ := h16
    simp only [e9] at hK ⊢
    have hcv := conv_str hR9 hn9
    clear e9 hR9 hn9
    go_simp
    exact hK _ _ (Below.refl _ _) rfl
  · intro xs W hB hp K hK
    have hgd : xs 11 = .bool true := hp.2.2.1 rfl
    rw [wanted_g (b := true) rfl (by show (match some (xs 11) with | some (.bool b) => some b | _ => none) = some true; rw [hgd])]
    rw [if_pos (show (true == true) = true from rfl)]
    clear hgd
    have h14 : xs 14 = .string (strOf C) := hp.1 rfl
    have h17 : xs 17 = .string (strOf D) := hp.2.1 rfl
    clear hp
    have q1 := SV.out.1
    have q2 := SV.out.2
    simp only [h14, h17] at hK ⊢
    clear h14 h17
    go_simp
    exact hK _ _ (Below.refl _ _) rfl
  · intro xs W hB hp K hK
    have hgd : xs 11 = .bool true := hp.1 rfl
    rw [wanted_g (b := true) rfl (by show (match some (xs 11) with | some (.bool b) => some b | _ => none) = some true; rw [hgd])]
    rw [if_pos (show (true == true) = true from rfl)]
    clear hgd
    clear hp
    exact wp_load_voteB _ rfl (w.heap.size + 2) v 62 (0, 0) rfl ((hB.block _ (lt_blk H2.out)).trans H2.out) (hK _ _ (Below.refl _ _) rfl)
  · intro xs W hB hp K hK
    have hgd : xs 11 = .bool true := hp.1 rfl
    rw [wanted_g (b := true) rfl (by show (match some (xs 11) with | some (.bool b) => some b | _ => none) = some true; rw [hgd])]
    rw [if_pos (show (true == true) = true from rfl)]
    clear hgd
    clear hp
    exact wp_load_voteB _ rfl (w.heap.size + 3) d 62 (0, 0) rfl ((hB.block _ (lt_blk HU8.out)).trans HU8.out) (hK _ _ (Below.refl _ _) rfl)
  · intro xs W hB hp K hK
    have hgd : xs 11 = .bool true := hp.2.2.1 rfl
    rw [wanted_g (b := true) rfl (by show (match some (xs 11) with | some (.bool b) => some b | _ => none) = some true; rw [hgd])]
    rw [if_pos (show (true == true) = true from rfl)]
    clear hgd
    have h19 : xs 19 = .agg v.cells := hp.1 rfl
    have h20 : xs 20 = .agg d.cells := hp.2.1 rfl
    clear hp
    have heq := equalIn_vote2 v d
    rw [EV.out] at heq
    simp only [h19, h20] at hK ⊢
    clear h19 h20
    go_simp
    exact hK _ _ (Below.refl _ _) rfl
  · intro xs W hB hp K hK
    have hgd : xs 11 = .bool true := hp.2.2.1 rfl
    rw [wanted_g (b := true) rfl (by show (match some (xs 11) with | some (.bool b) => some b | _ => none) = some true; rw [hgd])]
    rw [if_pos (show (true == true) = true from rfl)]
    clear hgd
    have h18 : xs 18 = .bool ev := hp.1 rfl
    have h21 : xs 21 = .bool ev := hp.2.1 rfl
    clear hp
    simp only [h18, h21] at hK ⊢
    clear h18 h21
    go_simp
    exact hK _ _ (Below.refl _ _) (by first | rfl | (show Value.bool _ = _; simp; done) | (show Value.bool _ = _; simp; omega))
  · intro xs W hB hp K hK
    rw [if_pos (wanted_none rfl _)]
    have h11 : xs 11 = .bool true := hp.1 rfl
    have h22 : xs 22 = .bool true := hp.2.1 rfl
    clear hp
    simp only [h11, h22] at hK ⊢
    clear h11 h22
    go_simp
    exact hK _ _ (Below.refl _ _) rfl
  · intro xs W hB hp K hK
    rw [if_pos (wanted_none rfl _)]
    have h23 : xs 23 = .bool true := hp.1 rfl
    clear hp
    simp only [h23] at hK ⊢
    clear h23
    go_simp
    exact hK _ _ (Below.refl _ _) rfl
  · intro xs W hB hp K hK
    have hgd : xs 24 = .bool true := hp.1 rfl
    rw [wanted_g (b := true) rfl (by show (match some (xs 24) with | some (.bool b) => some b | _ => none) = some true; rw [hgd])]
    rw [if_pos (show (true == true) = true from rfl)]
    clear hgd
    clear hp
    go_simp
    refine (known5_any W).mono ?_
    rintro e w' ⟨rfl, hB'⟩
    exact hK _ _ hB' rfl
  · intro xs W hB hp K hK
    rw [if_pos (wanted_none rfl _)]
    have h24 : xs 24 = .bool true := hp.1 rfl
    have h25 : xs 25 = .bool true := hp.2.1 rfl
    clear hp
    simp only [h24, h25] at hK ⊢
    clear h24 h25
    go_simp
    exact hK _ _ (Below.refl _ _) rfl
  · intro xs W hB hp K hK
    rw [if_pos (wanted_none rfl _)]
    have h26 : xs 26 = .bool true := hp.1 rfl
    clear hp
    simp only [h26] at hK ⊢
    clear h26
    go_simp
    exact hK _ _ (Below.refl _ _) rfl
  · intro xs W hB hs
    have h27 : xs 27 = .bool true := hs 27 (by simp)
    simp only [h27]
    go_wp2_with fail
    go_ret
    exact ⟨rfl, hBw8.trans (hB.mono hBw8.size)⟩
end Go.Proofs.Ytkjocpadmlobgaa
