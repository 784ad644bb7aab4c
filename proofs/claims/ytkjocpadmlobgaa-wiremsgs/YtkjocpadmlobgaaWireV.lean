/- wire: what is sealed of a vote and of a message (VoteBody, Body). For messages of at most 2^37 bytes and 2^30 votes. -/
import Derived.Test.YtkjocpadmlobgaaWireE
namespace Go.Proofs.Ytkjocpadmlobgaa
open Go.RowKit Go.Dig Go.Inv Go.Oct

/-- what is sealed of a vote -/
def vbody (x : VoteR) : List Int := num 5 ++ sealedL x
theorem vbody_length (x : VoteR) : (vbody x).length ≤ 77 := by
  have := sealedL_length x
  have := num_length 5
  unfold vbody
  rw [List.length_append]; omega
set_option maxRecDepth 10000 in
set_option maxHeartbeats 1000000 in
theorem voteBody_any (x : VoteR) (w : World) (hx : x.wf) : Calls Try.prog 29 #[.agg x.cells] w fun e w' => ∃ v', e = .returned v' ∧ OwnB w' w.heap.size v' (vbody x) ∧ Below w.heap.size w w' := by
  have HB0 : Hid ((w.alloc (.cells x.cells 62)).heap[w.heap.size]? = some (.cells x.cells 62 (0, 0))) := alloc_blk _ _
  have hBw := below_alloc w (.cells x.cells 62)
  go_enter Try.func29, Try.ntmps29
  go_wp2_with (first | refine wpList_box_row rfl 62 _ rfl _ rfl ?_)
  have hs0 : (w.alloc (.cells x.cells 62)).heap.size = w.heap.size + 1 := by simp
  have hW := wri_new (w.alloc (.cells x.cells 62))
  have hB0 := below_alloc (w.alloc (.cells x.cells 62)) (.cells #[.slice none 0 0] 70)
  rw [hs0] at hW hB0
  generalize w.alloc (.cells x.cells 62) = w0 at *
  refine (wNums_new (w.heap.size + 1) (w.heap.size + 1) _ [] [5] (w.heap.size + 1 + 1) 1 _ hW (by simp [hs0]) ⟨inI_lit (by decide) (by decide), trivial⟩ (by decide)).mono ?_
  rintro e w1 ⟨rfl, v1, hw1, hr1⟩
  rw [nums_one, List.nil_append] at hw1
  have hB1 : Below (w.heap.size + 1) w0 w1 := hB0.trans (hr1.below (by simp [hs0]) (Nat.le_refl _) (fun k hk => by cases hk))
  have HB1 : Hid (w1.heap[w.heap.size]? = some (.cells x.cells 62 (0, 0))) := (hB1.block _ (by omega)).trans HB0.out
  have HV1 : Hid (VoteAt w1 w.heap.size 0 x) := voteAt_blk HB1.out
  have hz1 : w.heap.size + 1 ≤ w1.heap.size := by have := hB1.size; omega
  clear hr1 hW hB0
  go_wp2_with (first | refine wpList_load_vote rfl _ rfl w.heap.size 0 rfl x HV1.out ?_)
  refine (laySealed_any (w.heap.size + 1) (w.heap.size + 1) v1 _ x _ hw1 hx (by have := num_length 5; omega)).mono ?_
  rintro e w2 ⟨rfl, v2, hw2, hr2⟩
  have hB2 : Below (w.heap.size + 1) w0 w2 := hB1.trans (hr2.below hz1 (Nat.le_refl _) (fun k hk => (hw1.row.lt k hk).1))
  have hz2 : w.heap.size ≤ w2.heap.size := by have := hB2.size; omega
  clear hr2 hw1 HV1 HB1 hB1
  go_wp2_with fail
  refine (wOut_any _ _ _ _ _ hw2 (by have := vbody_length x; unfold vbody at this; omega)).mono ?_
  rintro e w3 ⟨v3, rfl, hO', hB3⟩
  have hO : OwnB w3 w.heap.size v3 (vbody x) := hO'.mono hz2
  have hB4 : Below w.heap.size w w3 := hBw.trans ((hB2.mono (by omega)).trans (hB3.mono hz2))
  obtain ⟨ao, n, c, rfl, -⟩ := hO.form
  clear hO' hB3 hB2 hw2
  go_wp2_with fail
  go_ret
  exact ⟨_, rfl, hO, hB4⟩
/-- what is sealed of a message -/
def bodyL (m : MsgR) (P : List Int) (ys : List VoteR) : List Int := nums [4, m.k, m.f, m.s, m.v] ++ num P.length ++ P ++ num ys.length ++ ys.flatMap voteL
theorem bodyL_length (m : MsgR) (P : List Int) (ys : List VoteR) : (bodyL m P ys).length ≤ P.length + 100 * ys.length + 100 := by
  have h1 := nums_length [4, m.k, m.f, m.s, m.v]
  have h2 := num_length P.length
  have h3 := num_length ys.length
  have h4 := flat_length ys
  unfold bodyL
  simp only [List.length_append]
  simp at h1
  omega
set_option maxRecDepth 10000 in
set_option maxHeartbeats 2000000 in
theorem body_any (m : MsgR) (P : List Int) (ys : List VoteR) (w : World) (h : MsgAt w m P ys) : Calls Try.prog 28 #[.agg m.cells] w fun e w' => ∃ v', e = .returned v' ∧ OwnB w' w.heap.size v' (bodyL m P ys) ∧ Below w.heap.size w w' := by
  have hB2 : Below w.heap.size w (w.alloc (.cells m.cells 27)) := below_alloc _ _
  have hb1 : (w.alloc (.cells m.cells 27)).heap[w.heap.size]? = some (.cells m.cells 27 (0, 0)) := alloc_blk _ _
  have hb2 := alloc_blk_old hb1 (.cells #[.slice none 0 0] 70)
  have hc0 : ((w.alloc (.cells m.cells 27)).alloc (.cells #[.slice none 0 0] 70)).cell? ⟨w.heap.size, 0, none⟩ = some (.int .i64 m.k) := (cell_blk hb2 _).trans m.at0
  have hc1 : ((w.alloc (.cells m.cells 27)).alloc (.cells #[.slice none 0 0] 70)).cell? ⟨w.heap.size, 1, none⟩ = some (.int .i64 m.f) := (cell_blk hb2 _).trans m.at1
  have hc3 : ((w.alloc (.cells m.cells 27)).alloc (.cells #[.slice none 0 0] 70)).cell? ⟨w.heap.size, 3, none⟩ = some (.int .i64 m.s) := (cell_blk hb2 _).trans m.at3
  have hc4 : ((w.alloc (.cells m.cells 27)).alloc (.cells #[.slice none 0 0] 70)).cell? ⟨w.heap.size, 4, none⟩ = some (.int .i64 m.v) := (cell_blk hb2 _).trans m.at4
  have HH1 : Hid (MsgAt (w.alloc (.cells m.cells 27)) m P ys) := h.below hB2 (Nat.le_refl _)
  have hs1 : (w.alloc (.cells m.cells 27)).heap.size = w.heap.size + 1 := by simp
  have HB1 : Hid ((w.alloc (.cells m.cells 27)).heap[w.heap.size]? = some (.cells m.cells 27 (0, 0))) := hb1
  clear h hb1 hb2
  go_enter Try.func28, Try.ntmps28
  go_wp2_with (refine wpList_box_row rfl 27 _ rfl _ rfl ?_)
  have HW := wri_new (w.alloc (.cells m.cells 27))
  have hBw := below_alloc (w.alloc (.cells m.cells 27)) (.cells #[.slice none 0 0] 70)
  rw [hs1] at HW hBw
  clear hc0 hc1 hc3 hc4
  generalize w.alloc (.cells m.cells 27) = w1 at *
  obtain ⟨i0, i1, -, i3, i4⟩ := HH1.out.wf
  refine (wNums_new (w.heap.size + 1) (w.heap.size + 1) _ [] [4, m.k, m.f, m.s, m.v] (w.heap.size + 1 + 1) 5 _ HW (by simp [hs1]) ⟨inI_lit (by decide) (by decide), i0, i1, i3, i4, trivial⟩ (by simp)).mono ?_
  rintro x w2 ⟨rfl, v2, hw2, hr2⟩
  have hl2 := nums_length [4, m.k, m.f, m.s, m.v]
  have hB3 : Below (w.heap.size + 1) w1 w2 := hBw.trans (hr2.below (by simp [hs1]) (Nat.le_refl _) (fun k hk => by cases hk))
  have hc5 : w2.cell? ⟨w.heap.size, 5, none⟩ = some (.slice m.va m.vl m.vc) := (cell_blk (Below.blk hB3 (Nat.lt_succ_self _) HB1.out) _).trans m.at5
  have HW2 : Hid (Wri w2 (w.heap.size + 1) (w.heap.size + 1) v2 (nums [4, m.k, m.f, m.s, m.v])) := hw2
  have hz : w1.heap.size ≤ w.heap.size + 1 := by omega
  clear HW hr2 hw2 hBw
  go_wp2_with fail
  have HH2 : Hid (MsgAt w2 m P ys) := HH1.out.below hB3 hz
  have hvb := HH1.out.vb
  have hyb := HH1.out.yb
  have ow2 : ∀ k, v2.ownBlock = some k → w.heap.size + 1 ≤ k := fun k hk => (HW2.out.row.lt k hk).1
  refine (layRowB_any (w.heap.size + 1) (w.heap.size + 1) v2 _ P m.va m.vl m.vc w2 HW2.out HH2.out.vl HH2.out.val (fun hp => apart_below HH1.out.val hp hz (Nat.le_refl _) ow2) (by simp at hl2 ⊢; omega)).mono ?_
  rintro x w3 ⟨rfl, v3, hw3, hr3⟩
  have hB4 : Below (w.heap.size + 1) w1 w3 := hB3.trans (hr3.below (by have := hB3.size; omega) (Nat.le_refl _) ow2)
  have hc6 : w3.cell? ⟨w.heap.size, 6, none⟩ = some (.slice m.ya m.yl m.yc) := (cell_blk (Below.blk hB4 (Nat.lt_succ_self _) HB1.out) _).trans m.at6
  have hln := num_length m.vl
  have hl3 : (nums [4, m.k, m.f, m.s, m.v] ++ num m.vl ++ P).length ≤ P.length + 64 := by simp only [List.length_append]; simp at hl2; omega
  have HW3 : Hid (Wri w3 (w.heap.size + 1) (w.heap.size + 1) v3 (nums [4, m.k, m.f, m.s, m.v] ++ num m.vl ++ P)) := hw3
  clear hc5 hr3 hw3 HW2 HH2 hB3 ow2 hl2 hln
  go_wp2_with fail
  have HH3 : Hid (MsgAt w3 m P ys) := HH1.out.below hB4 hz
  have ow3 : ∀ k, v3.ownBlock = some k → w.heap.size + 1 ≤ k := fun k hk => (HW3.out.row.lt k hk).1
  refine (layRowV_any (w.heap.size + 1) (w.heap.size + 1) v3 _ ys m.ya m.yl m.yc w3 HW3.out HH3.out.yl HH3.out.vot (fun hp => apart_votes HH1.out.vot hp hz (Nat.le_refl _) ow3) HH1.out.ywf (by omega)).mono ?_
  rintro x w4 ⟨rfl, v4, hw4, hr4⟩
  have hB6 : Below (w.heap.size + 1) w1 w4 := hB4.trans (hr4.below (by have := hB4.size; omega) (Nat.le_refl _) ow3)
  have HW5 : Hid (Wri w4 (w.heap.size + 1) (w.heap.size + 1) v4 (bodyL m P ys)) := by
    show Wri _ _ _ _ _
    unfold bodyL
    rw [← HH1.out.vl, ← HH1.out.yl]; exact hw4
  have hl5 := bodyL_length m P ys
  have hz4 : w.heap.size ≤ w4.heap.size := by have := hB6.size; omega
  clear hc6 hr4 hw4 HW3 HH3 hB4 ow3 hl3
  go_wp2_with fail
  refine (wOut_any _ _ _ _ _ HW5.out (by omega)).mono ?_
  rintro x w6 ⟨v6, rfl, hO6, hB7⟩
  obtain ⟨ao, n, c, rfl, -⟩ := hO6.form
  have hO : OwnB w6 w.heap.size (.slice ao n c) (bodyL m P ys) := hO6.mono hz4
  have hB9 : Below w.heap.size w w6 := hB2.trans ((hB6.mono (Nat.le_succ _)).trans (hB7.mono hz4))
  clear hO6 hB7 HW5
  go_wp2_with fail
  go_ret
  exact ⟨_, rfl, hO, hB9⟩
end Go.Proofs.Ytkjocpadmlobgaa
