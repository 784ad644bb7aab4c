/- wire's SameMsg. -/
import Derived.Test.YtkjocpadmlobgaaWireSe
import Derived.Test.YtkjocpadmlobgaaWireDk
namespace Go.Proofs.Ytkjocpadmlobgaa
open Go.RowKit Go.Dig Go.Inv Go.Oct
set_option linter.unusedVariables false

set_option maxRecDepth 10000 in
set_option maxHeartbeats 8000000 in
theorem sameMsg_any (m n : MsgR) (P Q : List Int) (ys zs : List VoteR) (w : World) (hm : MsgIn w m P ys) (hn : MsgIn w n Q zs) (hl : ys.length < 1073741824) : Calls Try.prog 15 #[.agg m.cells, .agg n.cells] w fun e w' => e = .returned (.bool (sameMsgB m n P Q ys zs)) ∧ Below w.heap.size w w' := by
  have hBm := below_alloc w (.cells m.cells 27)
  have HB : Hid (Below w.heap.size w ((w.alloc (.cells m.cells 27)).alloc (.cells n.cells 27))) := hBm.trans ((below_alloc _ _).mono (by simp))
  have hbm : ((w.alloc (.cells m.cells 27)).alloc (.cells n.cells 27)).heap[w.heap.size]? = some (.cells m.cells 27 (0, 0)) := alloc_blk_old (alloc_blk _ _) _
  have hbn : ((w.alloc (.cells m.cells 27)).alloc (.cells n.cells 27)).heap[w.heap.size + 1]? = some (.cells n.cells 27 (0, 0)) := by
    have := alloc_blk (w.alloc (.cells m.cells 27)) (.cells n.cells 27)
    simpa using this
  have a0 : ((w.alloc (.cells m.cells 27)).alloc (.cells n.cells 27)).cell? ⟨w.heap.size, 0, none⟩ = some (.int .i64 m.k) := (cell_blk hbm _).trans m.at0
  have c0 : ((w.alloc (.cells m.cells 27)).alloc (.cells n.cells 27)).cell? ⟨w.heap.size + 1, 0, none⟩ = some (.int .i64 n.k) := (cell_blk hbn _).trans n.at0
  have a1 : ((w.alloc (.cells m.cells 27)).alloc (.cells n.cells 27)).cell? ⟨w.heap.size, 1, none⟩ = some (.int .i64 m.f) := (cell_blk hbm _).trans m.at1
  have c1 : ((w.alloc (.cells m.cells 27)).alloc (.cells n.cells 27)).cell? ⟨w.heap.size + 1, 1, none⟩ = some (.int .i64 n.f) := (cell_blk hbn _).trans n.at1
  have a2 : ((w.alloc (.cells m.cells 27)).alloc (.cells n.cells 27)).cell? ⟨w.heap.size, 2, none⟩ = some (.int .i64 m.t) := (cell_blk hbm _).trans m.at2
  have c2 : ((w.alloc (.cells m.cells 27)).alloc (.cells n.cells 27)).cell? ⟨w.heap.size + 1, 2, none⟩ = some (.int .i64 n.t) := (cell_blk hbn _).trans n.at2
  have a3 : ((w.alloc (.cells m.cells 27)).alloc (.cells n.cells 27)).cell? ⟨w.heap.size, 3, none⟩ = some (.int .i64 m.s) := (cell_blk hbm _).trans m.at3
  have c3 : ((w.alloc (.cells m.cells 27)).alloc (.cells n.cells 27)).cell? ⟨w.heap.size + 1, 3, none⟩ = some (.int .i64 n.s) := (cell_blk hbn _).trans n.at3
  have a4 : ((w.alloc (.cells m.cells 27)).alloc (.cells n.cells 27)).cell? ⟨w.heap.size, 4, none⟩ = some (.int .i64 m.v) := (cell_blk hbm _).trans m.at4
  have c4 : ((w.alloc (.cells m.cells 27)).alloc (.cells n.cells 27)).cell? ⟨w.heap.size + 1, 4, none⟩ = some (.int .i64 n.v) := (cell_blk hbn _).trans n.at4
  have a5 : ((w.alloc (.cells m.cells 27)).alloc (.cells n.cells 27)).cell? ⟨w.heap.size, 5, none⟩ = some (.slice m.va m.vl m.vc) := (cell_blk hbm _).trans m.at5
  have c5 : ((w.alloc (.cells m.cells 27)).alloc (.cells n.cells 27)).cell? ⟨w.heap.size + 1, 5, none⟩ = some (.slice n.va n.vl n.vc) := (cell_blk hbn _).trans n.at5
  have a6 : ((w.alloc (.cells m.cells 27)).alloc (.cells n.cells 27)).cell? ⟨w.heap.size, 6, none⟩ = some (.slice m.ya m.yl m.yc) := (cell_blk hbm _).trans m.at6
  have c6 : ((w.alloc (.cells m.cells 27)).alloc (.cells n.cells 27)).cell? ⟨w.heap.size + 1, 6, none⟩ = some (.slice n.ya n.yl n.yc) := (cell_blk hbn _).trans n.at6
  have HP1 : Hid (Rowed ((w.alloc (.cells m.cells 27)).alloc (.cells n.cells 27)) m.va P m.vc ∧ m.vl = P.length) := ⟨hm.val.below HB.out (Nat.le_refl _), hm.vl⟩
  have HP2 : Hid (Rowed ((w.alloc (.cells m.cells 27)).alloc (.cells n.cells 27)) n.va Q n.vc ∧ n.vl = Q.length) := ⟨hn.val.below HB.out (Nat.le_refl _), hn.vl⟩
  have HBM : Hid (((w.alloc (.cells m.cells 27)).alloc (.cells n.cells 27)).heap[w.heap.size]? = some (.cells m.cells 27 (0, 0))) := hbm
  have HBN : Hid (((w.alloc (.cells m.cells 27)).alloc (.cells n.cells 27)).heap[w.heap.size + 1]? = some (.cells n.cells 27 (0, 0))) := hbn
  have HV1 : Hid (VotesAt ((w.alloc (.cells m.cells 27)).alloc (.cells n.cells 27)) m.ya ys) := hm.vot.below HB.out (Nat.le_refl _)
  have HV2 : Hid (VotesAt ((w.alloc (.cells m.cells 27)).alloc (.cells n.cells 27)) n.ya zs) := hn.vot.below HB.out (Nat.le_refl _)
  have HY1 : Hid (m.yl = ys.length) := hm.yl
  have HY2 : Hid (n.yl = zs.length) := hn.yl
  have hPb := hm.pb
  have hQb := hn.pb
  have hsz : ((w.alloc (.cells m.cells 27)).alloc (.cells n.cells 27)).heap.size = w.heap.size + 2 := by simp
  have HSZ : Hid (((w.alloc (.cells m.cells 27)).alloc (.cells n.cells 27)).heap.size = w.heap.size + 2) := hsz
  have HS : Hid (sameMsgB m n P Q ys zs = (decide (m.k = n.k) && decide (m.f = n.f) && decide (m.t = n.t) && decide (m.s = n.s) && decide (m.v = n.v) && decide (P = Q) && votesEqB ys zs && rowEq 32 m.tag n.tag)) := rfl
  clear hBm hbm hbn hm hn hsz
  by_cases e0 : m.k = n.k
  rotate_left
  · rw [HS.out, decide_eq_false e0]
    clear HS
    go_enter Try.func15, Try.ntmps15
    go_wp2_with (first | (refine wpList_box_row rfl 27 _ rfl _ ?_ ?_; rfl))
    go_ret
    exact ⟨by simp, HB.out⟩
  rw [← e0] at c0
  have E0 : Hid (m.k = n.k) := e0
  clear e0
  by_cases e1 : m.f = n.f
  rotate_left
  · rw [HS.out, decide_eq_false e1]
    clear HS
    go_enter Try.func15, Try.ntmps15
    go_wp2_with (first | (refine wpList_box_row rfl 27 _ rfl _ ?_ ?_; rfl))
    go_ret
    exact ⟨by simp, HB.out⟩
  rw [← e1] at c1
  have E1 : Hid (m.f = n.f) := e1
  clear e1
  by_cases e2 : m.t = n.t
  rotate_left
  · rw [HS.out, decide_eq_false e2]
    clear HS
    go_enter Try.func15, Try.ntmps15
    go_wp2_with (first | (refine wpList_box_row rfl 27 _ rfl _ ?_ ?_; rfl))
    go_ret
    exact ⟨by simp, HB.out⟩
  rw [← e2] at c2
  have E2 : Hid (m.t = n.t) := e2
  clear e2
  by_cases e3 : m.s = n.s
  rotate_left
  · rw [HS.out, decide_eq_false e3]
    clear HS
    go_enter Try.func15, Try.ntmps15
    go_wp2_with (first | (refine wpList_box_row rfl 27 _ rfl _ ?_ ?_; rfl))
    go_ret
    exact ⟨by simp, HB.out⟩
  rw [← e3] at c3
  have E3 : Hid (m.s = n.s) := e3
  clear e3
  by_cases e4 : m.v = n.v
  rotate_left
  · rw [HS.out, decide_eq_false e4]
    clear HS
    go_enter Try.func15, Try.ntmps15
    go_wp2_with (first | (refine wpList_box_row rfl 27 _ rfl _ ?_ ?_; rfl))
    go_ret
    exact ⟨by simp, HB.out⟩
  rw [← e4] at c4
  have E4 : Hid (m.v = n.v) := e4
  clear e4
  by_cases e5 : P = Q
  rotate_left
  · have hne : ¬ strOf P = strOf Q := fun e => e5 (strOf_inj hPb hQb e)
    have hne2 : (strOf P == strOf Q) = false := by
      cases h : (strOf P == strOf Q) with
      | false => rfl
      | true => exact absurd (ByteArray.ext (eq_of_beq (show ((strOf P).data == (strOf Q).data) = true from h))) hne
    have hne3 : ((strOf P).toList == (strOf Q).toList) = false := by rw [← beq_toListBytes]; exact hne2
    rw [HS.out, decide_eq_false e5]
    clear HS e5
    go_enter Try.func15, Try.ntmps15
    go_wp2_with (first | (refine wpList_box_row rfl 27 _ rfl _ ?_ ?_; rfl))
    refine (bytesEqual_any P Q m.va n.va m.vl n.vl m.vc n.vc _ HP1.out.1 HP2.out.1 HP1.out.2 HP2.out.2).mono ?_
    rintro e w3 ⟨rfl, rfl⟩
    rw [hne3]
    go_wp2_with fail
    go_ret
    exact ⟨by simp, HB.out⟩
  rw [← e5] at HP2
  have E5 : Hid (P = Q) := e5
  have hee : ((strOf P).toList == (strOf P).toList) = true := by simp
  clear e5 hPb hQb
  rw [HS.out, decide_eq_true E0.out, decide_eq_true E1.out, decide_eq_true E2.out, decide_eq_true E3.out, decide_eq_true E4.out, decide_eq_true E5.out]
  clear HS E0 E1 E2 E3 E4 E5
  go_enter Try.func15, Try.ntmps15
  go_wp2_with (first | (refine wpList_box_row rfl 27 _ rfl _ ?_ ?_; rfl))
  refine (bytesEqual_any P P m.va n.va m.vl n.vl m.vc n.vc _ HP1.out.1 HP2.out.1 HP1.out.2 HP2.out.2).mono ?_
  rintro e w3 ⟨rfl, rfl⟩
  rw [hee]
  go_wp2_with fail
  refine (slicesEqual_any m.ya n.ya m.yl n.yl m.yc n.yc ys zs _ HY1.out HY2.out HV1.out HV2.out hl).mono ?_
  rintro e w3 ⟨rfl, hB3⟩
  have HH1 : Hid (HashAt w3 w.heap.size 7 m.tag) := fun j hj => by rw [cell_blk ((hB3.block _ (by rw [HSZ.out]; omega)).trans HBM.out), m.atTag hj]
  have HH2 : Hid (HashAt w3 (w.heap.size + 1) 7 n.tag) := fun j hj => by rw [cell_blk ((hB3.block _ (by rw [HSZ.out]; omega)).trans HBN.out), n.atTag hj]
  have hB4 : Below w.heap.size w w3 := HB.out.trans (hB3.mono (by rw [HSZ.out]; omega))
  have heq := equalIn_hash m.tag n.tag
  cases hv : votesEqB ys zs
  · clear heq
    go_wp2_with fail
    go_ret
    exact ⟨by simp [hv], hB4⟩
  · go_wp2_with (first | (refine wpList_load_hashAt rfl rfl _ rfl w.heap.size 7 ?_ m.tag ?_ ?_; rfl; exact HH1.out) | (refine wpList_load_hashAt rfl rfl _ rfl (w.heap.size + 1) 7 ?_ n.tag ?_ ?_; rfl; exact HH2.out))
    go_ret
    exact ⟨by simp [hv], hB4⟩
end Go.Proofs.Ytkjocpadmlobgaa
