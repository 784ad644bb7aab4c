/- CertOfNothing's walk. For every vote and certificate. -/
import Derived.Test.YtenadhpnbihijaaCertK
namespace Go.Proofs.Ytenadhpnbihijaa
open Go.RowKit Go.Dig Go.Sha Go.Inv Go.Oct

theorem who_none (xs : List VoteW) : whoL none xs = [] := by
  unfold whoL
  induction xs with
  | nil => rfl
  | cons x t ih => rw [List.foldl_cons, show whoStep none [] x = [] by simp [whoStep, goodR, checkR]]; exact ih
set_option maxRecDepth 10000 in
set_option maxHeartbeats 1000000 in
theorem certOfNothing_any (y : VoteW) (k p e t : Int) (a : Option Addr) (cap : Nat) (ys : List VoteW) (w : World) (hV : VotesIn w a cap ys) :
    Calls Try.prog 7 #[.agg y.1.cells, .agg #[.int .i64 k, .int .i64 p, .int .i64 e, .int .i64 t, .slice a ys.length cap]] w fun x w' => x = .returned (.bool true) ∧ Below w.heap.size w w' := by
  have hy63 : ys.length ≤ 9223372036854775807 := by have := hV.le; have := hV.big; unfold maxLen at this; omega
  obtain ⟨w2, hw2⟩ : ∃ w2, (w.alloc (.cells y.1.cells 26)).alloc (.cells #[.int .i64 k, .int .i64 p, .int .i64 e, .int .i64 t, .slice a ys.length cap] 46) = w2 := ⟨_, rfl⟩
  have hb1 : w2.heap[w.heap.size]? = some (.cells y.1.cells 26 (0, 0)) := by rw [← hw2]; exact alloc_blk_old (alloc_blk _ _) _
  have hB2 : Below w.heap.size w w2 := by rw [← hw2]; exact (below_alloc _ _).alloc (by simp) _
  have hcl : w2.cell? ⟨w.heap.size + 1, 4, none⟩ = some (.slice a ys.length cap) := by
    have := alloc_blk (w.alloc (.cells y.1.cells 26)) (.cells #[.int .i64 k, .int .i64 p, .int .i64 e, .int .i64 t, .slice a ys.length cap] 46)
    rw [hw2, show (w.alloc (.cells y.1.cells 26)).heap.size = w.heap.size + 1 by simp] at this
    exact (cell_blk this 4).trans rfl
  have HB1 : Hid _ := hb1
  have HV1 : Hid (VoteAt w2 w.heap.size 0 y.1) := voteAt_blk hb1
  clear hb1
  go_enter Try.func7, Try.ntmps7
  by_cases hlong : 20 < ys.length
  · have hl' : (20 : Int) < (ys.length : Int) := by omega
    go_wp2_with (first | refine wpList_box_row rfl 26 _ rfl _ rfl ?_)
    go_ret
    exact ⟨rfl, hB2⟩
  · have hl' : ¬ ((20 : Int) < (ys.length : Int)) := by omega
    go_wp2_with (first | refine wpList_box_row rfl 26 _ rfl _ rfl ?_ | (refine wpList_load_vote rfl _ rfl w.heap.size 0 ?_ y.1 ?_ ?_; rfl; exact HV1.out))
    refine (good_any (.pointer none) none y.1 w2 rfl y.2).mono ?_
    rintro x w3 ⟨rfl, hB3⟩
    rw [show goodR none y.1 = false from rfl]
    have hb3 : w3.heap[w.heap.size]? = some (.cells y.1.cells 26 (0, 0)) := (hB3.block _ (lt_blk HB1.out)).trans HB1.out
    have hB4 : Below w.heap.size w w3 := hB2.trans (hB3.mono hB2.size)
    have HV3 : Hid (VoteAt w3 w.heap.size 0 y.1) := voteAt_blk hb3
    have hb4 : (w3.alloc (.cells (rowV [y.1]) 26)).heap[w.heap.size]? = some (.cells y.1.cells 26 (0, 0)) := alloc_blk_old hb3 _
    have c0 : (w3.alloc (.cells (rowV [y.1]) 26)).cell? ⟨w.heap.size, 0, none⟩ = some (.int .i64 y.1.k) := (cell_blk hb4 _).trans y.1.at0
    have c1 : (w3.alloc (.cells (rowV [y.1]) 26)).cell? ⟨w.heap.size, 1, none⟩ = some (.int .i64 y.1.s) := (cell_blk hb4 _).trans y.1.at1
    have c2 : (w3.alloc (.cells (rowV [y.1]) 26)).cell? ⟨w.heap.size, 2, none⟩ = some (.int .i64 y.1.v) := (cell_blk hb4 _).trans y.1.at2
    have HS : Hid (HashAt (w3.alloc (.cells (rowV [y.1]) 26)) w.heap.size 3 y.1.sum) := by have := (voteAt_blk hb4).sum; rw [Nat.zero_add] at this; exact this
    have HI : Hid (VotesIn (w3.alloc (.cells (rowV [y.1]) 26)) (some ⟨w3.heap.size, 0, none⟩) 1 [y]) := rowV_in (zs := [y]) (alloc_blk w3 (.cells (rowV [y.1]) 26)) (by simp)
    have HB5 : Hid (Below w3.heap.size w3 (w3.alloc (.cells (rowV [y.1]) 26))) := below_alloc _ _
    clear hb3 hb4 hB3 HV1 HB1 hcl hw2
    go_wp2_with (first | (refine wpList_load_voteG ?_ _ rfl w.heap.size 0 ?_ y.1 ?_ ?_; kernel_rfl; rfl; exact HV3.out) | (refine wpList_rowV ?_ 1 _ rfl [y.1] rfl (by decide) (by decide) ?_ ?_; kernel_rfl; kernel_rfl) | (refine wpList_load_hashG ?_ _ rfl w.heap.size 3 ?_ y.1.sum ?_ ?_; kernel_rfl; rfl; exact HS.out))
    refine (who_any (.pointer none) none (some ⟨w3.heap.size, 0, none⟩) 1 [y] y.1.k y.1.s y.1.v y.1.sum _ rfl HI.out).mono ?_
    rintro x w5 ⟨u, rfl, hO, hB5⟩
    rw [who_none] at hO
    obtain ⟨uo, uc, rfl⟩ := hO.len
    rw [show ([] : List Int).length = 0 from rfl]
    have hB6 : Below w.heap.size w w5 := hB4.trans ((HB5.out.trans (hB5.mono HB5.out.size)).mono hB4.size)
    clear c0 c1 c2 HS HI HB5 hB5 hO HV3
    go_wp2_with fail
    refine (known6_any w5).mono ?_
    rintro x w6 ⟨rfl, hB7⟩
    have hB8 : Below w.heap.size w w6 := hB6.trans (hB7.mono hB6.size)
    clear hB7
    go_wp2_with fail
    go_ret
    exact ⟨rfl, hB8⟩
end Go.Proofs.Ytenadhpnbihijaa
