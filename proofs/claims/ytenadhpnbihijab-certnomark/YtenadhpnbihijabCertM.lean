/- CertNoMark's walk. For every mark and number. -/
import Derived.Test.YtenadhpnbihijabCertK
import Derived.Deep.CutRange
namespace Go.Proofs.Ytenadhpnbihijab
open Go.RowKit Go.Dig Go.Sha Go.Inv Go.Oct

theorem markB_false {k p e t : Int} (h : markB k p e t = false) : k < 1 ∨ (1 ≤ k ∧ 3 < k) ∨ (1 ≤ k ∧ k ≤ 3 ∧ p < 0) ∨ (1 ≤ k ∧ k ≤ 3 ∧ 0 ≤ p ∧ 8 ≤ p) ∨ (1 ≤ k ∧ k ≤ 3 ∧ 0 ≤ p ∧ p < 8 ∧ e < 0) ∨ (1 ≤ k ∧ k ≤ 3 ∧ 0 ≤ p ∧ p < 8 ∧ 0 ≤ e ∧ 100 < e) ∨ (1 ≤ k ∧ k ≤ 3 ∧ 0 ≤ p ∧ p < 8 ∧ 0 ≤ e ∧ e ≤ 100 ∧ t < 0) ∨ (1 ≤ k ∧ k ≤ 3 ∧ 0 ≤ p ∧ p < 8 ∧ 0 ≤ e ∧ e ≤ 100 ∧ 0 ≤ t ∧ 100 < t) ∨ (k = 1 ∧ 0 ≤ p ∧ p < 8 ∧ 0 ≤ e ∧ e ≤ 100 ∧ 0 ≤ t ∧ t ≤ 100 ∧ t ≠ 0) := by
  by_cases h1 : k < 1
  · exact .inl h1
  by_cases h2 : 3 < k
  · exact .inr (.inl ⟨by omega, h2⟩)
  by_cases h3 : p < 0
  · exact .inr (.inr (.inl ⟨by omega, by omega, h3⟩))
  by_cases h4 : 8 ≤ p
  · exact .inr (.inr (.inr (.inl ⟨by omega, by omega, by omega, h4⟩)))
  by_cases h5 : e < 0
  · exact .inr (.inr (.inr (.inr (.inl ⟨by omega, by omega, by omega, by omega, h5⟩))))
  by_cases h6 : 100 < e
  · exact .inr (.inr (.inr (.inr (.inr (.inl ⟨by omega, by omega, by omega, by omega, by omega, h6⟩)))))
  by_cases h7 : t < 0
  · exact .inr (.inr (.inr (.inr (.inr (.inr (.inl ⟨by omega, by omega, by omega, by omega, by omega, by omega, h7⟩))))))
  by_cases h8 : 100 < t
  · exact .inr (.inr (.inr (.inr (.inr (.inr (.inr (.inl ⟨by omega, by omega, by omega, by omega, by omega, by omega, by omega, h8⟩)))))))
  by_cases h9 : k = 1 ∧ t ≠ 0
  · exact .inr (.inr (.inr (.inr (.inr (.inr (.inr (.inr ⟨h9.1, by omega, by omega, by omega, by omega, by omega, by omega, h9.2⟩)))))))
  exfalso
  have hkt : (!decide (k = 1) || decide (t = 0)) = true := by
    by_cases hk : k = 1
    · rw [decide_eq_true (show t = 0 by omega), Bool.or_true]
    · rw [decide_eq_false hk]; rfl
  have : markB k p e t = true := by
    unfold markB txnB
    rw [hkt, inB_iff.2 ⟨by omega, by omega⟩, inB_iff.2 ⟨by omega, by omega⟩, inB_iff.2 ⟨by omega, by omega⟩, inB_iff.2 ⟨by omega, by omega⟩]
    rfl
  rw [this] at h
  cases h
theorem markB_true {k p e t : Int} (h : markB k p e t = true) : (1 ≤ k ∧ k ≤ 3 ∧ 0 ≤ p ∧ p < 8 ∧ 0 ≤ e ∧ e ≤ 100 ∧ 0 ≤ t ∧ t ≤ 100) ∧ (k ≠ 1 ∨ t = 0) := by
  simp [markB, inB, txnB] at h
  omega
theorem equal_zero (w : World) : (Op.equalIn 10000 29 (.agg VoteR.zero.cells) (.agg VoteR.zero.cells)).run Try.prog w = .ok true w := by kernel_rfl
def zeroW : VoteW := ⟨VoteR.zero, ⟨⟨by decide, by decide⟩, ⟨by decide, by decide⟩, ⟨by decide, by decide⟩, ⟨by decide, by decide⟩⟩⟩
theorem zeroW_val : zeroW.1 = VoteR.zero := rfl
set_option maxRecDepth 10000 in
set_option maxHeartbeats 16000000 in
theorem certNoMark_any (k p e t f : Int) (w : World) (ik : inI k) (ip : inI p) (ie : inI e) (it : inI t) (if_ : inI f) :
    Calls Try.prog 4 #[.agg #[.int .i64 k, .int .i64 p, .int .i64 e, .int .i64 t], .int .i64 f] w fun x w' => x = .returned (.bool true) ∧ Below w.heap.size w w' := by
  have IK : Hid (inI k ∧ inI p ∧ inI e ∧ inI t ∧ inI f) := ⟨ik, ip, ie, it, if_⟩
  clear ik ip ie it if_
  go_enter Try.func4, Try.ntmps4
  go_upto_region 1 with fail
  go_cut [55] from 8 to 55 (fun c wx => c = .bool (markB k p e t) ∧ wx = w.alloc (.cells #[.int .i64 k, .int .i64 p, .int .i64 e, .int .i64 t] 36))
  case first =>
    cases hm : markB k p e t
    · rcases markB_false hm with h | h | h | h | h | h | h | h | ⟨rfl, h⟩
      all_goals
        have HM0 : Hid (markB _ _ _ _ = false) := hm
        clear hm
        go_wp2_with fail
        go_meet
        exact ⟨by first | (rw [HM0.out]; done) | (rw [HM0.out]; have ht := h.2.2.2.2.2.2; simp [ht]), rfl⟩
    · obtain ⟨⟨h1, h2, h3, h4, h5, h6, h7, h8⟩, h9⟩ := markB_true hm
      have HM0 : Hid (markB k p e t = true) := hm
      clear hm
      by_cases hk1 : k = 1
      · have ht0 : t = 0 := by omega
        subst hk1 ht0
        go_wp2_with fail
        go_meet
        exact ⟨by rw [HM0.out], rfl⟩
      · go_wp2_with fail
        go_meet
        exact ⟨by rw [HM0.out], rfl⟩
  case rest =>
    obtain ⟨rfl, rfl⟩ := hcut
    have hBw := below_alloc w (.cells #[.int .i64 k, .int .i64 p, .int .i64 e, .int .i64 t] 36)
    have hA := alloc_blk w (.cells #[.int .i64 k, .int .i64 p, .int .i64 e, .int .i64 t] 36)
    cases hm : markB k p e t
    · have HM : Hid (markB k p e t = false) := hm
      clear hm
      go_wp2_with (refine wpList_build_to rfl 26 _ rfl (row .u8 32 (oneF 1)) (by kernel_rfl) ?_)
      refine (sNew_any 4 (oneF 1) _ (by decide) (by decide)).mono ?_
      rintro x w1 ⟨rg, rfl, hrg, hR, hB1⟩
      rw [show nodesOf 4 = 4 by decide] at hR
      have HR : Hid (RingV w1 (.pointer (some ⟨rg, 0, none⟩)) ring4) := ⟨rg, rfl, hR⟩
      have hA1 := (hB1.block _ (lt_blk hA)).trans hA
      have hB2 : Below w.heap.size w w1 := hBw.trans (hB1.mono hBw.size)
      have c0 : w1.cell? ⟨w.heap.size, 0, none⟩ = some (.int .i64 k) := (cell_blk hA1 _).trans rfl
      have c1 : w1.cell? ⟨w.heap.size, 1, none⟩ = some (.int .i64 p) := (cell_blk hA1 _).trans rfl
      have c2 : w1.cell? ⟨w.heap.size, 2, none⟩ = some (.int .i64 e) := (cell_blk hA1 _).trans rfl
      have c3 : w1.cell? ⟨w.heap.size, 3, none⟩ = some (.int .i64 t) := (cell_blk hA1 _).trans rfl
      clear hR hB1
      go_wp2_with fail
      refine (markVote_any (.pointer (some ⟨rg, 0, none⟩)) ring4 k p e t f w1 HR.out IK.out.1 IK.out.2.1 IK.out.2.2.1 IK.out.2.2.2.1 IK.out.2.2.2.2).mono ?_
      rintro x w2 ⟨rfl, hB3⟩
      rw [markVoteR_no HM.out, HM.out]
      have HR2 : Hid (RingV w2 (.pointer (some ⟨rg, 0, none⟩)) ring4) := HR.out.below hB3
      have hB4 : Below w.heap.size w w2 := hB2.trans (hB3.mono hB2.size)
      have hA2 := (hB3.block _ (lt_blk hA1)).trans hA1
      have hA3 := alloc_blk_old hA2 (.cells VoteR.zero.cells 29)
      have HV : Hid (VoteAt (w2.alloc (.cells VoteR.zero.cells 29)) w2.heap.size 0 VoteR.zero) := voteAt_blk (alloc_blk _ _)
      have c0 : (w2.alloc (.cells VoteR.zero.cells 29)).cell? ⟨w.heap.size, 0, none⟩ = some (.int .i64 k) := (cell_blk hA3 _).trans rfl
      have c1 : (w2.alloc (.cells VoteR.zero.cells 29)).cell? ⟨w.heap.size, 1, none⟩ = some (.int .i64 p) := (cell_blk hA3 _).trans rfl
      have c2 : (w2.alloc (.cells VoteR.zero.cells 29)).cell? ⟨w.heap.size, 2, none⟩ = some (.int .i64 e) := (cell_blk hA3 _).trans rfl
      have c3 : (w2.alloc (.cells VoteR.zero.cells 29)).cell? ⟨w.heap.size, 3, none⟩ = some (.int .i64 t) := (cell_blk hA3 _).trans rfl
      have HI : Hid (VotesIn ((w2.alloc (.cells VoteR.zero.cells 29)).alloc (.cells (rowV [VoteR.zero, VoteR.zero, VoteR.zero]) 29)) (some ⟨w2.heap.size + 1, 0, none⟩) 3 [zeroW, zeroW, zeroW]) := by
        have := rowV_in (zs := [zeroW, zeroW, zeroW]) (alloc_blk (w2.alloc (.cells VoteR.zero.cells 29)) (.cells (rowV [VoteR.zero, VoteR.zero, VoteR.zero]) 29)) (by simp)
        rw [show (w2.alloc (.cells VoteR.zero.cells 29)).heap.size = w2.heap.size + 1 by simp] at this
        exact this
      have HB5 : Hid (Below w2.heap.size w2 ((w2.alloc (.cells VoteR.zero.cells 29)).alloc (.cells (rowV [VoteR.zero, VoteR.zero, VoteR.zero]) 29))) := (below_alloc _ _).alloc (by simp) _
      have heq := equal_zero
      clear hB3 hA1 hA2 hA3 hB2 HR
      go_wp2_with (first | refine wpList_alloc_vote rfl rfl ?_ | (refine wpList_store_vote rfl _ _ rfl w2 VoteR.zero ?_ ?_ ?_ ?_; rfl; rfl; rfl) | (refine wpList_load_voteG ?_ _ rfl w2.heap.size 0 ?_ VoteR.zero ?_ ?_; kernel_rfl; rfl; exact HV.out) | (refine wpList_rowV ?_ 3 _ rfl [VoteR.zero, VoteR.zero, VoteR.zero] rfl (by decide) (by decide) ?_ ?_; kernel_rfl; kernel_rfl) | (refine wpList_build_g ?_ 29 _ rfl VoteR.zero.cells ?_ ?_; kernel_rfl; kernel_rfl) | (refine wpList_build_g ?_ 41 _ rfl #[.int .i64 k, .int .i64 p, .int .i64 e, .int .i64 t, .slice (some ⟨(w2.alloc (.cells VoteR.zero.cells 29)).heap.size, 0, none⟩) 3 3] ?_ ?_; kernel_rfl; kernel_rfl))
      generalize (w2.alloc (.cells VoteR.zero.cells 29)).alloc (.cells (rowV [VoteR.zero, VoteR.zero, VoteR.zero]) 29) = w3 at *
      refine (accepts_any (.pointer (some ⟨rg, 0, none⟩)) ring4 k p e t (some ⟨w2.heap.size + 1, 0, none⟩) 3 [zeroW, zeroW, zeroW] w3 (HR2.out.below HB5.out) (by decide) IK.out.1 IK.out.2.1 IK.out.2.2.1 IK.out.2.2.2.1 HI.out).mono ?_
      rintro x w4 ⟨rfl, hB6⟩
      rw [show acceptsR ring4 k p e t [zeroW, zeroW, zeroW] = false by rw [acceptsR, HM.out]; rfl]
      have hB7 : Below w.heap.size w w4 := hB4.trans ((HB5.out.trans (hB6.mono HB5.out.size)).mono hB4.size)
      clear hB6 HI HB5 HR2 HV c0 c1 c2 c3 hB4
      go_wp2_with fail
      refine (known6_any w4).mono ?_
      rintro x w5 ⟨rfl, hB8⟩
      have hB9 := hB7.trans (hB8.mono hB7.size)
      clear hB8
      go_wp2_with fail
      go_ret
      exact ⟨rfl, hB9⟩
    · clear hm
      go_wp2_with fail
      refine (known6_any _).mono ?_
      rintro x w2 ⟨rfl, hB2⟩
      have hB3 := hBw.trans (hB2.mono hBw.size)
      clear hB2
      go_wp2_with fail
      go_ret
      exact ⟨rfl, hB3⟩
end Go.Proofs.Ytenadhpnbihijab
