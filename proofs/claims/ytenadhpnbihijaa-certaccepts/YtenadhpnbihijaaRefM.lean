/- The reference's marks: in, IsMark, EncodeMark, MarkVote. For every mark, node and ring. -/
import Derived.Test.YtenadhpnbihijaaRefP
import Derived.Test.YtenadhpnbihijaaCertD
namespace Go.Proofs.Ytenadhpnbihijaa
open Go.RowKit Go.Dig Go.Sha Go.Inv Go.Oct

set_option maxHeartbeats 1000000 in
theorem rIn_any (n a b : Int) (w : World) : Calls Try.prog 77 #[.int .i64 n, .int .i64 a, .int .i64 b] w fun e w' => e = .returned (.bool (inB n a b)) ∧ w' = w := by
  by_cases h : a ≤ n
  · go_enter Try.func77, Try.ntmps77
    go_wp2_with fail
    go_ret
    exact ⟨by simp [inB, h], rfl⟩
  · go_enter Try.func77, Try.ntmps77
    go_wp2_with fail
    go_ret
    exact ⟨by rw [inB, decide_eq_false (show ¬ a ≤ n by omega), Bool.false_and]; rfl, rfl⟩
set_option maxRecDepth 10000 in
set_option maxHeartbeats 2000000 in
theorem rIsMark_any (k p e t : Int) (w : World) : Calls Try.prog 62 #[.agg #[.int .i64 k, .int .i64 p, .int .i64 e, .int .i64 t]] w fun x w' => x = .returned (.bool (markB k p e t)) ∧ Below w.heap.size w w' := by
  have hBm : Below w.heap.size w (w.alloc (.cells #[.int .i64 k, .int .i64 p, .int .i64 e, .int .i64 t] 44)) := below_alloc _ _
  have HM : Hid (markB k p e t = ((!decide (k = 1) || decide (t = 0)) && inB k 1 3 && (inB p 0 7 && inB e 0 100 && inB t 0 100))) := rfl
  cases b1 : inB k 1 3
  · rw [HM.out, b1]
    clear HM
    go_enter Try.func62, Try.ntmps62
    go_wp2_with fail
    refine (rIn_any k 1 3 _).mono ?_
    rintro x w1 ⟨rfl, rfl⟩
    rw [b1]
    go_wp2_with fail
    go_ret
    exact ⟨by simp, hBm⟩
  · cases b2 : inB p 0 7
    · rw [HM.out, b2]
      clear HM
      go_enter Try.func62, Try.ntmps62
      go_wp2_with fail
      refine (rIn_any k 1 3 _).mono ?_
      rintro x w1 ⟨rfl, rfl⟩
      rw [b1]
      go_wp2_with fail
      refine (rIn_any p 0 7 _).mono ?_
      rintro x w1 ⟨rfl, rfl⟩
      rw [b2]
      go_wp2_with fail
      go_ret
      exact ⟨by simp, hBm⟩
    · cases b3 : inB e 0 100
      · rw [HM.out, b3]
        clear HM
        go_enter Try.func62, Try.ntmps62
        go_wp2_with fail
        refine (rIn_any k 1 3 _).mono ?_
        rintro x w1 ⟨rfl, rfl⟩
        rw [b1]
        go_wp2_with fail
        refine (rIn_any p 0 7 _).mono ?_
        rintro x w1 ⟨rfl, rfl⟩
        rw [b2]
        go_wp2_with fail
        refine (rIn_any e 0 100 _).mono ?_
        rintro x w1 ⟨rfl, rfl⟩
        rw [b3]
        go_wp2_with fail
        go_ret
        exact ⟨by simp, hBm⟩
      · cases b4 : inB t 0 100
        · rw [HM.out, b4]
          clear HM
          go_enter Try.func62, Try.ntmps62
          go_wp2_with fail
          refine (rIn_any k 1 3 _).mono ?_
          rintro x w1 ⟨rfl, rfl⟩
          rw [b1]
          go_wp2_with fail
          refine (rIn_any p 0 7 _).mono ?_
          rintro x w1 ⟨rfl, rfl⟩
          rw [b2]
          go_wp2_with fail
          refine (rIn_any e 0 100 _).mono ?_
          rintro x w1 ⟨rfl, rfl⟩
          rw [b3]
          go_wp2_with fail
          refine (rIn_any t 0 100 _).mono ?_
          rintro x w1 ⟨rfl, rfl⟩
          rw [b4]
          go_wp2_with fail
          go_ret
          exact ⟨by simp, hBm⟩
        · rw [HM.out, b1, b2, b3, b4]
          clear HM
          have hk : (k == 1) = decide (k = 1) := by rfl
          by_cases q : k = 1
          · subst q
            clear hk
            go_enter Try.func62, Try.ntmps62
            go_wp2_with fail
            refine (rIn_any 1 1 3 _).mono ?_
            rintro x w1 ⟨rfl, rfl⟩
            rw [b1]
            go_wp2_with fail
            refine (rIn_any p 0 7 _).mono ?_
            rintro x w1 ⟨rfl, rfl⟩
            rw [b2]
            go_wp2_with fail
            refine (rIn_any e 0 100 _).mono ?_
            rintro x w1 ⟨rfl, rfl⟩
            rw [b3]
            go_wp2_with fail
            refine (rIn_any t 0 100 _).mono ?_
            rintro x w1 ⟨rfl, rfl⟩
            rw [b4]
            go_wp2_with fail
            go_ret
            exact ⟨by simp; rfl, hBm⟩
          · have HQ : Hid (¬ k = 1) := q
            have qb : (k == 1) = false := by rw [beq_eq_false_iff_ne]; exact q
            clear q
            go_enter Try.func62, Try.ntmps62
            go_wp2_with fail
            refine (rIn_any k 1 3 _).mono ?_
            rintro x w1 ⟨rfl, rfl⟩
            rw [b1]
            go_wp2_with fail
            refine (rIn_any p 0 7 _).mono ?_
            rintro x w1 ⟨rfl, rfl⟩
            rw [b2]
            go_wp2_with fail
            refine (rIn_any e 0 100 _).mono ?_
            rintro x w1 ⟨rfl, rfl⟩
            rw [b3]
            go_wp2_with fail
            refine (rIn_any t 0 100 _).mono ?_
            rintro x w1 ⟨rfl, rfl⟩
            rw [b4]
            go_wp2_with fail
            go_ret
            exact ⟨by simp [HQ.out], hBm⟩
set_option maxRecDepth 10000 in
set_option maxHeartbeats 1000000 in
theorem rEncodeMark_any (k p e t : Int) (w : World) (ik : inI k) (ip : inI p) (ie : inI e) (it : inI t) : Calls Try.prog 42 #[.agg #[.int .i64 k, .int .i64 p, .int .i64 e, .int .i64 t]] w fun x w' => Enc (markB k p e t) (encMark k p e t) w w' x := by
  have hBm : Below w.heap.size w (w.alloc (.cells #[.int .i64 k, .int .i64 p, .int .i64 e, .int .i64 t] 44)) := below_alloc _ _
  cases hm : markB k p e t
  · go_enter Try.func42, Try.ntmps42
    go_wp2_with fail
    refine (rIsMark_any k p e t _).mono ?_
    rintro x w1 ⟨rfl, hB1⟩
    have hB2 := hBm.trans (hB1.mono hBm.size)
    rw [hm]
    clear hBm hB1
    go_wp2_with fail
    exact bodyPost_ret (results_tmp2 rfl _ _ _) rfl ⟨_, rfl, OwnB.nil _ _, hB2⟩
  · go_enter Try.func42, Try.ntmps42
    go_wp2_with fail
    refine (rIsMark_any k p e t _).mono ?_
    rintro x w1 ⟨rfl, hB1⟩
    rw [hm]
    have hb1 := (hB1.block w.heap.size (by simp)).trans (alloc_blk w _)
    have hB2 : Below w.heap.size w w1 := hBm.trans (hB1.mono hBm.size)
    have hc0 : w1.cell? ⟨w.heap.size, 0, none⟩ = some (.int .i64 k) := (cell_blk hb1 _).trans rfl
    have hc1 : w1.cell? ⟨w.heap.size, 1, none⟩ = some (.int .i64 p) := (cell_blk hb1 _).trans rfl
    have hc2 : w1.cell? ⟨w.heap.size, 2, none⟩ = some (.int .i64 e) := (cell_blk hb1 _).trans rfl
    have hc3 : w1.cell? ⟨w.heap.size, 3, none⟩ = some (.int .i64 t) := (cell_blk hb1 _).trans rfl
    have hB3 : Below w1.heap.size w1 (w1.alloc (.cells #[.int .i64 3, .int .i64 k, .int .i64 p, .int .i64 e, .int .i64 t] 3)) := below_alloc _ _
    clear hB1 hb1 hBm
    go_wp2_with fail
    refine (rNums_any [3, k, p, e, t] w1.heap.size 0 5 _ (nums_at w1 [3, k, p, e, t] _) (i64_of ⟨inI_lit (by decide) (by decide), ik, ip, ie, it, trivial⟩) (by simp)).mono ?_
    rintro x w2 ⟨v2, rfl, hO2, hB4⟩
    obtain ⟨ao, n, c, rfl, -⟩ := hO2.form
    have hB5 : Below w.heap.size w w2 := hB2.trans ((hB3.trans (hB4.mono (by simp))).mono hB2.size)
    have hO : OwnB w2 w.heap.size (.slice ao n c) (encMark k p e t) := hO2.mono (by have := hB2.size; simp; omega)
    clear hO2 hB4 hB3 hB2 hc0 hc1 hc2 hc3
    have HO : Hid _ := hO
    clear hO
    go_wp2_with fail
    exact bodyPost_ret (results_tmp2 rfl _ _ _) rfl ⟨_, rfl, HO.out, hB5⟩
set_option maxRecDepth 10000 in
set_option maxHeartbeats 1000000 in
theorem rMarkVote_any (rg n : Nat) (seed : Nat → Int) (k p e t f : Int) (w : World) (h : RRing w rg seed n) (ik : inI k) (ip : inI p) (ie : inI e) (it : inI t) (if_ : inI f) :
    Calls Try.prog 22 #[.pointer (some ⟨rg, 0, none⟩), .agg #[.int .i64 k, .int .i64 p, .int .i64 e, .int .i64 t], .int .i64 f] w fun x w' => x = .returned (.tuple #[.agg (markVoteR (some (seed, n)) k p e t f).cells, .bool (markB k p e t)]) ∧ Below w.heap.size w w' := by
  have HR : Hid (RRing w rg seed n) := h
  clear h
  have hb1 : ((w.alloc (.cells #[.int .i64 k, .int .i64 p, .int .i64 e, .int .i64 t] 44)).alloc (.cells VoteR.zero.cells 26)).heap[w.heap.size + 1]? = some (.cells VoteR.zero.cells 26 (0, 0)) := by
    have := alloc_blk (w.alloc (.cells #[.int .i64 k, .int .i64 p, .int .i64 e, .int .i64 t] 44)) (.cells VoteR.zero.cells 26)
    rwa [show (w.alloc (.cells #[.int .i64 k, .int .i64 p, .int .i64 e, .int .i64 t] 44)).heap.size = w.heap.size + 1 by simp] at this
  have HB1 : Hid _ := hb1
  have hBw : Below w.heap.size w ((w.alloc (.cells #[.int .i64 k, .int .i64 p, .int .i64 e, .int .i64 t] 44)).alloc (.cells VoteR.zero.cells 26)) := (below_alloc _ _).alloc (by simp) _
  clear hb1
  go_enter Try.func22, Try.ntmps22
  go_wp2_with (refine wpList_alloc_vote rfl rfl ?_)
  generalize (w.alloc (.cells #[.int .i64 k, .int .i64 p, .int .i64 e, .int .i64 t] 44)).alloc (.cells VoteR.zero.cells 26) = w1 at *
  refine (rEncodeMark_any k p e t w1 ik ip ie it).mono ?_
  rintro x w2 ⟨u, rfl, hO, hB2⟩
  have HC : Hid (w2.heap[w.heap.size + 1]? = some (.cells VoteR.zero.cells 26 (0, 0))) := (hB2.block _ (lt_blk HB1.out)).trans HB1.out
  have hB : Below w.heap.size w w2 := hBw.trans (hB2.mono hBw.size)
  have hz2 : w.heap.size + 1 < w2.heap.size := lt_blk HC.out
  obtain ⟨ao, l, c, rfl, hf⟩ := hO.form
  have HF : Hid _ := hf
  clear hO hf hB2 HB1
  cases hm : markB k p e t
  · simp only [hm] at HF
    go_wp2_with (first | (refine wpList_build_to rfl 26 _ rfl VoteR.zero.cells ?_ ?_; kernel_rfl) | (refine wpList_put_vote rfl _ _ rfl (w.heap.size + 1) VoteR.zero VoteR.zero ?_ ?_ 26 ?_ ?_; rfl; rfl; exact HC.out))
    intro w3 hc3 hk3
    have hB3 : Below w.heap.size w w3 := hB.trans (hk3.below (by omega) (by omega))
    clear hk3 HC hB
    go_wp2_with fail
    refine bodyPost_ret (v := .tuple #[.agg VoteR.zero.cells, .bool false]) ?_ rfl ⟨?_, hB3⟩
    · exact results_cell_tmp (p := 6) (q := 7) rfl _ _ (w.heap.size + 1) _ _ rfl rfl (load_vote_cell _ _ _ _ hc3)
    · rw [markVoteR_no hm, hm]
  · rw [hm] at HF
    obtain ⟨hn, hc, hR⟩ : l = (encMark k p e t).length ∧ (encMark k p e t).length ≤ c ∧ Rowed w2 ao (encMark k p e t) c := HF.out
    subst hn
    clear HF
    go_wp2_with fail
    refine (rValueSum_any (encMark k p e t) ao c w2 hR (by have := encMark_length k p e t; omega)).mono ?_
    rintro x w3 ⟨rfl, hB3⟩
    have HC3 : Hid (w3.heap[w.heap.size + 1]? = some (.cells VoteR.zero.cells 26 (0, 0))) := (hB3.block _ hz2).trans HC.out
    have hB4 : Below w.heap.size w w3 := hB.trans (hB3.mono hB.size)
    clear hB3 HC hB hR hc
    go_wp2_with fail
    refine (rCast_any rg n seed 3 0 0 (sha (encMark k p e t)) f w3 (HR.out.below hB4) (inI_lit (by decide) (by decide)) (inI_lit (by decide) (by decide)) (inI_lit (by decide) (by decide)) if_).mono ?_
    rintro x w4 ⟨rfl, hB5⟩
    have hmf : markF k p e t = sha (encMark k p e t) := by simp [markF, hm]
    have HC5 : Hid (w4.heap[w.heap.size + 1]? = some (.cells VoteR.zero.cells 26 (0, 0))) := (hB5.block _ (lt_blk HC3.out)).trans HC3.out
    have hB6 : Below w.heap.size w w4 := hB4.trans (hB5.mono hB4.size)
    have hz4 : w.heap.size + 1 < w4.heap.size := lt_blk HC5.out
    obtain ⟨z, hz⟩ : ∃ z, castR (some (seed, n)) 3 0 0 (sha (encMark k p e t)) f = z := ⟨_, rfl⟩
    rw [hz]
    have HZ : Hid (castR (some (seed, n)) 3 0 0 (markF k p e t) f = z) := by show _ = _; rw [hmf]; exact hz
    clear hB5 HC3 hB4 hz hmf
    go_wp2_with (refine wpList_put_vote rfl _ _ rfl (w.heap.size + 1) z VoteR.zero ?_ ?_ 26 ?_ ?_; rfl; rfl; exact HC5.out)
    intro w5 hc5 hk5
    have hB7 : Below w.heap.size w w5 := hB6.trans (hk5.below (by omega) (by omega))
    clear hk5 HC5 hB6
    go_wp2_with fail
    refine bodyPost_ret (v := .tuple #[.agg z.cells, .bool true]) ?_ rfl ⟨?_, hB7⟩
    · exact results_cell_tmp (p := 6) (q := 7) rfl _ _ (w.heap.size + 1) _ _ rfl rfl (load_vote_cell _ _ _ _ hc5)
    · rw [markVoteR_yes hm, HZ.out, hm]
end Go.Proofs.Ytenadhpnbihijaa
