/- The reference's marks: in, IsMark, EncodeMark, MarkVote. For every mark, node and ring. -/
import Derived.Test.YtkjocpadmlobgaaRefN
import Derived.Test.YtkjocpadmlobgaaWireV
namespace Go.Proofs.Ytkjocpadmlobgaa
open Go.RowKit Go.Dig Go.Inv Go.Oct

set_option maxHeartbeats 1000000 in
theorem rIn_any (n a b : Int) (w : World) : Calls Try.prog 61 #[.int .i64 n, .int .i64 a, .int .i64 b] w fun e w' => e = .returned (.bool (inB n a b)) ∧ w' = w := by
  by_cases h : a ≤ n
  · go_enter Try.func61, Try.ntmps61
    go_wp2_with fail
    go_ret
    exact ⟨by simp [inB, h], rfl⟩
  · go_enter Try.func61, Try.ntmps61
    go_wp2_with fail
    go_ret
    exact ⟨by rw [inB, decide_eq_false (show ¬ a ≤ n by omega), Bool.false_and]; rfl, rfl⟩
set_option maxRecDepth 10000 in
set_option maxHeartbeats 2000000 in
theorem rIsMark_any (k p e t : Int) (w : World) : Calls Try.prog 27 #[.agg #[.int .i64 k, .int .i64 p, .int .i64 e, .int .i64 t]] w fun x w' => x = .returned (.bool (markB k p e t)) ∧ Below w.heap.size w w' := by
  have hBm : Below w.heap.size w (w.alloc (.cells #[.int .i64 k, .int .i64 p, .int .i64 e, .int .i64 t] 44)) := below_alloc _ _
  have HM : Hid (markB k p e t = ((!decide (k = 1) || decide (t = 0)) && inB k 1 3 && (inB p 0 7 && inB e 0 100 && inB t 0 100))) := rfl
  cases b1 : inB k 1 3
  · rw [HM.out, b1]
    clear HM
    go_enter Try.func27, Try.ntmps27
    go_wp2_with fail
    refine (rIn_any k 1 3 _).mono ?_
    rintro x w1 ⟨rfl, rfl⟩
    rw [b1]
    go_wp2_with fail
    go_ret
    exact ⟨by simp, hBm⟩
  · cases b2 : inB p 0 7
    · rw [HM.out, b2]
      clear HM
      go_enter Try.func27, Try.ntmps27
      go_wp2_with fail
      refine (rIn_any k 1 3 _).mono ?_
      rintro x w1 ⟨rfl, rfl⟩
      rw [b1]
      go_wp2_with fail
      refine (rIn_any p 0 7 _).mono ?_
      rintro x w1 ⟨rfl, rfl⟩
      rw [b2]
      go_wp2_with fail
      go_ret
      exact ⟨by simp, hBm⟩
    · cases b3 : inB e 0 100
      · rw [HM.out, b3]
        clear HM
        go_enter Try.func27, Try.ntmps27
        go_wp2_with fail
        refine (rIn_any k 1 3 _).mono ?_
        rintro x w1 ⟨rfl, rfl⟩
        rw [b1]
        go_wp2_with fail
        refine (rIn_any p 0 7 _).mono ?_
        rintro x w1 ⟨rfl, rfl⟩
        rw [b2]
        go_wp2_with fail
        refine (rIn_any e 0 100 _).mono ?_
        rintro x w1 ⟨rfl, rfl⟩
        rw [b3]
        go_wp2_with fail
        go_ret
        exact ⟨by simp, hBm⟩
      · cases b4 : inB t 0 100
        · rw [HM.out, b4]
          clear HM
          go_enter Try.func27, Try.ntmps27
          go_wp2_with fail
          refine (rIn_any k 1 3 _).mono ?_
          rintro x w1 ⟨rfl, rfl⟩
          rw [b1]
          go_wp2_with fail
          refine (rIn_any p 0 7 _).mono ?_
          rintro x w1 ⟨rfl, rfl⟩
          rw [b2]
          go_wp2_with fail
          refine (rIn_any e 0 100 _).mono ?_
          rintro x w1 ⟨rfl, rfl⟩
          rw [b3]
          go_wp2_with fail
          refine (rIn_any t 0 100 _).mono ?_
          rintro x w1 ⟨rfl, rfl⟩
          rw [b4]
          go_wp2_with fail
          go_ret
          exact ⟨by simp, hBm⟩
        · rw [HM.out, b1, b2, b3, b4]
          clear HM
          have hk : (k == 1) = decide (k = 1) := by rfl
          by_cases q : k = 1
          · subst q
            clear hk
            go_enter Try.func27, Try.ntmps27
            go_wp2_with fail
            refine (rIn_any 1 1 3 _).mono ?_
            rintro x w1 ⟨rfl, rfl⟩
            rw [b1]
            go_wp2_with fail
            refine (rIn_any p 0 7 _).mono ?_
            rintro x w1 ⟨rfl, rfl⟩
            rw [b2]
            go_wp2_with fail
            refine (rIn_any e 0 100 _).mono ?_
            rintro x w1 ⟨rfl, rfl⟩
            rw [b3]
            go_wp2_with fail
            refine (rIn_any t 0 100 _).mono ?_
            rintro x w1 ⟨rfl, rfl⟩
            rw [b4]
            go_wp2_with fail
            go_ret
            exact ⟨by simp; rfl, hBm⟩
          · have HQ : Hid (¬ k = 1) := q
            have qb : (k == 1) = false := by rw [beq_eq_false_iff_ne]; exact q
            clear q
            go_enter Try.func27, Try.ntmps27
            go_wp2_with fail
            refine (rIn_any k 1 3 _).mono ?_
            rintro x w1 ⟨rfl, rfl⟩
            rw [b1]
            go_wp2_with fail
            refine (rIn_any p 0 7 _).mono ?_
            rintro x w1 ⟨rfl, rfl⟩
            rw [b2]
            go_wp2_with fail
            refine (rIn_any e 0 100 _).mono ?_
            rintro x w1 ⟨rfl, rfl⟩
            rw [b3]
            go_wp2_with fail
            refine (rIn_any t 0 100 _).mono ?_
            rintro x w1 ⟨rfl, rfl⟩
            rw [b4]
            go_wp2_with fail
            go_ret
            exact ⟨by simp [HQ.out], hBm⟩
set_option maxRecDepth 10000 in
set_option maxHeartbeats 1000000 in
theorem rEncodeMark_any (k p e t : Int) (w : World) (ik : inI k) (ip : inI p) (ie : inI e) (it : inI t) : Calls Try.prog 22 #[.agg #[.int .i64 k, .int .i64 p, .int .i64 e, .int .i64 t]] w fun x w' => Enc (markB k p e t) (encMark k p e t) w w' x := by
  have hBm : Below w.heap.size w (w.alloc (.cells #[.int .i64 k, .int .i64 p, .int .i64 e, .int .i64 t] 44)) := below_alloc _ _
  cases hm : markB k p e t
  · go_enter Try.func22, Try.ntmps22
    go_wp2_with fail
    refine (rIsMark_any k p e t _).mono ?_
    rintro x w1 ⟨rfl, hB1⟩
    have hB2 := hBm.trans (hB1.mono hBm.size)
    rw [hm]
    clear hBm hB1
    go_wp2_with fail
    exact bodyPost_ret (results_tmp2 rfl _ _ _) rfl ⟨_, rfl, OwnB.nil _ _, hB2⟩
  · go_enter Try.func22, Try.ntmps22
    go_wp2_with fail
    refine (rIsMark_any k p e t _).mono ?_
    rintro x w1 ⟨rfl, hB1⟩
    rw [hm]
    have hb1 := (hB1.block w.heap.size (by simp)).trans (alloc_blk w _)
    have hB2 : Below w.heap.size w w1 := hBm.trans (hB1.mono hBm.size)
    have hc0 : w1.cell? ⟨w.heap.size, 0, none⟩ = some (.int .i64 k) := (cell_blk hb1 _).trans rfl
    have hc1 : w1.cell? ⟨w.heap.size, 1, none⟩ = some (.int .i64 p) := (cell_blk hb1 _).trans rfl
    have hc2 : w1.cell? ⟨w.heap.size, 2, none⟩ = some (.int .i64 e) := (cell_blk hb1 _).trans rfl
    have hc3 : w1.cell? ⟨w.heap.size, 3, none⟩ = some (.int .i64 t) := (cell_blk hb1 _).trans rfl
    have hB3 : Below w1.heap.size w1 (w1.alloc (.cells #[.int .i64 3, .int .i64 k, .int .i64 p, .int .i64 e, .int .i64 t] 3)) := below_alloc _ _
    clear hB1 hb1 hBm
    go_wp2_with fail
    refine (rNums_any [3, k, p, e, t] w1.heap.size 0 5 _ (nums_at w1 [3, k, p, e, t] _) (i64_of ⟨inI_lit (by decide) (by decide), ik, ip, ie, it, trivial⟩) (by simp)).mono ?_
    rintro x w2 ⟨v2, rfl, hO2, hB4⟩
    obtain ⟨ao, n, c, rfl, -⟩ := hO2.form
    have hB5 : Below w.heap.size w w2 := hB2.trans ((hB3.trans (hB4.mono (by simp))).mono hB2.size)
    have hO : OwnB w2 w.heap.size (.slice ao n c) (encMark k p e t) := hO2.mono (by have := hB2.size; simp; omega)
    clear hO2 hB4 hB3 hB2 hc0 hc1 hc2 hc3
    have HO : Hid _ := hO
    clear hO
    go_wp2_with fail
    exact bodyPost_ret (results_tmp2 rfl _ _ _) rfl ⟨_, rfl, HO.out, hB5⟩
end Go.Proofs.Ytkjocpadmlobgaa
