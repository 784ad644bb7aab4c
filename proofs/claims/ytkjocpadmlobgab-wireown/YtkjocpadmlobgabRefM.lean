/- The reference's marks: in, IsMark, EncodeMark, MarkVote. For every mark, node and ring. -/
import Derived.Test.YtkjocpadmlobgabRefN
import Derived.Test.YtkjocpadmlobgabWireV
namespace Go.Proofs.Ytkjocpadmlobgab
open Go.RowKit Go.Dig Go.Inv Go.Oct

set_option maxHeartbeats 1000000 in
theorem rIn_any (n a b : Int) (w : World) : Calls Try.prog 17 #[.int .i64 n, .int .i64 a, .int .i64 b] w fun e w' => e = .returned (.bool (inB n a b)) ∧ w' = w := by
  by_cases h : a ≤ n
  · go_enter Try.func17, Try.ntmps17
    go_wp2_with fail
    go_ret
    exact ⟨by simp [inB, h], rfl⟩
  · go_enter Try.func17, Try.ntmps17
    go_wp2_with fail
    go_ret
    exact ⟨by rw [inB, decide_eq_false (show ¬ a ≤ n by omega), Bool.false_and]; rfl, rfl⟩
set_option maxRecDepth 10000 in
set_option maxHeartbeats 2000000 in
theorem rIsMark_any (k p e t : Int) (w : World) : Calls Try.prog 11 #[.agg #[.int .i64 k, .int .i64 p, .int .i64 e, .int .i64 t]] w fun x w' => x = .returned (.bool (markB k p e t)) ∧ Below w.heap.size w w' := by
  have hBm : Below w.heap.size w (w.alloc (.cells #[.int .i64 k, .int .i64 p, .int .i64 e, .int .i64 t] 41)) := below_alloc _ _
  have HM : Hid (markB k p e t = ((!decide (k = 1) || decide (t = 0)) && inB k 1 3 && (inB p 0 7 && inB e 0 100 && inB t 0 100))) := rfl
  cases b1 : inB k 1 3
  · rw [HM.out, b1]
    clear HM
    go_enter Try.func11, Try.ntmps11
    go_wp2_with fail
    refine (rIn_any k 1 3 _).mono ?_
    rintro x w1 ⟨rfl, rfl⟩
    rw [b1]
    go_wp2_with fail
    go_ret
    exact ⟨by simp, hBm⟩
  · cases b2 : inB p 0 7
    · rw [HM.out, b2]
      clear HM
      go_enter Try.func11, Try.ntmps11
      go_wp2_with fail
      refine (rIn_any k 1 3 _).mono ?_
      rintro x w1 ⟨rfl, rfl⟩
      rw [b1]
      go_wp2_with fail
      refine (rIn_any p 0 7 _).mono ?_
      rintro x w1 ⟨rfl, rfl⟩
      rw [b2]
      go_wp2_with fail
      go_ret
      exact ⟨by simp, hBm⟩
    · cases b3 : inB e 0 100
      · rw [HM.out, b3]
        clear HM
        go_enter Try.func11, Try.ntmps11
        go_wp2_with fail
        refine (rIn_any k 1 3 _).mono ?_
        rintro x w1 ⟨rfl, rfl⟩
        rw [b1]
        go_wp2_with fail
        refine (rIn_any p 0 7 _).mono ?_
        rintro x w1 ⟨rfl, rfl⟩
        rw [b2]
        go_wp2_with fail
        refine (rIn_any e 0 100 _).mono ?_
        rintro x w1 ⟨rfl, rfl⟩
        rw [b3]
        go_wp2_with fail
        go_ret
        exact ⟨by simp, hBm⟩
      · cases b4 : inB t 0 100
        · rw [HM.out, b4]
          clear HM
          go_enter Try.func11, Try.ntmps11
          go_wp2_with fail
          refine (rIn_any k 1 3 _).mono ?_
          rintro x w1 ⟨rfl, rfl⟩
          rw [b1]
          go_wp2_with fail
          refine (rIn_any p 0 7 _).mono ?_
          rintro x w1 ⟨rfl, rfl⟩
          rw [b2]
          go_wp2_with fail
          refine (rIn_any e 0 100 _).mono ?_
          rintro x w1 ⟨rfl, rfl⟩
          rw [b3]
          go_wp2_with fail
          refine (rIn_any t 0 100 _).mono ?_
          rintro x w1 ⟨rfl, rfl⟩
          rw [b4]
          go_wp2_with fail
          go_ret
          exact ⟨by simp, hBm⟩
        · rw [HM.out, b1, b2, b3, b4]
          clear HM
          have hk : (k == 1) = decide (k = 1) := by rfl
          by_cases q : k = 1
          · subst q
            clear hk
            go_enter Try.func11, Try.ntmps11
            go_wp2_with fail
            refine (rIn_any 1 1 3 _).mono ?_
            rintro x w1 ⟨rfl, rfl⟩
            rw [b1]
            go_wp2_with fail
            refine (rIn_any p 0 7 _).mono ?_
            rintro x w1 ⟨rfl, rfl⟩
            rw [b2]
            go_wp2_with fail
            refine (rIn_any e 0 100 _).mono ?_
            rintro x w1 ⟨rfl, rfl⟩
            rw [b3]
            go_wp2_with fail
            refine (rIn_any t 0 100 _).mono ?_
            rintro x w1 ⟨rfl, rfl⟩
            rw [b4]
            go_wp2_with fail
            go_ret
            exact ⟨by simp; rfl, hBm⟩
          · have HQ : Hid (¬ k = 1) := q
            have qb : (k == 1) = false := by rw [beq_eq_false_iff_ne]; exact q
            clear q
            go_enter Try.func11, Try.ntmps11
            go_wp2_with fail
            refine (rIn_any k 1 3 _).mono ?_
            rintro x w1 ⟨rfl, rfl⟩
            rw [b1]
            go_wp2_with fail
            refine (rIn_any p 0 7 _).mono ?_
            rintro x w1 ⟨rfl, rfl⟩
            rw [b2]
            go_wp2_with fail
            refine (rIn_any e 0 100 _).mono ?_
            rintro x w1 ⟨rfl, rfl⟩
            rw [b3]
            go_wp2_with fail
            refine (rIn_any t 0 100 _).mono ?_
            rintro x w1 ⟨rfl, rfl⟩
            rw [b4]
            go_wp2_with fail
            go_ret
            exact ⟨by simp [HQ.out], hBm⟩
end Go.Proofs.Ytkjocpadmlobgab
