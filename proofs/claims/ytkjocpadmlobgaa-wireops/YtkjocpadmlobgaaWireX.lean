/- The document's IsOp: may an operation be? For names of up to 2^40 bytes. -/
import Derived.Test.YtkjocpadmlobgaaWireN
import Derived.Deep.CutRange
namespace Go.Proofs.Ytkjocpadmlobgaa
open Go.RowKit Go.Dig Go.Inv Go.Oct

set_option linter.unusedVariables false
set_option linter.unusedSimpArgs false
theorem beq_eN (n : ByteArray) : (n == eN) = decide (n = eN) := by
  cases h : (n == eN) with
  | true => exact (decide_eq_true (ByteArray.ext (eq_of_beq (show (n.data == eN.data) = true from h)))).symm
  | false =>
    refine (decide_eq_false fun e => ?_).symm
    rw [e, beq_toListBytes] at h
    simp at h
set_option maxRecDepth 10000 in
set_option maxHeartbeats 8000000 in
theorem rIsOp_1 (c s : Int) (n : ByteArray) (p e t r : Int) (b : Bool) (w : World) (hn : n.size < 9223372036854775808) : Calls Try.prog 26 #[.agg (opC 1 c s n p e t r b)] w fun x w' => x = .returned (.bool (opB 1 c s n p e t r b)) ∧ Below w.heap.size w w' := by
  have hb0 : (w.alloc (.cells (opC 1 c s n p e t r b) 42)).heap[w.heap.size]? = some (.cells (opC 1 c s n p e t r b) 42 (0, 0)) := alloc_blk _ _
  have hc0 : (w.alloc (.cells (opC 1 c s n p e t r b) 42)).cell? ⟨w.heap.size, 0, none⟩ = some (.int .i64 1) := (cell_blk hb0 _).trans rfl
  have hc1 : (w.alloc (.cells (opC 1 c s n p e t r b) 42)).cell? ⟨w.heap.size, 1, none⟩ = some (.int .i64 c) := (cell_blk hb0 _).trans rfl
  have hc2 : (w.alloc (.cells (opC 1 c s n p e t r b) 42)).cell? ⟨w.heap.size, 2, none⟩ = some (.int .i64 s) := (cell_blk hb0 _).trans rfl
  have hc3 : (w.alloc (.cells (opC 1 c s n p e t r b) 42)).cell? ⟨w.heap.size, 3, none⟩ = some (.string n) := (cell_blk hb0 _).trans rfl
  have hc4 : (w.alloc (.cells (opC 1 c s n p e t r b) 42)).cell? ⟨w.heap.size, 4, none⟩ = some (.int .i64 p) := (cell_blk hb0 _).trans rfl
  have hc5 : (w.alloc (.cells (opC 1 c s n p e t r b) 42)).cell? ⟨w.heap.size, 5, none⟩ = some (.int .i64 e) := (cell_blk hb0 _).trans rfl
  have hc6 : (w.alloc (.cells (opC 1 c s n p e t r b) 42)).cell? ⟨w.heap.size, 6, none⟩ = some (.int .i64 t) := (cell_blk hb0 _).trans rfl
  have hc7 : (w.alloc (.cells (opC 1 c s n p e t r b) 42)).cell? ⟨w.heap.size, 7, none⟩ = some (.int .i64 r) := (cell_blk hb0 _).trans rfl
  have hc8 : (w.alloc (.cells (opC 1 c s n p e t r b) 42)).cell? ⟨w.heap.size, 8, none⟩ = some (.bool b) := (cell_blk hb0 _).trans rfl
  have HB := below_alloc w (.cells (opC 1 c s n p e t r b) 42)
  have HE : Hid ((n == eN) = decide (n = eN)) := beq_eN n
  clear hb0
  by_cases en : n = eN
  · have e0 : (n == eN) = true := by have := HE.out; rwa [decide_eq_true en] at this
    have e3 : n.toList = [] := by rw [en, ByteArray.toList_eq]; rfl
    clear en
    clear HE
    go_enter Try.func26, Try.ntmps26
    go_upto_region 1 with (refine wpList_box_row rfl 42 _ rfl _ rfl ?_)
    generalize (w.alloc (.cells (opC 1 c s n p e t r b) 42)) = w1 at *
    generalize Value.agg (opC 1 c s n p e t r b) = a0
    go_wp2_with (first | (go_at_call 61; refine (rIn_any _ _ _ _).mono ?_; rintro x w' ⟨rfl, rfl⟩) | (go_at_call 62; refine (rName_any n _ hn).mono ?_; rintro x w' ⟨rfl, rfl⟩))
    all_goals
      go_ret
      refine ⟨congrArg (fun b => Ending.returned (Value.bool b)) ?_, HB⟩
      first | (simp_all [opB, sameB, txnB, inB]; done) | (simp_all [opB, sameB, txnB, inB]; omega)
  · have e0 : (n == eN) = false := by have := HE.out; rwa [decide_eq_false en] at this
    have e3 : ¬ n.toList = [] := fun h => en (ByteArray.ext (by rw [ByteArray.toList_eq] at h; simpa [eN] using h))
    clear en
    clear HE
    go_enter Try.func26, Try.ntmps26
    go_upto_region 1 with (refine wpList_box_row rfl 42 _ rfl _ rfl ?_)
    generalize (w.alloc (.cells (opC 1 c s n p e t r b) 42)) = w1 at *
    generalize Value.agg (opC 1 c s n p e t r b) = a0
    go_wp2_with (first | (go_at_call 61; refine (rIn_any _ _ _ _).mono ?_; rintro x w' ⟨rfl, rfl⟩) | (go_at_call 62; refine (rName_any n _ hn).mono ?_; rintro x w' ⟨rfl, rfl⟩))
    all_goals
      go_ret
      refine ⟨congrArg (fun b => Ending.returned (Value.bool b)) ?_, HB⟩
      first | (simp_all [opB, sameB, txnB, inB]; done) | (simp_all [opB, sameB, txnB, inB]; omega)
set_option maxRecDepth 10000 in
set_option maxHeartbeats 8000000 in
theorem rIsOp_2 (c s : Int) (n : ByteArray) (p e t r : Int) (b : Bool) (w : World) (hn : n.size < 9223372036854775808) : Calls Try.prog 26 #[.agg (opC 2 c s n p e t r b)] w fun x w' => x = .returned (.bool (opB 2 c s n p e t r b)) ∧ Below w.heap.size w w' := by
  have hb0 : (w.alloc (.cells (opC 2 c s n p e t r b) 42)).heap[w.heap.size]? = some (.cells (opC 2 c s n p e t r b) 42 (0, 0)) := alloc_blk _ _
  have hc0 : (w.alloc (.cells (opC 2 c s n p e t r b) 42)).cell? ⟨w.heap.size, 0, none⟩ = some (.int .i64 2) := (cell_blk hb0 _).trans rfl
  have hc1 : (w.alloc (.cells (opC 2 c s n p e t r b) 42)).cell? ⟨w.heap.size, 1, none⟩ = some (.int .i64 c) := (cell_blk hb0 _).trans rfl
  have hc2 : (w.alloc (.cells (opC 2 c s n p e t r b) 42)).cell? ⟨w.heap.size, 2, none⟩ = some (.int .i64 s) := (cell_blk hb0 _).trans rfl
  have hc3 : (w.alloc (.cells (opC 2 c s n p e t r b) 42)).cell? ⟨w.heap.size, 3, none⟩ = some (.string n) := (cell_blk hb0 _).trans rfl
  have hc4 : (w.alloc (.cells (opC 2 c s n p e t r b) 42)).cell? ⟨w.heap.size, 4, none⟩ = some (.int .i64 p) := (cell_blk hb0 _).trans rfl
  have hc5 : (w.alloc (.cells (opC 2 c s n p e t r b) 42)).cell? ⟨w.heap.size, 5, none⟩ = some (.int .i64 e) := (cell_blk hb0 _).trans rfl
  have hc6 : (w.alloc (.cells (opC 2 c s n p e t r b) 42)).cell? ⟨w.heap.size, 6, none⟩ = some (.int .i64 t) := (cell_blk hb0 _).trans rfl
  have hc7 : (w.alloc (.cells (opC 2 c s n p e t r b) 42)).cell? ⟨w.heap.size, 7, none⟩ = some (.int .i64 r) := (cell_blk hb0 _).trans rfl
  have hc8 : (w.alloc (.cells (opC 2 c s n p e t r b) 42)).cell? ⟨w.heap.size, 8, none⟩ = some (.bool b) := (cell_blk hb0 _).trans rfl
  have HB := below_alloc w (.cells (opC 2 c s n p e t r b) 42)
  have HE : Hid ((n == eN) = decide (n = eN)) := beq_eN n
  clear hb0
  by_cases en : n = eN
  · have e0 : (n == eN) = true := by have := HE.out; rwa [decide_eq_true en] at this
    have e3 : n.toList = [] := by rw [en, ByteArray.toList_eq]; rfl
    clear en
    clear HE
    go_enter Try.func26, Try.ntmps26
    go_upto_region 1 with (refine wpList_box_row rfl 42 _ rfl _ rfl ?_)
    generalize (w.alloc (.cells (opC 2 c s n p e t r b) 42)) = w1 at *
    generalize Value.agg (opC 2 c s n p e t r b) = a0
    go_wp2_with (first | (go_at_call 61; refine (rIn_any _ _ _ _).mono ?_; rintro x w' ⟨rfl, rfl⟩) | (go_at_call 62; refine (rName_any n _ hn).mono ?_; rintro x w' ⟨rfl, rfl⟩))
    all_goals
      go_ret
      refine ⟨congrArg (fun b => Ending.returned (Value.bool b)) ?_, HB⟩
      first | (simp_all [opB, sameB, txnB, inB]; done) | (simp_all [opB, sameB, txnB, inB]; omega)
  · have e0 : (n == eN) = false := by have := HE.out; rwa [decide_eq_false en] at this
    have e3 : ¬ n.toList = [] := fun h => en (ByteArray.ext (by rw [ByteArray.toList_eq] at h; simpa [eN] using h))
    clear en
    clear HE
    go_enter Try.func26, Try.ntmps26
    go_upto_region 1 with (refine wpList_box_row rfl 42 _ rfl _ rfl ?_)
    generalize (w.alloc (.cells (opC 2 c s n p e t r b) 42)) = w1 at *
    generalize Value.agg (opC 2 c s n p e t r b) = a0
    go_wp2_with (first | (go_at_call 61; refine (rIn_any _ _ _ _).mono ?_; rintro x w' ⟨rfl, rfl⟩) | (go_at_call 62; refine (rName_any n _ hn).mono ?_; rintro x w' ⟨rfl, rfl⟩))
    all_goals
      go_ret
      refine ⟨congrArg (fun b => Ending.returned (Value.bool b)) ?_, HB⟩
      first | (simp_all [opB, sameB, txnB, inB]; done) | (simp_all [opB, sameB, txnB, inB]; omega)
set_option maxRecDepth 10000 in
set_option maxHeartbeats 8000000 in
theorem rIsOp_3 (c s : Int) (n : ByteArray) (p e t r : Int) (b : Bool) (w : World) (hn : n.size < 9223372036854775808) : Calls Try.prog 26 #[.agg (opC 3 c s n p e t r b)] w fun x w' => x = .returned (.bool (opB 3 c s n p e t r b)) ∧ Below w.heap.size w w' := by
  have hb0 : (w.alloc (.cells (opC 3 c s n p e t r b) 42)).heap[w.heap.size]? = some (.cells (opC 3 c s n p e t r b) 42 (0, 0)) := alloc_blk _ _
  have hc0 : (w.alloc (.cells (opC 3 c s n p e t r b) 42)).cell? ⟨w.heap.size, 0, none⟩ = some (.int .i64 3) := (cell_blk hb0 _).trans rfl
  have hc1 : (w.alloc (.cells (opC 3 c s n p e t r b) 42)).cell? ⟨w.heap.size, 1, none⟩ = some (.int .i64 c) := (cell_blk hb0 _).trans rfl
  have hc2 : (w.alloc (.cells (opC 3 c s n p e t r b) 42)).cell? ⟨w.heap.size, 2, none⟩ = some (.int .i64 s) := (cell_blk hb0 _).trans rfl
  have hc3 : (w.alloc (.cells (opC 3 c s n p e t r b) 42)).cell? ⟨w.heap.size, 3, none⟩ = some (.string n) := (cell_blk hb0 _).trans rfl
  have hc4 : (w.alloc (.cells (opC 3 c s n p e t r b) 42)).cell? ⟨w.heap.size, 4, none⟩ = some (.int .i64 p) := (cell_blk hb0 _).trans rfl
  have hc5 : (w.alloc (.cells (opC 3 c s n p e t r b) 42)).cell? ⟨w.heap.size, 5, none⟩ = some (.int .i64 e) := (cell_blk hb0 _).trans rfl
  have hc6 : (w.alloc (.cells (opC 3 c s n p e t r b) 42)).cell? ⟨w.heap.size, 6, none⟩ = some (.int .i64 t) := (cell_blk hb0 _).trans rfl
  have hc7 : (w.alloc (.cells (opC 3 c s n p e t r b) 42)).cell? ⟨w.heap.size, 7, none⟩ = some (.int .i64 r) := (cell_blk hb0 _).trans rfl
  have hc8 : (w.alloc (.cells (opC 3 c s n p e t r b) 42)).cell? ⟨w.heap.size, 8, none⟩ = some (.bool b) := (cell_blk hb0 _).trans rfl
  have HB := below_alloc w (.cells (opC 3 c s n p e t r b) 42)
  have HE : Hid ((n == eN) = decide (n = eN)) := beq_eN n
  clear hb0
  by_cases en : n = eN
  · have e0 : (n == eN) = true := by have := HE.out; rwa [decide_eq_true en] at this
    have e3 : n.toList = [] := by rw [en, ByteArray.toList_eq]; rfl
    clear en
    clear HE
    go_enter Try.func26, Try.ntmps26
    go_upto_region 1 with (refine wpList_box_row rfl 42 _ rfl _ rfl ?_)
    generalize (w.alloc (.cells (opC 3 c s n p e t r b) 42)) = w1 at *
    generalize Value.agg (opC 3 c s n p e t r b) = a0
    go_wp2_with (first | (go_at_call 61; refine (rIn_any _ _ _ _).mono ?_; rintro x w' ⟨rfl, rfl⟩) | (go_at_call 62; refine (rName_any n _ hn).mono ?_; rintro x w' ⟨rfl, rfl⟩))
    all_goals
      go_ret
      refine ⟨congrArg (fun b => Ending.returned (Value.bool b)) ?_, HB⟩
      first | (simp_all [opB, sameB, txnB, inB]; done) | (simp_all [opB, sameB, txnB, inB]; omega)
  · have e0 : (n == eN) = false := by have := HE.out; rwa [decide_eq_false en] at this
    have e3 : ¬ n.toList = [] := fun h => en (ByteArray.ext (by rw [ByteArray.toList_eq] at h; simpa [eN] using h))
    clear en
    clear HE
    go_enter Try.func26, Try.ntmps26
    go_upto_region 1 with (refine wpList_box_row rfl 42 _ rfl _ rfl ?_)
    generalize (w.alloc (.cells (opC 3 c s n p e t r b) 42)) = w1 at *
    generalize Value.agg (opC 3 c s n p e t r b) = a0
    go_wp2_with (first | (go_at_call 61; refine (rIn_any _ _ _ _).mono ?_; rintro x w' ⟨rfl, rfl⟩) | (go_at_call 62; refine (rName_any n _ hn).mono ?_; rintro x w' ⟨rfl, rfl⟩))
    all_goals
      go_ret
      refine ⟨congrArg (fun b => Ending.returned (Value.bool b)) ?_, HB⟩
      first | (simp_all [opB, sameB, txnB, inB]; done) | (simp_all [opB, sameB, txnB, inB]; omega)
set_option maxRecDepth 10000 in
set_option maxHeartbeats 8000000 in
theorem rIsOp_4 (c s : Int) (n : ByteArray) (p e t r : Int) (b : Bool) (w : World) (hn : n.size < 9223372036854775808) : Calls Try.prog 26 #[.agg (opC 4 c s n p e t r b)] w fun x w' => x = .returned (.bool (opB 4 c s n p e t r b)) ∧ Below w.heap.size w w' := by
  have hb0 : (w.alloc (.cells (opC 4 c s n p e t r b) 42)).heap[w.heap.size]? = some (.cells (opC 4 c s n p e t r b) 42 (0, 0)) := alloc_blk _ _
  have hc0 : (w.alloc (.cells (opC 4 c s n p e t r b) 42)).cell? ⟨w.heap.size, 0, none⟩ = some (.int .i64 4) := (cell_blk hb0 _).trans rfl
  have hc1 : (w.alloc (.cells (opC 4 c s n p e t r b) 42)).cell? ⟨w.heap.size, 1, none⟩ = some (.int .i64 c) := (cell_blk hb0 _).trans rfl
  have hc2 : (w.alloc (.cells (opC 4 c s n p e t r b) 42)).cell? ⟨w.heap.size, 2, none⟩ = some (.int .i64 s) := (cell_blk hb0 _).trans rfl
  have hc3 : (w.alloc (.cells (opC 4 c s n p e t r b) 42)).cell? ⟨w.heap.size, 3, none⟩ = some (.string n) := (cell_blk hb0 _).trans rfl
  have hc4 : (w.alloc (.cells (opC 4 c s n p e t r b) 42)).cell? ⟨w.heap.size, 4, none⟩ = some (.int .i64 p) := (cell_blk hb0 _).trans rfl
  have hc5 : (w.alloc (.cells (opC 4 c s n p e t r b) 42)).cell? ⟨w.heap.size, 5, none⟩ = some (.int .i64 e) := (cell_blk hb0 _).trans rfl
  have hc6 : (w.alloc (.cells (opC 4 c s n p e t r b) 42)).cell? ⟨w.heap.size, 6, none⟩ = some (.int .i64 t) := (cell_blk hb0 _).trans rfl
  have hc7 : (w.alloc (.cells (opC 4 c s n p e t r b) 42)).cell? ⟨w.heap.size, 7, none⟩ = some (.int .i64 r) := (cell_blk hb0 _).trans rfl
  have hc8 : (w.alloc (.cells (opC 4 c s n p e t r b) 42)).cell? ⟨w.heap.size, 8, none⟩ = some (.bool b) := (cell_blk hb0 _).trans rfl
  have HB := below_alloc w (.cells (opC 4 c s n p e t r b) 42)
  have HE : Hid ((n == eN) = decide (n = eN)) := beq_eN n
  clear hb0
  by_cases en : n = eN
  · have e0 : (n == eN) = true := by have := HE.out; rwa [decide_eq_true en] at this
    have e3 : n.toList = [] := by rw [en, ByteArray.toList_eq]; rfl
    clear en
    clear HE
    go_enter Try.func26, Try.ntmps26
    go_upto_region 1 with (refine wpList_box_row rfl 42 _ rfl _ rfl ?_)
    generalize (w.alloc (.cells (opC 4 c s n p e t r b) 42)) = w1 at *
    generalize Value.agg (opC 4 c s n p e t r b) = a0
    go_wp2_with (first | (go_at_call 61; refine (rIn_any _ _ _ _).mono ?_; rintro x w' ⟨rfl, rfl⟩) | (go_at_call 62; refine (rName_any n _ hn).mono ?_; rintro x w' ⟨rfl, rfl⟩))
    all_goals
      go_ret
      refine ⟨congrArg (fun b => Ending.returned (Value.bool b)) ?_, HB⟩
      first | (simp_all [opB, sameB, txnB, inB]; done) | (simp_all [opB, sameB, txnB, inB]; omega)
  · have e0 : (n == eN) = false := by have := HE.out; rwa [decide_eq_false en] at this
    have e3 : ¬ n.toList = [] := fun h => en (ByteArray.ext (by rw [ByteArray.toList_eq] at h; simpa [eN] using h))
    clear en
    clear HE
    go_enter Try.func26, Try.ntmps26
    go_upto_region 1 with (refine wpList_box_row rfl 42 _ rfl _ rfl ?_)
    generalize (w.alloc (.cells (opC 4 c s n p e t r b) 42)) = w1 at *
    generalize Value.agg (opC 4 c s n p e t r b) = a0
    go_wp2_with (first | (go_at_call 61; refine (rIn_any _ _ _ _).mono ?_; rintro x w' ⟨rfl, rfl⟩) | (go_at_call 62; refine (rName_any n _ hn).mono ?_; rintro x w' ⟨rfl, rfl⟩))
    all_goals
      go_ret
      refine ⟨congrArg (fun b => Ending.returned (Value.bool b)) ?_, HB⟩
      first | (simp_all [opB, sameB, txnB, inB]; done) | (simp_all [opB, sameB, txnB, inB]; omega)
set_option maxRecDepth 10000 in
set_option maxHeartbeats 8000000 in
theorem rIsOp_x (k c s : Int) (n : ByteArray) (p e t r : Int) (b : Bool) (w : World) (hn : n.size < 9223372036854775808) (h1 : ¬ k = 1) (h2 : ¬ k = 2) (h3 : ¬ k = 3) (h4 : ¬ k = 4) : Calls Try.prog 26 #[.agg (opC k c s n p e t r b)] w fun x w' => x = .returned (.bool (opB k c s n p e t r b)) ∧ Below w.heap.size w w' := by
  have hb0 : (w.alloc (.cells (opC k c s n p e t r b) 42)).heap[w.heap.size]? = some (.cells (opC k c s n p e t r b) 42 (0, 0)) := alloc_blk _ _
  have hc0 : (w.alloc (.cells (opC k c s n p e t r b) 42)).cell? ⟨w.heap.size, 0, none⟩ = some (.int .i64 k) := (cell_blk hb0 _).trans rfl
  have hc1 : (w.alloc (.cells (opC k c s n p e t r b) 42)).cell? ⟨w.heap.size, 1, none⟩ = some (.int .i64 c) := (cell_blk hb0 _).trans rfl
  have hc2 : (w.alloc (.cells (opC k c s n p e t r b) 42)).cell? ⟨w.heap.size, 2, none⟩ = some (.int .i64 s) := (cell_blk hb0 _).trans rfl
  have hc3 : (w.alloc (.cells (opC k c s n p e t r b) 42)).cell? ⟨w.heap.size, 3, none⟩ = some (.string n) := (cell_blk hb0 _).trans rfl
  have hc4 : (w.alloc (.cells (opC k c s n p e t r b) 42)).cell? ⟨w.heap.size, 4, none⟩ = some (.int .i64 p) := (cell_blk hb0 _).trans rfl
  have hc5 : (w.alloc (.cells (opC k c s n p e t r b) 42)).cell? ⟨w.heap.size, 5, none⟩ = some (.int .i64 e) := (cell_blk hb0 _).trans rfl
  have hc6 : (w.alloc (.cells (opC k c s n p e t r b) 42)).cell? ⟨w.heap.size, 6, none⟩ = some (.int .i64 t) := (cell_blk hb0 _).trans rfl
  have hc7 : (w.alloc (.cells (opC k c s n p e t r b) 42)).cell? ⟨w.heap.size, 7, none⟩ = some (.int .i64 r) := (cell_blk hb0 _).trans rfl
  have hc8 : (w.alloc (.cells (opC k c s n p e t r b) 42)).cell? ⟨w.heap.size, 8, none⟩ = some (.bool b) := (cell_blk hb0 _).trans rfl
  have HB := below_alloc w (.cells (opC k c s n p e t r b) 42)
  have HE : Hid ((n == eN) = decide (n = eN)) := beq_eN n
  clear hb0
  by_cases en : n = eN
  · have e0 : (n == eN) = true := by have := HE.out; rwa [decide_eq_true en] at this
    have e3 : n.toList = [] := by rw [en, ByteArray.toList_eq]; rfl
    clear en
    clear HE
    go_enter Try.func26, Try.ntmps26
    go_upto_region 1 with (refine wpList_box_row rfl 42 _ rfl _ rfl ?_)
    generalize (w.alloc (.cells (opC k c s n p e t r b) 42)) = w1 at *
    generalize Value.agg (opC k c s n p e t r b) = a0
    go_wp2_with (first | (go_at_call 61; refine (rIn_any _ _ _ _).mono ?_; rintro x w' ⟨rfl, rfl⟩) | (go_at_call 62; refine (rName_any n _ hn).mono ?_; rintro x w' ⟨rfl, rfl⟩))
    all_goals
      go_ret
      refine ⟨congrArg (fun b => Ending.returned (Value.bool b)) ?_, HB⟩
      first | (simp_all [opB, sameB, txnB, inB]; done) | (simp_all [opB, sameB, txnB, inB]; omega)
  · have e0 : (n == eN) = false := by have := HE.out; rwa [decide_eq_false en] at this
    have e3 : ¬ n.toList = [] := fun h => en (ByteArray.ext (by rw [ByteArray.toList_eq] at h; simpa [eN] using h))
    clear en
    clear HE
    go_enter Try.func26, Try.ntmps26
    go_upto_region 1 with (refine wpList_box_row rfl 42 _ rfl _ rfl ?_)
    generalize (w.alloc (.cells (opC k c s n p e t r b) 42)) = w1 at *
    generalize Value.agg (opC k c s n p e t r b) = a0
    go_wp2_with (first | (go_at_call 61; refine (rIn_any _ _ _ _).mono ?_; rintro x w' ⟨rfl, rfl⟩) | (go_at_call 62; refine (rName_any n _ hn).mono ?_; rintro x w' ⟨rfl, rfl⟩))
    all_goals
      go_ret
      refine ⟨congrArg (fun b => Ending.returned (Value.bool b)) ?_, HB⟩
      first | (simp_all [opB, sameB, txnB, inB]; done) | (simp_all [opB, sameB, txnB, inB]; omega)
theorem rIsOp_any (k c s : Int) (n : ByteArray) (p e t r : Int) (b : Bool) (w : World) (hn : n.size < 9223372036854775808) : Calls Try.prog 26 #[.agg (opC k c s n p e t r b)] w fun x w' => x = .returned (.bool (opB k c s n p e t r b)) ∧ Below w.heap.size w w' := by
  by_cases h1 : k = 1
  · subst h1; exact rIsOp_1 c s n p e t r b w hn
  by_cases h2 : k = 2
  · subst h2; exact rIsOp_2 c s n p e t r b w hn
  by_cases h3 : k = 3
  · subst h3; exact rIsOp_3 c s n p e t r b w hn
  by_cases h4 : k = 4
  · subst h4; exact rIsOp_4 c s n p e t r b w hn
  exact rIsOp_x k c s n p e t r b w hn h1 h2 h3 h4
end Go.Proofs.Ytkjocpadmlobgaa
