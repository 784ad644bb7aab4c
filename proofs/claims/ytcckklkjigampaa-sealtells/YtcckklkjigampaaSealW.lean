/- The walks of seneschallaw4's laws that ask nothing of the reference's digests: SealCounts, SealEnough, SealOfNothing, SealTurned. -/
import Derived.Test.YtcckklkjigampaaSealK
namespace Go.Proofs.Ytcckklkjigampaa
open Go.RowKit Go.Dig Go.Sha Go.Inv

set_option maxHeartbeats 400000 in
theorem rFaults_any (n : Int) (w : World) (h0 : -9223372036854775808 ≤ n) (h1 : n ≤ 9223372036854775807) :
    Calls Try.prog 19 #[.int .i64 n] w fun e w' => e = .returned (.int .i64 (faultsI n)) ∧ w' = w := by
  by_cases h : n < 1
  · go_enter Try.func19, Try.ntmps19
    go_wp2
    go_ret
    exact ⟨by simp [faultsI, h], rfl⟩
  · go_enter Try.func19, Try.ntmps19
    go_wp2
    go_ret
    exact ⟨by simp [faultsI]; omega, rfl⟩
set_option maxHeartbeats 400000 in
theorem rQuorum_any (n : Int) (w : World) (h0 : -9223372036854775808 ≤ n) (h1 : n ≤ 9223372036854775807) :
    Calls Try.prog 20 #[.int .i64 n] w fun e w' => e = .returned (.int .i64 (quorumI n)) ∧ w' = w := by
  obtain ⟨hf0, hf1, hf2⟩ := faultsI_bd n h0 h1
  have hw : IntKind.i64.wrap (n - faultsI n) = n - faultsI n := by
    rw [IntKind.wrap_i64]
    by_cases h : n < 1
    · have := hf2 h; omega
    · have := hf1 (by omega); omega
  clear hf0 hf1 hf2
  go_enter Try.func20, Try.ntmps20
  go_wp2_with (go_at_call 19; refine (rFaults_any _ _ h0 h1).mono ?_; rintro e w' ⟨rfl, rfl⟩)
  go_ret
  exact ⟨rfl, rfl⟩

set_option maxRecDepth 10000 in
set_option maxHeartbeats 1000000 in
theorem sealCounts_any (n : Int) (w : World) (h0 : -9223372036854775808 ≤ n) (h1 : n ≤ 9223372036854775807) :
    Calls Try.prog 5 #[.int .i64 n] w fun e w' => e = .returned (.bool true) ∧ Below w.heap.size w w' := by
  go_enter Try.func5, Try.ntmps5
  go_wp2_with fail
  refine (faults_any n _ h0 h1).mono ?_
  rintro e w2 ⟨rfl, rfl⟩
  go_wp2_with fail
  refine (rFaults_any n _ h0 h1).mono ?_
  rintro e w2 ⟨rfl, rfl⟩
  go_wp2_with fail
  refine (quorum_any n _ h0 h1).mono ?_
  rintro e w2 ⟨rfl, rfl⟩
  go_wp2_with fail
  refine (rQuorum_any n _ h0 h1).mono ?_
  rintro e w2 ⟨rfl, rfl⟩
  go_wp2_with fail
  refine (known_any _).mono ?_
  rintro e w2 ⟨rfl, hB⟩
  go_wp2_with fail
  go_ret
  exact ⟨rfl, hB⟩

theorem enough (f : Int) (h0 : 0 ≤ f) : faultsI (3 * f + 1) = f ∧ quorumI (3 * f + 1) = 2 * f + 1 := by
  have : faultsI (3 * f + 1) = f := by unfold faultsI; rw [if_neg (by omega)]; omega
  exact ⟨this, by unfold quorumI; rw [this]; omega⟩
set_option maxRecDepth 10000 in
set_option maxHeartbeats 1000000 in
theorem sealEnough_any (f : Int) (w : World) :
    Calls Try.prog 4 #[.int .i64 f] w fun e w' => e = .returned (.bool true) ∧ Below w.heap.size w w' := by
  by_cases h0 : f < 0
  · go_enter Try.func4, Try.ntmps4
    go_wp2_with fail
    refine (known_any _).mono ?_
    rintro e w2 ⟨rfl, hB⟩
    go_wp2_with fail
    go_ret
    exact ⟨rfl, hB⟩
  · have h0' : 0 ≤ f := by omega
    by_cases h1 : 1000000 < f
    · go_enter Try.func4, Try.ntmps4
      go_wp2_with fail
      refine (known_any _).mono ?_
      rintro e w2 ⟨rfl, hB⟩
      go_wp2_with fail
      go_ret
      exact ⟨rfl, hB⟩
    · have h1' : f ≤ 1000000 := by omega
      obtain ⟨e1, e2⟩ := enough f h0'
      have E1 : Hid (faultsI (3 * f + 1) = f) := e1
      have E2 : Hid (quorumI (3 * f + 1) = 2 * f + 1) := e2
      clear e1 e2
      go_enter Try.func4, Try.ntmps4
      go_wp2_with fail
      refine (quorum_any (3 * f + 1) _ (by omega) (by omega)).mono ?_
      rintro e w2 ⟨rfl, rfl⟩
      rw [E2.out]
      go_wp2_with fail
      refine (faults_any (3 * f + 1) _ (by omega) (by omega)).mono ?_
      rintro e w2 ⟨rfl, rfl⟩
      rw [E1.out]
      have t1 : decide (f < 2 * (2 * f + 1) - (3 * f + 1)) = true := decide_eq_true (by omega)
      have t2 : decide (2 * f + 1 ≤ 3 * f + 1 - f) = true := decide_eq_true (by omega)
      go_wp2_with fail
      refine (known_any _).mono ?_
      rintro e w2 ⟨rfl, hB⟩
      go_wp2_with fail
      go_ret
      exact ⟨rfl, hB⟩

set_option maxRecDepth 10000 in
set_option maxHeartbeats 1000000 in
theorem sealOfNothing_any (i : Int) (P : List Int) (ao : Option Addr) (cap : Nat) (tag : Nat → Int) (w : World) :
    Calls Try.prog 6 #[.int .i64 i, .slice ao P.length cap, .agg (row .u8 32 tag)] w fun e w' => e = .returned (.bool true) ∧ Below w.heap.size w w' := by
  have hA := alloc_blk w (.cells (row .u8 32 tag) 23)
  have hBw := below_alloc w (.cells (row .u8 32 tag) 23)
  by_cases h5 : 500 < P.length
  · go_enter Try.func6, Try.ntmps6
    go_wp2_with (refine wpList_box_row rfl 23 _ rfl _ rfl ?_)
    go_ret
    exact ⟨rfl, hBw⟩
  · have heq := equalIn_hash zeroF zeroF
    rw [rowEq_self] at heq
    go_enter Try.func6, Try.ntmps6
    go_wp2_with (refine wpList_box_row rfl 23 _ rfl _ rfl ?_)
    generalize w.alloc (.cells (row .u8 32 tag) 23) = w1 at *
    have HA : Hid (w1.heap[w.heap.size]? = some (.cells (row .u8 32 tag) 23 (0, 0))) := hA
    clear hA
    refine (nodes_nil _).mono ?_
    rintro e w2 ⟨rfl, rfl⟩
    go_wp2_with fail
    refine (seal_nil i _ _).mono ?_
    rintro e w3 ⟨rfl, hB3⟩
    have HA3 : Hid (w3.heap[w.heap.size]? = some (.cells (row .u8 32 tag) 23 (0, 0))) := Below.blk hB3 (lt_blk HA.out) HA.out
    have hBw3 : Below w.heap.size w w3 := hBw.trans (hB3.mono hBw.size)
    clear HA hB3 hBw
    go_wp2_with (first | refine wpList_build_g rfl 23 _ rfl (row .u8 32 zeroF) (by kernel_rfl) ?_ | refine wpList_load_g rfl 23 _ rfl w.heap.size _ rfl _ _ HA3.out 32 5 (by kernel_rfl) (row_info size_hash _) ?_)
    refine (check_nil i _ _ _).mono ?_
    rintro e w4 ⟨rfl, hB4⟩
    have hBw4 : Below w.heap.size w w4 := hBw3.trans (hB4.mono hBw3.size)
    clear HA3 hBw3 hB4
    go_wp2_with (refine wpList_build_g rfl 23 _ rfl (row .u8 32 zeroF) (by kernel_rfl) ?_)
    refine (check_nil 0 _ _ _).mono ?_
    rintro e w5 ⟨rfl, hB5⟩
    have hBw5 : Below w.heap.size w w5 := hBw4.trans (hB5.mono hBw4.size)
    clear hBw4 hB5
    go_wp2_with fail
    refine (known_any _).mono ?_
    rintro e w6 ⟨rfl, hB6⟩
    go_wp2_with fail
    go_ret
    exact ⟨rfl, hBw5.trans (hB6.mono hBw5.size)⟩
end Go.Proofs.Ytcckklkjigampaa
