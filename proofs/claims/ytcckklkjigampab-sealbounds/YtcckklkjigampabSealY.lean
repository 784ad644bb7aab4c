/- SealBounds' walk: of nodes that are none nothing is sealed or checked; a ring has from one to ten nodes. -/
import Derived.Test.YtcckklkjigampabSealX
namespace Go.Proofs.Ytcckklkjigampab
open Go.RowKit Go.Dig Go.Sha Go.Inv
set_option linter.unusedVariables false

theorem seal_none {seed : Nat → Int} {n : Nat} {i : Int} {P : List Int} (h : hasB n i = false) : sealF seed n i P = zeroF := by simp [sealF, h]
theorem check_none {seed : Nat → Int} {n : Nat} {i : Int} {P : List Int} {t : Nat → Int} (h : hasB n i = false) : checkB seed n i P t = false := by simp [checkB, h]

set_option maxRecDepth 10000 in
set_option maxHeartbeats 2000000 in
theorem sealBounds_few (nodes i : Int) (n : Nat) (w : World) (h0 : -9223372036854775808 ≤ nodes) (h1 : nodes ≤ 9223372036854775807) (hq : nodes < 1) :
    Calls Try.prog 3 #[.int .i64 nodes, .int .i64 i] w fun e w' => e = .returned (.bool true) ∧ Below w.heap.size w w' := by
  have hnn := hq
  clear hq
  have heq := equalIn_hash zeroF zeroF
  rw [rowEq_self] at heq
  by_cases q0 : i < 0
  · have hb : hasB 1 i = false := by simp [hasB]; omega
    have Hb : Hid (hasB 1 i = false) := hb
    clear hb
    go_enter Try.func3, Try.ntmps3
    go_wp2_with (refine wpList_build_to rfl 25 _ rfl (row .u8 32 (oneF 7)) (by kernel_rfl) ?_)
    refine (sNew_any _ (oneF 7) _ h0 h1).mono ?_
    rintro e w1 ⟨rg, rfl, hrg, hR, hB1⟩
    rw [show nodesOf nodes = 1 from by unfold nodesOf; omega] at hR
    have HR : Hid (RingAt w1 rg (oneF 7) 1) := hR
    clear hR
    go_wp2_with fail
    refine (nodes_any rg 1 (oneF 7) _ HR.out).mono ?_
    rintro e w2 ⟨rfl, rfl⟩
    rw [show ((1 : Nat) : Int) = 1 from rfl]
    go_wp2_with fail
    refine (seal_any rg 1 (oneF 7) i [] none 0 _ HR.out (lies_nil _ _) (Nat.le_refl _) (by decide)).mono ?_
    rintro e w3 ⟨rfl, hB3⟩
    have HR3 : Hid (RingAt w3 rg (oneF 7) 1) := HR.out.below hB3
    have hBB : Below w.heap.size w w3 := hB1.trans (hB3.mono hB1.size)
    clear hB1 hB3 HR
    rw [seal_none Hb.out]
    go_wp2_with (first | refine wpList_build_to rfl 25 _ rfl (row .u8 32 zeroF) (by kernel_rfl) ?_ | refine wpList_build_g rfl 25 _ rfl (row .u8 32 zeroF) (by kernel_rfl) ?_)
    refine (check_any rg 1 (oneF 7) i [] none 0 _ _ HR3.out (lies_nil _ _) (Nat.le_refl _) (by decide)).mono ?_
    rintro e w4 ⟨rfl, hB4⟩
    rw [check_none Hb.out]
    have hBB4 : Below w.heap.size w w4 := hBB.trans (hB4.mono hBB.size)
    clear hB4 HR3 hBB
    go_wp2_with fail
    refine (known_any _).mono ?_
    rintro e w6 ⟨rfl, hB6⟩
    go_wp2_with fail
    go_ret
    exact ⟨rfl, hBB4.trans (hB6.mono hBB4.size)⟩
  by_cases q1 : 1 ≤ i
  · have hi0 : 0 ≤ i := by omega
    have hb : hasB 1 i = false := by simp [hasB]; omega
    have Hb : Hid (hasB 1 i = false) := hb
    clear hb
    go_enter Try.func3, Try.ntmps3
    go_wp2_with (refine wpList_build_to rfl 25 _ rfl (row .u8 32 (oneF 7)) (by kernel_rfl) ?_)
    refine (sNew_any _ (oneF 7) _ h0 h1).mono ?_
    rintro e w1 ⟨rg, rfl, hrg, hR, hB1⟩
    rw [show nodesOf nodes = 1 from by unfold nodesOf; omega] at hR
    have HR : Hid (RingAt w1 rg (oneF 7) 1) := hR
    clear hR
    go_wp2_with fail
    refine (nodes_any rg 1 (oneF 7) _ HR.out).mono ?_
    rintro e w2 ⟨rfl, rfl⟩
    rw [show ((1 : Nat) : Int) = 1 from rfl]
    go_wp2_with fail
    refine (seal_any rg 1 (oneF 7) i [] none 0 _ HR.out (lies_nil _ _) (Nat.le_refl _) (by decide)).mono ?_
    rintro e w3 ⟨rfl, hB3⟩
    have HR3 : Hid (RingAt w3 rg (oneF 7) 1) := HR.out.below hB3
    have hBB : Below w.heap.size w w3 := hB1.trans (hB3.mono hB1.size)
    clear hB1 hB3 HR
    rw [seal_none Hb.out]
    go_wp2_with (first | refine wpList_build_to rfl 25 _ rfl (row .u8 32 zeroF) (by kernel_rfl) ?_ | refine wpList_build_g rfl 25 _ rfl (row .u8 32 zeroF) (by kernel_rfl) ?_)
    refine (check_any rg 1 (oneF 7) i [] none 0 _ _ HR3.out (lies_nil _ _) (Nat.le_refl _) (by decide)).mono ?_
    rintro e w4 ⟨rfl, hB4⟩
    rw [check_none Hb.out]
    have hBB4 : Below w.heap.size w w4 := hBB.trans (hB4.mono hBB.size)
    clear hB4 HR3 hBB
    go_wp2_with fail
    refine (known_any _).mono ?_
    rintro e w6 ⟨rfl, hB6⟩
    go_wp2_with fail
    go_ret
    exact ⟨rfl, hBB4.trans (hB6.mono hBB4.size)⟩
  have hi0 : 0 ≤ i := by omega
  have hi1 : i < 1 := by omega
  have hb : hasB 1 i = true := by simp [hasB]; omega
  have Hb : Hid (hasB 1 i = true) := hb
  clear hb
  go_enter Try.func3, Try.ntmps3
  go_wp2_with (refine wpList_build_to rfl 25 _ rfl (row .u8 32 (oneF 7)) (by kernel_rfl) ?_)
  refine (sNew_any _ (oneF 7) _ h0 h1).mono ?_
  rintro e w1 ⟨rg, rfl, hrg, hR, hB1⟩
  rw [show nodesOf nodes = 1 from by unfold nodesOf; omega] at hR
  have HR : Hid (RingAt w1 rg (oneF 7) 1) := hR
  clear hR
  go_wp2_with fail
  refine (nodes_any rg 1 (oneF 7) _ HR.out).mono ?_
  rintro e w2 ⟨rfl, rfl⟩
  rw [show ((1 : Nat) : Int) = 1 from rfl]
  go_wp2_with fail
  refine (seal_any rg 1 (oneF 7) i [] none 0 _ HR.out (lies_nil _ _) (Nat.le_refl _) (by decide)).mono ?_
  rintro e w3 ⟨rfl, hB3⟩
  have HR3 : Hid (RingAt w3 rg (oneF 7) 1) := HR.out.below hB3
  have hBB : Below w.heap.size w w3 := hB1.trans (hB3.mono hB1.size)
  clear hB1 hB3 HR
  go_wp2_with fail
  refine (check_any rg 1 (oneF 7) i [] none 0 _ _ HR3.out (lies_nil _ _) (Nat.le_refl _) (by decide)).mono ?_
  rintro e w4 ⟨rfl, hB4⟩
  rw [check_own Hb.out]
  have hBB4 : Below w.heap.size w w4 := hBB.trans (hB4.mono hBB.size)
  clear hB4 HR3 hBB
  go_wp2_with fail
  refine (known_any _).mono ?_
  rintro e w6 ⟨rfl, hB6⟩
  go_wp2_with fail
  go_ret
  exact ⟨rfl, hBB4.trans (hB6.mono hBB4.size)⟩
set_option maxRecDepth 10000 in
set_option maxHeartbeats 2000000 in
theorem sealBounds_many (nodes i : Int) (n : Nat) (w : World) (h0 : -9223372036854775808 ≤ nodes) (h1 : nodes ≤ 9223372036854775807) (hq : 10 < nodes) :
    Calls Try.prog 3 #[.int .i64 nodes, .int .i64 i] w fun e w' => e = .returned (.bool true) ∧ Below w.heap.size w w' := by
  have hnn := hq
  clear hq
  have heq := equalIn_hash zeroF zeroF
  rw [rowEq_self] at heq
  by_cases q0 : i < 0
  · have hb : hasB 10 i = false := by simp [hasB]; omega
    have Hb : Hid (hasB 10 i = false) := hb
    clear hb
    go_enter Try.func3, Try.ntmps3
    go_wp2_with (refine wpList_build_to rfl 25 _ rfl (row .u8 32 (oneF 7)) (by kernel_rfl) ?_)
    refine (sNew_any _ (oneF 7) _ h0 h1).mono ?_
    rintro e w1 ⟨rg, rfl, hrg, hR, hB1⟩
    rw [show nodesOf nodes = 10 from by unfold nodesOf; omega] at hR
    have HR : Hid (RingAt w1 rg (oneF 7) 10) := hR
    clear hR
    go_wp2_with fail
    refine (nodes_any rg 10 (oneF 7) _ HR.out).mono ?_
    rintro e w2 ⟨rfl, rfl⟩
    rw [show ((10 : Nat) : Int) = 10 from rfl]
    go_wp2_with fail
    refine (seal_any rg 10 (oneF 7) i [] none 0 _ HR.out (lies_nil _ _) (Nat.le_refl _) (by decide)).mono ?_
    rintro e w3 ⟨rfl, hB3⟩
    have HR3 : Hid (RingAt w3 rg (oneF 7) 10) := HR.out.below hB3
    have hBB : Below w.heap.size w w3 := hB1.trans (hB3.mono hB1.size)
    clear hB1 hB3 HR
    rw [seal_none Hb.out]
    go_wp2_with (first | refine wpList_build_to rfl 25 _ rfl (row .u8 32 zeroF) (by kernel_rfl) ?_ | refine wpList_build_g rfl 25 _ rfl (row .u8 32 zeroF) (by kernel_rfl) ?_)
    refine (check_any rg 10 (oneF 7) i [] none 0 _ _ HR3.out (lies_nil _ _) (Nat.le_refl _) (by decide)).mono ?_
    rintro e w4 ⟨rfl, hB4⟩
    rw [check_none Hb.out]
    have hBB4 : Below w.heap.size w w4 := hBB.trans (hB4.mono hBB.size)
    clear hB4 HR3 hBB
    go_wp2_with fail
    refine (known_any _).mono ?_
    rintro e w6 ⟨rfl, hB6⟩
    go_wp2_with fail
    go_ret
    exact ⟨rfl, hBB4.trans (hB6.mono hBB4.size)⟩
  by_cases q1 : 10 ≤ i
  · have hi0 : 0 ≤ i := by omega
    have hb : hasB 10 i = false := by simp [hasB]; omega
    have Hb : Hid (hasB 10 i = false) := hb
    clear hb
    go_enter Try.func3, Try.ntmps3
    go_wp2_with (refine wpList_build_to rfl 25 _ rfl (row .u8 32 (oneF 7)) (by kernel_rfl) ?_)
    refine (sNew_any _ (oneF 7) _ h0 h1).mono ?_
    rintro e w1 ⟨rg, rfl, hrg, hR, hB1⟩
    rw [show nodesOf nodes = 10 from by unfold nodesOf; omega] at hR
    have HR : Hid (RingAt w1 rg (oneF 7) 10) := hR
    clear hR
    go_wp2_with fail
    refine (nodes_any rg 10 (oneF 7) _ HR.out).mono ?_
    rintro e w2 ⟨rfl, rfl⟩
    rw [show ((10 : Nat) : Int) = 10 from rfl]
    go_wp2_with fail
    refine (seal_any rg 10 (oneF 7) i [] none 0 _ HR.out (lies_nil _ _) (Nat.le_refl _) (by decide)).mono ?_
    rintro e w3 ⟨rfl, hB3⟩
    have HR3 : Hid (RingAt w3 rg (oneF 7) 10) := HR.out.below hB3
    have hBB : Below w.heap.size w w3 := hB1.trans (hB3.mono hB1.size)
    clear hB1 hB3 HR
    rw [seal_none Hb.out]
    go_wp2_with (first | refine wpList_build_to rfl 25 _ rfl (row .u8 32 zeroF) (by kernel_rfl) ?_ | refine wpList_build_g rfl 25 _ rfl (row .u8 32 zeroF) (by kernel_rfl) ?_)
    refine (check_any rg 10 (oneF 7) i [] none 0 _ _ HR3.out (lies_nil _ _) (Nat.le_refl _) (by decide)).mono ?_
    rintro e w4 ⟨rfl, hB4⟩
    rw [check_none Hb.out]
    have hBB4 : Below w.heap.size w w4 := hBB.trans (hB4.mono hBB.size)
    clear hB4 HR3 hBB
    go_wp2_with fail
    refine (known_any _).mono ?_
    rintro e w6 ⟨rfl, hB6⟩
    go_wp2_with fail
    go_ret
    exact ⟨rfl, hBB4.trans (hB6.mono hBB4.size)⟩
  have hi0 : 0 ≤ i := by omega
  have hi1 : i < 10 := by omega
  have hb : hasB 10 i = true := by simp [hasB]; omega
  have Hb : Hid (hasB 10 i = true) := hb
  clear hb
  go_enter Try.func3, Try.ntmps3
  go_wp2_with (refine wpList_build_to rfl 25 _ rfl (row .u8 32 (oneF 7)) (by kernel_rfl) ?_)
  refine (sNew_any _ (oneF 7) _ h0 h1).mono ?_
  rintro e w1 ⟨rg, rfl, hrg, hR, hB1⟩
  rw [show nodesOf nodes = 10 from by unfold nodesOf; omega] at hR
  have HR : Hid (RingAt w1 rg (oneF 7) 10) := hR
  clear hR
  go_wp2_with fail
  refine (nodes_any rg 10 (oneF 7) _ HR.out).mono ?_
  rintro e w2 ⟨rfl, rfl⟩
  rw [show ((10 : Nat) : Int) = 10 from rfl]
  go_wp2_with fail
  refine (seal_any rg 10 (oneF 7) i [] none 0 _ HR.out (lies_nil _ _) (Nat.le_refl _) (by decide)).mono ?_
  rintro e w3 ⟨rfl, hB3⟩
  have HR3 : Hid (RingAt w3 rg (oneF 7) 10) := HR.out.below hB3
  have hBB : Below w.heap.size w w3 := hB1.trans (hB3.mono hB1.size)
  clear hB1 hB3 HR
  go_wp2_with fail
  refine (check_any rg 10 (oneF 7) i [] none 0 _ _ HR3.out (lies_nil _ _) (Nat.le_refl _) (by decide)).mono ?_
  rintro e w4 ⟨rfl, hB4⟩
  rw [check_own Hb.out]
  have hBB4 : Below w.heap.size w w4 := hBB.trans (hB4.mono hBB.size)
  clear hB4 HR3 hBB
  go_wp2_with fail
  refine (known_any _).mono ?_
  rintro e w6 ⟨rfl, hB6⟩
  go_wp2_with fail
  go_ret
  exact ⟨rfl, hBB4.trans (hB6.mono hBB4.size)⟩
set_option maxRecDepth 10000 in
set_option maxHeartbeats 2000000 in
theorem sealBounds_mid (nodes i : Int) (n : Nat) (w : World) (h0 : -9223372036854775808 ≤ nodes) (h1 : nodes ≤ 9223372036854775807) (hq : nodes = (n : Int)) (hn0 : 1 ≤ n) (hn1 : n ≤ 10) :
    Calls Try.prog 3 #[.int .i64 nodes, .int .i64 i] w fun e w' => e = .returned (.bool true) ∧ Below w.heap.size w w' := by
  subst hq
  have heq := equalIn_hash zeroF zeroF
  rw [rowEq_self] at heq
  by_cases q0 : i < 0
  · have hb : hasB n i = false := by simp [hasB]; omega
    have Hb : Hid (hasB n i = false) := hb
    clear hb
    go_enter Try.func3, Try.ntmps3
    go_wp2_with (refine wpList_build_to rfl 25 _ rfl (row .u8 32 (oneF 7)) (by kernel_rfl) ?_)
    refine (sNew_any _ (oneF 7) _ h0 h1).mono ?_
    rintro e w1 ⟨rg, rfl, hrg, hR, hB1⟩
    rw [show nodesOf (n : Int) = n from by unfold nodesOf; omega] at hR
    have HR : Hid (RingAt w1 rg (oneF 7) n) := hR
    clear hR
    go_wp2_with fail
    refine (nodes_any rg n (oneF 7) _ HR.out).mono ?_
    rintro e w2 ⟨rfl, rfl⟩
    go_wp2_with fail
    refine (seal_any rg n (oneF 7) i [] none 0 _ HR.out (lies_nil _ _) (Nat.le_refl _) (by decide)).mono ?_
    rintro e w3 ⟨rfl, hB3⟩
    have HR3 : Hid (RingAt w3 rg (oneF 7) n) := HR.out.below hB3
    have hBB : Below w.heap.size w w3 := hB1.trans (hB3.mono hB1.size)
    clear hB1 hB3 HR
    rw [seal_none Hb.out]
    go_wp2_with (first | refine wpList_build_to rfl 25 _ rfl (row .u8 32 zeroF) (by kernel_rfl) ?_ | refine wpList_build_g rfl 25 _ rfl (row .u8 32 zeroF) (by kernel_rfl) ?_)
    refine (check_any rg n (oneF 7) i [] none 0 _ _ HR3.out (lies_nil _ _) (Nat.le_refl _) (by decide)).mono ?_
    rintro e w4 ⟨rfl, hB4⟩
    rw [check_none Hb.out]
    have hBB4 : Below w.heap.size w w4 := hBB.trans (hB4.mono hBB.size)
    clear hB4 HR3 hBB
    go_wp2_with fail
    refine (known_any _).mono ?_
    rintro e w6 ⟨rfl, hB6⟩
    go_wp2_with fail
    go_ret
    exact ⟨rfl, hBB4.trans (hB6.mono hBB4.size)⟩
  by_cases q1 : (n : Int) ≤ i
  · have hi0 : 0 ≤ i := by omega
    have hb : hasB n i = false := by simp [hasB]; omega
    have Hb : Hid (hasB n i = false) := hb
    clear hb
    go_enter Try.func3, Try.ntmps3
    go_wp2_with (refine wpList_build_to rfl 25 _ rfl (row .u8 32 (oneF 7)) (by kernel_rfl) ?_)
    refine (sNew_any _ (oneF 7) _ h0 h1).mono ?_
    rintro e w1 ⟨rg, rfl, hrg, hR, hB1⟩
    rw [show nodesOf (n : Int) = n from by unfold nodesOf; omega] at hR
    have HR : Hid (RingAt w1 rg (oneF 7) n) := hR
    clear hR
    go_wp2_with fail
    refine (nodes_any rg n (oneF 7) _ HR.out).mono ?_
    rintro e w2 ⟨rfl, rfl⟩
    go_wp2_with fail
    refine (seal_any rg n (oneF 7) i [] none 0 _ HR.out (lies_nil _ _) (Nat.le_refl _) (by decide)).mono ?_
    rintro e w3 ⟨rfl, hB3⟩
    have HR3 : Hid (RingAt w3 rg (oneF 7) n) := HR.out.below hB3
    have hBB : Below w.heap.size w w3 := hB1.trans (hB3.mono hB1.size)
    clear hB1 hB3 HR
    rw [seal_none Hb.out]
    go_wp2_with (first | refine wpList_build_to rfl 25 _ rfl (row .u8 32 zeroF) (by kernel_rfl) ?_ | refine wpList_build_g rfl 25 _ rfl (row .u8 32 zeroF) (by kernel_rfl) ?_)
    refine (check_any rg n (oneF 7) i [] none 0 _ _ HR3.out (lies_nil _ _) (Nat.le_refl _) (by decide)).mono ?_
    rintro e w4 ⟨rfl, hB4⟩
    rw [check_none Hb.out]
    have hBB4 : Below w.heap.size w w4 := hBB.trans (hB4.mono hBB.size)
    clear hB4 HR3 hBB
    go_wp2_with fail
    refine (known_any _).mono ?_
    rintro e w6 ⟨rfl, hB6⟩
    go_wp2_with fail
    go_ret
    exact ⟨rfl, hBB4.trans (hB6.mono hBB4.size)⟩
  have hi0 : 0 ≤ i := by omega
  have hi1 : i < (n : Int) := by omega
  have hb : hasB n i = true := by simp [hasB]; omega
  have Hb : Hid (hasB n i = true) := hb
  clear hb
  go_enter Try.func3, Try.ntmps3
  go_wp2_with (refine wpList_build_to rfl 25 _ rfl (row .u8 32 (oneF 7)) (by kernel_rfl) ?_)
  refine (sNew_any _ (oneF 7) _ h0 h1).mono ?_
  rintro e w1 ⟨rg, rfl, hrg, hR, hB1⟩
  rw [show nodesOf (n : Int) = n from by unfold nodesOf; omega] at hR
  have HR : Hid (RingAt w1 rg (oneF 7) n) := hR
  clear hR
  go_wp2_with fail
  refine (nodes_any rg n (oneF 7) _ HR.out).mono ?_
  rintro e w2 ⟨rfl, rfl⟩
  go_wp2_with fail
  refine (seal_any rg n (oneF 7) i [] none 0 _ HR.out (lies_nil _ _) (Nat.le_refl _) (by decide)).mono ?_
  rintro e w3 ⟨rfl, hB3⟩
  have HR3 : Hid (RingAt w3 rg (oneF 7) n) := HR.out.below hB3
  have hBB : Below w.heap.size w w3 := hB1.trans (hB3.mono hB1.size)
  clear hB1 hB3 HR
  go_wp2_with fail
  refine (check_any rg n (oneF 7) i [] none 0 _ _ HR3.out (lies_nil _ _) (Nat.le_refl _) (by decide)).mono ?_
  rintro e w4 ⟨rfl, hB4⟩
  rw [check_own Hb.out]
  have hBB4 : Below w.heap.size w w4 := hBB.trans (hB4.mono hBB.size)
  clear hB4 HR3 hBB
  go_wp2_with fail
  refine (known_any _).mono ?_
  rintro e w6 ⟨rfl, hB6⟩
  go_wp2_with fail
  go_ret
  exact ⟨rfl, hBB4.trans (hB6.mono hBB4.size)⟩
theorem sealBounds_any (nodes i : Int) (w : World) (h0 : -9223372036854775808 ≤ nodes) (h1 : nodes ≤ 9223372036854775807) :
    Calls Try.prog 3 #[.int .i64 nodes, .int .i64 i] w fun e w' => e = .returned (.bool true) ∧ Below w.heap.size w w' := by
  by_cases q0 : nodes < 1
  · exact sealBounds_few nodes i 0 w h0 h1 q0
  · by_cases q1 : 10 < nodes
    · exact sealBounds_many nodes i 0 w h0 h1 q1
    · exact sealBounds_mid nodes i nodes.toNat w h0 h1 (by omega) (by omega) (by omega)
end Go.Proofs.Ytcckklkjigampab
