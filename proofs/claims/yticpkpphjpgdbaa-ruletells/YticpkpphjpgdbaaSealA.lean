/- seal's counting, its rings in memory, Nodes and has; when two digests are one. -/
import Derived.Test.YticpkpphjpgdbaaDigH
import Derived.Laws.StructEq
namespace Go.Proofs.Yticpkpphjpgdbaa
open Go.RowKit Go.Dig Go.Sha Go.Inv

/-- two rows of n numbers are one -/
def rowEq (n : Nat) (f g : Nat → Int) : Bool := (List.range n).all fun i => f i == g i
theorem rowEq_self (n : Nat) (f : Nat → Int) : rowEq n f f = true := by simp [rowEq]
theorem rowEq_iff {n : Nat} {f g : Nat → Int} : rowEq n f g = true ↔ ∀ j, j < n → f j = g j := by simp [rowEq]
theorem rowEq_comm (n : Nat) (f g : Nat → Int) : rowEq n f g = rowEq n g f := by
  rw [Bool.eq_iff_iff, rowEq_iff, rowEq_iff]
  exact ⟨fun h j hj => (h j hj).symm, fun h j hj => (h j hj).symm⟩

theorem equal_row (d : Nat) (n : Nat) (t e : TypeId) {P : Program} (ht : P.underlying t = some (.array n e)) (he : P.underlying e = some (.int .u8)) (hsz : ∀ w, (sizeOf e).run P w = .ok 1 w) (f g : Nat → Int) (w : World) :
    (Op.equalIn (d + 2) t (.agg (row .u8 n f)) (.agg (row .u8 n g))).run P w = .ok (rowEq n f g) w := by
  rw [rowEq, List.range_eq_range', Op.equalIn]
  simp only [Sem.run_bind, run_underlying ht, Result.andThen_ok, hsz, Std.Legacy.Range.forIn_eq_forIn_range', Std.Legacy.Range.size, Nat.sub_zero, Nat.add_sub_cancel, Nat.div_one]
  have hl : ∀ i ∈ List.range' 0 n 1, i < n := fun i hi => by simpa using (List.mem_range'_1.1 hi).2
  generalize List.range' 0 n 1 = l at hl ⊢
  induction l with
  | nil => simp
  | cons i l ih =>
    have hi : i < n := hl i (by simp)
    have px : (part e (row .u8 n f) (i * 1)).run P w = .ok (.int .u8 (f i)) w := by
      simp [part, isAgg, run_underlying he, row_get hi]
    have py : (part e (row .u8 n g) (i * 1)).run P w = .ok (.int .u8 (g i)) w := by
      simp [part, isAgg, run_underlying he, row_get hi]
    have pe : (Op.equalIn (d + 1) e (.int .u8 (f i)) (.int .u8 (g i))).run P w = .ok (f i == g i) w := run_equalIn_int w d e .u8 .u8 _ _ he
    simp only [List.forIn_cons, Sem.run_bind, px, py, pe, Result.andThen_ok, List.all_cons]
    cases hb : (f i == g i)
    · simp
    · simp only [Bool.not_true, Bool.false_eq_true, if_false, Sem.run_pure, Result.andThen_ok, Bool.true_and]
      exact ih fun j hj => hl j (by simp [hj])
theorem eql_hash (f g : Nat → Int) (w : World) : (binOp .eql 30 (.agg (row .u8 32 f)) (.agg (row .u8 32 g))).run Try.prog w = .ok (.bool (rowEq 32 f g)) w := by
  rw [run_eql_struct, equal_row 9998 32 30 5 (by kernel_rfl) (by kernel_rfl) (fun w => by simp [go_sem])]
  rfl
theorem equalIn_hash (f g : Nat → Int) (w : World) : (Op.equalIn 10000 30 (.agg (row .u8 32 f)) (.agg (row .u8 32 g))).run Try.prog w = .ok (rowEq 32 f g) w :=
  equal_row 9998 32 30 5 (by kernel_rfl) (by kernel_rfl) (fun w => by simp [go_sem]) f g w

/-! ### counting -/
def faultsI (n : Int) : Int := if n < 1 then 0 else (n - 1) / 3
def quorumI (n : Int) : Int := n - faultsI n
set_option maxHeartbeats 400000 in
theorem faults_any (n : Int) (w : World) (h0 : -9223372036854775808 ≤ n) (h1 : n ≤ 9223372036854775807) :
    Calls Try.prog 58 #[.int .i64 n] w fun e w' => e = .returned (.int .i64 (faultsI n)) ∧ w' = w := by
  by_cases h : n < 1
  · go_enter Try.func58, Try.ntmps58
    go_wp2
    go_ret
    exact ⟨by simp [faultsI, h], rfl⟩
  · go_enter Try.func58, Try.ntmps58
    go_wp2
    go_ret
    exact ⟨by simp [faultsI]; omega, rfl⟩
theorem faultsI_bd (n : Int) (h0 : -9223372036854775808 ≤ n) (h1 : n ≤ 9223372036854775807) : 0 ≤ faultsI n ∧ (1 ≤ n → faultsI n ≤ n) ∧ (n < 1 → faultsI n = 0) := by
  unfold faultsI; split <;> omega
set_option maxHeartbeats 400000 in
theorem quorum_any (n : Int) (w : World) (h0 : -9223372036854775808 ≤ n) (h1 : n ≤ 9223372036854775807) :
    Calls Try.prog 41 #[.int .i64 n] w fun e w' => e = .returned (.int .i64 (quorumI n)) ∧ w' = w := by
  obtain ⟨hf0, hf1, hf2⟩ := faultsI_bd n h0 h1
  have hw : IntKind.i64.wrap (n - faultsI n) = n - faultsI n := by
    rw [IntKind.wrap_i64]
    by_cases h : n < 1
    · have := hf2 h; omega
    · have := hf1 (by omega); omega
  clear hf0 hf1 hf2
  go_enter Try.func41, Try.ntmps41
  go_wp2_with (go_at_call 58; refine (faults_any _ _ h0 h1).mono ?_; rintro e w' ⟨rfl, rfl⟩)
  go_ret
  exact ⟨rfl, rfl⟩

/-! ### rings -/
/-- node i's key -/
def keyAt (seed : Nat → Int) (i : Nat) : Nat → Int := sha (ofF 32 seed ++ [(i : Int)])
def keysF (seed : Nat → Int) : Nat → Int := fun j => keyAt seed (j / 32) (j % 32)
/-- a ring of n nodes lies at rg -/
def RingAt (w : World) (rg : Nat) (seed : Nat → Int) (n : Nat) : Prop :=
  ∃ kg, w.heap[rg]? = some (.cells #[.slice (some ⟨kg, 0, none⟩) n n] 60 (0, 0)) ∧ w.heap[kg]? = some (.cells (row .u8 (32 * n) (keysF seed)) 30 (0, 0)) ∧ 0 < n ∧ n ≤ 10
theorem RingAt.below {w w' : World} {rg n : Nat} {seed : Nat → Int} (h : RingAt w rg seed n) (hB : Below w.heap.size w w') : RingAt w' rg seed n := by
  obtain ⟨kg, a, b, c⟩ := h
  exact ⟨kg, Below.blk hB (lt_blk a) a, Below.blk hB (lt_blk b) b, c⟩
theorem RingAt.lt {w : World} {rg n : Nat} {seed : Nat → Int} (h : RingAt w rg seed n) : rg < w.heap.size := by obtain ⟨kg, a, _⟩ := h; exact lt_blk a
set_option maxHeartbeats 400000 in
theorem nodes_any (rg n : Nat) (seed : Nat → Int) (w : World) (h : RingAt w rg seed n) :
    Calls Try.prog 39 #[.pointer (some ⟨rg, 0, none⟩)] w fun e w' => e = .returned (.int .i64 (n : Int)) ∧ w' = w := by
  obtain ⟨kg, h0, h1, h2⟩ := h
  have c0 : w.cell? ⟨rg, 0, none⟩ = some (.slice (some ⟨kg, 0, none⟩) n n) := cell_blk h0 0
  clear h0 h1
  go_enter Try.func39, Try.ntmps39
  go_wp2
  go_ret
  exact ⟨rfl, rfl⟩
set_option maxHeartbeats 400000 in
theorem nodes_nil (w : World) : Calls Try.prog 39 #[.pointer none] w fun e w' => e = .returned (.int .i64 0) ∧ w' = w := by
  go_enter Try.func39, Try.ntmps39
  go_wp2
  go_ret
  exact ⟨rfl, rfl⟩
def hasB (n : Nat) (i : Int) : Bool := decide (0 ≤ i ∧ i < (n : Int))
set_option maxHeartbeats 400000 in
theorem has_any (rg n : Nat) (seed : Nat → Int) (i : Int) (w : World) (h : RingAt w rg seed n) :
    Calls Try.prog 75 #[.pointer (some ⟨rg, 0, none⟩), .int .i64 i] w fun e w' => e = .returned (.bool (hasB n i)) ∧ w' = w := by
  have H : Hid (RingAt w rg seed n) := h
  clear h
  by_cases h0 : 0 ≤ i
  · go_enter Try.func75, Try.ntmps75
    go_wp2_with (go_at_call 39; refine (nodes_any rg n seed _ H.out).mono ?_; rintro e w' ⟨rfl, rfl⟩)
    go_ret
    exact ⟨by simp [hasB, h0], rfl⟩
  · go_enter Try.func75, Try.ntmps75
    go_wp2_with (go_at_call 39; refine (nodes_any rg n seed _ H.out).mono ?_; rintro e w' ⟨rfl, rfl⟩)
    go_ret
    exact ⟨by simp [hasB]; omega, rfl⟩
set_option maxHeartbeats 400000 in
theorem has_nil (i : Int) (w : World) :
    Calls Try.prog 75 #[.pointer none, .int .i64 i] w fun e w' => e = .returned (.bool false) ∧ w' = w := by
  by_cases h0 : 0 ≤ i
  · have h1 : ¬ i < 0 := by omega
    go_enter Try.func75, Try.ntmps75
    go_wp2_with (go_at_call 39; refine (nodes_nil _).mono ?_; rintro e w' ⟨rfl, rfl⟩)
    go_ret
    exact ⟨by simp [h0], rfl⟩
  · go_enter Try.func75, Try.ntmps75
    go_wp2_with (go_at_call 39; refine (nodes_nil _).mono ?_; rintro e w' ⟨rfl, rfl⟩)
    go_ret
    exact ⟨rfl, rfl⟩
end Go.Proofs.Yticpkpphjpgdbaa
