/- WireNamed's walk: what an operation's kind does not name must be nothing. No condition. -/
import Derived.Test.YtkjocpadmlobgabWireX
import Derived.Test.YtkjocpadmlobgabWireJ
import Derived.Test.YtkjocpadmlobgabOLaw
import Derived.Deep.CutRange
namespace Go.Proofs.Ytkjocpadmlobgab
open Go.RowKit Go.Dig Go.Inv Go.Oct

set_option linter.unusedVariables false
theorem wp_load_opB {o : Oper} {a : Act} {w : World} {K : Act → World → Prop} {Q : Exit → Act → World → Prop} (x : Operand) (ho : o.op = .load 23 x) (b0 : Nat) (k c s : Int) (n : ByteArray) (p e t r : Int) (b : Bool) (ty : TypeId) (fr : Nat × Nat) (hx : a.eval x = .pointer (some ⟨b0, 0, none⟩))
    (hc : w.heap[b0]? = some (.cells (opC k c s n p e t r b) ty fr)) (h : K (a.put o.dst (.agg (opC k c s n p e t r b))) w) : o.wp Try.prog a w K Q := by
  obtain ⟨d, hd1, hd2⟩ := op_row
  refine wp_load_mid 23 x ho b0 0 hx (opC k c s n p e t r b).toList d (fun j v hv => ?_) hd1 hd2 (by rw [Array.length_toList]; exact op_info k c s n p e t r b) (by simpa using h)
  rw [Nat.zero_add, cell_blk hc]; simpa using hv
theorem wpList_load_opG {ops : Array Oper} {rest : List Oper} {o : Oper} {a : Act} {w : World} {Q : Exit → Act → World → Prop} {j : Nat} {g : Bool} (hgd : o.guard = some (j, g)) (hy : yielded ops a.tmps j = some g) (x : Operand) (ho : o.op = .load 23 x) (b0 : Nat) (k c s : Int) (n : ByteArray) (p e t r : Int) (b : Bool) (ty : TypeId) (fr : Nat × Nat) (hx : a.eval x = .pointer (some ⟨b0, 0, none⟩))
    (hc : w.heap[b0]? = some (.cells (opC k c s n p e t r b) ty fr)) (h : wpList Try.prog ops Q rest (a.put o.dst (.agg (opC k c s n p e t r b))) w) : wpList Try.prog ops Q (o :: rest) a w :=
  wpList_step fun _ hK => by
    rw [if_pos (by simp [Region.wanted, hgd, hy])]
    exact wp_load_opB x ho b0 k c s n p e t r b ty fr hx hc (hK _ _ h)
theorem opB_bounds {k c s : Int} {n : ByteArray} {p e t r : Int} {b : Bool} (h : opB k c s n p e t r b = true) : n.size ≤ 8 ∧ (0 ≤ p ∧ p ≤ 7) ∧ (0 ≤ e ∧ e ≤ 100) ∧ (0 ≤ t ∧ t ≤ 100) ∧ 0 ≤ r ∧ r ≤ 3 := by
  simp only [opB, txnB, Bool.and_eq_true, inB_iff] at h
  obtain ⟨⟨⟨⟨-, h1⟩, h2⟩, ⟨h3, h4⟩, h5⟩, h6⟩ := h
  refine ⟨?_, h3, h4, h5, h6⟩
  by_cases hk : k = 1
  · simp [hk] at h2
    simp [nameB] at h2
    omega
  · have : n = eN := by
      have he : (n == eN) = true := by
        unfold sameB at h1
        rw [if_neg hk] at h1
        split at h1
        · simp at h1; exact h1.1
        · split at h1
          · simp at h1; exact h1.1
          · simp at h1; exact h1.1
      rw [beq_eN] at he
      simpa using he
    rw [this]; decide
set_option maxRecDepth 10000 in
set_option maxHeartbeats 8000000 in
theorem wireNamed_any (k c s : Int) (n : ByteArray) (p e t r : Int) (b : Bool) (wh : Int) (w : World) (ik : inI k) (ic : inI c) (is : inI s) (hn : n.size ≤ maxLen) (ip : inI p) (ie : inI e) (it : inI t) (ir : inI r) :
    Calls Try.prog 3 #[.agg (opC k c s n p e t r b), .int .i64 wh] w fun x w' => x = .returned (.bool true) ∧ Below w.heap.size w w' := by
  have HB1 : Hid (Below w.heap.size w (w.alloc (.cells (opC k c s n p e t r b) 23))) := below_alloc _ _
  have HA : Hid ((w.alloc (.cells (opC k c s n p e t r b) 23)).heap[w.heap.size]? = some (.cells (opC k c s n p e t r b) 23 (0, 0))) := alloc_blk _ _
  have hn' : n.size < 9223372036854775808 := by unfold maxLen at hn; omega
  clear hn
  go_enter Try.func3, Try.ntmps3
  go_upto_region 1 with (refine wpList_box_row rfl 23 _ rfl _ rfl ?_)
  generalize w.alloc (.cells (opC k c s n p e t r b) 23) = w1 at *
  have hz1 : w.heap.size < w1.heap.size := lt_blk HA.out
  go_wp2_with (refine wpList_load_op rfl _ rfl w.heap.size k c s n p e t r b 23 (0, 0) ?_ ?_ ?_; rfl; exact HA.out)
  refine (rIsOp_any k c s n p e t r b w1 hn').mono ?_
  rintro x w2 ⟨rfl, hB2⟩
  have hW2 : Below w.heap.size w w2 := HB1.out.trans (hB2.mono (by omega))
  have HA2 : Hid (w2.heap[w.heap.size]? = some (.cells (opC k c s n p e t r b) 23 (0, 0))) := (hB2.block _ hz1).trans HA.out
  clear hB2 HA HB1
  cases hob : opB k c s n p e t r b
  · go_wp2_with fail
    go_ret
    exact ⟨rfl, hW2⟩
  obtain ⟨b1, b2, b3, b4, b5⟩ := opB_bounds hob
  by_cases q0 : wh < 0
  · go_wp2_with fail
    go_ret
    exact ⟨rfl, hW2⟩
  by_cases q4 : 4 < wh
  · go_wp2_with fail
    go_ret
    exact ⟨rfl, hW2⟩
  have hs2 : w.heap.size < w2.heap.size := lt_blk HA2.out
  go_upto_region 4 with (first | (refine wpList_load_op rfl _ rfl w.heap.size k c s n p e t r b 23 (0, 0) ?_ ?_ ?_; rfl; exact HA2.out) | (refine wpList_store_op rfl _ _ rfl w2.heap.size k c s n p e t r b _ ?_ ?_ (alloc_blk _ _) ?_ ?_; rfl; rfl; rfl))
  rw [setRow_new]
  have HG3 : Hid ((w2.alloc (.cells (opC k c s n p e t r b) 23)).heap[w2.heap.size]? = some (.cells (opC k c s n p e t r b) 23 (0, 0))) := alloc_blk _ _
  have HA3 : Hid ((w2.alloc (.cells (opC k c s n p e t r b) 23)).heap[w.heap.size]? = some (.cells (opC k c s n p e t r b) 23 (0, 0))) := alloc_blk_old HA2.out _
  have hW3 : Below w.heap.size w (w2.alloc (.cells (opC k c s n p e t r b) 23)) := hW2.alloc (by omega) _
  generalize w2.alloc (.cells (opC k c s n p e t r b) 23) = w3 at *
  obtain ⟨g, hg⟩ : ∃ g, w2.heap.size = g := ⟨_, rfl⟩
  rw [hg] at HG3 hs2
  simp only [hg]
  clear hg HA2 hW2
  simp only [Act.put]
  by_cases qq : wh = 0
  · subst qq
    have hc1 : w3.cell? ⟨w.heap.size, 3, none⟩ = some (.string n) := (cell_blk HA3.out _).trans rfl
    have hc2 : w3.cell? ⟨g, 3, none⟩ = some (.string n) := (cell_blk HG3.out _).trans rfl
    have hf2 : w3.frozen? ⟨g, 3, none⟩ = false := frozen_blk HG3.out _
    have HG4 : Hid ((w3.setCell ⟨g, 3, none⟩ (.string (n ++ ⟨#[97]⟩))).heap[g]? = some (.cells (opC k c s (n ++ ⟨#[97]⟩) p e t r b) 23 (0, 0))) := (set_blk HG3.out _ _).trans rfl
    have HA4 : Hid ((w3.setCell ⟨g, 3, none⟩ (.string (n ++ ⟨#[97]⟩))).heap[w.heap.size]? = some (.cells (opC k c s n p e t r b) 23 (0, 0))) := (Below.heap_setCell _ _ _ _ (by simp; omega)).trans HA3.out
    have hW4 : Below w.heap.size w (w3.setCell ⟨g, 3, none⟩ (.string (n ++ ⟨#[97]⟩))) := hW3.setCell (p := ⟨g, 3, none⟩) (by simp; omega) _
    have hsn : (n ++ (⟨#[97]⟩ : ByteArray)).size = n.size + 1 := by rw [ByteArray.size_append]; rfl
    go_upto_region 14 with fail
    generalize w3.setCell ⟨g, 3, none⟩ (.string (n ++ ⟨#[97]⟩)) = w4 at *
    clear hc1 hc2 hf2 HG3 HA3 hW3
    have HSN : Hid ((n ++ (⟨#[97]⟩ : ByteArray)).size = n.size + 1) := hsn
    clear hsn
    generalize n ++ (⟨#[97]⟩ : ByteArray) = n2 at *
    go_wp2_with (refine wpList_load_op rfl _ rfl w.heap.size k c s n p e t r b 23 (0, 0) ?_ ?_ ?_; rfl; exact HA4.out)
    refine (encodeOp_any k c s n p e t r b w4 ik ic is ip ie it ir (by omega)).mono ?_
    rintro x w5 ⟨v5, rfl, -, hB5⟩
    have hz4 : w.heap.size < w4.heap.size := lt_blk HA4.out
    have hW5 : Below w.heap.size w w5 := hW4.trans (hB5.mono (by omega))
    have HG5 : Hid (w5.heap[g]? = some (.cells (opC k c s n2 p e t r b) 23 (0, 0))) := (hB5.block _ (lt_blk HG4.out)).trans HG4.out
    rw [hob]
    simp only [if_true]
    clear hB5 HG4 HA4 hW4
    go_wp2_with (refine wpList_load_op rfl _ rfl g k c s n2 p e t r b 23 (0, 0) ?_ ?_ ?_; rfl; exact HG5.out)
    refine (encodeOp_any k c s n2 p e t r b w5 ik ic is ip ie it ir (by have := HSN.out; omega)).mono ?_
    rintro x w6 ⟨v6, rfl, -, hB6⟩
    have hz5 : w.heap.size < w5.heap.size := by have := lt_blk HG5.out; omega
    have hW6 : Below w.heap.size w w6 := hW5.trans (hB6.mono (by omega))
    have HG6 : Hid (w6.heap[g]? = some (.cells (opC k c s n2 p e t r b) 23 (0, 0))) := (hB6.block _ (lt_blk HG5.out)).trans HG5.out
    clear hB6 HG5 hW5
    obtain ⟨ob, HOB⟩ : ∃ ob, Hid (opB k c s n2 p e t r b = ob) := ⟨_, rfl⟩
    rw [HOB.out]
    cases ob
    · simp only [Bool.false_eq_true, if_false]
      go_wp2_with (refine wpList_load_opG rfl rfl _ rfl g k c s n2 p e t r b 23 (0, 0) ?_ ?_ ?_; rfl; exact HG6.out)
      refine (rIsOp_any k c s n2 p e t r b w6 (by have := HSN.out; omega)).mono ?_
      rintro x w7 ⟨rfl, hB7⟩
      rw [HOB.out]
      have hW7 : Below w.heap.size w w7 := hW6.trans (hB7.mono (by have := lt_blk HG6.out; omega))
      go_wp2_with fail
      refine (known5_any w7).mono ?_
      rintro x w8 ⟨rfl, hB8⟩
      have hW8 : Below w.heap.size w w8 := hW7.trans (hB8.mono hW7.size)
      go_wp2_with fail
      go_ret
      exact ⟨rfl, hW8⟩
    · simp only [if_true]
      go_wp2_with (refine wpList_load_opG rfl rfl _ rfl g k c s n2 p e t r b 23 (0, 0) ?_ ?_ ?_; rfl; exact HG6.out)
      refine (rIsOp_any k c s n2 p e t r b w6 (by have := HSN.out; omega)).mono ?_
      rintro x w7 ⟨rfl, hB7⟩
      rw [HOB.out]
      have hW7 : Below w.heap.size w w7 := hW6.trans (hB7.mono (by have := lt_blk HG6.out; omega))
      go_wp2_with fail
      refine (known5_any w7).mono ?_
      rintro x w8 ⟨rfl, hB8⟩
      have hW8 : Below w.heap.size w w8 := hW7.trans (hB8.mono hW7.size)
      go_wp2_with fail
      go_ret
      exact ⟨rfl, hW8⟩
  by_cases qq : wh = 1
  · subst qq
    have hc1 : w3.cell? ⟨w.heap.size, 7, none⟩ = some (.int .i64 r) := (cell_blk HA3.out _).trans rfl
    have hc2 : w3.cell? ⟨g, 7, none⟩ = some (.int .i64 r) := (cell_blk HG3.out _).trans rfl
    have hf2 : w3.frozen? ⟨g, 7, none⟩ = false := frozen_blk HG3.out _
    have HG4 : Hid ((w3.setCell ⟨g, 7, none⟩ (.int .i64 (r + 1))).heap[g]? = some (.cells (opC k c s n p e t (r + 1) b) 23 (0, 0))) := (set_blk HG3.out _ _).trans rfl
    have HA4 : Hid ((w3.setCell ⟨g, 7, none⟩ (.int .i64 (r + 1))).heap[w.heap.size]? = some (.cells (opC k c s n p e t r b) 23 (0, 0))) := (Below.heap_setCell _ _ _ _ (by simp; omega)).trans HA3.out
    have hW4 : Below w.heap.size w (w3.setCell ⟨g, 7, none⟩ (.int .i64 (r + 1))) := hW3.setCell (p := ⟨g, 7, none⟩) (by simp; omega) _
    go_upto_region 14 with fail
    generalize w3.setCell ⟨g, 7, none⟩ (.int .i64 (r + 1)) = w4 at *
    clear hc1 hc2 hf2 HG3 HA3 hW3
    go_wp2_with (refine wpList_load_op rfl _ rfl w.heap.size k c s n p e t r b 23 (0, 0) ?_ ?_ ?_; rfl; exact HA4.out)
    refine (encodeOp_any k c s n p e t r b w4 ik ic is ip ie it ir (by omega)).mono ?_
    rintro x w5 ⟨v5, rfl, -, hB5⟩
    have hz4 : w.heap.size < w4.heap.size := lt_blk HA4.out
    have hW5 : Below w.heap.size w w5 := hW4.trans (hB5.mono (by omega))
    have HG5 : Hid (w5.heap[g]? = some (.cells (opC k c s n p e t (r + 1) b) 23 (0, 0))) := (hB5.block _ (lt_blk HG4.out)).trans HG4.out
    rw [hob]
    simp only [if_true]
    clear hB5 HG4 HA4 hW4
    go_wp2_with (refine wpList_load_op rfl _ rfl g k c s n p e t (r + 1) b 23 (0, 0) ?_ ?_ ?_; rfl; exact HG5.out)
    refine (encodeOp_any k c s n p e t (r + 1) b w5 ik ic is ip ie it (⟨by omega, by omega⟩) (by omega)).mono ?_
    rintro x w6 ⟨v6, rfl, -, hB6⟩
    have hz5 : w.heap.size < w5.heap.size := by have := lt_blk HG5.out; omega
    have hW6 : Below w.heap.size w w6 := hW5.trans (hB6.mono (by omega))
    have HG6 : Hid (w6.heap[g]? = some (.cells (opC k c s n p e t (r + 1) b) 23 (0, 0))) := (hB6.block _ (lt_blk HG5.out)).trans HG5.out
    clear hB6 HG5 hW5
    obtain ⟨ob, HOB⟩ : ∃ ob, Hid (opB k c s n p e t (r + 1) b = ob) := ⟨_, rfl⟩
    rw [HOB.out]
    cases ob
    · simp only [Bool.false_eq_true, if_false]
      go_wp2_with (refine wpList_load_opG rfl rfl _ rfl g k c s n p e t (r + 1) b 23 (0, 0) ?_ ?_ ?_; rfl; exact HG6.out)
      refine (rIsOp_any k c s n p e t (r + 1) b w6 (by omega)).mono ?_
      rintro x w7 ⟨rfl, hB7⟩
      rw [HOB.out]
      have hW7 : Below w.heap.size w w7 := hW6.trans (hB7.mono (by have := lt_blk HG6.out; omega))
      go_wp2_with fail
      refine (known5_any w7).mono ?_
      rintro x w8 ⟨rfl, hB8⟩
      have hW8 : Below w.heap.size w w8 := hW7.trans (hB8.mono hW7.size)
      go_wp2_with fail
      go_ret
      exact ⟨rfl, hW8⟩
    · simp only [if_true]
      go_wp2_with (refine wpList_load_opG rfl rfl _ rfl g k c s n p e t (r + 1) b 23 (0, 0) ?_ ?_ ?_; rfl; exact HG6.out)
      refine (rIsOp_any k c s n p e t (r + 1) b w6 (by omega)).mono ?_
      rintro x w7 ⟨rfl, hB7⟩
      rw [HOB.out]
      have hW7 : Below w.heap.size w w7 := hW6.trans (hB7.mono (by have := lt_blk HG6.out; omega))
      go_wp2_with fail
      refine (known5_any w7).mono ?_
      rintro x w8 ⟨rfl, hB8⟩
      have hW8 : Below w.heap.size w w8 := hW7.trans (hB8.mono hW7.size)
      go_wp2_with fail
      go_ret
      exact ⟨rfl, hW8⟩
  by_cases qq : wh = 2
  · subst qq
    have hc1 : w3.cell? ⟨w.heap.size, 8, none⟩ = some (.bool b) := (cell_blk HA3.out _).trans rfl
    have hc2 : w3.cell? ⟨g, 8, none⟩ = some (.bool b) := (cell_blk HG3.out _).trans rfl
    have hf2 : w3.frozen? ⟨g, 8, none⟩ = false := frozen_blk HG3.out _
    have HG4 : Hid ((w3.setCell ⟨g, 8, none⟩ (.bool !b)).heap[g]? = some (.cells (opC k c s n p e t r (!b)) 23 (0, 0))) := (set_blk HG3.out _ _).trans rfl
    have HA4 : Hid ((w3.setCell ⟨g, 8, none⟩ (.bool !b)).heap[w.heap.size]? = some (.cells (opC k c s n p e t r b) 23 (0, 0))) := (Below.heap_setCell _ _ _ _ (by simp; omega)).trans HA3.out
    have hW4 : Below w.heap.size w (w3.setCell ⟨g, 8, none⟩ (.bool !b)) := hW3.setCell (p := ⟨g, 8, none⟩) (by simp; omega) _
    go_upto_region 14 with fail
    generalize w3.setCell ⟨g, 8, none⟩ (.bool !b) = w4 at *
    clear hc1 hc2 hf2 HG3 HA3 hW3
    go_wp2_with (refine wpList_load_op rfl _ rfl w.heap.size k c s n p e t r b 23 (0, 0) ?_ ?_ ?_; rfl; exact HA4.out)
    refine (encodeOp_any k c s n p e t r b w4 ik ic is ip ie it ir (by omega)).mono ?_
    rintro x w5 ⟨v5, rfl, -, hB5⟩
    have hz4 : w.heap.size < w4.heap.size := lt_blk HA4.out
    have hW5 : Below w.heap.size w w5 := hW4.trans (hB5.mono (by omega))
    have HG5 : Hid (w5.heap[g]? = some (.cells (opC k c s n p e t r (!b)) 23 (0, 0))) := (hB5.block _ (lt_blk HG4.out)).trans HG4.out
    rw [hob]
    simp only [if_true]
    clear hB5 HG4 HA4 hW4
    go_wp2_with (refine wpList_load_op rfl _ rfl g k c s n p e t r (!b) 23 (0, 0) ?_ ?_ ?_; rfl; exact HG5.out)
    refine (encodeOp_any k c s n p e t r (!b) w5 ik ic is ip ie it ir (by omega)).mono ?_
    rintro x w6 ⟨v6, rfl, -, hB6⟩
    have hz5 : w.heap.size < w5.heap.size := by have := lt_blk HG5.out; omega
    have hW6 : Below w.heap.size w w6 := hW5.trans (hB6.mono (by omega))
    have HG6 : Hid (w6.heap[g]? = some (.cells (opC k c s n p e t r (!b)) 23 (0, 0))) := (hB6.block _ (lt_blk HG5.out)).trans HG5.out
    clear hB6 HG5 hW5
    obtain ⟨ob, HOB⟩ : ∃ ob, Hid (opB k c s n p e t r (!b) = ob) := ⟨_, rfl⟩
    rw [HOB.out]
    cases ob
    · simp only [Bool.false_eq_true, if_false]
      go_wp2_with (refine wpList_load_opG rfl rfl _ rfl g k c s n p e t r (!b) 23 (0, 0) ?_ ?_ ?_; rfl; exact HG6.out)
      refine (rIsOp_any k c s n p e t r (!b) w6 (by omega)).mono ?_
      rintro x w7 ⟨rfl, hB7⟩
      rw [HOB.out]
      have hW7 : Below w.heap.size w w7 := hW6.trans (hB7.mono (by have := lt_blk HG6.out; omega))
      go_wp2_with fail
      refine (known5_any w7).mono ?_
      rintro x w8 ⟨rfl, hB8⟩
      have hW8 : Below w.heap.size w w8 := hW7.trans (hB8.mono hW7.size)
      go_wp2_with fail
      go_ret
      exact ⟨rfl, hW8⟩
    · simp only [if_true]
      go_wp2_with (refine wpList_load_opG rfl rfl _ rfl g k c s n p e t r (!b) 23 (0, 0) ?_ ?_ ?_; rfl; exact HG6.out)
      refine (rIsOp_any k c s n p e t r (!b) w6 (by omega)).mono ?_
      rintro x w7 ⟨rfl, hB7⟩
      rw [HOB.out]
      have hW7 : Below w.heap.size w w7 := hW6.trans (hB7.mono (by have := lt_blk HG6.out; omega))
      go_wp2_with fail
      refine (known5_any w7).mono ?_
      rintro x w8 ⟨rfl, hB8⟩
      have hW8 : Below w.heap.size w w8 := hW7.trans (hB8.mono hW7.size)
      go_wp2_with fail
      go_ret
      exact ⟨rfl, hW8⟩
  by_cases qq : wh = 3
  · subst qq
    have hc1 : w3.cell? ⟨w.heap.size, 6, none⟩ = some (.int .i64 t) := (cell_blk HA3.out _).trans rfl
    have hc2 : w3.cell? ⟨g, 6, none⟩ = some (.int .i64 t) := (cell_blk HG3.out _).trans rfl
    have hf2 : w3.frozen? ⟨g, 6, none⟩ = false := frozen_blk HG3.out _
    have HG4 : Hid ((w3.setCell ⟨g, 6, none⟩ (.int .i64 (t + 1))).heap[g]? = some (.cells (opC k c s n p e (t + 1) r b) 23 (0, 0))) := (set_blk HG3.out _ _).trans rfl
    have HA4 : Hid ((w3.setCell ⟨g, 6, none⟩ (.int .i64 (t + 1))).heap[w.heap.size]? = some (.cells (opC k c s n p e t r b) 23 (0, 0))) := (Below.heap_setCell _ _ _ _ (by simp; omega)).trans HA3.out
    have hW4 : Below w.heap.size w (w3.setCell ⟨g, 6, none⟩ (.int .i64 (t + 1))) := hW3.setCell (p := ⟨g, 6, none⟩) (by simp; omega) _
    go_upto_region 14 with fail
    generalize w3.setCell ⟨g, 6, none⟩ (.int .i64 (t + 1)) = w4 at *
    clear hc1 hc2 hf2 HG3 HA3 hW3
    go_wp2_with (refine wpList_load_op rfl _ rfl w.heap.size k c s n p e t r b 23 (0, 0) ?_ ?_ ?_; rfl; exact HA4.out)
    refine (encodeOp_any k c s n p e t r b w4 ik ic is ip ie it ir (by omega)).mono ?_
    rintro x w5 ⟨v5, rfl, -, hB5⟩
    have hz4 : w.heap.size < w4.heap.size := lt_blk HA4.out
    have hW5 : Below w.heap.size w w5 := hW4.trans (hB5.mono (by omega))
    have HG5 : Hid (w5.heap[g]? = some (.cells (opC k c s n p e (t + 1) r b) 23 (0, 0))) := (hB5.block _ (lt_blk HG4.out)).trans HG4.out
    rw [hob]
    simp only [if_true]
    clear hB5 HG4 HA4 hW4
    go_wp2_with (refine wpList_load_op rfl _ rfl g k c s n p e (t + 1) r b 23 (0, 0) ?_ ?_ ?_; rfl; exact HG5.out)
    refine (encodeOp_any k c s n p e (t + 1) r b w5 ik ic is ip ie (⟨by omega, by omega⟩) ir (by omega)).mono ?_
    rintro x w6 ⟨v6, rfl, -, hB6⟩
    have hz5 : w.heap.size < w5.heap.size := by have := lt_blk HG5.out; omega
    have hW6 : Below w.heap.size w w6 := hW5.trans (hB6.mono (by omega))
    have HG6 : Hid (w6.heap[g]? = some (.cells (opC k c s n p e (t + 1) r b) 23 (0, 0))) := (hB6.block _ (lt_blk HG5.out)).trans HG5.out
    clear hB6 HG5 hW5
    obtain ⟨ob, HOB⟩ : ∃ ob, Hid (opB k c s n p e (t + 1) r b = ob) := ⟨_, rfl⟩
    rw [HOB.out]
    cases ob
    · simp only [Bool.false_eq_true, if_false]
      go_wp2_with (refine wpList_load_opG rfl rfl _ rfl g k c s n p e (t + 1) r b 23 (0, 0) ?_ ?_ ?_; rfl; exact HG6.out)
      refine (rIsOp_any k c s n p e (t + 1) r b w6 (by omega)).mono ?_
      rintro x w7 ⟨rfl, hB7⟩
      rw [HOB.out]
      have hW7 : Below w.heap.size w w7 := hW6.trans (hB7.mono (by have := lt_blk HG6.out; omega))
      go_wp2_with fail
      refine (known5_any w7).mono ?_
      rintro x w8 ⟨rfl, hB8⟩
      have hW8 : Below w.heap.size w w8 := hW7.trans (hB8.mono hW7.size)
      go_wp2_with fail
      go_ret
      exact ⟨rfl, hW8⟩
    · simp only [if_true]
      go_wp2_with (refine wpList_load_opG rfl rfl _ rfl g k c s n p e (t + 1) r b 23 (0, 0) ?_ ?_ ?_; rfl; exact HG6.out)
      refine (rIsOp_any k c s n p e (t + 1) r b w6 (by omega)).mono ?_
      rintro x w7 ⟨rfl, hB7⟩
      rw [HOB.out]
      have hW7 : Below w.heap.size w w7 := hW6.trans (hB7.mono (by have := lt_blk HG6.out; omega))
      go_wp2_with fail
      refine (known5_any w7).mono ?_
      rintro x w8 ⟨rfl, hB8⟩
      have hW8 : Below w.heap.size w w8 := hW7.trans (hB8.mono hW7.size)
      go_wp2_with fail
      go_ret
      exact ⟨rfl, hW8⟩
  obtain qq : wh = 4 := by omega
  · subst qq
    have hc1 : w3.cell? ⟨w.heap.size, 5, none⟩ = some (.int .i64 e) := (cell_blk HA3.out _).trans rfl
    have hc2 : w3.cell? ⟨g, 5, none⟩ = some (.int .i64 e) := (cell_blk HG3.out _).trans rfl
    have hf2 : w3.frozen? ⟨g, 5, none⟩ = false := frozen_blk HG3.out _
    have HG4 : Hid ((w3.setCell ⟨g, 5, none⟩ (.int .i64 (e + 1))).heap[g]? = some (.cells (opC k c s n p (e + 1) t r b) 23 (0, 0))) := (set_blk HG3.out _ _).trans rfl
    have HA4 : Hid ((w3.setCell ⟨g, 5, none⟩ (.int .i64 (e + 1))).heap[w.heap.size]? = some (.cells (opC k c s n p e t r b) 23 (0, 0))) := (Below.heap_setCell _ _ _ _ (by simp; omega)).trans HA3.out
    have hW4 : Below w.heap.size w (w3.setCell ⟨g, 5, none⟩ (.int .i64 (e + 1))) := hW3.setCell (p := ⟨g, 5, none⟩) (by simp; omega) _
    go_upto_region 14 with fail
    generalize w3.setCell ⟨g, 5, none⟩ (.int .i64 (e + 1)) = w4 at *
    clear hc1 hc2 hf2 HG3 HA3 hW3
    go_wp2_with (refine wpList_load_op rfl _ rfl w.heap.size k c s n p e t r b 23 (0, 0) ?_ ?_ ?_; rfl; exact HA4.out)
    refine (encodeOp_any k c s n p e t r b w4 ik ic is ip ie it ir (by omega)).mono ?_
    rintro x w5 ⟨v5, rfl, -, hB5⟩
    have hz4 : w.heap.size < w4.heap.size := lt_blk HA4.out
    have hW5 : Below w.heap.size w w5 := hW4.trans (hB5.mono (by omega))
    have HG5 : Hid (w5.heap[g]? = some (.cells (opC k c s n p (e + 1) t r b) 23 (0, 0))) := (hB5.block _ (lt_blk HG4.out)).trans HG4.out
    rw [hob]
    simp only [if_true]
    clear hB5 HG4 HA4 hW4
    go_wp2_with (refine wpList_load_op rfl _ rfl g k c s n p (e + 1) t r b 23 (0, 0) ?_ ?_ ?_; rfl; exact HG5.out)
    refine (encodeOp_any k c s n p (e + 1) t r b w5 ik ic is ip (⟨by omega, by omega⟩) it ir (by omega)).mono ?_
    rintro x w6 ⟨v6, rfl, -, hB6⟩
    have hz5 : w.heap.size < w5.heap.size := by have := lt_blk HG5.out; omega
    have hW6 : Below w.heap.size w w6 := hW5.trans (hB6.mono (by omega))
    have HG6 : Hid (w6.heap[g]? = some (.cells (opC k c s n p (e + 1) t r b) 23 (0, 0))) := (hB6.block _ (lt_blk HG5.out)).trans HG5.out
    clear hB6 HG5 hW5
    obtain ⟨ob, HOB⟩ : ∃ ob, Hid (opB k c s n p (e + 1) t r b = ob) := ⟨_, rfl⟩
    rw [HOB.out]
    cases ob
    · simp only [Bool.false_eq_true, if_false]
      go_wp2_with (refine wpList_load_opG rfl rfl _ rfl g k c s n p (e + 1) t r b 23 (0, 0) ?_ ?_ ?_; rfl; exact HG6.out)
      refine (rIsOp_any k c s n p (e + 1) t r b w6 (by omega)).mono ?_
      rintro x w7 ⟨rfl, hB7⟩
      rw [HOB.out]
      have hW7 : Below w.heap.size w w7 := hW6.trans (hB7.mono (by have := lt_blk HG6.out; omega))
      go_wp2_with fail
      refine (known5_any w7).mono ?_
      rintro x w8 ⟨rfl, hB8⟩
      have hW8 : Below w.heap.size w w8 := hW7.trans (hB8.mono hW7.size)
      go_wp2_with fail
      go_ret
      exact ⟨rfl, hW8⟩
    · simp only [if_true]
      go_wp2_with (refine wpList_load_opG rfl rfl _ rfl g k c s n p (e + 1) t r b 23 (0, 0) ?_ ?_ ?_; rfl; exact HG6.out)
      refine (rIsOp_any k c s n p (e + 1) t r b w6 (by omega)).mono ?_
      rintro x w7 ⟨rfl, hB7⟩
      rw [HOB.out]
      have hW7 : Below w.heap.size w w7 := hW6.trans (hB7.mono (by have := lt_blk HG6.out; omega))
      go_wp2_with fail
      refine (known5_any w7).mono ?_
      rintro x w8 ⟨rfl, hB8⟩
      have hW8 : Below w.heap.size w w8 := hW7.trans (hB8.mono hW7.size)
      go_wp2_with fail
      go_ret
      exact ⟨rfl, hW8⟩
end Go.Proofs.Ytkjocpadmlobgab
