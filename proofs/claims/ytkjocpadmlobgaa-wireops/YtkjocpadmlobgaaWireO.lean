/- WireNamed's walk: what an operation's kind does not name must be nothing. No condition. -/
import Derived.Test.YtkjocpadmlobgaaWireX
import Derived.Test.YtkjocpadmlobgaaWireJ
import Derived.Test.YtkjocpadmlobgaaOLaw
import Derived.Deep.CutRange
namespace Go.Proofs.Ytkjocpadmlobgaa
open Go.RowKit Go.Dig Go.Inv Go.Oct

set_option linter.unusedVariables false
theorem wp_load_opB {o : Oper} {a : Act} {w : World} {K : Act → World → Prop} {Q : Exit → Act → World → Prop} (x : Operand) (ho : o.op = .load 42 x) (b0 : Nat) (k c s : Int) (n : ByteArray) (p e t r : Int) (b : Bool) (ty : TypeId) (fr : Nat × Nat) (hx : a.eval x = .pointer (some ⟨b0, 0, none⟩))
    (hc : w.heap[b0]? = some (.cells (opC k c s n p e t r b) ty fr)) (h : K (a.put o.dst (.agg (opC k c s n p e t r b))) w) : o.wp Try.prog a w K Q := by
  obtain ⟨d, hd1, hd2⟩ := op_row
  refine wp_load_mid 42 x ho b0 0 hx (opC k c s n p e t r b).toList d (fun j v hv => ?_) hd1 hd2 (by rw [Array.length_toList]; exact op_info k c s n p e t r b) (by simpa using h)
  rw [Nat.zero_add, cell_blk hc]; simpa using hv
theorem wpList_load_opG {ops : Array Oper} {rest : List Oper} {o : Oper} {a : Act} {w : World} {Q : Exit → Act → World → Prop} {j : Nat} {g : Bool} (hgd : o.guard = some (j, g)) (hy : yielded ops a.tmps j = some g) (x : Operand) (ho : o.op = .load 42 x) (b0 : Nat) (k c s : Int) (n : ByteArray) (p e t r : Int) (b : Bool) (ty : TypeId) (fr : Nat × Nat) (hx : a.eval x = .pointer (some ⟨b0, 0, none⟩))
    (hc : w.heap[b0]? = some (.cells (opC k c s n p e t r b) ty fr)) (h : wpList Try.prog ops Q rest (a.put o.dst (.agg (opC k c s n p e t r b))) w) : wpList Try.prog ops Q (o :: rest) a w :=
  wpList_step fun _ hK => by
    rw [if_pos (by simp [Region.wanted, hgd, hy])]
    exact wp_load_opB x ho b0 k c s n p e t r b ty fr hx hc (hK _ _ h)
theorem opB_bounds {k c s : Int} {n : ByteArray} {p e t r : Int} {b : Bool} (h : opB k c s n p e t r b = true) : n.size ≤ 8 ∧ (0 ≤ p ∧ p ≤ 7) ∧ (0 ≤ e ∧ e ≤ 100) ∧ (0 ≤ t ∧ t ≤ 100) ∧ 0 ≤ r ∧ r ≤ 3 := by
  simp only [opB, txnB, Bool.and_eq_true, inB_iff] at h
  obtain ⟨⟨⟨⟨-, h1⟩, h2⟩, ⟨h3, h4⟩, h5⟩, h6⟩ := h
  refine ⟨?_, h3, h4, h5, h6⟩
  by_cases hk : k = 1
  · simp [hk] at h2
    simp [nameB] at h2
    omega
  · have : n = eN := by
      have he : (n == eN) = true := by
        unfold sameB at h1
        rw [if_neg hk] at h1
        split at h1
        · simp at h1; exact h1.1
        · split at h1
          · simp at h1; exact h1.1
          · simp at h1; exact h1.1
      rw [beq_eN] at he
      simpa using he
    rw [this]; decide
end Go.Proofs.Ytkjocpadmlobgaa
