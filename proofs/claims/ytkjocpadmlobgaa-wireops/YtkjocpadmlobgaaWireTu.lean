/- WireTurned's walk: a mark's bytes of which one is turned are never read as that mark. No condition. -/
import Derived.Test.YtkjocpadmlobgaaWireDk
import Derived.Test.YtkjocpadmlobgaaRefM
import Derived.Laws.BitsAllLaws
namespace Go.Proofs.Ytkjocpadmlobgaa
open Go.RowKit Go.Dig Go.Inv Go.Oct

set_option linter.unusedVariables false
def mf (k p e t : Int) : Nat → Int := fun j => if j = 0 then k else if j = 1 then p else if j = 2 then e else t
theorem mf_c (k p e t : Int) : markC (mf k p e t) = #[.int .i64 k, .int .i64 p, .int .i64 e, .int .i64 t] := rfl
theorem i64_and65535 (n : Int) : bits .and .i64 n 65535 = n % 65536 := by
  have hm : (BitVec.ofInt 64 65535).toNat = 2 ^ 16 - 1 := by decide
  have key : (BitVec.ofInt 64 n &&& BitVec.ofInt 64 65535).toNat = (n % ((2 ^ 64 : Nat) : Int)).toNat % 2 ^ 16 := by
    rw [BitVec.toNat_and, BitVec.toNat_ofInt, hm, Nat.and_two_pow_sub_one_eq_mod]
  show IntKind.i64.wrap ((BitVec.ofInt 64 n &&& BitVec.ofInt 64 65535).toNat : Nat) = n % 65536
  rw [key, IntKind.wrap_i64]
  omega
theorem num_small {z : Int} (h0 : 0 ≤ z) (h1 : z < 128) : num z = [z] := by
  unfold num
  have hc : ((cutN z : Nat) : Int) = z := by rw [cutN_int]; omega
  rw [numA_small (by omega), hc]
theorem encMark_five {k p e t : Int} (h : markB k p e t = true) : encMark k p e t = [3, k, p, e, t] ∧ (1 ≤ k ∧ k ≤ 3) ∧ (0 ≤ p ∧ p ≤ 7) ∧ (0 ≤ e ∧ e ≤ 100) ∧ 0 ≤ t ∧ t ≤ 100 := by
  simp only [markB, txnB, Bool.and_eq_true, inB_iff] at h
  obtain ⟨⟨-, hk⟩, ⟨hp, he⟩, ht⟩ := h
  refine ⟨?_, hk, hp, he, ht⟩
  unfold encMark
  simp only [nums_cons, nums_nil, List.append_nil]
  rw [num_small (z := 3) (by decide) (by decide), num_small (z := k) (by omega) (by omega), num_small (z := p) (by omega) (by omega), num_small (z := e) (by omega) (by omega), num_small (z := t) (by omega) (by omega)]
  rfl
theorem equal_marks (a b : Nat → Int) (w : World) : (Op.equalIn 10000 44 (.agg (markC a)) (.agg (markC b))).run Try.prog w = .ok (a 0 == b 0 && (a 1 == b 1 && (a 2 == b 2 && a 3 == b 3))) w := by
  have h := run_equalIn_struct (P := Try.prog) w 9999 44 (markC a) (markC b) (by kernel_rfl) (by kernel_rfl)
  refine h.trans ?_
  clear h
  simp [Op.eqFields, markC, go_sem]
  repeat' split
  all_goals simp_all
theorem wpList_load_markG {ops : Array Oper} {rest : List Oper} {o : Oper} {a : Act} {w : World} {Q : Exit → Act → World → Prop} {j : Nat} {c : Bool} (hgd : o.guard = some (j, c)) (hy : yielded ops a.tmps j = some c) (x : Operand) (ho : o.op = .load 44 x) (g : Nat) (z : Nat → Int) (t : TypeId) (fr : Nat × Nat) (hx : a.eval x = .pointer (some ⟨g, 0, none⟩)) (hg : w.heap[g]? = some (.cells (markC z) t fr)) (h : wpList Try.prog ops Q rest (a.put o.dst (.agg (markC z))) w) : wpList Try.prog ops Q (o :: rest) a w :=
  wpList_step fun _ hK => by
    rw [if_pos (by simp [Region.wanted, hgd, hy])]
    obtain ⟨d, hd1, hd2⟩ := mark_desc
    refine wp_load_mid 44 x ho g 0 hx (markC z).toList d (fun j v hv => ?_) hd1 hd2 (by rw [Array.length_toList]; exact mark_info z) (by simpa using hK _ _ h)
    rw [Nat.zero_add, cell_blk hg]; simpa using hv
theorem xor_turned {x y : Int} (hx : 0 ≤ x ∧ x < 256) (hy : 0 ≤ y ∧ y < 256) (h0 : ¬ y = 0) : ∃ z : Int, bits .xor .u8 x y = z ∧ ¬ z = x ∧ 0 ≤ z ∧ z < 256 := by
  obtain ⟨a, rfl⟩ := Int.eq_ofNat_of_zero_le hx.1
  obtain ⟨b, rfl⟩ := Int.eq_ofNat_of_zero_le hy.1
  refine ⟨_, u8_xor_nat a b (by omega) (by omega), fun h => h0 ?_, by omega, ?_⟩
  · have h' : a ^^^ b = a := by omega
    have : b = 0 := by
      have h2 : a ^^^ (a ^^^ b) = a ^^^ a := by rw [h']
      rw [← Nat.xor_assoc, Nat.xor_self, Nat.zero_xor] at h2
      exact h2
    omega
  · have := Nat.xor_lt_two_pow (n := 8) (show a < 2 ^ 8 by omega) (show b < 2 ^ 8 by omega)
    omega
end Go.Proofs.Ytkjocpadmlobgaa
