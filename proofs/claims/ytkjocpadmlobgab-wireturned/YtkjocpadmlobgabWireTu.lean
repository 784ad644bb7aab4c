/- WireTurned's walk: a mark's bytes of which one is turned are never read as that mark. No condition. -/
import Derived.Test.YtkjocpadmlobgabWireDk
import Derived.Test.YtkjocpadmlobgabRefM
import Derived.Laws.BitsAllLaws
namespace Go.Proofs.Ytkjocpadmlobgab
open Go.RowKit Go.Dig Go.Inv Go.Oct

set_option linter.unusedVariables false
def mf (k p e t : Int) : Nat → Int := fun j => if j = 0 then k else if j = 1 then p else if j = 2 then e else t
theorem mf_c (k p e t : Int) : markC (mf k p e t) = #[.int .i64 k, .int .i64 p, .int .i64 e, .int .i64 t] := rfl
theorem i64_and65535 (n : Int) : bits .and .i64 n 65535 = n % 65536 := by
  have hm : (BitVec.ofInt 64 65535).toNat = 2 ^ 16 - 1 := by decide
  have key : (BitVec.ofInt 64 n &&& BitVec.ofInt 64 65535).toNat = (n % ((2 ^ 64 : Nat) : Int)).toNat % 2 ^ 16 := by
    rw [BitVec.toNat_and, BitVec.toNat_ofInt, hm, Nat.and_two_pow_sub_one_eq_mod]
  show IntKind.i64.wrap ((BitVec.ofInt 64 n &&& BitVec.ofInt 64 65535).toNat : Nat) = n % 65536
  rw [key, IntKind.wrap_i64]
  omega
theorem num_small {z : Int} (h0 : 0 ≤ z) (h1 : z < 128) : num z = [z] := by
  unfold num
  have hc : ((cutN z : Nat) : Int) = z := by rw [cutN_int]; omega
  rw [numA_small (by omega), hc]
theorem encMark_five {k p e t : Int} (h : markB k p e t = true) : encMark k p e t = [3, k, p, e, t] ∧ (1 ≤ k ∧ k ≤ 3) ∧ (0 ≤ p ∧ p ≤ 7) ∧ (0 ≤ e ∧ e ≤ 100) ∧ 0 ≤ t ∧ t ≤ 100 := by
  simp only [markB, txnB, Bool.and_eq_true, inB_iff] at h
  obtain ⟨⟨-, hk⟩, ⟨hp, he⟩, ht⟩ := h
  refine ⟨?_, hk, hp, he, ht⟩
  unfold encMark
  simp only [nums_cons, nums_nil, List.append_nil]
  rw [num_small (z := 3) (by decide) (by decide), num_small (z := k) (by omega) (by omega), num_small (z := p) (by omega) (by omega), num_small (z := e) (by omega) (by omega), num_small (z := t) (by omega) (by omega)]
  rfl
theorem equal_marks (a b : Nat → Int) (w : World) : (Op.equalIn 10000 41 (.agg (markC a)) (.agg (markC b))).run Try.prog w = .ok (a 0 == b 0 && (a 1 == b 1 && (a 2 == b 2 && a 3 == b 3))) w := by
  have h := run_equalIn_struct (P := Try.prog) w 9999 41 (markC a) (markC b) (by kernel_rfl) (by kernel_rfl)
  refine h.trans ?_
  clear h
  simp [Op.eqFields, markC, go_sem]
  repeat' split
  all_goals simp_all
theorem wpList_load_markG {ops : Array Oper} {rest : List Oper} {o : Oper} {a : Act} {w : World} {Q : Exit → Act → World → Prop} {j : Nat} {c : Bool} (hgd : o.guard = some (j, c)) (hy : yielded ops a.tmps j = some c) (x : Operand) (ho : o.op = .load 41 x) (g : Nat) (z : Nat → Int) (t : TypeId) (fr : Nat × Nat) (hx : a.eval x = .pointer (some ⟨g, 0, none⟩)) (hg : w.heap[g]? = some (.cells (markC z) t fr)) (h : wpList Try.prog ops Q rest (a.put o.dst (.agg (markC z))) w) : wpList Try.prog ops Q (o :: rest) a w :=
  wpList_step fun _ hK => by
    rw [if_pos (by simp [Region.wanted, hgd, hy])]
    obtain ⟨d, hd1, hd2⟩ := mark_desc
    refine wp_load_mid 41 x ho g 0 hx (markC z).toList d (fun j v hv => ?_) hd1 hd2 (by rw [Array.length_toList]; exact mark_info z) (by simpa using hK _ _ h)
    rw [Nat.zero_add, cell_blk hg]; simpa using hv
theorem xor_turned {x y : Int} (hx : 0 ≤ x ∧ x < 256) (hy : 0 ≤ y ∧ y < 256) (h0 : ¬ y = 0) : ∃ z : Int, bits .xor .u8 x y = z ∧ ¬ z = x ∧ 0 ≤ z ∧ z < 256 := by
  obtain ⟨a, rfl⟩ := Int.eq_ofNat_of_zero_le hx.1
  obtain ⟨b, rfl⟩ := Int.eq_ofNat_of_zero_le hy.1
  refine ⟨_, u8_xor_nat a b (by omega) (by omega), fun h => h0 ?_, by omega, ?_⟩
  · have h' : a ^^^ b = a := by omega
    have : b = 0 := by
      have h2 : a ^^^ (a ^^^ b) = a ^^^ a := by rw [h']
      rw [← Nat.xor_assoc, Nat.xor_self, Nat.zero_xor] at h2
      exact h2
    omega
  · have := Nat.xor_lt_two_pow (n := 8) (show a < 2 ^ 8 by omega) (show b < 2 ^ 8 by omega)
    omega
set_option maxRecDepth 10000 in
set_option maxHeartbeats 8000000 in
theorem wireTurned_any (k p e t at_ by_ : Int) (w : World) (ik : inI k) (ip : inI p) (ie : inI e) (it : inI t) (hby : 0 ≤ by_ ∧ by_ < 256) :
    Calls Try.prog 5 #[.agg #[.int .i64 k, .int .i64 p, .int .i64 e, .int .i64 t], .int .i64 at_, .int .u8 by_] w fun x w' => x = .returned (.bool true) ∧ Below w.heap.size w w' := by
  rw [← mf_c]
  have HB1 : Hid (Below w.heap.size w (w.alloc (.cells (markC (mf k p e t)) 41))) := below_alloc _ _
  have HA : Hid ((w.alloc (.cells (markC (mf k p e t)) 41)).heap[w.heap.size]? = some (.cells (markC (mf k p e t)) 41 (0, 0))) := alloc_blk _ _
  obtain ⟨m, HM⟩ : ∃ m, Hid (mf k p e t = m) := ⟨_, rfl⟩
  rw [HM.out] at HB1 HA ⊢
  have HIS : Hid (∀ w, Calls Try.prog 11 #[.agg (markC m)] w fun x w' => x = .returned (.bool (markB k p e t)) ∧ Below w.heap.size w w') := fun w => by rw [← HM.out]; exact rIsMark_any k p e t w
  have HEN : Hid (∀ w, Calls Try.prog 12 #[.agg (markC m)] w fun x w' => Enc (markB k p e t) (encMark k p e t) w w' x) := fun w => by rw [← HM.out]; exact encodeMark_any k p e t w ik ip ie it
  go_enter Try.func5, Try.ntmps5
  go_upto_region 1 with (refine wpList_box_row rfl 41 _ rfl _ rfl ?_)
  generalize w.alloc (.cells (markC m) 41) = w1 at *
  have hz1 : w.heap.size < w1.heap.size := lt_blk HA.out
  go_wp2_with (refine wpList_load_mark rfl _ rfl w.heap.size m 41 (0, 0) ?_ ?_ ?_; rfl; exact HA.out)
  refine (HIS.out w1).mono ?_
  rintro x w2 ⟨rfl, hB2⟩
  have hW2 : Below w.heap.size w w2 := HB1.out.trans (hB2.mono (by omega))
  have HA2 : Hid (w2.heap[w.heap.size]? = some (.cells (markC m) 41 (0, 0))) := (hB2.block _ hz1).trans HA.out
  have hz2 : w.heap.size < w2.heap.size := lt_blk HA2.out
  clear hB2 HA HB1 HIS
  cases hob : markB k p e t
  · go_wp2_with fail
    go_ret
    exact ⟨rfl, hW2⟩
  by_cases hb0 : by_ = 0
  · subst hb0
    go_wp2_with fail
    go_ret
    exact ⟨rfl, hW2⟩
  obtain ⟨hE, hk, hp, he, ht⟩ := encMark_five hob
  have HE : Hid (encMark k p e t = [3, k, p, e, t]) := hE
  go_wp2_with (refine wpList_load_mark rfl _ rfl w.heap.size m 41 (0, 0) ?_ ?_ ?_; rfl; exact HA2.out)
  refine (HEN.out w2).mono ?_
  rintro x w3 ⟨v3, rfl, hO3, hB3⟩
  have hW3 : Below w.heap.size w w3 := hW2.trans (hB3.mono (by omega))
  have HA3 : Hid (w3.heap[w.heap.size]? = some (.cells (markC m) 41 (0, 0))) := (hB3.block _ hz2).trans HA2.out
  rw [hob] at hO3 ⊢
  simp only [if_true] at hO3 ⊢
  rw [hE] at hO3
  rcases hO3.2 with ⟨_, h0⟩ | ⟨g, cap, cur, rfl, hbg, hgg, hnc, hcm, hsz, htake⟩
  · simp at h0
  have hcells : ∀ j, j < 5 → w3.cell? ⟨g, j, none⟩ = some (.int .u8 ([3, k, p, e, t].getD j 0)) := fun j hj => by
    have := World.ownsRow.cells hO3 (g := g) rfl j (.int .u8 ([3, k, p, e, t].getD j 0)) (by rw [List.getElem?_map, List.getD, List.getElem?_eq_getElem (by simpa using hj)]; rfl)
    rwa [addr_add, Nat.zero_add] at this
  have hcap : 5 ≤ cap := by simpa using hnc
  obtain ⟨J, hJ, hJ5⟩ : ∃ J : Nat, at_ % 65536 % 5 = (J : Int) ∧ J < 5 := ⟨(at_ % 65536 % 5).toNat, by omega, by omega⟩
  have hand := i64_and65535 at_
  have hcJ := hcells J hJ5
  have hfJ : w3.frozen? ⟨g, J, none⟩ = false := frozen_blk hgg _
  have hx : 0 ≤ [3, k, p, e, t].getD J 0 ∧ [3, k, p, e, t].getD J 0 < 256 := by
    have : J = 0 ∨ J = 1 ∨ J = 2 ∨ J = 3 ∨ J = 4 := by omega
    rcases this with rfl | rfl | rfl | rfl | rfl <;> simp <;> omega
  obtain ⟨y, hy, hne, hy0, hy1⟩ := xor_turned hx hby hb0
  obtain ⟨x0, HX0⟩ : ∃ x0, Hid ([3, k, p, e, t].getD J 0 = x0) := ⟨_, rfl⟩
  rw [HX0.out] at hcJ hy hne
  have HO3 : Hid (w3.heap[g]? = some (.cells cur 5 (0, 0)) ∧ ∀ j, j < 5 → w3.cell? ⟨g, j, none⟩ = some (.int .u8 ([3, k, p, e, t].getD j 0))) := ⟨hgg, hcells⟩
  have hgw : w.heap.size < g := by omega
  have hl5 : [3, k, p, e, t].length = 5 := rfl
  clear hO3 hgg hcells htake hnc hcm hsz hB3 hx HE hE HEN HA2 hW2
  go_upto_region 7 with fail
  have hgs : g < w3.heap.size := lt_blk HO3.out.1
  have HW4 : Hid (Below w.heap.size w (w3.setCell ⟨g, J, none⟩ (.int .u8 y))) := hW3.setCell (p := ⟨g, J, none⟩) (by simp; omega) _
  have HA4 : Hid ((w3.setCell ⟨g, J, none⟩ (.int .u8 y)).heap[w.heap.size]? = some (.cells (markC m) 41 (0, 0))) := (Below.heap_setCell _ _ _ _ (by simp; omega)).trans HA3.out
  obtain ⟨L, HL⟩ : ∃ L, Hid (([3, k, p, e, t].set J y) = L) := ⟨_, rfl⟩
  have HLL : Hid (L.length = 5) := by rw [← HL.out]; exact (by simp : ([3, k, p, e, t].set J y).length = 5)
  have HLB : Hid (∀ x ∈ L, 0 ≤ x ∧ x < 256) := fun x hx => by
    rw [← HL.out] at hx
    rcases List.mem_or_eq_of_mem_set hx with h | rfl
    · simp only [List.mem_cons, List.not_mem_nil, or_false] at h
      rcases h with rfl | rfl | rfl | rfl | rfl <;> omega
    · exact ⟨hy0, hy1⟩
  have HNE : Hid (¬ L = [3, k, p, e, t]) := fun h => by
    rw [← HL.out] at h
    have h2 := congrArg (fun l => l.getD J 0) h
    simp only [HX0.out] at h2
    apply hne
    rw [← h2, List.getD, List.getElem?_set_self (by simpa using hJ5)]
    rfl
  have HR4 : Hid (Rowed (w3.setCell ⟨g, J, none⟩ (.int .u8 y)) (some ⟨g, 0, none⟩) L cap) := by
    refine .inr ⟨_, rfl, fun j hj => ?_⟩
    rw [HLL.out] at hj
    have hcl := HO3.out.2
    rw [addr_add, Nat.zero_add, ← HL.out]
    have hb4 := set_blk HO3.out.1 J (.int .u8 y)
    by_cases hjJ : j = J
    · subst hjJ
      rw [cell_blk hb4, List.getD, List.getElem?_set_self (by simpa using hj)]
      have h5 := hcl j hj
      rw [cell_blk HO3.out.1] at h5
      have hsz : j < cur.size := (Array.getElem?_eq_some_iff.1 h5).1
      rw [Array.getElem?_setIfInBounds_self_of_lt hsz]
      rfl
    · rw [cell_blk hb4, Array.getElem?_setIfInBounds_ne (Ne.symm hjJ), List.getD, List.getElem?_set_ne (Ne.symm hjJ), ← cell_blk HO3.out.1]
      exact hcl j hj
  have hz4 : w.heap.size < (w3.setCell ⟨g, J, none⟩ (.int .u8 y)).heap.size := lt_blk HA4.out
  generalize w3.setCell ⟨g, J, none⟩ (.int .u8 y) = w4 at *
  clear hy hcJ hfJ hand hJ HO3 hW3 HA3 hl5 hcap hgs
  have HD := dMark_any L (some ⟨g, 0, none⟩) cap w4 HR4.out HLB.out (by rw [HLL.out]; decide)
  rw [HLL.out] at HD
  have HDD : Hid (Calls Try.prog 13 #[.slice (some ⟨g, 0, none⟩) 5 cap] w4 fun e w' => (∃ (a : Nat → Int) (f : Int), e = .returned (.tuple #[.agg (markC a), .int .i64 f]) ∧ (f = 0 → encMark (a 0) (a 1) (a 2) (a 3) = L)) ∧ Below w4.heap.size w4 w') := HD
  clear HD
  go_wp2_with fail
  refine HDD.out.mono ?_
  rintro x w5 ⟨⟨a, f, rfl, hf⟩, hB5⟩
  have hW5 : Below w.heap.size w w5 := HW4.out.trans (hB5.mono (by omega))
  have HA5 : Hid (w5.heap[w.heap.size]? = some (.cells (markC m) 41 (0, 0))) := (hB5.block _ hz4).trans HA4.out
  have HF : Hid (f = 0 → encMark (a 0) (a 1) (a 2) (a 3) = L) := hf
  have hz5 : w4.heap.size ≤ w5.heap.size := hB5.size
  clear hf hB5 HDD HR4 HA4 HW4
  go_upto_region 8 with (refine wpList_store_mark rfl _ _ rfl w5.heap.size a (fun _ => 0) ?_ ?_ (alloc_blk _ _) ?_; rfl; rfl)
  rw [setRow_zero]
  have HG6 : Hid ((w5.alloc (.cells (markC a) 41)).heap[w5.heap.size]? = some (.cells (markC a) 41 (0, 0))) := alloc_blk _ _
  have HA6 : Hid ((w5.alloc (.cells (markC a) 41)).heap[w.heap.size]? = some (.cells (markC m) 41 (0, 0))) := alloc_blk_old HA5.out _
  have hW6 : Below w.heap.size w (w5.alloc (.cells (markC a) 41)) := hW5.alloc (by omega) _
  generalize w5.alloc (.cells (markC a) 41) = w6 at *
  obtain ⟨g6, hg6⟩ : ∃ g6, w5.heap.size = g6 := ⟨_, rfl⟩
  rw [hg6] at HG6
  simp only [hg6]
  clear HA5 hW5
  have hz6 : w.heap.size < w6.heap.size := lt_blk HA6.out
  by_cases hf0 : f = 0
  · subst hf0
    have hne : ¬ (a 0 == k && (a 1 == p && (a 2 == e && a 3 == t))) = true := fun h => by
      simp only [Bool.and_eq_true, beq_iff_eq] at h
      obtain ⟨h0, h1, h2, h3⟩ := h
      have := HF.out rfl
      rw [h0, h1, h2, h3, (encMark_five hob).1] at this
      exact HNE.out this.symm
    have hne' : (a 0 == m 0 && (a 1 == m 1 && (a 2 == m 2 && a 3 == m 3))) = false := by
      rw [← HM.out]
      exact Bool.not_eq_true _ ▸ hne
    have hEQ := fun w => (equal_marks a m w).trans (by rw [hne'])
    go_wp2_with (first | (refine wpList_load_markG rfl rfl _ rfl g6 a 41 (0, 0) ?_ ?_ ?_; rfl; exact HG6.out) | (refine wpList_load_markG rfl rfl _ rfl w.heap.size m 41 (0, 0) ?_ ?_ ?_; rfl; exact HA6.out))
    refine (known5_any w6).mono ?_
    rintro x w7 ⟨rfl, hB7⟩
    have hW7 : Below w.heap.size w w7 := hW6.trans (hB7.mono hW6.size)
    go_wp2_with fail
    go_ret
    exact ⟨rfl, hW7⟩
  · go_wp2_with fail
    refine (known5_any w6).mono ?_
    rintro x w7 ⟨rfl, hB7⟩
    have hW7 : Below w.heap.size w w7 := hW6.trans (hB7.mono hW6.size)
    go_wp2_with fail
    go_ret
    exact ⟨rfl, hW7⟩
end Go.Proofs.Ytkjocpadmlobgab
