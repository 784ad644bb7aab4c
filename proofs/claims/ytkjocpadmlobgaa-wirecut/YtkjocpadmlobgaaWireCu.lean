/- WireCut's walk: bytes with anything behind, or cut short, are none. No condition. -/
import Derived.Test.YtkjocpadmlobgaaWireDo
import Derived.Test.YtkjocpadmlobgaaWireX
import Derived.Test.YtkjocpadmlobgaaOLaw
import Derived.Laws.BitsAllLaws
namespace Go.Proofs.Ytkjocpadmlobgaa
open Go.RowKit Go.Dig Go.Inv Go.Oct
set_option linter.unusedVariables false

theorem encOp_inj {k c s : Int} {n : ByteArray} {p e t q : Int} {b : Bool} {k1 c1 s1 : Int} {n1 : ByteArray} {p1 e1 t1 q1 : Int} {b1 : Bool} {R S : List Int} (ho : opB k c s n p e t q b = true) (h1 : opB k1 c1 s1 n1 p1 e1 t1 q1 b1 = true) (h : encOp k c s n p e t q b ++ R = encOp k1 c1 s1 n1 p1 e1 t1 q1 b1 ++ S) : R = S := by
  obtain ⟨a1, a2, a3, a4, a5, a6, a7, a8⟩ := opB_nums ho
  obtain ⟨d1, d2, d3, d4, d5, d6, d7, d8⟩ := opB_nums h1
  unfold encOp at h
  simp only [List.append_assoc] at h
  have h2 : NumOk 2 := ⟨by decide, by decide⟩
  obtain ⟨-, x2⟩ := nums_inj [2, k, c, s] [2, k1, c1, s1] _ _ rfl (numOk_cons h2 (numOk_cons a1 (numOk_cons a2 (numOk_cons a3 numOk_nil)))) (numOk_cons h2 (numOk_cons d1 (numOk_cons d2 (numOk_cons d3 numOk_nil)))) h
  rw [byL_length] at a4 d4
  obtain ⟨x3, x4⟩ := num_inj a4 d4 x2
  obtain ⟨-, x6⟩ := List.append_inj x4 (by rw [byL_length, byL_length]; omega)
  have hb : ∀ b : Bool, NumOk (if b = true then 1 else 0) := fun b => by cases b <;> exact ⟨by decide, by decide⟩
  exact (nums_inj [p, e, t, q, if b = true then 1 else 0] [p1, e1, t1, q1, if b1 = true then 1 else 0] _ _ rfl (numOk_cons a5 (numOk_cons a6 (numOk_cons a7 (numOk_cons a8 (numOk_cons (hb b) numOk_nil))))) (numOk_cons d5 (numOk_cons d6 (numOk_cons d7 (numOk_cons d8 (numOk_cons (hb b1) numOk_nil))))) x6).2
theorem encOp_pos (k c s : Int) (n : ByteArray) (p e t q : Int) (b : Bool) : 0 < (encOp k c s n p e t q b).length := by
  unfold encOp
  rw [nums_cons, show num 2 = [2] from by decide]
  simp
theorem encOp_len (k c s : Int) (n : ByteArray) (p e t q : Int) (b : Bool) (hn : n.size ≤ 8) : (encOp k c s n p e t q b).length ≤ 200 := by
  unfold encOp
  have h1 := nums_length [2, k, c, s]
  have h2 := num_length n.size
  have h3 := nums_length [p, e, t, q, if b = true then 1 else 0]
  simp only [List.length_append, byL_length, List.length_cons, List.length_nil] at *
  omega
theorem DecOp.not {B : List Int} {e : Ending} (h : DecOp B e) (hn : ∀ k1 c1 s1 n1 p1 e1 t1 q1 b1, opB k1 c1 s1 n1 p1 e1 t1 q1 b1 = true → ¬ encOp k1 c1 s1 n1 p1 e1 t1 q1 b1 = B) : ∃ (k c s : Int) (n : ByteArray) (p e' t q : Int) (b : Bool), e = .returned (.tuple #[.agg (opC k c s n p e' t q b), .int .i64 2]) := by
  obtain ⟨k, c, s, n, p, e', t, q, b, f, he, hd⟩ := h
  rcases hd with ⟨-, ho, hE⟩ | ⟨rfl, -, -⟩
  · exact absurd hE (hn _ _ _ _ _ _ _ _ _ ho)
  · exact ⟨k, c, s, n, p, e', t, q, b, he⟩
theorem i64_and65535 (n : Int) : bits .and .i64 n 65535 = n % 65536 := by
  have hm : (BitVec.ofInt 64 65535).toNat = 2 ^ 16 - 1 := by decide
  have key : (BitVec.ofInt 64 n &&& BitVec.ofInt 64 65535).toNat = (n % ((2 ^ 64 : Nat) : Int)).toNat % 2 ^ 16 := by
    rw [BitVec.toNat_and, BitVec.toNat_ofInt, hm, Nat.and_two_pow_sub_one_eq_mod]
  show IntKind.i64.wrap ((BitVec.ofInt 64 n &&& BitVec.ofInt 64 65535).toNat : Nat) = n % 65536
  rw [key, IntKind.wrap_i64]
  omega
theorem ownB_empty (w : World) : OwnB (w.alloc (.cells #[] 5)) w.heap.size (.slice (some ⟨w.heap.size, 0, none⟩) 0 0) [] :=
  ⟨rfl, .inr ⟨w.heap.size, 0, #[], rfl, Nat.le_refl _, alloc_blk _ _, Nat.le_refl _, Nat.zero_le _, rfl, rfl⟩⟩
set_option maxRecDepth 10000 in
set_option maxHeartbeats 8000000 in
theorem wireCut_any (k c s : Int) (n : ByteArray) (p e t q : Int) (b : Bool) (ao : Option Addr) (cap : Nat) (P : List Int) (cut : Int) (w : World) (ik : inI k) (ic : inI c) (is : inI s) (hn : n.size ≤ maxLen) (ip : inI p) (ie : inI e) (it : inI t) (iq : inI q) (hP : Rowed w ao P cap) (hPy : ∀ x ∈ P, 0 ≤ x ∧ x < 256) :
    Calls Try.prog 8 #[.agg (opC k c s n p e t q b), .slice ao P.length cap, .int .i64 cut] w fun x w' => x = .returned (.bool true) ∧ Below w.heap.size w w' := by
  have HP : Hid (Rowed w ao P cap ∧ ∀ x ∈ P, 0 ≤ x ∧ x < 256) := ⟨hP, hPy⟩
  obtain ⟨pl, HPL⟩ : ∃ pl, Hid (P.length = pl) := ⟨_, rfl⟩
  rw [HPL.out]
  clear hP hPy
  have hn' : n.size < 9223372036854775808 := by unfold maxLen at hn; omega
  clear hn
  have HB1 : Hid (Below w.heap.size w (w.alloc (.cells (opC k c s n p e t q b) 42))) := below_alloc _ _
  have HA : Hid ((w.alloc (.cells (opC k c s n p e t q b) 42)).heap[w.heap.size]? = some (.cells (opC k c s n p e t q b) 42 (0, 0))) := alloc_blk _ _
  go_enter Try.func8, Try.ntmps8
  go_upto_region 1 with (refine wpList_box_row rfl 42 _ rfl _ rfl ?_)
  generalize w.alloc (.cells (opC k c s n p e t q b) 42) = w1 at *
  have hz1 : w.heap.size < w1.heap.size := lt_blk HA.out
  go_wp2_with (refine wpList_load_op rfl _ rfl w.heap.size k c s n p e t q b 42 (0, 0) ?_ ?_ ?_; rfl; exact HA.out)
  refine (rIsOp_any k c s n p e t q b w1 hn').mono ?_
  rintro x w2 ⟨rfl, hB2⟩
  have hW2 : Below w.heap.size w w2 := HB1.out.trans (hB2.mono (by omega))
  have HA2 : Hid (w2.heap[w.heap.size]? = some (.cells (opC k c s n p e t q b) 42 (0, 0))) := (hB2.block _ hz1).trans HA.out
  have hz2 : w.heap.size < w2.heap.size := lt_blk HA2.out
  have HP2 : Hid (Rowed w2 ao P cap) := HP.out.1.below hW2 (Nat.le_refl _)
  clear hB2 HA HB1
  cases hob : opB k c s n p e t q b
  · go_wp2_with fail
    go_ret
    exact ⟨rfl, hW2⟩
  by_cases q0 : pl < 1
  · go_wp2_with fail
    go_ret
    exact ⟨rfl, hW2⟩
  by_cases q1 : 100 < pl
  · go_wp2_with fail
    go_ret
    exact ⟨rfl, hW2⟩
  have q0' : ¬ (pl : Int) < 1 := by omega
  have q1' : ¬ 100 < (pl : Int) := by omega
  obtain ⟨b1, b2, b3, b4, b5⟩ := opB_bounds hob
  go_wp2_with (refine wpList_load_op rfl _ rfl w.heap.size k c s n p e t q b 42 (0, 0) ?_ ?_ ?_; rfl; exact HA2.out)
  refine (encodeOp_any k c s n p e t q b w2 ik ic is ip ie it iq (by omega)).mono ?_
  rintro x w3 ⟨v3, rfl, hO3, hB3⟩
  have hW3 : Below w.heap.size w w3 := hW2.trans (hB3.mono (by omega))
  have HP3 : Hid (Rowed w3 ao P cap) := HP2.out.below hB3 (Nat.le_refl _)
  rw [hob] at hO3 ⊢
  simp only [if_true] at hO3 ⊢
  obtain ⟨M, HM⟩ : ∃ M, Hid (encOp k c s n p e t q b = M) := ⟨_, rfl⟩
  rw [HM.out] at hO3
  have HO3 : Hid (OwnB w3 w2.heap.size v3 M) := hO3
  have hM0 : 0 < M.length := by rw [← HM.out]; exact encOp_pos _ _ _ _ _ _ _ _ _
  have hM1 : M.length ≤ 200 := by rw [← HM.out]; exact encOp_len _ _ _ _ _ _ _ _ _ b1
  obtain ⟨ml, HML⟩ : ∃ ml, Hid (M.length = ml) := ⟨_, rfl⟩
  rw [HML.out] at hM0 hM1
  obtain ⟨g, cap3, cur, rfl, hbg, hgg⟩ : ∃ g cap3 cur, v3 = .slice (some ⟨g, 0, none⟩) ml cap3 ∧ w2.heap.size ≤ g ∧ w3.heap[g]? = some (.cells cur 5 (0, 0)) ∧ ml ≤ cap3 := by
    rcases hO3.2 with ⟨_, h0⟩ | ⟨g, cap, cur, e0, hbg, hgg, hnc, _⟩
    · rw [HML.out] at h0; omega
    · exact ⟨g, cap, cur, by rw [e0, HML.out], hbg, hgg, by rw [← HML.out]; exact hnc⟩
  clear hO3 hB3 HA2 HP2 hW2
  have hRM : Rowed w3 (some ⟨g, 0, none⟩) M cap3 := by
    obtain ⟨ao', n', c', e', hF⟩ := HO3.out.form
    cases e'
    exact hF.out.2.2
  have HRW : Hid (Rowed w3 (some ⟨g, 0, none⟩) M cap3) := hRM
  have HE0 : Hid (OwnB (w3.alloc (.cells #[] 5)) w3.heap.size (.slice (some ⟨w3.heap.size, 0, none⟩) 0 0) []) := ownB_empty w3
  have HRM : Hid (Rowed (w3.alloc (.cells #[] 5)) (some ⟨g, 0, none⟩) M cap3) := hRM.below (below_alloc _ _) (Nat.le_refl _)
  have HBM : Hid (ByteL M) := by rw [← HM.out]; exact encOp_bytes _ _ _ _ _ _ _ _ _
  have HPE : Hid (Rowed (w3.alloc (.cells #[] 5)) ao P cap) := HP3.out.below (below_alloc _ _) (Nat.le_refl _)
  have hs4 : (w3.alloc (.cells #[] 5)).heap.size = w3.heap.size + 1 := by simp
  clear hRM
  go_upto_region 6 with fail
  go_wp2_with (at_builtin; refine wpList_app rfl _ _ rfl w3.heap.size (.slice (some ⟨w3.heap.size, 0, none⟩) 0 0) [] ?_ HE0.out (some ⟨g, 0, none⟩) ml cap3 M ?_ HML.out.symm HRM.out ?_ ?_ ?_; rfl; rfl)
  case refine_3 => simp; omega
  case refine_4 => rw [hs4]; omega
  intro v4 w4 HO4 HG4
  have HB4 : Hid (Below w3.heap.size w3 w4) := (below_alloc _ _).trans (HG4.out.below (by rw [hs4]; omega) (fun k hk => by simp [Value.ownBlock] at hk; omega))
  have HP4 : Hid (Rowed w4 ao P cap) := HP3.out.below HB4.out (Nat.le_refl _)
  have hz4 : w3.heap.size ≤ w4.heap.size := HB4.out.size
  clear HE0 HRM HG4 hs4
  go_wp2_with (at_builtin; refine wpList_app rfl _ _ rfl w3.heap.size v4 M ?_ HO4.out ao pl cap P ?_ HPL.out.symm HP4.out ?_ hz4 ?_; rfl; rfl)
  case refine_3 => rw [HML.out]; omega
  intro v5 w5 HO5 HG5
  have HB5 : Hid (Below w3.heap.size w3 w5) := HB4.out.trans (HG5.out.below hz4 (fun k hk => (HO4.out.lt k hk).1))
  obtain ⟨ao5, n5, c5, rfl, HF5⟩ := HO5.out.form
  have hz5 : w3.heap.size ≤ w5.heap.size := HB5.out.size
  have hD := dOp_str (M ++ P) ao5 c5 w5 HF5.out.2.2 (HBM.out.append HP.out.2) (by rw [List.length_append, HML.out, HPL.out]; omega)
  rw [← HF5.out.1] at hD
  have HD : Hid (Calls Try.prog 19 #[.slice ao5 n5 c5] w5 fun e w' => DecOp (M ++ P) e ∧ Below w5.heap.size w5 w') := hD
  clear hD HO4 HO5 HG5 HF5 HB4 HP4 hz4
  go_wp2_with fail
  refine HD.out.mono ?_
  rintro x w6 ⟨hd, hB6⟩
  obtain ⟨k1, c1, s1, n1, p1, e1, t1, q1, b1', rfl⟩ := hd.not (fun k1 c1 s1 n1 p1 e1 t1 q1 b1 ho hE => by
    rw [← HM.out] at hE
    have h0 := encOp_inj (R := P) (S := []) hob ho (by rw [List.append_nil]; exact hE.symm)
    have := HPL.out
    rw [h0] at this
    simp at this
    omega)
  have HB6 : Hid (Below w3.heap.size w3 w6) := HB5.out.trans (hB6.mono hz5)
  have hz6 : w3.heap.size ≤ w6.heap.size := HB6.out.size
  clear hd hB6 HD HB5 hz5
  go_upto_region 7 with (refine wpList_store_op rfl _ _ rfl w6.heap.size k1 c1 s1 n1 p1 e1 t1 q1 b1' (opC 0 0 0 eN 0 0 0 0 false) ?_ ?_ (alloc_blk _ _) ?_ ?_; rfl; rfl; rfl)
  rw [setRow_new]
  have HB7 : Hid (Below w3.heap.size w3 (w6.alloc (.cells (opC k1 c1 s1 n1 p1 e1 t1 q1 b1') 42))) := HB6.out.alloc hz6 _
  generalize w6.alloc (.cells (opC k1 c1 s1 n1 p1 e1 t1 q1 b1') 42) = w7 at *
  obtain ⟨g7, hg7⟩ : ∃ g7, w6.heap.size = g7 := ⟨_, rfl⟩
  simp only [hg7]
  clear hg7 hz6 HB6
  have hz7 : w3.heap.size ≤ w7.heap.size := HB7.out.size
  obtain ⟨J, hJ, hJm⟩ : ∃ J : Nat, cut % 65536 % (ml : Int) = (J : Int) ∧ J < ml := by
    have h1 := Int.emod_nonneg (cut % 65536) (show (ml : Int) ≠ 0 by omega)
    have h2 := Int.emod_lt_of_pos (cut % 65536) (show (0 : Int) < ml by omega)
    exact ⟨(cut % 65536 % (ml : Int)).toNat, by omega, by omega⟩
  have hand := i64_and65535 cut
  have hcJ : J ≤ cap3 := by have := hgg.2; omega
  have hml0 : ¬ (ml : Int) = 0 := by omega
  have hD2 := dOp_str (M.take J) (some ⟨g, 0, none⟩) cap3 w7 ((HRW.out.take J).below HB7.out (Nat.le_refl _)) (fun x hx => HBM.out x (List.mem_of_mem_take hx)) (by rw [List.length_take, HML.out]; omega)
  rw [show (M.take J).length = J from by rw [List.length_take, HML.out]; omega] at hD2
  have HD2 : Hid (Calls Try.prog 19 #[.slice (some ⟨g, 0, none⟩) J cap3] w7 fun e w' => DecOp (M.take J) e ∧ Below w7.heap.size w7 w') := hD2
  clear hD2
  go_wp2_with fail
  refine HD2.out.mono ?_
  rintro x w8 ⟨hd, hB8⟩
  obtain ⟨k2, c2, s2, n2, p2, e2, t2, q2, b2', rfl⟩ := hd.not (fun k1 c1 s1 n1 p1 e1 t1 q1 b1 ho hE => by
    have h0 := encOp_inj (R := M.drop J) (S := []) ho hob (by rw [hE, List.take_append_drop, List.append_nil]; exact HM.out.symm)
    have h1 := congrArg List.length h0
    rw [List.length_drop, HML.out] at h1
    simp at h1
    omega)
  have HB8 : Hid (Below w3.heap.size w3 w8) := HB7.out.trans (hB8.mono hz7)
  have hz8 : w3.heap.size ≤ w8.heap.size := HB8.out.size
  clear hd hB8 HD2 HB7 hz7 hand hJ
  go_upto_region 8 with (refine wpList_store_op rfl _ _ rfl w8.heap.size k2 c2 s2 n2 p2 e2 t2 q2 b2' (opC 0 0 0 eN 0 0 0 0 false) ?_ ?_ (alloc_blk _ _) ?_ ?_; rfl; rfl; rfl)
  rw [setRow_new]
  have HB9 : Hid (Below w3.heap.size w3 (w8.alloc (.cells (opC k2 c2 s2 n2 p2 e2 t2 q2 b2') 42))) := HB8.out.alloc hz8 _
  generalize w8.alloc (.cells (opC k2 c2 s2 n2 p2 e2 t2 q2 b2') 42) = w9 at *
  obtain ⟨g9, hg9⟩ : ∃ g9, w8.heap.size = g9 := ⟨_, rfl⟩
  simp only [hg9]
  clear hg9 hz8 HB8
  have hW9 : Below w.heap.size w w9 := hW3.trans (HB9.out.mono hW3.size)
  go_wp2_with fail
  refine (known5_any w9).mono ?_
  rintro x w10 ⟨rfl, hB10⟩
  have hW10 : Below w.heap.size w w10 := hW9.trans (hB10.mono hW9.size)
  go_wp2_with fail
  go_ret
  exact ⟨rfl, hW10⟩
end Go.Proofs.Ytkjocpadmlobgaa
