/- octet's Reader: a number's bytes are read back; it reads on from any bytes, and never fails. The number's part. For rows of up to 2^38 bytes. -/
import Derived.Test.YtkjocpadmlobgaaWireRd
import Derived.Test.YtkjocpadmlobgaaWireP
import Derived.Laws.BitsAllLaws
namespace Go.Proofs.Ytkjocpadmlobgaa
open Go.RowKit Go.Dig Go.Inv Go.Oct
set_option linter.unusedVariables false

theorem i64_or_add (y : Int) (d k : Nat) (hy0 : 0 ≤ y) (hy : y < 128 ^ k) (hd : d < 128) (hk : k ≤ 8) : bits .or .i64 y (wrap64 ((d : Int) * 2 ^ (7 * k))) = y + (d : Int) * 128 ^ k := by
  obtain ⟨a, rfl⟩ := Int.eq_ofNat_of_zero_le hy0
  have e7 : (2 : Nat) ^ (7 * k) = 128 ^ k := by rw [Nat.pow_mul]
  have e7' : (2 : Int) ^ (7 * k) = 128 ^ k := by rw [Int.pow_mul]; rfl
  have ha : a < 128 ^ k := by exact_mod_cast hy
  have hp8 : 128 ^ k ≤ 72057594037927936 := by
    have : 128 ^ k ≤ 128 ^ 8 := Nat.pow_le_pow_right (by decide) hk
    exact Nat.le_trans this (by decide)
  have hb : d * 128 ^ k ≤ 127 * 72057594037927936 := Nat.mul_le_mul (by omega) hp8
  have hcast : ((d : Int) * 128 ^ k) = ((d * 128 ^ k : Nat) : Int) := by push_cast; rfl
  rw [e7', hcast, IntWalk.wrap64_in _ ⟨by omega, by omega⟩]
  show IntKind.i64.wrap ((BitVec.ofInt 64 (a : Int) ||| BitVec.ofInt 64 ((d * 128 ^ k : Nat) : Int)).toNat : Nat) = _
  rw [BitVec.toNat_or, BitVec.toNat_ofInt, BitVec.toNat_ofInt]
  have h1 : ((a : Int) % ((2 ^ 64 : Nat) : Int)).toNat = a := by omega
  have h2 : (((d * 128 ^ k : Nat) : Int) % ((2 ^ 64 : Nat) : Int)).toNat = d * 128 ^ k := by omega
  rw [h1, h2, Nat.or_comm, nat_join (7 * k) _ _ (by rw [e7]; exact Nat.mul_mod_left _ _) (by rw [e7]; exact ha)]
  rw [IntKind.wrap_i64]
  omega
theorem i64_or_nn (y : Int) (x k : Int) (j : Nat) (hy : 0 ≤ y) (iy : inI y) (hk : k = (j : Int)) (h8 : j ≤ 8) : 0 ≤ bits .or .i64 y (wrap64 (x % 128 * 2 ^ (7 * j))) := by
  obtain ⟨a, rfl⟩ := Int.eq_ofNat_of_zero_le hy
  obtain ⟨d, hd⟩ : ∃ d : Nat, x % 128 = (d : Int) ∧ d < 128 := ⟨(x % 128).toNat, by omega, by omega⟩
  have e7' : (2 : Int) ^ (7 * j) = 128 ^ j := by rw [Int.pow_mul]; rfl
  have hp8 : 128 ^ j ≤ 72057594037927936 := by
    have : 128 ^ j ≤ 128 ^ 8 := Nat.pow_le_pow_right (by decide) h8
    exact Nat.le_trans this (by decide)
  have hb : d * 128 ^ j ≤ 127 * 72057594037927936 := Nat.mul_le_mul (by omega) hp8
  have hcast : ((d : Int) * 128 ^ j) = ((d * 128 ^ j : Nat) : Int) := by push_cast; rfl
  unfold inI at iy
  rw [hd.1, e7', hcast, IntWalk.wrap64_in _ ⟨by omega, by omega⟩]
  show 0 ≤ IntKind.i64.wrap ((BitVec.ofInt 64 (a : Int) ||| BitVec.ofInt 64 ((d * 128 ^ j : Nat) : Int)).toNat : Nat)
  rw [BitVec.toNat_or, BitVec.toNat_ofInt, BitVec.toNat_ofInt]
  have h1 : ((a : Int) % ((2 ^ 64 : Nat) : Int)).toNat = a := by omega
  have h2 : (((d * 128 ^ j : Nat) : Int) % ((2 ^ 64 : Nat) : Int)).toNat = d * 128 ^ j := by omega
  rw [h1, h2, IntKind.wrap_i64]
  have := Nat.or_lt_two_pow (n := 63) (x := a) (y := d * 128 ^ j) (by omega) (by omega)
  omega
/-- what has been read of a number: its low places, k of them -/
def FN (L : List Int) (k : Nat) (y : Int) : Prop := ∀ v R, 0 ≤ v → v ≤ 4611686018427387904 → L = num v ++ R → ∃ m f : Nat, k + f = 8 ∧ m < 128 ^ (f + 1) ∧ v = y + (m : Int) * 128 ^ k ∧ 0 ≤ y ∧ y < 128 ^ k ∧ L.drop k = numA f m ++ R ∧ (0 < k → 0 < m)
/-- what is read is what was laid -/
def FNok (L : List Int) (z : Int) (k : Nat) : Prop := ∀ v R, 0 ≤ v → v ≤ 4611686018427387904 → L = num v ++ R → z = v ∧ k = (num v).length
theorem FN.start (L : List Int) : FN L 0 0 := fun v R h0 h1 e => ⟨cutN v, 8, rfl, cutN_lt v, by rw [cutN_int]; omega, Int.le_refl _, by decide, by rw [List.drop_zero, e]; rfl, fun h => by omega⟩
theorem numA_big_get {f m : Nat} (h : ¬ m < 128) (hm : m < 128 ^ (f + 1)) : ∃ g, f = g + 1 ∧ numA f m = ((m % 128 + 128 : Nat) : Int) :: numA g (m / 128) := by
  cases f with
  | zero => exact absurd hm (by simpa using h)
  | succ g => exact ⟨g, rfl, numA_big h g⟩
theorem drop_head {L : List Int} {k : Nat} {x : Int} {t : List Int} (h : L.drop k = x :: t) : L.getD k 0 = x ∧ k < L.length ∧ L.drop (k + 1) = t := by
  have hk : k < L.length := by
    by_cases hk : k < L.length
    · exact hk
    · rw [List.drop_eq_nil_of_le (by omega)] at h; cases h
  rw [List.drop_eq_getElem_cons hk] at h
  injection h with h1 h2
  exact ⟨by rw [List.getD, List.getElem?_eq_getElem hk]; exact h1, hk, h2⟩
theorem FN.small {L : List Int} {k : Nat} {y x : Int} (h : FN L k y) (hx : L.getD k 0 = x) (h128 : x < 128) : ∀ v R, 0 ≤ v → v ≤ 4611686018427387904 → L = num v ++ R → bits .or .i64 y (wrap64 (x % 128 * 2 ^ (7 * k))) = v ∧ k + 1 = (num v).length ∧ (0 < k → 0 < x) := fun v R h0 h1 e => by
  obtain ⟨m, f, hkf, hm, hv, hy0, hy1, hd, hmp⟩ := h v R h0 h1 e
  have hm128 : m < 128 := by
    by_cases hb : m < 128
    · exact hb
    · obtain ⟨g, _, hn⟩ := numA_big_get hb hm
      rw [hn] at hd
      have := (drop_head hd).1
      rw [hx] at this
      omega
  rw [numA_small hm128] at hd
  obtain ⟨e1, e2, e3⟩ := drop_head (t := R) hd
  rw [hx] at e1
  subst e1
  have hmm : ((m : Int)) % 128 = ((m : Nat) : Int) := by omega
  refine ⟨?_, ?_, fun hk => by have := hmp hk; omega⟩
  · rw [hmm, i64_or_add y m k hy0 hy1 hm128 (by omega)]
    exact hv.symm
  · have l1 := congrArg List.length e3
    have l2 := congrArg List.length e
    rw [List.length_drop] at l1
    rw [List.length_append] at l2
    omega
theorem FN.big {L : List Int} {k : Nat} {y x : Int} (h : FN L k y) (hx : L.getD k 0 = x) (h0x : 0 ≤ x) (h128 : ¬ x < 128) : FN L (k + 1) (bits .or .i64 y (wrap64 (x % 128 * 2 ^ (7 * k)))) := fun v R h0 h1 e => by
  obtain ⟨m, f, hkf, hm, hv, hy0, hy1, hd, hmp⟩ := h v R h0 h1 e
  have hm128 : ¬ m < 128 := fun hb => by
    rw [numA_small hb] at hd
    have := (drop_head (t := R) hd).1
    rw [hx] at this
    omega
  obtain ⟨g, rfl, hn⟩ := numA_big_get hm128 hm
  rw [hn] at hd
  obtain ⟨e1, e2, e3⟩ := drop_head (t := numA g (m / 128) ++ R) hd
  rw [hx] at e1
  have hxm : x % 128 = ((m % 128 : Nat) : Int) := by omega
  have hP : (0 : Int) < 128 ^ k := Int.pow_pos (by decide)
  have hmd : (m : Int) = ((m % 128 : Nat) : Int) + 128 * ((m / 128 : Nat) : Int) := by omega
  refine ⟨m / 128, g, by omega, ?_, ?_, ?_, ?_, e3, fun _ => by omega⟩
  · rw [Nat.pow_succ] at hm
    exact Nat.div_lt_of_lt_mul (by rw [Nat.mul_comm]; exact hm)
  · rw [hxm, i64_or_add y (m % 128) k hy0 hy1 (by omega) (by omega), hv, hmd, Int.pow_succ]
    generalize (128 : Int) ^ k = P at *
    rw [Int.add_mul, Int.add_assoc]
    congr 2
    have : ((m % 128 : Nat) : Int) + 128 * ((m / 128 : Nat) : Int) = (m : Int) := by omega
    rw [Int.mul_comm P 128, ← Int.mul_assoc, Int.mul_comm ((m / 128 : Nat) : Int) 128]
  · rw [hxm, i64_or_add y (m % 128) k hy0 hy1 (by omega) (by omega)]
    have := Int.mul_nonneg (show (0 : Int) ≤ ((m % 128 : Nat) : Int) by omega) (Int.le_of_lt hP)
    omega
  · rw [hxm, i64_or_add y (m % 128) k hy0 hy1 (by omega) (by omega), Int.pow_succ]
    have h2 : ((m % 128 : Nat) : Int) * 128 ^ k ≤ 127 * 128 ^ k := Int.mul_le_mul_of_nonneg_right (by omega) (Int.le_of_lt hP)
    generalize (128 : Int) ^ k = P at *
    omega
theorem FN.over {L : List Int} {k : Nat} {y : Int} (h : FN L k y) (hk : k = L.length ∨ k = 9) : FNok L 0 0 := fun v R h0 h1 e => by
  obtain ⟨m, f, hkf, hm, hv, hy0, hy1, hd, hmp⟩ := h v R h0 h1 e
  exfalso
  rcases hk with rfl | rfl
  · rw [List.drop_length] at hd
    have := congrArg List.length hd
    cases f <;> simp [numA] at this
    split at this <;> simp at this <;> omega
  · omega
set_option maxRecDepth 10000 in
set_option maxHeartbeats 4000000 in
theorem firstNumber_str (L : List Int) (ao : Option Addr) (cap : Nat) (w : World) (hR : Rowed w ao L cap) (hc : L.length ≤ cap) (hb : L.length < 274877906944) (hy : ∀ x ∈ L, 0 ≤ x ∧ x < 256) :
    Calls Try.prog 81 #[.slice ao L.length cap] w fun e w' => (∃ (z : Int) (k : Nat), e = .returned (.tuple #[.int .i64 z, .int .i64 (k : Int)]) ∧ inI z ∧ 0 ≤ z ∧ k ≤ L.length ∧ FNok L z k) ∧ w' = w := by
  have HR : Hid (Rowed w ao L cap) := hR
  have HY : Hid (∀ x ∈ L, 0 ≤ x ∧ x < 256) := hy
  obtain ⟨n, HN⟩ : ∃ n, Hid (L.length = n) := ⟨_, rfl⟩
  rw [HN.out] at hc hb ⊢
  clear hR hy
  by_cases h9 : n ≤ 9
  · have h9' : (n : Int) ≤ 9 := by omega
    go_enter Try.func81, Try.ntmps81
    go_wp2_with fail
    go_loopw [2, 12] (fun z i wr => ∃ (k : Nat) (y : Int), k ≤ n ∧ i = .int .i64 (k : Int) ∧ z = .int .i64 y ∧ inI y ∧ 0 ≤ y ∧ Hid (FN L k y) ∧ wr = w) (fun _ i _ => n - (intOf i).toNat)
    case atStart => exact ⟨0, 0, by omega, rfl, rfl, inI_lit (by decide) (by decide), Int.le_refl _, FN.start L, rfl⟩
    case round =>
      obtain ⟨k, y, hk, rfl, rfl, hy, hy0, HFN, rfl⟩ := hrel
      by_cases hlt : k < n
      · have hkn : k < L.length := by have := HN.out; omega
        obtain ⟨gb, go, e1, hcl⟩ := HR.out.at (fun e => by rw [e] at hkn; cases hkn)
        subst e1
        have hcell := hcl k hkn
        have hyb := HY.out (L.getD k 0) (by rw [List.getD, List.getElem?_eq_getElem hkn]; exact List.getElem_mem hkn)
        obtain ⟨x, HX⟩ : ∃ x, Hid (L.getD k 0 = x) := ⟨_, rfl⟩
        rw [HX.out] at hcell hyb
        have HKN : Hid (k < L.length) := hkn
        clear hcl hkn
        have HNN : Hid (0 ≤ bits .or .i64 y (wrap64 (x % 128 * 2 ^ (7 * k)))) := i64_or_nn y x k k hy0 hy rfl (by omega)
        by_cases h128 : x < 128
        · have HS : Hid (∀ v R, 0 ≤ v → v ≤ 4611686018427387904 → L = num v ++ R → bits .or .i64 y (wrap64 (x % 128 * 2 ^ (7 * k))) = v ∧ k + 1 = (num v).length ∧ (0 < k → 0 < x)) := HFN.out.small HX.out h128
          go_wp2_with fail
          all_goals
            refine bodyPost_ret (results_tmp2 rfl _ _ _) rfl ?_
            first
              | exact ⟨⟨0, 0, rfl, inI_lit (by decide) (by decide), Int.le_refl _, Nat.zero_le _, fun v R h0 h1 e => by obtain ⟨e1, e2, e3⟩ := HS.out v R h0 h1 e; exfalso; first | omega | (rename_i hh; rw [e1] at hh; first | omega | (rcases hh with hh | hh; simp at hh; omega; omega))⟩, rfl⟩
              | exact ⟨⟨_, k + 1, rfl, inI_or _ _, HNN.out, by omega, fun v R h0 h1 e => ⟨(HS.out v R h0 h1 e).1, (HS.out v R h0 h1 e).2.1⟩⟩, rfl⟩
        · have HF2 : Hid (FN L (k + 1) (bits .or .i64 y (wrap64 (x % 128 * 2 ^ (7 * k))))) := HFN.out.big HX.out hyb.1 h128
          go_wp2_with fail
          exact ⟨⟨k + 1, _, by omega, rfl, rfl, inI_or _ _, HNN.out, HF2, trivial⟩, by simp [intOf]; omega⟩
      · obtain rfl : k = n := by omega
        go_wp2_with fail
        refine bodyPost_ret (v := .tuple #[.int .i64 0, .int .i64 0]) (by simp [results, Try.results81, go_sem]) rfl ?_
        exact ⟨⟨0, 0, rfl, inI_lit (by decide) (by decide), Int.le_refl _, by omega, HFN.out.over (by first | exact .inr rfl | exact .inl HN.out.symm)⟩, rfl⟩
  · have h9' : ¬ (n : Int) ≤ 9 := by omega
    go_enter Try.func81, Try.ntmps81
    go_wp2_with fail
    go_loopw [2, 12] (fun z i wr => ∃ (k : Nat) (y : Int), k ≤ 9 ∧ i = .int .i64 (k : Int) ∧ z = .int .i64 y ∧ inI y ∧ 0 ≤ y ∧ Hid (FN L k y) ∧ wr = w) (fun _ i _ => 9 - (intOf i).toNat)
    case atStart => exact ⟨0, 0, by omega, rfl, rfl, inI_lit (by decide) (by decide), Int.le_refl _, FN.start L, rfl⟩
    case round =>
      obtain ⟨k, y, hk, rfl, rfl, hy, hy0, HFN, rfl⟩ := hrel
      by_cases hlt : k < 9
      · have hkn : k < L.length := by have := HN.out; omega
        obtain ⟨gb, go, e1, hcl⟩ := HR.out.at (fun e => by rw [e] at hkn; cases hkn)
        subst e1
        have hcell := hcl k hkn
        have hyb := HY.out (L.getD k 0) (by rw [List.getD, List.getElem?_eq_getElem hkn]; exact List.getElem_mem hkn)
        obtain ⟨x, HX⟩ : ∃ x, Hid (L.getD k 0 = x) := ⟨_, rfl⟩
        rw [HX.out] at hcell hyb
        have HKN : Hid (k < L.length) := hkn
        clear hcl hkn
        have HNN : Hid (0 ≤ bits .or .i64 y (wrap64 (x % 128 * 2 ^ (7 * k)))) := i64_or_nn y x k k hy0 hy rfl (by omega)
        by_cases h128 : x < 128
        · have HS : Hid (∀ v R, 0 ≤ v → v ≤ 4611686018427387904 → L = num v ++ R → bits .or .i64 y (wrap64 (x % 128 * 2 ^ (7 * k))) = v ∧ k + 1 = (num v).length ∧ (0 < k → 0 < x)) := HFN.out.small HX.out h128
          go_wp2_with fail
          all_goals
            refine bodyPost_ret (results_tmp2 rfl _ _ _) rfl ?_
            first
              | exact ⟨⟨0, 0, rfl, inI_lit (by decide) (by decide), Int.le_refl _, Nat.zero_le _, fun v R h0 h1 e => by obtain ⟨e1, e2, e3⟩ := HS.out v R h0 h1 e; exfalso; first | omega | (rename_i hh; rw [e1] at hh; first | omega | (rcases hh with hh | hh; simp at hh; omega; omega))⟩, rfl⟩
              | exact ⟨⟨_, k + 1, rfl, inI_or _ _, HNN.out, by omega, fun v R h0 h1 e => ⟨(HS.out v R h0 h1 e).1, (HS.out v R h0 h1 e).2.1⟩⟩, rfl⟩
        · have HF2 : Hid (FN L (k + 1) (bits .or .i64 y (wrap64 (x % 128 * 2 ^ (7 * k))))) := HFN.out.big HX.out hyb.1 h128
          go_wp2_with fail
          exact ⟨⟨k + 1, _, by omega, rfl, rfl, inI_or _ _, HNN.out, HF2, trivial⟩, by simp [intOf]; omega⟩
      · obtain rfl : k = 9 := by omega
        go_wp2_with fail
        refine bodyPost_ret (v := .tuple #[.int .i64 0, .int .i64 0]) (by simp [results, Try.results81, go_sem]) rfl ?_
        exact ⟨⟨0, 0, rfl, inI_lit (by decide) (by decide), Int.le_refl _, by omega, HFN.out.over (by first | exact .inr rfl | exact .inl HN.out.symm)⟩, rfl⟩
end Go.Proofs.Ytkjocpadmlobgaa
