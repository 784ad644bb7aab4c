/- The document's Reader: a number's bytes are read back. For rows of up to 2^38 bytes. -/
import Derived.Test.YtkjocpadmlobgaaWireRr
import Derived.Laws.BitsAllLaws
namespace Go.Proofs.Ytkjocpadmlobgaa
open Go.RowKit Go.Dig Go.Inv Go.Oct
set_option linter.unusedVariables false

theorem OwnB.form2r {w : World} {base : Nat} {v : Value} {L : List Int} (h : OwnB w base v L) : ∃ ao cap, v = .slice ao L.length cap ∧ L.length ≤ cap ∧ Rowed w ao L cap ∧ ∀ ad, ao = some ad → base ≤ ad.block ∧ ad.block < w.heap.size := by
  obtain ⟨ao, n, cap, rfl, hF⟩ := h.form
  obtain ⟨rfl, hc, hR⟩ := hF.out
  refine ⟨ao, cap, rfl, hc, hR, fun ad e => ?_⟩
  subst e
  exact h.lt ad.block (by simp [Value.ownBlock])
theorem u8_and127 (x : Int) (h0 : 0 ≤ x) (h1 : x < 256) : bits .and .u8 x 127 = x % 128 := by
  obtain ⟨a, rfl⟩ := Int.eq_ofNat_of_zero_le h0
  have hm : (BitVec.ofInt 8 127).toNat = 2 ^ 7 - 1 := by decide
  have key : (BitVec.ofInt 8 (a : Int) &&& BitVec.ofInt 8 127).toNat = a % 2 ^ 7 := by
    rw [BitVec.toNat_and, BitVec.toNat_ofInt, hm, Nat.and_two_pow_sub_one_eq_mod]
    omega
  show IntKind.u8.wrap ((BitVec.ofInt 8 (a : Int) &&& BitVec.ofInt 8 127).toNat : Nat) = _
  rw [key, IntKind.wrap_u8]
  omega
/-- the places of a number, one more -/
def uv (y x : Int) (i : Nat) : Int := bits .or .u64 y (IntKind.u64.wrap (IntKind.u64.wrap (bits .and .u8 x 127) * 2 ^ (7 * i)))
theorem u64_or_nn (a b : Int) : 0 ≤ bits .or .u64 a b := by
  show 0 ≤ IntKind.u64.wrap ((BitVec.ofInt 64 a ||| BitVec.ofInt 64 b).toNat : Nat)
  rw [IntKind.wrap_u64]
  omega
theorem uv_add (y x : Int) (i : Nat) (hy0 : 0 ≤ y) (hy : y < 128 ^ i) (h0 : 0 ≤ x) (h1 : x < 256) (hi : i ≤ 8) : uv y x i = y + (x % 128) * 128 ^ i := by
  unfold uv
  rw [u8_and127 x h0 h1]
  obtain ⟨d, hd, hd2⟩ : ∃ d : Nat, x % 128 = (d : Int) ∧ d < 128 := ⟨(x % 128).toNat, by omega, by omega⟩
  obtain ⟨a, rfl⟩ := Int.eq_ofNat_of_zero_le hy0
  rw [hd]
  have e7 : (2 : Nat) ^ (7 * i) = 128 ^ i := by rw [Nat.pow_mul]
  have e7' : (2 : Int) ^ (7 * i) = 128 ^ i := by rw [Int.pow_mul]; rfl
  have ha : a < 128 ^ i := by exact_mod_cast hy
  have hp8 : 128 ^ i ≤ 72057594037927936 := by
    have : 128 ^ i ≤ 128 ^ 8 := Nat.pow_le_pow_right (by decide) hi
    exact Nat.le_trans this (by decide)
  have hb : d * 128 ^ i ≤ 127 * 72057594037927936 := Nat.mul_le_mul (by omega) hp8
  have hcast : ((d : Int) * 128 ^ i) = ((d * 128 ^ i : Nat) : Int) := by push_cast; rfl
  have hw : IntKind.u64.wrap (d : Int) = (d : Int) := by rw [IntKind.wrap_u64]; omega
  rw [e7', hw, hcast, IntKind.wrap_u64, show ((d * 128 ^ i : Nat) : Int) % 18446744073709551616 = ((d * 128 ^ i : Nat) : Int) by omega, u64_or_nat _ _ (by omega) (by omega), Nat.or_comm, nat_join (7 * i) _ _ (by rw [e7]; exact Nat.mul_mod_left _ _) (by rw [e7]; exact ha)]
  omega
def TookN (L L' zs : List Int) (er er' : Bool) : Prop := ∀ vs R, (∀ v ∈ vs, NumOk v) → vs.length = zs.length → L = nums vs ++ R → zs = vs ∧ L' = R ∧ er' = er
theorem TookN.append {A B C xs ys : List Int} {e1 e2 e3 : Bool} (h : TookN A B xs e1 e2) (k : TookN B C ys e2 e3) : TookN A C (xs ++ ys) e1 e3 := fun vs R hv hl e => by
  rw [List.length_append] at hl
  have ee : vs = vs.take xs.length ++ vs.drop xs.length := (List.take_append_drop _ _).symm
  rw [ee, nums_append, List.append_assoc] at e
  obtain ⟨h1, h2, h2'⟩ := h (vs.take xs.length) _ (fun v hm => hv v (List.mem_of_mem_take hm)) (by rw [List.length_take]; omega) e
  obtain ⟨h3, h4, h4'⟩ := k (vs.drop xs.length) R (fun v hm => hv v (List.mem_of_mem_drop hm)) (by rw [List.length_drop]; omega) h2
  exact ⟨by rw [ee, ← h1, ← h3], h4, h4'.trans h2'⟩
theorem tookN_of {L L' : List Int} {z : Int} {er er' : Bool} (h : ∀ v R, NumOk v → L = num v ++ R → z = v ∧ L' = R ∧ er' = er) : TookN L L' [z] er er' := fun vs R hv hl e => by
  obtain ⟨v, rfl⟩ : ∃ v, vs = [v] := List.length_eq_one_iff.1 hl
  rw [nums_cons, nums_nil, List.append_nil] at e
  obtain ⟨h1, h2, h3⟩ := h v R (hv v (by simp)) e
  exact ⟨by rw [h1], h2, h3⟩
theorem TookN.one {L L' : List Int} {z : Int} {er er' : Bool} (h : TookN L L' [z] er er') {v : Int} {R : List Int} (hv : NumOk v) (e : L = num v ++ R) : z = v ∧ L' = R ∧ er' = er := by
  obtain ⟨h1, h2, h3⟩ := h [v] R (fun x hx => by simp at hx; subst hx; exact hv) rfl (by rw [e, nums_cons, nums_nil, List.append_nil])
  exact ⟨by injection h1, h2, h3⟩
theorem num_ne (z : Int) : num z ≠ [] := fun h => by
  unfold num numA at h
  split at h <;> simp at h
/-- what has been read of a number by the document's Reader -/
def FR (L Li : List Int) (er eri : Bool) (i : Nat) (y : Int) : Prop := ∀ v R, NumOk v → L = num v ++ R → eri = er ∧ ∃ m f : Nat, i + f = 8 ∧ m < 128 ^ (f + 1) ∧ v = y + (m : Int) * 128 ^ i ∧ 0 ≤ y ∧ y < 128 ^ i ∧ Li = numA f m ++ R ∧ (0 < i → 0 < m)
theorem FR.start (L : List Int) (er : Bool) : FR L L er er 0 0 := fun v R hv e => ⟨rfl, cutN v, 8, rfl, cutN_lt v, by rw [cutN_int]; have := hv.1; have := hv.2; omega, Int.le_refl _, by decide, by rw [e]; rfl, fun h => by omega⟩
theorem FR.small {L Li L2 : List Int} {er eri er2 : Bool} {i : Nat} {y x : Int} (h : FR L Li er eri i y) (hT : TookR Li L2 [x] 1 eri er2) (hx0 : 0 ≤ x) (h128 : x < 128) : ∀ v R, NumOk v → L = num v ++ R → uv y x i = v ∧ L2 = R ∧ er2 = er ∧ (0 < i → 0 < x) ∧ i ≤ 8 := fun v R hv e => by
  obtain ⟨he, m, f, hif, hm, hve, hy0, hy1, hLi, hmp⟩ := h v R hv e
  have hm128 : m < 128 := by
    by_cases hb : m < 128
    · exact hb
    · obtain ⟨g, _, hn⟩ := numA_big_get hb hm
      rw [hn] at hLi
      have := (hT [((m % 128 + 128 : Nat) : Int)] (numA g (m / 128) ++ R) rfl hLi).1
      injection this with this
      omega
  rw [numA_small hm128] at hLi
  obtain ⟨a1, a2, a3⟩ := hT [(m : Int)] R rfl hLi
  injection a1 with a1
  subst a1
  refine ⟨?_, a2, a3.trans he, fun hk => by have := hmp hk; omega, by omega⟩
  rw [uv_add y m i hy0 hy1 hx0 (by omega) (by omega), hve, show (m : Int) % 128 = m by omega]
theorem FR.big {L Li L2 : List Int} {er eri er2 : Bool} {i : Nat} {y x : Int} (h : FR L Li er eri i y) (hT : TookR Li L2 [x] 1 eri er2) (hx0 : 0 ≤ x) (hx1 : x < 256) (h128 : ¬ x < 128) : FR L L2 er er2 (i + 1) (uv y x i) := fun v R hv e => by
  obtain ⟨he, m, f, hif, hm, hve, hy0, hy1, hLi, hmp⟩ := h v R hv e
  have hm128 : ¬ m < 128 := fun hb => by
    rw [numA_small hb] at hLi
    have := (hT [(m : Int)] R rfl hLi).1
    injection this with this
    omega
  obtain ⟨g, rfl, hn⟩ := numA_big_get hm128 hm
  rw [hn] at hLi
  obtain ⟨a1, a2, a3⟩ := hT [((m % 128 + 128 : Nat) : Int)] (numA g (m / 128) ++ R) rfl hLi
  injection a1 with a1
  have hxm : x % 128 = ((m % 128 : Nat) : Int) := by omega
  have hP : (0 : Int) < 128 ^ i := Int.pow_pos (by decide)
  have hu := uv_add y x i hy0 hy1 hx0 hx1 (by omega)
  rw [hxm] at hu
  refine ⟨a3.trans he, m / 128, g, by omega, ?_, ?_, ?_, ?_, a2, fun _ => by omega⟩
  · rw [Nat.pow_succ] at hm
    exact Nat.div_lt_of_lt_mul (by rw [Nat.mul_comm]; exact hm)
  · have hmd : (m : Int) = ((m % 128 : Nat) : Int) + 128 * ((m / 128 : Nat) : Int) := by omega
    rw [hu, hve, hmd, Int.pow_succ]
    generalize (128 : Int) ^ i = P at *
    rw [Int.add_mul, Int.add_assoc]
    congr 2
    have : ((m % 128 : Nat) : Int) + 128 * ((m / 128 : Nat) : Int) = (m : Int) := by omega
    rw [Int.mul_comm P 128, ← Int.mul_assoc, Int.mul_comm ((m / 128 : Nat) : Int) 128]
  · exact u64_or_nn _ _
  · rw [hu, Int.pow_succ]
    have h2 : ((m % 128 : Nat) : Int) * 128 ^ i ≤ 127 * 128 ^ i := Int.mul_le_mul_of_nonneg_right (by omega) (Int.le_of_lt hP)
    generalize (128 : Int) ^ i = P at *
    omega
set_option maxRecDepth 10000 in
set_option maxHeartbeats 4000000 in
theorem rrNum_str (r : Nat) (L : List Int) (er : Bool) (w : World) (h : RdR w r L er) : Calls Try.prog 46 #[.pointer (some ⟨r, 0, none⟩)] w fun e w' => (∃ z : Int, e = .returned (.int .i64 z) ∧ inI z ∧ 0 ≤ z ∧ ∃ L' er', RdR w' r L' er' ∧ TookN L L' [z] er er' ∧ L'.length ≤ L.length) ∧ Keeps r w w' := by
  have HH : Hid (RdR w r L er) := h
  have HNE : Hid (er = true → ∀ v R, L = num v ++ R → False) := fun he v R e => by
    obtain ⟨_, _, _, _, _, _, _, _, hE⟩ := h
    rw [hE he] at e
    have := congrArg List.length e
    rw [List.length_append] at this
    have := List.length_pos_iff.2 (num_ne v)
    simp at *
    omega
  clear h
  go_enter Try.func46, Try.ntmps46
  go_wp2_with fail
  go_loopw [3, 4] (fun u iv wr => ∃ i : Nat, i ≤ 10 ∧ iv = .int .i64 (i : Int) ∧ ∃ y : Int, u = .int .u64 y ∧ Hid (∃ Li eri, RdR wr r Li eri ∧ FR L Li er eri i y ∧ Li.length ≤ L.length ∧ Keeps r w wr)) (fun _ iv _ => 10 - (intOf iv).toNat)
  case atStart => exact ⟨0, by omega, rfl, 0, rfl, ⟨L, er, HH.out, FR.start L er, Nat.le_refl _, Keeps.refl _ _⟩⟩
  case round =>
    obtain ⟨i, hi, rfl, y, rfl, HY⟩ := hrel
    obtain ⟨Li, eri, hr, hf, hl, hk⟩ := HY.out
    have HFR : Hid (FR L Li er eri i y ∧ Li.length ≤ L.length ∧ Keeps r w wr) := ⟨hf, hl, hk⟩
    clear HY hf hl hk
    by_cases hlt : i < 10
    · have hlt' : (i : Int) < 10 := by omega
      go_wp2_with fail
      refine (rrRaw_str r Li eri 1 wr hr (inI_lit (by decide) (by decide))).mono ?_
      rintro e w1 ⟨v1, rfl, D, hO, hDl, hD1, hDb, hk1, L2, er2, hr2, hl2, hE2, hT2⟩
      have HR2 : Hid (RdR w1 r L2 er2) := hr2
      have HX2 : Hid (L2.length ≤ L.length ∧ Keeps r w w1) := ⟨by have := HFR.out.2.1; omega, HFR.out.2.2.trans hk1⟩
      obtain ⟨ao2, cap2, hb2, -⟩ := hr2
      have c2 : w1.cell? ⟨r, 1, none⟩ = some (.bool er2) := (cell_blk hb2 _).trans rfl
      clear hb2 hk1 hl2 hDl hr
      cases er2
      · have hd1 : D.length = 1 := by have := hE2 rfl; omega
        obtain ⟨x, rfl⟩ := List.length_eq_one_iff.1 hd1
        obtain ⟨ao, cp, rfl, hcp, hRo, hbk⟩ := OwnB.form2r hO
        obtain ⟨gb, go, e1, hcl⟩ := hRo.at (fun e => by cases e)
        subst e1
        have hx := hcl 0 (by show 0 < 1; decide)
        have hx' : w1.cell? ⟨gb, go, none⟩ = some (.int .u8 x) := hx
        have hxb := hDb x (by simp)
        have HT2 : Hid (TookR Li L2 [x] 1 eri false) := hT2
        clear hx hcl hRo hbk hO hD1 hDb hE2 hT2 hd1 hcp
        have HBAD : Hid ((∀ v R, NumOk v → L = num v ++ R → False) → (∃ z : Int, Ending.returned (.int .i64 0) = .returned (.int .i64 z) ∧ True)) := fun _ => ⟨0, rfl, trivial⟩
        by_cases h9 : i = 9
        · subst h9
          have HV : Hid (∀ v R, NumOk v → L = num v ++ R → False) := fun v R hv e => by
            obtain ⟨-, m, f, h, _⟩ := HFR.out.1 v R hv e
            omega
          have hnn := u64_or_nn y (IntKind.u64.wrap (IntKind.u64.wrap (bits .and .u8 x 127) * 9223372036854775808))
          obtain ⟨u9, hu9⟩ : ∃ u9, bits .or .u64 y (IntKind.u64.wrap (IntKind.u64.wrap (bits .and .u8 x 127) * 9223372036854775808)) = u9 := ⟨_, rfl⟩
          rw [hu9] at hnn
          go_wp2_with fail
          all_goals first
            | (refine (rrBad_str r L2 false w1 HR2.out).mono ?_
               have HC : Hid (True) := trivial
               rintro e w2 ⟨rfl, hr2, hk2, hs2⟩
               have HX3 : Hid (RdR w2 r [] true ∧ Keeps r w w2) := ⟨hr2, HX2.out.2.trans hk2⟩
               clear hr2 hk2 hs2
               go_wp2_with fail
               go_ret
               exact ⟨⟨0, rfl, inI_lit (by decide) (by decide), Int.le_refl _, [], true, HX3.out.1, tookN_of (fun v R hv e => (HV.out v R hv e).elim), Nat.zero_le _⟩, HX3.out.2⟩)
            | (have hle : u9 ≤ 4611686018427387904 := by first | omega | exact (show (x == 0) = false ∧ u9 ≤ 4611686018427387904 by assumption).2
               refine bodyPost_ret (results_tmp rfl _ _ _) rfl ⟨⟨u9, ?_, ⟨by omega, by omega⟩, hnn, L2, false, HR2.out, tookN_of (fun v R hv e => (HV.out v R hv e).elim), HX2.out.1⟩, HX2.out.2⟩
               first | rfl | exact congrArg (fun z => Ending.returned (.int .i64 z)) (IntWalk.wrap64_in _ ⟨by omega, by omega⟩))
        · by_cases h128 : x < 128
          · have HV : Hid (∀ v R, NumOk v → L = num v ++ R → uv y x i = v ∧ L2 = R ∧ false = er ∧ (0 < i → 0 < x) ∧ i ≤ 8) := HFR.out.1.small HT2.out hxb.1 h128
            have hnn := u64_or_nn y (IntKind.u64.wrap (IntKind.u64.wrap (bits .and .u8 x 127) * 2 ^ (7 * i)))
            obtain ⟨u9, hu9⟩ : ∃ u9, bits .or .u64 y (IntKind.u64.wrap (IntKind.u64.wrap (bits .and .u8 x 127) * 2 ^ (7 * i))) = u9 := ⟨_, rfl⟩
            have HU : Hid (uv y x i = u9) := hu9
            rw [hu9] at hnn
            have h9' : ¬ (i : Int) = 9 := by omega
            go_wp2_with fail
            all_goals first
              | (refine (rrBad_str r L2 false w1 HR2.out).mono ?_
                 have HC : Hid ((x = 0 ∧ 0 < i) ∨ 4611686018427387904 < u9) := by first | exact .inr (by omega) | exact .inl ⟨by omega, by omega⟩ | (rcases (show (x == 0) = true ∨ 4611686018427387904 < u9 by assumption) with hh | hh; exact absurd (show x = 0 by simpa using hh) (by assumption); exact .inr hh)
                 rintro e w2 ⟨rfl, hr2, hk2, hs2⟩
                 have HX3 : Hid (RdR w2 r [] true ∧ Keeps r w w2) := ⟨hr2, HX2.out.2.trans hk2⟩
                 clear hr2 hk2 hs2
                 go_wp2_with fail
                 go_ret
                 exact ⟨⟨0, rfl, inI_lit (by decide) (by decide), Int.le_refl _, [], true, HX3.out.1, tookN_of (fun v R hv e => (show False by obtain ⟨a1, a2, a3, a4, a5⟩ := HV.out v R hv e; rw [HU.out] at a1; have := hv.2; have := HC.out; omega).elim), Nat.zero_le _⟩, HX3.out.2⟩)
              | (have hle : u9 ≤ 4611686018427387904 := by first | omega | exact (show (x == 0) = false ∧ u9 ≤ 4611686018427387904 by assumption).2
                 refine bodyPost_ret (results_tmp rfl _ _ _) rfl ⟨⟨u9, ?_, ⟨by omega, by omega⟩, hnn, L2, false, HR2.out, tookN_of (fun v R hv e => by obtain ⟨a1, a2, a3, -, -⟩ := HV.out v R hv e; rw [HU.out] at a1; exact ⟨a1, a2, a3⟩), HX2.out.1⟩, HX2.out.2⟩
                 first | rfl | exact congrArg (fun z => Ending.returned (.int .i64 z)) (IntWalk.wrap64_in _ ⟨by omega, by omega⟩))
          · have HF3 : Hid (FR L L2 er false (i + 1) (uv y x i)) := HFR.out.1.big HT2.out hxb.1 hxb.2 h128
            have h9' : ¬ (i : Int) = 9 := by omega
            have h127 : 127 < x := by omega
            go_wp2_with fail
            exact ⟨⟨i + 1, by omega, rfl, _, rfl, ⟨L2, false, HR2.out, HF3.out, HX2.out.1, HX2.out.2⟩⟩, by simp [intOf]; omega⟩
      · have HTT : Hid (TookN L L2 [0] er true) := tookN_of (fun v R hv e => by
          exfalso
          obtain ⟨he, m, f, hif, hm, hve, hy0, hy1, hLi, hmp⟩ := HFR.out.1 v R hv e
          have : true = eri := by
            by_cases hb : m < 128
            · rw [numA_small hb] at hLi
              exact (hT2 [(m : Int)] R rfl hLi).2.2
            · obtain ⟨g, _, hn⟩ := numA_big_get hb hm
              rw [hn] at hLi
              exact (hT2 [((m % 128 + 128 : Nat) : Int)] (numA g (m / 128) ++ R) rfl hLi).2.2
          exact HNE.out (he.symm.trans this.symm) v R e)
        clear hO hD1 hDb hE2 hT2
        go_wp2_with fail
        go_ret
        exact ⟨⟨0, rfl, inI_lit (by decide) (by decide), Int.le_refl _, L2, true, HR2.out, HTT.out, HX2.out.1⟩, HX2.out.2⟩
    · obtain rfl : i = 10 := by omega
      have HTT : Hid (∀ v R, NumOk v → L = num v ++ R → False) := fun v R hv e => by
        obtain ⟨-, m, f, h, _⟩ := HFR.out.1 v R hv e
        omega
      go_wp2_with fail
      refine (rrBad_str r Li eri wr hr).mono ?_
      rintro e w2 ⟨rfl, hr2, hk2, hs2⟩
      have HX2 : Hid (RdR w2 r [] true ∧ Keeps r w w2) := ⟨hr2, HFR.out.2.2.trans hk2⟩
      clear hr2 hk2 hs2
      go_wp2_with fail
      go_ret
      exact ⟨⟨0, rfl, inI_lit (by decide) (by decide), Int.le_refl _, [], true, HX2.out.1, tookN_of (fun v R hv e => (HTT.out v R hv e).elim), Nat.zero_le _⟩, HX2.out.2⟩
set_option maxRecDepth 10000 in
set_option maxHeartbeats 1000000 in
theorem rrBytes_str (r : Nat) (L : List Int) (er : Bool) (w : World) (h : RdR w r L er) : Calls Try.prog 48 #[.pointer (some ⟨r, 0, none⟩)] w fun e w' => ∃ v', e = .returned v' ∧ ∃ D, OwnB w' w.heap.size v' D ∧ D.length ≤ L.length ∧ (∀ x ∈ D, 0 ≤ x ∧ x < 256) ∧ Keeps r w w' ∧ ∃ L' er', RdR w' r L' er' ∧ L'.length ≤ L.length ∧ (∀ D' R, NumOk (D'.length : Int) → L = num (D'.length : Int) ++ (D' ++ R) → D = D' ∧ L' = R ∧ er' = er) := by
  have HH : Hid (RdR w r L er) := h
  have HNE : Hid (er = true → ∀ v R, L = num v ++ R → False) := fun he v R e => by
    obtain ⟨_, _, _, _, _, _, _, _, hE⟩ := h
    rw [hE he] at e
    have := congrArg List.length e
    rw [List.length_append] at this
    have := List.length_pos_iff.2 (num_ne v)
    simp at *
    omega
  clear h
  go_enter Try.func48, Try.ntmps48
  go_wp2_with fail
  refine (rrNum_str r L er w HH.out).mono ?_
  rintro e w1 ⟨⟨z, rfl, hz, hz0, L1, er1, hr1, ht1, hl1⟩, hk1⟩
  have HX : Hid (TookN L L1 [z] er er1 ∧ L1.length ≤ L.length ∧ Keeps r w w1 ∧ RdR w1 r L1 er1) := ⟨ht1, hl1, hk1, hr1⟩
  have hws := hk1.size
  obtain ⟨ao1, cap1, hb1, -⟩ := hr1
  have c1 : w1.cell? ⟨r, 1, none⟩ = some (.bool er1) := (cell_blk hb1 _).trans rfl
  clear hb1 ht1 hl1 hk1
  cases er1
  · go_wp2_with fail
    refine (rrRaw_str r L1 false z w1 HX.out.2.2.2 hz).mono ?_
    rintro e w2 ⟨v', rfl, D, hO, hDl, -, hDb, hk2, L2, er2, hr2, hl2, -, hT2⟩
    have HP : Hid (∃ D, OwnB w2 w.heap.size v' D ∧ D.length ≤ L.length ∧ (∀ x ∈ D, 0 ≤ x ∧ x < 256) ∧ Keeps r w w2 ∧ ∃ L' er', RdR w2 r L' er' ∧ L'.length ≤ L.length ∧ (∀ D' R, NumOk (D'.length : Int) → L = num (D'.length : Int) ++ (D' ++ R) → D = D' ∧ L' = R ∧ er' = er)) := by
      refine ⟨D, hO.mono hws, by have := HX.out.2.1; omega, hDb, HX.out.2.2.1.trans hk2, L2, er2, hr2, by have := HX.out.2.1; omega, fun D' R hn e => ?_⟩
      obtain ⟨a1, a2, a3⟩ := HX.out.1.one hn e
      obtain ⟨b1, b2, b3⟩ := hT2 D' R a1 a2
      exact ⟨b1, b2, b3.trans a3⟩
    clear hO hDl hDb hk2 hr2 hl2 hT2
    go_wp2_with fail
    exact bodyPost_ret (results_tmp rfl _ _ _) rfl ⟨v', rfl, HP.out⟩
  · go_wp2_with fail
    go_ret
    refine ⟨_, rfl, [], OwnB.nil _ _, Nat.zero_le _, (fun x hx => by cases hx), HX.out.2.2.1, L1, true, HX.out.2.2.2, HX.out.2.1, fun D' R hn e => ?_⟩
    exact (HNE.out (HX.out.1.one hn e).2.2.symm _ _ e).elim
end Go.Proofs.Ytkjocpadmlobgaa
