/- The reference's numbers as bytes, and what it seals of a vote: Num, Nums, VoteBody. For every number and vote. -/
import Derived.Test.YtkjocpadmlobgaaWireC
import Derived.Test.YtkjocpadmlobgaaWireV
import Derived.Test.YtkjocpadmlobgaaInv4
import Derived.Laws.Bits64b
namespace Go.Proofs.Ytkjocpadmlobgaa
open Go.RowKit Go.Dig Go.Inv Go.Oct

theorem u64_and127 (m : Nat) (h : m < 18446744073709551616) : bits .and .u64 (m : Int) 127 = (m : Int) % 128 := by
  have h2 := bits_and_u64_nat m 127 h (by omega)
  rw [show (127 : Nat) = 2 ^ 7 - 1 from rfl, Nat.and_two_pow_sub_one_eq_mod] at h2
  rw [show ((2 ^ 7 - 1 : Nat) : Int) = 127 from rfl] at h2
  rw [h2]; omega
set_option maxRecDepth 10000 in
set_option maxHeartbeats 1000000 in
theorem rNum_any (z : Int) (w : World) (h : inI z) : Calls Try.prog 64 #[.int .i64 z] w fun e w' => ∃ v', e = .returned v' ∧ OwnB w' w.heap.size v' (num z) ∧ Below w.heap.size w w' := by
  have HZ : Hid (((cutN z : Nat) : Int) = min (max z 0) 4611686018427387904) := cutN_int z
  obtain ⟨h0, h1⟩ := h
  go_enter Try.func64, Try.ntmps64
  go_wp2_with fail
  all_goals
    try rw [show decide (4611686018427387904 < z) = true from decide_eq_true (by omega)]
    try rw [show decide (4611686018427387904 < z) = false from decide_eq_false (by omega)]
    try rw [show decide (0 < z) = true from decide_eq_true (by omega)]
    try rw [show decide (0 < z) = false from decide_eq_false (by omega)]
    go_loopw [3, 4] (fun n u wr => ∃ (m f : Nat) (M : List Int), n = .int .u64 (m : Int) ∧ m ≤ 4611686018427387904 ∧ Hid (m < 128 ^ (f + 1)) ∧ Hid (M ++ numA f m = num z) ∧ M.length ≤ 9 ∧ Hid (OwnB wr w.heap.size u M) ∧ Hid (Below w.heap.size w wr)) (fun n _ _ => (intOf n).toNat)
    case atStart => exact ⟨cutN z, 8, [], by have := HZ.out; congr 1; omega, cutN_le z, Nat.lt_of_le_of_lt (cutN_le z) (by decide), rfl, by simp, OwnB.nil _ _, Below.refl _ _⟩
    case round =>
      clear HZ
      obtain ⟨m, f, M, rfl, hm, Hf, HM, hM, HO, HB⟩ := hrel
      have hbw : w.heap.size ≤ wr.heap.size := HB.out.size
      by_cases hlt : m < 128
      · have hw : (m : Int) % 256 = (m : Int) := by omega
        go_wp2_with (at_builtin; refine wpList_app rfl _ _ rfl w.heap.size _ M rfl (OwnB.alloc HO.out _) (some ⟨wr.heap.size, 0, none⟩) 1 1 [(m : Int)] rfl rfl (one_byte _ _ _ _) (by omega) (by simp; omega) ?_)
        intro v2 w2 HO2 HG2
        have HB2 : Hid (Below w.heap.size w w2) := (HB.out.alloc hbw _).trans (HG2.out.below (by simp; omega) (fun k hk => (HO.out.lt k hk).1))
        clear HG2
        go_wp2_with fail
        go_ret
        refine ⟨v2, rfl, ?_, HB2.out⟩
        have := HM.out
        rw [numA_small hlt] at this
        rw [← this]; exact HO2.out
      · have h127 : bits .and .u64 (m : Int) 127 = (m : Int) % 128 := u64_and127 m (by omega)
        have h128 : bits .or .u8 ((m : Int) % 128) 128 = (m : Int) % 128 + 128 := u8_or128_right _ (by omega) (by omega)
        have hw8 : (m : Int) % 128 % 256 = (m : Int) % 128 := by omega
        go_wp2_with (at_builtin; refine wpList_app rfl _ _ rfl w.heap.size _ M rfl (OwnB.alloc HO.out _) (some ⟨wr.heap.size, 0, none⟩) 1 1 [(m : Int) % 128 + 128] rfl rfl (one_byte _ _ _ _) (by omega) (by simp; omega) ?_)
        intro v2 w2 HO2 HG2
        cases f with
        | zero => exact absurd Hf.out (by simpa using hlt)
        | succ f =>
          have HM2 : Hid ((M ++ [(m : Int) % 128 + 128]) ++ numA f (m / 128) = num z) := by
            have := HM.out
            rw [numA_big hlt] at this
            show _ = _
            rw [← this]
            simp
          have Hf2 : Hid (m / 128 < 128 ^ (f + 1)) := by
            have := Hf.out
            rw [Nat.pow_succ] at this
            exact Nat.div_lt_of_lt_mul (by rw [Nat.mul_comm]; exact this)
          have hl2 : (M ++ [(m : Int) % 128 + 128]).length ≤ 9 := by
            have e := congrArg List.length HM2.out
            have := num_length z
            simp only [List.length_append] at e ⊢
            omega
          have HB2 : Hid (Below w.heap.size w w2) := (HB.out.alloc hbw _).trans (HG2.out.below (by simp; omega) (fun k hk => (HO.out.lt k hk).1))
          clear HM Hf HO HB HG2 h128 h127
          go_wp2_with fail
          go_roundw
          case rel => exact ⟨m / 128, f, _, by go_num, by omega, Hf2, HM2, hl2, HO2, HB2⟩
          case measure => simp [intOf]; omega
set_option maxRecDepth 10000 in
set_option maxHeartbeats 1000000 in
theorem rNums_any (vs : List Int) (sb so cap : Nat) (w : World) (hc : NumsAt w sb so vs) (hv : I64 vs) (hb : vs.length ≤ 1000) :
    Calls Try.prog 41 #[.slice (some ⟨sb, so, none⟩) vs.length cap] w fun e w' => ∃ v', e = .returned v' ∧ OwnB w' w.heap.size v' (nums vs) ∧ Below w.heap.size w w' := by
  have HC : Hid (NumsAt w sb so vs) := hc
  have HV : Hid (I64 vs) := hv
  clear hc hv
  go_enter Try.func41, Try.ntmps41
  go_wp2_with fail
  go_loopw [3, 4] (fun u i wr => ∃ k : Nat, k ≤ vs.length ∧ i = .int .i64 (k : Int) ∧ Hid (OwnB wr w.heap.size u (nums (vs.take k))) ∧ Hid (Below w.heap.size w wr)) (fun _ i _ => vs.length - (intOf i).toNat)
  case atStart => exact ⟨0, by omega, rfl, OwnB.nil _ _, Below.refl _ _⟩
  case round =>
    obtain ⟨k, hk, rfl, HO, HB⟩ := hrel
    obtain ⟨ao0, n0, c0, rfl, -⟩ := HO.out.form
    by_cases hlt : k < vs.length
    · have hcell : wr.cell? ⟨sb, so + k, none⟩ = some (.int .i64 (vs.getD k 0)) := (World.cell?_of_block (HB.out.block sb (World.block_lt_of_cell? w _ (HC.out k hlt)))).trans (HC.out k hlt)
      have hz := HV.out k hlt
      obtain ⟨x, hx⟩ : ∃ x, x = vs.getD k 0 := ⟨_, rfl⟩
      rw [← hx] at hcell hz
      have HX : Hid (x = vs.getD k 0) := hx
      clear hx
      have hbw : w.heap.size ≤ wr.heap.size := HB.out.size
      have hl1 : (nums (vs.take k)).length ≤ 9000 := by
        have := nums_length (vs.take k)
        rw [List.length_take] at this; omega
      go_wp2_with fail
      refine (rNum_any x wr hz).mono ?_
      rintro e w1 ⟨v1, rfl, hO1, hB1⟩
      obtain ⟨ao1, n1, c1, rfl, HF1⟩ := hO1.form
      have HO' : Hid (OwnB w1 w.heap.size (.slice ao0 n0 c0) (nums (vs.take k))) := HO.out.same (fun q hq => hB1.block q (HO.out.lt q hq).2)
      have HB1 : Hid (Below w.heap.size w w1) := HB.out.trans (hB1.mono hbw)
      have hn1 := num_length x
      have hbw1 : w.heap.size ≤ w1.heap.size := HB1.out.size
      have HN1 : Hid (n1 ≤ 9) := by have := HF1.out.1; show _ ≤ _; omega
      clear hO1 hB1 hcell HO HB
      go_wp2_with (at_builtin; refine wpList_app rfl _ _ rfl w.heap.size _ _ rfl HO'.out ao1 n1 c1 (num x) rfl HF1.out.1 HF1.out.2.2 (by have := HN1.out; omega) hbw1 ?_)
      intro v2 w2 HO2 HG2
      have HO3 : Hid (OwnB w2 w.heap.size v2 (nums (vs.take (k + 1)))) := by
        show OwnB _ _ _ _
        rw [nums_take_succ hlt, ← HX.out]; exact HO2.out
      have HB2 : Hid (Below w.heap.size w w2) := HB1.out.trans (HG2.out.below hbw1 (fun k hk => (HO'.out.lt k hk).1))
      clear HO2 HG2 HO' HB1 HX HF1 HN1
      go_wp2_with fail
      exact ⟨⟨k + 1, by omega, rfl, HO3, HB2⟩, by simp [intOf]; omega⟩
    · obtain rfl : k = vs.length := by omega
      go_wp2_with fail
      go_ret
      exact ⟨_, rfl, by have := HO.out; rwa [List.take_length] at this, HB.out⟩
/-- what the first line of VoteBody leaves, operation by operation -/
def rvbSpec (b base : Nat) (x : VoteR) : Nat → Value → World → Prop
  | 0, y, _ => y = .pointer (some ⟨b, 0, none⟩)
  | 1, y, _ => y = .int .i64 x.k
  | 2, y, _ => y = .pointer (some ⟨b, 1, none⟩)
  | 3, y, _ => y = .int .i64 x.s
  | 4, y, _ => y = .pointer (some ⟨b, 2, none⟩)
  | 5, y, _ => y = .int .i64 x.v
  | 6, y, W => ∃ g, y = .slice (some ⟨g, 0, none⟩) 4 4 ∧ NumsAt W g 0 [5, x.k, x.s, x.v]
  | 7, y, W => OwnB W base y (nums [5, x.k, x.s, x.v])
  | 8, y, _ => y = .pointer (some ⟨b, 3, none⟩)
  | 9, y, _ => y = .slice (some ⟨b, 3, none⟩) 32 32
  | _, _, _ => True
theorem NumsAt.below {w w' : World} {sb so : Nat} {vs : List Int} (h : NumsAt w sb so vs) (hB : Below w.heap.size w w') : NumsAt w' sb so vs := fun j hj => (World.cell?_of_block (hB.block sb (World.block_lt_of_cell? w _ (h j hj)))).trans (h j hj)
theorem numsAt_new (w : World) (a b c d : Int) (t : TypeId) : NumsAt (w.alloc (.cells #[.int .i64 a, .int .i64 b, .int .i64 c, .int .i64 d] t)) w.heap.size 0 [a, b, c, d] := fun j hj => by
  rw [cell_blk (alloc_blk _ _), Nat.zero_add]
  match j, hj with
  | 0, _ => rfl
  | 1, _ => rfl
  | 2, _ => rfl
  | 3, _ => rfl
theorem i64_four {a b c d : Int} (ha : inI a) (hb : inI b) (hc : inI c) (hd : inI d) : I64 [a, b, c, d] := fun j hj => by
  match j, hj with
  | 0, _ => exact ha
  | 1, _ => exact hb
  | 2, _ => exact hc
  | 3, _ => exact hd
theorem OwnB.below {w w' : World} {base : Nat} {v : Value} {L : List Int} (h : OwnB w base v L) (hB : Below w.heap.size w w') : OwnB w' base v L := h.same fun k hk => hB.block k (h.lt k hk).2
section
variable {o : Oper} {a : Act} {w : World} {Q : Exit → Act → World → Prop} {K : Act → World → Prop}
theorem wp_app (s x : Operand) (ho : o.op = .call { callee := .builtin .append, args := #[s, x], argTypes := #[22, 22] }) (base : Nat) (v : Value) (L : List Int) (hs : a.eval s = v) (hown : OwnB w base v L)
    (ad : Addr) (m c : Nat) (N : List Int) (hx : a.eval x = .slice (some ad) m c) (hm : m = N.length) (hN : ∀ j, j < N.length → w.cell? (ad.add j) = some (.int .u8 (N.getD j 0))) (hb : L.length + m < 2199023255552) (hbase : base ≤ w.heap.size)
    (h : ∀ v' w', OwnB w' base v' (L ++ N) → Gr w w' v v' → K (a.put o.dst v') w') : o.wp Try.prog a w K Q := by
  obtain ⟨v', w', hrun, h1, h2⟩ := run_app w base o.type v L hown ad m c N hm hN hb hbase
  unfold Oper.wp
  simp [execOp, ho, resolve, invoke, builtin, hs, hx, hrun, Result.andThen]
  exact h v' w' h1 h2
end
set_option maxRecDepth 10000 in
set_option maxHeartbeats 1000000 in
theorem rVoteBody_any (x : VoteR) (w : World) (hx : x.wf) : Calls Try.prog 31 #[.agg x.cells] w fun e w' => ∃ ao cap, e = .returned (.slice ao (vbody x).length cap) ∧ Rowed w' ao (vbody x) cap ∧ (vbody x).length ≤ cap ∧ Below w.heap.size w w' := by
  have hA := alloc_blk w (.cells x.cells 62)
  have hBw := below_alloc w (.cells x.cells 62)
  have hsl := slice_hash
  go_enter Try.func31, Try.ntmps31
  go_wp2_with (refine wpList_box_row rfl 62 _ rfl _ rfl ?_)
  generalize w.alloc (.cells x.cells 62) = w1 at *
  have hlt : w.heap.size < w1.heap.size := lt_blk hA
  have HA0 : Hid (w1.heap[w.heap.size]? = some (.cells x.cells 62 (0, 0))) := hA
  clear hA
  refine wp_region_pivot (by kernel_rfl) (by kernel_rfl) 10 (by decide) (by kernel_rfl) (by kernel_rfl) (fun xs => { tmps := (.agg x.cells :: .pointer (some ⟨w.heap.size, 0, none⟩) :: .slice none 0 0 :: xs 11 :: xs 0 :: xs 1 :: xs 2 :: xs 3 :: xs 4 :: xs 5 :: xs 6 :: xs 7 :: xs 8 :: xs 9 :: xs 10 :: undef :: undef :: undef :: undef :: undef :: []).toArray, defers := [] })
    (rvbSpec w.heap.size w1.heap.size x) (fun li xs W => Below w1.heap.size w1 W ∧ OwnB W w1.heap.size (xs 10) (nums [5, x.k, x.s, x.v] ++ ofF 32 x.sum) ∧ (li 11 = true → xs 11 = xs 10)) (fun _ => undef) (by repeat (first | exact trivial | refine ⟨fun _ _ => rfl, ?_⟩))
    (by
      intro i y w w' h hs
      unfold rvbSpec at *
      split at hs <;> first | exact hs | exact trivial | exact OwnB.below hs h | (obtain ⟨g, e, hl⟩ := hs; exact ⟨g, e, hl.below h⟩)) ⟨?_, ?_, ?_, ?_, ?_, ?_, ?_, ?_, ?_, ?_, ⟨rfl, ?_⟩, ?_, trivial⟩ ?_
  · intro xs W hB hp K hK
    rw [if_pos (wanted_none rfl _)]
    go_simp
    exact hK _ _ (Below.refl _ _) rfl
  · intro xs W hB hp K hK
    have h1 : xs 0 = .pointer (some ⟨w.heap.size, 0, none⟩) := hp.1 rfl
    have hc : W.cell? ⟨w.heap.size, 0, none⟩ = some (.int .i64 x.k) := (cell_blk ((hB.block _ hlt).trans HA0.out) _).trans x.at0
    clear hp
    rw [if_pos (wanted_none rfl _)]
    simp only [h1] at hK ⊢
    go_simp
    exact hK _ _ (Below.refl _ _) rfl
  · intro xs W hB hp K hK
    rw [if_pos (wanted_none rfl _)]
    go_simp
    exact hK _ _ (Below.refl _ _) rfl
  · intro xs W hB hp K hK
    have h1 : xs 2 = .pointer (some ⟨w.heap.size, 1, none⟩) := hp.1 rfl
    have hc : W.cell? ⟨w.heap.size, 1, none⟩ = some (.int .i64 x.s) := (cell_blk ((hB.block _ hlt).trans HA0.out) _).trans x.at1
    clear hp
    rw [if_pos (wanted_none rfl _)]
    simp only [h1] at hK ⊢
    go_simp
    exact hK _ _ (Below.refl _ _) rfl
  · intro xs W hB hp K hK
    rw [if_pos (wanted_none rfl _)]
    go_simp
    exact hK _ _ (Below.refl _ _) rfl
  · intro xs W hB hp K hK
    have h1 : xs 4 = .pointer (some ⟨w.heap.size, 2, none⟩) := hp.1 rfl
    have hc : W.cell? ⟨w.heap.size, 2, none⟩ = some (.int .i64 x.v) := (cell_blk ((hB.block _ hlt).trans HA0.out) _).trans x.at2
    clear hp
    rw [if_pos (wanted_none rfl _)]
    simp only [h1] at hK ⊢
    go_simp
    exact hK _ _ (Below.refl _ _) rfl
  · intro xs W hB hp K hK
    have h1 : xs 1 = .int .i64 x.k := hp.1 rfl
    have h3 : xs 3 = .int .i64 x.s := hp.2.1 rfl
    have h5 : xs 5 = .int .i64 x.v := hp.2.2.1 rfl
    clear hp
    rw [if_pos (wanted_none rfl _)]
    simp only [h1, h3, h5] at hK ⊢
    go_simp
    exact hK _ _ (below_alloc _ _) ⟨_, rfl, numsAt_new _ _ _ _ _ _⟩
  · intro xs W hB hp K hK
    obtain ⟨g, h6, hn⟩ : ∃ g, xs 6 = .slice (some ⟨g, 0, none⟩) 4 4 ∧ NumsAt W g 0 [5, x.k, x.s, x.v] := hp.1 rfl
    clear hp
    rw [if_pos (wanted_none rfl _)]
    simp only [h6] at hK ⊢
    go_simp
    refine (rNums_any [5, x.k, x.s, x.v] g 0 4 W hn (i64_four (inI_lit (by decide) (by decide)) hx.1 hx.2.1 hx.2.2.1) (by simp)).mono ?_
    rintro e w' ⟨v', rfl, hO, hB'⟩
    exact hK _ _ hB' (hO.mono hB.size)
  · intro xs W hB hp K hK
    rw [if_pos (wanted_none rfl _)]
    go_simp
    exact hK _ _ (Below.refl _ _) rfl
  · intro xs W hB hp K hK
    have h8 : xs 8 = .pointer (some ⟨w.heap.size, 3, none⟩) := hp.1 rfl
    clear hp
    rw [if_pos (wanted_none rfl _)]
    simp only [h8] at hK ⊢
    go_simp
    exact hK _ _ (Below.refl _ _) rfl
  · intro li xs W hB hs hli K hK
    have h9 : xs 9 = .slice (some ⟨w.heap.size, 3, none⟩) 32 32 := hs 9 (by decide)
    have h7 : OwnB W w1.heap.size (xs 7) (nums [5, x.k, x.s, x.v]) := hs 7 (by decide)
    refine wp_app _ _ rfl w1.heap.size (xs 7) _ rfl h7 ⟨w.heap.size, 3, none⟩ 32 32 (ofF 32 x.sum) h9 (by rw [ofF_length]) (fun j hj => ?_) (by have := nums_length [5, x.k, x.s, x.v]; simp at this; omega) hB.size (fun v' w' h1 h2 => hK _ _ ⟨hB.trans (h2.below hB.size (fun k hk => (h7.lt k hk).1)), h1, fun e => ?_⟩)
    · rw [ofF_length] at hj
      rw [addr_add, cell_blk ((hB.block _ hlt).trans HA0.out), x.atSum hj, ofF_getD hj]
    · rw [upd_other _ _ (by decide), hli 11 (by decide)] at e; cases e
  · intro li xs W hF hli hp K hK
    rw [if_pos (wanted_none rfl _)]
    go_simp
    exact hK _ _ ⟨hF.1, hF.2.1, fun _ => rfl⟩
  · rintro li xs W ⟨hB, hO, he⟩ hall
    have h11 := he (hall 11 (by decide))
    simp only [h11]
    obtain ⟨ao, n, c, h10, HF⟩ := hO.form
    rw [h10] at hO
    have HO : Hid (OwnB W w1.heap.size (.slice ao n c) (nums [5, x.k, x.s, x.v] ++ ofF 32 x.sum)) := hO
    have hc : W.cell? ⟨w.heap.size, 35, none⟩ = some (.int .i64 x.f) := (cell_blk ((hB.block _ hlt).trans HA0.out) _).trans x.at35
    simp only [h10]
    clear h11 h10 he hO hall HF
    go_wp2_with fail
    refine (rNum_any x.f W hx.2.2.2).mono ?_
    rintro e w3 ⟨v3, rfl, hO3, hB3⟩
    obtain ⟨ao3, n3, c3, rfl, HF3⟩ := hO3.form
    have HO3 : Hid (OwnB w3 w1.heap.size (.slice ao n c) (nums [5, x.k, x.s, x.v] ++ ofF 32 x.sum)) := HO.out.below hB3
    have hBw3 : Below w1.heap.size w1 w3 := hB.trans (hB3.mono hB.size)
    have hl : (nums [5, x.k, x.s, x.v] ++ ofF 32 x.sum).length ≤ 100 := by have := nums_length [5, x.k, x.s, x.v]; rw [List.length_append, ofF_length]; simp at this; omega
    have hn3 : n3 ≤ 9 := by have := HF3.out.1; have := num_length x.f; omega
    obtain ⟨L, HL⟩ : ∃ L, Hid (nums [5, x.k, x.s, x.v] ++ ofF 32 x.sum = L) := ⟨_, rfl⟩
    rw [HL.out] at HO3 hl
    have hz3 : w1.heap.size ≤ w3.heap.size := hBw3.size
    clear hO3 hB3 HO hB hc
    go_wp2_with (at_builtin; refine wpList_app rfl _ _ rfl w1.heap.size _ L rfl HO3.out ao3 n3 c3 (num x.f) rfl HF3.out.1 HF3.out.2.2 (by omega) hz3 ?_)
    intro v4 w4 HO4 HG4
    have hB4 : Below w1.heap.size w1 w4 := hBw3.trans (HG4.out.below hz3 (fun k hk => (HO3.out.lt k hk).1))
    have e : L ++ num x.f = vbody x := by rw [← HL.out]; simp [vbody, sealedL, nums, List.append_assoc]
    have HO5 : Hid (OwnB w4 w1.heap.size v4 (vbody x)) := by show OwnB _ _ _ _; rw [← e]; exact HO4.out
    obtain ⟨ao4, n4, c4, rfl, HF4⟩ := HO5.out.form
    clear HO4 HG4 HO3 HF3 HL e
    go_wp2_with fail
    go_ret
    obtain ⟨hn4, hc4, hR4⟩ := HF4.out
    subst hn4
    exact ⟨ao4, c4, rfl, hR4, hc4, hBw.trans (hB4.mono hBw.size)⟩
end Go.Proofs.Ytkjocpadmlobgaa
