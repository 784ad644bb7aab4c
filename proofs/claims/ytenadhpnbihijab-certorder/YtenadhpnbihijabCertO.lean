/- CertOrder's walk. For every two numbers. -/
import Derived.Test.YtenadhpnbihijabCertV
namespace Go.Proofs.Ytenadhpnbihijab
open Go.RowKit Go.Dig Go.Sha Go.Inv Go.Oct

theorem and3 : ∀ n, n < 20 → bits .and .i64 ((n : Nat) : Int) 3 = (n : Int) % 4 := by decide
theorem inI_nat {n : Nat} (h : n < 1000) : inI (n : Int) := ⟨by omega, by omega⟩
theorem who_len (R : RingO) : ∀ (xs : List VoteW) (acc : List Int), (∀ x ∈ xs, goodR R x.1 = true) → (xs.map (fun x => x.1.f)).Pairwise (· ≠ ·) → (∀ x ∈ xs, x.1.f ∉ acc) → (xs.foldl (whoStep R) acc).length = acc.length + xs.length
  | [], acc, _, _, _ => by simp
  | x :: t, acc, hg, hp, hn => by
    rw [List.foldl_cons]
    have hx : whoStep R acc x = insL acc x.1.f := by
      unfold whoStep
      rw [hg x (by simp)]
      have : acc.contains x.1.f = false := by
        cases hc : acc.contains x.1.f
        · rfl
        · exact absurd (List.contains_iff_mem.1 hc) (hn x (by simp))
      rw [this]; rfl
    rw [List.map_cons, List.pairwise_cons] at hp
    rw [hx, who_len R t (insL acc x.1.f) (fun y hy => hg y (by simp [hy])) hp.2 (fun y hy hm => by
      rcases insL_mem.1 hm with e | e
      · exact hp.1 y.1.f (List.mem_map.2 ⟨y, hy, rfl⟩) e.symm
      · exact hn y (by simp [hy]) e), insL_length]
    simp; omega
/-- a vote on something else -/
def jv (i : Nat) : VoteW := ⟨⟨2, 0, 1, zeroF, (i : Int) % 4, zeroF⟩, ⟨inI_lit (n := 2) (by decide) (by decide), inI_lit (n := 0) (by decide) (by decide), inI_lit (n := 1) (by decide) (by decide), inI_lit (n := (i : Int) % 4) (by omega) (by omega)⟩⟩
def cv (first i : Nat) : VoteW := castW ring4 2 0 1 (oneF 5) (((first : Int) + (i : Int)) % 4) ⟨by decide, by decide⟩ ⟨by decide, by decide⟩ ⟨by decide, by decide⟩ ⟨by omega, by omega⟩
def junkL (n : Nat) : List VoteW := (List.range n).map jv
def castL (first n : Nat) : List VoteW := (List.range n).map (cv first)
theorem junkL_succ (n : Nat) : junkL (n + 1) = junkL n ++ [jv n] := by simp [junkL, List.range_succ]
theorem castL_succ (first n : Nat) : castL first (n + 1) = castL first n ++ [cv first n] := by simp [castL, List.range_succ]
theorem told_order (first j : Nat) (hj : j ≤ 9) : toldL 2 0 1 (oneF 5) (junkL j ++ castL first 4) = castL first (min 4 (10 - j)) := by
  have h1 : (junkL j).length = j := by simp [junkL]
  unfold toldL
  rw [List.take_append, List.filter_append, h1, List.take_of_length_le (by omega)]
  have h2 : (junkL j).filter (fun x => askedB 2 0 1 (oneF 5) x.1) = [] := by
    rw [List.filter_eq_nil_iff]
    intro x hx
    unfold junkL at hx
    obtain ⟨i, -, rfl⟩ := List.mem_map.1 hx
    have : rowEq 32 zeroF (oneF 5) = false := by decide
    simp [askedB, jv, this]
  have h3 : (castL first 4).take (10 - j) = castL first (min 4 (10 - j)) := by
    unfold castL
    rw [← List.map_take, List.take_range, Nat.min_comm]
  rw [h2, List.nil_append, h3, List.filter_eq_self]
  intro x hx
  unfold castL at hx
  obtain ⟨i, -, rfl⟩ := List.mem_map.1 hx
  exact asked_cast _ _ _ _ _ _
theorem who_order (first m : Nat) (hm : m ≤ 4) : (whoL ring4 (castL first m)).length = m := by
  have h1 : (castL first m).length = m := by simp [castL]
  have := who_len ring4 (castL first m) [] (fun x hx => by
    unfold castL at hx
    obtain ⟨i, -, rfl⟩ := List.mem_map.1 hx
    refine good_cast ?_
    unfold hasB
    exact decide_eq_true ⟨by omega, by omega⟩) (by
    unfold castL
    rw [List.map_map, List.pairwise_map]
    have hlt : (List.range m).Pairwise (fun a b => a < b ∧ b < m) := by
      refine List.Pairwise.imp_of_mem ?_ List.pairwise_lt_range
      intro a b _ hb h
      exact ⟨h, List.mem_range.1 hb⟩
    refine hlt.imp ?_
    intro a b h
    show ((first : Int) + (a : Int)) % 4 ≠ ((first : Int) + (b : Int)) % 4
    omega) (fun x _ => by simp)
  rw [h1] at this
  simpa [whoL] using this
theorem built_jv (i : Nat) : Try.prog.built 29 [(0, .int .i64 2), (2, .int .i64 1), (4, .int .i64 ((i : Int) % 4))] = some (jv i).1.cells := by kernel_rfl
set_option maxRecDepth 10000 in
set_option maxHeartbeats 8000000 in
theorem certOrder_in (first j : Nat) (w : World) (hf : first ≤ 3) (hj : j ≤ 9) :
    Calls Try.prog 3 #[.int .i64 (first : Int), .int .i64 (j : Int)] w fun x w' => x = .returned (.bool true) ∧ Below w.heap.size w w' := by
  have hf0 : ¬ ((first : Int) < 0) := by omega
  have hf3 : ¬ ((3 : Int) < (first : Int)) := by omega
  have hj0 : ¬ ((j : Int) < 0) := by omega
  have hj9 : ¬ ((9 : Int) < (j : Int)) := by omega
  go_enter Try.func3, Try.ntmps3
  go_wp2_with (refine wpList_build_to rfl 26 _ rfl (row .u8 32 (oneF 1)) (by kernel_rfl) ?_)
  refine (sNew_any 4 (oneF 1) _ (by decide) (by decide)).mono ?_
  rintro x w1 ⟨rg, rfl, hrg, hR, hB1⟩
  rw [show nodesOf 4 = 4 by decide] at hR
  have HR : Hid (RingV w1 (.pointer (some ⟨rg, 0, none⟩)) ring4) := ⟨rg, rfl, hR⟩
  clear hR
  go_wp2_with fail
  go_loopw [6, 7] (fun lv iv wr => ∃ i : Nat, i ≤ j ∧ iv = .int .i64 (i : Int) ∧ OwnV wr w1.heap.size lv (junkL i) ∧ Below w1.heap.size w1 wr) (fun _ iv _ => j - (intOf iv).toNat)
  case atStart => exact ⟨0, Nat.zero_le _, rfl, OwnV.nil _ _, Below.refl _ _⟩
  case round =>
    obtain ⟨i, hi, rfl, hO, hB⟩ := hrel
    by_cases hlt : i < j
    · have ha := and3 i (by omega)
      obtain ⟨ao, cap, rfl, hVin⟩ := hO.form
      have HO : Hid (OwnV (wr.alloc (.cells (rowV [(jv i).1]) 29)) w1.heap.size (.slice ao (junkL i).length cap) (junkL i)) := hO.alloc _
      have HV : Hid (VotesIn (wr.alloc (.cells (rowV [(jv i).1]) 29)) (some ⟨wr.heap.size, 0, none⟩) 1 [jv i]) := rowV_in (zs := [jv i]) (alloc_blk wr (.cells (rowV [(jv i).1]) 29)) (by simp)
      have hsz := hB.size
      have hlj : (junkL i).length = i := by simp [junkL]
      have HL : Hid ((junkL i).length = i) := hlj
      clear hO hVin hlj
      have HS : Hid (w1.heap.size ≤ (wr.alloc (.cells (rowV [(jv i).1]) 29)).heap.size) := by show w1.heap.size ≤ (wr.heap.push _).size; simp; omega
      have HN : Hid ((junkL i).length + 1 ≤ 1000) := by show (junkL i).length + 1 ≤ 1000; have := HL.out; omega
      go_wp2_with (first | (refine wpList_build_to rfl 29 _ rfl (jv i).1.cells ?_ ?_; kernel_rfl) | (refine wpList_rowV ?_ 1 _ rfl [(jv i).1] rfl (by decide) (by decide) ?_ ?_; kernel_rfl; kernel_rfl) | (refine wpList_appV rfl _ _ rfl w1.heap.size (.slice ao (junkL i).length cap) (junkL i) ?_ (some ⟨wr.heap.size, 0, none⟩) 1 1 [jv i] ?_ ?_ ?_ ?_ ?_ ?_ ?_; rfl; rfl; rfl; exact HO.out; exact HV.out; exact HN.out; exact HS.out))
      intro u w4 hO4 hG4
      obtain ⟨ao4, cap4, rfl, -⟩ := hO4.form
      have HO4 : Hid _ := hO4
      have hB4 : Below w1.heap.size w1 w4 := (hB.alloc hB.size _).trans (hG4.below (by simp; omega) (fun k hk => (HO.out.lt k hk).1))
      clear hO4 hG4 HO HV HN HS
      go_wp2_with fail
      go_roundw
      case rel => exact ⟨i + 1, by omega, by go_num, by rw [junkL_succ]; exact HO4.out, hB4⟩
      case measure => simp [intOf]; omega
    · obtain rfl : i = j := by omega
      obtain ⟨ao, cap, rfl, -⟩ := hO.form
      have HO : Hid _ := hO
      have hB5 := hB
      clear hO hB
      go_wp2_with fail
      go_loopw [6, 8] (fun lv iv wq => ∃ m : Nat, m ≤ 4 ∧ iv = .int .i64 (m : Int) ∧ OwnV wq w1.heap.size lv (junkL i ++ castL first m) ∧ Below w1.heap.size w1 wq) (fun _ iv _ => 4 - (intOf iv).toNat)
      case atStart => exact ⟨0, Nat.zero_le _, rfl, by rw [show castL first 0 = [] from rfl, List.append_nil]; exact HO.out, hB5⟩
      case round =>
        clear HO hB5 hlt hi
        obtain ⟨m, hm, rfl, hO, hB⟩ := hrel
        have hll : (junkL i ++ castL first m).length = i + m := by simp [junkL, castL]
        by_cases hlt : m < 4
        · have hm4 : (m : Int) < 4 := by omega
          have ha : bits BinOp.and IntKind.i64 ((first : Int) + (m : Int)) 3 = ((first : Int) + (m : Int)) % 4 := by
            have := and3 (first + m) (by omega)
            rwa [Int.natCast_add] at this
          obtain ⟨ao, cap, rfl, -⟩ := hO.form
          have HLL : Hid ((junkL i ++ castL first m).length + 1 ≤ 1000) := by show (junkL i ++ castL first m).length + 1 ≤ 1000; omega
          clear hll
          obtain ⟨zs, hzs⟩ : ∃ zs, junkL i ++ castL first m = zs := ⟨_, rfl⟩
          rw [hzs] at hO HLL ⊢
          have HZS : Hid (junkL i ++ castL first m = zs) := hzs
          clear hzs
          obtain ⟨ll, hll⟩ : ∃ ll, zs.length = ll := ⟨_, rfl⟩
          rw [hll] at hO ⊢
          clear hll
          go_wp2_with (first | (refine wpList_build_to rfl 26 _ rfl (row .u8 32 (oneF 5)) ?_ ?_; kernel_rfl))
          refine (cast_any (.pointer (some ⟨rg, 0, none⟩)) ring4 2 0 1 (oneF 5) (((first : Int) + (m : Int)) % 4) wr (HR.out.below hB) (inI_lit (by decide) (by decide)) (inI_lit (by decide) (by decide)) (inI_lit (by decide) (by decide)) (inI_lit (by omega) (by omega))).mono ?_
          rintro x w2 ⟨rfl, hB2⟩
          rw [show castR ring4 2 0 1 (oneF 5) (((first : Int) + (m : Int)) % 4) = (cv first m).1 from rfl]
          obtain ⟨z, hz⟩ : ∃ z, cv first m = z := ⟨_, rfl⟩
          rw [hz]
          have HZ : Hid (cv first m = z) := hz
          have hB3 : Below w1.heap.size w1 w2 := hB.trans (hB2.mono hB.size)
          have HO : Hid (OwnV (w2.alloc (.cells (rowV [z.1]) 29)) w1.heap.size (.slice ao ll cap) zs) := (hO.below hB2).alloc _
          have HV : Hid (VotesIn (w2.alloc (.cells (rowV [z.1]) 29)) (some ⟨w2.heap.size, 0, none⟩) 1 [z]) := rowV_in (zs := [z]) (alloc_blk w2 (.cells (rowV [z.1]) 29)) (by simp)
          have hsz := hB3.size
          have HS : Hid (w1.heap.size ≤ (w2.alloc (.cells (rowV [z.1]) 29)).heap.size) := by show w1.heap.size ≤ (w2.heap.push _).size; simp; omega
          clear hO hB2 hz ha hB
          go_wp2_with (first | (refine wpList_rowV ?_ 1 _ rfl [z.1] rfl (by decide) (by decide) ?_ ?_; kernel_rfl; kernel_rfl) | (refine wpList_appV rfl _ _ rfl w1.heap.size (.slice ao ll cap) zs ?_ (some ⟨w2.heap.size, 0, none⟩) 1 1 [z] ?_ ?_ ?_ ?_ ?_ ?_ ?_; rfl; rfl; rfl; exact HO.out; exact HV.out; exact HLL.out; exact HS.out))
          intro u w4 hO4 hG4
          obtain ⟨ao4, cap4, rfl, -⟩ := hO4.form
          have HO4 : Hid _ := hO4
          have hB4 : Below w1.heap.size w1 w4 := (hB3.alloc hB3.size _).trans (hG4.below (by simp; omega) (fun k hk => (HO.out.lt k hk).1))
          clear hO4 hG4 HO HV HS hB3
          go_wp2_with fail
          go_roundw
          case rel => exact ⟨m + 1, by omega, by go_num, by rw [castL_succ, HZ.out, ← List.append_assoc, HZS.out]; exact HO4.out, hB4⟩
          case measure => simp [intOf]; omega
        · obtain rfl : m = 4 := by omega
          obtain ⟨ao, cap, rfl, hVin⟩ := hO.form
          have HVin : Hid (VotesIn wr ao cap (junkL i ++ castL first 4)) := hVin
          have HR2 : Hid (RingV wr (.pointer (some ⟨rg, 0, none⟩)) ring4) := HR.out.below hB
          have hBB : Below w.heap.size w wr := hB1.trans (hB.mono hB1.size)
          have hwho : (whoL ring4 (toldL 2 0 1 (oneF 5) (junkL i ++ castL first 4))).length = min 4 (10 - i) := by rw [told_order first i hj]; exact who_order first _ (by omega)
          have hmt : meetsR ring4 (junkL i ++ castL first 4) 2 0 1 (oneF 5) = decide (3 ≤ min 4 (10 - i)) := by
            unfold meetsR
            rw [hwho, show quorumI (nodesR ring4) = 3 by decide, show decide (0 < nodesR ring4) = true by decide, Bool.true_and, Bool.eq_iff_iff, decide_eq_true_iff, decide_eq_true_iff]
            omega
          clear hO hVin
          generalize hys : junkL i ++ castL first 4 = ys at *
          obtain ⟨n, hn⟩ : ∃ n : Nat, min 4 (10 - i) = n := ⟨_, rfl⟩
          rw [hn] at hwho hmt
          have hmin : min (4 : Int) (10 - (i : Int)) = (n : Int) := by omega
          have HWHO : Hid _ := hwho
          have HMT : Hid _ := hmt
          clear hwho hmt hll hys
          go_wp2_with (first | (refine wpList_build_to rfl 26 _ rfl (row .u8 32 (oneF 5)) ?_ ?_; kernel_rfl))
          refine (who_any (.pointer (some ⟨rg, 0, none⟩)) ring4 ao cap ys 2 0 1 (oneF 5) wr HR2.out HVin.out).mono ?_
          rintro x w5 ⟨u, rfl, hO5, hB5⟩
          obtain ⟨uo, uc, rfl⟩ := hO5.len
          rw [HWHO.out]
          have HV5 : Hid (VotesIn w5 ao cap ys) := HVin.out.below hB5
          have HR5 : Hid (RingV w5 (.pointer (some ⟨rg, 0, none⟩)) ring4) := HR2.out.below hB5
          have hB6 : Below w.heap.size w w5 := hBB.trans (hB5.mono hBB.size)
          clear hO5 hB5 HVin HR2 hBB
          go_wp2_with (first | (refine wpList_build_g ?_ 26 _ rfl (row .u8 32 (oneF 5)) ?_ ?_; kernel_rfl; kernel_rfl))
          refine (meets_any (.pointer (some ⟨rg, 0, none⟩)) ring4 ao cap ys 2 0 1 (oneF 5) w5 HR5.out (by decide) HV5.out).mono ?_
          rintro x w6 ⟨rfl, hB7⟩
          rw [HMT.out]
          have hB8 : Below w.heap.size w w6 := hB6.trans (hB7.mono hB6.size)
          clear hB7 hB6 HV5 HR5
          by_cases hn3 : 3 ≤ n
          · have hn3' : (3 : Int) ≤ (n : Int) := by omega
            rw [decide_eq_true hn3]
            go_wp2_with fail
            refine (known6_any w6).mono ?_
            rintro x w7 ⟨rfl, hB9⟩
            have hB10 := hB8.trans (hB9.mono hB8.size)
            clear hB9
            go_wp2_with fail
            go_ret
            exact ⟨rfl, hB10⟩
          · have hn3' : ¬ ((3 : Int) ≤ (n : Int)) := by omega
            rw [decide_eq_false hn3]
            go_wp2_with fail
            refine (known6_any w6).mono ?_
            rintro x w7 ⟨rfl, hB9⟩
            have hB10 := hB8.trans (hB9.mono hB8.size)
            clear hB9
            go_wp2_with fail
            go_ret
            refine ⟨?_, hB10⟩
            show Ending.returned (.bool (!decide ((3 : Int) ≤ (n : Int)))) = _
            rw [decide_eq_false (by omega)]
            rfl
end Go.Proofs.Ytenadhpnbihijab
