/- The reference's bytes of rows and votes, and what it seals of a message: Bytes, votes, Body. For rows of up to 2^37 bytes and 2^30 votes. -/
import Derived.Test.YtkjocpadmlobgaaInv6
namespace Go.Proofs.Ytkjocpadmlobgaa
open Go.RowKit Go.Dig Go.Inv Go.Oct

set_option maxRecDepth 10000 in
set_option maxHeartbeats 1000000 in
theorem rBytes_any (P : List Int) (ao : Option Addr) (cap : Nat) (w : World) (hR : Rowed w ao P cap) (hb : P.length < 137438953472) : Calls Try.prog 42 #[.slice ao P.length cap] w fun e w' => ∃ v', e = .returned v' ∧ OwnB w' w.heap.size v' (num P.length ++ P) ∧ Below w.heap.size w w' := by
  have HR : Hid (Rowed w ao P cap) := hR
  clear hR
  obtain ⟨n, HN⟩ : ∃ n, Hid (n = P.length) := ⟨_, rfl⟩
  rw [show (Value.slice ao P.length cap) = .slice ao n cap by rw [HN.out]]
  have hbn : n < 137438953472 := by have := HN.out; omega
  go_enter Try.func42, Try.ntmps42
  go_wp2_with fail
  refine (rNum_any n w (inI_lit (by omega) (by omega))).mono ?_
  rintro e w1 ⟨v1, rfl, hO1, hB1⟩
  have HO1 : Hid (OwnB w1 w.heap.size v1 (num n)) := hO1
  have HR1 : Hid (Rowed w1 ao P cap) := HR.out.below hB1 (Nat.le_refl _)
  have hz := hB1.size
  have hln := num_length n
  obtain ⟨ao1, n1, c1, rfl, -⟩ := hO1.form
  clear hO1 HR
  go_wp2_with (at_builtin; refine wpList_app rfl _ _ rfl w.heap.size _ (num n) rfl HO1.out ao n cap P rfl HN.out HR1.out (by omega) hz ?_)
  intro v2 w2 HO2 HG2
  have hB2 : Below w.heap.size w w2 := hB1.trans (HG2.out.below hz (fun k hk => (HO1.out.lt k hk).1))
  have HO3 : Hid (OwnB w2 w.heap.size v2 (num P.length ++ P)) := by show OwnB _ _ _ _; rw [← HN.out]; exact HO2.out
  obtain ⟨ao2, n2, c2, rfl, -⟩ := HO3.out.form
  clear HO2 HG2 HO1 HR1
  go_wp2_with fail
  go_ret
  exact ⟨_, rfl, HO3.out, hB2⟩
theorem i64_three {a b c : Int} (ha : inI a) (hb : inI b) (hc : inI c) : I64 [a, b, c] := fun j hj => by
  match j, hj with
  | 0, _ => exact ha
  | 1, _ => exact hb
  | 2, _ => exact hc
theorem numsAt_three (w : World) (a b c : Int) (t : TypeId) : NumsAt (w.alloc (.cells #[.int .i64 a, .int .i64 b, .int .i64 c] t)) w.heap.size 0 [a, b, c] := fun j hj => by
  rw [cell_blk (alloc_blk _ _), Nat.zero_add]
  match j, hj with
  | 0, _ => rfl
  | 1, _ => rfl
  | 2, _ => rfl
set_option maxRecDepth 10000 in
set_option maxHeartbeats 2000000 in
theorem rvotes_any (ys : List VoteR) (ao : Option Addr) (n cap : Nat) (w : World) (hn : n = ys.length) (hv : VotesAt w ao ys) (hw : ∀ y ∈ ys, y.wf) (hb : ys.length < 1073741824) : Calls Try.prog 43 #[.slice ao n cap] w fun e w' => ∃ v', e = .returned v' ∧ OwnB w' w.heap.size v' (num ys.length ++ ys.flatMap voteL) ∧ Below w.heap.size w w' := by
  have HN : Hid (n = ys.length) := hn
  have HWF : Hid (∀ y ∈ ys, y.wf) := hw
  have HL : Hid (∀ k, (num n ++ (ys.take k).flatMap voteL).length < 137438953472) := fun k => by
    have h1 := num_length n
    have h2 := flat_length (ys.take k)
    have h3 : (ys.take k).length ≤ ys.length := by rw [List.length_take]; omega
    rw [List.length_append]; omega
  have HS : Hid (∀ j, (hj : j < ys.length) → ∃ b o, ao = some ⟨b, o, none⟩ ∧ b < w.heap.size ∧ VoteAt w b (o + j * 68) ys[j]) := fun j hj => by
    obtain ⟨b, o, e, hc⟩ := hv (fun e => by rw [e] at hj; cases hj)
    exact ⟨b, o, e, World.block_lt_of_cell? w _ ((hc j hj 0 (by omega)).trans (VoteR.at0 _)), hc j hj⟩
  have hbn : n < 1073741824 := by omega
  have hsl := slice_hash
  clear hn hv hw hb
  go_enter Try.func43, Try.ntmps43
  go_wp2_with fail
  refine (rNum_any n w (inI_lit (by omega) (by omega))).mono ?_
  rintro e w1 ⟨v1, rfl, hO1, hB1⟩
  have HO1 : Hid (OwnB w1 w.heap.size v1 (num n ++ (ys.take 0).flatMap voteL)) := by show OwnB _ _ _ _; simpa using hO1
  have HB1 : Hid (Below w.heap.size w w1) := hB1
  clear hO1 hB1
  go_wp2_with fail
  go_loopw [3, 4] (fun u i wr => ∃ k : Nat, k ≤ n ∧ i = .int .i64 (k : Int) ∧ Hid (OwnB wr w.heap.size u (num n ++ (ys.take k).flatMap voteL)) ∧ Hid (Below w.heap.size w wr)) (fun _ i _ => n - (intOf i).toNat)
  case atStart => exact ⟨0, by omega, rfl, HO1, HB1⟩
  case round =>
    clear HO1 HB1
    obtain ⟨k, hk, rfl, HO, HB⟩ := hrel
    obtain ⟨ao0, n0, c0, rfl, -⟩ := HO.out.form
    by_cases hlt : k < n
    · have hkP : k < ys.length := by rw [← HN.out]; exact hlt
      obtain ⟨b, o, rfl, hbl, hc⟩ := HS.out k hkP
      have HV : Hid (VoteAt wr b (o + k * 68) ys[k]) := hc.same (HB.out.block b hbl)
      have HY : Hid ((num n ++ (ys.take k).flatMap voteL) ++ voteL ys[k] = num n ++ (ys.take (k + 1)).flatMap voteL) := by show _ = _; rw [flat_take_succ hkP, List.append_assoc]
      have hyw := HWF.out _ (List.getElem_mem hkP)
      have hlM := HL.out k
      obtain ⟨y, hy⟩ : ∃ y, y = ys[k] := ⟨_, rfl⟩
      obtain ⟨M, hM⟩ : ∃ M, M = num n ++ (ys.take k).flatMap voteL := ⟨_, rfl⟩
      rw [← hy] at HV HY hyw
      rw [← hM] at HO HY hlM
      clear hy hM hc hkP
      have HA : Hid ((wr.alloc (.cells y.cells 62)).heap[wr.heap.size]? = some (.cells y.cells 62 (0, 0))) := alloc_blk _ _
      have hc0 : (wr.alloc (.cells y.cells 62)).cell? ⟨wr.heap.size, 0, none⟩ = some (.int .i64 y.k) := (cell_blk HA.out _).trans y.at0
      have hc1 : (wr.alloc (.cells y.cells 62)).cell? ⟨wr.heap.size, 1, none⟩ = some (.int .i64 y.s) := (cell_blk HA.out _).trans y.at1
      have hc2 : (wr.alloc (.cells y.cells 62)).cell? ⟨wr.heap.size, 2, none⟩ = some (.int .i64 y.v) := (cell_blk HA.out _).trans y.at2
      have hzw : w.heap.size ≤ wr.heap.size := HB.out.size
      have HBA : Hid (Below w.heap.size w (wr.alloc (.cells y.cells 62))) := HB.out.alloc hzw _
      have HOA : Hid (OwnB (wr.alloc (.cells y.cells 62)) w.heap.size (.slice ao0 n0 c0) M) := HO.out.alloc _
      have HF : Hid (∀ q, (Value.slice ao0 n0 c0).ownBlock = some q → q < wr.heap.size) := fun q hq => (HO.out.lt q hq).2
      clear HO HB
      go_wp2_with (first | (refine wpList_load_vote rfl _ rfl b (o + k * 68) ?_ y ?_ ?_; rfl; exact HV.out) | refine wpList_alloc_vote rfl rfl ?_ | (refine wpList_store_vote rfl _ _ rfl wr y ?_ ?_ ?_ ?_; rfl; rfl; rfl))
      have hs1 : (wr.alloc (.cells y.cells 62)).heap.size = wr.heap.size + 1 := by simp
      have hnums := numsAt_three (wr.alloc (.cells y.cells 62)) y.k y.s y.v 3
      rw [hs1] at hnums
      have hBB := below_alloc (wr.alloc (.cells y.cells 62)) (.cells #[.int .i64 y.k, .int .i64 y.s, .int .i64 y.v] 3)
      have hOB := OwnB.alloc HOA.out (.cells #[.int .i64 y.k, .int .i64 y.s, .int .i64 y.v] 3)
      clear hc0 hc1 hc2
      refine (rNums_any [y.k, y.s, y.v] (wr.heap.size + 1) 0 3 _ hnums (i64_three hyw.1 hyw.2.1 hyw.2.2.1) (by simp)).mono ?_
      rintro e w2 ⟨v2, rfl, hO2, hB2⟩
      obtain ⟨ao2, n2, c2, rfl, HF2⟩ := hO2.form
      have HOC : Hid (OwnB w2 w.heap.size (.slice ao0 n0 c0) M) := hOB.below hB2
      have HBC : Hid (Below w.heap.size w w2) := (HBA.out.trans (hBB.mono (by omega))).trans (hB2.mono (by simp; omega))
      have HAC : Hid (w2.heap[wr.heap.size]? = some (.cells y.cells 62 (0, 0))) := ((hB2.block _ (by simp; omega)).trans (hBB.block _ (by omega))).trans HA.out
      have hln := nums_length [y.k, y.s, y.v]
      have hn2 : n2 ≤ 27 := by have := HF2.out.1; simp at hln; omega
      have hz2 : w.heap.size ≤ w2.heap.size := HBC.out.size
      have hz3 : wr.heap.size < w2.heap.size := lt_blk HAC.out
      clear hnums hBB hOB hO2 hB2 HA HOA HBA hs1
      go_wp2_with (at_builtin; refine wpList_app rfl _ _ rfl w.heap.size _ M rfl HOC.out ao2 n2 c2 (nums [y.k, y.s, y.v]) rfl HF2.out.1 HF2.out.2.2 (by omega) hz2 ?_)
      intro v3 w3 HO3 HG3
      have HB3 : Hid (Below w.heap.size w w3) := HBC.out.trans (HG3.out.below hz2 (fun q hq => (HOC.out.lt q hq).1))
      have HA3 : Hid (w3.heap[wr.heap.size]? = some (.cells y.cells 62 (0, 0))) := (HG3.out.block _ hz3 (fun e => by have := HF.out _ e; omega)).trans HAC.out
      have HF3 : Hid (v3.ownBlock ≠ some wr.heap.size) := fun e => by
        rcases HG3.out.own _ e with h | h
        · have := HF.out _ h; omega
        · omega
      have hz4 : w.heap.size ≤ w3.heap.size := HB3.out.size
      have hz5 : wr.heap.size < w3.heap.size := lt_blk HA3.out
      obtain ⟨ao3, n3, c3, rfl, -⟩ := HO3.out.form
      clear HOC HBC HAC HF HG3 HF2 hz2 hz3 hn2 HV
      go_wp2_with fail
      obtain ⟨T, HT⟩ : ∃ T, Hid (T = M ++ nums [y.k, y.s, y.v]) := ⟨_, rfl⟩
      rw [← HT.out] at HO3
      have hO3 := HO3.out
      have hlT : T.length < 137438953472 + 27 := by rw [HT.out, List.length_append]; simp at hln; omega
      refine wp_region_steps (by kernel_rfl) (by kernel_rfl) (fun xs => { tmps := (Value.slice (some (⟨b, o, none⟩ : Addr)) n cap :: undef :: Value.slice none 0 0 :: xs 8 :: Value.int IntKind.i64 (k : Int) :: Value.pointer (some (⟨wr.heap.size, 0, none⟩ : Addr)) :: Value.slice (some (⟨b, o, none⟩ : Addr)) n cap :: Value.int IntKind.i64 (n : Int) :: v1 :: Value.int IntKind.i64 (k : Int) :: Value.slice (some (⟨b, o, none⟩ : Addr)) n cap :: Value.int IntKind.i64 (n : Int) :: Value.bool true :: u13 :: u14 :: Value.slice (some (⟨b, o, none⟩ : Addr)) n cap :: Value.int IntKind.i64 (k : Int) :: Value.pointer (some (⟨b, o + k * 68, none⟩ : Addr)) :: Value.agg y.cells :: Value.slice ao0 n0 c0 :: Value.pointer (some (⟨wr.heap.size, 0, none⟩ : Addr)) :: Value.int IntKind.i64 y.k :: Value.pointer (some (⟨wr.heap.size, 1, none⟩ : Addr)) :: Value.int IntKind.i64 y.s :: Value.pointer (some (⟨wr.heap.size, 2, none⟩ : Addr)) :: Value.int IntKind.i64 y.v :: Value.slice (some (⟨wr.heap.size + 1, 0, none⟩ : Addr)) 3 3 :: Value.slice ao2 n2 c2 :: Value.slice ao3 n3 c3 :: xs 0 :: xs 1 :: xs 2 :: xs 3 :: xs 4 :: xs 5 :: xs 6 :: xs 7 :: u37 :: u38 :: u39 :: u40 :: undef :: []).toArray, defers := [] }) (App2 w.heap.size w3 (.slice ao3 n3 c3) (.slice ao3 n3 c3) (T) (ofF 32 y.sum) (num y.f) 2 3 6 7 8 (fun | 0 => some (.slice ao3 n3 c3) | 1 => some (.pointer (some ⟨wr.heap.size, 3, none⟩)) | 4 => some (.pointer (some ⟨wr.heap.size, 35, none⟩)) | 5 => some (.int .i64 y.f) | _ => none)) (fun | 0 => u29 | 1 => u30 | 2 => u31 | 3 => u32 | 4 => u33 | 5 => u34 | 6 => u35 | 7 => u36 | 8 => Value.slice ao3 n3 c3 | _ => undef) (by repeat (first | exact trivial | refine ⟨fun _ _ => rfl, ?_⟩)) (App2.start (by omega) (by assumption) rfl) ⟨?_, ?_, ?_, ?_, ?_, ?_, ?_, ?_, ?_, trivial⟩ ?_
      · intro li xs W hI hli hp K hK
        have f8 : xs 8 = .slice ao3 n3 c3 := hI.v0 (hI.open (by decide) hli)
        clear hp
        rw [if_pos (wanted_none rfl _)]
        simp only [f8] at hK ⊢
        go_simp
        exact hK _ _ (hI.pure _ ⟨by decide, by decide, by decide, by decide, by decide⟩ rfl)
      · intro li xs W hI hli hp K hK
        clear hp
        rw [if_pos (wanted_none rfl _)]
        go_simp
        exact hK _ _ (hI.pure _ ⟨by decide, by decide, by decide, by decide, by decide⟩ rfl)
      · intro li xs W hI hli hp K hK
        have f1 : xs 1 = .pointer (some ⟨wr.heap.size, 3, none⟩) := hI.det 1 _ (hp.1 rfl) rfl
        clear hp
        rw [if_pos (wanted_none rfl _)]
        simp only [f1] at hK ⊢
        go_simp
        exact hK _ _ (hI.first (Below.refl _ _) _ ⟨by decide, by decide, by decide, by decide⟩ (fun u hu => by cases hu) ⟨_, _, _, rfl, (ofF_length _ _).symm, rowed_mid ((hI.old _ hz5 HF3.out).trans HA3.out) (fun j hj => y.atSum hj) 32⟩)
      · intro li xs W hI hli hp K hK
        have f0 : xs 0 = .slice ao3 n3 c3 := hI.det 0 _ (hp.1 rfl) rfl
        obtain ⟨ao9, n9, c9, e9, hn9, hR9⟩ := hI.src1 (hp.2.1 rfl) hli
        rw [if_pos (wanted_none rfl _)]
        exact wp_appO _ _ rfl (w.heap.size) (.slice ao3 n3 c3) (T) (f0) (hI.row0 hli) ao9 n9 c9 (ofF 32 y.sum) e9 hn9 hR9 (by rw [hn9]; rw [ofF_length]; omega) (Nat.le_trans hI.bz hI.size) (fun v' w' h1 h2 => hK _ _ (hI.app1 v' h2 ⟨by decide, by decide, by decide, by decide⟩ rfl (hI.openq hli) h1))
      · intro li xs W hI hli hp K hK
        clear hp
        rw [if_pos (wanted_none rfl _)]
        go_simp
        exact hK _ _ (hI.pure _ ⟨by decide, by decide, by decide, by decide, by decide⟩ rfl)
      · intro li xs W hI hli hp K hK
        have f4 : xs 4 = .pointer (some ⟨wr.heap.size, 35, none⟩) := hI.det 4 _ (hp.1 rfl) rfl
        have hc : W.cell? ⟨wr.heap.size, 35, none⟩ = some (.int .i64 y.f) := (cell_blk ((hI.old _ hz5 HF3.out).trans HA3.out) _).trans y.at35
        clear hp
        rw [if_pos (wanted_none rfl _)]
        simp only [f4] at hK ⊢
        go_simp
        exact hK _ _ (hI.pure _ ⟨by decide, by decide, by decide, by decide, by decide⟩ rfl)
      · intro li xs W hI hli hp K hK
        have f5 : xs 5 = .int .i64 y.f := hI.det 5 _ (hp.1 rfl) rfl
        clear hp
        rw [if_pos (wanted_none rfl _)]
        simp only [f5] at hK ⊢
        go_simp
        refine (rNum_any y.f W hyw.2.2.2).mono ?_
        rintro e w' ⟨v', rfl, hO, hB'⟩
        exact hK _ _ (hI.second hB' _ ⟨by decide, by decide, by decide, by decide⟩ rfl hO)
      · intro li xs W hI hli hp K hK
        have hr9 := hI.row1 (hp.1 rfl) hli
        have hs9 := hI.src2 (hp.2.1 rfl) hli
        obtain ⟨ao9, n9, c9, e9, hf9⟩ := hs9.form
        rw [if_pos (wanted_none rfl _)]
        exact wp_appO _ _ rfl (w.heap.size) (xs 3) (T ++ ofF 32 y.sum) rfl hr9 ao9 n9 c9 (num y.f) e9 hf9.out.1 hf9.out.2.2 (by rw [hf9.out.1]; have := num_length y.f; rw [List.length_append, ofF_length]; omega) (Nat.le_trans hI.bz hI.size) (fun v' w' h1 h2 => hK _ _ (hI.app2 v' h2 ⟨by decide, by decide, by decide, by decide⟩ rfl (hp.1 rfl) (hp.2.1 rfl) hli (hI.open (by decide) hli) h1))
      · intro li xs W hI hli hp K hK
        have hall : ∀ i, i < 8 → li i = true := fun i hi => by
            match i, hi with
            | 0, _ => exact hp.2.2.1 rfl
            | 1, _ => exact hp.2.2.2.1 rfl
            | 2, _ => exact hp.2.2.2.2.1 rfl
            | 3, _ => exact hp.2.2.2.2.2.1 rfl
            | 4, _ => exact hp.2.2.2.2.2.2.1 rfl
            | 5, _ => exact hp.2.2.2.2.2.2.2.1 rfl
            | 6, _ => exact hp.2.2.2.2.2.2.2.2.1 rfl
            | 7, _ => exact hp.2.2.2.2.2.2.2.2.2.1 rfl
        rw [if_pos (wanted_none rfl _)]
        clear hp
        go_simp
        exact hK _ _ (hI.last ⟨by decide, by decide, by decide, by decide⟩ rfl hall)
      rintro li xs W hI hall
      have h8 := hI.fin (hall 8 (by decide))
      have hO7 := hI.row2 (hall 7 (by decide))
      have HB4 : Hid (Below w.heap.size w W) := HB3.out.trans hI.bel
      have HA4 : Hid (W.heap[wr.heap.size]? = some (.cells y.cells 62 (0, 0))) := (hI.old _ hz5 HF3.out).trans HA3.out
      obtain ⟨ao4, n4, c4, h7, -⟩ := hO7.form
      rw [h7] at hO7 h8
      simp only [h8]
      obtain ⟨T2, HT2⟩ : ∃ T2, Hid (T2 = T ++ ofF 32 y.sum ++ num y.f) := ⟨_, rfl⟩
      have HO4 : Hid (OwnB W w.heap.size (.slice ao4 n4 c4) T2) := by show OwnB _ _ _ _; rw [HT2.out]; exact hO7
      have hlT2 : T2.length < 137438953472 + 100 := by have := num_length y.f; rw [HT2.out, List.length_append, List.length_append, ofF_length]; omega
      have hzW : w.heap.size ≤ W.heap.size := HB4.out.size
      generalize xs 0 = x0
      generalize xs 1 = x1
      generalize xs 2 = x2
      generalize xs 3 = x3
      generalize xs 4 = x4
      generalize xs 5 = x5
      generalize xs 6 = x6
      generalize xs 7 = x7
      clear hI hall h8 h7 hO7 HO3 HB3 HA3
      go_wp2_with (at_builtin; refine wpList_app rfl _ _ rfl w.heap.size _ T2 rfl HO4.out (some ⟨wr.heap.size, 36, none⟩) 32 32 (ofF 32 y.tag) rfl (by rw [ofF_length]) (rowed_mid HA4.out (fun j hj => y.atTag hj) 32) (by omega) hzW ?_)
      intro v5 w5 HO5 HG5
      have HB5 : Hid (Below w.heap.size w w5) := HB4.out.trans (HG5.out.below hzW (fun q hq => (HO4.out.lt q hq).1))
      have HO6 : Hid (OwnB w5 w.heap.size v5 (num n ++ (ys.take (k + 1)).flatMap voteL)) := by
        show OwnB _ _ _ _
        rw [← HY.out]
        have := HO5.out
        rw [HT2.out, HT.out] at this
        unfold voteL sealedL
        simpa only [List.append_assoc] using this
      clear HO5 HG5 HO4 HB4 HA4 HT HT2 HY
      obtain ⟨ao5, n5, c5, rfl, -⟩ := HO6.out.form
      go_wp2_with fail
      exact ⟨⟨k + 1, by omega, rfl, HO6, HB5⟩, by simp [intOf]; omega⟩
    · obtain rfl : k = n := by omega
      go_wp2_with fail
      go_ret
      refine ⟨_, rfl, ?_, HB.out⟩
      have := HO.out
      rwa [List.take_of_length_le (by rw [HN.out]; exact Nat.le_refl _), HN.out] at this
end Go.Proofs.Ytkjocpadmlobgaa
