/- The document's messages as bytes: EncodeMsg. For messages of up to 2^37 bytes and 2^30 votes. -/
import Derived.Test.YtkjocpadmlobgaaWireQ
import Derived.Test.YtkjocpadmlobgaaWireE
import Derived.Test.YtkjocpadmlobgaaWireRm
namespace Go.Proofs.Ytkjocpadmlobgaa
open Go.RowKit Go.Dig Go.Inv Go.Oct
set_option linter.unusedVariables false

theorem numsAt_six (w : World) (a b c d e f : Int) (t : TypeId) : NumsAt (w.alloc (.cells #[.int .i64 a, .int .i64 b, .int .i64 c, .int .i64 d, .int .i64 e, .int .i64 f] t)) w.heap.size 0 [a, b, c, d, e, f] := fun j hj => by
  rw [cell_blk (alloc_blk _ _), Nat.zero_add]
  match j, hj with
  | 0, _ => rfl
  | 1, _ => rfl
  | 2, _ => rfl
  | 3, _ => rfl
  | 4, _ => rfl
  | 5, _ => rfl
theorem i64_six {a b c d e f : Int} (ha : inI a) (hb : inI b) (hc : inI c) (hd : inI d) (he : inI e) (hf : inI f) : I64 [a, b, c, d, e, f] := fun j hj => by
  match j, hj with
  | 0, _ => exact ha
  | 1, _ => exact hb
  | 2, _ => exact hc
  | 3, _ => exact hd
  | 4, _ => exact he
  | 5, _ => exact hf
set_option maxRecDepth 10000 in
set_option maxHeartbeats 4000000 in
theorem rEncodeMsg_any (m : MsgR) (P : List Int) (ys : List VoteR) (w : World) (h : MsgIn w m P ys) (hv37 : P.length < 137438953472) (hy30 : ys.length < 1073741824) : Calls Try.prog 11 #[.agg m.cells] w fun x w' => Enc (msgB m ys) (encMsg m P ys) w w' x := by
  have HH0 : Hid (MsgIn (w.alloc (.cells m.cells 27)) m P ys) := { h with val := h.val.below (below_alloc _ _) (Nat.le_refl _), vot := h.vot.below (below_alloc _ _) (Nat.le_refl _) }
  have HBw : Hid (Below w.heap.size w (w.alloc (.cells m.cells 27))) := below_alloc _ _
  have HA0 : Hid ((w.alloc (.cells m.cells 27)).heap[w.heap.size]? = some (.cells m.cells 27 (0, 0))) := alloc_blk _ _
  have HSL : Hid (∀ b o w, (Instr.sliceAt 25 (.pointer (some ⟨b, o, none⟩)) none none none).run Try.prog w = .ok (.slice (some ⟨b, o, none⟩) 32 32) w) := slice_hash
  clear h
  go_enter Try.func11, Try.ntmps11
  go_upto_region 1 with (refine wpList_box_row rfl 27 _ rfl _ rfl ?_)
  generalize w.alloc (.cells m.cells 27) = w0 at *
  have hz0 : w.heap.size < w0.heap.size := lt_blk HA0.out
  go_wp2_with (refine wpList_load_msg rfl _ rfl w.heap.size m 27 (0, 0) ?_ ?_ ?_; rfl; exact HA0.out)
  refine (rIsMsg_any m P ys w0 HH0.out).mono ?_
  rintro x w1 ⟨rfl, hB1⟩
  have HB1 : Hid (Below w.heap.size w w1) := HBw.out.trans (hB1.mono (by omega))
  have HA : Hid (w1.heap[w.heap.size]? = some (.cells m.cells 27 (0, 0))) := (hB1.block _ hz0).trans HA0.out
  have HH : Hid (MsgAt w1 m P ys) := by
    have h1 : MsgIn w1 m P ys := { HH0.out with val := HH0.out.val.below hB1 (Nat.le_refl _), vot := HH0.out.vot.below hB1 (Nat.le_refl _) }
    exact h1.at (by rw [h1.vl]; exact hv37) (by rw [h1.yl]; exact hy30)
  clear hB1 HBw HA0 HH0
  have hlt : w.heap.size < w1.heap.size := lt_blk HA.out
  cases hmb : msgB m ys
  · have HE : Hid (Enc false (encMsg m P ys) w w1 (.returned (.tuple #[.slice none 0 0, .int .i64 1]))) := ⟨_, rfl, OwnB.nil _ _, HB1.out⟩
    go_wp2_with fail
    exact bodyPost_ret (v := .tuple #[.slice none 0 0, .int .i64 1]) (by simp [results, Try.results11, go_sem]) rfl (by rw [hmb]; exact HE.out)
  have HMB : Hid (msgB m ys = true) := hmb
  clear hmb
  have hc0 : w1.cell? ⟨w.heap.size, 0, none⟩ = some (.int .i64 m.k) := (cell_blk HA.out _).trans m.at0
  have hc1 : w1.cell? ⟨w.heap.size, 1, none⟩ = some (.int .i64 m.f) := (cell_blk HA.out _).trans m.at1
  have hc2 : w1.cell? ⟨w.heap.size, 2, none⟩ = some (.int .i64 m.t) := (cell_blk HA.out _).trans m.at2
  have hc3 : w1.cell? ⟨w.heap.size, 3, none⟩ = some (.int .i64 m.s) := (cell_blk HA.out _).trans m.at3
  have hc4 : w1.cell? ⟨w.heap.size, 4, none⟩ = some (.int .i64 m.v) := (cell_blk HA.out _).trans m.at4
  have HNA : Hid (NumsAt (w1.alloc (.cells #[.int .i64 1, .int .i64 m.k, .int .i64 m.f, .int .i64 m.t, .int .i64 m.s, .int .i64 m.v] 3)) w1.heap.size 0 [1, m.k, m.f, m.t, m.s, m.v]) := numsAt_six _ _ _ _ _ _ _ _
  have HBB : Hid (Below w1.heap.size w1 (w1.alloc (.cells #[.int .i64 1, .int .i64 m.k, .int .i64 m.f, .int .i64 m.t, .int .i64 m.s, .int .i64 m.v] 3))) := below_alloc _ _
  go_wp2_with fail
  obtain ⟨i0, i1, i2, i3, i4⟩ := HH.out.wf
  clear hc0 hc1 hc2 hc3 hc4
  refine (rNums_any [1, m.k, m.f, m.t, m.s, m.v] w1.heap.size 0 6 _ HNA.out (i64_six (inI_lit (by decide) (by decide)) i0 i1 i2 i3 i4) (by simp)).mono ?_
  rintro e w2 ⟨v2, rfl, hO2, hB2⟩
  have HB3 : Hid (Below w1.heap.size w1 w2) := HBB.out.trans (hB2.mono HBB.out.size)
  have hO3 : OwnB w2 w1.heap.size v2 (nums [1, m.k, m.f, m.t, m.s, m.v]) := hO2.mono HBB.out.size
  have HF3 : Hid (v2.ownBlock ≠ some w.heap.size) := fun e => by have := (hO3.lt _ e).1; omega
  have HA3 : Hid (w2.heap[w.heap.size]? = some (.cells m.cells 27 (0, 0))) := (HB3.out.block _ hlt).trans HA.out
  have hz5 : w.heap.size < w2.heap.size := lt_blk HA3.out
  have HP3 : Hid (∀ W, (∀ k, k < w2.heap.size → v2.ownBlock ≠ some k → W.heap[k]? = w2.heap[k]?) → MsgAt W m P ys) := fun W hW => HH.out.of (fun k hk => (hW k (Nat.lt_of_lt_of_le hk HB3.out.size) (fun e => by have := (hO3.lt _ e).1; omega)).trans (HB3.out.block k hk))
  have hln := nums_length [1, m.k, m.f, m.t, m.s, m.v]
  have hvb := HH.out.vb
  have hyb := HH.out.yb
  have HVL : Hid (m.vl = P.length) := HH.out.vl
  have HYL : Hid (m.yl = ys.length) := HH.out.yl
  have hywf := HH.out.ywf
  have hbz : w1.heap.size ≤ w2.heap.size := HB3.out.size
  obtain ⟨T, HT⟩ : ∃ T, Hid (T = nums [1, m.k, m.f, m.t, m.s, m.v]) := ⟨_, rfl⟩
  rw [← HT.out] at hO3 hln
  have hlT : T.length ≤ 54 := by simpa using hln
  obtain ⟨ao3, n3, c3, rfl, -⟩ := hO3.form
  have HAW : Hid (w1.heap[w.heap.size]? = some (.cells m.cells 27 (0, 0))) := HA.out
  clear HNA HBB hO2 hB2 HH HA hln
  go_wp2_with fail
  refine wp_region_steps (by kernel_rfl) (by kernel_rfl) (fun xs => { tmps := (Value.agg m.cells :: Value.pointer (some (⟨w.heap.size, 0, none⟩ : Addr)) :: Value.slice none 0 0 :: Value.int IntKind.i64 0 :: xs 9 :: Value.agg m.cells :: Value.bool true :: Value.bool false :: Value.pointer (some (⟨w.heap.size, 0, none⟩ : Addr)) :: Value.int IntKind.i64 m.k :: Value.pointer (some (⟨w.heap.size, 1, none⟩ : Addr)) :: Value.int IntKind.i64 m.f :: Value.pointer (some (⟨w.heap.size, 2, none⟩ : Addr)) :: Value.int IntKind.i64 m.t :: Value.pointer (some (⟨w.heap.size, 3, none⟩ : Addr)) :: Value.int IntKind.i64 m.s :: Value.pointer (some (⟨w.heap.size, 4, none⟩ : Addr)) :: Value.int IntKind.i64 m.v :: Value.slice (some (⟨w1.heap.size, 0, none⟩ : Addr)) 6 6 :: Value.slice ao3 n3 c3 :: xs 0 :: xs 1 :: xs 2 :: xs 3 :: xs 4 :: xs 5 :: xs 6 :: xs 7 :: xs 8 :: undef :: undef :: undef :: undef :: []).toArray, defers := [] }) (App2 w1.heap.size w2 (.slice ao3 n3 c3) (.slice ao3 n3 c3) (T) (num m.vl ++ P) (num m.yl ++ ys.flatMap voteL) 3 4 7 8 9 (fun | 0 => some (.slice ao3 n3 c3) | 1 => some (.pointer (some ⟨w.heap.size, 5, none⟩)) | 2 => some (.slice m.va m.vl m.vc) | 5 => some (.pointer (some ⟨w.heap.size, 6, none⟩)) | 6 => some (.slice m.ya m.yl m.yc) | _ => none)) (fun | 0 => undef | 1 => undef | 2 => undef | 3 => undef | 4 => undef | 5 => undef | 6 => undef | 7 => undef | 8 => undef | 9 => Value.slice ao3 n3 c3 | _ => undef) (by repeat (first | exact trivial | refine ⟨fun _ _ => rfl, ?_⟩)) (App2.start (by omega) (by assumption) rfl) ⟨?_, ?_, ?_, ?_, ?_, ?_, ?_, ?_, ?_, ?_, trivial⟩ ?_
  · intro li xs W hI hli hp K hK
    have f9 : xs 9 = .slice ao3 n3 c3 := hI.v0 (hI.open (by decide) hli)
    clear hp
    rw [if_pos (wanted_none rfl _)]
    simp only [f9] at hK ⊢
    go_simp
    exact hK _ _ (hI.pure _ ⟨by decide, by decide, by decide, by decide, by decide⟩ rfl)
  · intro li xs W hI hli hp K hK
    clear hp
    rw [if_pos (wanted_none rfl _)]
    go_simp
    exact hK _ _ (hI.pure _ ⟨by decide, by decide, by decide, by decide, by decide⟩ rfl)
  · intro li xs W hI hli hp K hK
    have f1 : xs 1 = .pointer (some ⟨w.heap.size, 5, none⟩) := hI.det 1 _ (hp.1 rfl) rfl
    have hc : W.cell? ⟨w.heap.size, 5, none⟩ = some (.slice m.va m.vl m.vc) := (cell_blk ((hI.old _ hz5 HF3.out).trans HA3.out) _).trans m.at5
    clear hp
    rw [if_pos (wanted_none rfl _)]
    simp only [f1] at hK ⊢
    go_simp
    exact hK _ _ (hI.pure _ ⟨by decide, by decide, by decide, by decide, by decide⟩ rfl)
  · intro li xs W hI hli hp K hK
    have f2 : xs 2 = .slice m.va m.vl m.vc := hI.det 2 _ (hp.1 rfl) rfl
    clear hp
    rw [if_pos (wanted_none rfl _)]
    simp only [f2] at hK ⊢
    go_simp
    have hb := rBytes_any P m.va m.vc W (HP3.out W hI.old).val hvb
    rw [← HVL.out] at hb
    refine hb.mono ?_
    rintro e w' ⟨v', rfl, hO, hB'⟩
    obtain ⟨ao8, n8, c8, rfl, hf8⟩ := hO.form
    exact hK _ _ (hI.first hB' _ ⟨by decide, by decide, by decide, by decide⟩ (fun u hu => by cases hu) ⟨_, _, _, rfl, hf8.out.1, hf8.out.2.2⟩)
  · intro li xs W hI hli hp K hK
    have f0 : xs 0 = .slice ao3 n3 c3 := hI.det 0 _ (hp.1 rfl) rfl
    obtain ⟨ao9, n9, c9, e9, hn9, hR9⟩ := hI.src1 (hp.2.1 rfl) hli
    rw [if_pos (wanted_none rfl _)]
    exact wp_appO _ _ rfl (w1.heap.size) (.slice ao3 n3 c3) (T) (f0) (hI.row0 hli) ao9 n9 c9 (num m.vl ++ P) e9 hn9 hR9 (by rw [hn9]; have := num_length m.vl; rw [List.length_append]; omega) (Nat.le_trans hI.bz hI.size) (fun v' w' h1 h2 => hK _ _ (hI.app1 v' h2 ⟨by decide, by decide, by decide, by decide⟩ rfl (hI.openq hli) h1))
  · intro li xs W hI hli hp K hK
    clear hp
    rw [if_pos (wanted_none rfl _)]
    go_simp
    exact hK _ _ (hI.pure _ ⟨by decide, by decide, by decide, by decide, by decide⟩ rfl)
  · intro li xs W hI hli hp K hK
    have f5 : xs 5 = .pointer (some ⟨w.heap.size, 6, none⟩) := hI.det 5 _ (hp.1 rfl) rfl
    have hc : W.cell? ⟨w.heap.size, 6, none⟩ = some (.slice m.ya m.yl m.yc) := (cell_blk ((hI.old _ hz5 HF3.out).trans HA3.out) _).trans m.at6
    clear hp
    rw [if_pos (wanted_none rfl _)]
    simp only [f5] at hK ⊢
    go_simp
    exact hK _ _ (hI.pure _ ⟨by decide, by decide, by decide, by decide, by decide⟩ rfl)
  · intro li xs W hI hli hp K hK
    have f6 : xs 6 = .slice m.ya m.yl m.yc := hI.det 6 _ (hp.1 rfl) rfl
    clear hp
    rw [if_pos (wanted_none rfl _)]
    simp only [f6] at hK ⊢
    go_simp
    have hb := rvotes_any ys m.ya m.yl m.yc W HYL.out (HP3.out W hI.old).vot hywf hyb
    rw [← HYL.out] at hb
    refine hb.mono ?_
    rintro e w' ⟨v', rfl, hO, hB'⟩
    exact hK _ _ (hI.second hB' _ ⟨by decide, by decide, by decide, by decide⟩ rfl hO)
  · intro li xs W hI hli hp K hK
    have hr9 := hI.row1 (hp.1 rfl) hli
    have hs9 := hI.src2 (hp.2.1 rfl) hli
    obtain ⟨ao9, n9, c9, e9, hf9⟩ := hs9.form
    rw [if_pos (wanted_none rfl _)]
    exact wp_appO _ _ rfl (w1.heap.size) (xs 4) ((T) ++ (num m.vl ++ P)) rfl hr9 ao9 n9 c9 (num m.yl ++ ys.flatMap voteL) e9 hf9.out.1 hf9.out.2.2 (by rw [hf9.out.1]; have := num_length m.vl; have := num_length m.yl; have := flat_length ys; simp only [List.length_append]; omega) (Nat.le_trans hI.bz hI.size) (fun v' w' h1 h2 => hK _ _ (hI.app2 v' h2 ⟨by decide, by decide, by decide, by decide⟩ rfl (hp.1 rfl) (hp.2.1 rfl) hli (hI.open (by decide) hli) h1))
  · intro li xs W hI hli hp K hK
    have hall : ∀ i, i < 9 → li i = true := fun i hi => by
        match i, hi with
        | 0, _ => exact hp.2.2.1 rfl
        | 1, _ => exact hp.2.2.2.1 rfl
        | 2, _ => exact hp.2.2.2.2.1 rfl
        | 3, _ => exact hp.2.2.2.2.2.1 rfl
        | 4, _ => exact hp.2.2.2.2.2.2.1 rfl
        | 5, _ => exact hp.2.2.2.2.2.2.2.1 rfl
        | 6, _ => exact hp.2.2.2.2.2.2.2.2.1 rfl
        | 7, _ => exact hp.2.2.2.2.2.2.2.2.2.1 rfl
        | 8, _ => exact hp.2.2.2.2.2.2.2.2.2.2.1 rfl
    rw [if_pos (wanted_none rfl _)]
    clear hp
    go_simp
    exact hK _ _ (hI.last ⟨by decide, by decide, by decide, by decide⟩ rfl hall)
  rintro li xs W hI hall
  have h9 := hI.fin (hall 9 (by decide))
  have hO8 := hI.row2 (hall 8 (by decide))
  have HB4 : Hid (Below w1.heap.size w1 W) := HB3.out.trans hI.bel
  obtain ⟨x8, h8⟩ : ∃ x8, xs 8 = x8 := ⟨_, rfl⟩
  rw [h8] at hO8 h9
  simp only [h8, h9]
  obtain ⟨M, HM⟩ : ∃ M, Hid (T ++ (num m.vl ++ P) ++ (num m.yl ++ ys.flatMap voteL) = M) := ⟨_, rfl⟩
  rw [HM.out] at hO8
  have HO8 : Hid (OwnB W w1.heap.size x8 M) := hO8
  have hML : M.length + 32 < 2199023255552 := by
    rw [← HM.out]
    have := num_length m.vl; have := num_length m.yl; have := flat_length ys
    simp only [List.length_append]
    omega
  have HA4 : Hid (W.heap[w.heap.size]? = some (.cells m.cells 27 (0, 0))) := (HB4.out.block _ hlt).trans (HAW.out)
  have HRT : Hid (Rowed W (some ⟨w.heap.size, 7, none⟩) (ofF 32 m.tag) 32) := rowed_mid HA4.out (fun j hj => m.atTag hj) 32
  generalize xs 0 = y0; generalize xs 1 = y1; generalize xs 2 = y2; generalize xs 3 = y3; generalize xs 4 = y4; generalize xs 5 = y5; generalize xs 6 = y6; generalize xs 7 = y7
  clear hI hall h9 h8 hO8
  have hsl := HSL.out
  go_wp2_with (at_builtin; refine wpList_app rfl _ _ rfl w1.heap.size x8 M ?_ HO8.out (some ⟨w.heap.size, 7, none⟩) 32 32 (ofF 32 m.tag) ?_ (ofF_length _ _).symm HRT.out ?_ HB4.out.size ?_; rfl; rfl)
  case refine_3 => omega
  intro v5 w5 HO5 HG5
  have HB5 : Hid (Below w1.heap.size w1 w5) := HB4.out.trans (HG5.out.below HB4.out.size (fun q hq => (HO8.out.lt q hq).1))
  have HE : Hid (Enc true (encMsg m P ys) w w5 (.returned (.tuple #[v5, .int .i64 0]))) := by
    refine ⟨v5, rfl, ?_, HB1.out.trans (HB5.out.mono (by omega))⟩
    have hE : encMsg m P ys = M ++ ofF 32 m.tag := by
      rw [← HM.out, HT.out, HVL.out, HYL.out]
      unfold encMsg
      simp only [List.append_assoc]
    rw [if_pos rfl, hE]
    exact HO5.out.mono (by omega)
  clear HO5 HG5 HO8 HRT
  go_wp2_with fail
  exact bodyPost_ret (v := .tuple #[v5, .int .i64 0]) (by simp [results, Try.results11, go_sem]) rfl (by rw [HMB.out]; exact HE.out)
end Go.Proofs.Ytkjocpadmlobgaa
