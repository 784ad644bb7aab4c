/- What the reference seals of a message: Body. For messages of up to 2^37 bytes and 2^30 votes. -/
import Derived.Test.YtkjocpadmlobgaaRefV
namespace Go.Proofs.Ytkjocpadmlobgaa
open Go.RowKit Go.Dig Go.Inv Go.Oct

theorem numsAt_five (w : World) (a b c d e : Int) (t : TypeId) : NumsAt (w.alloc (.cells #[.int .i64 a, .int .i64 b, .int .i64 c, .int .i64 d, .int .i64 e] t)) w.heap.size 0 [a, b, c, d, e] := fun j hj => by
  rw [cell_blk (alloc_blk _ _), Nat.zero_add]
  match j, hj with
  | 0, _ => rfl
  | 1, _ => rfl
  | 2, _ => rfl
  | 3, _ => rfl
  | 4, _ => rfl
theorem i64_five {a b c d e : Int} (ha : inI a) (hb : inI b) (hc : inI c) (hd : inI d) (he : inI e) : I64 [a, b, c, d, e] := fun j hj => by
  match j, hj with
  | 0, _ => exact ha
  | 1, _ => exact hb
  | 2, _ => exact hc
  | 3, _ => exact hd
  | 4, _ => exact he
theorem MsgAt.of {w w' : World} {m : MsgR} {P : List Int} {ys : List VoteR} (h : MsgAt w m P ys) (hs : ∀ k, k < w.heap.size → w'.heap[k]? = w.heap[k]?) : MsgAt w' m P ys := by
  refine { h with val := ?_, vot := fun hp => ?_ }
  · rcases h.val with hv | ⟨ad, e, hc⟩
    · exact .inl hv
    · exact .inr ⟨ad, e, fun j hj => (World.cell?_of_block (hs _ (World.block_lt_of_cell? w _ (hc j hj)))).trans (hc j hj)⟩
  · obtain ⟨b, o, e, hc⟩ := h.vot hp
    refine ⟨b, o, e, fun j hj i hi => ?_⟩
    have h0 := hc j hj 0 (by omega)
    rw [VoteR.at0] at h0
    exact (hc j hj).same (hs b (World.block_lt_of_cell? w _ h0)) i hi
set_option maxRecDepth 10000 in
set_option maxHeartbeats 2000000 in
theorem rBody_any (m : MsgR) (P : List Int) (ys : List VoteR) (w : World) (h : MsgAt w m P ys) : Calls Try.prog 30 #[.agg m.cells] w fun e w' => ∃ v', e = .returned v' ∧ OwnB w' w.heap.size v' (bodyL m P ys) ∧ Below w.heap.size w w' := by
  have HH : Hid (MsgAt (w.alloc (.cells m.cells 27)) m P ys) := h.below (below_alloc _ _) (Nat.le_refl _)
  have hBw := below_alloc w (.cells m.cells 27)
  have HA : Hid ((w.alloc (.cells m.cells 27)).heap[w.heap.size]? = some (.cells m.cells 27 (0, 0))) := alloc_blk _ _
  have hc0 : (w.alloc (.cells m.cells 27)).cell? ⟨w.heap.size, 0, none⟩ = some (.int .i64 m.k) := (cell_blk HA.out _).trans m.at0
  have hc1 : (w.alloc (.cells m.cells 27)).cell? ⟨w.heap.size, 1, none⟩ = some (.int .i64 m.f) := (cell_blk HA.out _).trans m.at1
  have hc3 : (w.alloc (.cells m.cells 27)).cell? ⟨w.heap.size, 3, none⟩ = some (.int .i64 m.s) := (cell_blk HA.out _).trans m.at3
  have hc4 : (w.alloc (.cells m.cells 27)).cell? ⟨w.heap.size, 4, none⟩ = some (.int .i64 m.v) := (cell_blk HA.out _).trans m.at4
  have hs1 : (w.alloc (.cells m.cells 27)).heap.size = w.heap.size + 1 := by simp
  have hnums := numsAt_five (w.alloc (.cells m.cells 27)) 4 m.k m.f m.s m.v 3
  have hBB := below_alloc (w.alloc (.cells m.cells 27)) (.cells #[.int .i64 4, .int .i64 m.k, .int .i64 m.f, .int .i64 m.s, .int .i64 m.v] 3)
  rw [hs1] at hnums hBB
  clear h
  go_enter Try.func30, Try.ntmps30
  go_wp2_with (refine wpList_box_row rfl 27 _ rfl _ rfl ?_)
  obtain ⟨i0, i1, -, i3, i4⟩ := HH.out.wf
  clear hc0 hc1 hc3 hc4
  generalize w.alloc (.cells m.cells 27) = w1 at *
  refine (rNums_any [4, m.k, m.f, m.s, m.v] (w.heap.size + 1) 0 5 _ hnums (i64_five (inI_lit (by decide) (by decide)) i0 i1 i3 i4) (by simp)).mono ?_
  rintro e w2 ⟨v2, rfl, hO2, hB2⟩
  have HB3 : Hid (Below (w.heap.size + 1) w1 w2) := hBB.trans (hB2.mono (by simp [hs1]))
  have hO3 : OwnB w2 (w.heap.size + 1) v2 (nums [4, m.k, m.f, m.s, m.v]) := hO2.mono (by simp [hs1])
  have HF3 : Hid (v2.ownBlock ≠ some w.heap.size) := fun e => by have := (hO3.lt _ e).1; omega
  have HA3 : Hid (w2.heap[w.heap.size]? = some (.cells m.cells 27 (0, 0))) := (HB3.out.block _ (Nat.lt_succ_self _)).trans HA.out
  have hz5 : w.heap.size < w2.heap.size := lt_blk HA3.out
  have HH3 : Hid (MsgAt w2 m P ys) := HH.out.below HB3.out (by omega)
  have HP3 : Hid (∀ W, (∀ k, k < w2.heap.size → v2.ownBlock ≠ some k → W.heap[k]? = w2.heap[k]?) → MsgAt W m P ys) := fun W hW => HH.out.of (fun k hk => (hW k (Nat.lt_of_lt_of_le hk HB3.out.size) (fun e => by have := (hO3.lt _ e).1; omega)).trans (HB3.out.block k (by omega)))
  have hln := nums_length [4, m.k, m.f, m.s, m.v]
  have hvb := HH.out.vb
  have hyb := HH.out.yb
  have HVL : Hid (m.vl = P.length) := HH.out.vl
  have HYL : Hid (m.yl = ys.length) := HH.out.yl
  have hywf := HH.out.ywf
  have hbz : w.heap.size + 1 ≤ w2.heap.size := hz5
  obtain ⟨T, HT⟩ : ∃ T, Hid (T = nums [4, m.k, m.f, m.s, m.v]) := ⟨_, rfl⟩
  rw [← HT.out] at hO3 hln
  have hlT : T.length ≤ 45 := by simpa using hln
  obtain ⟨ao3, n3, c3, rfl, -⟩ := hO3.form
  clear hnums hBB hO2 hB2 HH HA hln
  go_wp2_with fail
  refine wp_region_steps (by kernel_rfl) (by kernel_rfl) (fun xs => { tmps := (Value.agg m.cells :: Value.pointer (some (⟨w.heap.size, 0, none⟩ : Addr)) :: xs 9 :: Value.slice ao3 n3 c3 :: Value.pointer (some (⟨w.heap.size, 0, none⟩ : Addr)) :: Value.int IntKind.i64 m.k :: Value.pointer (some (⟨w.heap.size, 1, none⟩ : Addr)) :: Value.int IntKind.i64 m.f :: Value.pointer (some (⟨w.heap.size, 3, none⟩ : Addr)) :: Value.int IntKind.i64 m.s :: Value.pointer (some (⟨w.heap.size, 4, none⟩ : Addr)) :: Value.int IntKind.i64 m.v :: Value.slice (some (⟨w.heap.size + 1, 0, none⟩ : Addr)) 5 5 :: Value.slice ao3 n3 c3 :: xs 0 :: xs 1 :: xs 2 :: xs 3 :: xs 4 :: xs 5 :: xs 6 :: xs 7 :: xs 8 :: []).toArray, defers := [] }) (App2 (w.heap.size + 1) w2 (.slice ao3 n3 c3) (.slice none 0 0) (T) (num m.vl ++ P) (num m.yl ++ ys.flatMap voteL) 3 4 7 8 9 (fun | 0 => some (.slice ao3 n3 c3) | 1 => some (.pointer (some ⟨w.heap.size, 5, none⟩)) | 2 => some (.slice m.va m.vl m.vc) | 5 => some (.pointer (some ⟨w.heap.size, 6, none⟩)) | 6 => some (.slice m.ya m.yl m.yc) | _ => none)) (fun | 0 => undef | 1 => undef | 2 => undef | 3 => undef | 4 => undef | 5 => undef | 6 => undef | 7 => undef | 8 => undef | 9 => Value.slice none 0 0 | _ => undef) (by repeat (first | exact trivial | refine ⟨fun _ _ => rfl, ?_⟩)) (App2.start (by omega) (by assumption) rfl) ⟨?_, ?_, ?_, ?_, ?_, ?_, ?_, ?_, ?_, ?_, trivial⟩ ?_
  · intro li xs W hI hli hp K hK
    clear hp
    rw [if_pos (wanted_none rfl _)]
    go_simp
    exact hK _ _ (hI.pure _ ⟨by decide, by decide, by decide, by decide, by decide⟩ rfl)
  · intro li xs W hI hli hp K hK
    clear hp
    rw [if_pos (wanted_none rfl _)]
    go_simp
    exact hK _ _ (hI.pure _ ⟨by decide, by decide, by decide, by decide, by decide⟩ rfl)
  · intro li xs W hI hli hp K hK
    have f1 : xs 1 = .pointer (some ⟨w.heap.size, 5, none⟩) := hI.det 1 _ (hp.1 rfl) rfl
    have hc : W.cell? ⟨w.heap.size, 5, none⟩ = some (.slice m.va m.vl m.vc) := (cell_blk ((hI.old _ hz5 HF3.out).trans HA3.out) _).trans m.at5
    clear hp
    rw [if_pos (wanted_none rfl _)]
    simp only [f1] at hK ⊢
    go_simp
    exact hK _ _ (hI.pure _ ⟨by decide, by decide, by decide, by decide, by decide⟩ rfl)
  · intro li xs W hI hli hp K hK
    have f2 : xs 2 = .slice m.va m.vl m.vc := hI.det 2 _ (hp.1 rfl) rfl
    clear hp
    rw [if_pos (wanted_none rfl _)]
    simp only [f2] at hK ⊢
    go_simp
    have hb := rBytes_any P m.va m.vc W (HP3.out W hI.old).val hvb
    rw [← HVL.out] at hb
    refine hb.mono ?_
    rintro e w' ⟨v', rfl, hO, hB'⟩
    obtain ⟨ao8, n8, c8, rfl, hf8⟩ := hO.form
    exact hK _ _ (hI.first hB' _ ⟨by decide, by decide, by decide, by decide⟩ (fun u hu => by cases hu) ⟨_, _, _, rfl, hf8.out.1, hf8.out.2.2⟩)
  · intro li xs W hI hli hp K hK
    have f0 : xs 0 = .slice ao3 n3 c3 := hI.det 0 _ (hp.1 rfl) rfl
    obtain ⟨ao9, n9, c9, e9, hn9, hR9⟩ := hI.src1 (hp.2.1 rfl) hli
    rw [if_pos (wanted_none rfl _)]
    exact wp_appO _ _ rfl ((w.heap.size + 1)) (.slice ao3 n3 c3) (T) (f0) (hI.row0 hli) ao9 n9 c9 (num m.vl ++ P) e9 hn9 hR9 (by rw [hn9]; have := num_length m.vl; rw [List.length_append]; omega) (Nat.le_trans hI.bz hI.size) (fun v' w' h1 h2 => hK _ _ (hI.app1 v' h2 ⟨by decide, by decide, by decide, by decide⟩ rfl (hI.openq hli) h1))
  · intro li xs W hI hli hp K hK
    clear hp
    rw [if_pos (wanted_none rfl _)]
    go_simp
    exact hK _ _ (hI.pure _ ⟨by decide, by decide, by decide, by decide, by decide⟩ rfl)
  · intro li xs W hI hli hp K hK
    have f5 : xs 5 = .pointer (some ⟨w.heap.size, 6, none⟩) := hI.det 5 _ (hp.1 rfl) rfl
    have hc : W.cell? ⟨w.heap.size, 6, none⟩ = some (.slice m.ya m.yl m.yc) := (cell_blk ((hI.old _ hz5 HF3.out).trans HA3.out) _).trans m.at6
    clear hp
    rw [if_pos (wanted_none rfl _)]
    simp only [f5] at hK ⊢
    go_simp
    exact hK _ _ (hI.pure _ ⟨by decide, by decide, by decide, by decide, by decide⟩ rfl)
  · intro li xs W hI hli hp K hK
    have f6 : xs 6 = .slice m.ya m.yl m.yc := hI.det 6 _ (hp.1 rfl) rfl
    clear hp
    rw [if_pos (wanted_none rfl _)]
    simp only [f6] at hK ⊢
    go_simp
    have hb := rvotes_any ys m.ya m.yl m.yc W HYL.out (HP3.out W hI.old).vot hywf hyb
    rw [← HYL.out] at hb
    refine hb.mono ?_
    rintro e w' ⟨v', rfl, hO, hB'⟩
    exact hK _ _ (hI.second hB' _ ⟨by decide, by decide, by decide, by decide⟩ rfl hO)
  · intro li xs W hI hli hp K hK
    have hr9 := hI.row1 (hp.1 rfl) hli
    have hs9 := hI.src2 (hp.2.1 rfl) hli
    obtain ⟨ao9, n9, c9, e9, hf9⟩ := hs9.form
    rw [if_pos (wanted_none rfl _)]
    exact wp_appO _ _ rfl ((w.heap.size + 1)) (xs 4) ((T) ++ (num m.vl ++ P)) rfl hr9 ao9 n9 c9 (num m.yl ++ ys.flatMap voteL) e9 hf9.out.1 hf9.out.2.2 (by rw [hf9.out.1]; have := num_length m.vl; have := num_length m.yl; have := flat_length ys; simp only [List.length_append]; omega) (Nat.le_trans hI.bz hI.size) (fun v' w' h1 h2 => hK _ _ (hI.app2 v' h2 ⟨by decide, by decide, by decide, by decide⟩ rfl (hp.1 rfl) (hp.2.1 rfl) hli (hI.open (by decide) hli) h1))
  · intro li xs W hI hli hp K hK
    have hall : ∀ i, i < 9 → li i = true := fun i hi => by
        match i, hi with
        | 0, _ => exact hp.2.2.1 rfl
        | 1, _ => exact hp.2.2.2.1 rfl
        | 2, _ => exact hp.2.2.2.2.1 rfl
        | 3, _ => exact hp.2.2.2.2.2.1 rfl
        | 4, _ => exact hp.2.2.2.2.2.2.1 rfl
        | 5, _ => exact hp.2.2.2.2.2.2.2.1 rfl
        | 6, _ => exact hp.2.2.2.2.2.2.2.2.1 rfl
        | 7, _ => exact hp.2.2.2.2.2.2.2.2.2.1 rfl
        | 8, _ => exact hp.2.2.2.2.2.2.2.2.2.2.1 rfl
    rw [if_pos (wanted_none rfl _)]
    clear hp
    go_simp
    exact hK _ _ (hI.last ⟨by decide, by decide, by decide, by decide⟩ rfl hall)
  rintro li xs W hI hall
  have h9 := hI.fin (hall 9 (by decide))
  have hO8 := hI.row2 (hall 8 (by decide))
  have hB4 : Below w.heap.size w W := hBw.trans ((HB3.out.mono (Nat.le_succ _)).trans (hI.bel.mono (Nat.le_succ _)))
  obtain ⟨ao4, n4, c4, h8, -⟩ := hO8.form
  rw [h8] at hO8 h9
  simp only [h9]
  have hO : OwnB W w.heap.size (.slice ao4 n4 c4) (bodyL m P ys) := by
    rw [HT.out, HVL.out, HYL.out] at hO8
    unfold bodyL
    simpa only [List.append_assoc] using hO8.mono (Nat.le_succ _)
  clear hI hall h9 h8 hO8
  go_wp2_with fail
  go_ret
  exact ⟨_, rfl, hO, hB4⟩
end Go.Proofs.Ytkjocpadmlobgaa
