/- wire: messages as bytes (EncodeMsg). For messages of at most 2^38 bytes and 2^30 votes. -/
import Derived.Test.YtkjocpadmlobgaaWireD
namespace Go.Proofs.Ytkjocpadmlobgaa
open Go.RowKit Go.Dig Go.Inv Go.Oct

theorem msg_info (x : MsgR) : (Try.prog.info? 27).map (·.size) = some x.cells.size := by rw [MsgR.size]; kernel_rfl
theorem msg_row : ∃ d, Try.prog.underlying 27 = some d ∧ d.isRow = true := by
  have h : (Try.prog.underlying 27).map (·.isRow) = some true := by kernel_rfl
  cases hd : Try.prog.underlying 27 with
  | none => rw [hd] at h; cases h
  | some d => rw [hd] at h; exact ⟨d, rfl, by simpa using h⟩
theorem wpList_load_msg {ops : Array Oper} {rest : List Oper} {o : Oper} {a : Act} {w : World} {Q : Exit → Act → World → Prop} (hgd : o.guard = none) (x : Operand) (ho : o.op = .load 27 x) (b : Nat) (y : MsgR) (t : TypeId) (fr : Nat × Nat) (hx : a.eval x = .pointer (some ⟨b, 0, none⟩))
    (hc : w.heap[b]? = some (.cells y.cells t fr)) (h : wpList Try.prog ops Q rest (a.put o.dst (.agg y.cells)) w) : wpList Try.prog ops Q (o :: rest) a w := by
  obtain ⟨d, hd1, hd2⟩ := msg_row
  refine wpList_load_mid hgd 27 x ho b 0 hx y.cells.toList d (fun j v hv => ?_) hd1 hd2 (by rw [Array.length_toList]; exact msg_info y) (by simpa using h)
  have hv' : y.cells[j]? = some v := by simpa using hv
  rw [Nat.zero_add, cell_blk hc]; exact hv'
def encMsg (m : MsgR) (P : List Int) (ys : List VoteR) : List Int := nums [1, m.k, m.f, m.t, m.s, m.v] ++ num P.length ++ P ++ num ys.length ++ ys.flatMap voteL ++ ofF 32 m.tag
theorem apart_below {w : World} {ao : Option Addr} {P : List Int} {cap g : Nat} {v : Value} {B : Nat} (h : Rowed w ao P cap) (hp : P ≠ []) (hw : w.heap.size ≤ B) (hg : B ≤ g) (hv : ∀ k, v.ownBlock = some k → B ≤ k) : Apart ao g v := fun ad e => by
  obtain ⟨b, o, e', hc⟩ := h.at hp
  rw [e'] at e
  cases e
  have := World.block_lt_of_cell? w _ (hc 0 (List.length_pos_iff.2 hp))
  exact ⟨by simp at this ⊢; omega, fun e => by have := hv _ e; simp at *; omega⟩
theorem apart_votes {w : World} {ao : Option Addr} {ys : List VoteR} {g : Nat} {v : Value} {B : Nat} (h : VotesAt w ao ys) (hp : ys ≠ []) (hw : w.heap.size ≤ B) (hg : B ≤ g) (hv : ∀ k, v.ownBlock = some k → B ≤ k) : Apart ao g v := fun ad e => by
  obtain ⟨b, o, e', hc⟩ := h hp
  rw [e'] at e
  cases e
  have := World.block_lt_of_cell? w _ ((hc 0 (List.length_pos_iff.2 hp) 0 (by omega)).trans (VoteR.at0 _))
  exact ⟨by simp at this ⊢; omega, fun e => by have := hv _ e; simp at *; omega⟩
set_option maxRecDepth 10000 in
set_option maxHeartbeats 2000000 in
theorem encodeMsg_any (m : MsgR) (P : List Int) (ys : List VoteR) (w : World) (h : MsgAt w m P ys) : Calls Try.prog 10 #[.agg m.cells] w fun x w' => Enc (msgB m ys) (encMsg m P ys) w w' x := by
  have hBm : Below w.heap.size w (w.alloc (.cells m.cells 27)) := below_alloc _ _
  have HB0 : Hid ((w.alloc (.cells m.cells 27)).heap[w.heap.size]? = some (.cells m.cells 27 (0, 0))) := alloc_blk _ _
  have HH : Hid (MsgAt (w.alloc (.cells m.cells 27)) m P ys) := h.below hBm (Nat.le_refl _)
  have hsl := slice_hash
  clear h
  cases hm : msgB m ys
  · go_enter Try.func10, Try.ntmps10
    go_wp2_with (first | (refine wpList_box_row rfl 27 _ rfl _ ?_ ?_; rfl) | (refine wpList_load_msg rfl _ rfl w.heap.size m 27 (0, 0) ?_ ?_ ?_; rfl; exact HB0.out) | (go_at_call 33; refine (msgMayBe_any _ _ _ _ HH.out).mono ?_; rintro e w1 ⟨rfl, hB1⟩; have hB2 := hBm.trans (hB1.mono hBm.size)))
    refine bodyPost_ret (v := .tuple #[.slice none 0 0, .int .i64 1]) (by simp [results, Try.results10, go_sem]) rfl ?_
    exact ⟨_, rfl, OwnB.nil _ _, hB2⟩
  · go_enter Try.func10, Try.ntmps10
    go_wp2_with (first | (refine wpList_box_row rfl 27 _ rfl _ ?_ ?_; rfl) | (refine wpList_load_msg rfl _ rfl w.heap.size m 27 (0, 0) ?_ ?_ ?_; rfl; exact HB0.out))
    refine (msgMayBe_any _ _ _ _ HH.out).mono ?_
    rintro x w1 ⟨rfl, hB1⟩
    have hb1 : w1.heap[w.heap.size]? = some (.cells m.cells 27 (0, 0)) := (hB1.block w.heap.size (by simp)).trans HB0.out
    have hB2 : Below w.heap.size w w1 := hBm.trans (hB1.mono hBm.size)
    have hs1 : w.heap.size < w1.heap.size := lt_blk hb1
    have HH1 : Hid (MsgAt w1 m P ys) := HH.out.below hB1 (Nat.le_refl _)
    have hb2 := alloc_blk_old hb1 (.cells #[.slice none 0 0] 70)
    have hc0 : (w1.alloc (.cells #[.slice none 0 0] 70)).cell? ⟨w.heap.size, 0, none⟩ = some (.int .i64 m.k) := (cell_blk hb2 _).trans m.at0
    have hc1 : (w1.alloc (.cells #[.slice none 0 0] 70)).cell? ⟨w.heap.size, 1, none⟩ = some (.int .i64 m.f) := (cell_blk hb2 _).trans m.at1
    have hc2 : (w1.alloc (.cells #[.slice none 0 0] 70)).cell? ⟨w.heap.size, 2, none⟩ = some (.int .i64 m.t) := (cell_blk hb2 _).trans m.at2
    have hc3 : (w1.alloc (.cells #[.slice none 0 0] 70)).cell? ⟨w.heap.size, 3, none⟩ = some (.int .i64 m.s) := (cell_blk hb2 _).trans m.at3
    have hc4 : (w1.alloc (.cells #[.slice none 0 0] 70)).cell? ⟨w.heap.size, 4, none⟩ = some (.int .i64 m.v) := (cell_blk hb2 _).trans m.at4
    have HB1 : Hid (w1.heap[w.heap.size]? = some (.cells m.cells 27 (0, 0))) := hb1
    have HW := wri_new w1
    have hBw := below_alloc w1 (.cells #[.slice none 0 0] 70)
    clear hB1 hb1 hb2 hBm HB0 HH
    go_wp2_with fail
    obtain ⟨i0, i1, i2, i3, i4⟩ := HH1.out.wf
    refine (wNums_new w1.heap.size w1.heap.size _ [] [1, m.k, m.f, m.t, m.s, m.v] (w1.heap.size + 1) 6 _ HW (by simp) ⟨inI_lit (by decide) (by decide), i0, i1, i2, i3, i4, trivial⟩ (by simp)).mono ?_
    rintro x w2 ⟨rfl, v2, hw2, hr2⟩
    have hl2 := nums_length [1, m.k, m.f, m.t, m.s, m.v]
    have hB3 : Below w1.heap.size w1 w2 := hBw.trans (hr2.below (by simp) (Nat.le_refl _) (fun k hk => by cases hk))
    have hc5 : w2.cell? ⟨w.heap.size, 5, none⟩ = some (.slice m.va m.vl m.vc) := (cell_blk (Below.blk hB3 hs1 HB1.out) _).trans m.at5
    have HW2 : Hid (Wri w2 w1.heap.size w1.heap.size v2 (nums [1, m.k, m.f, m.t, m.s, m.v])) := hw2
    clear hc0 hc1 hc2 hc3 hc4 HW hr2 hw2 hBw
    go_wp2_with fail
    have HH2 : Hid (MsgAt w2 m P ys) := HH1.out.below hB3 (Nat.le_refl _)
    have hvb := HH1.out.vb
    have hyb := HH1.out.yb
    have ow2 : ∀ k, v2.ownBlock = some k → w1.heap.size ≤ k := fun k hk => (HW2.out.row.lt k hk).1
    refine (layRowB_any w1.heap.size w1.heap.size v2 _ P m.va m.vl m.vc w2 HW2.out HH2.out.vl HH2.out.val (fun hp => apart_below HH1.out.val hp (Nat.le_refl _) (Nat.le_refl _) ow2) (by simp at hl2 ⊢; omega)).mono ?_
    rintro x w3 ⟨rfl, v3, hw3, hr3⟩
    have hB4 : Below w1.heap.size w1 w3 := hB3.trans (hr3.below hB3.size (Nat.le_refl _) ow2)
    have hc6 : w3.cell? ⟨w.heap.size, 6, none⟩ = some (.slice m.ya m.yl m.yc) := (cell_blk (Below.blk hB4 hs1 HB1.out) _).trans m.at6
    have hln := num_length m.vl
    have hl3 : (nums [1, m.k, m.f, m.t, m.s, m.v] ++ num m.vl ++ P).length ≤ P.length + 64 := by simp only [List.length_append]; simp at hl2; omega
    have HW3 : Hid (Wri w3 w1.heap.size w1.heap.size v3 (nums [1, m.k, m.f, m.t, m.s, m.v] ++ num m.vl ++ P)) := hw3
    clear hc5 hr3 hw3 HW2 HH2 hB3 ow2 hl2 hln
    go_wp2_with fail
    have HH3 : Hid (MsgAt w3 m P ys) := HH1.out.below hB4 (Nat.le_refl _)
    have ow3 : ∀ k, v3.ownBlock = some k → w1.heap.size ≤ k := fun k hk => (HW3.out.row.lt k hk).1
    refine (layRowV_any w1.heap.size w1.heap.size v3 _ ys m.ya m.yl m.yc w3 HW3.out HH3.out.yl HH3.out.vot (fun hp => apart_votes HH1.out.vot hp (Nat.le_refl _) (Nat.le_refl _) ow3) HH1.out.ywf (by omega)).mono ?_
    rintro x w4 ⟨rfl, v4, hw4, hr4⟩
    have hB5 : Below w1.heap.size w1 w4 := hB4.trans (hr4.below hB4.size (Nat.le_refl _) ow3)
    have HB4 : Hid (w4.heap[w.heap.size]? = some (.cells m.cells 27 (0, 0))) := Below.blk hB5 hs1 HB1.out
    have hln := num_length m.yl
    have hlf := flat_length ys
    have hl4 : (nums [1, m.k, m.f, m.t, m.s, m.v] ++ num m.vl ++ P ++ num m.yl ++ ys.flatMap voteL).length ≤ P.length + 100 * ys.length + 100 := by rw [List.length_append, List.length_append]; omega
    have HW4 : Hid (Wri w4 w1.heap.size w1.heap.size v4 (nums [1, m.k, m.f, m.t, m.s, m.v] ++ num m.vl ++ P ++ num m.yl ++ ys.flatMap voteL)) := hw4
    clear hc6 hr4 hw4 HW3 HH3 hB4 ow3 hl3 hln hlf
    go_wp2_with fail
    have ow4 : ∀ k, v4.ownBlock = some k → w1.heap.size ≤ k := fun k hk => (HW4.out.row.lt k hk).1
    refine (wRaw_any _ _ v4 _ (ofF 32 m.tag) (some ⟨w.heap.size, 7, none⟩) 32 32 _ HW4.out (by rw [ofF_length]) (rowed_mid HB4.out (fun j hj => m.atTag hj) 32) (by rw [ofF_length]; omega)).mono ?_
    rintro x w5 ⟨rfl, v5, hw5, hr5⟩
    have hB6 : Below w1.heap.size w1 w5 := hB5.trans (hr5.below hB5.size (Nat.le_refl _) ow4)
    have HW5 : Hid (Wri w5 w1.heap.size w1.heap.size v5 (encMsg m P ys)) := by
      show Wri _ _ _ _ _
      unfold encMsg
      rw [← HH1.out.vl, ← HH1.out.yl]; exact hw5
    have hl5 : (encMsg m P ys).length ≤ P.length + 100 * ys.length + 132 := by
      have e : encMsg m P ys = (nums [1, m.k, m.f, m.t, m.s, m.v] ++ num m.vl ++ P ++ num m.yl ++ ys.flatMap voteL) ++ ofF 32 m.tag := by unfold encMsg; rw [← HH1.out.vl, ← HH1.out.yl]
      rw [e, List.length_append, ofF_length]; omega
    clear hr5 hw5 HW4 hB5 ow4 hl4 HB4
    go_wp2_with fail
    refine (wOut_any _ _ _ _ _ HW5.out (by omega)).mono ?_
    rintro x w6 ⟨v6, rfl, hO6, hB7⟩
    obtain ⟨ao, n, c, rfl, -⟩ := hO6.form
    have hB8 : Below w.heap.size w w5 := hB2.trans (hB6.mono (Nat.le_of_lt hs1))
    have hO : OwnB w6 w.heap.size (.slice ao n c) (encMsg m P ys) := hO6.mono hB8.size
    have hB9 : Below w.heap.size w w6 := hB8.trans (hB7.mono hB8.size)
    clear hO6 hB7 hB8 HW5
    go_wp2_with fail
    refine bodyPost_ret (v := .tuple #[.slice ao n c, .int .i64 0]) (by simp [results, Try.results10, go_sem]) rfl ?_
    exact ⟨_, rfl, hO, hB9⟩
end Go.Proofs.Ytkjocpadmlobgaa
