/- WireBodies' walk: what is sealed of a message and a vote, whom it goes to and its seal aside. -/
import Derived.Test.YtkjocpadmlobgaaWireK
import Derived.Deep.CutRange
namespace Go.Proofs.Ytkjocpadmlobgaa
open Go.RowKit Go.Dig Go.Inv Go.Oct

def longM (m : MsgR) : Bool := decide (500 < m.vl) || decide (20 < m.yl)
set_option maxRecDepth 10000 in
set_option maxHeartbeats 1000000 in
theorem long5_any (m : MsgR) (w : World) : Calls Try.prog 9 #[.agg m.cells] w fun e w' => e = .returned (.bool (longM m)) ∧ Below w.heap.size w w' := by
  have hBw := below_alloc w (.cells m.cells 27)
  have hb := alloc_blk w (.cells m.cells 27)
  have hc5 : (w.alloc (.cells m.cells 27)).cell? ⟨w.heap.size, 5, none⟩ = some (.slice m.va m.vl m.vc) := (cell_blk hb _).trans m.at5
  have hc6 : (w.alloc (.cells m.cells 27)).cell? ⟨w.heap.size, 6, none⟩ = some (.slice m.ya m.yl m.yc) := (cell_blk hb _).trans m.at6
  clear hb
  by_cases h1 : 500 < m.vl
  · have h1' : (500 : Int) < (m.vl : Int) := by omega
    have HL : Hid (longM m = true) := by show _ = _; simp [longM, h1]
    go_enter Try.func9, Try.ntmps9
    go_wp2_with (refine wpList_box_row rfl 27 _ rfl _ rfl ?_)
    go_ret
    exact ⟨by rw [HL.out]; rfl, hBw⟩
  · have h1' : ¬ (500 : Int) < (m.vl : Int) := by omega
    have HL : Hid (longM m = decide ((20 : Int) < (m.yl : Int))) := by show _ = _; simp [longM, h1]; omega
    go_enter Try.func9, Try.ntmps9
    go_wp2_with (refine wpList_box_row rfl 27 _ rfl _ rfl ?_)
    go_ret
    exact ⟨by rw [HL.out]; rfl, hBw⟩

/-- two boxes are made and filled, in whatever order -/
structure Two (w0 : World) (m : MsgR) (v : VoteR) (li : Nat → Bool) (xs : Nat → Value) (W : World) : Prop where
  bel : Below w0.heap.size w0 W
  d0 : li 0 = true → xs 0 = .agg m.cells
  d1 : li 1 = true → xs 1 = .agg v.cells
  m : li 2 = true → ∃ g, w0.heap.size ≤ g ∧ xs 2 = .pointer (some ⟨g, 0, none⟩) ∧ W.heap[g]? = some (.cells (if li 4 = true then m else MsgR.zero).cells 27 (0, 0))
  v : li 3 = true → ∃ g, w0.heap.size ≤ g ∧ xs 3 = .pointer (some ⟨g, 0, none⟩) ∧ W.heap[g]? = some (.cells (if li 5 = true then v else VoteR.zero).cells 62 (0, 0))
  ne : li 2 = true → li 3 = true → xs 2 ≠ xs 3
  i4 : li 4 = true → li 2 = true
  i5 : li 5 = true → li 3 = true
section
variable {w0 : World} {m : MsgR} {v : VoteR} {li : Nat → Bool} {xs : Nat → Value} {W W' : World}
theorem Two.load0 (h : Two w0 m v li xs W) : Two w0 m v (upd li 0 true) (upd xs 0 (.agg m.cells)) W :=
  ⟨h.bel, fun _ => rfl, h.d1, h.m, h.v, h.ne, h.i4, h.i5⟩
theorem Two.load1 (h : Two w0 m v li xs W) : Two w0 m v (upd li 1 true) (upd xs 1 (.agg v.cells)) W :=
  ⟨h.bel, h.d0, fun _ => rfl, h.m, h.v, h.ne, h.i4, h.i5⟩
theorem Two.alloc2 (h : Two w0 m v li xs W) (hl : li 2 = false) : Two w0 m v (upd li 2 true) (upd xs 2 (.pointer (some ⟨W.heap.size, 0, none⟩))) (W.alloc (.cells MsgR.zero.cells 27)) := by
  have h4 : li 4 = false := by cases h4 : li 4 with | false => rfl | true => rw [h.i4 h4] at hl; cases hl
  refine ⟨h.bel.alloc h.bel.size _, h.d0, h.d1, fun _ => ⟨W.heap.size, h.bel.size, rfl, ?_⟩, fun a => ?_, fun _ a => ?_, fun a => rfl, h.i5⟩
  · show _ = some (Obj.cells (if li 4 = true then m else MsgR.zero).cells 27 (0, 0))
    rw [h4]; exact alloc_blk _ _
  · obtain ⟨g, hg, e, hb⟩ := h.v a
    exact ⟨g, hg, e, alloc_blk_old hb _⟩
  · obtain ⟨g, hg, e, hb⟩ := h.v a
    show Value.pointer (some ⟨W.heap.size, 0, none⟩) ≠ xs 3
    rw [e]
    intro e2
    injection e2 with e2; injection e2 with e2; injection e2 with e2
    have := lt_blk hb
    omega
theorem Two.alloc3 (h : Two w0 m v li xs W) (hl : li 3 = false) : Two w0 m v (upd li 3 true) (upd xs 3 (.pointer (some ⟨W.heap.size, 0, none⟩))) (W.alloc (.cells VoteR.zero.cells 62)) := by
  have h4 : li 5 = false := by cases h4 : li 5 with | false => rfl | true => rw [h.i5 h4] at hl; cases hl
  refine ⟨h.bel.alloc h.bel.size _, h.d0, h.d1, fun a => ?_, fun _ => ⟨W.heap.size, h.bel.size, rfl, ?_⟩, fun a _ => ?_, h.i4, fun a => rfl⟩
  · obtain ⟨g, hg, e, hb⟩ := h.m a
    exact ⟨g, hg, e, alloc_blk_old hb _⟩
  · show _ = some (Obj.cells (if li 5 = true then v else VoteR.zero).cells 62 (0, 0))
    rw [h4]; exact alloc_blk _ _
  · obtain ⟨g, hg, e, hb⟩ := h.m a
    show xs 2 ≠ Value.pointer (some ⟨W.heap.size, 0, none⟩)
    rw [e]
    intro e2
    injection e2 with e2; injection e2 with e2; injection e2 with e2
    have := lt_blk hb
    omega
theorem Two.store4 (h : Two w0 m v li xs W) (hl : li 2 = true) {g : Nat} (hx : xs 2 = .pointer (some ⟨g, 0, none⟩)) (hb : W'.heap[g]? = some (.cells m.cells 27 (0, 0))) (hk : Keeps g W W') (u : Value) : Two w0 m v (upd li 4 true) (upd xs 4 u) W' := by
  obtain ⟨g', hg, e, hb'⟩ := h.m hl
  obtain rfl : g = g' := by rw [hx] at e; injection e with e; injection e with e; injection e
  refine ⟨h.bel.trans (hk.below hg h.bel.size), h.d0, h.d1, fun _ => ⟨g, hg, hx, hb⟩, fun a => ?_, h.ne, fun _ => hl, h.i5⟩
  obtain ⟨q, hq, e3, hb3⟩ := h.v a
  refine ⟨q, hq, e3, (hk.block q (lt_blk hb3) (fun e4 => h.ne hl a ?_)).trans hb3⟩
  rw [hx, e3, e4]
theorem Two.store5 (h : Two w0 m v li xs W) (hl : li 3 = true) {g : Nat} (hx : xs 3 = .pointer (some ⟨g, 0, none⟩)) (hb : W'.heap[g]? = some (.cells v.cells 62 (0, 0))) (hk : Keeps g W W') (u : Value) : Two w0 m v (upd li 5 true) (upd xs 5 u) W' := by
  obtain ⟨g', hg, e, hb'⟩ := h.v hl
  obtain rfl : g = g' := by rw [hx] at e; injection e with e; injection e with e; injection e
  refine ⟨h.bel.trans (hk.below hg h.bel.size), h.d0, h.d1, fun a => ?_, fun _ => ⟨g, hg, hx, hb⟩, h.ne, h.i4, fun _ => hl⟩
  obtain ⟨q, hq, e3, hb3⟩ := h.m a
  refine ⟨q, hq, e3, (hk.block q (lt_blk hb3) (fun e4 => h.ne a hl ?_)).trans hb3⟩
  rw [hx, e3, e4]
end
/-- three fields are written, in whatever order -/
structure Wri3 (w0 : World) (B g q : Nat) (m : MsgR) (v : VoteR) (tn : Int) (tag : Nat → Int) (val : Nat → Option Value) (li : Nat → Bool) (xs : Nat → Value) (W : World) : Prop where
  bel : Below B w0 W
  keep : ∀ k, k < w0.heap.size → k ≠ g → k ≠ q → W.heap[k]? = w0.heap[k]?
  size : w0.heap.size ≤ W.heap.size
  det : ∀ i u, li i = true → val i = some u → xs i = u
  m : W.heap[g]? = some (.cells ({ m with t := if li 4 = true then tn else m.t, tag := if li 6 = true then tag else m.tag } : MsgR).cells 27 (0, 0))
  v : W.heap[q]? = some (.cells ({ v with tag := if li 8 = true then tag else v.tag } : VoteR).cells 62 (0, 0))
  lo : B ≤ g ∧ B ≤ q ∧ g ≠ q ∧ B ≤ w0.heap.size
section
variable {w0 : World} {B g q : Nat} {m : MsgR} {v : VoteR} {tn : Int} {tag : Nat → Int} {val : Nat → Option Value} {li : Nat → Bool} {xs : Nat → Value} {W W' : World}
theorem Wri3.detStep (h : Wri3 w0 B g q m v tn tag val li xs W) (i : Nat) (x : Value) (hf : ∀ u, val i = some u → x = u) : ∀ j u, upd li i true j = true → val j = some u → upd xs i x j = u := fun j u hl hu => by
  by_cases hji : j = i
  · subst hji; rw [upd_same]; exact hf u hu
  · rw [upd_other _ _ hji] at hl ⊢; exact h.det j u hl hu
theorem Wri3.pure (h : Wri3 w0 B g q m v tn tag val li xs W) {i : Nat} (x : Value) (hi : 4 ≠ i ∧ 6 ≠ i ∧ 8 ≠ i) (hv : val i = some x) : Wri3 w0 B g q m v tn tag val (upd li i true) (upd xs i x) W :=
  ⟨h.bel, h.keep, h.size, h.detStep i x (fun u hu => by rw [hv] at hu; injection hu), by rw [upd_other _ _ hi.1, upd_other _ _ hi.2.1]; exact h.m, by rw [upd_other _ _ hi.2.2]; exact h.v, h.lo⟩
theorem Wri3.put (h : Wri3 w0 B g q m v tn tag val li xs W) {i b : Nat} (x : Value) (hb : b = g ∨ b = q) (hv : val i = none) (hk : Keeps b W W')
    (hm : W'.heap[g]? = some (.cells ({ m with t := if upd li i true 4 = true then tn else m.t, tag := if upd li i true 6 = true then tag else m.tag } : MsgR).cells 27 (0, 0)))
    (hq : W'.heap[q]? = some (.cells ({ v with tag := if upd li i true 8 = true then tag else v.tag } : VoteR).cells 62 (0, 0))) : Wri3 w0 B g q m v tn tag val (upd li i true) (upd xs i x) W' := by
  obtain ⟨l1, l2, l3, l4⟩ := h.lo
  refine ⟨h.bel.trans (hk.below (by rcases hb with rfl | rfl <;> assumption) (Nat.le_trans l4 h.size)), fun k h1 h2 h3 => (hk.block k (Nat.lt_of_lt_of_le h1 h.size) (by rcases hb with rfl | rfl <;> assumption)).trans (h.keep k h1 h2 h3), Nat.le_trans h.size hk.size, h.detStep i x (fun u hu => by rw [hv] at hu; cases hu), hm, hq, h.lo⟩
end
def bodiesSpec (base : Nat) (m n : MsgR) (v u : VoteR) (ao3 ao4 : Option Addr) (n3 c3 n4 c4 : Nat) (B C : List Int) : Nat → Value → World → Prop
  | 0, xx, _ => xx = .slice ao3 n3 c3
  | 1, xx, _ => xx = .string (strOf B)
  | 2, xx, _ => xx = .agg m.cells
  | 3, xx, WW => OwnB WW base xx B
  | 4, xx, _ => xx = .string (strOf B)
  | 5, xx, _ => xx = .bool true
  | 6, xx, _ => xx = .bool true
  | 7, xx, _ => xx = .slice ao4 n4 c4
  | 8, xx, _ => xx = .string (strOf C)
  | 9, xx, _ => xx = .agg v.cells
  | 10, xx, WW => ∃ ao n cap, xx = .slice ao n cap ∧ n = C.length ∧ Rowed WW ao C cap
  | 11, xx, _ => xx = .string (strOf C)
  | 12, xx, _ => xx = .bool true
  | 13, xx, _ => xx = .bool true
  | 14, xx, _ => xx = .bool true
  | 15, xx, _ => xx = .agg n.cells
  | 16, xx, WW => OwnB WW base xx B
  | 17, xx, _ => xx = .string (strOf B)
  | 18, xx, _ => xx = .slice ao3 n3 c3
  | 19, xx, _ => xx = .string (strOf B)
  | 20, xx, _ => xx = .bool true
  | 21, xx, _ => xx = .bool true
  | 22, xx, _ => xx = .bool true
  | 23, xx, _ => xx = .agg u.cells
  | 24, xx, WW => ∃ ao n cap, xx = .slice ao n cap ∧ n = C.length ∧ Rowed WW ao C cap
  | 25, xx, _ => xx = .string (strOf C)
  | 26, xx, _ => xx = .slice ao4 n4 c4
  | 27, xx, _ => xx = .string (strOf C)
  | 28, xx, _ => xx = .bool true
  | 29, xx, _ => xx = .bool true
  | 30, xx, _ => xx = .bool true
  | 31, xx, _ => xx = .bool true
  | 32, xx, _ => xx = .bool true
  | 33, xx, _ => xx = .bool true
  | _, _, _ => True
set_option maxRecDepth 10000 in
set_option maxHeartbeats 4000000 in
theorem wireBodies_in (m : MsgR) (v : VoteR) (tn : Int) (tag : Nat → Int) (P : List Int) (ys : List VoteR) (w : World) (h : MsgAt w m P ys) (hv : v.wf) (ito : inI tn) (hlong : longM m = false) :
    Calls Try.prog 6 #[.agg m.cells, .agg v.cells, .int .i64 tn, .agg (row .u8 32 tag)] w fun e w' => e = .returned (.bool true) ∧ Below w.heap.size w w' := by
  have hBa := below_alloc w (.cells m.cells 27)
  have hBb := below_alloc (w.alloc (.cells m.cells 27)) (.cells v.cells 62)
  have hBc := below_alloc ((w.alloc (.cells m.cells 27)).alloc (.cells v.cells 62)) (.cells (row .u8 32 tag) 25)
  have hB1 : Below w.heap.size w (((w.alloc (.cells m.cells 27)).alloc (.cells v.cells 62)).alloc (.cells (row .u8 32 tag) 25)) := (hBa.trans (hBb.mono (by simp))).trans (hBc.mono (by simp; omega))
  have hb0 : (((w.alloc (.cells m.cells 27)).alloc (.cells v.cells 62)).alloc (.cells (row .u8 32 tag) 25)).heap[w.heap.size]? = some (.cells m.cells 27 (0, 0)) := alloc_blk_old (alloc_blk_old (alloc_blk _ _) _) _
  have hb1 : (((w.alloc (.cells m.cells 27)).alloc (.cells v.cells 62)).alloc (.cells (row .u8 32 tag) 25)).heap[w.heap.size + 1]? = some (.cells v.cells 62 (0, 0)) := by
    have := alloc_blk_old (alloc_blk (w.alloc (.cells m.cells 27)) (.cells v.cells 62)) (.cells (row .u8 32 tag) 25)
    simpa using this
  have hb2 : (((w.alloc (.cells m.cells 27)).alloc (.cells v.cells 62)).alloc (.cells (row .u8 32 tag) 25)).heap[w.heap.size + 2]? = some (.cells (row .u8 32 tag) 25 (0, 0)) := by
    have := alloc_blk ((w.alloc (.cells m.cells 27)).alloc (.cells v.cells 62)) (.cells (row .u8 32 tag) 25)
    simpa using this
  have HM1 : Hid (MsgAt (((w.alloc (.cells m.cells 27)).alloc (.cells v.cells 62)).alloc (.cells (row .u8 32 tag) 25)) m P ys) := h.below hB1 (Nat.le_refl _)
  have HB1 : Hid (Below w.heap.size w (((w.alloc (.cells m.cells 27)).alloc (.cells v.cells 62)).alloc (.cells (row .u8 32 tag) 25))) := hB1
  have HB : Hid ((((w.alloc (.cells m.cells 27)).alloc (.cells v.cells 62)).alloc (.cells (row .u8 32 tag) 25)).heap[w.heap.size]? = some (.cells m.cells 27 (0, 0)) ∧ (((w.alloc (.cells m.cells 27)).alloc (.cells v.cells 62)).alloc (.cells (row .u8 32 tag) 25)).heap[w.heap.size + 1]? = some (.cells v.cells 62 (0, 0)) ∧ (((w.alloc (.cells m.cells 27)).alloc (.cells v.cells 62)).alloc (.cells (row .u8 32 tag) 25)).heap[w.heap.size + 2]? = some (.cells (row .u8 32 tag) 25 (0, 0))) := ⟨hb0, hb1, hb2⟩
  have hsz : (((w.alloc (.cells m.cells 27)).alloc (.cells v.cells 62)).alloc (.cells (row .u8 32 tag) 25)).heap.size = w.heap.size + 3 := by simp
  clear hBa hBb hBc hB1 hb0 hb1 hb2 h
  go_enter Try.func6, Try.ntmps6
  go_upto_region 1 with (first | (refine wpList_box_row rfl 27 _ rfl _ ?_ ?_; rfl) | (refine wpList_box_row rfl 62 _ rfl _ ?_ ?_; rfl) | (refine wpList_box_row rfl 25 _ rfl _ ?_ ?_; rfl))
  generalize (((w.alloc (.cells m.cells 27)).alloc (.cells v.cells 62)).alloc (.cells (row .u8 32 tag) 25)) = w1 at *
  go_wp2_with (first | (refine wpList_load_msg rfl _ rfl w.heap.size m 27 (0, 0) ?_ ?_ ?_; rfl; exact HB.out.1))
  refine (long5_any m w1).mono ?_
  rintro e w2 ⟨rfl, hB2⟩
  rw [hlong]
  have HB2 : Hid (Below (w.heap.size + 3) w1 w2) := hB2.mono (by omega)
  have HM2 : Hid (MsgAt w2 m P ys) := HM1.out.below hB2 (Nat.le_refl _)
  have hz2 : w.heap.size + 3 ≤ w2.heap.size := by have := hB2.size; omega
  clear hB2
  go_wp2_with (first | (refine wpList_load_msg rfl _ rfl w.heap.size m 27 (0, 0) ?_ ?_ ?_; rfl; exact (HB2.out.block _ (by omega)).trans HB.out.1))
  refine (body_any m P ys w2 HM2.out).mono ?_
  rintro e w3 ⟨v3, rfl, hO3, hB3⟩
  have HB3 : Hid (Below (w.heap.size + 3) w1 w3) := HB2.out.trans (hB3.mono hz2)
  have HM3 : Hid (MsgAt w3 m P ys) := HM2.out.below hB3 (Nat.le_refl _)
  have hz3 : w.heap.size + 3 ≤ w3.heap.size := by have := hB3.size; omega
  have HO3 : Hid (OwnB w3 (w.heap.size + 3) v3 (bodyL m P ys)) := hO3.mono hz2
  have HV3 : Hid (VoteAt w3 (w.heap.size + 1) 0 v) := voteAt_blk ((HB3.out.block _ (by omega)).trans HB.out.2.1)
  obtain ⟨ao3, n3, c3, rfl, -⟩ := hO3.form
  clear hB3 hO3 HB2 HM2
  go_wp2_with (first | (refine wpList_load_vote rfl _ rfl (w.heap.size + 1) 0 ?_ v ?_ ?_; rfl; exact HV3.out))
  refine (voteBody_any v w3 hv).mono ?_
  rintro e w4 ⟨v4, rfl, hO4, hB4⟩
  have HB4 : Hid (Below (w.heap.size + 3) w1 w4) := HB3.out.trans (hB4.mono hz3)
  have HM4 : Hid (MsgAt w4 m P ys) := HM3.out.below hB4 (Nat.le_refl _)
  have hz4 : w.heap.size + 3 ≤ w4.heap.size := by have := hB4.size; omega
  have HO34 : Hid (OwnB w4 (w.heap.size + 3) (.slice ao3 n3 c3) (bodyL m P ys)) := HO3.out.below hB4
  have HO4 : Hid (OwnB w4 (w.heap.size + 3) v4 (vbody v)) := hO4.mono hz3
  obtain ⟨ao4, n4, c4, rfl, -⟩ := hO4.form
  clear hB4 hO4 HB3 HM3 HO3 HV3
  go_wp2_with fail
  refine wp_region_steps (by kernel_rfl) (by kernel_rfl) (fun xs => { tmps := (Value.agg m.cells :: Value.agg v.cells :: Value.int IntKind.i64 tn :: Value.agg (row IntKind.u8 32 tag) :: Value.pointer (some (⟨w.heap.size, 0, none⟩ : Addr)) :: Value.pointer (some (⟨w.heap.size + 1, 0, none⟩ : Addr)) :: undef :: Value.pointer (some (⟨w.heap.size + 1 + 1, 0, none⟩ : Addr)) :: Value.bool false :: Value.slice ao3 n3 c3 :: Value.slice ao4 n4 c4 :: xs 2 :: xs 3 :: Value.agg m.cells :: Value.bool false :: Value.agg m.cells :: Value.slice ao3 n3 c3 :: Value.agg v.cells :: Value.slice ao4 n4 c4 :: xs 0 :: xs 1 :: undef :: undef :: undef :: undef :: undef :: undef :: undef :: undef :: undef :: undef :: undef :: undef :: undef :: undef :: undef :: undef :: undef :: undef :: undef :: undef :: undef :: undef :: undef :: undef :: undef :: undef :: undef :: undef :: undef :: undef :: undef :: undef :: undef :: undef :: undef :: undef :: undef :: undef :: undef :: []).toArray, defers := [] }) (Two w4 m v) (fun _ => undef) (by repeat (first | exact trivial | refine ⟨fun _ _ => rfl, ?_⟩))
    ⟨(Below.refl _ _).drew, (fun h => by cases h), (fun h => by cases h), (fun h => by cases h), (fun h => by cases h), (fun h => by cases h), (fun h => by cases h), fun h => by cases h⟩ ⟨?_, ?_, ?_, ?_, ?_, ?_, trivial⟩ ?_
  · intro li xs W hI hli hp K hK
    rw [if_pos (wanted_none rfl _)]
    exact wp_load_msg _ rfl w.heap.size m 27 (0, 0) rfl ((hI.bel.block _ (by omega)).trans ((HB4.out.block _ (by omega)).trans HB.out.1)) (hK _ _ hI.load0)
  · intro li xs W hI hli hp K hK
    rw [if_pos (wanted_none rfl _)]
    exact wp_load_voteB _ rfl (w.heap.size + 1) v 62 (0, 0) rfl ((hI.bel.block _ (by omega)).trans ((HB4.out.block _ (by omega)).trans HB.out.2.1)) (hK _ _ hI.load1)
  · intro li xs W hI hli hp K hK
    rw [if_pos (wanted_none rfl _)]
    exact wp_alloc_row 27 rfl _ zero_msg (hK _ _ (hI.alloc2 hli))
  · intro li xs W hI hli hp K hK
    rw [if_pos (wanted_none rfl _)]
    exact wp_alloc_row 62 rfl _ zero_vote (hK _ _ (hI.alloc3 hli))
  · intro li xs W hI hli hp K hK
    rw [if_pos (wanted_none rfl _)]
    obtain ⟨g, hg, e, hb⟩ := hI.m (hp.1 rfl)
    exact wp_store_msg _ _ rfl g m _ e (hI.d0 (hp.2.1 rfl)) 27 hb (fun w' h1 h2 => hK _ _ (hI.store4 (hp.1 rfl) e h1 h2 _))
  · intro li xs W hI hli hp K hK
    rw [if_pos (wanted_none rfl _)]
    obtain ⟨g, hg, e, hb⟩ := hI.v (hp.1 rfl)
    exact wp_store_vote _ _ rfl g v _ e (hI.d1 (hp.2.1 rfl)) 62 hb (fun w' h1 h2 => hK _ _ (hI.store5 (hp.1 rfl) e h1 h2 _))
  rintro li xs w5 hI hall
  have h4 : li 4 = true := hall 4 (by decide)
  have h5 : li 5 = true := hall 5 (by decide)
  obtain ⟨g, hg, eg, hgb⟩ := hI.m (hall 2 (by decide))
  obtain ⟨q, hq, eq, hqb⟩ := hI.v (hall 3 (by decide))
  have hne : g ≠ q := fun e => hI.ne (hall 2 (by decide)) (hall 3 (by decide)) (by rw [eg, eq, e])
  rw [h4] at hgb
  rw [h5] at hqb
  simp only [if_true] at hgb hqb
  have HG5 : Hid (w5.heap[g]? = some (.cells m.cells 27 (0, 0))) := hgb
  have HQ5 : Hid (w5.heap[q]? = some (.cells v.cells 62 (0, 0))) := hqb
  have HB5 : Hid (Below (w.heap.size + 3) w1 w5) := HB4.out.trans (hI.bel.mono hz4)
  have HM5 : Hid (MsgAt w5 m P ys) := HM4.out.below hI.bel (Nat.le_refl _)
  have HK5 : Hid (Below w4.heap.size w4 w5) := hI.bel
  have hz5 : w.heap.size + 3 ≤ w5.heap.size := by have := hI.bel.size; omega
  simp only [eg, eq]
  generalize xs 0 = x0
  generalize xs 1 = x1
  clear hI hall h4 h5 eg eq hgb hqb
  go_wp2_with fail
  have hzg : g < w5.heap.size := lt_blk HG5.out
  have hzq : q < w5.heap.size := lt_blk HQ5.out
  have hg3 : w.heap.size + 3 ≤ g := by omega
  have hq3 : w.heap.size + 3 ≤ q := by omega
  refine wp_region_steps (by kernel_rfl) (by kernel_rfl) (fun xs => { tmps := (Value.agg m.cells :: Value.agg v.cells :: Value.int IntKind.i64 tn :: Value.agg (row IntKind.u8 32 tag) :: Value.pointer (some (⟨w.heap.size, 0, none⟩ : Addr)) :: Value.pointer (some (⟨w.heap.size + 1, 0, none⟩ : Addr)) :: undef :: Value.pointer (some (⟨w.heap.size + 1 + 1, 0, none⟩ : Addr)) :: Value.bool false :: Value.slice ao3 n3 c3 :: Value.slice ao4 n4 c4 :: Value.pointer (some (⟨g, 0, none⟩ : Addr)) :: Value.pointer (some (⟨q, 0, none⟩ : Addr)) :: Value.agg m.cells :: Value.bool false :: Value.agg m.cells :: Value.slice ao3 n3 c3 :: Value.agg v.cells :: Value.slice ao4 n4 c4 :: x0 :: x1 :: xs 0 :: xs 1 :: xs 2 :: xs 3 :: xs 5 :: xs 7 :: undef :: undef :: undef :: undef :: undef :: undef :: undef :: undef :: undef :: undef :: undef :: undef :: undef :: undef :: undef :: undef :: undef :: undef :: undef :: undef :: undef :: undef :: undef :: undef :: undef :: undef :: undef :: undef :: undef :: undef :: undef :: undef :: undef :: []).toArray, defers := [] }) (Wri3 w5 (w.heap.size + 3) g q m v tn tag (fun | 0 => some (.int .i64 tn) | 1 => some (.agg (row .u8 32 tag)) | 2 => some (.agg (row .u8 32 tag)) | 3 => some (.pointer (some ⟨g, 2, none⟩)) | 5 => some (.pointer (some ⟨g, 7, none⟩)) | 7 => some (.pointer (some ⟨q, 36, none⟩)) | _ => none)) (fun _ => undef) (by repeat (first | exact trivial | refine ⟨fun _ _ => rfl, ?_⟩))
    ⟨(Below.refl _ _).drew, fun _ _ _ _ => rfl, Nat.le_refl _, (fun _ _ h => by cases h), HG5.out, HQ5.out, ⟨hg3, hq3, hne, hz5⟩⟩ ⟨?_, ?_, ?_, ?_, ?_, ?_, ?_, ?_, ?_, trivial⟩ ?_
  · intro li xs W hI hli hp K hK
    rw [if_pos (wanted_none rfl _)]
    clear hp
    go_simp
    exact hK _ _ (hI.pure _ ⟨by decide, by decide, by decide⟩ rfl)
  · intro li xs W hI hli hp K hK
    rw [if_pos (wanted_none rfl _)]
    exact wp_load_hash _ rfl (w.heap.size + 2) 0 rfl tag (hashAt_blk ((hI.keep _ (by omega) (by omega) (by omega)).trans ((HB5.out.block _ (by omega)).trans HB.out.2.2))) (hK _ _ (hI.pure _ ⟨by decide, by decide, by decide⟩ rfl))
  · intro li xs W hI hli hp K hK
    rw [if_pos (wanted_none rfl _)]
    exact wp_load_hash _ rfl (w.heap.size + 2) 0 rfl tag (hashAt_blk ((hI.keep _ (by omega) (by omega) (by omega)).trans ((HB5.out.block _ (by omega)).trans HB.out.2.2))) (hK _ _ (hI.pure _ ⟨by decide, by decide, by decide⟩ rfl))
  · intro li xs W hI hli hp K hK
    rw [if_pos (wanted_none rfl _)]
    clear hp
    go_simp
    exact hK _ _ (hI.pure _ ⟨by decide, by decide, by decide⟩ rfl)
  · intro li xs W hI hli hp K hK
    rw [if_pos (wanted_none rfl _)]
    have f0 : xs 0 = .int .i64 tn := hI.det 0 _ (hp.2.1 rfl) rfl
    have f3 : xs 3 = .pointer (some ⟨g, 2, none⟩) := hI.det 3 _ (hp.1 rfl) rfl
    clear hp
    obtain ⟨y, hc⟩ : ∃ y, W.cell? ⟨g, 2, none⟩ = some y := by rw [cell_blk hI.m]; exact ⟨_, MsgR.at2 _⟩
    have hf := frozen_blk hI.m 2
    simp only [f0, f3] at hK ⊢
    clear f0 f3
    go_simp
    refine hK undef _ (hI.put undef (.inl rfl) rfl ((Keeps.refl _ _).setCell _ _) ?_ ?_)
    · rw [upd_same, upd_other _ _ (by decide), set_blk hI.m, MsgR.set_to]; rfl
    · rw [upd_other _ _ (by decide), Below.heap_setCell _ _ _ _ (Ne.symm hne)]; exact hI.v
  · intro li xs W hI hli hp K hK
    rw [if_pos (wanted_none rfl _)]
    clear hp
    go_simp
    exact hK _ _ (hI.pure _ ⟨by decide, by decide, by decide⟩ rfl)
  · intro li xs W hI hli hp K hK
    rw [if_pos (wanted_none rfl _)]
    have f1 : xs 1 = .agg (row .u8 32 tag) := hI.det 1 _ (hp.2.1 rfl) rfl
    have f5 : xs 5 = .pointer (some ⟨g, 7, none⟩) := hI.det 5 _ (hp.1 rfl) rfl
    refine wp_store_tagM _ _ rfl g tag _ f5 f1 27 hI.m (fun w' h1 h2 => hK _ _ (hI.put _ (.inl rfl) rfl h2 ?_ ?_))
    · rw [upd_same, upd_other _ _ (by decide)]; exact h1
    · rw [upd_other _ _ (by decide)]; exact (h2.block _ (lt_blk hI.v) (Ne.symm hne)).trans hI.v
  · intro li xs W hI hli hp K hK
    rw [if_pos (wanted_none rfl _)]
    clear hp
    go_simp
    exact hK _ _ (hI.pure _ ⟨by decide, by decide, by decide⟩ rfl)
  · intro li xs W hI hli hp K hK
    rw [if_pos (wanted_none rfl _)]
    have f2 : xs 2 = .agg (row .u8 32 tag) := hI.det 2 _ (hp.2.1 rfl) rfl
    have f7 : xs 7 = .pointer (some ⟨q, 36, none⟩) := hI.det 7 _ (hp.1 rfl) rfl
    refine wp_store_tagV _ _ rfl q tag _ f7 f2 62 hI.v (fun w' h1 h2 => hK _ _ (hI.put _ (.inr rfl) rfl h2 ?_ ?_))
    · rw [upd_other _ _ (by decide), upd_other _ _ (by decide)]; exact (h2.block _ (lt_blk hI.m) hne).trans hI.m
    · rw [upd_same]; exact h1
  rintro li xs w6 hI hall
  have hgb := hI.m
  have hqb := hI.v
  rw [hall 4 (by decide), hall 6 (by decide)] at hgb
  rw [hall 8 (by decide)] at hqb
  simp only [if_true] at hgb hqb
  have HG6 : Hid (w6.heap[g]? = some (.cells ({ m with t := tn, tag := tag } : MsgR).cells 27 (0, 0))) := hgb
  have HQ6 : Hid (w6.heap[q]? = some (.cells ({ v with tag := tag } : VoteR).cells 62 (0, 0))) := hqb
  have HB6 : Hid (Below (w.heap.size + 3) w1 w6) := HB5.out.trans hI.bel
  have HM6 : Hid (MsgAt w6 m P ys) := HM1.out.below HB6.out (by omega)
  have HO36 : Hid (OwnB w6 (w.heap.size + 3) (.slice ao3 n3 c3) (bodyL m P ys)) := HO34.out.same fun k hk => (hI.keep k (by have := (HO34.out.lt k hk).2; have := HK5.out.size; omega) (fun e => by have := (HO34.out.lt k hk).2; omega) (fun e => by have := (HO34.out.lt k hk).2; omega)).trans (HK5.out.block k (HO34.out.lt k hk).2)
  have HO46 : Hid (OwnB w6 (w.heap.size + 3) (.slice ao4 n4 c4) (vbody v)) := HO4.out.same fun k hk => (hI.keep k (by have := (HO4.out.lt k hk).2; have := HK5.out.size; omega) (fun e => by have := (HO4.out.lt k hk).2; omega) (fun e => by have := (HO4.out.lt k hk).2; omega)).trans (HK5.out.block k (HO4.out.lt k hk).2)
  have hz6 : w.heap.size + 3 ≤ w6.heap.size := by have := hI.size; omega
  generalize xs 0 = x2
  generalize xs 1 = x3
  generalize xs 2 = x4
  generalize xs 3 = x5
  generalize xs 5 = x6
  generalize xs 7 = x7
  clear hI hall hgb hqb HG5 HQ5 HB5 HM5 HK5 HO34 HO4 HM4 HB4 hzg hzq
  go_wp2_with fail
  have HA6 : Hid (w6.heap[w.heap.size]? = some (.cells m.cells 27 (0, 0)) ∧ w6.heap[w.heap.size + 1]? = some (.cells v.cells 62 (0, 0))) := ⟨(HB6.out.block _ (by omega)).trans HB.out.1, (HB6.out.block _ (by omega)).trans HB.out.2.1⟩
  obtain ⟨n, HN⟩ : ∃ n : MsgR, Hid (n = { m with t := tn, tag := tag }) := ⟨_, rfl⟩
  obtain ⟨u, HU⟩ : ∃ u : VoteR, Hid (u = { v with tag := tag }) := ⟨_, rfl⟩
  rw [← HN.out] at HG6
  rw [← HU.out] at HQ6
  have HN6 : Hid (MsgAt w6 n P ys) := by rw [HN.out]; exact { HM6.out with wf := ⟨HM6.out.wf.1, HM6.out.wf.2.1, ito, HM6.out.wf.2.2.2⟩ }
  obtain ⟨B, HBL⟩ : ∃ B, Hid (bodyL m P ys = B) := ⟨_, rfl⟩
  obtain ⟨C, HCL⟩ : ∃ C, Hid (vbody v = C) := ⟨_, rfl⟩
  have HBN : Hid (bodyL n P ys = B) := by show _ = _; rw [HN.out, ← HBL.out]; rfl
  have HCU : Hid (vbody u = C) := by show _ = _; rw [HU.out, ← HCL.out]; rfl
  have hvu : u.wf := by rw [HU.out]; exact hv
  rw [HBL.out] at HO36
  rw [HCL.out] at HO46
  have HRB : Hid (∀ W, Below w6.heap.size w6 W → Rowed W ao3 B c3 ∧ n3 = B.length) := fun W hW => by
    obtain ⟨a, b, c, e, hf⟩ := HO36.out.form
    cases e
    exact ⟨hf.out.2.2.below hW (Nat.le_refl _), hf.out.1⟩
  have HRC : Hid (∀ W, Below w6.heap.size w6 W → Rowed W ao4 C c4 ∧ n4 = C.length) := fun W hW => by
    obtain ⟨a, b, c, e, hf⟩ := HO46.out.form
    cases e
    exact ⟨hf.out.2.2.below hW (Nat.le_refl _), hf.out.1⟩
  have hBw6 : Below w.heap.size w w6 := HB1.out.trans (HB6.out.mono (by omega))
  refine wp_region_growG (by kernel_rfl) (by kernel_rfl) (fun xs => { tmps := (Value.agg m.cells :: Value.agg v.cells :: Value.int IntKind.i64 tn :: Value.agg (row IntKind.u8 32 tag) :: Value.pointer (some (⟨w.heap.size, 0, none⟩ : Addr)) :: Value.pointer (some (⟨w.heap.size + 1, 0, none⟩ : Addr)) :: undef :: Value.pointer (some (⟨w.heap.size + 1 + 1, 0, none⟩ : Addr)) :: xs 33 :: Value.slice ao3 n3 c3 :: Value.slice ao4 n4 c4 :: Value.pointer (some (⟨g, 0, none⟩ : Addr)) :: Value.pointer (some (⟨q, 0, none⟩ : Addr)) :: Value.agg m.cells :: Value.bool false :: Value.agg m.cells :: Value.slice ao3 n3 c3 :: Value.agg v.cells :: Value.slice ao4 n4 c4 :: x0 :: x1 :: x2 :: x3 :: x4 :: x5 :: x6 :: x7 :: xs 0 :: xs 1 :: xs 2 :: xs 3 :: xs 4 :: xs 5 :: xs 6 :: xs 7 :: xs 8 :: xs 9 :: xs 10 :: xs 11 :: xs 12 :: xs 13 :: xs 14 :: xs 15 :: xs 16 :: xs 17 :: xs 18 :: xs 19 :: xs 20 :: xs 21 :: xs 22 :: xs 23 :: xs 24 :: xs 25 :: xs 26 :: xs 27 :: xs 28 :: xs 29 :: xs 30 :: xs 31 :: xs 32 :: []).toArray, defers := [] })
    (bodiesSpec (w.heap.size + 3) m n v u ao3 ao4 n3 c3 n4 c4 B C) (fun | 33 => .bool false | _ => undef) (by repeat (first | exact trivial | refine ⟨fun _ _ => rfl, ?_⟩)) (by
      intro i y w w' h hs
      unfold bodiesSpec at *
      split at hs <;> first | exact hs | exact trivial | exact OwnB.below hs h | (obtain ⟨ao, n, cap, e1, e2, e3⟩ := hs; exact ⟨ao, n, cap, e1, e2, e3.below h (Nat.le_refl _)⟩)) ⟨?_, ?_, ?_, ?_, ?_, ?_, ?_, ?_, ?_, ?_, ?_, ?_, ?_, ?_, ?_, ?_, ?_, ?_, ?_, ?_, ?_, ?_, ?_, ?_, ?_, ?_, ?_, ?_, ?_, ?_, ?_, ?_, ?_, ?_, trivial⟩ ?_
  · intro xs W hB hp K hK
    rw [if_pos (wanted_none rfl _)]
    clear hp
    go_simp
    exact hK _ _ (Below.refl _ _) rfl
  · intro xs W hB hp K hK
    rw [if_pos (wanted_none rfl _)]
    have h0 : xs 0 = .slice ao3 n3 c3 := hp.1 rfl
    clear hp
    obtain ⟨rB, rn⟩ := HRB.out W hB
    have hcv := conv_str rB rn
    clear rB rn
    simp only [h0] at hK ⊢
    clear h0
    go_simp
    exact hK _ _ (Below.refl _ _) rfl
  · intro xs W hB hp K hK
    rw [if_pos (wanted_none rfl _)]
    clear hp
    exact wp_load_msg _ rfl w.heap.size m 27 (0, 0) rfl ((hB.block _ (by omega)).trans HA6.out.1) (hK _ _ (Below.refl _ _) rfl)
  · intro xs W hB hp K hK
    rw [if_pos (wanted_none rfl _)]
    have h2 : xs 2 = .agg m.cells := hp.1 rfl
    clear hp
    simp only [h2] at hK ⊢
    clear h2
    go_simp
    refine (rBody_any m P ys W (HM6.out.below hB (Nat.le_refl _))).mono ?_
    rintro e w' ⟨v', rfl, hO, hB'⟩
    rw [HBL.out] at hO
    exact hK _ _ hB' (hO.mono (Nat.le_trans hz6 hB.size))
  · intro xs W hB hp K hK
    rw [if_pos (wanted_none rfl _)]
    have h3 : OwnB W (w.heap.size + 3) (xs 3) B := hp.1 rfl
    clear hp
    obtain ⟨ao9, n9, c9, e9, HF9⟩ := h3.form
    simp only [e9] at hK ⊢
    have hcv := conv_str HF9.out.2.2 HF9.out.1
    clear h3 e9 HF9
    go_simp
    exact hK _ _ (Below.refl _ _) rfl
  · intro xs W hB hp K hK
    rw [if_pos (wanted_none rfl _)]
    have h1 : xs 1 = .string (strOf B) := hp.1 rfl
    have h4 : xs 4 = .string (strOf B) := hp.2.1 rfl
    clear hp
    simp only [h1, h4] at hK ⊢
    clear h1 h4
    go_simp
    exact hK _ _ (Below.refl _ _) (by first | rfl | (show Value.bool _ = _; simp; done) | (show Value.bool _ = _; simp; omega))
  · intro xs W hB hp K hK
    rw [if_pos (wanted_none rfl _)]
    have h5 : xs 5 = .bool true := hp.1 rfl
    clear hp
    simp only [h5] at hK ⊢
    clear h5
    go_simp
    exact hK _ _ (Below.refl _ _) rfl
  · intro xs W hB hp K hK
    have hgd : xs 6 = .bool true := hp.1 rfl
    rw [wanted_gK (b := true) rfl (by show (match some (xs 6) with | some (.bool b) => some b | _ => none) = some true; rw [hgd])]
    rw [if_pos (show (true == true) = true from rfl)]
    clear hgd
    clear hp
    go_simp
    exact hK _ _ (Below.refl _ _) rfl
  · intro xs W hB hp K hK
    have hgd : xs 6 = .bool true := hp.2.1 rfl
    rw [wanted_gK (b := true) rfl (by show (match some (xs 6) with | some (.bool b) => some b | _ => none) = some true; rw [hgd])]
    rw [if_pos (show (true == true) = true from rfl)]
    clear hgd
    have h7 : xs 7 = .slice ao4 n4 c4 := hp.1 rfl
    clear hp
    obtain ⟨rC, rn⟩ := HRC.out W hB
    have hcv := conv_str rC rn
    clear rC rn
    simp only [h7] at hK ⊢
    clear h7
    go_simp
    exact hK _ _ (Below.refl _ _) rfl
  · intro xs W hB hp K hK
    have hgd : xs 6 = .bool true := hp.1 rfl
    rw [wanted_gK (b := true) rfl (by show (match some (xs 6) with | some (.bool b) => some b | _ => none) = some true; rw [hgd])]
    rw [if_pos (show (true == true) = true from rfl)]
    clear hgd
    clear hp
    exact wp_load_voteB _ rfl (w.heap.size + 1) v 62 (0, 0) rfl ((hB.block _ (by omega)).trans HA6.out.2) (hK _ _ (Below.refl _ _) rfl)
  · intro xs W hB hp K hK
    have hgd : xs 6 = .bool true := hp.2.1 rfl
    rw [wanted_gK (b := true) rfl (by show (match some (xs 6) with | some (.bool b) => some b | _ => none) = some true; rw [hgd])]
    rw [if_pos (show (true == true) = true from rfl)]
    clear hgd
    have h9 : xs 9 = .agg v.cells := hp.1 rfl
    clear hp
    simp only [h9] at hK ⊢
    clear h9
    go_simp
    refine (rVoteBody_any v W hv).mono ?_
    rintro e w' ⟨ao8, c8, rfl, hR8, hc8, hB'⟩
    exact hK _ _ hB' ⟨ao8, _, c8, rfl, HCL.out ▸ rfl, HCL.out ▸ hR8⟩
  · intro xs W hB hp K hK
    have hgd : xs 6 = .bool true := hp.2.1 rfl
    rw [wanted_gK (b := true) rfl (by show (match some (xs 6) with | some (.bool b) => some b | _ => none) = some true; rw [hgd])]
    rw [if_pos (show (true == true) = true from rfl)]
    clear hgd
    have h10 : ∃ ao n cap, (xs 10) = .slice ao n cap ∧ n = C.length ∧ Rowed W ao C cap := hp.1 rfl
    clear hp
    obtain ⟨ao9, n9, c9, e9, hn9, hR9⟩ := h10
    simp only [e9] at hK ⊢
    have hcv := conv_str hR9 hn9
    clear e9 hR9 hn9
    go_simp
    exact hK _ _ (Below.refl _ _) rfl
  · intro xs W hB hp K hK
    have hgd : xs 6 = .bool true := hp.2.2.1 rfl
    rw [wanted_gK (b := true) rfl (by show (match some (xs 6) with | some (.bool b) => some b | _ => none) = some true; rw [hgd])]
    rw [if_pos (show (true == true) = true from rfl)]
    clear hgd
    have h8 : xs 8 = .string (strOf C) := hp.1 rfl
    have h11 : xs 11 = .string (strOf C) := hp.2.1 rfl
    clear hp
    simp only [h8, h11] at hK ⊢
    clear h8 h11
    go_simp
    exact hK _ _ (Below.refl _ _) (by first | rfl | (show Value.bool _ = _; simp; done) | (show Value.bool _ = _; simp; omega))
  · intro xs W hB hp K hK
    rw [if_pos (wanted_none rfl _)]
    have h6 : xs 6 = .bool true := hp.1 rfl
    have h12 : xs 12 = .bool true := hp.2.1 rfl
    clear hp
    simp only [h6, h12] at hK ⊢
    clear h6 h12
    go_simp
    exact hK _ _ (Below.refl _ _) rfl
  · intro xs W hB hp K hK
    rw [if_pos (wanted_none rfl _)]
    have h13 : xs 13 = .bool true := hp.1 rfl
    clear hp
    simp only [h13] at hK ⊢
    clear h13
    go_simp
    exact hK _ _ (Below.refl _ _) rfl
  · intro xs W hB hp K hK
    have hgd : xs 14 = .bool true := hp.1 rfl
    rw [wanted_gK (b := true) rfl (by show (match some (xs 14) with | some (.bool b) => some b | _ => none) = some true; rw [hgd])]
    rw [if_pos (show (true == true) = true from rfl)]
    clear hgd
    clear hp
    exact wp_load_msg _ rfl g n 27 (0, 0) rfl ((hB.block _ (lt_blk HG6.out)).trans HG6.out) (hK _ _ (Below.refl _ _) rfl)
  · intro xs W hB hp K hK
    have hgd : xs 14 = .bool true := hp.2.1 rfl
    rw [wanted_gK (b := true) rfl (by show (match some (xs 14) with | some (.bool b) => some b | _ => none) = some true; rw [hgd])]
    rw [if_pos (show (true == true) = true from rfl)]
    clear hgd
    have h15 : xs 15 = .agg n.cells := hp.1 rfl
    clear hp
    simp only [h15] at hK ⊢
    clear h15
    go_simp
    refine (body_any n P ys W (HN6.out.below hB (Nat.le_refl _))).mono ?_
    rintro e w' ⟨v', rfl, hO, hB'⟩
    rw [HBN.out] at hO
    exact hK _ _ hB' (hO.mono (Nat.le_trans hz6 hB.size))
  · intro xs W hB hp K hK
    have hgd : xs 14 = .bool true := hp.2.1 rfl
    rw [wanted_gK (b := true) rfl (by show (match some (xs 14) with | some (.bool b) => some b | _ => none) = some true; rw [hgd])]
    rw [if_pos (show (true == true) = true from rfl)]
    clear hgd
    have h16 : OwnB W (w.heap.size + 3) (xs 16) B := hp.1 rfl
    clear hp
    obtain ⟨ao9, n9, c9, e9, HF9⟩ := h16.form
    simp only [e9] at hK ⊢
    have hcv := conv_str HF9.out.2.2 HF9.out.1
    clear h16 e9 HF9
    go_simp
    exact hK _ _ (Below.refl _ _) rfl
  · intro xs W hB hp K hK
    have hgd : xs 14 = .bool true := hp.1 rfl
    rw [wanted_gK (b := true) rfl (by show (match some (xs 14) with | some (.bool b) => some b | _ => none) = some true; rw [hgd])]
    rw [if_pos (show (true == true) = true from rfl)]
    clear hgd
    clear hp
    go_simp
    exact hK _ _ (Below.refl _ _) rfl
  · intro xs W hB hp K hK
    have hgd : xs 14 = .bool true := hp.2.1 rfl
    rw [wanted_gK (b := true) rfl (by show (match some (xs 14) with | some (.bool b) => some b | _ => none) = some true; rw [hgd])]
    rw [if_pos (show (true == true) = true from rfl)]
    clear hgd
    have h18 : xs 18 = .slice ao3 n3 c3 := hp.1 rfl
    clear hp
    obtain ⟨rB, rn⟩ := HRB.out W hB
    have hcv := conv_str rB rn
    clear rB rn
    simp only [h18] at hK ⊢
    clear h18
    go_simp
    exact hK _ _ (Below.refl _ _) rfl
  · intro xs W hB hp K hK
    have hgd : xs 14 = .bool true := hp.2.2.1 rfl
    rw [wanted_gK (b := true) rfl (by show (match some (xs 14) with | some (.bool b) => some b | _ => none) = some true; rw [hgd])]
    rw [if_pos (show (true == true) = true from rfl)]
    clear hgd
    have h17 : xs 17 = .string (strOf B) := hp.1 rfl
    have h19 : xs 19 = .string (strOf B) := hp.2.1 rfl
    clear hp
    simp only [h17, h19] at hK ⊢
    clear h17 h19
    go_simp
    exact hK _ _ (Below.refl _ _) (by first | rfl | (show Value.bool _ = _; simp; done) | (show Value.bool _ = _; simp; omega))
  · intro xs W hB hp K hK
    rw [if_pos (wanted_none rfl _)]
    have h14 : xs 14 = .bool true := hp.1 rfl
    have h20 : xs 20 = .bool true := hp.2.1 rfl
    clear hp
    simp only [h14, h20] at hK ⊢
    clear h14 h20
    go_simp
    exact hK _ _ (Below.refl _ _) rfl
  · intro xs W hB hp K hK
    rw [if_pos (wanted_none rfl _)]
    have h21 : xs 21 = .bool true := hp.1 rfl
    clear hp
    simp only [h21] at hK ⊢
    clear h21
    go_simp
    exact hK _ _ (Below.refl _ _) rfl
  · intro xs W hB hp K hK
    have hgd : xs 22 = .bool true := hp.1 rfl
    rw [wanted_gK (b := true) rfl (by show (match some (xs 22) with | some (.bool b) => some b | _ => none) = some true; rw [hgd])]
    rw [if_pos (show (true == true) = true from rfl)]
    clear hgd
    clear hp
    exact wp_load_voteB _ rfl q u 62 (0, 0) rfl ((hB.block _ (lt_blk HQ6.out)).trans HQ6.out) (hK _ _ (Below.refl _ _) rfl)
  · intro xs W hB hp K hK
    have hgd : xs 22 = .bool true := hp.2.1 rfl
    rw [wanted_gK (b := true) rfl (by show (match some (xs 22) with | some (.bool b) => some b | _ => none) = some true; rw [hgd])]
    rw [if_pos (show (true == true) = true from rfl)]
    clear hgd
    have h23 : xs 23 = .agg u.cells := hp.1 rfl
    clear hp
    simp only [h23] at hK ⊢
    clear h23
    go_simp
    refine (voteBody_any u W hvu).mono ?_
    rintro e w' ⟨v', rfl, hO, hB'⟩
    rw [HCU.out] at hO
    obtain ⟨ao9, n9, c9, rfl, HF9⟩ := hO.form
    exact hK _ _ hB' ⟨ao9, n9, c9, rfl, HF9.out.1, HF9.out.2.2⟩
  · intro xs W hB hp K hK
    have hgd : xs 22 = .bool true := hp.2.1 rfl
    rw [wanted_gK (b := true) rfl (by show (match some (xs 22) with | some (.bool b) => some b | _ => none) = some true; rw [hgd])]
    rw [if_pos (show (true == true) = true from rfl)]
    clear hgd
    have h24 : ∃ ao n cap, (xs 24) = .slice ao n cap ∧ n = C.length ∧ Rowed W ao C cap := hp.1 rfl
    clear hp
    obtain ⟨ao9, n9, c9, e9, hn9, hR9⟩ := h24
    simp only [e9] at hK ⊢
    have hcv := conv_str hR9 hn9
    clear e9 hR9 hn9
    go_simp
    exact hK _ _ (Below.refl _ _) rfl
  · intro xs W hB hp K hK
    have hgd : xs 22 = .bool true := hp.1 rfl
    rw [wanted_gK (b := true) rfl (by show (match some (xs 22) with | some (.bool b) => some b | _ => none) = some true; rw [hgd])]
    rw [if_pos (show (true == true) = true from rfl)]
    clear hgd
    clear hp
    go_simp
    exact hK _ _ (Below.refl _ _) rfl
  · intro xs W hB hp K hK
    have hgd : xs 22 = .bool true := hp.2.1 rfl
    rw [wanted_gK (b := true) rfl (by show (match some (xs 22) with | some (.bool b) => some b | _ => none) = some true; rw [hgd])]
    rw [if_pos (show (true == true) = true from rfl)]
    clear hgd
    have h26 : xs 26 = .slice ao4 n4 c4 := hp.1 rfl
    clear hp
    obtain ⟨rC, rn⟩ := HRC.out W hB
    have hcv := conv_str rC rn
    clear rC rn
    simp only [h26] at hK ⊢
    clear h26
    go_simp
    exact hK _ _ (Below.refl _ _) rfl
  · intro xs W hB hp K hK
    have hgd : xs 22 = .bool true := hp.2.2.1 rfl
    rw [wanted_gK (b := true) rfl (by show (match some (xs 22) with | some (.bool b) => some b | _ => none) = some true; rw [hgd])]
    rw [if_pos (show (true == true) = true from rfl)]
    clear hgd
    have h25 : xs 25 = .string (strOf C) := hp.1 rfl
    have h27 : xs 27 = .string (strOf C) := hp.2.1 rfl
    clear hp
    simp only [h25, h27] at hK ⊢
    clear h25 h27
    go_simp
    exact hK _ _ (Below.refl _ _) (by first | rfl | (show Value.bool _ = _; simp; done) | (show Value.bool _ = _; simp; omega))
  · intro xs W hB hp K hK
    rw [if_pos (wanted_none rfl _)]
    have h22 : xs 22 = .bool true := hp.1 rfl
    have h28 : xs 28 = .bool true := hp.2.1 rfl
    clear hp
    simp only [h22, h28] at hK ⊢
    clear h22 h28
    go_simp
    exact hK _ _ (Below.refl _ _) rfl
  · intro xs W hB hp K hK
    rw [if_pos (wanted_none rfl _)]
    have h29 : xs 29 = .bool true := hp.1 rfl
    clear hp
    simp only [h29] at hK ⊢
    clear h29
    go_simp
    exact hK _ _ (Below.refl _ _) rfl
  · intro xs W hB hp K hK
    have hgd : xs 30 = .bool true := hp.1 rfl
    rw [wanted_gK (b := true) rfl (by show (match some (xs 30) with | some (.bool b) => some b | _ => none) = some true; rw [hgd])]
    rw [if_pos (show (true == true) = true from rfl)]
    clear hgd
    clear hp
    go_simp
    refine (known5_any W).mono ?_
    rintro e w' ⟨rfl, hB'⟩
    exact hK _ _ hB' rfl
  · intro xs W hB hp K hK
    rw [if_pos (wanted_none rfl _)]
    have h30 : xs 30 = .bool true := hp.1 rfl
    have h31 : xs 31 = .bool true := hp.2.1 rfl
    clear hp
    simp only [h30, h31] at hK ⊢
    clear h30 h31
    go_simp
    exact hK _ _ (Below.refl _ _) rfl
  · intro xs W hB hp K hK
    rw [if_pos (wanted_none rfl _)]
    have h32 : xs 32 = .bool true := hp.1 rfl
    clear hp
    simp only [h32] at hK ⊢
    clear h32
    go_simp
    exact hK _ _ (Below.refl _ _) rfl
  · intro xs W hB hs
    have h33 : xs 33 = .bool true := hs 33 (by simp)
    simp only [h33]
    go_wp2_with fail
    go_ret
    exact ⟨rfl, hBw6.trans (hB.mono hBw6.size)⟩
end Go.Proofs.Ytkjocpadmlobgaa
