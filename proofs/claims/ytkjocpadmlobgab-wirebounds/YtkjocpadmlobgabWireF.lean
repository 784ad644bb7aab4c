/- WireBounds' walk. For every four numbers. -/
import Derived.Test.YtkjocpadmlobgabWireE
import Derived.Great.BuildSlice
set_option linter.unusedSimpArgs false
namespace Go.Proofs.Ytkjocpadmlobgab
open Go.RowKit Go.Dig Go.Inv Go.Oct

def msgZ (k f s v : Int) : MsgR := ⟨k, f, 0, s, v, none, 0, 0, none, 0, 0, fun _ => 0⟩
theorem msgZ_at (w : World) (k f s v : Int) (ik : inI k) (if_ : inI f) (is : inI s) (iv : inI v) : MsgAt w (msgZ k f s v) [] [] :=
  ⟨rfl, .inl ⟨rfl, rfl, rfl⟩, rfl, (fun h => absurd rfl h), ⟨ik, if_, (inI_lit (by decide) (by decide) : inI 0), is, iv⟩, (fun _ h => by cases h), by simp, by simp⟩
def voteZ (k f s v : Int) : VoteR := ⟨k, s, v, fun _ => 0, f, fun _ => 0⟩
def msgV (b : Nat) : MsgR := ⟨1, 0, 0, 0, 0, none, 0, 0, some ⟨b, 0, none⟩, 1, 1, fun _ => 0⟩
theorem built_z (k f s v : Int) : Try.prog.built 35 [(0, .int .i64 k), (1, .int .i64 f), (3, .int .i64 s), (4, .int .i64 v)] = some (msgZ k f s v).cells := by kernel_rfl
theorem built_v (b : Nat) : Try.prog.built 35 [(0, .int .i64 1), (6, .slice (some ⟨b, 0, none⟩) 1 1)] = some (msgV b).cells := by kernel_rfl
theorem built_y (k f s v : Int) : Try.prog.built 38 [(0, .int .i64 k), (4, .int .i64 f), (1, .int .i64 s), (2, .int .i64 v)] = some (voteZ k f s v).cells := by kernel_rfl
def okB (k f s v : Int) : Bool := inB k 1 6 && inB f 0 9 && inB s 0 63 && inB v 0 8
theorem msgB_z (k f s v : Int) : msgB (msgZ k f s v) [] = okB k f s v := by
  simp [msgB, okB, msgZ, roundB, inB]
  grind
theorem MsgR.all (x : MsgR) : x.cells.all (·.oneCell') = true := by
  unfold MsgR.cells
  rw [Array.all_append, row_all]
  simp
  exact ⟨rfl, rfl, rfl, rfl, rfl, rfl, rfl⟩
theorem zero_msg : (Try.prog.info? 35).map (·.zero) = some (some (.agg (msgZ 0 0 0 0).cells)) := by kernel_rfl
section
variable {ops : Array Oper} {rest : List Oper} {o : Oper} {a : Act} {w : World} {Q : Exit → Act → World → Prop}
theorem wpList_alloc_msg (hgd : o.guard = none) (ho : o.op = .alloc 35) (h : wpList Try.prog ops Q rest (a.put o.dst (.pointer (some ⟨w.heap.size, 0, none⟩))) (w.alloc (.cells (msgZ 0 0 0 0).cells 35))) :
    wpList Try.prog ops Q (o :: rest) a w := wpList_alloc_row hgd 35 ho _ zero_msg h
theorem wpList_store_msg (hgd : o.guard = none) (x y : Operand) (ho : o.op = .store 35 x y) (w0 : World) (z : MsgR) (hx : a.eval x = .pointer (some ⟨w0.heap.size, 0, none⟩)) (hy : a.eval y = .agg z.cells) (hw : w = w0.alloc (.cells (msgZ 0 0 0 0).cells 35))
    (h : wpList Try.prog ops Q rest (a.put o.dst undef) (w0.alloc (.cells z.cells 35))) : wpList Try.prog ops Q (o :: rest) a w := by
  subst hw
  refine wpList_store_blk hgd 35 x y ho w0.heap.size z.cells hx hy 35 _ (alloc_blk _ _) (msg_info z) (by rw [MsgR.size, MsgR.size]) z.all ?_
  rw [setRow_new]; exact h
end
theorem vote_parts : (Try.prog.info? 38).map (fun i => (i.zero, i.size)) = some (some (.agg VoteR.zero.cells), 68) := by kernel_rfl
/-- a row of one vote is laid -/
theorem wpList_row_vote {ops : Array Oper} {rest : List Oper} {o : Oper} {a : Act} {w : World} {Q : Exit → Act → World → Prop} (hgd : o.guard = none) (x : Operand) (ho : o.op = .buildSlice 31 1 #[(0, x)]) (y : VoteR) (hx : a.eval x = .agg y.cells)
    (h : wpList Try.prog ops Q rest (a.put o.dst (.slice (some ⟨w.heap.size, 0, none⟩) 1 1)) (w.alloc (.cells y.cells 38))) : wpList Try.prog ops Q (o :: rest) a w := by
  have hp := vote_parts
  cases hie : Try.prog.info? 38 with
  | none => rw [hie] at hp; cases hp
  | some ie =>
    rw [hie] at hp
    simp at hp
    obtain ⟨hz, hs⟩ := hp
    refine wpList_buildSlice hgd 31 38 1 _ ho y.cells ie _ (by kernel_rfl) hie hz (by rw [hs]; decide) (by rw [hs]; decide) ?_ h
    have := Great.fill_whole (s := 68) (by decide) [Value.agg y.cells] ((Array.range (1 * ie.size)).map ((Value.agg VoteR.zero.cells).cells[· % (Value.agg VoteR.zero.cells).cells.size]!)) (fun v hv => by
      simp at hv; subst hv; exact y.size) (by simp [hs])
    simp [hx, hs] at this ⊢
    exact this
theorem msgB_v (b : Nat) (k f s v : Int) : msgB (msgV b) [voteZ k f s v] = (okB k f s v && decide (k ≤ 3)) := by
  have h : msgB (msgV b) [voteZ k f s v] = voteB (voteZ k f s v) := by simp [msgB, msgV, roundB, inB]
  rw [h]
  simp [voteB, okB, voteZ, roundB, inB]
  grind
theorem msgV_at (w : World) (k f s v : Int) (ik : inI k) (if_ : inI f) (is : inI s) (iv : inI v) : MsgAt (w.alloc (.cells (voteZ k f s v).cells 38)) (msgV w.heap.size) [] [voteZ k f s v] :=
  ⟨rfl, .inl ⟨rfl, rfl, rfl⟩, rfl, (fun _ => ⟨w.heap.size, 0, rfl, fun j hj => by
      obtain rfl : j = 0 := by simp at hj; exact hj
      exact voteAt_blk (alloc_blk _ _)⟩),
   ⟨inI_lit (n := 1) (by decide) (by decide), inI_lit (n := 0) (by decide) (by decide), inI_lit (n := 0) (by decide) (by decide), inI_lit (n := 0) (by decide) (by decide), inI_lit (n := 0) (by decide) (by decide)⟩,
   (fun y h => by simp at h; subst h; exact ⟨ik, is, iv, if_⟩), by simp, by simp⟩
set_option maxRecDepth 10000 in
set_option maxHeartbeats 8000000 in
theorem wireBounds_any (k f s v : Int) (w : World) (ik : inI k) (if_ : inI f) (is : inI s) (iv : inI v) : Calls Try.prog 4 #[.int .i64 k, .int .i64 f, .int .i64 s, .int .i64 v] w fun x w' => x = .returned (.bool true) ∧ Below w.heap.size w w' := by
  have HB0 : Hid ((w.alloc (.cells (msgZ k f s v).cells 35)).heap[w.heap.size]? = some (.cells (msgZ k f s v).cells 35 (0, 0))) := alloc_blk _ _
  have HBw := below_alloc w (.cells (msgZ k f s v).cells 35)
  cases hok : okB k f s v
  · have HOK : Hid (okB k f s v = false) := hok
    clear hok
    go_enter Try.func4, Try.ntmps4
    go_wp2_with (first | (refine wpList_build_to rfl 35 _ rfl (msgZ k f s v).cells ?_ ?_; kernel_rfl) | refine wpList_alloc_msg rfl rfl ?_ | (refine wpList_store_msg rfl _ _ rfl w (msgZ k f s v) ?_ ?_ ?_ ?_; rfl; rfl; rfl) | (refine wpList_load_msg rfl _ rfl w.heap.size (msgZ k f s v) 35 (0, 0) ?_ ?_ ?_; rfl; exact HB0.out))
    all_goals
      try (exfalso; have h9 := HOK.out; simp [okB, inB] at h9; omega)
    all_goals
      refine (encodeMsg_any _ _ _ _ (msgZ_at _ k f s v ik if_ is iv)).mono ?_
      rintro x w1 ⟨v1, rfl, hO1, hB1⟩
      simp only [msgB_z, HOK.out, if_true, Bool.false_eq_true, if_false] at hO1 ⊢
      obtain ⟨ao1, n1, c1, rfl, -⟩ := hO1.form
      have hB2 : Below w.heap.size w w1 := HBw.trans (hB1.mono HBw.size)
      have hB3 : Below w.heap.size w (w1.alloc (.cells (voteZ k f s v).cells 38)) := hB2.alloc hB2.size _
      have HM : Hid (MsgAt (w1.alloc (.cells (voteZ k f s v).cells 38)) (msgV w1.heap.size) [] [voteZ k f s v]) := msgV_at w1 k f s v ik if_ is iv
      clear hO1 hB1 HB0 HBw hB2
      go_wp2_with (first | (refine wpList_build_to rfl 38 _ rfl (voteZ k f s v).cells ?_ ?_; kernel_rfl) | (refine wpList_row_vote rfl _ rfl (voteZ k f s v) ?_ ?_; rfl) | (refine wpList_build_to rfl 35 _ rfl (msgV w1.heap.size).cells ?_ ?_; kernel_rfl))
      refine (encodeMsg_any _ _ _ _ HM.out).mono ?_
      rintro x w2 ⟨v2, rfl, hO2, hB4⟩
      simp only [msgB_v, HOK.out, Bool.true_and, Bool.false_and, Bool.false_eq_true, if_false] at hO2 ⊢
      obtain ⟨ao2, n2, c2, rfl, -⟩ := hO2.form
      have hB5 : Below w.heap.size w w2 := hB3.trans (hB4.mono hB3.size)
      clear hO2 hB4 hB3 HM
      go_wp2_with (go_at_call 9; refine (known5_any _).mono ?_; rintro e w3 ⟨rfl, hB6⟩; have hB7 := hB5.trans (hB6.mono hB5.size); clear hB6)
      all_goals first | (go_ret; exact ⟨rfl, hB7⟩) | (exfalso; have h9 := HOK.out; simp [okB, inB] at h9; omega)
  · have h1 : 1 ≤ k ∧ k ≤ 6 ∧ 0 ≤ f ∧ f < 10 ∧ 0 ≤ s ∧ s < 64 ∧ 0 ≤ v ∧ v ≤ 8 := by simp [okB, inB] at hok; omega
    obtain ⟨a1, a2, a3, a4, a5, a6, a7, a8⟩ := h1
    have HOK : Hid (okB k f s v = true) := hok
    clear hok
    go_enter Try.func4, Try.ntmps4
    go_wp2_with (first | (refine wpList_build_to rfl 35 _ rfl (msgZ k f s v).cells ?_ ?_; kernel_rfl) | refine wpList_alloc_msg rfl rfl ?_ | (refine wpList_store_msg rfl _ _ rfl w (msgZ k f s v) ?_ ?_ ?_ ?_; rfl; rfl; rfl) | (refine wpList_load_msg rfl _ rfl w.heap.size (msgZ k f s v) 35 (0, 0) ?_ ?_ ?_; rfl; exact HB0.out))
    refine (encodeMsg_any _ _ _ _ (msgZ_at _ k f s v ik if_ is iv)).mono ?_
    rintro x w1 ⟨v1, rfl, hO1, hB1⟩
    simp only [msgB_z, HOK.out, if_true, Bool.false_eq_true, if_false] at hO1 ⊢
    obtain ⟨ao1, n1, c1, rfl, -⟩ := hO1.form
    have hB2 : Below w.heap.size w w1 := HBw.trans (hB1.mono HBw.size)
    have hB3 : Below w.heap.size w (w1.alloc (.cells (voteZ k f s v).cells 38)) := hB2.alloc hB2.size _
    have HM : Hid (MsgAt (w1.alloc (.cells (voteZ k f s v).cells 38)) (msgV w1.heap.size) [] [voteZ k f s v]) := msgV_at w1 k f s v ik if_ is iv
    clear hO1 hB1 HB0 HBw hB2
    go_wp2_with (first | (refine wpList_build_to rfl 38 _ rfl (voteZ k f s v).cells ?_ ?_; kernel_rfl) | (refine wpList_row_vote rfl _ rfl (voteZ k f s v) ?_ ?_; rfl) | (refine wpList_build_to rfl 35 _ rfl (msgV w1.heap.size).cells ?_ ?_; kernel_rfl))
    refine (encodeMsg_any _ _ _ _ HM.out).mono ?_
    rintro x w2 ⟨v2, rfl, hO2, hB4⟩
    simp only [msgB_v, HOK.out, Bool.true_and, Bool.false_and, Bool.false_eq_true, if_false] at hO2 ⊢
    obtain ⟨ao2, n2, c2, rfl, -⟩ := hO2.form
    have hB5 : Below w.heap.size w w2 := hB3.trans (hB4.mono hB3.size)
    clear hO2 hB4 hB3 HM
    by_cases h3 : k ≤ 3
    · simp only [h3, decide_true, if_true]
      go_wp2_with (go_at_call 9; refine (known5_any _).mono ?_; rintro e w3 ⟨rfl, hB6⟩; have hB7 := hB5.trans (hB6.mono hB5.size); clear hB6)
      go_ret
      exact ⟨rfl, hB7⟩
    · simp only [h3, decide_false, Bool.false_eq_true, if_false]
      go_wp2_with (go_at_call 9; refine (known5_any _).mono ?_; rintro e w3 ⟨rfl, hB6⟩; have hB7 := hB5.trans (hB6.mono hB5.size); clear hB6)
      go_ret
      exact ⟨rfl, hB7⟩
end Go.Proofs.Ytkjocpadmlobgab
