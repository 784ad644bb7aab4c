/- wire: which votes and messages may be; messages as bytes. -/
import Derived.Test.YtkjocpadmlobgaaWireC
namespace Go.Proofs.Ytkjocpadmlobgaa
open Go.RowKit Go.Dig Go.Inv Go.Oct

def voteB (x : VoteR) : Bool := inB x.k 1 3 && roundB x.s x.v && inB x.f 0 9
set_option maxRecDepth 10000 in
set_option maxHeartbeats 1000000 in
theorem voteMayBe_any (x : VoteR) (w : World) : Calls Try.prog 68 #[.agg x.cells] w fun e w' => e = .returned (.bool (voteB x)) ∧ Below w.heap.size w w' := by
  have hb0 : (w.alloc (.cells x.cells 62)).heap[w.heap.size]? = some (.cells x.cells 62 (0, 0)) := alloc_blk _ _
  have hc0 : (w.alloc (.cells x.cells 62)).cell? ⟨w.heap.size, 0, none⟩ = some (.int .i64 x.k) := (cell_blk hb0 _).trans x.at0
  have hc1 : (w.alloc (.cells x.cells 62)).cell? ⟨w.heap.size, 1, none⟩ = some (.int .i64 x.s) := (cell_blk hb0 _).trans x.at1
  have hc2 : (w.alloc (.cells x.cells 62)).cell? ⟨w.heap.size, 2, none⟩ = some (.int .i64 x.v) := (cell_blk hb0 _).trans x.at2
  have hc3 : (w.alloc (.cells x.cells 62)).cell? ⟨w.heap.size, 35, none⟩ = some (.int .i64 x.f) := (cell_blk hb0 _).trans x.at35
  have HB := below_alloc w (.cells x.cells 62)
  clear hb0
  go_enter Try.func68, Try.ntmps68
  go_wp2_with (first | (refine wpList_box_row rfl 62 _ rfl _ ?_ ?_; rfl) | (go_at_call 65; refine (within_any _ _ _ _).mono ?_; rintro e w' ⟨rfl, rfl⟩) | (go_at_call 67; refine (roundMayBe_any _ _ _).mono ?_; rintro e w' ⟨rfl, rfl⟩) | (go_at_call 66; refine (nodeMayBe_any _ _).mono ?_; rintro e w' ⟨rfl, rfl⟩))
  all_goals
    go_ret
    exact ⟨by simp [voteB, *], HB⟩

/-- a message as it is handed about: its numbers, where its rows lie, its tag -/
structure MsgR where
  k : Int
  f : Int
  t : Int
  s : Int
  v : Int
  va : Option Addr
  vl : Nat
  vc : Nat
  ya : Option Addr
  yl : Nat
  yc : Nat
  tag : Nat → Int
def MsgR.cells (m : MsgR) : Array Value := #[.int .i64 m.k, .int .i64 m.f, .int .i64 m.t, .int .i64 m.s, .int .i64 m.v, .slice m.va m.vl m.vc, .slice m.ya m.yl m.yc] ++ row .u8 32 m.tag
theorem MsgR.size (m : MsgR) : m.cells.size = 39 := by simp [MsgR.cells, row_size]
theorem MsgR.at0 (m : MsgR) : m.cells[0]? = some (.int .i64 m.k) := by simp [MsgR.cells, row_size]
theorem MsgR.at1 (m : MsgR) : m.cells[1]? = some (.int .i64 m.f) := by simp [MsgR.cells, row_size]
theorem MsgR.at2 (m : MsgR) : m.cells[2]? = some (.int .i64 m.t) := by simp [MsgR.cells, row_size]
theorem MsgR.at3 (m : MsgR) : m.cells[3]? = some (.int .i64 m.s) := by simp [MsgR.cells, row_size]
theorem MsgR.at4 (m : MsgR) : m.cells[4]? = some (.int .i64 m.v) := by simp [MsgR.cells, row_size]
theorem MsgR.at5 (m : MsgR) : m.cells[5]? = some (.slice m.va m.vl m.vc) := by simp [MsgR.cells, row_size]
theorem MsgR.at6 (m : MsgR) : m.cells[6]? = some (.slice m.ya m.yl m.yc) := by simp [MsgR.cells, row_size]
theorem MsgR.atTag (m : MsgR) {j : Nat} (h : j < 32) : m.cells[7 + j]? = some (.int .u8 (m.tag j)) := by
  unfold MsgR.cells
  rw [Array.getElem?_append_right (by simp)]
  simp [row_get h]
theorem not_false_of {b : Bool} (h : (!b) = false) : b = true := by simpa using h
/-- what lies behind it -/
structure MsgAt (w : World) (m : MsgR) (P : List Int) (ys : List VoteR) : Prop where
  vl : m.vl = P.length
  val : Rowed w m.va P m.vc
  yl : m.yl = ys.length
  vot : VotesAt w m.ya ys
  wf : inI m.k ∧ inI m.f ∧ inI m.t ∧ inI m.s ∧ inI m.v
  ywf : ∀ y ∈ ys, y.wf
  vb : P.length < 137438953472
  yb : ys.length < 1073741824
theorem VotesAt.below {w w' : World} {B : Nat} {ao : Option Addr} {ys : List VoteR} (h : VotesAt w ao ys) (hB : Below B w w') (hl : w.heap.size ≤ B) : VotesAt w' ao ys := fun hp => by
  obtain ⟨b, o, e, hc⟩ := h hp
  refine ⟨b, o, e, fun j hj i hi => ?_⟩
  have h0 := hc j hj 0 (by omega)
  rw [VoteR.at0] at h0
  have hb := World.block_lt_of_cell? w _ h0
  exact (hc j hj).same (hB.block b (Nat.lt_of_lt_of_le hb hl)) i hi
theorem MsgAt.below {w w' : World} {B : Nat} {m : MsgR} {P : List Int} {ys : List VoteR} (h : MsgAt w m P ys) (hB : Below B w w') (hl : w.heap.size ≤ B) : MsgAt w' m P ys := { h with val := h.val.below hB hl, vot := h.vot.below hB hl }
def msgB (m : MsgR) (ys : List VoteR) : Bool := inB m.k 1 6 && inB m.f 0 9 && inB m.t 0 9 && roundB m.s m.v && decide (m.vl ≤ 200) && decide (m.yl ≤ 10) && ys.all voteB
set_option maxRecDepth 10000 in
set_option maxHeartbeats 2000000 in
theorem msgMayBe_any (m : MsgR) (P : List Int) (ys : List VoteR) (w : World) (h : MsgAt w m P ys) : Calls Try.prog 33 #[.agg m.cells] w fun e w' => e = .returned (.bool (msgB m ys)) ∧ Below w.heap.size w w' := by
  have hb0 : (w.alloc (.cells m.cells 27)).heap[w.heap.size]? = some (.cells m.cells 27 (0, 0)) := alloc_blk _ _
  have hc0 : (w.alloc (.cells m.cells 27)).cell? ⟨w.heap.size, 0, none⟩ = some (.int .i64 m.k) := (cell_blk hb0 _).trans m.at0
  have hc1 : (w.alloc (.cells m.cells 27)).cell? ⟨w.heap.size, 1, none⟩ = some (.int .i64 m.f) := (cell_blk hb0 _).trans m.at1
  have hc2 : (w.alloc (.cells m.cells 27)).cell? ⟨w.heap.size, 2, none⟩ = some (.int .i64 m.t) := (cell_blk hb0 _).trans m.at2
  have hc3 : (w.alloc (.cells m.cells 27)).cell? ⟨w.heap.size, 3, none⟩ = some (.int .i64 m.s) := (cell_blk hb0 _).trans m.at3
  have hc4 : (w.alloc (.cells m.cells 27)).cell? ⟨w.heap.size, 4, none⟩ = some (.int .i64 m.v) := (cell_blk hb0 _).trans m.at4
  have hc5 : (w.alloc (.cells m.cells 27)).cell? ⟨w.heap.size, 5, none⟩ = some (.slice m.va m.vl m.vc) := (cell_blk hb0 _).trans m.at5
  have hc6 : (w.alloc (.cells m.cells 27)).cell? ⟨w.heap.size, 6, none⟩ = some (.slice m.ya m.yl m.yc) := (cell_blk hb0 _).trans m.at6
  have HB := below_alloc w (.cells m.cells 27)
  have HH : Hid (MsgAt (w.alloc (.cells m.cells 27)) m P ys) := h.below HB (Nat.le_refl _)
  have hvb : m.vl < 137438953472 := by rw [h.vl]; exact h.vb
  have hyb : m.yl < 1073741824 := by rw [h.yl]; exact h.yb
  clear hb0 h
  go_enter Try.func33, Try.ntmps33
  go_wp2_with (first | (refine wpList_box_row rfl 27 _ rfl _ ?_ ?_; rfl) | (go_at_call 65; refine (within_any _ _ _ _).mono ?_; rintro e w' ⟨rfl, rfl⟩) | (go_at_call 67; refine (roundMayBe_any _ _ _).mono ?_; rintro e w' ⟨rfl, rfl⟩) | (go_at_call 66; refine (nodeMayBe_any _ _).mono ?_; rintro e w' ⟨rfl, rfl⟩))
  all_goals try (go_ret; refine ⟨congrArg (fun b => Ending.returned (Value.bool b)) (Eq.symm ?_), HB⟩; first | (simp [msgB, *]; done) | (simp [msgB, *]; intros; simp_all; done) | (simp [msgB, *]; intros; omega))
  have HT : Hid (inB m.k 1 6 = true ∧ inB m.f 0 9 = true ∧ inB m.t 0 9 = true ∧ roundB m.s m.v = true ∧ m.vl ≤ 200 ∧ m.yl ≤ 10) := ⟨by assumption, by assumption, by assumption, not_false_of (by assumption), by omega, by omega⟩
  clear hc0 hc1 hc2 hc3 hc4 hc5 hc6
  have hsz : w.heap.size ≤ (w.alloc (.cells m.cells 27)).heap.size := by simp
  generalize w.alloc (.cells m.cells 27) = w0 at *
  have HN : Hid (m.yl = ys.length) := HH.out.yl
  have HS : Hid (∀ j, (hj : j < ys.length) → ∃ b o, m.ya = some ⟨b, o, none⟩ ∧ b < w0.heap.size ∧ VoteAt w0 b (o + j * 68) ys[j]) := fun j hj => by
    obtain ⟨b, o, e, hc⟩ := HH.out.vot (fun e => by rw [e] at hj; cases hj)
    exact ⟨b, o, e, World.block_lt_of_cell? w0 _ ((hc j hj 0 (by omega)).trans (VoteR.at0 _)), hc j hj⟩
  obtain ⟨n, hn⟩ : ∃ n, n = m.yl := ⟨_, rfl⟩
  obtain ⟨ya, hya⟩ : ∃ ya, ya = m.ya := ⟨_, rfl⟩
  rw [← hn] at HN hyb
  rw [← hya] at HS
  simp only [← hn, ← hya]
  clear hn hya
  go_loopw [42] (fun i wr => ∃ k : Nat, k ≤ n ∧ i = .int .i64 (k : Int) ∧ Below w0.heap.size w0 wr ∧ Hid ((ys.take k).all voteB = true)) (fun i _ => n - (intOf i).toNat)
  case atStart => exact ⟨0, by omega, rfl, Below.refl _ _, rfl⟩
  case round =>
    obtain ⟨k, hk, rfl, hB, HA⟩ := hrel
    by_cases hlt : k < n
    · have hkP : k < ys.length := by rw [← HN.out]; exact hlt
      obtain ⟨b, o, rfl, hbl, hc⟩ := HS.out k hkP
      have HV : Hid (VoteAt wr b (o + k * 68) ys[k]) := hc.same (hB.block b hbl)
      have HT2 : Hid ((ys.take (k + 1)).all voteB = ((ys.take k).all voteB && voteB ys[k])) := by
        show _ = _
        rw [List.take_add_one, List.getElem?_eq_getElem hkP, List.all_append]; simp
      have HF : Hid (voteB ys[k] = false → ys.all voteB = false) := fun hf => by
        cases ha : ys.all voteB with
        | false => rfl
        | true => rw [List.all_eq_true.1 ha _ (List.getElem_mem hkP)] at hf; cases hf
      obtain ⟨y, hy⟩ : ∃ y, y = ys[k] := ⟨_, rfl⟩
      rw [← hy] at HV HT2 HF
      have HV2 : Hid (VoteAt (wr.alloc (.cells y.cells 62)) wr.heap.size 0 y) := voteAt_blk (alloc_blk _ _)
      have hBA := hB.alloc hB.size (.cells y.cells 62)
      clear hy hc hkP
      go_wp2_with (first | (refine wpList_load_vote rfl _ rfl b (o + k * 68) ?_ y ?_ ?_; rfl; exact HV.out) | refine wpList_alloc_vote rfl rfl ?_ | (refine wpList_store_vote rfl _ _ rfl wr y ?_ ?_ ?_ ?_; rfl; rfl; rfl) | (refine wpList_load_vote rfl _ rfl wr.heap.size 0 ?_ y ?_ ?_; rfl; exact HV2.out))
      refine (voteMayBe_any y _).mono ?_
      rintro e w2 ⟨rfl, hB2⟩
      have hB3 : Below w0.heap.size w0 w2 := hBA.trans (hB2.mono hBA.size)
      clear HV HV2 hBA hB2 hB
      cases hvb : voteB y
      · go_wp2_with fail
        go_ret
        refine ⟨congrArg (fun b => Ending.returned (Value.bool b)) (Eq.symm ?_), HB.trans (hB3.mono hsz)⟩
        unfold msgB
        rw [HF.out hvb, Bool.and_false]
      · have HA2 : Hid ((ys.take (k + 1)).all voteB = true) := by show _ = _; rw [HT2.out, HA.out, hvb]; rfl
        clear HF HT2 HA
        go_wp2_with fail
        exact ⟨⟨k + 1, by omega, rfl, hB3, HA2⟩, by simp [intOf]; omega⟩
    · obtain rfl : k = n := by omega
      go_wp2_with fail
      go_ret
      refine ⟨congrArg (fun b => Ending.returned (Value.bool b)) (Eq.symm ?_), HB.trans (hB.mono hsz)⟩
      have ha := HA.out
      rw [List.take_of_length_le (by rw [HN.out]; exact Nat.le_refl _)] at ha
      obtain ⟨a1, a2, a3, a4, a5, a6⟩ := HT.out
      simp [msgB, a1, a2, a3, a4, a5, a6, ha]
end Go.Proofs.Ytkjocpadmlobgaa
