/- wire's votes as bytes: laySealed, layVote, layRow of votes. For rows of up to 2^38 bytes. -/
import Derived.Test.YticpkpphjpgdbaaSealLaw
import Derived.Test.YticpkpphjpgdbaaWireB
namespace Go.Proofs.Yticpkpphjpgdbaa
open Go.RowKit Go.Dig Go.Inv Go.Oct

/-- a vote, its digests as functions -/
structure VoteR where
  k : Int
  s : Int
  v : Int
  sum : Nat → Int
  f : Int
  tag : Nat → Int
def VoteR.cells (x : VoteR) : Array Value := #[.int .i64 x.k, .int .i64 x.s, .int .i64 x.v] ++ row .u8 32 x.sum ++ #[.int .i64 x.f] ++ row .u8 32 x.tag
theorem VoteR.size (x : VoteR) : x.cells.size = 68 := by simp [VoteR.cells, row_size]
theorem vote_info (x : VoteR) : (Try.prog.info? 51).map (·.size) = some x.cells.size := by rw [VoteR.size]; kernel_rfl
theorem VoteR.all (x : VoteR) : x.cells.all (·.oneCell') = true := by
  unfold VoteR.cells
  rw [Array.all_append, Array.all_append, Array.all_append, row_all, row_all]
  simp
  exact ⟨⟨rfl, rfl, rfl⟩, rfl⟩
def VoteR.zero : VoteR := ⟨0, 0, 0, fun _ => 0, 0, fun _ => 0⟩
theorem zero_vote : (Try.prog.info? 51).map (·.zero) = some (some (.agg VoteR.zero.cells)) := by kernel_rfl
theorem VoteR.at0 (x : VoteR) : x.cells[0]? = some (.int .i64 x.k) := by simp [VoteR.cells, row_size]
theorem VoteR.at1 (x : VoteR) : x.cells[1]? = some (.int .i64 x.s) := by simp [VoteR.cells, row_size]
theorem VoteR.at2 (x : VoteR) : x.cells[2]? = some (.int .i64 x.v) := by simp [VoteR.cells, row_size]
theorem VoteR.at35 (x : VoteR) : x.cells[35]? = some (.int .i64 x.f) := by
  unfold VoteR.cells
  rw [Array.getElem?_append_left (by simp [row_size]), Array.getElem?_append_right (by simp [row_size])]
  simp [row_size]
theorem VoteR.atSum (x : VoteR) {j : Nat} (h : j < 32) : x.cells[3 + j]? = some (.int .u8 (x.sum j)) := by
  unfold VoteR.cells
  rw [Array.getElem?_append_left (by simp [row_size]; omega), Array.getElem?_append_left (by simp [row_size]; omega), Array.getElem?_append_right (by simp)]
  simp [row_get h]
theorem VoteR.atTag (x : VoteR) {j : Nat} (h : j < 32) : x.cells[36 + j]? = some (.int .u8 (x.tag j)) := by
  unfold VoteR.cells
  rw [Array.getElem?_append_right (by simp [row_size])]
  simp [row_size, row_get h]
def sealedL (x : VoteR) : List Int := nums [x.k, x.s, x.v] ++ ofF 32 x.sum ++ num x.f
def voteL (x : VoteR) : List Int := sealedL x ++ ofF 32 x.tag
def VoteR.wf (x : VoteR) : Prop := inI x.k ∧ inI x.s ∧ inI x.v ∧ inI x.f
theorem rowed_mid {w : World} {b o n : Nat} {f : Nat → Int} {c : Array Value} {t : TypeId} {fr : Nat × Nat} (h : w.heap[b]? = some (.cells c t fr)) (hc : ∀ j, j < n → c[o + j]? = some (.int .u8 (f j))) (cap : Nat) : Rowed w (some ⟨b, o, none⟩) (ofF n f) cap := .inr ⟨_, rfl, fun j hj => by
  rw [ofF_length] at hj
  rw [addr_add, cell_blk h, hc j hj, ofF_getD hj]⟩
set_option maxRecDepth 10000 in
set_option maxHeartbeats 1000000 in
theorem laySealed_any (base g : Nat) (v : Value) (L : List Int) (x : VoteR) (w : World) (h : Wri w base g v L) (hx : x.wf) (hb : L.length < 549755813888) :
    Calls Try.prog 78 #[.pointer (some ⟨g, 0, none⟩), .agg x.cells] w fun e w' => e = .returned (.tuple #[]) ∧ ∃ v', Wri w' base g v' (L ++ sealedL x) ∧ Wr g w w' v v' := by
  have HW : Hid (Wri w base g v L) := h
  have hsl := slice_hash
  have hb0 : (w.alloc (.cells x.cells 51)).heap[w.heap.size]? = some (.cells x.cells 51 (0, 0)) := alloc_blk _ _
  have hc0 : (w.alloc (.cells x.cells 51)).cell? ⟨w.heap.size, 0, none⟩ = some (.int .i64 x.k) := (cell_blk hb0 _).trans x.at0
  have hc1 : (w.alloc (.cells x.cells 51)).cell? ⟨w.heap.size, 1, none⟩ = some (.int .i64 x.s) := (cell_blk hb0 _).trans x.at1
  have hc2 : (w.alloc (.cells x.cells 51)).cell? ⟨w.heap.size, 2, none⟩ = some (.int .i64 x.v) := (cell_blk hb0 _).trans x.at2
  have HB0 : Hid ((w.alloc (.cells x.cells 51)).heap[w.heap.size]? = some (.cells x.cells 51 (0, 0))) := hb0
  clear h hb0
  go_enter Try.func78, Try.ntmps78
  go_wp2_with (first | refine wpList_box_row rfl 51 _ rfl _ rfl ?_)
  refine (wNums_new base g v L [x.k, x.s, x.v] (w.heap.size + 1) 3 _ (HW.out.alloc _) (by simp) ⟨hx.1, hx.2.1, hx.2.2.1, trivial⟩ (by simp; omega)).mono ?_
  rintro e w1 ⟨rfl, v1, hw1, hr1⟩
  have hf := HW.out.fresh
  have hs0 : w.heap.size < (w.alloc (.cells x.cells 51)).heap.size := by simp
  have HB1 : Hid (w1.heap[w.heap.size]? = some (.cells x.cells 51 (0, 0))) := (hr1.block _ hs0 hf.1 hf.2).trans HB0.out
  have ho1 : v1.ownBlock ≠ some w.heap.size := hr1.ownNe hs0 hf.2
  have HR1 : Hid (Wr g w w1 v v1) := (Wr.alloc _ _ _ _).trans hr1
  clear hr1 hc0 hc1 hc2 HB0
  go_wp2_with fail
  refine (wRaw_any base g v1 _ (ofF 32 x.sum) (some ⟨w.heap.size, 3, none⟩) 32 32 _ hw1 (by rw [ofF_length]) (rowed_mid HB1.out (fun j hj => x.atSum hj) 32) (by have := nums_length [x.k, x.s, x.v]; rw [List.length_append, ofF_length]; simp at this; omega)).mono ?_
  rintro e w2 ⟨rfl, v2, hw2, hr2⟩
  have hs1 : w.heap.size < w1.heap.size := lt_blk HB1.out
  have HB2 : Hid (w2.heap[w.heap.size]? = some (.cells x.cells 51 (0, 0))) := (hr2.block _ hs1 hf.1 ho1).trans HB1.out
  have HR2 : Hid (Wr g w w2 v v2) := HR1.out.trans hr2
  have hc3 : w2.cell? ⟨w.heap.size, 35, none⟩ = some (.int .i64 x.f) := (cell_blk HB2.out _).trans x.at35
  clear hr2 HB1 hw1 HR1
  go_wp2_with fail
  refine (wNums_new base g v2 _ [x.f] w2.heap.size 1 _ hw2 rfl ⟨hx.2.2.2, trivial⟩ (by have := nums_length [x.k, x.s, x.v]; simp only [List.length_append, ofF_length]; simp at this ⊢; omega)).mono ?_
  rintro e w3 ⟨rfl, v3, hw3, hr3⟩
  have HR3 : Hid (Wr g w w3 v v3) := HR2.out.trans hr3
  have HW3 : Hid (Wri w3 base g v3 (L ++ sealedL x)) := by
    show Wri _ _ _ _ _
    rw [nums_one] at hw3
    unfold sealedL
    simpa only [List.append_assoc] using hw3
  clear hw3 hr3 hw2 HR2 hc3 HB2
  go_wp2_with fail
  refine bodyPost_end (v := .tuple #[]) (by simp [results, Try.results78, go_sem]) rfl ?_
  exact ⟨rfl, v3, HW3.out, HR3.out⟩
theorem sealedL_length (x : VoteR) : (sealedL x).length ≤ 68 := by
  have := nums_length [x.k, x.s, x.v]
  have := num_length x.f
  unfold sealedL
  simp only [List.length_append, ofF_length]
  simp at *
  omega
theorem vote_row : ∃ d, Try.prog.underlying 51 = some d ∧ d.isRow = true := by
  have h : (Try.prog.underlying 51).map (·.isRow) = some true := by kernel_rfl
  cases hd : Try.prog.underlying 51 with
  | none => rw [hd] at h; cases h
  | some d => rw [hd] at h; exact ⟨d, rfl, by simpa using h⟩
/-- a vote lies at a place -/
def VoteAt (w : World) (b o : Nat) (y : VoteR) : Prop := ∀ i, i < 68 → w.cell? ⟨b, o + i, none⟩ = y.cells[i]?
theorem voteAt_blk {w : World} {b : Nat} {y : VoteR} {t : TypeId} {fr : Nat × Nat} (h : w.heap[b]? = some (.cells y.cells t fr)) : VoteAt w b 0 y := fun i _ => by rw [Nat.zero_add, cell_blk h]
theorem VoteAt.same {w w' : World} {b o : Nat} {y : VoteR} (h : VoteAt w b o y) (hb : w'.heap[b]? = w.heap[b]?) : VoteAt w' b o y := fun i hi => (World.cell?_of_block (a := ⟨b, o + i, none⟩) hb).trans (h i hi)
theorem wpList_load_vote {ops : Array Oper} {rest : List Oper} {o : Oper} {a : Act} {w : World} {Q : Exit → Act → World → Prop} (hgd : o.guard = none) (x : Operand) (ho : o.op = .load 51 x) (b off : Nat) (hx : a.eval x = .pointer (some ⟨b, off, none⟩)) (y : VoteR)
    (hc : VoteAt w b off y) (h : wpList Try.prog ops Q rest (a.put o.dst (.agg y.cells)) w) : wpList Try.prog ops Q (o :: rest) a w := by
  obtain ⟨d, hd1, hd2⟩ := vote_row
  refine wpList_load_mid hgd 51 x ho b off hx y.cells.toList d (fun j v hv => ?_) hd1 hd2 (by rw [Array.length_toList]; exact vote_info y) (by simpa using h)
  have hv' : y.cells[j]? = some v := by simpa using hv
  have hj : j < 68 := by have := (Array.getElem?_eq_some_iff.1 hv').1; rwa [VoteR.size] at this
  rw [hc j hj]; exact hv'
section
variable {ops : Array Oper} {rest : List Oper} {o : Oper} {a : Act} {w : World} {Q : Exit → Act → World → Prop}
theorem wpList_alloc_vote (hgd : o.guard = none) (ho : o.op = .alloc 51) (h : wpList Try.prog ops Q rest (a.put o.dst (.pointer (some ⟨w.heap.size, 0, none⟩))) (w.alloc (.cells VoteR.zero.cells 51))) :
    wpList Try.prog ops Q (o :: rest) a w := wpList_alloc_row hgd 51 ho _ zero_vote h
theorem wpList_store_vote (hgd : o.guard = none) (x y : Operand) (ho : o.op = .store 51 x y) (w0 : World) (z : VoteR) (hx : a.eval x = .pointer (some ⟨w0.heap.size, 0, none⟩)) (hy : a.eval y = .agg z.cells) (hw : w = w0.alloc (.cells VoteR.zero.cells 51))
    (h : wpList Try.prog ops Q rest (a.put o.dst undef) (w0.alloc (.cells z.cells 51))) : wpList Try.prog ops Q (o :: rest) a w := by
  subst hw
  refine wpList_store_blk hgd 51 x y ho w0.heap.size z.cells hx hy 51 _ (alloc_blk _ _) (vote_info z) (by rw [VoteR.size, VoteR.size]) z.all ?_
  rw [setRow_new]; exact h
end
/-- votes lie one behind the other -/
def VotesAt (w : World) (ao : Option Addr) (ys : List VoteR) : Prop := ys ≠ [] → ∃ b o, ao = some ⟨b, o, none⟩ ∧ ∀ j (hj : j < ys.length), VoteAt w b (o + j * 68) ys[j]
def votesL (ys : List VoteR) : List Int := num ys.length ++ ys.flatMap voteL
theorem voteL_length (x : VoteR) : (voteL x).length ≤ 100 := by
  have := sealedL_length x
  unfold voteL
  rw [List.length_append, ofF_length]; omega
theorem flat_length (ys : List VoteR) : (ys.flatMap voteL).length ≤ 100 * ys.length := by
  induction ys with
  | nil => simp
  | cons y t ih => rw [List.flatMap_cons, List.length_append, List.length_cons]; have := voteL_length y; omega
theorem flat_take_succ {ys : List VoteR} {k : Nat} (h : k < ys.length) : (ys.take (k + 1)).flatMap voteL = (ys.take k).flatMap voteL ++ voteL ys[k] := by
  rw [List.take_add_one, List.getElem?_eq_getElem h, List.flatMap_append]
  simp
end Go.Proofs.Yticpkpphjpgdbaa
