/- A row of votes that is made and filled. No condition. -/
import Derived.Test.YtkjocpadmlobgaaWireHt
import Derived.Test.YtkjocpadmlobgaaInv7
import Derived.Test.YtkjocpadmlobgaaWireP
import Derived.Laws.MakeOwn
namespace Go.Proofs.Ytkjocpadmlobgaa
open Go.RowKit Go.Dig Go.Inv Go.Oct
set_option linter.unusedVariables false

/-- a block of votes -/
def VBlk (w : World) (vb : Nat) (ys : List VoteR) : Prop := ∃ cs : Array Value, w.heap[vb]? = some (.cells cs 62 (0, 0)) ∧ cs.size = ys.length * 68 ∧ ∀ j (h : j < ys.length) i, i < 68 → cs[j * 68 + i]? = (ys[j]).cells[i]?
theorem VBlk.lt {w : World} {vb : Nat} {ys : List VoteR} (h : VBlk w vb ys) : vb < w.heap.size := by obtain ⟨cs, hb, _⟩ := h; exact lt_blk hb
theorem VBlk.same {w w' : World} {vb : Nat} {ys : List VoteR} (h : VBlk w vb ys) (hs : w'.heap[vb]? = w.heap[vb]?) : VBlk w' vb ys := by obtain ⟨cs, hb, h1, h2⟩ := h; exact ⟨cs, hs.trans hb, h1, h2⟩
theorem VBlk.cell {w : World} {vb : Nat} {ys : List VoteR} (h : VBlk w vb ys) {j : Nat} (hj : j < ys.length) {i : Nat} (hi : i < 68) : w.cell? ⟨vb, j * 68 + i, none⟩ = (ys[j]).cells[i]? := by
  obtain ⟨cs, hb, h1, h2⟩ := h
  rw [cell_blk hb, h2 j hj i hi]
theorem VBlk.fr {w : World} {vb : Nat} {ys : List VoteR} (h : VBlk w vb ys) (k : Nat) : w.frozen? ⟨vb, k, none⟩ = false := by obtain ⟨cs, hb, _⟩ := h; exact frozen_blk hb _
theorem VBlk.at {w : World} {vb : Nat} {ys : List VoteR} (h : VBlk w vb ys) : VotesAt w (some ⟨vb, 0, none⟩) ys := fun _ => ⟨vb, 0, rfl, fun j hj i hi => by rw [Nat.zero_add]; exact h.cell hj hi⟩
theorem VBlk.intAt {w : World} {vb : Nat} {ys : List VoteR} (h : VBlk w vb ys) {j : Nat} (hj : j < ys.length) {i : Nat} (hi : i < 68) {x : Int} (hx : (ys[j]).cells[i]? = some (.int .i64 x)) : IntAt w (vb, j * 68 + i) := by
  obtain ⟨cs, hb, h1, h2⟩ := h
  exact ⟨cs, _, x, hb, (h2 j hj i hi).trans hx⟩
theorem VBlk.made (w : World) (n : Nat) : VBlk (w.alloc (.cells (madeCells VoteR.zero.cells (n * 68)) 62)) w.heap.size (List.replicate n VoteR.zero) := by
  refine ⟨_, alloc_blk _ _, by rw [size_madeCells, List.length_replicate], fun j hj i hi => ?_⟩
  rw [List.length_replicate] at hj
  have hz : VoteR.zero.cells.size = 68 := VoteR.size _
  rw [List.getElem_replicate]
  unfold madeCells
  rw [Array.getElem?_map, Array.getElem?_range, if_pos (by omega)]
  simp only [Option.map_some]
  rw [hz, show (j * 68 + i) % 68 = i by omega]
  rw [getElem!_pos _ _ (by rw [hz]; exact hi), Array.getElem?_eq_getElem (by rw [hz]; exact hi)]
theorem VBlk.put {w w' : World} {vb : Nat} {ys : List VoteR} (h : VBlk w vb ys) {j : Nat} (hj : j < ys.length) (y' : VoteR)
    (hc : ∀ cs : Array Value, w.heap[vb]? = some (.cells cs 62 (0, 0)) → ∃ cs' : Array Value, w'.heap[vb]? = some (.cells cs' 62 (0, 0)) ∧ cs'.size = cs.size ∧ (∀ k, k < j * 68 ∨ j * 68 + 68 ≤ k → cs'[k]? = cs[k]?) ∧ ∀ i, i < 68 → cs[j * 68 + i]? = (ys[j]).cells[i]? → cs'[j * 68 + i]? = y'.cells[i]?) : VBlk w' vb (ys.set j y') := by
  obtain ⟨cs, hb, h1, h2⟩ := h
  obtain ⟨cs', hb', h3, h4, h5⟩ := hc cs hb
  refine ⟨cs', hb', by rw [h3, h1, List.length_set], fun j2 hj2 i hi => ?_⟩
  rw [List.length_set] at hj2
  by_cases he : j2 = j
  · subst he
    rw [List.getElem_set_self]
    exact h5 i hi (h2 j2 hj i hi)
  · rw [List.getElem_set_ne (Ne.symm he), h4 _ (by omega)]
    exact h2 j2 hj2 i hi
theorem VBlk.setCell {w : World} {vb : Nat} {ys : List VoteR} (h : VBlk w vb ys) {j : Nat} (hj : j < ys.length) {i : Nat} (hi : i < 68) (v : Value) (y' : VoteR) (hy : y'.cells = (ys[j]).cells.setIfInBounds i v) : VBlk (w.setCell ⟨vb, j * 68 + i, none⟩ v) vb (ys.set j y') :=
  h.put hj y' fun cs hb => ⟨_, set_blk hb _ _, by simp, fun k hk => by rw [Array.getElem?_setIfInBounds_ne (by omega)], fun i2 hi2 hc => by
    rw [hy]
    by_cases he : i2 = i
    · subst he
      have hs : i2 < (ys[j]).cells.size := by rw [VoteR.size]; exact hi
      rw [Array.getElem?_setIfInBounds_self_of_lt hs]
      have hs2 : j * 68 + i2 < cs.size := by
        rw [Array.getElem?_eq_getElem hs] at hc
        exact (Array.getElem?_eq_some_iff.1 hc).1
      rw [Array.getElem?_setIfInBounds_self_of_lt hs2]
    · rw [Array.getElem?_setIfInBounds_ne (by omega), Array.getElem?_setIfInBounds_ne (Ne.symm he), hc]⟩
theorem VBlk.setHash {w : World} {vb : Nat} {ys : List VoteR} (h : VBlk w vb ys) {j : Nat} (hj : j < ys.length) {o : Nat} (ho : o + 32 ≤ 68) (f : Nat → Int) (y' : VoteR) (hy : ∀ k, k < 68 → y'.cells[k]? = if o ≤ k ∧ k < o + 32 then some (.int .u8 (f (k - o))) else (ys[j]).cells[k]?) : VBlk (w.setCells vb (j * 68 + o) (row .u8 32 f).toList) vb (ys.set j y') :=
  h.put hj y' fun cs hb => by
    obtain ⟨c, h1, h2, h3⟩ := setCells_blk vb 62 (row .u8 32 f).toList (j * 68 + o) w cs hb
    have hl : (row .u8 32 f).toList.length = 32 := by rw [Array.length_toList, row_size]
    refine ⟨c, h1, h2, fun k hk => ?_, fun i hi hc => ?_⟩
    · rw [h3, hl, if_neg (by omega)]
    · rw [h3, hl, hy i hi]
      have hs : i < (ys[j]).cells.size := by rw [VoteR.size]; exact hi
      have hs2 : j * 68 + i < cs.size := by
        rw [Array.getElem?_eq_getElem hs] at hc
        exact (Array.getElem?_eq_some_iff.1 hc).1
      by_cases hk : o ≤ i ∧ i < o + 32
      · rw [if_pos (by omega), if_pos hk, Array.getElem?_toList, row_get (by omega), show j * 68 + i - (j * 68 + o) = i - o by omega]
      · rw [if_neg (by omega), if_neg hk, hc]
theorem VoteR.sum_at (x : VoteR) (f : Nat → Int) (k : Nat) (h68 : k < 68) : ({ x with sum := f } : VoteR).cells[k]? = if 3 ≤ k ∧ k < 3 + 32 then some (.int .u8 (f (k - 3))) else x.cells[k]? := by
  by_cases h : 3 ≤ k ∧ k < 35
  · rw [if_pos h]
    have := VoteR.atSum { x with sum := f } (j := k - 3) (by omega)
    rwa [show 3 + (k - 3) = k by omega] at this
  · rw [if_neg h]
    by_cases hk : k < 3
    · match k, hk with
      | 0, _ => rw [VoteR.at0, VoteR.at0]
      | 1, _ => rw [VoteR.at1, VoteR.at1]
      | 2, _ => rw [VoteR.at2, VoteR.at2]
    · by_cases h35 : k = 35
      · subst h35; rw [VoteR.at35, VoteR.at35]
      · have a1 := VoteR.atTag { x with sum := f } (j := k - 36) (by omega)
        have a2 := VoteR.atTag x (j := k - 36) (by omega)
        rw [show 36 + (k - 36) = k by omega] at a1 a2
        rw [a1, a2]
theorem VoteR.set_k (x : VoteR) (z : Int) : ({ x with k := z } : VoteR).cells = x.cells.setIfInBounds 0 (.int .i64 z) := by
  unfold VoteR.cells
  rw [Array.setIfInBounds_append_left (by simp [row_size]), Array.setIfInBounds_append_left (by simp [row_size]), Array.setIfInBounds_append_left (by simp)]
  rfl
theorem VoteR.set_s (x : VoteR) (z : Int) : ({ x with s := z } : VoteR).cells = x.cells.setIfInBounds 1 (.int .i64 z) := by
  unfold VoteR.cells
  rw [Array.setIfInBounds_append_left (by simp [row_size]), Array.setIfInBounds_append_left (by simp [row_size]), Array.setIfInBounds_append_left (by simp)]
  rfl
theorem VoteR.set_v (x : VoteR) (z : Int) : ({ x with v := z } : VoteR).cells = x.cells.setIfInBounds 2 (.int .i64 z) := by
  unfold VoteR.cells
  rw [Array.setIfInBounds_append_left (by simp [row_size]), Array.setIfInBounds_append_left (by simp [row_size]), Array.setIfInBounds_append_left (by simp)]
  rfl
theorem VoteR.set_f (x : VoteR) (z : Int) : ({ x with f := z } : VoteR).cells = x.cells.setIfInBounds 35 (.int .i64 z) := by
  unfold VoteR.cells
  rw [Array.setIfInBounds_append_left (by simp [row_size]), Array.setIfInBounds_append_right (by simp [row_size])]
  simp [row_size]
end Go.Proofs.Ytkjocpadmlobgaa
