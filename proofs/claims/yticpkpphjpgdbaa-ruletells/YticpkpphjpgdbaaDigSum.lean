/- digest's summing in memory: the state, the numbers of the rounds, the block, the size. -/
import Derived.Test.YticpkpphjpgdbaaDigA
namespace Go.Proofs.Yticpkpphjpgdbaa
open Go.RowKit Go.Dig Go.Sha

/-- a summing: eight words, sixty-four numbers, sixty-four bytes, how many there were -/
def sumRow (st : Nat → Int) (bs : Nat → Int) (size : Int) : Array Value := row .u32 8 st ++ row .u32 64 k256 ++ row .u8 64 bs ++ #[.int .i64 size]
theorem sum_size (st bs : Nat → Int) (size : Int) : (sumRow st bs size).size = 137 := by simp [sumRow, row_size]
theorem sum_st {st bs : Nat → Int} {size : Int} {j : Nat} (h : j < 8) : (sumRow st bs size)[j]? = some (.int .u32 (st j)) := by
  simp only [sumRow, Array.getElem?_append, row_size, Array.size_append]
  simp [show j < 8 + 64 + 64 by omega, show j < 8 + 64 by omega, h, row_get h]
theorem sum_k {st bs : Nat → Int} {size : Int} {j : Nat} (h : j < 64) : (sumRow st bs size)[8 + j]? = some (.int .u32 (k256 j)) := by
  simp only [sumRow, Array.getElem?_append, row_size, Array.size_append]
  simp [show 8 + j < 8 + 64 + 64 by omega, show 8 + j < 8 + 64 by omega, show ¬ 8 + j < 8 by omega, show 8 + j - 8 = j by omega, row_get h]
theorem sum_b {st bs : Nat → Int} {size : Int} {j : Nat} (h : j < 64) : (sumRow st bs size)[72 + j]? = some (.int .u8 (bs j)) := by
  simp only [sumRow, Array.getElem?_append, row_size, Array.size_append]
  simp [show 72 + j < 8 + 64 + 64 by omega, show ¬ 72 + j < 8 + 64 by omega, show 72 + j - (8 + 64) = j by omega, row_get h]
theorem sum_n {st bs : Nat → Int} {size : Int} : (sumRow st bs size)[136]? = some (.int .i64 size) := by
  simp only [sumRow, Array.getElem?_append, row_size, Array.size_append]
  simp
theorem sum_none {st bs : Nat → Int} {size : Int} {j : Nat} (h : 137 ≤ j) : (sumRow st bs size)[j]? = none := by
  rw [Array.getElem?_eq_none]; rw [sum_size]; exact h
/-- two are one if they are so cell by cell -/
theorem sum_ext {c : Array Value} {st bs : Nat → Int} {size : Int} (hs : c.size = 137) (h0 : ∀ j, j < 8 → c[j]? = some (.int .u32 (st j))) (h1 : ∀ j, j < 64 → c[8 + j]? = some (.int .u32 (k256 j))) (h2 : ∀ j, j < 64 → c[72 + j]? = some (.int .u8 (bs j))) (h3 : c[136]? = some (.int .i64 size)) : c = sumRow st bs size := by
  apply Array.ext_getElem?
  intro j
  by_cases j0 : j < 8
  · rw [h0 j j0, sum_st j0]
  · by_cases j1 : j < 72
    · obtain ⟨i, rfl⟩ : ∃ i, j = 8 + i := ⟨j - 8, by omega⟩
      rw [h1 i (by omega), sum_k (by omega)]
    · by_cases j2 : j < 136
      · obtain ⟨i, rfl⟩ : ∃ i, j = 72 + i := ⟨j - 72, by omega⟩
        rw [h2 i (by omega), sum_b (by omega)]
      · by_cases j3 : j = 136
        · subst j3; rw [h3, sum_n]
        · rw [sum_none (by omega), Array.getElem?_eq_none (by omega)]
theorem sum_put_st {st bs : Nat → Int} {size : Int} {i : Nat} {v : Int} (h : i < 8) : (sumRow st bs size).setIfInBounds i (.int .u32 v) = sumRow (put st i v) bs size := by
  refine sum_ext (by simp [sum_size]) (fun j hj => ?_) (fun j hj => ?_) (fun j hj => ?_) ?_
  · rw [Array.getElem?_setIfInBounds, sum_size, sum_st hj]
    by_cases e : i = j
    · subst e; simp [show i < 137 by omega, put]
    · simp [e, put, Ne.symm e]
  · rw [Array.getElem?_setIfInBounds, sum_k hj, if_neg (by omega)]
  · rw [Array.getElem?_setIfInBounds, sum_b hj, if_neg (by omega)]
  · rw [Array.getElem?_setIfInBounds, sum_n, if_neg (by omega)]
theorem sum_put_n {st bs : Nat → Int} {size : Int} {v : Int} : (sumRow st bs size).setIfInBounds 136 (.int .i64 v) = sumRow st bs v := by
  refine sum_ext (by simp [sum_size]) (fun j hj => ?_) (fun j hj => ?_) (fun j hj => ?_) ?_
  · rw [Array.getElem?_setIfInBounds, sum_st hj, if_neg (by omega)]
  · rw [Array.getElem?_setIfInBounds, sum_k hj, if_neg (by omega)]
  · rw [Array.getElem?_setIfInBounds, sum_b hj, if_neg (by omega)]
  · rw [Array.getElem?_setIfInBounds, sum_size]; simp
theorem sum_put_b {st bs : Nat → Int} {size : Int} {i : Nat} {v : Int} (h : i < 64) : (sumRow st bs size).setIfInBounds (72 + i) (.int .u8 v) = sumRow st (put bs i v) size := by
  refine sum_ext (by simp [sum_size]) (fun j hj => ?_) (fun j hj => ?_) (fun j hj => ?_) ?_
  · rw [Array.getElem?_setIfInBounds, sum_st hj, if_neg (by omega)]
  · rw [Array.getElem?_setIfInBounds, sum_k hj, if_neg (by omega)]
  · rw [Array.getElem?_setIfInBounds, sum_size, sum_b hj]
    by_cases e : i = j
    · subst e; simp [show 72 + i < 137 by omega, put]
    · simp [e, put, Ne.symm e]
  · rw [Array.getElem?_setIfInBounds, sum_n, if_neg (by omega)]

/-- the summing lies at block g -/
def SumAt (w : World) (g : Nat) (st bs : Nat → Int) (size : Int) : Prop := w.heap[g]? = some (.cells (sumRow st bs size) 94 (0, 0))
theorem SumAt.st {w : World} {g : Nat} {st bs : Nat → Int} {size : Int} (h : SumAt w g st bs size) {j : Nat} (hj : j < 8) : w.cell? ⟨g, j, none⟩ = some (.int .u32 (st j)) := (cell_blk h j).trans (sum_st hj)
theorem SumAt.k {w : World} {g : Nat} {st bs : Nat → Int} {size : Int} (h : SumAt w g st bs size) {j : Nat} (hj : j < 64) : w.cell? ⟨g, 8 + j, none⟩ = some (.int .u32 (k256 j)) := (cell_blk h _).trans (sum_k hj)
theorem SumAt.b {w : World} {g : Nat} {st bs : Nat → Int} {size : Int} (h : SumAt w g st bs size) {j : Nat} (hj : j < 64) : w.cell? ⟨g, 72 + j, none⟩ = some (.int .u8 (bs j)) := (cell_blk h _).trans (sum_b hj)
theorem SumAt.n {w : World} {g : Nat} {st bs : Nat → Int} {size : Int} (h : SumAt w g st bs size) : w.cell? ⟨g, 136, none⟩ = some (.int .i64 size) := (cell_blk h _).trans sum_n
theorem SumAt.fr {w : World} {g : Nat} {st bs : Nat → Int} {size : Int} (h : SumAt w g st bs size) (j : Nat) : w.frozen? ⟨g, j, none⟩ = false := frozen_blk h j
theorem SumAt.lt {w : World} {g : Nat} {st bs : Nat → Int} {size : Int} (h : SumAt w g st bs size) : g < w.heap.size := lt_blk h
theorem SumAt.below {B : Nat} {w w' : World} {g : Nat} {st bs : Nat → Int} {size : Int} (h : SumAt w g st bs size) (hB : Below B w w') (hg : g < B) : SumAt w' g st bs size := (hB.block g hg).trans h
theorem SumAt.setSt {w w' : World} {g : Nat} {st bs : Nat → Int} {size : Int} (h : SumAt w g st bs size) {i : Nat} (hi : i < 8) (v : Int) (e : w'.heap = (w.setCell ⟨g, i, none⟩ (.int .u32 v)).heap) : SumAt w' g (put st i v) bs size := by
  unfold SumAt; rw [e, set_blk h, sum_put_st hi]
theorem SumAt.setN {w w' : World} {g : Nat} {st bs : Nat → Int} {size : Int} (h : SumAt w g st bs size) (v : Int) (e : w'.heap = (w.setCell ⟨g, 136, none⟩ (.int .i64 v)).heap) : SumAt w' g st bs v := by
  unfold SumAt; rw [e, set_blk h, sum_put_n]
end Go.Proofs.Yticpkpphjpgdbaa
