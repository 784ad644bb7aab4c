/- Messages and votes that are copied and changed: laws for single operations of regions that draw. -/
import Derived.Test.YtkjocpadmlobgaaRefW
namespace Go.Proofs.Ytkjocpadmlobgaa
open Go.RowKit Go.Dig Go.Inv Go.Oct

theorem wanted_gK {o : Oper} {ops : Array Oper} {t : Array Value} {j : Nat} {b c : Bool} (hg : o.guard = some (j, c)) (hy : yielded ops t j = some b) : Region.wanted o (yielded ops t) = (b == c) := by
  simp [Region.wanted, hg, hy]
theorem size_hash : (Try.prog.info? 25).map (·.size) = some 32 := by kernel_rfl
/-- what setCells makes of a block -/
theorem setCells_blk (g : Nat) (e : TypeId) : ∀ (vs : List Value) (o : Nat) (w : World) (cur : Array Value), w.heap[g]? = some (.cells cur e (0, 0)) →
    ∃ cur', (w.setCells g o vs).heap[g]? = some (.cells cur' e (0, 0)) ∧ cur'.size = cur.size ∧ ∀ k, cur'[k]? = if o ≤ k ∧ k < o + vs.length ∧ k < cur.size then vs[k - o]? else cur[k]?
  | [], o, w, cur, h => ⟨cur, h, rfl, fun k => by rw [if_neg (by simp; omega)]⟩
  | v :: r, o, w, cur, h => by
    obtain ⟨c, h1, h2, h3⟩ := setCells_blk g e r (o + 1) (w.setCell ⟨g, o, none⟩ v) (cur.setIfInBounds o v) (heap_setCell_same w g o cur e v h)
    refine ⟨c, h1, by rw [h2, Array.size_setIfInBounds], fun k => ?_⟩
    rw [h3, Array.size_setIfInBounds, List.length_cons, Array.getElem?_setIfInBounds]
    by_cases hk : k = o
    · subst hk
      by_cases hs : k < cur.size
      · rw [if_neg (by omega), if_pos rfl, if_pos hs, if_pos (by omega)]; simp
      · rw [if_neg (by omega), if_pos rfl, if_neg hs, if_neg (by omega)]; simp; omega
    · by_cases hc : o + 1 ≤ k ∧ k < o + 1 + r.length ∧ k < cur.size
      · rw [if_pos hc, if_pos (by omega), show k - o = (k - (o + 1)) + 1 by omega, List.getElem?_cons_succ]
      · rw [if_neg hc, if_neg (fun e => hk e.symm), if_neg (by omega)]
theorem VoteR.head_at (x : VoteR) {k : Nat} (h : k < 36) : x.cells[k]? = (#[Value.int .i64 x.k, .int .i64 x.s, .int .i64 x.v] ++ row .u8 32 x.sum ++ #[.int .i64 x.f])[k]? :=
  Array.getElem?_append_left (by rw [Array.size_append, Array.size_append, row_size]; exact h)
/-- a vote's tag alone is another one -/
theorem VoteR.tag_at (x : VoteR) (f : Nat → Int) (k : Nat) : ({ x with tag := f } : VoteR).cells[k]? = if 36 ≤ k ∧ k < 68 then some (.int .u8 (f (k - 36))) else x.cells[k]? := by
  by_cases h : 36 ≤ k ∧ k < 68
  · rw [if_pos h]
    have := VoteR.atTag { x with tag := f } (j := k - 36) (by omega)
    rwa [show 36 + (k - 36) = k by omega] at this
  · rw [if_neg h]
    by_cases hk : k < 36
    · rw [VoteR.head_at _ hk, VoteR.head_at _ hk]
    · rw [Array.getElem?_eq_none (by rw [VoteR.size]; omega), Array.getElem?_eq_none (by rw [VoteR.size]; omega)]
theorem hash_row : ∃ d, Try.prog.underlying 25 = some d ∧ d.isRow = true := by
  have h : (Try.prog.underlying 25).map (·.isRow) = some true := by kernel_rfl
  cases hd : Try.prog.underlying 25 with
  | none => rw [hd] at h; cases h
  | some d => rw [hd] at h; exact ⟨d, rfl, by simpa using h⟩
/-- a digest lies at a place -/
def HashAt (w : World) (b o : Nat) (f : Nat → Int) : Prop := ∀ j, j < 32 → w.cell? ⟨b, o + j, none⟩ = some (.int .u8 (f j))
theorem hashAt_blk {w : World} {b : Nat} {f : Nat → Int} {t : TypeId} {fr : Nat × Nat} (h : w.heap[b]? = some (.cells (row .u8 32 f) t fr)) : HashAt w b 0 f := fun j hj => by rw [Nat.zero_add, cell_blk h, row_get hj]
theorem HashAt.same {w w' : World} {b o : Nat} {f : Nat → Int} (h : HashAt w b o f) (hb : w'.heap[b]? = w.heap[b]?) : HashAt w' b o f := fun j hj => (World.cell?_of_block (a := ⟨b, o + j, none⟩) hb).trans (h j hj)
theorem MsgR.head_at (x : MsgR) {k : Nat} (h : k < 7) : x.cells[k]? = (#[Value.int .i64 x.k, .int .i64 x.f, .int .i64 x.t, .int .i64 x.s, .int .i64 x.v, .slice x.va x.vl x.vc, .slice x.ya x.yl x.yc])[k]? := Array.getElem?_append_left h
/-- a message's tag alone is another one -/
theorem MsgR.tag_at (x : MsgR) (f : Nat → Int) (k : Nat) : ({ x with tag := f } : MsgR).cells[k]? = if 7 ≤ k ∧ k < 39 then some (.int .u8 (f (k - 7))) else x.cells[k]? := by
  by_cases h : 7 ≤ k ∧ k < 39
  · rw [if_pos h]
    have := MsgR.atTag { x with tag := f } (j := k - 7) (by omega)
    rwa [show 7 + (k - 7) = k by omega] at this
  · rw [if_neg h]
    by_cases hk : k < 7
    · rw [MsgR.head_at _ hk, MsgR.head_at _ hk]
    · rw [Array.getElem?_eq_none (by rw [MsgR.size]; omega), Array.getElem?_eq_none (by rw [MsgR.size]; omega)]
theorem MsgR.set_to (x : MsgR) (z : Int) : x.cells.setIfInBounds 2 (.int .i64 z) = ({ x with t := z } : MsgR).cells := by
  unfold MsgR.cells
  rw [Array.setIfInBounds_append_left (by simp)]
  rfl
theorem MsgR.all (x : MsgR) : x.cells.all (·.oneCell') = true := by
  unfold MsgR.cells
  rw [Array.all_append, row_all]
  simp
  exact ⟨rfl, rfl, rfl, rfl, rfl, rfl, rfl⟩
def MsgR.zero : MsgR := ⟨0, 0, 0, 0, 0, none, 0, 0, none, 0, 0, fun _ => 0⟩
theorem zero_msg : (Try.prog.info? 27).map (·.zero) = some (some (.agg MsgR.zero.cells)) := by kernel_rfl
section
variable {o : Oper} {a : Act} {w : World} {K : Act → World → Prop} {Q : Exit → Act → World → Prop}
theorem wp_load_msg (x : Operand) (ho : o.op = .load 27 x) (g : Nat) (m : MsgR) (t : TypeId) (fr : Nat × Nat) (hx : a.eval x = .pointer (some ⟨g, 0, none⟩)) (hg : w.heap[g]? = some (.cells m.cells t fr)) (h : K (a.put o.dst (.agg m.cells)) w) : o.wp Try.prog a w K Q := by
  obtain ⟨d, hd1, hd2⟩ := msg_row
  refine wp_load_mid 27 x ho g 0 hx m.cells.toList d (fun j v hv => ?_) hd1 hd2 (by rw [Array.length_toList]; exact msg_info m) (by simpa using h)
  rw [Nat.zero_add, cell_blk hg]; simpa using hv
theorem wp_load_voteB (x : Operand) (ho : o.op = .load 62 x) (g : Nat) (m : VoteR) (t : TypeId) (fr : Nat × Nat) (hx : a.eval x = .pointer (some ⟨g, 0, none⟩)) (hg : w.heap[g]? = some (.cells m.cells t fr)) (h : K (a.put o.dst (.agg m.cells)) w) : o.wp Try.prog a w K Q := by
  obtain ⟨d, hd1, hd2⟩ := vote_row
  refine wp_load_mid 62 x ho g 0 hx m.cells.toList d (fun j v hv => ?_) hd1 hd2 (by rw [Array.length_toList]; exact vote_info m) (by simpa using h)
  rw [Nat.zero_add, cell_blk hg]; simpa using hv
theorem wp_load_hash (x : Operand) (ho : o.op = .load 25 x) (b off : Nat) (hx : a.eval x = .pointer (some ⟨b, off, none⟩)) (f : Nat → Int) (hc : HashAt w b off f) (h : K (a.put o.dst (.agg (row .u8 32 f))) w) : o.wp Try.prog a w K Q := by
  obtain ⟨d, hd1, hd2⟩ := hash_row
  refine wp_load_mid 25 x ho b off hx (row .u8 32 f).toList d (fun j v hv => ?_) hd1 hd2 (by rw [Array.length_toList]; exact row_info size_hash _) (by simpa using h)
  have hv' : (row .u8 32 f)[j]? = some v := by simpa using hv
  have hj : j < 32 := by have := (Array.getElem?_eq_some_iff.1 hv').1; rwa [row_size] at this
  rw [hc j hj, ← hv', row_get hj]
theorem wp_alloc_row (ty : TypeId) (ho : o.op = .alloc ty) (z : Array Value) (hi : (Try.prog.info? ty).map (·.zero) = some (some (.agg z)))
    (h : K (a.put o.dst (.pointer (some ⟨w.heap.size, 0, none⟩))) (w.alloc (.cells z ty))) : o.wp Try.prog a w K Q := by
  cases hq : Try.prog.info? ty with
  | none => simp [hq] at hi
  | some i =>
    simp [hq] at hi
    unfold Oper.wp execOp
    simp [ho, Instr.alloc, zeroValue, typeInfo, hq, hi, newVar, newRow, Value.cells]
    exact h
/-- a row of cells goes into the middle of a block -/
theorem wp_store_in (ty : TypeId) (x y : Operand) (ho : o.op = .store ty x y) (g off : Nat) (c old new : Array Value) (hx : a.eval x = .pointer (some ⟨g, off, none⟩)) (hy : a.eval y = .agg c) (t : TypeId) (hg : w.heap[g]? = some (.cells old t (0, 0)))
    (hi : (Try.prog.info? ty).map (·.size) = some c.size) (h1 : c.all (·.oneCell') = true) (hs : off + c.size ≤ old.size) (hn : ∀ k, new[k]? = if off ≤ k ∧ k < off + c.size then c[k - off]? else old[k]?)
    (h : ∀ w', w'.heap[g]? = some (.cells new t (0, 0)) → Keeps g w w' → K (a.put o.dst undef) w') : o.wp Try.prog a w K Q := by
  refine wp_store_mid ty x y ho g off c hx hy (fun j hj => ?_) hi h1 (h _ ?_ (Keeps.setCells _ _ (Keeps.refl _ _)))
  · exact ⟨by rw [cell_blk hg, Array.getElem?_eq_getElem (by omega)]; rfl, frozen_blk hg _⟩
  · obtain ⟨c', h1, h2, h3⟩ := setCells_blk g t c.toList off w old hg
    have hc : c' = new := Array.ext_getElem? fun k => by
      rw [h3, hn, Array.length_toList, Array.getElem?_toList]
      by_cases hk : off ≤ k ∧ k < off + c.size
      · rw [if_pos hk, if_pos (by omega)]
      · rw [if_neg hk, if_neg (by omega)]
    rw [h1, hc]
theorem wp_store_msg (x y : Operand) (ho : o.op = .store 27 x y) (g : Nat) (m old : MsgR) (hx : a.eval x = .pointer (some ⟨g, 0, none⟩)) (hy : a.eval y = .agg m.cells) (t : TypeId) (hg : w.heap[g]? = some (.cells old.cells t (0, 0)))
    (h : ∀ w', w'.heap[g]? = some (.cells m.cells t (0, 0)) → Keeps g w w' → K (a.put o.dst undef) w') : o.wp Try.prog a w K Q :=
  wp_store_in 27 x y ho g 0 m.cells old.cells m.cells hx hy t hg (msg_info m) m.all (by rw [m.size, old.size]; omega) (fun k => by
    rw [m.size]
    by_cases hk : k < 39
    · rw [if_pos (by omega)]; rfl
    · rw [if_neg (by omega), Array.getElem?_eq_none (by rw [m.size]; omega), Array.getElem?_eq_none (by rw [old.size]; omega)]) h
theorem wp_store_vote (x y : Operand) (ho : o.op = .store 62 x y) (g : Nat) (m old : VoteR) (hx : a.eval x = .pointer (some ⟨g, 0, none⟩)) (hy : a.eval y = .agg m.cells) (t : TypeId) (hg : w.heap[g]? = some (.cells old.cells t (0, 0)))
    (h : ∀ w', w'.heap[g]? = some (.cells m.cells t (0, 0)) → Keeps g w w' → K (a.put o.dst undef) w') : o.wp Try.prog a w K Q :=
  wp_store_in 62 x y ho g 0 m.cells old.cells m.cells hx hy t hg (vote_info m) m.all (by rw [m.size, old.size]; omega) (fun k => by
    rw [m.size]
    by_cases hk : k < 68
    · rw [if_pos (by omega)]; rfl
    · rw [if_neg (by omega), Array.getElem?_eq_none (by rw [m.size]; omega), Array.getElem?_eq_none (by rw [old.size]; omega)]) h
theorem wp_store_tagM (x y : Operand) (ho : o.op = .store 25 x y) (g : Nat) (f : Nat → Int) (m : MsgR) (hx : a.eval x = .pointer (some ⟨g, 7, none⟩)) (hy : a.eval y = .agg (row .u8 32 f)) (t : TypeId) (hg : w.heap[g]? = some (.cells m.cells t (0, 0)))
    (h : ∀ w', w'.heap[g]? = some (.cells ({ m with tag := f } : MsgR).cells t (0, 0)) → Keeps g w w' → K (a.put o.dst undef) w') : o.wp Try.prog a w K Q :=
  wp_store_in 25 x y ho g 7 (row .u8 32 f) m.cells _ hx hy t hg (row_info size_hash _) (row_all _ _ _) (by rw [row_size, m.size]; omega) (fun k => by
    rw [MsgR.tag_at, row_size]
    by_cases hk : 7 ≤ k ∧ k < 39
    · rw [if_pos hk, if_pos (by omega), row_get (by omega)]
    · rw [if_neg hk, if_neg (by omega)]) h
theorem wp_store_tagV (x y : Operand) (ho : o.op = .store 25 x y) (g : Nat) (f : Nat → Int) (m : VoteR) (hx : a.eval x = .pointer (some ⟨g, 36, none⟩)) (hy : a.eval y = .agg (row .u8 32 f)) (t : TypeId) (hg : w.heap[g]? = some (.cells m.cells t (0, 0)))
    (h : ∀ w', w'.heap[g]? = some (.cells ({ m with tag := f } : VoteR).cells t (0, 0)) → Keeps g w w' → K (a.put o.dst undef) w') : o.wp Try.prog a w K Q :=
  wp_store_in 25 x y ho g 36 (row .u8 32 f) m.cells _ hx hy t hg (row_info size_hash _) (row_all _ _ _) (by rw [row_size, m.size]; omega) (fun k => by
    rw [VoteR.tag_at, row_size]
    by_cases hk : 36 ≤ k ∧ k < 68
    · rw [if_pos hk, if_pos (by omega), row_get (by omega)]
    · rw [if_neg hk, if_neg (by omega)]) h
end
end Go.Proofs.Ytkjocpadmlobgaa
