/- Laws of single operations: a struct is laid, a whole struct is stored. No condition. -/
import Derived.Test.YtjinhahfpkcilaaPlC
import Derived.Deep.MidRow
import Derived.Deep.Cut
import Derived.Test.YtjinhahfpkcilaaInv4
namespace Go.Proofs.Ytjinhahfpkcilaa
open Go.RowKit Go.Dig Go.Inv
set_option linter.unusedVariables false
set_option linter.unusedSimpArgs false

/-- what setCells makes of a block -/
theorem setCells_blk (g : Nat) (e : TypeId) : ∀ (vs : List Value) (o : Nat) (w : World) (cur : Array Value), w.heap[g]? = some (.cells cur e (0, 0)) →
    ∃ cur', (w.setCells g o vs).heap[g]? = some (.cells cur' e (0, 0)) ∧ cur'.size = cur.size ∧ ∀ k, cur'[k]? = if o ≤ k ∧ k < o + vs.length ∧ k < cur.size then vs[k - o]? else cur[k]?
  | [], o, w, cur, h => ⟨cur, h, rfl, fun k => by rw [if_neg (by simp; omega)]⟩
  | v :: r, o, w, cur, h => by
    obtain ⟨c, h1, h2, h3⟩ := setCells_blk g e r (o + 1) (w.setCell ⟨g, o, none⟩ v) (cur.setIfInBounds o v) (heap_setCell_same w g o cur e v h)
    refine ⟨c, h1, by rw [h2, Array.size_setIfInBounds], fun k => ?_⟩
    rw [h3, Array.size_setIfInBounds, List.length_cons, Array.getElem?_setIfInBounds]
    by_cases hk : k = o
    · subst hk
      by_cases hs : k < cur.size
      · rw [if_neg (by omega), if_pos rfl, if_pos hs, if_pos (by omega)]; simp
      · rw [if_neg (by omega), if_pos rfl, if_neg hs, if_neg (by omega)]; simp; omega
    · by_cases hc : o + 1 ≤ k ∧ k < o + 1 + r.length ∧ k < cur.size
      · rw [if_pos hc, if_pos (by omega), show k - o = (k - (o + 1)) + 1 by omega, List.getElem?_cons_succ]
      · rw [if_neg hc, if_neg (fun e => hk e.symm), if_neg (by omega)]
theorem load_agg (w : World) (g : Nat) (c : Array Value) (ty t : TypeId) (fr : Nat × Nat) (hr : (Try.prog.underlying ty).map (·.isRow) = some true) (h : w.heap[g]? = some (.cells c t fr)) (hi : (Try.prog.info? ty).map (·.size) = some c.size) : (loadVar ty ⟨g, 0, none⟩).run Try.prog w = .ok (.agg c) w := by
  obtain ⟨d, hd1, hd2⟩ := row_of hr
  refine run_loadVar_row w g t ty _ fr d h hd1 ?_ hi
  cases d <;> first | rfl | exact hd2
theorem results_agg {fn : Func} {p : Tmp} {ty : TypeId} (h : fn.results = #[.cell p ty]) (tmps : Array Value) (w : World) (g : Nat) (c : Array Value) (t : TypeId) (fr : Nat × Nat) (hp : tmps.getD p undef = .pointer (some ⟨g, 0, none⟩))
    (hr : (Try.prog.underlying ty).map (·.isRow) = some true) (hg : w.heap[g]? = some (.cells c t fr)) (hi : (Try.prog.info? ty).map (·.size) = some c.size) : (results fn tmps).run Try.prog w = .ok (.agg c) w := by
  have hp' : tmps[p]?.getD undef = .pointer (some ⟨g, 0, none⟩) := by simpa using hp
  simp [results, h, hp', asAddr, load_agg w g c ty t fr hr hg hi]
section
variable {ops : Array Oper} {rest : List Oper} {o : Oper} {a : Act} {w : World} {K : Act → World → Prop} {Q : Exit → Act → World → Prop}
theorem wp_alloc_row (ty : TypeId) (ho : o.op = .alloc ty) (z : Array Value) (hi : (Try.prog.info? ty).map (·.zero) = some (some (.agg z)))
    (h : K (a.put o.dst (.pointer (some ⟨w.heap.size, 0, none⟩))) (w.alloc (.cells z ty))) : o.wp Try.prog a w K Q := by
  cases hq : Try.prog.info? ty with
  | none => simp [hq] at hi
  | some i =>
    simp [hq] at hi
    unfold Oper.wp execOp
    simp [ho, Instr.alloc, zeroValue, typeInfo, hq, hi, newVar, newRow, Value.cells]
    exact h
theorem wp_build_to (t : TypeId) (parts : Array (Nat × Operand)) (ho : o.op = .build t parts) (c : Array Value) (hf : Try.prog.built t (parts.map fun (i, x) => (i, a.eval x)).toList = some c)
    (h : K (a.put o.dst (.agg c)) w) : o.wp Try.prog a w K Q :=
  wp_build t parts ho (by rw [hf]; rfl) (by rw [hf]; exact h)
theorem wp_load_agg (ty : TypeId) (hr : (Try.prog.underlying ty).map (·.isRow) = some true) (x : Operand) (ho : o.op = .load ty x) (g : Nat) (c : Array Value) (t : TypeId) (fr : Nat × Nat) (hx : a.eval x = .pointer (some ⟨g, 0, none⟩)) (hg : w.heap[g]? = some (.cells c t fr))
    (hi : (Try.prog.info? ty).map (·.size) = some c.size) (h : K (a.put o.dst (.agg c)) w) : o.wp Try.prog a w K Q := by
  obtain ⟨d, hd1, hd2⟩ := row_of hr
  refine wp_load_mid ty x ho g 0 hx c.toList d (fun j v hv => ?_) hd1 hd2 (by rw [Array.length_toList]; exact hi) (by simpa using h)
  rw [Nat.zero_add, cell_blk hg]; simpa using hv
theorem wpList_load_agg (hgd : o.guard = none) (ty : TypeId) (hr : (Try.prog.underlying ty).map (·.isRow) = some true) (x : Operand) (ho : o.op = .load ty x) (g : Nat) (c : Array Value) (t : TypeId) (fr : Nat × Nat) (hx : a.eval x = .pointer (some ⟨g, 0, none⟩)) (hg : w.heap[g]? = some (.cells c t fr))
    (hi : (Try.prog.info? ty).map (·.size) = some c.size) (h : wpList Try.prog ops Q rest (a.put o.dst (.agg c)) w) : wpList Try.prog ops Q (o :: rest) a w :=
  wpList_plain hgd fun K hK => wp_load_agg ty hr x ho g c t fr hx hg hi (hK _ _ h)
/-- a struct goes where one lies -/
theorem wp_store_whole (ty : TypeId) (x y : Operand) (ho : o.op = .store ty x y) (g : Nat) (c old : Array Value) (hx : a.eval x = .pointer (some ⟨g, 0, none⟩)) (hy : a.eval y = .agg c) (t : TypeId) (hg : w.heap[g]? = some (.cells old t (0, 0)))
    (hi : (Try.prog.info? ty).map (·.size) = some c.size) (h1 : c.all (·.oneCell') = true) (hs : c.size = old.size)
    (h : ∀ w', w'.heap[g]? = some (.cells c t (0, 0)) → Keeps g w w' → K (a.put o.dst undef) w') : o.wp Try.prog a w K Q := by
  refine wp_store_mid ty x y ho g 0 c hx hy (fun j hj => ?_) hi h1 (h _ ?_ (Keeps.setCells _ _ (Keeps.refl _ _)))
  · exact ⟨by rw [cell_blk hg, Array.getElem?_eq_getElem (by omega)]; rfl, frozen_blk hg _⟩
  · obtain ⟨c', h1, h2, h3⟩ := setCells_blk g t c.toList 0 w old hg
    have hc : c' = c := Array.ext_getElem? fun k => by
      rw [h3, Array.length_toList, Array.getElem?_toList]
      by_cases hk : k < c.size
      · rw [if_pos (by omega)]; rfl
      · rw [if_neg (by omega), Array.getElem?_eq_none (by omega), Array.getElem?_eq_none (by omega)]
    rw [h1, hc]
theorem wpList_store_whole (hgd : o.guard = none) (ty : TypeId) (x y : Operand) (ho : o.op = .store ty x y) (g : Nat) (c old : Array Value) (hx : a.eval x = .pointer (some ⟨g, 0, none⟩)) (hy : a.eval y = .agg c) (t : TypeId) (hg : w.heap[g]? = some (.cells old t (0, 0)))
    (hi : (Try.prog.info? ty).map (·.size) = some c.size) (h1 : c.all (·.oneCell') = true) (hs : c.size = old.size)
    (h : ∀ w', w'.heap[g]? = some (.cells c t (0, 0)) → Keeps g w w' → wpList Try.prog ops Q rest (a.put o.dst undef) w') : wpList Try.prog ops Q (o :: rest) a w :=
  wpList_plain hgd fun K hK => wp_store_whole ty x y ho g c old hx hy t hg hi h1 hs fun w' h1 h2 => hK _ _ (h w' h1 h2)
end
theorem rrC_all {x : Rc × Value} (h : x.2.oneCell' = true) : (rrC x).all (·.oneCell') = true := by
  simp [rrC]
  exact ⟨rfl, rfl, rfl, rfl, h⟩
theorem kyC_all (x : Ky) : (kyC x).all (·.oneCell') = true := by
  simp [kyC]
  exact ⟨rfl, rfl, rfl⟩
end Go.Proofs.Ytjinhahfpkcilaa
