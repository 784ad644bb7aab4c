/- More laws of rows of numbers: made with a length and a room, read out of the middle of a block, asked by an index; the cells of a slice of bytes. No condition. -/
import Derived.Test.YtjinhahfpkcilaaDigRow
import Derived.OwnWalk
import Derived.Laws.MakeOwn
namespace Go.Dig
open Go Go.RowKit

theorem row_list (k : IntKind) (n : Nat) (f : Nat → Int) : (row k n f).toList = (List.range n).map fun j => Value.int k (f j) := by simp [row]
theorem made_row (k : IntKind) (n : Nat) : madeCells #[.int k 0] n = row k n (fun _ => 0) := by
  apply Array.ext_getElem?
  intro j
  by_cases hj : j < n
  · rw [row_get hj]; simp [madeCells, hj, Nat.mod_one]
  · rw [row_get_none (Nat.le_of_not_lt hj)]; simp [madeCells, hj]

section
variable {P : Program} {ops : Array Oper} {rest : List Oper} {o : Oper} {a : Act} {w : World} {Q : Exit → Act → World → Prop}
theorem wpList_make_num (hgd : o.guard = none) (l c : Operand) (t : TypeId) (hop : o.op = .makeSlice t l c) (e : TypeId) (i : TypeInfo) (k : IntKind) (h1 : P.underlying t = some (.slice e)) (h2 : P.info? e = some i) (h3 : i.zero = some (.int k 0)) (h4 : i.size = 1)
    (kl kc : IntKind) (L C : Int) (ln n : Nat) (hl : a.eval l = .int kl L) (hc : a.eval c = .int kc C) (hL : L = (ln : Int)) (hC : C = (n : Int)) (hln : ln ≤ n) (hb : (i.bytes : Int) * (n : Int) ≤ 281474976710656) (hm : (n : Int) ≤ 9223372036854775807)
    (h : wpList P ops Q rest (a.put o.dst (.slice (some ⟨w.heap.size, 0, none⟩) ln n)) (w.alloc (.cells (row k n (fun _ => 0)) e))) : wpList P ops Q (o :: rest) a w :=
  wpList_plain hgd fun K hK => by
    have h' := hK _ _ h
    subst hL; subst hC
    have hr := run_make (P := P) w t e i (.int k 0) h1 h2 h3 kl kc (ln : Int) (n : Int) (by omega) (by omega) hb hm
    simp only [Int.toNat_natCast, h4, Nat.mul_one, Value.cells, made_row] at hr
    unfold Oper.wp
    simp [execOp, hop, hl, hc, hr, Result.andThen]
    exact h'
/-- n numbers out of the middle of a block -/
theorem wpList_load_nums (hgd : o.guard = none) (ty : TypeId) (x : Operand) (ho : o.op = .load ty x) (b off : Nat) (hx : a.eval x = .pointer (some ⟨b, off, none⟩)) (k : IntKind) (n : Nat) (f : Nat → Int)
    (hc : ∀ j, j < n → w.cell? ⟨b, off + j, none⟩ = some (.int k (f j))) (m : Nat) (e : TypeId) (hu : P.underlying ty = some (.array m e)) (hi : (P.info? ty).map (·.size) = some n)
    (h : wpList P ops Q rest (a.put o.dst (.agg (row k n f))) w) : wpList P ops Q (o :: rest) a w := by
  refine wpList_load_mid hgd ty x ho b off hx (row k n f).toList _ (fun j v hv => ?_) hu rfl (by simp [row_size, hi]) (by simpa using h)
  have hv' : (row k n f)[j]? = some v := by simpa using hv
  by_cases hj : j < n
  · rw [row_get hj] at hv'; rw [hc j hj]; exact hv'
  · rw [row_get_none (Nat.le_of_not_lt hj)] at hv'; cases hv'
theorem wpList_build_to (hgd : o.guard = none) (t : TypeId) (parts : Array (Nat × Operand)) (ho : o.op = .build t parts) (c : Array Value) (hf : P.built t (parts.map fun (i, x) => (i, a.eval x)).toList = some c)
    (h : wpList P ops Q rest (a.put o.dst (.agg c)) w) : wpList P ops Q (o :: rest) a w :=
  wpList_build hgd t parts ho (by rw [hf]; rfl) (by rw [hf]; exact h)
end
theorem run_index_row {P : Program} (t e : TypeId) (m : Nat) (kd : IntKind) (n : Nat) (f : Nat → Int) (ki : IntKind) (k : Nat) (hu : P.underlying t = some (.array m e)) (hk : k < m) (hn : k < n) (hs : (P.info? e).map (·.size) = some 1)
    (hp : ∀ (cs : Array Value) (off : Nat) (v : Value) (w : World), cs[off]? = some v → (part e cs off).run P w = .ok v w) (w : World) :
    (Instr.index t (.agg (row kd n f)) (.int ki (k : Int))).run P w = .ok (.int kd (f k)) w := by
  have hz : (sizeOf e).run P w = .ok 1 w := by
    cases hq : P.info? e with
    | none => simp [hq] at hs
    | some i => simp [hq] at hs; simp [sizeOf, typeInfo, hq, hs]
  have hk' : (0 : Int) ≤ (k : Int) ∧ (k : Int) < (m : Int) := by omega
  simp [Instr.index, run_underlying hu, asIntOf, hk, hz, hp _ _ _ w (row_get hn)]
end Go.Dig
