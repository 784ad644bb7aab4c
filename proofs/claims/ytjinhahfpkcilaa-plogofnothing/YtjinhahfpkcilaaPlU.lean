/- The offset up to which all is told for good. -/
import Derived.Test.YtjinhahfpkcilaaPlT
namespace Go.Proofs.Ytjinhahfpkcilaa
open Go.RowKit Go.Dig Go.Inv Go.Oct
attribute [local go_sem] Oper.semAt_some
set_option linter.unusedVariables false
set_option linter.unusedSimpArgs false

theorem stab_all {x : Pl} : ∀ {l : List Rc} {i : Nat}, (∀ r ∈ l, x.ended r.key = true) → stab x i l = ((i + l.length : Nat) : Int)
  | [], i, _ => by simp [stab]
  | r :: l, i, h => by
    unfold stab
    rw [if_pos (h r (by simp)), stab_all fun r hr => h r (by simp [hr])]
    simp only [List.length_cons]
    congr 1
    omega
theorem stab_at {x : Pl} : ∀ {l : List Rc} {i k : Nat} {r : Rc}, l[k]? = some r → x.ended r.key = false → (∀ (j : Nat) r', j < k → l[j]? = some r' → x.ended r'.key = true) → stab x i l = ((i + k : Nat) : Int)
  | [], i, k, r, h, _, _ => by simp at h
  | r0 :: l, i, 0, r, h, hn, _ => by
    simp at h; subst h
    unfold stab
    rw [if_neg (by rw [hn]; decide)]; rfl
  | r0 :: l, i, k + 1, r, h, hn, hb => by
    unfold stab
    rw [if_pos (hb 0 r0 (by omega) rfl), stab_at (by simpa using h) hn fun j r' hj hr => hb (j + 1) r' (by omega) (by simpa using hr)]
    congr 1
    omega
/-- those told are the first ones -/
theorem told_at {L : List (Rc × Value)} {f : Nat} {pre : List (Off L)} (h : pre <+: toldK L f) {j : Nat} (hj : j < pre.length) : (pre[j]).1 = f + j := by
  have h1 : (toldK L f)[j]? = some pre[j] := by
    obtain ⟨t, ht⟩ := h
    rw [← ht, List.getElem?_append_left hj, List.getElem?_eq_getElem hj]
  have h2 : f + j < L.length := by
    have := (List.getElem?_eq_some_iff.1 h1).1
    rw [toldK_length] at this; omega
  rw [toldK_at L f j h2] at h1
  exact (congrArg Fin.val (Option.some.inj h1)).symm
theorem blk_turn {A B : World} {row : Option Nat} {b : Nat} {c : Array Value} {t : TypeId} {fr : Nat × Nat} (h : A.heap[b]? = some (.cells c t fr)) (hg : A.grownBy B row) (hr : ∀ r, row = some r → ∃ o : Obj, A.heap[r]? = some o ∧ o.isCells = false) : B.heap[b]? = some (.cells c t fr) :=
  (hg.block b (lt_blk h) (fun e => by
    obtain ⟨o, h1, h2⟩ := hr b e.symm
    rw [h] at h1; cases h1; cases h2)).trans h
theorem results_int {fn : Func} {p : Tmp} (h : fn.results = #[.cell p 3]) (tmps : Array Value) (w : World) (g : Nat) (v : Value) (hp : tmps.getD p undef = .pointer (some ⟨g, 0, none⟩)) (hg : w.cell? ⟨g, 0, none⟩ = some v) : (results fn tmps).run Try.prog w = .ok v w := by
  have hp' : tmps[p]?.getD undef = .pointer (some ⟨g, 0, none⟩) := by simpa using hp
  simp [results, h, hp', asAddr, go_sem, hg]
section
variable {F : Fence} {n : Nat} {ops : Array Oper} {rest : List Oper} {o : Oper} {a : Act} {w : World} {Q : Exit → Act → World → Prop} {K : Act → World → Prop}
theorem zero_Rr : (Try.prog.info? 32).map (·.zero) = some (some (.agg (rrC (⟨0, 0, 0, 0, []⟩, .slice none 0 0)))) := by kernel_rfl
theorem wpListIn_allocRr (hw : Region.wanted o (yielded ops a.tmps) = true) (ho : o.op = .alloc 32) (h : wpListIn F n Try.prog ops Q rest (a.put o.dst (.pointer (some ⟨w.heap.size, 0, none⟩))) (w.alloc (.cells (rrC (⟨0, 0, 0, 0, []⟩, .slice none 0 0)) 32))) :
    wpListIn F n Try.prog ops Q (o :: rest) a w := by
  refine wpListIn_value hw (fun c => by rw [ho]; intro e; cases e) (fun c => by rw [ho]; intro e; cases e) (v := .pointer (some ⟨w.heap.size, 0, none⟩)) (w' := w.alloc (.cells (rrC (⟨0, 0, 0, 0, []⟩, .slice none 0 0)) 32)) ?_ h
  have hz := zero_Rr
  cases hq : Try.prog.info? 32 with
  | none => rw [hq] at hz; cases hz
  | some i =>
    simp [hq] at hz
    unfold execOp
    simp [ho, Instr.alloc, zeroValue, typeInfo, hq, hz, newVar, newRow, Value.cells]
theorem wpListIn_skipped {P : Program} (hw : Region.wanted o (yielded ops a.tmps) = true) (hc : ∀ c, o.op ≠ .call c) (hd : ∀ c, o.op ≠ .defer c) {w' : World} (hr : (execOp a.eval o).run P w = .ok .skip w') (h : wpListIn F n P ops Q rest (a.put o.dst undef) w') : wpListIn F n P ops Q (o :: rest) a w :=
  wpListIn_step fun K hK => by
    rw [if_pos hw]
    refine ⟨fun f hf => (by rw [about_none hc] at hf; cases hf), ?_⟩
    rw [Oper.semAt_plain F _ _ hd, hr]
    exact hK _ _ h
theorem wpListIn_storeRr (hw : Region.wanted o (yielded ops a.tmps) = true) (x y : Operand) (ho : o.op = .store 32 x y) (w0 : World) (z : Rc × Value) (hz1 : z.2.oneCell' = true) (hx : a.eval x = .pointer (some ⟨w0.heap.size, 0, none⟩)) (hy : a.eval y = .agg (rrC z)) (hww : w = w0.alloc (.cells (rrC (⟨0, 0, 0, 0, []⟩, .slice none 0 0)) 32))
    (h : wpListIn F n Try.prog ops Q rest (a.put o.dst undef) (w0.alloc (.cells (rrC z) 32))) : wpListIn F n Try.prog ops Q (o :: rest) a w := by
  subst hww
  have hr := run_storeVar_row (P := Try.prog) (w0.alloc (.cells (rrC (⟨0, 0, 0, 0, []⟩, .slice none 0 0)) 32)) w0.heap.size 32 32 (rrC (⟨0, 0, 0, 0, []⟩, .slice none 0 0)) (rrC z) (alloc_blk _ _) (by kernel_rfl) rfl (rrC_all hz1)
  rw [setRow_new] at hr
  refine wpListIn_skipped hw (fun c => by rw [ho]; intro e; cases e) (fun c => by rw [ho]; intro e; cases e) (w' := w0.alloc (.cells (rrC z) 32)) ?_ h
  unfold execOp
  simp only [ho, hx, hy, Instr.storeAt, Instr.sureAddr, Sem.run_bind, Sem.run_pure, Result.andThen_ok, hr]
theorem wpIn_loadRr (x : Operand) (ho : o.op = .load 32 x) (g off : Nat) (r : Rc × Value) (hx : a.eval x = .pointer (some ⟨g, off, none⟩)) (hc : ∀ i u, (rrC r)[i]? = some u → w.cell? ⟨g, off + i, none⟩ = some u)
    (h : K (a.put o.dst (.agg (rrC r))) w) : o.wpIn F n Try.prog a w K Q := by
  obtain ⟨d, hd1, hd2⟩ := row_of (ty := 32) (by kernel_rfl)
  have hr := run_loadVar_mid (P := Try.prog) w g off 32 (rrC r).toList d (fun j v hv => hc j v (by simpa using hv)) hd1 hd2 (by kernel_rfl)
  refine ⟨fun f hf => (by rw [about_none (by intro c; rw [ho]; intro e; cases e)] at hf; cases hf), ?_⟩
  have hr' : (execOp a.eval o).run Try.prog w = .ok (.value (.agg (rrC r))) w := by
    unfold execOp
    simp only [ho, hx, Instr.loadAt, Instr.sureAddr, Sem.run_bind, Sem.run_pure, Result.andThen_ok, hr]
  rw [Oper.semAt_plain F _ _ (by intro c; rw [ho]; intro e; cases e), hr']
  exact h
end
end Go.Proofs.Ytjinhahfpkcilaa
