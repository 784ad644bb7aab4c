/- Rows of marks within the body of a range over a function. No condition. -/
import Derived.Test.YtoihfhlelbdboabCoH
namespace Go.Proofs.Ytoihfhlelbdboab
open Go.RowKit Go.Dig Go.Inv Go.Oct Go.Hold
set_option linter.unusedVariables false
set_option linter.unusedSimpArgs false
theorem wpIn_appM1 {F : Fence} {n : Nat} {o : Oper} {a : Act} {w : World} {K : Act → World → Prop} {Q : Exit → Act → World → Prop} (s x : Operand) (ho : o.op = .call { callee := .builtin .append, args := #[s, x], argTypes := #[28, 28] }) (base : Nat) (v : Value) (L : List Mk) (hs : a.eval s = v) (g : Nat) (y : Mk) (hx : a.eval x = .slice (some ⟨g, 0, none⟩) 1 1)
    (hown : OwnM w base v L) (t : TypeId) (hg : w.heap[g]? = some (.cells y.cells t (0, 0))) (hb : L.length + 1 ≤ 100000) (hbase : base ≤ w.heap.size)
    (h : ∀ v' w', OwnM w' base v' (L ++ [y]) → Gr w w' v v' → K (a.put o.dst v') w') : o.wpIn F n Try.prog a w K Q := by
  obtain ⟨v', w', hrun, h1, h2⟩ := run_appM w base o.type v L hown ⟨g, 0, none⟩ 1 1 [y] rfl (fun j u hu => by rw [addr_add, Nat.zero_add, cell_blk hg]; simpa [mkC] using hu) (by simpa using hb) hbase
  unfold Oper.wpIn
  refine ⟨?_, ?_⟩
  · simp [Oper.about, ho, resolve, Target.leads, Sem.run_pure]
  · rw [Oper.semAt_eq _ _ _ (by intro c; rw [ho]; simp)]
    simp [execOp, ho, resolve, invoke, builtin, hs, hx, hrun, Result.andThen, Oper.uponIn]
    exact h v' w' h1 h2
theorem wpIn_rowM {F : Fence} {n : Nat} {o : Oper} {a : Act} {w : World} {K : Act → World → Prop} {Q : Exit → Act → World → Prop} (x : Operand) (ho : o.op = .buildSlice 28 1 #[(0, x)]) (y : Mk) (hx : a.eval x = .agg y.cells)
    (h : K (a.put o.dst (.slice (some ⟨w.heap.size, 0, none⟩) 1 1)) (w.alloc (.cells y.cells 65))) : o.wpIn F n Try.prog a w K Q := by
  have hp := parts_M
  cases hie : Try.prog.info? 65 with
  | none => rw [hie] at hp; cases hp
  | some ie =>
    rw [hie] at hp
    simp at hp
    obtain ⟨hz, hs⟩ := hp
    have hf : Instr.fill (fun i => some (i * ie.size, ie.size)) ((Array.range (1 * ie.size)).map ((Value.agg (Mk.cells ⟨0, 0, 0, 0⟩)).cells[· % (Value.agg (Mk.cells ⟨0, 0, 0, 0⟩)).cells.size]!)) (((#[(0, x)] : Array (Nat × Operand)).map fun (i, x) => (i, a.eval x)).toList) = some y.cells := by
      have := Great.fill_whole (s := 4) (by decide) [.agg y.cells] ((Array.range (1 * ie.size)).map ((Value.agg (Mk.cells ⟨0, 0, 0, 0⟩)).cells[· % (Value.agg (Mk.cells ⟨0, 0, 0, 0⟩)).cells.size]!)) (fun v hv => by
        simp at hv; subst hv; rfl) (by simp [hs])
      simp [hx, hs] at this ⊢
      exact this
    have hrun := run_buildSlice (P := Try.prog) w 28 65 1 _ y.cells ie _ (by kernel_rfl) hie hz (by rw [hs]; decide) (by rw [hs]; decide) hf
    unfold Oper.wpIn
    refine ⟨?_, ?_⟩
    · simp [Oper.about, ho]
    · rw [Oper.semAt_eq _ _ _ (by intro c; rw [ho]; simp)]
      unfold execOp
      simp only [ho, Sem.run_bind, hrun, Result.andThen_ok]
      exact h
end Go.Proofs.Ytoihfhlelbdboab
