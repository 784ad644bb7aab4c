/- Rows of votes that the call owns: appended to. For rows of up to a thousand votes. -/
import Derived.Test.YtkjocpadmlobgaaWireD
import Derived.Test.YtkjocpadmlobgaaOct
import Derived.Deep.AppendLies
import Derived.Great.BuildSlice
namespace Go.Proofs.Ytkjocpadmlobgaa
open Go.RowKit Go.Dig Go.Inv Go.Oct
set_option linter.unusedVariables false

def votesRC (zs : List VoteR) : List Value := zs.flatMap fun z => z.cells.toList
theorem votesRC_append (a b : List VoteR) : votesRC (a ++ b) = votesRC a ++ votesRC b := by simp [votesRC]
theorem votesRC_length (zs : List VoteR) : (votesRC zs).length = zs.length * 68 := by
  induction zs with
  | nil => rfl
  | cons z t ih =>
    have hz : z.cells.toList.length = 68 := by rw [Array.length_toList, VoteR.size]
    unfold votesRC at *
    rw [List.flatMap_cons, List.length_append, ih, hz, List.length_cons]; omega
theorem votesRC_at (zs : List VoteR) : ∀ (j : Nat) (hj : j < zs.length) (i : Nat), i < 68 → (votesRC zs)[j * 68 + i]? = zs[j].cells[i]? := by
  induction zs with
  | nil => intro j hj; simp at hj
  | cons z t ih =>
    intro j hj i hi
    unfold votesRC at *
    rw [List.flatMap_cons, List.getElem?_append]
    have hz : z.cells.toList.length = 68 := by rw [Array.length_toList, VoteR.size]
    rw [hz]
    cases j with
    | zero => rw [if_pos (by omega)]; simp
    | succ j => rw [if_neg (by omega), show (j + 1) * 68 + i - 68 = j * 68 + i by omega, ih j (by simpa using hj) i hi]; simp
theorem votesRC_one (zs : List VoteR) : ∀ u ∈ votesRC zs, u.oneCell' = true := fun u hu => by
  unfold votesRC at hu
  obtain ⟨z, -, hz⟩ := List.mem_flatMap.1 hu
  exact (Array.all_eq_true_iff_forall_mem.1 z.all) u (by simpa using hz)
theorem info_voteR : (Try.prog.info? 62).map (fun i => (i.zero, i.size, i.bytes)) = some (some (.agg VoteR.zero.cells), 68, 96) := by kernel_rfl
/-- a row of votes that the call owns -/
def OwnVR (w : World) (base : Nat) (v : Value) (zs : List VoteR) : Prop := w.ownsRow base 62 68 v zs.length (votesRC zs)
theorem OwnVR.nil (w : World) (base : Nat) : OwnVR w base (.slice none 0 0) [] := World.ownsRow_nil w base _ 68
theorem OwnVR.lt {w : World} {base : Nat} {v : Value} {zs : List VoteR} (h : OwnVR w base v zs) : ∀ k, v.ownBlock = some k → base ≤ k ∧ k < w.heap.size := World.ownsRow.lt h
theorem OwnVR.same {w w' : World} {base : Nat} {v : Value} {zs : List VoteR} (h : OwnVR w base v zs) (hb : ∀ k, v.ownBlock = some k → w'.heap[k]? = w.heap[k]?) : OwnVR w' base v zs := by
  refine ⟨h.1, ?_⟩
  rcases h.2 with hn | ⟨g, cap, cur, rfl, hb', hgg, rest⟩
  · exact .inl hn
  · exact .inr ⟨g, cap, cur, rfl, hb', (hb g rfl).trans hgg, rest⟩
/-- as it is handed about -/
theorem OwnVR.form {w : World} {base : Nat} {v : Value} {zs : List VoteR} (h : OwnVR w base v zs) : ∃ ao cap, v = .slice ao zs.length cap ∧ VotesAt w ao zs ∧ ∀ ad, ao = some ad → base ≤ ad.block ∧ ad.block < w.heap.size := by
  have hlt := h.lt
  rcases h.2 with ⟨rfl, h0⟩ | ⟨g, cap, cur, rfl, hb, hgg, hc, hm, hs, ht⟩
  · rw [h0]
    exact ⟨none, 0, rfl, fun hne => absurd (List.eq_nil_of_length_eq_zero h0) hne, fun ad e => by cases e⟩
  · refine ⟨some ⟨g, 0, none⟩, cap, rfl, fun _ => ⟨g, 0, rfl, fun j hj i hi => ?_⟩, fun ad e => by cases e; exact hlt g rfl⟩
    have hlt : j * 68 + i < zs.length * 68 := by
      have : (j + 1) * 68 ≤ zs.length * 68 := Nat.mul_le_mul_right _ hj
      omega
    have := congrArg (fun l => l[j * 68 + i]?) ht
    simp only [List.getElem?_take, if_pos hlt, Array.getElem?_toList] at this
    rw [cell_blk hgg, Nat.zero_add, this, votesRC_at zs j hj i hi]
theorem run_appVR (w : World) (base ty : Nat) (v : Value) (zs : List VoteR) (hown : OwnVR w base v zs) (b o c : Nat) (y : VoteR) (hV : VoteAt w b o y) (hb : zs.length + 1 ≤ 1000) (hbase : base ≤ w.heap.size) (hc1 : 1 ≤ c) :
    ∃ v' w', (Builtin.append_ #[23, 23] ty #[v, .slice (some ⟨b, o, none⟩) 1 c]).run Try.prog w = .ok v' w' ∧ OwnVR w' base v' (zs ++ [y]) ∧ Gr w w' v v' := by
  obtain ⟨i8, hi, hz0, hz1, hz2⟩ := info_parts info_voteR
  have e1 : votesRC [y] = y.cells.toList := by simp [votesRC]
  have hcs : ∀ j u, (votesRC [y])[j]? = some u → w.cell? ((⟨b, o, none⟩ : Addr).add j) = some u := fun j u hu => by
    have hj : j < 68 := by have := (List.getElem?_eq_some_iff.1 hu).1; rwa [votesRC_length] at this
    rw [addr_add, hV j hj, ← hu, e1, Array.getElem?_toList]
  obtain ⟨v', w', hr, h1, hg, _, h5⟩ := run_append_own_at (P := Try.prog) w base 23 ty 62 i8 (.agg VoteR.zero.cells) 68 96 (by kernel_rfl) hi hz0 hz1 hz2 VoteR.zero.size (by omega) v zs.length _ hown ⟨b, o, none⟩ 1 c (votesRC [y]) (votesRC_length [y]) hcs (votesRC_one [y]) (by unfold maxLen; omega) (by omega) hbase
  refine ⟨v', w', hr, ?_, hg.os, hg.tape, hg.output, hg.size, fun k hk hne => hg.block k hk (fun e => hne e.symm), fun k hk => ?_⟩
  · unfold OwnVR
    rw [votesRC_append, List.length_append]; exact h1
  · rcases h5 with h5 | h5
    · exact .inl (h5.symm.trans hk)
    · rw [h5] at hk; cases hk; exact .inr (Nat.le_refl _)
theorem wpList_appVR {ops : Array Oper} {rest : List Oper} {o : Oper} {a : Act} {w : World} {Q : Exit → Act → World → Prop} (hgd : o.guard = none) (s x : Operand) (ho : o.op = .call { callee := .builtin .append, args := #[s, x], argTypes := #[23, 23] }) (base : Nat) (v : Value) (zs : List VoteR) (hs : a.eval s = v) (b off c : Nat) (y : VoteR) (hx : a.eval x = .slice (some ⟨b, off, none⟩) 1 c)
    (hown : OwnVR w base v zs) (hV : VoteAt w b off y) (hb : zs.length + 1 ≤ 1000) (hbase : base ≤ w.heap.size) (hc1 : 1 ≤ c)
    (h : ∀ v' w', OwnVR w' base v' (zs ++ [y]) → Gr w w' v v' → wpList Try.prog ops Q rest (a.put o.dst v') w') : wpList Try.prog ops Q (o :: rest) a w := by
  obtain ⟨v', w', hrun, h1, h2⟩ := run_appVR w base o.type v zs hown b off c y hV hb hbase hc1
  refine wpList_plain hgd fun K hK' => ?_
  unfold Oper.wp
  simp [execOp, ho, resolve, invoke, builtin, hs, hx, hrun, Result.andThen]
  exact hK' _ _ (h v' w' h1 h2)
theorem vote_partsH : (Try.prog.info? 62).map (fun i => (i.zero, i.size)) = some (some (.agg VoteR.zero.cells), 68) := by kernel_rfl
/-- a row of one vote is laid -/
theorem wpList_row_voteH {ops : Array Oper} {rest : List Oper} {o : Oper} {a : Act} {w : World} {Q : Exit → Act → World → Prop} (hgd : o.guard = none) (x : Operand) (ho : o.op = .buildSlice 23 1 #[(0, x)]) (y : VoteR) (hx : a.eval x = .agg y.cells)
    (h : wpList Try.prog ops Q rest (a.put o.dst (.slice (some ⟨w.heap.size, 0, none⟩) 1 1)) (w.alloc (.cells y.cells 62))) : wpList Try.prog ops Q (o :: rest) a w := by
  have hp := vote_partsH
  cases hie : Try.prog.info? 62 with
  | none => rw [hie] at hp; cases hp
  | some ie =>
    rw [hie] at hp
    simp at hp
    obtain ⟨hz, hs⟩ := hp
    refine wpList_buildSlice hgd 23 62 1 _ ho y.cells ie _ (by kernel_rfl) hie hz (by rw [hs]; decide) (by rw [hs]; decide) ?_ h
    have := Great.fill_whole (s := 68) (by decide) [Value.agg y.cells] ((Array.range (1 * ie.size)).map ((Value.agg VoteR.zero.cells).cells[· % (Value.agg VoteR.zero.cells).cells.size]!)) (fun v hv => by
      simp at hv; subst hv; exact y.size) (by simp [hs])
    simp [hx, hs] at this ⊢
    exact this
end Go.Proofs.Ytkjocpadmlobgaa
