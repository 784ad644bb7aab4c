/- Rows of votes that the call owns: appended to, read again. For rows of up to a thousand votes. -/
import Derived.Test.YticpkpphjpgdbaaCertK
import Derived.Deep.AppendLies
namespace Go.Proofs.Yticpkpphjpgdbaa
open Go.RowKit Go.Dig Go.Sha Go.Inv Go.Oct

def votesC (zs : List VoteW) : List Value := zs.flatMap fun z => z.1.cells.toList
theorem votesC_append (a b : List VoteW) : votesC (a ++ b) = votesC a ++ votesC b := by simp [votesC]
theorem votesC_length (zs : List VoteW) : (votesC zs).length = zs.length * 68 := by
  induction zs with
  | nil => rfl
  | cons z t ih =>
    have hz : z.1.cells.toList.length = 68 := by rw [Array.length_toList, VoteR.size]
    unfold votesC at *
    rw [List.flatMap_cons, List.length_append, ih, hz, List.length_cons]; omega
theorem votesC_at (zs : List VoteW) : ∀ (j : Nat) (hj : j < zs.length) (i : Nat), i < 68 → (votesC zs)[j * 68 + i]? = zs[j].1.cells[i]? := by
  induction zs with
  | nil => intro j hj; simp at hj
  | cons z t ih =>
    intro j hj i hi
    unfold votesC at *
    rw [List.flatMap_cons, List.getElem?_append]
    have hz : z.1.cells.toList.length = 68 := by rw [Array.length_toList, VoteR.size]
    rw [hz]
    cases j with
    | zero => rw [if_pos (by omega)]; simp
    | succ j => rw [if_neg (by omega), show (j + 1) * 68 + i - 68 = j * 68 + i by omega, ih j (by simpa using hj) i hi]; simp
theorem votesC_one (zs : List VoteW) : ∀ u ∈ votesC zs, u.oneCell' = true := fun u hu => by
  unfold votesC at hu
  obtain ⟨z, -, hz⟩ := List.mem_flatMap.1 hu
  exact (Array.all_eq_true_iff_forall_mem.1 z.1.all) u (by simpa using hz)
theorem info_vote : (Try.prog.info? 51).map (fun i => (i.zero, i.size, i.bytes)) = some (some (.agg VoteR.zero.cells), 68, 96) := by kernel_rfl
/-- a row of votes that the call owns -/
def OwnV (w : World) (base : Nat) (v : Value) (zs : List VoteW) : Prop := w.ownsRow base 51 68 v zs.length (votesC zs)
theorem OwnV.nil (w : World) (base : Nat) : OwnV w base (.slice none 0 0) [] := World.ownsRow_nil w base _ 68
theorem OwnV.alloc {w : World} {base : Nat} {v : Value} {zs : List VoteW} (h : OwnV w base v zs) (o : Obj) : OwnV (w.alloc o) base v zs := World.ownsRow.alloc h o
theorem OwnV.lt {w : World} {base : Nat} {v : Value} {zs : List VoteW} (h : OwnV w base v zs) : ∀ k, v.ownBlock = some k → base ≤ k ∧ k < w.heap.size := World.ownsRow.lt h
theorem OwnV.same {w w' : World} {base : Nat} {v : Value} {zs : List VoteW} (h : OwnV w base v zs) (hb : ∀ k, v.ownBlock = some k → w'.heap[k]? = w.heap[k]?) : OwnV w' base v zs := by
  refine ⟨h.1, ?_⟩
  rcases h.2 with hn | ⟨g, cap, cur, rfl, hb', hgg, rest⟩
  · exact .inl hn
  · exact .inr ⟨g, cap, cur, rfl, hb', (hb g rfl).trans hgg, rest⟩
theorem OwnV.below {w w' : World} {base : Nat} {v : Value} {zs : List VoteW} (h : OwnV w base v zs) (hB : Below w.heap.size w w') : OwnV w' base v zs := h.same fun k hk => hB.block k (h.lt k hk).2
theorem OwnV.mono {w : World} {base b : Nat} {v : Value} {zs : List VoteW} (h : OwnV w base v zs) (hb : b ≤ base) : OwnV w b v zs := by
  refine ⟨h.1, ?_⟩
  rcases h.2 with hn | ⟨g, cap, cur, e, hb', rest⟩
  · exact .inl hn
  · exact .inr ⟨g, cap, cur, e, Nat.le_trans hb hb', rest⟩
/-- as it is handed about -/
theorem OwnV.form {w : World} {base : Nat} {v : Value} {zs : List VoteW} (h : OwnV w base v zs) : ∃ ao cap, v = .slice ao zs.length cap ∧ VotesIn w ao cap zs := by
  rcases h.2 with ⟨rfl, h0⟩ | ⟨g, cap, cur, rfl, hb, hgg, hc, hm, hs, ht⟩
  · rw [h0]
    exact ⟨none, 0, rfl, by omega, by unfold maxLen; omega, fun _ => rfl, fun j hj => by omega⟩
  · refine ⟨some ⟨g, 0, none⟩, cap, rfl, hc, hm, (fun e => by cases e), fun j hj => ⟨g, 0, rfl, fun i hi => ?_⟩⟩
    have hlt : j * 68 + i < zs.length * 68 := by
      have : (j + 1) * 68 ≤ zs.length * 68 := Nat.mul_le_mul_right _ hj
      omega
    have := congrArg (fun l => l[j * 68 + i]?) ht
    simp only [List.getElem?_take, if_pos hlt, Array.getElem?_toList] at this
    rw [cell_blk hgg, Nat.zero_add, this, votesC_at zs j hj i hi]
/-- a new row of votes, as a literal lays it -/
theorem ownV_new (w : World) (zs : List VoteW) (hz : zs.length ≤ 1000) : OwnV (w.alloc (.cells (rowV (zs.map (·.1))) 51)) w.heap.size (.slice (some ⟨w.heap.size, 0, none⟩) zs.length zs.length) zs := by
  have e : (rowV (zs.map (·.1))).toList = votesC zs := by simp [rowV, votesC]
  refine ⟨votesC_length zs, .inr ⟨w.heap.size, zs.length, _, rfl, Nat.le_refl _, alloc_blk _ _, Nat.le_refl _, by unfold maxLen; omega, ?_, ?_⟩⟩
  · rw [← Array.length_toList, e, votesC_length]
  · rw [e, List.take_of_length_le (by rw [votesC_length]; exact Nat.le_refl _)]
theorem run_appV (w : World) (base ty : Nat) (v : Value) (zs : List VoteW) (hown : OwnV w base v zs) (ad : Addr) (m c : Nat) (ys : List VoteW) (hm : m = ys.length) (hV : VotesIn w (some ad) c ys)
    (hb : zs.length + m ≤ 1000) (hbase : base ≤ w.heap.size) :
    ∃ v' w', (Builtin.append_ #[23, 23] ty #[v, .slice (some ad) m c]).run Try.prog w = .ok v' w' ∧ OwnV w' base v' (zs ++ ys) ∧ Gr w w' v v' := by
  subst hm
  obtain ⟨i8, hi, hz0, hz1, hz2⟩ := info_parts info_vote
  have hcs : ∀ j u, (votesC ys)[j]? = some u → w.cell? (ad.add j) = some u := fun j u hu => by
    have hj : j < ys.length * 68 := by have := (List.getElem?_eq_some_iff.1 hu).1; rwa [votesC_length] at this
    have hq : j / 68 < ys.length := by omega
    obtain ⟨b, o, e, hv⟩ := hV.at_ (j / 68) hq
    cases e
    have h1 := hv (j % 68) (by omega)
    have h2 := votesC_at ys (j / 68) hq (j % 68) (by omega)
    rw [show j / 68 * 68 + j % 68 = j by omega] at h2
    rw [addr_add, ← hu, h2, ← h1, show o + j = o + j / 68 * 68 + j % 68 by omega]
  obtain ⟨v', w', hr, h1, hg, _, h5⟩ := run_append_own_at (P := Try.prog) w base 23 ty 51 i8 (.agg VoteR.zero.cells) 68 96 (by kernel_rfl) hi hz0 hz1 hz2 VoteR.zero.size (by omega) v zs.length _ hown ad ys.length c (votesC ys) (votesC_length ys) hcs (votesC_one ys) (by unfold maxLen; omega) (by omega) hbase
  refine ⟨v', w', hr, ?_, hg.os, hg.tape, hg.output, hg.size, fun k hk hne => hg.block k hk (fun e => hne e.symm), fun k hk => ?_⟩
  · unfold OwnV
    rw [votesC_append, List.length_append]; exact h1
  · rcases h5 with h5 | h5
    · exact .inl (h5.symm.trans hk)
    · rw [h5] at hk; cases hk; exact .inr (Nat.le_refl _)
section
variable {ops : Array Oper} {rest : List Oper} {o : Oper} {a : Act} {w : World} {Q : Exit → Act → World → Prop}
/-- append(l, l2...), of votes -/
theorem wpList_appV (hgd : o.guard = none) (s x : Operand) (ho : o.op = .call { callee := .builtin .append, args := #[s, x], argTypes := #[23, 23] }) (base : Nat) (v : Value) (zs : List VoteW) (hs : a.eval s = v) (ao : Option Addr) (m c : Nat) (ys : List VoteW) (hx : a.eval x = .slice ao m c) (hm : m = ys.length)
    (hown : OwnV w base v zs) (hV : VotesIn w ao c ys) (hb : zs.length + m ≤ 1000) (hbase : base ≤ w.heap.size)
    (h : ∀ v' w', OwnV w' base v' (zs ++ ys) → Gr w w' v v' → wpList Try.prog ops Q rest (a.put o.dst v') w') : wpList Try.prog ops Q (o :: rest) a w := by
  cases ao with
  | none =>
    have hc := hV.nil rfl
    have hl := hV.le
    obtain rfl : ys = [] := List.eq_nil_of_length_eq_zero (by omega)
    subst hm hc
    obtain ⟨i8, hi, hz0, hz1, hz2⟩ := info_parts info_vote
    have hrun := run_append_owned_none (P := Try.prog) w base 23 o.type 51 i8 68 (by kernel_rfl) hi v zs.length (votesC zs) hown
    refine wpList_plain hgd fun K hK' => ?_
    unfold Oper.wp
    simp [execOp, ho, resolve, invoke, builtin, hs, hx, hrun, Result.andThen]
    exact hK' _ _ (h v w (by rw [List.append_nil]; exact hown) (Gr.refl _ _))
  | some ad =>
    obtain ⟨v', w', hrun, h1, h2⟩ := run_appV w base o.type v zs hown ad m c ys hm hV hb hbase
    refine wpList_plain hgd fun K hK' => ?_
    unfold Oper.wp
    simp [execOp, ho, resolve, invoke, builtin, hs, hx, hrun, Result.andThen]
    exact hK' _ _ (h v' w' h1 h2)
end
end Go.Proofs.Yticpkpphjpgdbaa
