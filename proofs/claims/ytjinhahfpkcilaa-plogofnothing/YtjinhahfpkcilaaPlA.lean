/- Rows of numbers, records, transactions that somebody owns (mkPlA.py). No condition. -/
import Derived.Test.YtjinhahfpkcilaaPlK
import Derived.Great.BuildSlice
import Derived.Deep.MidRow
namespace Go.Proofs.Ytjinhahfpkcilaa
open Go.RowKit Go.Dig Go.Inv
set_option linter.unusedVariables false
set_option linter.unusedSimpArgs false

def nnC (z : Int) : Array Value := #[.int .i64 z]
def rrC (x : Rc × Value) : Array Value := #[.int .i64 x.1.p, .int .i64 x.1.e, .int .i64 x.1.t, .int .i64 x.1.s, x.2]
def ssC (s : Sp) : Array Value := #[.int .i64 s.p, .int .i64 s.e, .int .i64 s.t, .int .i64 s.f, .int .i64 s.k]
theorem row_of {ty : TypeId} (h : (Try.prog.underlying ty).map (·.isRow) = some true) : ∃ d, Try.prog.underlying ty = some d ∧ d.isRow = true := by
  cases hd : Try.prog.underlying ty with
  | none => rw [hd] at h; cases h
  | some d => rw [hd] at h; exact ⟨d, rfl, by simpa using h⟩

/-- a row of numbers that somebody owns -/
def NnC (L : List (Int)) : List Value := L.flatMap fun x => (nnC x).toList
theorem NnC_length : ∀ L : List (Int), (NnC L).length = L.length * 1
  | [] => rfl
  | z :: r => by
    have h := NnC_length r
    have e : NnC (z :: r) = (nnC z).toList ++ NnC r := rfl
    rw [e, List.length_append, h, List.length_cons]; simp [nnC]; omega
theorem NnC_append (a b : List (Int)) : NnC (a ++ b) = NnC a ++ NnC b := by unfold NnC; rw [List.flatMap_append]
theorem NnC_get : ∀ {L : List (Int)} {j i : Nat} {m : Int} {u : Value}, L[j]? = some m → i < 1 → (nnC m)[i]? = some u → (NnC L)[j * 1 + i]? = some u
  | [], j, i, m, u, h, _, _ => by simp at h
  | a :: r, 0, i, m, u, h, hi, hu => by
    simp at h
    subst h
    have e : NnC (a :: r) = (nnC a).toList ++ NnC r := rfl
    rw [e, Nat.zero_mul, Nat.zero_add, List.getElem?_append_left (by simp [nnC]; omega), Array.getElem?_toList]
    exact hu
  | a :: r, j + 1, i, m, u, h, hi, hu => by
    simp at h
    have e : NnC (a :: r) = (nnC a).toList ++ NnC r := rfl
    have hl : (nnC a).toList.length = 1 := by simp [nnC]
    rw [e, List.getElem?_append_right (by omega), hl, show (j + 1) * 1 + i - 1 = j * 1 + i by omega]
    exact NnC_get h hi hu
def OwnNn (w : World) (base : Nat) (v : Value) (L : List (Int)) : Prop := w.ownsRow base 3 1 v L.length (NnC L)
theorem OwnNn.nil (w : World) (base : Nat) : OwnNn w base (.slice none 0 0) [] := World.ownsRow_nil w base _ 1
theorem OwnNn.lt {w : World} {base : Nat} {v : Value} {L : List (Int)} (h : OwnNn w base v L) : ∀ k, v.ownBlock = some k → base ≤ k ∧ k < w.heap.size := World.ownsRow.lt h
theorem OwnNn.same {w w' : World} {base : Nat} {v : Value} {L : List (Int)} (h : OwnNn w base v L) (hb : ∀ k, v.ownBlock = some k → w'.heap[k]? = w.heap[k]?) : OwnNn w' base v L := by
  refine ⟨h.1, ?_⟩
  rcases h.2 with hn | ⟨g, cap, cur, rfl, hb', hgg, rest⟩
  · exact .inl hn
  · exact .inr ⟨g, cap, cur, rfl, hb', (hb g rfl).trans hgg, rest⟩
theorem OwnNn.below {w w' : World} {base : Nat} {v : Value} {L : List (Int)} (h : OwnNn w base v L) (hB : Below w.heap.size w w') : OwnNn w' base v L := h.same fun k hk => hB.block k (h.lt k hk).2
theorem OwnNn.mono {w : World} {base b : Nat} {v : Value} {L : List (Int)} (h : OwnNn w base v L) (hb : b ≤ base) : OwnNn w b v L := by
  refine ⟨h.1, ?_⟩
  rcases h.2 with hn | ⟨g, cap, cur, e, hb', rest⟩
  · exact .inl hn
  · exact .inr ⟨g, cap, cur, e, Nat.le_trans hb hb', rest⟩
theorem OwnNn.form {w : World} {base : Nat} {v : Value} {L : List (Int)} (h : OwnNn w base v L) : ∃ ao cap, v = .slice ao L.length cap := by
  rcases h.2 with ⟨rfl, h0⟩ | ⟨g, cap, cur, rfl, _⟩
  · rw [h0]; exact ⟨none, 0, rfl⟩
  · exact ⟨_, cap, rfl⟩
theorem OwnNn.at {w : World} {base : Nat} {v : Value} {L : List (Int)} (h : OwnNn w base v L) (hn : 0 < L.length) : ∃ g c, v = .slice (some ⟨g, 0, none⟩) L.length c ∧ base ≤ g ∧ g < w.heap.size ∧ ∀ (j : Nat) (m : Int), L[j]? = some m → ∀ i u, (nnC m)[i]? = some u → w.cell? ⟨g, j * 1 + i, none⟩ = some u := by
  rcases h.2 with ⟨e, h0⟩ | ⟨g, cap, cur, e, hb, hg, _⟩
  · omega
  · subst e
    refine ⟨g, cap, rfl, hb, lt_blk hg, fun j m hm i u hu => ?_⟩
    have hi : i < 1 := by
      have := (Array.getElem?_eq_some_iff.1 hu).1
      simpa [nnC] using this
    have := World.ownsRow.cells h (g := g) rfl (j * 1 + i) u (NnC_get hm hi hu)
    rwa [addr_add, Nat.zero_add] at this
theorem info_Nn : (Try.prog.info? 3).map (fun i => (i.zero, i.size, i.bytes)) = some (some (.int .i64 0), 1, 8) := by kernel_rfl
theorem parts_Nn : (Try.prog.info? 3).map (fun i => (i.zero, i.size)) = some (some (.int .i64 0), 1) := by kernel_rfl
theorem run_appNn (w : World) (base ty : Nat) (v : Value) (L : List (Int)) (hown : OwnNn w base v L) (ad : Addr) (m c : Nat) (N : List (Int)) (hm : m = N.length) (h1 : ∀ u ∈ NnC N, u.oneCell' = true) (hN : ∀ j u, (NnC N)[j]? = some u → w.cell? (ad.add j) = some u)
    (hb : L.length + m ≤ 100000) (hbase : base ≤ w.heap.size) :
    ∃ v' w', (Builtin.append_ #[61, 61] ty #[v, .slice (some ad) m c]).run Try.prog w = .ok v' w' ∧ OwnNn w' base v' (L ++ N) ∧ Gr w w' v v' := by
  subst hm
  obtain ⟨i8, hi, hz0, hz1, hz2⟩ := info_parts info_Nn
  obtain ⟨v', w', hr, h1', hg, -⟩ := run_append_all (P := Try.prog) (w := w) base 61 ty 3 i8 (.int .i64 0) 1 8 (by kernel_rfl) hi hz0 hz1 hz2 rfl (by omega) v L.length _ hown ad N.length c (NnC N) (NnC_length N) hN h1 (by unfold maxLen; omega) (by omega) hbase (fun _ => True) (fun _ _ _ _ _ => trivial) (fun _ _ => trivial) (fun _ _ => trivial)
  refine ⟨v', w', hr, ?_, hg⟩
  unfold OwnNn
  rw [NnC_append, List.length_append]; exact h1'
section
variable {ops : Array Oper} {rest : List Oper} {o : Oper} {a : Act} {w : World} {Q : Exit → Act → World → Prop} {K : Act → World → Prop}
/-- append(l, x): one behind the others -/
theorem wp_appNn (s x : Operand) (ho : o.op = .call { callee := .builtin .append, args := #[s, x], argTypes := #[61, 61] }) (base : Nat) (v : Value) (L : List (Int)) (hs : a.eval s = v) (g : Nat) (y : Int) (hx : a.eval x = .slice (some ⟨g, 0, none⟩) 1 1)
    (hown : OwnNn w base v L) (t : TypeId) (hg : w.heap[g]? = some (.cells (nnC y) t (0, 0))) (h1 : ∀ u ∈ (nnC y), u.oneCell' = true) (hb : L.length + 1 ≤ 100000) (hbase : base ≤ w.heap.size)
    (h : ∀ v' w', OwnNn w' base v' (L ++ [y]) → Gr w w' v v' → K (a.put o.dst v') w') : o.wp Try.prog a w K Q := by
  obtain ⟨v', w', hrun, h1, h2⟩ := run_appNn w base o.type v L hown ⟨g, 0, none⟩ 1 1 [y] rfl (fun u hu => h1 u (by simpa [NnC] using hu)) (fun j u hu => by rw [addr_add, Nat.zero_add, cell_blk hg]; simpa [NnC] using hu) (by simpa using hb) hbase
  unfold Oper.wp
  simp [execOp, ho, resolve, invoke, builtin, hs, hx, hrun, Result.andThen]
  exact h v' w' h1 h2
theorem wpList_appNn (hgd : o.guard = none) (s x : Operand) (ho : o.op = .call { callee := .builtin .append, args := #[s, x], argTypes := #[61, 61] }) (base : Nat) (v : Value) (L : List (Int)) (hs : a.eval s = v) (g : Nat) (y : Int) (hx : a.eval x = .slice (some ⟨g, 0, none⟩) 1 1)
    (hown : OwnNn w base v L) (t : TypeId) (hg : w.heap[g]? = some (.cells (nnC y) t (0, 0))) (h1 : ∀ u ∈ (nnC y), u.oneCell' = true) (hb : L.length + 1 ≤ 100000) (hbase : base ≤ w.heap.size)
    (h : ∀ v' w', OwnNn w' base v' (L ++ [y]) → Gr w w' v v' → wpList Try.prog ops Q rest (a.put o.dst v') w') : wpList Try.prog ops Q (o :: rest) a w :=
  wpList_plain hgd fun K hK => wp_appNn s x ho base v L hs g y hx hown t hg h1 hb hbase fun v' w' h1 h2 => hK _ _ (h v' w' h1 h2)
/-- a row of one is laid -/
theorem wp_rowNn (x : Operand) (ho : o.op = .buildSlice 61 1 #[(0, x)]) (y : Int) (hx : a.eval x = .int .i64 y)
    (h : K (a.put o.dst (.slice (some ⟨w.heap.size, 0, none⟩) 1 1)) (w.alloc (.cells (nnC y) 3))) : o.wp Try.prog a w K Q := by
  have hp := parts_Nn
  cases hie : Try.prog.info? 3 with
  | none => rw [hie] at hp; cases hp
  | some ie =>
    rw [hie] at hp
    simp at hp
    obtain ⟨hz, hs⟩ := hp
    refine wp_buildSlice 61 3 1 _ ho (nnC y) ie _ (by kernel_rfl) hie hz (by rw [hs]; decide) (by rw [hs]; decide) ?_ h
    have := Great.fill_whole (s := 1) (by decide) [.int .i64 y] ((Array.range (1 * ie.size)).map (((.int .i64 0) : Value).cells[· % ((.int .i64 0) : Value).cells.size]!)) (fun v hv => by
      simp at hv; subst hv; rfl) (by simp [hs])
    simp [hx, hs] at this ⊢
    exact this
theorem wpList_rowNn (hgd : o.guard = none) (x : Operand) (ho : o.op = .buildSlice 61 1 #[(0, x)]) (y : Int) (hx : a.eval x = .int .i64 y)
    (h : wpList Try.prog ops Q rest (a.put o.dst (.slice (some ⟨w.heap.size, 0, none⟩) 1 1)) (w.alloc (.cells (nnC y) 3))) : wpList Try.prog ops Q (o :: rest) a w :=
  wpList_plain hgd fun K hK => wp_rowNn x ho y hx (hK _ _ h)

end

/-- a row of records that somebody owns -/
def RrC (L : List (Rc × Value)) : List Value := L.flatMap fun x => (rrC x).toList
theorem RrC_length : ∀ L : List (Rc × Value), (RrC L).length = L.length * 5
  | [] => rfl
  | z :: r => by
    have h := RrC_length r
    have e : RrC (z :: r) = (rrC z).toList ++ RrC r := rfl
    rw [e, List.length_append, h, List.length_cons]; simp [rrC]; omega
theorem RrC_append (a b : List (Rc × Value)) : RrC (a ++ b) = RrC a ++ RrC b := by unfold RrC; rw [List.flatMap_append]
theorem RrC_get : ∀ {L : List (Rc × Value)} {j i : Nat} {m : Rc × Value} {u : Value}, L[j]? = some m → i < 5 → (rrC m)[i]? = some u → (RrC L)[j * 5 + i]? = some u
  | [], j, i, m, u, h, _, _ => by simp at h
  | a :: r, 0, i, m, u, h, hi, hu => by
    simp at h
    subst h
    have e : RrC (a :: r) = (rrC a).toList ++ RrC r := rfl
    rw [e, Nat.zero_mul, Nat.zero_add, List.getElem?_append_left (by simp [rrC]; omega), Array.getElem?_toList]
    exact hu
  | a :: r, j + 1, i, m, u, h, hi, hu => by
    simp at h
    have e : RrC (a :: r) = (rrC a).toList ++ RrC r := rfl
    have hl : (rrC a).toList.length = 5 := by simp [rrC]
    rw [e, List.getElem?_append_right (by omega), hl, show (j + 1) * 5 + i - 5 = j * 5 + i by omega]
    exact RrC_get h hi hu
def OwnRr (w : World) (base : Nat) (v : Value) (L : List (Rc × Value)) : Prop := w.ownsRow base 32 5 v L.length (RrC L)
theorem OwnRr.nil (w : World) (base : Nat) : OwnRr w base (.slice none 0 0) [] := World.ownsRow_nil w base _ 5
theorem OwnRr.lt {w : World} {base : Nat} {v : Value} {L : List (Rc × Value)} (h : OwnRr w base v L) : ∀ k, v.ownBlock = some k → base ≤ k ∧ k < w.heap.size := World.ownsRow.lt h
theorem OwnRr.same {w w' : World} {base : Nat} {v : Value} {L : List (Rc × Value)} (h : OwnRr w base v L) (hb : ∀ k, v.ownBlock = some k → w'.heap[k]? = w.heap[k]?) : OwnRr w' base v L := by
  refine ⟨h.1, ?_⟩
  rcases h.2 with hn | ⟨g, cap, cur, rfl, hb', hgg, rest⟩
  · exact .inl hn
  · exact .inr ⟨g, cap, cur, rfl, hb', (hb g rfl).trans hgg, rest⟩
theorem OwnRr.below {w w' : World} {base : Nat} {v : Value} {L : List (Rc × Value)} (h : OwnRr w base v L) (hB : Below w.heap.size w w') : OwnRr w' base v L := h.same fun k hk => hB.block k (h.lt k hk).2
theorem OwnRr.mono {w : World} {base b : Nat} {v : Value} {L : List (Rc × Value)} (h : OwnRr w base v L) (hb : b ≤ base) : OwnRr w b v L := by
  refine ⟨h.1, ?_⟩
  rcases h.2 with hn | ⟨g, cap, cur, e, hb', rest⟩
  · exact .inl hn
  · exact .inr ⟨g, cap, cur, e, Nat.le_trans hb hb', rest⟩
theorem OwnRr.form {w : World} {base : Nat} {v : Value} {L : List (Rc × Value)} (h : OwnRr w base v L) : ∃ ao cap, v = .slice ao L.length cap := by
  rcases h.2 with ⟨rfl, h0⟩ | ⟨g, cap, cur, rfl, _⟩
  · rw [h0]; exact ⟨none, 0, rfl⟩
  · exact ⟨_, cap, rfl⟩
theorem OwnRr.at {w : World} {base : Nat} {v : Value} {L : List (Rc × Value)} (h : OwnRr w base v L) (hn : 0 < L.length) : ∃ g c, v = .slice (some ⟨g, 0, none⟩) L.length c ∧ base ≤ g ∧ g < w.heap.size ∧ ∀ (j : Nat) (m : Rc × Value), L[j]? = some m → ∀ i u, (rrC m)[i]? = some u → w.cell? ⟨g, j * 5 + i, none⟩ = some u := by
  rcases h.2 with ⟨e, h0⟩ | ⟨g, cap, cur, e, hb, hg, _⟩
  · omega
  · subst e
    refine ⟨g, cap, rfl, hb, lt_blk hg, fun j m hm i u hu => ?_⟩
    have hi : i < 5 := by
      have := (Array.getElem?_eq_some_iff.1 hu).1
      simpa [rrC] using this
    have := World.ownsRow.cells h (g := g) rfl (j * 5 + i) u (RrC_get hm hi hu)
    rwa [addr_add, Nat.zero_add] at this
theorem info_Rr : (Try.prog.info? 32).map (fun i => (i.zero, i.size, i.bytes)) = some (some (.agg (rrC (⟨0, 0, 0, 0, []⟩, .slice none 0 0))), 5, 56) := by kernel_rfl
theorem parts_Rr : (Try.prog.info? 32).map (fun i => (i.zero, i.size)) = some (some (.agg (rrC (⟨0, 0, 0, 0, []⟩, .slice none 0 0))), 5) := by kernel_rfl
theorem run_appRr (w : World) (base ty : Nat) (v : Value) (L : List (Rc × Value)) (hown : OwnRr w base v L) (ad : Addr) (m c : Nat) (N : List (Rc × Value)) (hm : m = N.length) (h1 : ∀ u ∈ RrC N, u.oneCell' = true) (hN : ∀ j u, (RrC N)[j]? = some u → w.cell? (ad.add j) = some u)
    (hb : L.length + m ≤ 100000) (hbase : base ≤ w.heap.size) :
    ∃ v' w', (Builtin.append_ #[40, 40] ty #[v, .slice (some ad) m c]).run Try.prog w = .ok v' w' ∧ OwnRr w' base v' (L ++ N) ∧ Gr w w' v v' := by
  subst hm
  obtain ⟨i8, hi, hz0, hz1, hz2⟩ := info_parts info_Rr
  obtain ⟨v', w', hr, h1', hg, -⟩ := run_append_all (P := Try.prog) (w := w) base 40 ty 32 i8 (.agg (rrC (⟨0, 0, 0, 0, []⟩, .slice none 0 0))) 5 56 (by kernel_rfl) hi hz0 hz1 hz2 rfl (by omega) v L.length _ hown ad N.length c (RrC N) (RrC_length N) hN h1 (by unfold maxLen; omega) (by omega) hbase (fun _ => True) (fun _ _ _ _ _ => trivial) (fun _ _ => trivial) (fun _ _ => trivial)
  refine ⟨v', w', hr, ?_, hg⟩
  unfold OwnRr
  rw [RrC_append, List.length_append]; exact h1'
section
variable {ops : Array Oper} {rest : List Oper} {o : Oper} {a : Act} {w : World} {Q : Exit → Act → World → Prop} {K : Act → World → Prop}
/-- append(l, x): one behind the others -/
theorem wp_appRr (s x : Operand) (ho : o.op = .call { callee := .builtin .append, args := #[s, x], argTypes := #[40, 40] }) (base : Nat) (v : Value) (L : List (Rc × Value)) (hs : a.eval s = v) (g : Nat) (y : Rc × Value) (hx : a.eval x = .slice (some ⟨g, 0, none⟩) 1 1)
    (hown : OwnRr w base v L) (t : TypeId) (hg : w.heap[g]? = some (.cells (rrC y) t (0, 0))) (h1 : ∀ u ∈ (rrC y), u.oneCell' = true) (hb : L.length + 1 ≤ 100000) (hbase : base ≤ w.heap.size)
    (h : ∀ v' w', OwnRr w' base v' (L ++ [y]) → Gr w w' v v' → K (a.put o.dst v') w') : o.wp Try.prog a w K Q := by
  obtain ⟨v', w', hrun, h1, h2⟩ := run_appRr w base o.type v L hown ⟨g, 0, none⟩ 1 1 [y] rfl (fun u hu => h1 u (by simpa [RrC] using hu)) (fun j u hu => by rw [addr_add, Nat.zero_add, cell_blk hg]; simpa [RrC] using hu) (by simpa using hb) hbase
  unfold Oper.wp
  simp [execOp, ho, resolve, invoke, builtin, hs, hx, hrun, Result.andThen]
  exact h v' w' h1 h2
theorem wpList_appRr (hgd : o.guard = none) (s x : Operand) (ho : o.op = .call { callee := .builtin .append, args := #[s, x], argTypes := #[40, 40] }) (base : Nat) (v : Value) (L : List (Rc × Value)) (hs : a.eval s = v) (g : Nat) (y : Rc × Value) (hx : a.eval x = .slice (some ⟨g, 0, none⟩) 1 1)
    (hown : OwnRr w base v L) (t : TypeId) (hg : w.heap[g]? = some (.cells (rrC y) t (0, 0))) (h1 : ∀ u ∈ (rrC y), u.oneCell' = true) (hb : L.length + 1 ≤ 100000) (hbase : base ≤ w.heap.size)
    (h : ∀ v' w', OwnRr w' base v' (L ++ [y]) → Gr w w' v v' → wpList Try.prog ops Q rest (a.put o.dst v') w') : wpList Try.prog ops Q (o :: rest) a w :=
  wpList_plain hgd fun K hK => wp_appRr s x ho base v L hs g y hx hown t hg h1 hb hbase fun v' w' h1 h2 => hK _ _ (h v' w' h1 h2)
/-- a row of one is laid -/
theorem wp_rowRr (x : Operand) (ho : o.op = .buildSlice 40 1 #[(0, x)]) (y : Rc × Value) (hx : a.eval x = .agg (rrC y))
    (h : K (a.put o.dst (.slice (some ⟨w.heap.size, 0, none⟩) 1 1)) (w.alloc (.cells (rrC y) 32))) : o.wp Try.prog a w K Q := by
  have hp := parts_Rr
  cases hie : Try.prog.info? 32 with
  | none => rw [hie] at hp; cases hp
  | some ie =>
    rw [hie] at hp
    simp at hp
    obtain ⟨hz, hs⟩ := hp
    refine wp_buildSlice 40 32 1 _ ho (rrC y) ie _ (by kernel_rfl) hie hz (by rw [hs]; decide) (by rw [hs]; decide) ?_ h
    have := Great.fill_whole (s := 5) (by decide) [.agg (rrC y)] ((Array.range (1 * ie.size)).map (((.agg (rrC (⟨0, 0, 0, 0, []⟩, .slice none 0 0))) : Value).cells[· % ((.agg (rrC (⟨0, 0, 0, 0, []⟩, .slice none 0 0))) : Value).cells.size]!)) (fun v hv => by
      simp at hv; subst hv; rfl) (by simp [hs])
    simp [hx, hs] at this ⊢
    exact this
theorem wpList_rowRr (hgd : o.guard = none) (x : Operand) (ho : o.op = .buildSlice 40 1 #[(0, x)]) (y : Rc × Value) (hx : a.eval x = .agg (rrC y))
    (h : wpList Try.prog ops Q rest (a.put o.dst (.slice (some ⟨w.heap.size, 0, none⟩) 1 1)) (w.alloc (.cells (rrC y) 32))) : wpList Try.prog ops Q (o :: rest) a w :=
  wpList_plain hgd fun K hK => wp_rowRr x ho y hx (hK _ _ h)
/-- one is read out of a row -/
theorem wp_loadRrAt (x : Operand) (ho : o.op = .load 32 x) (g off : Nat) (r : Rc × Value) (hx : a.eval x = .pointer (some ⟨g, off, none⟩)) (hc : ∀ i u, (rrC r)[i]? = some u → w.cell? ⟨g, off + i, none⟩ = some u)
    (h : K (a.put o.dst (.agg (rrC r))) w) : o.wp Try.prog a w K Q := by
  obtain ⟨d, hd1, hd2⟩ := row_of (ty := 32) (by kernel_rfl)
  refine wp_load_mid 32 x ho g off hx (rrC r).toList d (fun j v hv => hc j v (by simpa using hv)) hd1 hd2 (by kernel_rfl) ?_
  simpa using h
theorem wpList_loadRrAt (hgd : o.guard = none) (x : Operand) (ho : o.op = .load 32 x) (g off : Nat) (r : Rc × Value) (hx : a.eval x = .pointer (some ⟨g, off, none⟩)) (hc : ∀ i u, (rrC r)[i]? = some u → w.cell? ⟨g, off + i, none⟩ = some u)
    (h : wpList Try.prog ops Q rest (a.put o.dst (.agg (rrC r))) w) : wpList Try.prog ops Q (o :: rest) a w :=
  wpList_plain hgd fun K hK => wp_loadRrAt x ho g off r hx hc (hK _ _ h)
end

/-- a row of transactions that somebody owns -/
def SsC (L : List (Sp)) : List Value := L.flatMap fun x => (ssC x).toList
theorem SsC_length : ∀ L : List (Sp), (SsC L).length = L.length * 5
  | [] => rfl
  | z :: r => by
    have h := SsC_length r
    have e : SsC (z :: r) = (ssC z).toList ++ SsC r := rfl
    rw [e, List.length_append, h, List.length_cons]; simp [ssC]; omega
theorem SsC_append (a b : List (Sp)) : SsC (a ++ b) = SsC a ++ SsC b := by unfold SsC; rw [List.flatMap_append]
theorem SsC_get : ∀ {L : List (Sp)} {j i : Nat} {m : Sp} {u : Value}, L[j]? = some m → i < 5 → (ssC m)[i]? = some u → (SsC L)[j * 5 + i]? = some u
  | [], j, i, m, u, h, _, _ => by simp at h
  | a :: r, 0, i, m, u, h, hi, hu => by
    simp at h
    subst h
    have e : SsC (a :: r) = (ssC a).toList ++ SsC r := rfl
    rw [e, Nat.zero_mul, Nat.zero_add, List.getElem?_append_left (by simp [ssC]; omega), Array.getElem?_toList]
    exact hu
  | a :: r, j + 1, i, m, u, h, hi, hu => by
    simp at h
    have e : SsC (a :: r) = (ssC a).toList ++ SsC r := rfl
    have hl : (ssC a).toList.length = 5 := by simp [ssC]
    rw [e, List.getElem?_append_right (by omega), hl, show (j + 1) * 5 + i - 5 = j * 5 + i by omega]
    exact SsC_get h hi hu
def OwnSs (w : World) (base : Nat) (v : Value) (L : List (Sp)) : Prop := w.ownsRow base 55 5 v L.length (SsC L)
theorem OwnSs.nil (w : World) (base : Nat) : OwnSs w base (.slice none 0 0) [] := World.ownsRow_nil w base _ 5
theorem OwnSs.lt {w : World} {base : Nat} {v : Value} {L : List (Sp)} (h : OwnSs w base v L) : ∀ k, v.ownBlock = some k → base ≤ k ∧ k < w.heap.size := World.ownsRow.lt h
theorem OwnSs.same {w w' : World} {base : Nat} {v : Value} {L : List (Sp)} (h : OwnSs w base v L) (hb : ∀ k, v.ownBlock = some k → w'.heap[k]? = w.heap[k]?) : OwnSs w' base v L := by
  refine ⟨h.1, ?_⟩
  rcases h.2 with hn | ⟨g, cap, cur, rfl, hb', hgg, rest⟩
  · exact .inl hn
  · exact .inr ⟨g, cap, cur, rfl, hb', (hb g rfl).trans hgg, rest⟩
theorem OwnSs.below {w w' : World} {base : Nat} {v : Value} {L : List (Sp)} (h : OwnSs w base v L) (hB : Below w.heap.size w w') : OwnSs w' base v L := h.same fun k hk => hB.block k (h.lt k hk).2
theorem OwnSs.mono {w : World} {base b : Nat} {v : Value} {L : List (Sp)} (h : OwnSs w base v L) (hb : b ≤ base) : OwnSs w b v L := by
  refine ⟨h.1, ?_⟩
  rcases h.2 with hn | ⟨g, cap, cur, e, hb', rest⟩
  · exact .inl hn
  · exact .inr ⟨g, cap, cur, e, Nat.le_trans hb hb', rest⟩
theorem OwnSs.form {w : World} {base : Nat} {v : Value} {L : List (Sp)} (h : OwnSs w base v L) : ∃ ao cap, v = .slice ao L.length cap := by
  rcases h.2 with ⟨rfl, h0⟩ | ⟨g, cap, cur, rfl, _⟩
  · rw [h0]; exact ⟨none, 0, rfl⟩
  · exact ⟨_, cap, rfl⟩
theorem OwnSs.at {w : World} {base : Nat} {v : Value} {L : List (Sp)} (h : OwnSs w base v L) (hn : 0 < L.length) : ∃ g c, v = .slice (some ⟨g, 0, none⟩) L.length c ∧ base ≤ g ∧ g < w.heap.size ∧ ∀ (j : Nat) (m : Sp), L[j]? = some m → ∀ i u, (ssC m)[i]? = some u → w.cell? ⟨g, j * 5 + i, none⟩ = some u := by
  rcases h.2 with ⟨e, h0⟩ | ⟨g, cap, cur, e, hb, hg, _⟩
  · omega
  · subst e
    refine ⟨g, cap, rfl, hb, lt_blk hg, fun j m hm i u hu => ?_⟩
    have hi : i < 5 := by
      have := (Array.getElem?_eq_some_iff.1 hu).1
      simpa [ssC] using this
    have := World.ownsRow.cells h (g := g) rfl (j * 5 + i) u (SsC_get hm hi hu)
    rwa [addr_add, Nat.zero_add] at this
theorem info_Ss : (Try.prog.info? 55).map (fun i => (i.zero, i.size, i.bytes)) = some (some (.agg (ssC ⟨0, 0, 0, 0, 0⟩)), 5, 40) := by kernel_rfl
theorem parts_Ss : (Try.prog.info? 55).map (fun i => (i.zero, i.size)) = some (some (.agg (ssC ⟨0, 0, 0, 0, 0⟩)), 5) := by kernel_rfl
theorem run_appSs (w : World) (base ty : Nat) (v : Value) (L : List (Sp)) (hown : OwnSs w base v L) (ad : Addr) (m c : Nat) (N : List (Sp)) (hm : m = N.length) (h1 : ∀ u ∈ SsC N, u.oneCell' = true) (hN : ∀ j u, (SsC N)[j]? = some u → w.cell? (ad.add j) = some u)
    (hb : L.length + m ≤ 100000) (hbase : base ≤ w.heap.size) :
    ∃ v' w', (Builtin.append_ #[38, 38] ty #[v, .slice (some ad) m c]).run Try.prog w = .ok v' w' ∧ OwnSs w' base v' (L ++ N) ∧ Gr w w' v v' := by
  subst hm
  obtain ⟨i8, hi, hz0, hz1, hz2⟩ := info_parts info_Ss
  obtain ⟨v', w', hr, h1', hg, -⟩ := run_append_all (P := Try.prog) (w := w) base 38 ty 55 i8 (.agg (ssC ⟨0, 0, 0, 0, 0⟩)) 5 40 (by kernel_rfl) hi hz0 hz1 hz2 rfl (by omega) v L.length _ hown ad N.length c (SsC N) (SsC_length N) hN h1 (by unfold maxLen; omega) (by omega) hbase (fun _ => True) (fun _ _ _ _ _ => trivial) (fun _ _ => trivial) (fun _ _ => trivial)
  refine ⟨v', w', hr, ?_, hg⟩
  unfold OwnSs
  rw [SsC_append, List.length_append]; exact h1'
section
variable {ops : Array Oper} {rest : List Oper} {o : Oper} {a : Act} {w : World} {Q : Exit → Act → World → Prop} {K : Act → World → Prop}
/-- append(l, x): one behind the others -/
theorem wp_appSs (s x : Operand) (ho : o.op = .call { callee := .builtin .append, args := #[s, x], argTypes := #[38, 38] }) (base : Nat) (v : Value) (L : List (Sp)) (hs : a.eval s = v) (g : Nat) (y : Sp) (hx : a.eval x = .slice (some ⟨g, 0, none⟩) 1 1)
    (hown : OwnSs w base v L) (t : TypeId) (hg : w.heap[g]? = some (.cells (ssC y) t (0, 0))) (h1 : ∀ u ∈ (ssC y), u.oneCell' = true) (hb : L.length + 1 ≤ 100000) (hbase : base ≤ w.heap.size)
    (h : ∀ v' w', OwnSs w' base v' (L ++ [y]) → Gr w w' v v' → K (a.put o.dst v') w') : o.wp Try.prog a w K Q := by
  obtain ⟨v', w', hrun, h1, h2⟩ := run_appSs w base o.type v L hown ⟨g, 0, none⟩ 1 1 [y] rfl (fun u hu => h1 u (by simpa [SsC] using hu)) (fun j u hu => by rw [addr_add, Nat.zero_add, cell_blk hg]; simpa [SsC] using hu) (by simpa using hb) hbase
  unfold Oper.wp
  simp [execOp, ho, resolve, invoke, builtin, hs, hx, hrun, Result.andThen]
  exact h v' w' h1 h2
theorem wpList_appSs (hgd : o.guard = none) (s x : Operand) (ho : o.op = .call { callee := .builtin .append, args := #[s, x], argTypes := #[38, 38] }) (base : Nat) (v : Value) (L : List (Sp)) (hs : a.eval s = v) (g : Nat) (y : Sp) (hx : a.eval x = .slice (some ⟨g, 0, none⟩) 1 1)
    (hown : OwnSs w base v L) (t : TypeId) (hg : w.heap[g]? = some (.cells (ssC y) t (0, 0))) (h1 : ∀ u ∈ (ssC y), u.oneCell' = true) (hb : L.length + 1 ≤ 100000) (hbase : base ≤ w.heap.size)
    (h : ∀ v' w', OwnSs w' base v' (L ++ [y]) → Gr w w' v v' → wpList Try.prog ops Q rest (a.put o.dst v') w') : wpList Try.prog ops Q (o :: rest) a w :=
  wpList_plain hgd fun K hK => wp_appSs s x ho base v L hs g y hx hown t hg h1 hb hbase fun v' w' h1 h2 => hK _ _ (h v' w' h1 h2)
/-- a row of one is laid -/
theorem wp_rowSs (x : Operand) (ho : o.op = .buildSlice 38 1 #[(0, x)]) (y : Sp) (hx : a.eval x = .agg (ssC y))
    (h : K (a.put o.dst (.slice (some ⟨w.heap.size, 0, none⟩) 1 1)) (w.alloc (.cells (ssC y) 55))) : o.wp Try.prog a w K Q := by
  have hp := parts_Ss
  cases hie : Try.prog.info? 55 with
  | none => rw [hie] at hp; cases hp
  | some ie =>
    rw [hie] at hp
    simp at hp
    obtain ⟨hz, hs⟩ := hp
    refine wp_buildSlice 38 55 1 _ ho (ssC y) ie _ (by kernel_rfl) hie hz (by rw [hs]; decide) (by rw [hs]; decide) ?_ h
    have := Great.fill_whole (s := 5) (by decide) [.agg (ssC y)] ((Array.range (1 * ie.size)).map (((.agg (ssC ⟨0, 0, 0, 0, 0⟩)) : Value).cells[· % ((.agg (ssC ⟨0, 0, 0, 0, 0⟩)) : Value).cells.size]!)) (fun v hv => by
      simp at hv; subst hv; rfl) (by simp [hs])
    simp [hx, hs] at this ⊢
    exact this
theorem wpList_rowSs (hgd : o.guard = none) (x : Operand) (ho : o.op = .buildSlice 38 1 #[(0, x)]) (y : Sp) (hx : a.eval x = .agg (ssC y))
    (h : wpList Try.prog ops Q rest (a.put o.dst (.slice (some ⟨w.heap.size, 0, none⟩) 1 1)) (w.alloc (.cells (ssC y) 55))) : wpList Try.prog ops Q (o :: rest) a w :=
  wpList_plain hgd fun K hK => wp_rowSs x ho y hx (hK _ _ h)
/-- one is read out of a row -/
theorem wp_loadSsAt (x : Operand) (ho : o.op = .load 55 x) (g off : Nat) (r : Sp) (hx : a.eval x = .pointer (some ⟨g, off, none⟩)) (hc : ∀ i u, (ssC r)[i]? = some u → w.cell? ⟨g, off + i, none⟩ = some u)
    (h : K (a.put o.dst (.agg (ssC r))) w) : o.wp Try.prog a w K Q := by
  obtain ⟨d, hd1, hd2⟩ := row_of (ty := 55) (by kernel_rfl)
  refine wp_load_mid 55 x ho g off hx (ssC r).toList d (fun j v hv => hc j v (by simpa using hv)) hd1 hd2 (by kernel_rfl) ?_
  simpa using h
theorem wpList_loadSsAt (hgd : o.guard = none) (x : Operand) (ho : o.op = .load 55 x) (g off : Nat) (r : Sp) (hx : a.eval x = .pointer (some ⟨g, off, none⟩)) (hc : ∀ i u, (ssC r)[i]? = some u → w.cell? ⟨g, off + i, none⟩ = some u)
    (h : wpList Try.prog ops Q rest (a.put o.dst (.agg (ssC r))) w) : wpList Try.prog ops Q (o :: rest) a w :=
  wpList_plain hgd fun K hK => wp_loadSsAt x ho g off r hx hc (hK _ _ h)
end
end Go.Proofs.Ytjinhahfpkcilaa
