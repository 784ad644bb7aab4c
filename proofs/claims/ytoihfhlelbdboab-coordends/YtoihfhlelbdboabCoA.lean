/- Rows of numbers and of marks that somebody owns. No condition. -/
import Derived.Test.YtoihfhlelbdboabCoM
import Derived.Test.YtoihfhlelbdboabRowA
import Derived.Test.YtoihfhlelbdboabTabPpI
import Derived.Test.YtoihfhlelbdboabTabRpE
import Derived.Great.BuildSlice
namespace Go.Proofs.Ytoihfhlelbdboab
open Go.RowKit Go.Dig Go.Inv Go.Hold
set_option linter.unusedVariables false
set_option linter.unusedSimpArgs false

def IsI (u : Value) : Prop := ∃ z, u = .int .i64 z
/-- no node of a table: a node has pointers there -/
def NoLow (w : World) (k : Nat) : Prop := ∀ z, w.cell? ⟨k, 3, none⟩ ≠ some (.pointer z) ∧ w.cell? ⟨k, 5, none⟩ ≠ some (.pointer z)
def Mk.cells (m : Mk) : Array Value := #[.int .i64 m.k, .int .i64 m.p, .int .i64 m.e, .int .i64 m.t]
def intC (L : List Int) : List Value := L.map (Value.int .i64)
theorem intC_length (L : List Int) : (intC L).length = L.length * 1 := by simp [intC]
theorem intC_append (a b : List Int) : intC (a ++ b) = intC a ++ intC b := by simp [intC]
theorem intC_int (L : List Int) : ∀ u ∈ intC L, IsI u := fun u hu => by
  obtain ⟨x, _, rfl⟩ := List.mem_map.1 hu
  exact ⟨x, rfl⟩
theorem intC_one (L : List Int) : ∀ u ∈ intC L, u.oneCell' = true := fun u hu => by
  obtain ⟨x, rfl⟩ := intC_int L u hu
  rfl
def mkC (L : List Mk) : List Value := L.flatMap fun m => m.cells.toList
theorem mkC_length : ∀ L : List Mk, (mkC L).length = L.length * 4
  | [] => rfl
  | z :: r => by
    have h := mkC_length r
    have e : mkC (z :: r) = z.cells.toList ++ mkC r := rfl
    rw [e, List.length_append, h, List.length_cons]; simp [Mk.cells]; omega
theorem mkC_append (a b : List Mk) : mkC (a ++ b) = mkC a ++ mkC b := by unfold mkC; rw [List.flatMap_append]
theorem mkC_int (L : List Mk) : ∀ u ∈ mkC L, IsI u := fun u hu => by
  obtain ⟨m, _, hm⟩ := List.mem_flatMap.1 hu
  simp [Mk.cells] at hm
  rcases hm with rfl | rfl | rfl | rfl <;> exact ⟨_, rfl⟩
theorem mkC_one (L : List Mk) : ∀ u ∈ mkC L, u.oneCell' = true := fun u hu => by
  obtain ⟨x, rfl⟩ := mkC_int L u hu
  rfl
/-- a row of numbers that somebody owns, spare room too -/
def OwnI (w : World) (base : Nat) (v : Value) (L : List Int) : Prop := w.ownsRow base 3 1 v L.length (intC L) ∧ AllRow w v IsI
theorem OwnI.nil (w : World) (base : Nat) : OwnI w base (.slice none 0 0) [] := ⟨World.ownsRow_nil w base _ 1, fun k hk => by cases hk⟩
theorem OwnI.lt {w : World} {base : Nat} {v : Value} {L : List Int} (h : OwnI w base v L) : ∀ k, v.ownBlock = some k → base ≤ k ∧ k < w.heap.size := World.ownsRow.lt h.1
theorem OwnI.same {w w' : World} {base : Nat} {v : Value} {L : List Int} (h : OwnI w base v L) (hb : ∀ k, v.ownBlock = some k → w'.heap[k]? = w.heap[k]?) : OwnI w' base v L := by
  refine ⟨⟨h.1.1, ?_⟩, fun k hk j u hu => h.2 k hk j u (by rw [← World.cell?_of_block (a := ⟨k, j, none⟩) (hb k hk)]; exact hu)⟩
  rcases h.1.2 with hn | ⟨g, cap, cur, rfl, hb', hgg, rest⟩
  · exact .inl hn
  · exact .inr ⟨g, cap, cur, rfl, hb', (hb g rfl).trans hgg, rest⟩
theorem OwnI.below {w w' : World} {base : Nat} {v : Value} {L : List Int} (h : OwnI w base v L) (hB : Below w.heap.size w w') : OwnI w' base v L := h.same fun k hk => hB.block k (h.lt k hk).2
theorem OwnI.mono {w : World} {base b : Nat} {v : Value} {L : List Int} (h : OwnI w base v L) (hb : b ≤ base) : OwnI w b v L := by
  refine ⟨⟨h.1.1, ?_⟩, h.2⟩
  rcases h.1.2 with hn | ⟨g, cap, cur, e, hb', rest⟩
  · exact .inl hn
  · exact .inr ⟨g, cap, cur, e, Nat.le_trans hb hb', rest⟩
theorem OwnI.form {w : World} {base : Nat} {v : Value} {L : List Int} (h : OwnI w base v L) : ∃ ao cap, v = .slice ao L.length cap := by
  rcases h.1.2 with ⟨rfl, h0⟩ | ⟨g, cap, cur, rfl, _⟩
  · rw [h0]; exact ⟨none, 0, rfl⟩
  · exact ⟨_, cap, rfl⟩
theorem OwnI.blk {w : World} {base : Nat} {v : Value} {L : List Int} (h : OwnI w base v L) {k : Nat} (hk : v.ownBlock = some k) : ∃ c t fr, w.heap[k]? = some (.cells c t fr) := by
  rcases h.1.2 with ⟨rfl, _⟩ | ⟨g, cap, cur, rfl, _, hgg, _⟩
  · cases hk
  · cases hk; exact ⟨_, _, _, hgg⟩
theorem OwnI.low {w : World} {base : Nat} {v : Value} {L : List Int} (h : OwnI w base v L) {k : Nat} (hk : v.ownBlock = some k) : NoLow w k := fun z => by
  refine ⟨fun e => ?_, fun e => ?_⟩
  · obtain ⟨x, hx⟩ := h.2 k hk 3 _ e
    cases hx
  · obtain ⟨x, hx⟩ := h.2 k hk 5 _ e
    cases hx
theorem info_I : (Try.prog.info? 3).map (fun i => (i.zero, i.size, i.bytes)) = some (some (.int .i64 0), 1, 8) := by kernel_rfl
theorem parts_I : (Try.prog.info? 3).map (fun i => (i.zero, i.size)) = some (some (.int .i64 0), 1) := by kernel_rfl
theorem run_appI (w : World) (base ty : Nat) (v : Value) (L : List Int) (hown : OwnI w base v L) (ad : Addr) (m c : Nat) (N : List Int) (hm : m = N.length) (hN : ∀ j u, (intC N)[j]? = some u → w.cell? (ad.add j) = some u)
    (hb : L.length + m ≤ 100000) (hbase : base ≤ w.heap.size) :
    ∃ v' w', (Builtin.append_ #[22, 22] ty #[v, .slice (some ad) m c]).run Try.prog w = .ok v' w' ∧ OwnI w' base v' (L ++ N) ∧ Gr w w' v v' := by
  subst hm
  obtain ⟨i8, hi, hz0, hz1, hz2⟩ := info_parts info_I
  obtain ⟨v', w', hr, h1, hg, ha⟩ := run_append_all (P := Try.prog) (w := w) base 22 ty 3 i8 (.int .i64 0) 1 8 (by kernel_rfl) hi hz0 hz1 hz2 rfl (by omega) v L.length _ hown.1 ad N.length c (intC N) (intC_length N) hN (intC_one N) (by unfold maxLen; omega) (by omega) hbase IsI hown.2 (intC_int N) (by
    intro u hu
    have hu2 : u ∈ #[Value.int .i64 0] := hu
    simp at hu2
    exact ⟨0, hu2⟩)
  refine ⟨v', w', hr, ⟨?_, ha⟩, hg⟩
  rw [intC_append, List.length_append]; exact h1
theorem OwnI.cells {w : World} {base : Nat} {g n c : Nat} {o : Nat} {L : List Int} (h : OwnI w base (.slice (some ⟨g, o, none⟩) n c) L) : o = 0 ∧ ∀ j u, (intC L)[j]? = some u → w.cell? ((⟨g, 0, none⟩ : Addr).add j) = some u := by
  rcases h.1.2 with ⟨e, _⟩ | ⟨g', cap, cur, e, _⟩
  · cases e
  · cases e; exact ⟨rfl, World.ownsRow.cells h.1 (g := g) rfl⟩
section
variable {ops : Array Oper} {rest : List Oper} {o : Oper} {a : Act} {w : World} {Q : Exit → Act → World → Prop} {K : Act → World → Prop}
/-- append(l, x): one behind the others -/
theorem wp_appI1 (s x : Operand) (ho : o.op = .call { callee := .builtin .append, args := #[s, x], argTypes := #[22, 22] }) (base : Nat) (v : Value) (L : List Int) (hs : a.eval s = v) (g : Nat) (y : Int) (hx : a.eval x = .slice (some ⟨g, 0, none⟩) 1 1)
    (hown : OwnI w base v L) (t : TypeId) (hg : w.heap[g]? = some (.cells #[.int .i64 y] t (0, 0))) (hb : L.length + 1 ≤ 100000) (hbase : base ≤ w.heap.size)
    (h : ∀ v' w', OwnI w' base v' (L ++ [y]) → Gr w w' v v' → K (a.put o.dst v') w') : o.wp Try.prog a w K Q := by
  obtain ⟨v', w', hrun, h1, h2⟩ := run_appI w base o.type v L hown ⟨g, 0, none⟩ 1 1 [y] rfl (fun j u hu => by rw [addr_add, Nat.zero_add, cell_blk hg]; simpa [intC] using hu) (by simpa using hb) hbase
  unfold Oper.wp
  simp [execOp, ho, resolve, invoke, builtin, hs, hx, hrun, Result.andThen]
  exact h v' w' h1 h2
theorem wpList_appI1 (hgd : o.guard = none) (s x : Operand) (ho : o.op = .call { callee := .builtin .append, args := #[s, x], argTypes := #[22, 22] }) (base : Nat) (v : Value) (L : List Int) (hs : a.eval s = v) (g : Nat) (y : Int) (hx : a.eval x = .slice (some ⟨g, 0, none⟩) 1 1)
    (hown : OwnI w base v L) (t : TypeId) (hg : w.heap[g]? = some (.cells #[.int .i64 y] t (0, 0))) (hb : L.length + 1 ≤ 100000) (hbase : base ≤ w.heap.size)
    (h : ∀ v' w', OwnI w' base v' (L ++ [y]) → Gr w w' v v' → wpList Try.prog ops Q rest (a.put o.dst v') w') : wpList Try.prog ops Q (o :: rest) a w :=
  wpList_plain hgd fun K hK => wp_appI1 s x ho base v L hs g y hx hown t hg hb hbase fun v' w' h1 h2 => hK _ _ (h v' w' h1 h2)
/-- append(l, m...): another row, that is owned too, behind the others -/
theorem wpList_appI (hgd : o.guard = none) (s x : Operand) (ho : o.op = .call { callee := .builtin .append, args := #[s, x], argTypes := #[22, 22] }) (base b2 : Nat) (v y : Value) (L N : List Int) (hs : a.eval s = v) (hx : a.eval x = y)
    (hown : OwnI w base v L) (hy : OwnI w b2 y N) (hb : L.length + N.length ≤ 100000) (hbase : base ≤ w.heap.size)
    (h : ∀ v' w', OwnI w' base v' (L ++ N) → Gr w w' v v' → wpList Try.prog ops Q rest (a.put o.dst v') w') : wpList Try.prog ops Q (o :: rest) a w := by
  refine wpList_plain hgd fun K hK' => ?_
  rcases hy.1.2 with ⟨rfl, hn0⟩ | ⟨g, cap, cur, rfl, _⟩
  · obtain ⟨i8, hi, hz0, hz1, hz2⟩ := info_parts info_I
    have hrun := run_append_owned_none (P := Try.prog) w base 22 o.type 3 i8 1 (by kernel_rfl) hi v L.length (intC L) hown.1
    have hN : N = [] := List.eq_nil_of_length_eq_zero hn0
    subst hN
    unfold Oper.wp
    simp [execOp, ho, resolve, invoke, builtin, hs, hx, hrun, Result.andThen]
    exact hK' _ _ (h v w (by rw [List.append_nil]; exact hown) (Gr.refl _ _))
  · obtain ⟨v', w', hrun, h1, h2⟩ := run_appI w base o.type v L hown ⟨g, 0, none⟩ N.length cap N rfl hy.cells.2 hb hbase
    unfold Oper.wp
    simp [execOp, ho, resolve, invoke, builtin, hs, hx, hrun, Result.andThen]
    exact hK' _ _ (h v' w' h1 h2)
/-- a row of one is laid -/
theorem wp_rowI (x : Operand) (ho : o.op = .buildSlice 22 1 #[(0, x)]) (y : Int) (hx : a.eval x = .int .i64 y)
    (h : K (a.put o.dst (.slice (some ⟨w.heap.size, 0, none⟩) 1 1)) (w.alloc (.cells #[.int .i64 y] 3))) : o.wp Try.prog a w K Q := by
  have hp := parts_I
  cases hie : Try.prog.info? 3 with
  | none => rw [hie] at hp; cases hp
  | some ie =>
    rw [hie] at hp
    simp at hp
    obtain ⟨hz, hs⟩ := hp
    refine wp_buildSlice 22 3 1 _ ho #[.int .i64 y] ie _ (by kernel_rfl) hie hz (by rw [hs]; decide) (by rw [hs]; decide) ?_ h
    have := Great.fill_whole (s := 1) (by decide) [.int .i64 y] ((Array.range (1 * ie.size)).map (((.int .i64 0) : Value).cells[· % ((.int .i64 0) : Value).cells.size]!)) (fun v hv => by
      simp at hv; subst hv; rfl) (by simp [hs])
    simp [hx, hs] at this ⊢
    exact this
theorem wpList_rowI (hgd : o.guard = none) (x : Operand) (ho : o.op = .buildSlice 22 1 #[(0, x)]) (y : Int) (hx : a.eval x = .int .i64 y)
    (h : wpList Try.prog ops Q rest (a.put o.dst (.slice (some ⟨w.heap.size, 0, none⟩) 1 1)) (w.alloc (.cells #[.int .i64 y] 3))) : wpList Try.prog ops Q (o :: rest) a w :=
  wpList_plain hgd fun K hK => wp_rowI x ho y hx (hK _ _ h)
end
/-- a row of marks that somebody owns, spare room too -/
def OwnM (w : World) (base : Nat) (v : Value) (L : List Mk) : Prop := w.ownsRow base 65 4 v L.length (mkC L) ∧ AllRow w v IsI
theorem OwnM.nil (w : World) (base : Nat) : OwnM w base (.slice none 0 0) [] := ⟨World.ownsRow_nil w base _ 4, fun k hk => by cases hk⟩
theorem OwnM.lt {w : World} {base : Nat} {v : Value} {L : List Mk} (h : OwnM w base v L) : ∀ k, v.ownBlock = some k → base ≤ k ∧ k < w.heap.size := World.ownsRow.lt h.1
theorem OwnM.same {w w' : World} {base : Nat} {v : Value} {L : List Mk} (h : OwnM w base v L) (hb : ∀ k, v.ownBlock = some k → w'.heap[k]? = w.heap[k]?) : OwnM w' base v L := by
  refine ⟨⟨h.1.1, ?_⟩, fun k hk j u hu => h.2 k hk j u (by rw [← World.cell?_of_block (a := ⟨k, j, none⟩) (hb k hk)]; exact hu)⟩
  rcases h.1.2 with hn | ⟨g, cap, cur, rfl, hb', hgg, rest⟩
  · exact .inl hn
  · exact .inr ⟨g, cap, cur, rfl, hb', (hb g rfl).trans hgg, rest⟩
theorem OwnM.below {w w' : World} {base : Nat} {v : Value} {L : List Mk} (h : OwnM w base v L) (hB : Below w.heap.size w w') : OwnM w' base v L := h.same fun k hk => hB.block k (h.lt k hk).2
theorem OwnM.mono {w : World} {base b : Nat} {v : Value} {L : List Mk} (h : OwnM w base v L) (hb : b ≤ base) : OwnM w b v L := by
  refine ⟨⟨h.1.1, ?_⟩, h.2⟩
  rcases h.1.2 with hn | ⟨g, cap, cur, e, hb', rest⟩
  · exact .inl hn
  · exact .inr ⟨g, cap, cur, e, Nat.le_trans hb hb', rest⟩
theorem OwnM.form {w : World} {base : Nat} {v : Value} {L : List Mk} (h : OwnM w base v L) : ∃ ao cap, v = .slice ao L.length cap := by
  rcases h.1.2 with ⟨rfl, h0⟩ | ⟨g, cap, cur, rfl, _⟩
  · rw [h0]; exact ⟨none, 0, rfl⟩
  · exact ⟨_, cap, rfl⟩
theorem OwnM.blk {w : World} {base : Nat} {v : Value} {L : List Mk} (h : OwnM w base v L) {k : Nat} (hk : v.ownBlock = some k) : ∃ c t fr, w.heap[k]? = some (.cells c t fr) := by
  rcases h.1.2 with ⟨rfl, _⟩ | ⟨g, cap, cur, rfl, _, hgg, _⟩
  · cases hk
  · cases hk; exact ⟨_, _, _, hgg⟩
theorem OwnM.low {w : World} {base : Nat} {v : Value} {L : List Mk} (h : OwnM w base v L) {k : Nat} (hk : v.ownBlock = some k) : NoLow w k := fun z => by
  refine ⟨fun e => ?_, fun e => ?_⟩
  · obtain ⟨x, hx⟩ := h.2 k hk 3 _ e
    cases hx
  · obtain ⟨x, hx⟩ := h.2 k hk 5 _ e
    cases hx
theorem info_M : (Try.prog.info? 65).map (fun i => (i.zero, i.size, i.bytes)) = some (some (.agg (Mk.cells ⟨0, 0, 0, 0⟩)), 4, 32) := by kernel_rfl
theorem parts_M : (Try.prog.info? 65).map (fun i => (i.zero, i.size)) = some (some (.agg (Mk.cells ⟨0, 0, 0, 0⟩)), 4) := by kernel_rfl
theorem run_appM (w : World) (base ty : Nat) (v : Value) (L : List Mk) (hown : OwnM w base v L) (ad : Addr) (m c : Nat) (N : List Mk) (hm : m = N.length) (hN : ∀ j u, (mkC N)[j]? = some u → w.cell? (ad.add j) = some u)
    (hb : L.length + m ≤ 100000) (hbase : base ≤ w.heap.size) :
    ∃ v' w', (Builtin.append_ #[28, 28] ty #[v, .slice (some ad) m c]).run Try.prog w = .ok v' w' ∧ OwnM w' base v' (L ++ N) ∧ Gr w w' v v' := by
  subst hm
  obtain ⟨i8, hi, hz0, hz1, hz2⟩ := info_parts info_M
  obtain ⟨v', w', hr, h1, hg, ha⟩ := run_append_all (P := Try.prog) (w := w) base 28 ty 65 i8 (.agg (Mk.cells ⟨0, 0, 0, 0⟩)) 4 32 (by kernel_rfl) hi hz0 hz1 hz2 rfl (by omega) v L.length _ hown.1 ad N.length c (mkC N) (mkC_length N) hN (mkC_one N) (by unfold maxLen; omega) (by omega) hbase IsI hown.2 (mkC_int N) (by
    intro u hu
    have hu2 : u ∈ (⟨0, 0, 0, 0⟩ : Mk).cells := hu
    exact mkC_int [⟨0, 0, 0, 0⟩] u (by simpa [mkC] using hu2))
  refine ⟨v', w', hr, ⟨?_, ha⟩, hg⟩
  rw [mkC_append, List.length_append]; exact h1
theorem OwnM.cells {w : World} {base : Nat} {g n c : Nat} {o : Nat} {L : List Mk} (h : OwnM w base (.slice (some ⟨g, o, none⟩) n c) L) : o = 0 ∧ ∀ j u, (mkC L)[j]? = some u → w.cell? ((⟨g, 0, none⟩ : Addr).add j) = some u := by
  rcases h.1.2 with ⟨e, _⟩ | ⟨g', cap, cur, e, _⟩
  · cases e
  · cases e; exact ⟨rfl, World.ownsRow.cells h.1 (g := g) rfl⟩
section
variable {ops : Array Oper} {rest : List Oper} {o : Oper} {a : Act} {w : World} {Q : Exit → Act → World → Prop} {K : Act → World → Prop}
/-- append(l, x): one behind the others -/
theorem wp_appM1 (s x : Operand) (ho : o.op = .call { callee := .builtin .append, args := #[s, x], argTypes := #[28, 28] }) (base : Nat) (v : Value) (L : List Mk) (hs : a.eval s = v) (g : Nat) (y : Mk) (hx : a.eval x = .slice (some ⟨g, 0, none⟩) 1 1)
    (hown : OwnM w base v L) (t : TypeId) (hg : w.heap[g]? = some (.cells y.cells t (0, 0))) (hb : L.length + 1 ≤ 100000) (hbase : base ≤ w.heap.size)
    (h : ∀ v' w', OwnM w' base v' (L ++ [y]) → Gr w w' v v' → K (a.put o.dst v') w') : o.wp Try.prog a w K Q := by
  obtain ⟨v', w', hrun, h1, h2⟩ := run_appM w base o.type v L hown ⟨g, 0, none⟩ 1 1 [y] rfl (fun j u hu => by rw [addr_add, Nat.zero_add, cell_blk hg]; simpa [mkC] using hu) (by simpa using hb) hbase
  unfold Oper.wp
  simp [execOp, ho, resolve, invoke, builtin, hs, hx, hrun, Result.andThen]
  exact h v' w' h1 h2
theorem wpList_appM1 (hgd : o.guard = none) (s x : Operand) (ho : o.op = .call { callee := .builtin .append, args := #[s, x], argTypes := #[28, 28] }) (base : Nat) (v : Value) (L : List Mk) (hs : a.eval s = v) (g : Nat) (y : Mk) (hx : a.eval x = .slice (some ⟨g, 0, none⟩) 1 1)
    (hown : OwnM w base v L) (t : TypeId) (hg : w.heap[g]? = some (.cells y.cells t (0, 0))) (hb : L.length + 1 ≤ 100000) (hbase : base ≤ w.heap.size)
    (h : ∀ v' w', OwnM w' base v' (L ++ [y]) → Gr w w' v v' → wpList Try.prog ops Q rest (a.put o.dst v') w') : wpList Try.prog ops Q (o :: rest) a w :=
  wpList_plain hgd fun K hK => wp_appM1 s x ho base v L hs g y hx hown t hg hb hbase fun v' w' h1 h2 => hK _ _ (h v' w' h1 h2)
/-- append(l, m...): another row, that is owned too, behind the others -/
theorem wpList_appM (hgd : o.guard = none) (s x : Operand) (ho : o.op = .call { callee := .builtin .append, args := #[s, x], argTypes := #[28, 28] }) (base b2 : Nat) (v y : Value) (L N : List Mk) (hs : a.eval s = v) (hx : a.eval x = y)
    (hown : OwnM w base v L) (hy : OwnM w b2 y N) (hb : L.length + N.length ≤ 100000) (hbase : base ≤ w.heap.size)
    (h : ∀ v' w', OwnM w' base v' (L ++ N) → Gr w w' v v' → wpList Try.prog ops Q rest (a.put o.dst v') w') : wpList Try.prog ops Q (o :: rest) a w := by
  refine wpList_plain hgd fun K hK' => ?_
  rcases hy.1.2 with ⟨rfl, hn0⟩ | ⟨g, cap, cur, rfl, _⟩
  · obtain ⟨i8, hi, hz0, hz1, hz2⟩ := info_parts info_M
    have hrun := run_append_owned_none (P := Try.prog) w base 28 o.type 65 i8 4 (by kernel_rfl) hi v L.length (mkC L) hown.1
    have hN : N = [] := List.eq_nil_of_length_eq_zero hn0
    subst hN
    unfold Oper.wp
    simp [execOp, ho, resolve, invoke, builtin, hs, hx, hrun, Result.andThen]
    exact hK' _ _ (h v w (by rw [List.append_nil]; exact hown) (Gr.refl _ _))
  · obtain ⟨v', w', hrun, h1, h2⟩ := run_appM w base o.type v L hown ⟨g, 0, none⟩ N.length cap N rfl hy.cells.2 hb hbase
    unfold Oper.wp
    simp [execOp, ho, resolve, invoke, builtin, hs, hx, hrun, Result.andThen]
    exact hK' _ _ (h v' w' h1 h2)
/-- a row of one is laid -/
theorem wp_rowM (x : Operand) (ho : o.op = .buildSlice 28 1 #[(0, x)]) (y : Mk) (hx : a.eval x = .agg y.cells)
    (h : K (a.put o.dst (.slice (some ⟨w.heap.size, 0, none⟩) 1 1)) (w.alloc (.cells y.cells 65))) : o.wp Try.prog a w K Q := by
  have hp := parts_M
  cases hie : Try.prog.info? 65 with
  | none => rw [hie] at hp; cases hp
  | some ie =>
    rw [hie] at hp
    simp at hp
    obtain ⟨hz, hs⟩ := hp
    refine wp_buildSlice 28 65 1 _ ho y.cells ie _ (by kernel_rfl) hie hz (by rw [hs]; decide) (by rw [hs]; decide) ?_ h
    have := Great.fill_whole (s := 4) (by decide) [.agg y.cells] ((Array.range (1 * ie.size)).map (((.agg (Mk.cells ⟨0, 0, 0, 0⟩)) : Value).cells[· % ((.agg (Mk.cells ⟨0, 0, 0, 0⟩)) : Value).cells.size]!)) (fun v hv => by
      simp at hv; subst hv; rfl) (by simp [hs])
    simp [hx, hs] at this ⊢
    exact this
theorem wpList_rowM (hgd : o.guard = none) (x : Operand) (ho : o.op = .buildSlice 28 1 #[(0, x)]) (y : Mk) (hx : a.eval x = .agg y.cells)
    (h : wpList Try.prog ops Q rest (a.put o.dst (.slice (some ⟨w.heap.size, 0, none⟩) 1 1)) (w.alloc (.cells y.cells 65))) : wpList Try.prog ops Q (o :: rest) a w :=
  wpList_plain hgd fun K hK => wp_rowM x ho y hx (hK _ _ h)
end
end Go.Proofs.Ytoihfhlelbdboab
