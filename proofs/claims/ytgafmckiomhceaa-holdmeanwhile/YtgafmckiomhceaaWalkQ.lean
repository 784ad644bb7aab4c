/- HoldMeanwhile: rows of numbers that hold nothing but numbers, spare room too; what a body that sets and deletes leaves. -/
import Derived.Test.YtgafmckiomhceaaWalkM
namespace Go.Proofs.Ytgafmckiomhceaa
open Go.RowKit Go.Hold Go.Inv Go.Shelf Go.Deep
set_option linter.unusedVariables false
set_option linter.unusedSimpArgs false

def AllInt (l : List Value) : Prop := ∀ c ∈ l, ∃ z, c = Value.int .i64 z
/-- v's own block, if it has one, holds numbers alone -/
def Nums (W : World) (v : Value) : Prop := ∀ g, v.ownBlock = some g → ∃ cur, W.heap[g]? = some (.cells cur 3 (0, 0)) ∧ AllInt cur.toList
theorem Nums.nil (W : World) : Nums W (.slice none 0 0) := fun g h => by simp [Value.ownBlock] at h
theorem Nums.same {A B : World} {v : Value} (h : Nums A v) (hb : ∀ g, v.ownBlock = some g → B.heap[g]? = A.heap[g]?) : Nums B v := fun g hg => by
  obtain ⟨cur, h1, h2⟩ := h g hg
  exact ⟨cur, (hb g hg).trans h1, h2⟩
theorem AllInt.append {a b : List Value} (h : AllInt a) (k : AllInt b) : AllInt (a ++ b) := fun c hc => (List.mem_append.mp hc).elim (h c) (k c)
theorem AllInt.zero (n : Nat) : AllInt (Builtin.zeroCells (Value.int .i64 0).cells n).toList := fun c hc => by
  simp [Builtin.zeroCells, Value.cells] at hc
  obtain ⟨i, _, h⟩ := hc
  rw [Nat.mod_one] at h
  exact ⟨0, h.symm⟩
theorem AllInt.one (y : Int) : AllInt [Value.int .i64 y] := fun c hc => ⟨y, by simpa using hc⟩
theorem AllInt.take {a : List Value} (h : AllInt a) (n : Nat) : AllInt (a.take n) := fun c hc => h c (List.mem_of_mem_take hc)
theorem AllInt.drop {a : List Value} (h : AllInt a) (n : Nat) : AllInt (a.drop n) := fun c hc => h c (List.mem_of_mem_drop hc)
theorem alloc_new (w : World) (o : Obj) : (w.alloc o).heap[w.heap.size]? = some o := World.alloc_heap_new w o

theorem append_nums (w : World) (ty base : Nat) (v : Value) (k : Nat) (xs : List Value) (hown : w.ownsRow base 3 1 v k xs) (hN : Nums w v) (g0 : Nat) (y : Int) (hc : w.cell? ⟨g0, 0, none⟩ = some (.int .i64 y)) (b1 : k ≤ 1000000)
    {v' : Value} {w' : World} (hr : (Builtin.append_ #[26, 26] ty #[v, .slice (some ⟨g0, 0, none⟩) 1 1]).run Try.prog w = .ok v' w') : Nums w' v' := by
  obtain ⟨i0, hi, hz0, hz1, hz2⟩ := info_parts info_int
  have hcs : ∀ j u, [Value.int .i64 y][j]? = some u → w.cell? ((⟨g0, 0, none⟩ : Addr).add j) = some u := by
    intro j u hj
    match j, hj with
    | 0, hj => simp at hj; subst hj; simpa [Addr.add] using hc
    | j + 1, hj => simp at hj
  rcases hown.2 with ⟨rfl, rfl⟩ | ⟨g, cap, cur, rfl, hbg, hg, hnc, hcm, hsz, htake⟩
  · have h := run_append_nil (P := Try.prog) w 26 ty 3 i0 (.int .i64 0) Try.underlying26 hi hz0 ⟨g0, 0, none⟩ 1 1 [.int .i64 y] (by rw [hz1]; rfl) hcs (by decide) (by decide) (by rw [hz2]; decide)
    rw [h] at hr
    injection hr with e1 e2
    subst e1 e2
    intro g hg
    simp [Value.ownBlock] at hg
    subst hg
    exact ⟨_, alloc_new w.drew _, by rw [Array.toList_append]; exact (AllInt.one y).append (AllInt.zero _)⟩
  · obtain ⟨cur', hg', hall⟩ := hN g rfl
    rw [hg] at hg'
    cases hg'
    have hxi : AllInt xs := by rw [← htake]; exact hall.take _
    by_cases hroom : k + 1 ≤ cap
    · have hfit : k * i0.size + [Value.int .i64 y].length ≤ cur.size := by rw [hz1, hsz]; simp; omega
      have h := run_append_room (P := Try.prog) w 26 ty 3 i0 Try.underlying26 hi g k cap cur hg ⟨g0, 0, none⟩ 1 1 [.int .i64 y] (by rw [hz1]; rfl) hcs (by simp; rfl) hroom hfit
      rw [h] at hr
      injection hr with e1 e2
      subst e1 e2
      intro g' hg''
      simp [Value.ownBlock] at hg''
      subst hg''
      exact ⟨_, setRow_heap w g cur _ 3 _ hg, (((hall.take _).append (AllInt.one y)).append (hall.drop _))⟩
    · have holds : ∀ j u, xs[j]? = some u → w.cell? ((⟨g, 0, none⟩ : Addr).add j) = some u := hown.cells (g := g) rfl
      have h := run_append_grow (P := Try.prog) w 26 ty 3 i0 (.int .i64 0) Try.underlying26 hi hz0 ⟨g, 0, none⟩ k cap xs (by rw [hz1]; exact hown.1) holds ⟨g0, 0, none⟩ 1 1 [.int .i64 y] (by rw [hz1]; rfl) hcs (by omega) (by omega) (growslice_fits (by omega) (by rw [hz2]; omega))
      rw [h] at hr
      injection hr with e1 e2
      subst e1 e2
      intro g' hg''
      simp [Value.ownBlock] at hg''
      subst hg''
      exact ⟨_, alloc_new w.drew _, by rw [Array.toList_append, Array.toList_append]; exact (hxi.append (AllInt.one y)).append (AllInt.zero _)⟩

/-- append of one number, inside a fence: the block holds numbers alone -/
theorem app1_nums {F : Fence} {n : Nat} (w : World) {o : Oper} {a : Act} {K : Act → World → Prop} {Q : Exit → Act → World → Prop} (s x : Operand)
    (hop : o.op = Op.call { callee := Callee.builtin Builtin.append, args := #[s, x], argTypes := #[26, 26] }) (base : Nat) (v : Value) (k : Nat) (xs : List Value) (hs : a.eval s = v) (hown : w.ownsRow base 3 1 v k xs) (hN : Nums w v)
    (g0 : Nat) (y : Int) (hx : a.eval x = .slice (some ⟨g0, 0, none⟩) 1 1) (hc : w.cell? ⟨g0, 0, none⟩ = some (.int .i64 y)) (b1 : k ≤ 1000000) (b3 : base ≤ w.heap.size)
    (h : ∀ g cap w', w'.ownsRow base 3 1 (.slice (some ⟨g, 0, none⟩) (k + 1) cap) (k + 1) (xs ++ [.int .i64 y]) → w.grownBy w' v.ownBlock → (v.ownBlock = some g ∨ g = w.heap.size) → Nums w' (.slice (some ⟨g, 0, none⟩) (k + 1) cap) → K (a.put o.dst (.slice (some ⟨g, 0, none⟩) (k + 1) cap)) w') :
    o.wpIn F n Try.prog a w K Q := by
  obtain ⟨i0, hi, hz0, hz1, hz2⟩ := info_parts info_int
  have hcs : ∀ j u, [Value.int .i64 y][j]? = some u → w.cell? ((⟨g0, 0, none⟩ : Addr).add j) = some u := by
    intro j u hj
    match j, hj with
    | 0, hj => simp at hj; subst hj; simpa [Addr.add] using hc
    | j + 1, hj => simp at hj
  obtain ⟨g, cap, w', hr, h2, h3, h4, h5⟩ := run_append_lies (P := Try.prog) w 26 o.type base 3 i0 (.int .i64 0) 1 8 Try.underlying26 hi hz0 hz1 hz2 rfl (by decide) v k xs hown ⟨g0, 0, none⟩ 1 1 [.int .i64 y] rfl hcs (by simp; rfl) (by decide) (by unfold maxLen; omega) (by omega) b3 w.heap.size rfl
  have hN' := append_nums w o.type base v k xs hown hN g0 y hc b1 hr
  unfold Oper.wpIn
  refine ⟨?_, ?_⟩
  · simp [Oper.about, hop, resolve, Target.leads, Sem.run_pure]
  · rw [Oper.semAt_plain F _ _ (by rw [hop]; intro c hc'; cases hc')]
    simp [execOp, hop, resolve, invoke, builtin, hs, hx, hr, Result.andThen]
    exact h g cap w' h2 h3 h4 hN'

/-- a tree is left where blocks turn that hold no pointer in their fifth cell -/
theorem IsT.frmP {S : Nat → Prop} {A B : World} (h : Frm S A B) (hS : ∀ k, S k → ∀ p, A.cell? ⟨k, 4, none⟩ ≠ some (.pointer p)) : ∀ {p : Option Addr} {t : BT Int}, IsT A.heap.size A p t → IsT B.heap.size B p t
  | _, .nil, ht => ht
  | _, .node _ _ _ _, ⟨b, pl, pr, hp, hb, h0, h1, h2, h3, h4, hl, hr⟩ => by
    have hn : ¬ S b := fun hs => hS b hs _ h4
    have hc : ∀ i, B.cell? ⟨b, i, none⟩ = A.cell? ⟨b, i, none⟩ := fun i => World.cell?_of_block (h.block b hb hn)
    exact ⟨b, pl, pr, hp, Nat.lt_of_lt_of_le hb h.size, (hc 0).trans h0, (hc 1).trans h1, (hc 2).trans h2, (hc 3).trans h3, (hc 4).trans h4, IsT.frmP h hS hl, IsT.frmP h hS hr⟩
theorem Tab.frmP {S : Nat → Prop} {A B : World} {bt : Nat} {l : List (Int × Int)} (ht : Tab A bt l) (h : Frm S A B) (hn : ¬ S bt) (hS : ∀ k, S k → ∀ p, A.cell? ⟨k, 4, none⟩ ≠ some (.pointer p)) : Tab B bt l := by
  obtain ⟨p, t, hb, hT, hl, hr⟩ := ht
  exact ⟨p, t, hb.frm h hn, IsT.frmP h hS hT, hl, hr⟩
theorem Nums.noPtr {W : World} {v : Value} (h : Nums W v) {g : Nat} (hg : v.ownBlock = some g) (i : Nat) (p : Option Addr) : W.cell? ⟨g, i, none⟩ ≠ some (.pointer p) := by
  obtain ⟨cur, h1, h2⟩ := h g hg
  rw [cell_of_row W g i cur _ _ h1]
  intro e
  obtain ⟨z, hz⟩ := h2 (.pointer p) (by rw [← Array.getElem?_toList] at e; exact List.mem_of_getElem? e)
  cases hz

/-- what the body of the ranging leaves besides its two rows -/
structure Dur (w W0 : World) (P : Nat → Prop) (bt most : Nat) (mv : Value) (W : World) : Prop where
  tab : ∃ l, Tab W bt l ∧ l.length ≤ most
  t0 : Boxed W w.heap.size 23 (.pointer (some ⟨bt, 0, none⟩))
  m0 : Boxed W (w.heap.size + 1) 22 mv
  r0 : Boxed W (w.heap.size + 2) 4 (.bool false)
  kept : Kept P W0 W
  frm : Frm (· = bt) w W
section
variable {w W0 : World} {P : Nat → Prop} {bt most : Nat} {mv : Value} {W : World}
theorem Dur.mono (h : Dur w W0 P bt most mv W) {m' : Nat} (hm : most ≤ m') : Dur w W0 P bt m' mv W := by
  obtain ⟨l, h1, h2⟩ := h.tab
  exact ⟨⟨l, h1, by omega⟩, h.t0, h.m0, h.r0, h.kept, h.frm⟩
/-- blocks of S turn: none of the table's, none of the boxes', none of P's, none of w's -/
theorem Dur.turn (h : Dur w W0 P bt most mv W) {S : Nat → Prop} {W' : World} (hF : Frm S W W') (hS : ∀ k, S k → ∀ p, W.cell? ⟨k, 4, none⟩ ≠ some (.pointer p)) (hlo : ∀ k, S k → w.heap.size + 2 < k) (hbt : bt < w.heap.size) (hP : ∀ k, P k → k < W0.heap.size ∧ ¬ S k) (hW : W0.heap.size ≤ W.heap.size) : Dur w W0 P bt most mv W' := by
  obtain ⟨l, h1, h2⟩ := h.tab
  refine ⟨⟨l, h1.frmP hF (fun e => by have := hlo bt e; omega) hS, h2⟩, h.t0.frm hF (fun e => by have := hlo _ e; omega), h.m0.frm hF (fun e => by have := hlo _ e; omega), h.r0.frm hF (fun e => by have := hlo _ e; omega), h.kept.trans (fun b hb => hF.block b (by have := (hP b hb).1; omega) (hP b hb).2), ?_⟩
  exact ⟨hF.os.trans h.frm.os, hF.tape.trans h.frm.tape, hF.output.trans h.frm.output, Nat.le_trans h.frm.size hF.size, fun k hk hn => (hF.block k (by have := h.frm.size; omega) (fun e => by have := hlo k e; omega)).trans (h.frm.block k hk hn)⟩
/-- a call that turns the table -/
theorem Dur.call (h : Dur w W0 P bt most mv W) {W' : World} {l' : List (Int × Int)} {m' : Nat} (hT : Tab W' bt l') (hl : l'.length ≤ m') (hF : Frm (· = bt) W W') (hbt : bt < w.heap.size) (hP : ∀ k, P k → k < W0.heap.size ∧ k ≠ bt) (hW : W0.heap.size ≤ W.heap.size) : Dur w W0 P bt m' mv W' :=
  ⟨⟨l', hT, hl⟩, h.t0.frm hF (fun e => by omega), h.m0.frm hF (fun e => by omega), h.r0.frm hF (fun e => by omega), h.kept.trans (fun b hb => hF.block b (by have := (hP b hb).1; omega) (hP b hb).2), h.frm.trans hF⟩
end
theorem keeps_frm {W W' : World} {bt : Nat} {l : List (Int × Int)} (hF : Frm (· = bt) W W') (hT : Tab W bt l) : KeepsOthers W W' := ⟨hF.size, fun k o hk ho => by
  by_cases hb : k = bt
  · subst hb
    obtain ⟨p, t, hb, _⟩ := hT
    rw [show W.heap[k]? = _ from hb] at hk
    cases hk
    cases ho
  · exact (hF.block k (lt_of_heap hk) hb).trans hk⟩
theorem frm_grown {W W' : World} {row : Option Nat} (hg : W.grownBy W' row) : Frm (fun k => row = some k) W W' := ⟨hg.os, hg.tape, hg.output, hg.size, fun k hk hn => hg.block k hk (fun e => hn e.symm)⟩

/-- the region that appends to both rows -/
structure DI (w W0 : World) (P : Nat → Prop) (bt most : Nat) (mv : Value) (nv v u : Value) (n : Nat) (xk xv : List Value) (a b : Value) (W : World) (li : Nat → Bool) (xs : Nat → Value) (W1 : World) : Prop where
  told : ToldI w.heap.size W0.heap.size (w.heap.size + 3) (w.heap.size + 4) (w.heap.size + 5) nv v u n xk xv a b W li xs W1
  dur : Dur w W0 P bt most mv W1
  a0 : li 3 = false → Nums W1 v
  a1 : li 3 = true → Nums W1 (xs 3)
  b0 : li 7 = false → Nums W1 u
  b1 : li 7 = true → Nums W1 (xs 7)
/-- what P leaves out -/
def Out (w W0 : World) (P : Nat → Prop) (bt : Nat) : Prop := bt < w.heap.size ∧ w.heap.size + 8 ≤ W0.heap.size ∧ ∀ k, P k → k < W0.heap.size ∧ k ≠ bt ∧ k ≠ w.heap.size + 3 ∧ k ≠ w.heap.size + 4 ∧ k ≠ w.heap.size + 5
section
variable {w W0 : World} {P : Nat → Prop} {bt most : Nat} {mv nv v u : Value} {n : Nat} {xk xv : List Value} {a b : Value} {W W1 : World} {li : Nat → Bool} {xs : Nat → Value}
theorem nums_upd (i : Nat) (x : Value) {j : Nat} (hj : j ≠ i) {Q : Value → Prop} (h : li j = true → Q (xs j)) : upd li i true j = true → Q (upd xs i x j) := by
  rw [upd_other _ _ hj, upd_other _ _ hj]; exact h
theorem off_upd (i : Nat) {j : Nat} (hj : j ≠ i) {Q : Prop} (h : li j = false → Q) : upd li i true j = false → Q := by
  rw [upd_other _ _ hj]; exact h
theorem DI.mark (h : DI w W0 P bt most mv nv v u n xk xv a b W li xs W1) (i : Nat) (x : Value) (hi : i ≠ 3 ∧ i ≠ 7) (ht : ToldI w.heap.size W0.heap.size (w.heap.size + 3) (w.heap.size + 4) (w.heap.size + 5) nv v u n xk xv a b W (upd li i true) (upd xs i x) W1) :
    DI w W0 P bt most mv nv v u n xk xv a b W (upd li i true) (upd xs i x) W1 :=
  ⟨ht, h.dur, off_upd i (Ne.symm hi.1) h.a0, nums_upd i x (Ne.symm hi.1) h.a1, off_upd i (Ne.symm hi.2) h.b0, nums_upd i x (Ne.symm hi.2) h.b1⟩
theorem own_old {g : Nat} {z : Value} {m : Nat} {ys : List Value} {B : World} (h : W1.ownsRow W0.heap.size 3 1 z m ys) (hg : z.ownBlock = some g) (hB : Below W1.heap.size W1 B) : B.heap[g]? = W1.heap[g]? := hB.block g (h.lt g hg).2
theorem DI.alloc (h : DI w W0 P bt most mv nv v u n xk xv a b W li xs W1) (ho : Out w W0 P bt) (o : Obj) : DI w W0 P bt most mv nv v u n xk xv a b W li xs (W1.alloc o) := by
  have hB : Below W1.heap.size W1 (W1.alloc o) := (Below.refl _ _).alloc (Nat.le_refl _) o
  refine ⟨h.told.alloc (by have := ho.2.1; omega) o, h.dur.turn (S := fun _ => False) (Frm.of_below hB) (fun _ e => e.elim) (fun _ e => e.elim) ho.1 (fun k hk => ⟨(ho.2.2 k hk).1, fun e => e⟩) h.told.le, fun e => (h.a0 e).same (fun g hg => own_old (h.told.a0 e) hg hB), fun e => (h.a1 e).same (fun g hg => own_old (h.told.a1 e).2 hg hB), fun e => (h.b0 e).same (fun g hg => own_old (h.told.b0 e) hg hB), fun e => (h.b1 e).same (fun g hg => own_old (h.told.b1 e).2 hg hB)⟩
theorem Dur.row (h : Dur w W0 P bt most mv W1) (ho : Out w W0 P bt) (hle : W0.heap.size ≤ W1.heap.size) {z : Value} {m : Nat} {ys : List Value} (hr : W1.ownsRow W0.heap.size 3 1 z m ys) (hN : Nums W1 z) {w' : World} (hg : W1.grownBy w' z.ownBlock) : Dur w W0 P bt most mv w' :=
  h.turn (frm_grown hg) (fun k hk p => hN.noPtr hk 4 p) (fun k hk => by have := (hr.lt k hk).1; have := ho.2.1; omega) ho.1 (fun k hk => ⟨(ho.2.2 k hk).1, fun e => by have := (hr.lt k e).1; have := (ho.2.2 k hk).1; omega⟩) hle
theorem DI.app3 (h : DI w W0 P bt most mv nv v u n xk xv a b W li xs W1) (ho : Out w W0 P bt) (l3 : li 3 = false) (l0 : li 0 = true) (l2 : li 2 = true) (g cap : Nat) (w' : World)
    (hown : w'.ownsRow W0.heap.size 3 1 (.slice (some ⟨g, 0, none⟩) (n + 1) cap) (n + 1) (xk ++ [a])) (hg : W1.grownBy w' v.ownBlock) (hgf : v.ownBlock = some g ∨ g = W1.heap.size) (hN : Nums w' (.slice (some ⟨g, 0, none⟩) (n + 1) cap)) :
    DI w W0 P bt most mv nv v u n xk xv a b W (upd li 3 true) (upd xs 3 (.slice (some ⟨g, 0, none⟩) (n + 1) cap)) w' := by
  have l7 : li 7 = false := not_on (fun hh => (h.told.c7 hh).1) l3
  have := ho.2.1
  have hu := h.told.b0 l7
  refine ⟨h.told.app3 (by omega) ⟨by omega, by omega, by omega⟩ l3 l0 l2 g cap w' hown hg hgf, h.dur.row ho h.told.le (h.told.a0 l3) (h.a0 l3) hg, fun e => (by rw [upd_same] at e; cases e), fun _ => (by rw [upd_same]; exact hN), off_upd 3 (by decide) (fun e => (h.b0 e).same (fun g' hg' => ?_)), fun e => (by rw [upd_other _ _ (by decide), l7] at e; cases e)⟩
  refine hg.block g' (hu.lt g' hg').2 ?_
  rcases h.told.p00 l3 with hp | hp
  · rw [hp]; intro e; cases e
  · rw [← hg']; exact Ne.symm hp
theorem DI.app7 (h : DI w W0 P bt most mv nv v u n xk xv a b W li xs W1) (ho : Out w W0 P bt) (l7 : li 7 = false) (l3 : li 3 = true) (l4 : li 4 = true) (l6 : li 6 = true) (g cap : Nat) (w' : World)
    (hown : w'.ownsRow W0.heap.size 3 1 (.slice (some ⟨g, 0, none⟩) (n + 1) cap) (n + 1) (xv ++ [b])) (hg : W1.grownBy w' u.ownBlock) (hgf : u.ownBlock = some g ∨ g = W1.heap.size) (hN : Nums w' (.slice (some ⟨g, 0, none⟩) (n + 1) cap)) :
    DI w W0 P bt most mv nv v u n xk xv a b W (upd li 7 true) (upd xs 7 (.slice (some ⟨g, 0, none⟩) (n + 1) cap)) w' := by
  have := ho.2.1
  obtain ⟨_, hv⟩ := h.told.a1 l3
  refine ⟨h.told.app7 (by omega) ⟨by omega, by omega, by omega⟩ l7 l3 l4 l6 g cap w' hown hg hgf, h.dur.row ho h.told.le (h.told.b0 l7) (h.b0 l7) hg, fun e => (by rw [upd_other _ _ (by decide), l3] at e; cases e), nums_upd 7 _ (by decide) (fun e => (h.a1 e).same (fun g' hg' => ?_)), fun e => (by rw [upd_same] at e; cases e), fun _ => (by rw [upd_same]; exact hN)⟩
  refine hg.block g' (hv.lt g' hg').2 ?_
  rw [← hg']; exact h.told.p10 l3 l7
theorem Dur.box (h : Dur w W0 P bt most mv W1) (ho : Out w W0 P bt) (hle : W0.heap.size ≤ W1.heap.size) {B : Nat} {t : TypeId} {y : Value} (hb : Boxed W1 B t y) (hB : B = w.heap.size + 3 ∨ B = w.heap.size + 4 ∨ B = w.heap.size + 5) (z : Value) : Dur w W0 P bt most mv (W1.setCell ⟨B, 0, none⟩ z) :=
  h.turn (Frm.setCell W1 B 0 z) (fun k hk p => by cases hk; rw [hb.cell4]; intro e; cases e) (fun k hk => by omega) ho.1 (fun k hk => ⟨(ho.2.2 k hk).1, fun e => by have := (ho.2.2 k hk).2.2; omega⟩) hle
theorem nums_box {z y : Value} {m : Nat} {ys : List Value} (hN : Nums W1 z) (hr : W1.ownsRow W0.heap.size 3 1 z m ys) {B : Nat} (hB : B < W0.heap.size) : Nums (W1.setCell ⟨B, 0, none⟩ y) z := hN.same (fun g hg => Below.heap_setCell _ _ _ g (fun e => by have := (hr.lt g hg).1; subst e; omega))
theorem DI.put8 (h : DI w W0 P bt most mv nv v u n xk xv a b W li xs W1) (ho : Out w W0 P bt) (l7 : li 7 = true) (l8 : li 8 = false) (x : Value) :
    DI w W0 P bt most mv nv v u n xk xv a b W (upd li 8 true) (upd xs 8 x) (W1.setCell ⟨w.heap.size + 3, 0, none⟩ (xs 3)) := by
  have := ho.2.1
  refine ⟨h.told.put8 ⟨by omega, by omega, by omega⟩ ⟨by omega, by omega⟩ (by omega) l7 l8 x, h.dur.box ho h.told.le (h.told.k0 l8) (.inl rfl) _, off_upd 8 (by decide) (fun e => nums_box (h.a0 e) (h.told.a0 e) (by omega)), nums_upd 8 _ (by decide) (fun e => nums_box (h.a1 e) (h.told.a1 e).2 (by omega)), off_upd 8 (by decide) (fun e => nums_box (h.b0 e) (h.told.b0 e) (by omega)), nums_upd 8 _ (by decide) (fun e => nums_box (h.b1 e) (h.told.b1 e).2 (by omega))⟩
theorem DI.put9 (h : DI w W0 P bt most mv nv v u n xk xv a b W li xs W1) (ho : Out w W0 P bt) (l8 : li 8 = true) (l9 : li 9 = false) (x : Value) :
    DI w W0 P bt most mv nv v u n xk xv a b W (upd li 9 true) (upd xs 9 x) (W1.setCell ⟨w.heap.size + 4, 0, none⟩ (xs 7)) := by
  have := ho.2.1
  refine ⟨h.told.put9 ⟨by omega, by omega, by omega⟩ ⟨by omega, by omega⟩ (by omega) l8 l9 x, h.dur.box ho h.told.le (h.told.u0 l9) (.inr (.inl rfl)) _, off_upd 9 (by decide) (fun e => nums_box (h.a0 e) (h.told.a0 e) (by omega)), nums_upd 9 _ (by decide) (fun e => nums_box (h.a1 e) (h.told.a1 e).2 (by omega)), off_upd 9 (by decide) (fun e => nums_box (h.b0 e) (h.told.b0 e) (by omega)), nums_upd 9 _ (by decide) (fun e => nums_box (h.b1 e) (h.told.b1 e).2 (by omega))⟩
end

end Go.Proofs.Ytgafmckiomhceaa
