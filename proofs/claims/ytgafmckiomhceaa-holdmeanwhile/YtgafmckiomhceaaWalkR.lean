/- HoldMeanwhile's walk: during: a ranging whose body sets and deletes. -/
import Derived.Test.YtgafmckiomhceaaWalkQ
namespace Go.Proofs.Ytgafmckiomhceaa
open Go.RowKit Go.Hold Go.Inv Go.Shelf Go.Deep
set_option linter.unusedVariables false
set_option linter.unusedSimpArgs false

attribute [local go_sem] Oper.semAt_some

theorem six_new (w : World) (o0 o1 o2 o3 o4 o5 : Obj) {W : World} (hW : (((((w.alloc o0).alloc o1).alloc o2).alloc o3).alloc o4).alloc o5 = W) :
    W.heap.size = w.heap.size + 6 ∧ W.heap[w.heap.size]? = some o0 ∧ W.heap[w.heap.size + 1]? = some o1 ∧ W.heap[w.heap.size + 2]? = some o2 ∧ W.heap[w.heap.size + 3]? = some o3 ∧ W.heap[w.heap.size + 4]? = some o4 ∧ W.heap[w.heap.size + 5]? = some o5 ∧ Below w.heap.size w W := by
  subst hW
  refine ⟨by simp, ?_, ?_, ?_, ?_, ?_, ?_, ((((((Below.refl _ w).alloc (Nat.le_refl _) _).alloc (by simp) _).alloc (by simp; omega) _).alloc (by simp; omega) _).alloc (by simp; omega) _).alloc (by simp; omega) _⟩
  all_goals
    have hp : ∀ (X : World) (o : Obj), (X.alloc o).heap = X.heap.push o := fun _ _ => rfl
    simp only [hp, Array.getElem?_push, Array.size_push]
    simp
    try (repeat rw [if_neg (by omega)])

theorem cell_none {W : World} {k : Nat} {o : Obj} (ho : W.heap[k]? = some o) (hc : o.isCells = false) (i : Nat) : W.cell? ⟨k, i, none⟩ = none := by
  cases o <;> simp_all [World.cell?, Obj.isCells]

/-- both rows, of numbers alone -/
def TwoN (n₁ Bk Bv n : Nat) (xk xv : List Value) (W : World) : Prop := ∃ v u, Boxed W Bk 26 v ∧ Boxed W Bv 26 u ∧ W.ownsRow n₁ 3 1 v n xk ∧ W.ownsRow n₁ 3 1 u n xv ∧ (v.ownBlock = none ∨ v.ownBlock ≠ u.ownBlock) ∧ Nums W v ∧ Nums W u
theorem nums_turn {X Y : World} {row : Option Nat} {base : Nat} {v : Value} {k : Nat} {ys : List Value} (hN : Nums X v) (hr : X.ownsRow base 3 1 v k ys) (hg : X.grownBy Y row) (hrow : ∀ r, row = some r → ∃ o : Obj, X.heap[r]? = some o ∧ o.isCells = false) : Nums Y v := hN.same (fun g hgv => hg.block g (hr.lt g hgv).2 (fun e => by
  obtain ⟨o, ho, hc⟩ := hrow g e.symm
  obtain ⟨cur, h1, _⟩ := hN g hgv
  rw [h1] at ho; cases ho; cases hc))
theorem TwoN.turn {X Y : World} {row : Option Nat} {n₁ Bk Bv n : Nat} {xk xv : List Value} (h : TwoN n₁ Bk Bv n xk xv X) (hg : X.grownBy Y row) (hrow : ∀ r, row = some r → ∃ o : Obj, X.heap[r]? = some o ∧ o.isCells = false) : TwoN n₁ Bk Bv n xk xv Y := by
  obtain ⟨v, u, h1, h2, h3, h4, h5, h6, h7⟩ := h
  exact ⟨v, u, boxed_turn h1 hg hrow, boxed_turn h2 hg hrow, row_turn h3 hg hrow, row_turn h4 hg hrow, h5, nums_turn h6 h3 hg hrow, nums_turn h7 h4 hg hrow⟩
theorem Dur.own {w W0 : World} {P : Nat → Prop} {bt most : Nat} {mv : Value} {A B : World} {row : Option Nat} (h : Dur w W0 P bt most mv A) (ho : Out w W0 P bt) (hle : W0.heap.size ≤ A.heap.size) (hg : A.grownBy B row) (hrow : ∀ r, row = some r → W0.heap.size ≤ r ∧ ∃ o : Obj, A.heap[r]? = some o ∧ o.isCells = false) : Dur w W0 P bt most mv B :=
  h.turn (frm_grown hg) (fun k hk p => by obtain ⟨_, o, h1, h2⟩ := hrow k hk; rw [cell_none h1 h2]; intro e; cases e) (fun k hk => by have := (hrow k hk).1; have := ho.2.1; omega) ho.1 (fun k hk => ⟨(ho.2.2 k hk).1, fun e => by have := (hrow k e).1; have := (ho.2.2 k hk).1; omega⟩) hle

/-- a region that reads, in whatever order, and calls once; what it reads (R) is there ahead of the call and behind it -/
structure RdI (W : World) (c : Nat) (R : World → Prop) (D : Nat → Value → Prop) (Post : World → Prop) (li : Nat → Bool) (xs : Nat → Value) (W1 : World) : Prop where
  det : ∀ i, li i = true → D i (xs i)
  rd : R W1
  pre : li c = false → W1 = W
  post : li c = true → Post W1
section
variable {W : World} {c : Nat} {R : World → Prop} {D : Nat → Value → Prop} {Post : World → Prop} {li : Nat → Bool} {xs : Nat → Value} {W1 : World}
theorem RdI.detStep (h : RdI W c R D Post li xs W1) (i : Nat) (x : Value) (hf : D i x) : ∀ j, upd li i true j = true → D j (upd xs i x j) := fun j hl => by
  by_cases hji : j = i
  · subst hji; rw [upd_same]; exact hf
  · rw [upd_other _ _ hji] at hl ⊢; exact h.det j hl
theorem RdI.mark (h : RdI W c R D Post li xs W1) (i : Nat) (x : Value) (hf : D i x) (hi : i ≠ c) : RdI W c R D Post (upd li i true) (upd xs i x) W1 := by
  have e : upd li i true c = li c := upd_other _ _ (Ne.symm hi)
  exact ⟨h.detStep i x hf, h.rd, by rw [e]; exact h.pre, by rw [e]; exact h.post⟩
theorem RdI.call (h : RdI W c R D Post li xs W1) (x : Value) (hf : D c x) {W' : World} (hR : R W') (hP : Post W') : RdI W c R D Post (upd li c true) (upd xs c x) W' :=
  ⟨h.detStep c x hf, hR, fun e => (by rw [upd_same] at e; cases e), fun _ => hP⟩
end
/-- what the two calls' regions read -/
def Rds (w : World) (bt g off n ml cm : Nat) (k v : Int) (W : World) : Prop := W.cell? ⟨w.heap.size, 0, none⟩ = some (.pointer (some ⟨bt, 0, none⟩)) ∧ W.cell? ⟨w.heap.size + 1, 0, none⟩ = some (.slice (some ⟨g, off, none⟩) ml cm) ∧ W.cell? ⟨w.heap.size + 5, 0, none⟩ = some (.int .i64 (n : Int)) ∧ W.cell? ⟨g, off + n * 3 + 1, none⟩ = some (.int .i64 k) ∧ W.cell? ⟨g, off + n * 3 + 2, none⟩ = some (.int .i64 v)
theorem cell_frm {A B : World} {bt b i : Nat} {x : Value} (h : A.cell? ⟨b, i, none⟩ = some x) (hF : Frm (· = bt) A B) (hb : b ≠ bt) : B.cell? ⟨b, i, none⟩ = some x := (World.cell?_of_block (hF.block b (block_lt_of_cell h) hb)).trans h
theorem Rds.frm {w : World} {bt g off n ml cm : Nat} {k v : Int} {A B : World} (h : Rds w bt g off n ml cm k v A) (hF : Frm (· = bt) A B) (hbt : bt < w.heap.size) (hg : g ≠ bt) : Rds w bt g off n ml cm k v B :=
  ⟨cell_frm h.1 hF (by omega), cell_frm h.2.1 hF (by omega), cell_frm h.2.2.1 hF (by omega), cell_frm h.2.2.2.1 hF hg, cell_frm h.2.2.2.2 hF hg⟩
theorem grown_frm {A B : World} {bt : Nat} (hF : Frm (· = bt) A B) : A.grownBy B (some bt) := ⟨hF.os, hF.tape, hF.output, hF.size, fun k hk hn => hF.block k hk (fun e => hn (by rw [e]))⟩
theorem TwoN.frm {A B : World} {bt n₁ Bk Bv n : Nat} {xk xv : List Value} (h : TwoN n₁ Bk Bv n xk xv A) (hF : Frm (· = bt) A B) (hb : bt < n₁) (hk : Bk ≠ bt) (hv : Bv ≠ bt) : TwoN n₁ Bk Bv n xk xv B := by
  obtain ⟨v, u, h1, h2, h3, h4, h5, h6, h7⟩ := h
  have key : ∀ {z : Value} {m : Nat} {ys : List Value}, A.ownsRow n₁ 3 1 z m ys → ∀ g, z.ownBlock = some g → g ≠ bt := fun hr g hg e => by have := (hr.lt g hg).1; omega
  have own : ∀ {z : Value} {m : Nat} {ys : List Value}, A.ownsRow n₁ 3 1 z m ys → B.ownsRow n₁ 3 1 z m ys := fun {z m ys} hr => hr.kept (grown_frm hF) (.inr (fun e => key hr bt e rfl))
  exact ⟨v, u, h1.frm hF hk, h2.frm hF hv, own h3, own h4, h5, h6.same (fun g hg => hF.block g (h3.lt g hg).2 (key h3 g hg)), h7.same (fun g hg => hF.block g (h4.lt g hg).2 (key h4 g hg))⟩
theorem TwoN.box {A : World} {n₁ Bk Bv n B : Nat} {xk xv : List Value} (h : TwoN n₁ Bk Bv n xk xv A) (hB : B < n₁) (hk : Bk ≠ B) (hv : Bv ≠ B) (y : Value) : TwoN n₁ Bk Bv n xk xv (A.setCell ⟨B, 0, none⟩ y) := by
  obtain ⟨v, u, h1, h2, h3, h4, h5, h6, h7⟩ := h
  have num : ∀ {z : Value} {m : Nat} {ys : List Value}, A.ownsRow n₁ 3 1 z m ys → Nums A z → Nums (A.setCell ⟨B, 0, none⟩ y) z := fun hr hN => hN.same (fun g hg => Below.heap_setCell _ _ _ g (fun e => by have := (hr.lt g hg).1; subst e; omega))
  exact ⟨v, u, h1.other hk _, h2.other hv _, row_setCell h3 hB, row_setCell h4 hB, h5, num h3 h6, num h4 h7⟩
/-- n++ -/
theorem during_round {w W0 : World} {P : Nat → Prop} {bt : Nat} {mv y : Value} {pre : List (Int × Int)} {x : Int × Int} {W2 : World} (hout : Out w W0 P bt) (two : TwoN W0.heap.size (w.heap.size + 3) (w.heap.size + 4) (pre ++ [x]).length (ints1 (pre ++ [x])) (ints2 (pre ++ [x])) W2) (bn : Boxed W2 (w.heap.size + 5) 3 y) (hd : Dur w W0 P bt (150 + pre.length + 1) mv W2) (hle : W0.heap.size ≤ W2.heap.size) :
    Kept P W2 (W2.setCell ⟨w.heap.size + 5, 0, none⟩ (.int .i64 ((pre.length : Int) + 1))) ∧ KeepsOthers W2 (W2.setCell ⟨w.heap.size + 5, 0, none⟩ (.int .i64 ((pre.length : Int) + 1))) ∧ TwoN W0.heap.size (w.heap.size + 3) (w.heap.size + 4) (pre ++ [x]).length (ints1 (pre ++ [x])) (ints2 (pre ++ [x])) (W2.setCell ⟨w.heap.size + 5, 0, none⟩ (.int .i64 ((pre.length : Int) + 1))) ∧ Boxed (W2.setCell ⟨w.heap.size + 5, 0, none⟩ (.int .i64 ((pre.length : Int) + 1))) (w.heap.size + 5) 3 (.int .i64 ((pre ++ [x]).length : Int)) ∧ Dur w W0 P bt (150 + (pre ++ [x]).length) mv (W2.setCell ⟨w.heap.size + 5, 0, none⟩ (.int .i64 ((pre.length : Int) + 1))) ∧ W0.heap.size ≤ (W2.setCell ⟨w.heap.size + 5, 0, none⟩ (.int .i64 ((pre.length : Int) + 1))).heap.size := by
  have h8 := hout.2.1
  refine ⟨fun b hb => Below.heap_setCell _ _ _ b (fun e => (hout.2.2 b hb).2.2.2.2 e), KeepsOthers.setCell _ _ _, two.box (by omega) (by omega) (by omega) _, ?_, (hd.box hout hle bn (.inr (.inr rfl)) _).mono (by simp; omega), by simpa [World.setCell] using hle⟩
  have := bn.set (.int .i64 ((pre.length : Int) + 1))
  rw [show ((pre ++ [x]).length : Int) = (pre.length : Int) + 1 by simp]
  exact this

set_option maxRecDepth 100000 in
set_option maxHeartbeats 4000000 in
theorem during_any (bt : Nat) (l : List (Int × Int)) (keys vals mv : Value) (ms : List (Int × Int × Int)) (w : World) (hT : Tab w bt l) (hL : l.length ≤ 150) (hk : Sl w keys (keysL l)) (hv : Sl w vals (valsL l)) (hm : Acts w mv ms) (hml : ms.length ≤ 9223372036854775807) :
    Calls Try.prog 17 #[.pointer (some ⟨bt, 0, none⟩), keys, vals, mv] w fun e w' => e = .returned (.bool true) ∧ Frm (· = bt) w w' := by
  refine (callsIn_wide (n := 9)).1 ?_
  obtain ⟨am, cm, rfl, hmc⟩ := hm
  have hbt := hT.lt
  refine callsIn_of_wp_marks Try.func17 rfl trivial ?_ rfl
  simp only [Try.ntmps17, List.size_toArray, List.length_cons, List.length_nil, Nat.reduceAdd, Nat.reduceSub, Array.replicate_succ, Array.replicate_zero, List.push_toArray, List.append_toArray, List.nil_append, List.cons_append]
  gi_wp2_with fail
  refine ⟨trivial, ?_⟩
  obtain ⟨W5, hW5⟩ : ∃ W5, (((((w.alloc (.cells #[.pointer (some ⟨bt, 0, none⟩)] 23)).alloc (.cells #[.slice am ms.length cm] 22)).alloc (.cells #[.bool false] 4)).alloc (.cells #[.slice none 0 0] 26)).alloc (.cells #[.slice none 0 0] 26)).alloc (.cells #[.int .i64 0] 3) = W5 := ⟨_, rfl⟩
  obtain ⟨hs5, e0, e1, e2, e3, e4, e5, hB5⟩ := six_new w _ _ _ _ _ _ hW5
  rw [hW5]
  clear hW5
  simp only [Nat.add_assoc, Nat.reduceAdd]
  refine (callsIn_wide.2 (All_any (some ⟨bt, 0, none⟩) W5)).mono ?_
  rintro e W0' ⟨rfl, hW0⟩
  rw [hs5]
  have hB6 := two_new W5 (.cells #[.pointer (some ⟨bt, 0, none⟩)] 23) (.cells #[.int .i64 (-9223372036854775808)] 3)
  have bT := (Boxed.new W5 23 (.pointer (some ⟨bt, 0, none⟩))).alloc (.cells #[.int .i64 (-9223372036854775808)] 3)
  have bF := Boxed.new (W5.alloc (.cells #[.pointer (some ⟨bt, 0, none⟩)] 23)) 3 (.int .i64 (-9223372036854775808))
  rw [World.size_alloc] at bF
  have hs0 : W0'.heap.size = w.heap.size + 8 := by rw [hW0]; simp; omega
  rw [← hW0] at hB6 bT bF
  rw [hs5] at bT bF
  obtain ⟨W0, hWW⟩ : ∃ W0, W0' = W0 := ⟨_, rfl⟩
  rw [hWW] at hB6 bT bF hs0 ⊢
  clear hW0 hWW
  have hB0 : Below w.heap.size w W0 := hB5.trans (hB6.mono (by omega))
  have x0 : Boxed W0 w.heap.size 23 (.pointer (some ⟨bt, 0, none⟩)) := (hB6.block _ (by omega)).trans e0
  have x1 : Boxed W0 (w.heap.size + 1) 22 (.slice am ms.length cm) := (hB6.block _ (by omega)).trans e1
  have x2 : Boxed W0 (w.heap.size + 2) 4 (.bool false) := (hB6.block _ (by omega)).trans e2
  have x3 : Boxed W0 (w.heap.size + 3) 26 (.slice none 0 0) := (hB6.block _ (by omega)).trans e3
  have x4 : Boxed W0 (w.heap.size + 4) 26 (.slice none 0 0) := (hB6.block _ (by omega)).trans e4
  have x5 : Boxed W0 (w.heap.size + 5) 3 (.int .i64 0) := (hB6.block _ (by omega)).trans e5
  have hT0 : Tab W0 bt l := hT.grow hB0
  obtain ⟨P, hP⟩ : ∃ P : Nat → Prop, P = fun b => b < W0.heap.size ∧ W0.cell? ⟨b, 4, none⟩ ≠ none := ⟨_, rfl⟩
  have hout : Out w W0 P bt := ⟨hbt, by omega, fun k hk => by
    rw [hP] at hk
    exact ⟨hk.1, fun e => hk.2 (by rw [e]; exact hT0.cell4), fun e => hk.2 (by rw [e]; exact x3.cell4), fun e => hk.2 (by rw [e]; exact x4.cell4), fun e => hk.2 (by rw [e]; exact x5.cell4)⟩⟩
  have hseq : ∀ n, SeqStopsK Fence.wide n Try.prog 38 #[.pointer (some ⟨w.heap.size + 6, 0, none⟩), .pointer (some ⟨w.heap.size + 6 + 1, 0, none⟩)] (fun x : Int × Int => #[Value.int .i64 x.1, Value.int .i64 x.2]) (Kept P) (fun ys => ys = l) (fun pre => pre <+: l) l.length W0 := fun n => by
    have h := from_stops P (some ⟨bt, 0, none⟩) l (-9223372036854775808) (w.heap.size + 6) (w.heap.size + 6 + 1) W0 (.inr ⟨bt, rfl, hT0⟩) bT bF (fun b hb hc => by rw [hP]; exact ⟨hb, hc⟩) (fun b hb => (hout.2.2 b hb).1) n
    rw [fromL_lo hT.lo] at h
    exact h
  have hdur : Dur w W0 P bt 150 (.slice am ms.length cm) W0 := ⟨⟨l, hT0, hL⟩, x0, x1, x2, Kept.refl _ _, Frm.of_below hB0⟩
  have HM : Hid (∀ i x, ms[i]? = some x → ∃ g off, am = some ⟨g, off, none⟩ ∧ w.cell? ⟨g, off + i * 3, none⟩ = some (.int .i64 x.1) ∧ w.cell? ⟨g, off + i * 3 + 1, none⟩ = some (.int .i64 x.2.1) ∧ w.cell? ⟨g, off + i * 3 + 2, none⟩ = some (.int .i64 x.2.2) ∧ -9223372036854775808 ≤ x.2.1) := hmc
  have hrun : ∀ W, Sem.run Try.prog (binOp BinOp.eql 38 (Value.func (Fn.func 38) #[] #[.pointer (some ⟨w.heap.size + 6, 0, none⟩), .pointer (some ⟨w.heap.size + 6 + 1, 0, none⟩)]) Value.nilFunc) W = .ok (.bool false) W := fun _ => rfl
  clear hmc bT bF e0 e1 e2 e3 e4 e5 hs5 hB5 hB6
  gi_wp2
  refine wpIn_rangeFunc_ownG rfl (by decide) (gf := 38) (lb := #[.pointer (some ⟨w.heap.size + 6, 0, none⟩), .pointer (some ⟨w.heap.size + 6 + 1, 0, none⟩)]) rfl trivial (enters_of Try.func38 (by kernel_rfl) rfl) (hseq _) (fun h k => Kept.trans h k)
    (fun W l o o' hl ho _ _ b hb => World.putObj_heap_other (by have := (hout.2.2 b hb).1; omega)) (Below.refl _ _) (fun _ => rfl)
    (fun pre W => TwoN W0.heap.size (w.heap.size + 3) (w.heap.size + 4) pre.length (ints1 pre) (ints2 pre) W ∧ Boxed W (w.heap.size + 5) 3 (.int .i64 (pre.length : Int)) ∧ Dur w W0 P bt (150 + pre.length) (.slice am ms.length cm) W ∧ W0.heap.size ≤ W.heap.size)
    (fun _ _ _ => False)
    (fun s A B row hs hg hr => ⟨hs.1.turn hg (fun r e => (hr r e).2), boxed_turn hs.2.1 hg (fun r e => (hr r e).2), hs.2.2.1.own hout hs.2.2.2 hg hr, Nat.le_trans hs.2.2.2 hg.size⟩)
    (fun _ _ _ _ _ hs _ _ => hs)
    ⟨⟨_, _, x3, x4, World.ownsRow_nil _ _ _ _, World.ownsRow_nil _ _ _ _, .inl rfl, Nums.nil _, Nums.nil _⟩, x5, hdur, Nat.le_refl _⟩
    (fun x => { tmps := (Value.pointer (some (⟨bt, 0, none⟩ : Addr)) :: keys :: vals :: Value.slice am ms.length cm :: Value.pointer (some (⟨w.heap.size, 0, none⟩ : Addr)) :: undef :: undef :: Value.pointer (some (⟨w.heap.size + 1, 0, none⟩ : Addr)) :: Value.pointer (some (⟨w.heap.size + 2, 0, none⟩ : Addr)) :: Value.pointer (some (⟨w.heap.size + 3, 0, none⟩ : Addr)) :: Value.pointer (some (⟨w.heap.size + 4, 0, none⟩ : Addr)) :: Value.pointer (some (⟨w.heap.size + 5, 0, none⟩ : Addr)) :: Value.func (Fn.func 38) #[] #[Value.pointer (some (⟨w.heap.size + 6, 0, none⟩ : Addr)), Value.pointer (some (⟨w.heap.size + 6 + 1, 0, none⟩ : Addr))] :: Value.int IntKind.i64 x.1 :: Value.int IntKind.i64 x.2 :: Value.pointer (some (⟨bt, 0, none⟩ : Addr)) :: Value.func (Fn.func 38) #[] #[Value.pointer (some (⟨w.heap.size + 6, 0, none⟩ : Addr)), Value.pointer (some (⟨w.heap.size + 6 + 1, 0, none⟩ : Addr))] :: Value.func (Fn.func 38) #[] #[Value.pointer (some (⟨w.heap.size + 6, 0, none⟩ : Addr)), Value.pointer (some (⟨w.heap.size + 6 + 1, 0, none⟩ : Addr))] :: Value.bool false :: Value.func (Fn.func 38) #[] #[Value.pointer (some (⟨w.heap.size + 6, 0, none⟩ : Addr)), Value.pointer (some (⟨w.heap.size + 6 + 1, 0, none⟩ : Addr))] :: Value.int IntKind.i64 x.1 :: Value.int IntKind.i64 x.2 :: undef :: undef :: undef :: undef :: undef :: undef :: undef :: undef :: undef :: undef :: undef :: undef :: undef :: undef :: undef :: undef :: undef :: undef :: undef :: undef :: undef :: undef :: undef :: undef :: undef :: undef :: undef :: undef :: undef :: undef :: undef :: undef :: undef :: undef :: undef :: undef :: undef :: undef :: undef :: undef :: undef :: undef :: undef :: undef :: undef :: undef :: undef :: undef :: undef :: undef :: undef :: undef :: undef :: undef :: undef :: undef :: undef :: undef :: undef :: undef :: undef :: undef :: undef :: []).toArray, defers := [] }) ?assign ?body ?done ?stop
  case assign =>
    intro l x W K hK
    gi_wp2
    exact hK
  case body =>
    rintro lp pre x W ⟨⟨v, u, bk, bv, hv', hu, hap, hNv, hNu⟩, bn, hd, hle⟩ hpl
    have hpl' : pre.length < 150 := by omega
    clear x0 x1 x2 x3 x4 x5 hseq hdur hT0 hP hs0
    gi_wp2
    have hdr : Dur w W0 P bt (150 + pre.length) (.slice am ms.length cm) W.drew := hd.turn (S := fun _ => False) ⟨rfl, rfl, rfl, Nat.le_refl _, fun _ _ _ => rfl⟩ (fun _ e => e.elim) (fun _ e => e.elim) hout.1 (fun k hk => ⟨(hout.2.2 k hk).1, fun e => e⟩) hle
    refine wpIn_region_steps (by kernel_rfl) (by kernel_rfl) (fun xs => { tmps := (Value.pointer (some (⟨bt, 0, none⟩ : Addr)) :: keys :: vals :: Value.slice am ms.length cm :: Value.pointer (some (⟨w.heap.size, 0, none⟩ : Addr)) :: undef :: undef :: Value.pointer (some (⟨w.heap.size + 1, 0, none⟩ : Addr)) :: Value.pointer (some (⟨w.heap.size + 2, 0, none⟩ : Addr)) :: Value.pointer (some (⟨w.heap.size + 3, 0, none⟩ : Addr)) :: Value.pointer (some (⟨w.heap.size + 4, 0, none⟩ : Addr)) :: Value.pointer (some (⟨w.heap.size + 5, 0, none⟩ : Addr)) :: Value.func (Fn.func 38) #[] #[Value.pointer (some (⟨w.heap.size + 6, 0, none⟩ : Addr)), Value.pointer (some (⟨w.heap.size + 6 + 1, 0, none⟩ : Addr))] :: Value.int IntKind.i64 x.fst :: Value.int IntKind.i64 x.snd :: Value.pointer (some (⟨bt, 0, none⟩ : Addr)) :: Value.func (Fn.func 38) #[] #[Value.pointer (some (⟨w.heap.size + 6, 0, none⟩ : Addr)), Value.pointer (some (⟨w.heap.size + 6 + 1, 0, none⟩ : Addr))] :: Value.func (Fn.func 38) #[] #[Value.pointer (some (⟨w.heap.size + 6, 0, none⟩ : Addr)), Value.pointer (some (⟨w.heap.size + 6 + 1, 0, none⟩ : Addr))] :: Value.bool false :: Value.func (Fn.func 38) #[] #[Value.pointer (some (⟨w.heap.size + 6, 0, none⟩ : Addr)), Value.pointer (some (⟨w.heap.size + 6 + 1, 0, none⟩ : Addr))] :: Value.int IntKind.i64 x.fst :: Value.int IntKind.i64 x.snd :: xs 0 :: xs 1 :: xs 2 :: xs 3 :: xs 4 :: xs 5 :: xs 6 :: xs 7 :: undef :: undef :: undef :: undef :: undef :: undef :: undef :: undef :: undef :: undef :: undef :: undef :: undef :: undef :: undef :: undef :: undef :: undef :: undef :: undef :: undef :: undef :: undef :: undef :: undef :: undef :: undef :: undef :: undef :: undef :: undef :: undef :: undef :: undef :: undef :: undef :: undef :: undef :: undef :: undef :: undef :: undef :: undef :: undef :: undef :: undef :: undef :: undef :: undef :: undef :: undef :: undef :: undef :: undef :: undef :: []).toArray, defers := [] })
      (fun li xs W1 => DI w W0 P bt (150 + pre.length) (.slice am ms.length cm) (.int .i64 (pre.length : Int)) v u pre.length (ints1 pre) (ints2 pre) (.int .i64 x.1) (.int .i64 x.2) W li xs W1) (fun | _ => undef) (by repeat (first | exact trivial | refine ⟨fun _ _ => rfl, ?_⟩)) ⟨ToldI.drew0 bk bv bn hv' hu hap hle, hdr, fun _ => hNv, fun h => (by cases h), fun _ => hNu, fun h => (by cases h)⟩ ⟨?_, ?_, ?_, ?_, ?_, ?_, ?_, ?_, ?_, ?_, trivial⟩ ?_
    · intro li xs W1 hI hli hp K hK
      have n3 : li 3 = false := not_on (fun h => (hI.told.c3 h).1) hli
      have n8 : li 8 = false := not_on hI.told.c8 (not_on (fun h => (hI.told.c7 h).1) n3)
      have hc := (hI.told.k0 n8).cell
      go_simp
      exact hK _ _ (hI.mark 0 _ (by decide) (hI.told.mark 0 _ (by decide) (fun _ => rfl) (fun h => by cases h) (fun h => by cases h) (fun h => by cases h) (fun h => by cases h) (fun h => by cases h)))
    · intro li xs W1 hI hli hp K hK
      go_simp
      exact hK _ _ (hI.mark 1 _ (by decide) (hI.told.mark 1 _ (by decide) (fun h => by cases h) (fun _ => rfl) (fun h => by cases h) (fun h => by cases h) (fun h => by cases h) (fun h => by cases h)))
    · intro li xs W1 hI hli hp K hK
      have n3 : li 3 = false := not_on (fun h => (hI.told.c3 h).2) hli
      have n7 : li 7 = false := not_on (fun h => (hI.told.c7 h).1) n3
      have h1 : xs 1 = .int .i64 x.1 := hI.told.v1 (hp.1 rfl)
      simp only [h1] at hK
      have hI2 := hI.alloc hout (.cells #[.int .i64 x.1] 3)
      go_simp
      exact hK _ _ (hI2.mark 2 _ (by decide) (hI2.told.mark 2 _ (by decide) (fun h => by cases h) (fun h => by cases h) (fun h => by cases h) (fun h => by cases h) (fun _ => ⟨_, rfl, cell_new _ _ _ _, row_ne_new (hI.told.a0 n3), row_ne_new (hI.told.b0 n7)⟩) (fun h => by cases h)))
    · intro li xs W1 hI hli hp K hK
      have l0 : li 0 = true := hp.1 rfl
      have l2 : li 2 = true := hp.2.1 rfl
      have h0 : xs 0 = v := hI.told.v0 l0
      obtain ⟨g2, h2, hc2, r1, r2⟩ := hI.told.t2 l2 hli
      rw [if_pos (wanted_none rfl _)]
      refine app1_nums W1 _ _ rfl W0.heap.size v pre.length (ints1 pre) (by simpa [Act.eval] using h0) (hI.told.a0 hli) (hI.a0 hli) g2 x.1 (by simpa [Act.eval] using h2) hc2 (by omega) hI.told.le ?_
      intro g cap w' hown hg hgf hN
      exact hK _ _ (hI.app3 hout hli l0 l2 g cap w' hown hg hgf hN)
    · intro li xs W1 hI hli hp K hK
      have n7 : li 7 = false := not_on (fun h => (hI.told.c7 h).2.1) hli
      have n9 : li 9 = false := not_on hI.told.c9 (not_on hI.told.c8 n7)
      have hc := (hI.told.u0 n9).cell
      go_simp
      exact hK _ _ (hI.mark 4 _ (by decide) (hI.told.mark 4 _ (by decide) (fun h => by cases h) (fun h => by cases h) (fun _ => rfl) (fun h => by cases h) (fun h => by cases h) (fun h => by cases h)))
    · intro li xs W1 hI hli hp K hK
      go_simp
      exact hK _ _ (hI.mark 5 _ (by decide) (hI.told.mark 5 _ (by decide) (fun h => by cases h) (fun h => by cases h) (fun h => by cases h) (fun _ => rfl) (fun h => by cases h) (fun h => by cases h)))
    · intro li xs W1 hI hli hp K hK
      have n7 : li 7 = false := not_on (fun h => (hI.told.c7 h).2.2) hli
      have h5 : xs 5 = .int .i64 x.2 := hI.told.v5 (hp.1 rfl)
      simp only [h5] at hK
      have hI2 := hI.alloc hout (.cells #[.int .i64 x.2] 3)
      have hv1 : some W1.heap.size ≠ v.ownBlock := fun e => by have := (hv'.lt _ e.symm).2; have := hI.told.keeps.size; omega
      go_simp
      exact hK _ _ (hI2.mark 6 _ (by decide) (hI2.told.mark 6 _ (by decide) (fun h => by cases h) (fun h => by cases h) (fun h => by cases h) (fun h => by cases h) (fun h => by cases h) (fun _ => ⟨_, rfl, cell_new _ _ _ _, hv1, row_ne_new (hI.told.b0 n7)⟩)))
    · intro li xs W1 hI hli hp K hK
      have l4 : li 4 = true := hp.1 rfl
      have l6 : li 6 = true := hp.2.1 rfl
      have l3 : li 3 = true := hp.2.2.1 rfl
      have h4 : xs 4 = u := hI.told.v4 l4
      obtain ⟨g6, h6, hc6, r1, r2⟩ := hI.told.t6 l6 hli
      rw [if_pos (wanted_none rfl _)]
      refine app1_nums W1 _ _ rfl W0.heap.size u pre.length (ints2 pre) (by simpa [Act.eval] using h4) (hI.told.b0 hli) (hI.b0 hli) g6 x.2 (by simpa [Act.eval] using h6) hc6 (by omega) hI.told.le ?_
      intro g cap w' hown hg hgf hN
      exact hK _ _ (hI.app7 hout hli l3 l4 l6 g cap w' hown hg hgf hN)
    · intro li xs W1 hI hli hp K hK
      have l7 : li 7 = true := hp.2.1 rfl
      have b8 := hI.told.k0 hli
      have hc := b8.cell
      have hf := b8.frozen
      obtain ⟨⟨g3, cap3, h3⟩, _⟩ := hI.told.a1 (hI.told.c7 l7).1
      have hn := hI.put8 hout l7 hli undef
      rw [h3] at hn
      simp only [h3] at hK
      clear hp l7
      go_simp
      exact hK _ _ hn
    · intro li xs W1 hI hli hp K hK
      have l8 : li 8 = true := hp.2.1 rfl
      have b9 := hI.told.u0 hli
      have hc := b9.cell
      have hf := b9.frozen
      obtain ⟨⟨g7, cap7, h7⟩, _⟩ := hI.told.b1 (hI.told.c8 l8)
      have hn := hI.put9 hout l8 hli undef
      rw [h7] at hn
      simp only [h7] at hK
      clear hp l8
      go_simp
      exact hK _ _ hn
    · intro li0 xs0 W1 hI hall
      have l3 := hall 3 (by simp)
      have l7 := hall 7 (by simp)
      have l8 := hall 8 (by simp)
      have l9 := hall 9 (by simp)
      clear hall
      obtain ⟨⟨g3, cap3, e3⟩, hv3⟩ := hI.told.a1 l3
      obtain ⟨⟨g7, cap7, e7⟩, hv7⟩ := hI.told.b1 l7
      have b3 := hI.told.k1 l8
      have b7 := hI.told.u1 l9
      have bn1 := hI.told.m
      have hp := hI.told.p11 l7
      have hkw := hI.told.keeps
      have hle1 := hI.told.le
      have hd1 := hI.dur
      have hN3 := hI.a1 l3
      have hN7 := hI.b1 l7
      clear hI l3 l7 l8 l9
      rw [e3] at hv3 b3 hp hN3
      rw [e7] at hv7 b7 hp hN7
      simp only [e3, e7]
      have two : TwoN W0.heap.size (w.heap.size + 3) (w.heap.size + 4) (pre ++ [x]).length (ints1 (pre ++ [x])) (ints2 (pre ++ [x])) W1 := by
        rw [ints1_snoc, ints2_snoc, List.length_append]
        exact ⟨_, _, b3, b7, hv3, hv7, .inr hp, hN3, hN7⟩
      have hkp : Kept P W W1 := fun b hb => (hd1.kept b hb).trans (hd.kept b hb).symm
      clear b3 b7 hv3 hv7 hp bk bv bn hv' hu hap hNv hNu hd hdr
      have cn := bn1.cell
      have cm1 := hd1.m0.cell
      have ct := hd1.t0.cell
      have hw1 : IntKind.i64.wrap ((pre.length : Int) + 1) = (pre.length : Int) + 1 := wrapS (by omega) (by omega)
      have hfz := bn1.frozen
      have hng : ¬ (1000 : Int) < (pre.length : Int) + 1 := by omega
      have hml2 : (ms.length : Int) ≤ 9223372036854775807 := by omega
      obtain ⟨l1, hT1, hl1⟩ := hd1.tab
      by_cases hin : pre.length < ms.length
      · obtain ⟨a, ha⟩ : ∃ a, ms[pre.length]? = some a := ⟨ms[pre.length], List.getElem?_eq_getElem hin⟩
        obtain ⟨g, off, rfl, d0, d1, d2, hr⟩ := HM.out pre.length a ha
        obtain ⟨kind, k, val⟩ := a
        have hgl : g < w.heap.size := block_lt_of_cell d0
        have hgne : g ≠ bt := fun e => by subst e; exact hT.notNum _ _ d0
        have c0 : W1.cell? ⟨g, off + pre.length * 3, none⟩ = some (.int .i64 kind) := cell_frm d0 hd1.frm hgne
        have c1 : W1.cell? ⟨g, off + pre.length * 3 + 1, none⟩ = some (.int .i64 k) := cell_frm d1 hd1.frm hgne
        have c2 : W1.cell? ⟨g, off + pre.length * 3 + 2, none⟩ = some (.int .i64 val) := cell_frm d2 hd1.frm hgne
        simp only at hr
        clear d0 d1 d2 ha HM
        by_cases h1 : kind = 1
        · subst h1
          gi_wp2
          have hrd : Rds w bt g off pre.length ms.length cm k val W1.drew := ⟨ct, cm1, cn, c1, c2⟩
          refine wpIn_region_steps (by kernel_rfl) (by kernel_rfl) (fun xs => { tmps := (Value.pointer (some (⟨bt, 0, none⟩ : Addr)) :: keys :: vals :: Value.slice (some (⟨g, off, none⟩ : Addr)) ms.length cm :: Value.pointer (some (⟨w.heap.size, 0, none⟩ : Addr)) :: undef :: undef :: Value.pointer (some (⟨w.heap.size + 1, 0, none⟩ : Addr)) :: Value.pointer (some (⟨w.heap.size + 2, 0, none⟩ : Addr)) :: Value.pointer (some (⟨w.heap.size + 3, 0, none⟩ : Addr)) :: Value.pointer (some (⟨w.heap.size + 4, 0, none⟩ : Addr)) :: Value.pointer (some (⟨w.heap.size + 5, 0, none⟩ : Addr)) :: Value.func (Fn.func 38) #[] #[Value.pointer (some (⟨w.heap.size + 6, 0, none⟩ : Addr)), Value.pointer (some (⟨w.heap.size + 6 + 1, 0, none⟩ : Addr))] :: Value.int IntKind.i64 x.fst :: Value.int IntKind.i64 x.snd :: Value.pointer (some (⟨bt, 0, none⟩ : Addr)) :: Value.func (Fn.func 38) #[] #[Value.pointer (some (⟨w.heap.size + 6, 0, none⟩ : Addr)), Value.pointer (some (⟨w.heap.size + 6 + 1, 0, none⟩ : Addr))] :: Value.func (Fn.func 38) #[] #[Value.pointer (some (⟨w.heap.size + 6, 0, none⟩ : Addr)), Value.pointer (some (⟨w.heap.size + 6 + 1, 0, none⟩ : Addr))] :: Value.bool false :: Value.func (Fn.func 38) #[] #[Value.pointer (some (⟨w.heap.size + 6, 0, none⟩ : Addr)), Value.pointer (some (⟨w.heap.size + 6 + 1, 0, none⟩ : Addr))] :: Value.int IntKind.i64 x.fst :: Value.int IntKind.i64 x.snd :: xs0 0 :: xs0 1 :: xs0 2 :: Value.slice (some (⟨g3, 0, none⟩ : Addr)) (pre.length + 1) cap3 :: xs0 4 :: xs0 5 :: xs0 6 :: Value.slice (some (⟨g7, 0, none⟩ : Addr)) (pre.length + 1) cap7 :: Value.int IntKind.i64 (pre.length : Int) :: Value.slice (some (⟨g, off, none⟩ : Addr)) ms.length cm :: Value.int IntKind.i64 (ms.length : Int) :: Value.bool true :: Value.bool true :: Value.slice (some (⟨g, off, none⟩ : Addr)) ms.length cm :: Value.int IntKind.i64 (pre.length : Int) :: Value.pointer (some (⟨g, off + pre.length * 3, none⟩ : Addr)) :: Value.pointer (some (⟨g, off + pre.length * 3, none⟩ : Addr)) :: Value.int IntKind.i64 1 :: Value.bool true :: Value.bool true :: xs 0 :: xs 1 :: xs 2 :: xs 3 :: xs 4 :: xs 5 :: xs 6 :: xs 7 :: xs 8 :: xs 9 :: xs 10 :: xs 11 :: undef :: undef :: undef :: undef :: undef :: undef :: undef :: undef :: undef :: undef :: undef :: undef :: undef :: undef :: undef :: undef :: undef :: undef :: undef :: undef :: undef :: undef :: undef :: undef :: undef :: undef :: undef :: undef :: undef :: undef :: undef :: []).toArray, defers := [] })
            (fun li xs W2 => RdI W1.drew 11 (Rds w bt g off pre.length ms.length cm k val) (fun ii zz => match ii with | 0 => zz = .pointer (some ⟨bt, 0, none⟩) | 1 => zz = .slice (some ⟨g, off, none⟩) ms.length cm | 2 => zz = .int .i64 (pre.length : Int) | 3 => zz = .pointer (some ⟨g, off + pre.length * 3, none⟩) | 4 => zz = .pointer (some ⟨g, off + pre.length * 3 + 1, none⟩) | 5 => zz = .int .i64 k | 6 => zz = .slice (some ⟨g, off, none⟩) ms.length cm | 7 => zz = .int .i64 (pre.length : Int) | 8 => zz = .pointer (some ⟨g, off + pre.length * 3, none⟩) | 9 => zz = .pointer (some ⟨g, off + pre.length * 3 + 2, none⟩) | 10 => zz = .int .i64 val | _ => True) (fun W' => ∃ l2, Tab W' bt l2 ∧ l2.length ≤ 150 + pre.length + 1 ∧ Frm (· = bt) W1.drew W') li xs W2) (fun | _ => undef) (by repeat (first | exact trivial | refine ⟨fun _ _ => rfl, ?_⟩)) ⟨fun _ h => (by cases h), hrd, fun _ => rfl, fun h => (by cases h)⟩ ⟨?_, ?_, ?_, ?_, ?_, ?_, ?_, ?_, ?_, ?_, ?_, ?_, trivial⟩ ?_
          · intro li xs2 W2 hI hli hp K hK
            clear hp
            obtain ⟨r1, r2, r3, r4, r5⟩ := hI.rd
            go_simp
            exact hK _ _ (hI.mark 0 _ rfl (by decide))
          · intro li xs2 W2 hI hli hp K hK
            clear hp
            obtain ⟨r1, r2, r3, r4, r5⟩ := hI.rd
            go_simp
            exact hK _ _ (hI.mark 1 _ rfl (by decide))
          · intro li xs2 W2 hI hli hp K hK
            clear hp
            obtain ⟨r1, r2, r3, r4, r5⟩ := hI.rd
            go_simp
            exact hK _ _ (hI.mark 2 _ rfl (by decide))
          · intro li xs2 W2 hI hli hp K hK
            have h1 : xs2 1 = .slice (some ⟨g, off, none⟩) ms.length cm := hI.det 1 (hp.1 rfl)
            have h2 : xs2 2 = .int .i64 (pre.length : Int) := hI.det 2 (hp.2.1 rfl)
            clear hp
            simp only [h1, h2] at hK
            obtain ⟨r1, r2, r3, r4, r5⟩ := hI.rd
            go_simp
            exact hK _ _ (hI.mark 3 _ rfl (by decide))
          · intro li xs2 W2 hI hli hp K hK
            have h3 : xs2 3 = .pointer (some ⟨g, off + pre.length * 3, none⟩) := hI.det 3 (hp.1 rfl)
            clear hp
            simp only [h3] at hK
            obtain ⟨r1, r2, r3, r4, r5⟩ := hI.rd
            go_simp
            exact hK _ _ (hI.mark 4 _ rfl (by decide))
          · intro li xs2 W2 hI hli hp K hK
            have h4 : xs2 4 = .pointer (some ⟨g, off + pre.length * 3 + 1, none⟩) := hI.det 4 (hp.1 rfl)
            clear hp
            simp only [h4] at hK
            obtain ⟨r1, r2, r3, r4, r5⟩ := hI.rd
            go_simp
            exact hK _ _ (hI.mark 5 _ rfl (by decide))
          · intro li xs2 W2 hI hli hp K hK
            clear hp
            obtain ⟨r1, r2, r3, r4, r5⟩ := hI.rd
            go_simp
            exact hK _ _ (hI.mark 6 _ rfl (by decide))
          · intro li xs2 W2 hI hli hp K hK
            clear hp
            obtain ⟨r1, r2, r3, r4, r5⟩ := hI.rd
            go_simp
            exact hK _ _ (hI.mark 7 _ rfl (by decide))
          · intro li xs2 W2 hI hli hp K hK
            have h6 : xs2 6 = .slice (some ⟨g, off, none⟩) ms.length cm := hI.det 6 (hp.1 rfl)
            have h7 : xs2 7 = .int .i64 (pre.length : Int) := hI.det 7 (hp.2.1 rfl)
            clear hp
            simp only [h6, h7] at hK
            obtain ⟨r1, r2, r3, r4, r5⟩ := hI.rd
            go_simp
            exact hK _ _ (hI.mark 8 _ rfl (by decide))
          · intro li xs2 W2 hI hli hp K hK
            have h8 : xs2 8 = .pointer (some ⟨g, off + pre.length * 3, none⟩) := hI.det 8 (hp.1 rfl)
            clear hp
            simp only [h8] at hK
            obtain ⟨r1, r2, r3, r4, r5⟩ := hI.rd
            go_simp
            exact hK _ _ (hI.mark 9 _ rfl (by decide))
          · intro li xs2 W2 hI hli hp K hK
            have h9 : xs2 9 = .pointer (some ⟨g, off + pre.length * 3 + 2, none⟩) := hI.det 9 (hp.1 rfl)
            clear hp
            simp only [h9] at hK
            obtain ⟨r1, r2, r3, r4, r5⟩ := hI.rd
            go_simp
            exact hK _ _ (hI.mark 10 _ rfl (by decide))
          · intro li xs2 W2 hI hli hp K hK
            have h0 : xs2 0 = .pointer (some ⟨bt, 0, none⟩) := hI.det 0 (hp.1 rfl)
            have h5 : xs2 5 = .int .i64 k := hI.det 5 (hp.2.1 rfl)
            have h10 : xs2 10 = .int .i64 val := hI.det 10 (hp.2.2.1 rfl)
            clear hp
            simp only [h0, h5, h10] at hK
            have e2 := hI.pre hli
            subst e2
            go_simp
            refine ⟨trivial, ?_⟩
            refine (CallsIn.inRound lp (callsIn_wide.2 (Set_any bt l1 k val W1.drew (hT1.grow (Below.refl _ _).drew) (by unfold big; omega) hr))).mono ?_
            rintro e W3 ⟨he, hT3, hF3⟩
            obtain ⟨y, rfl⟩ := he
            exact hK _ _ (hI.call _ trivial (hrd.frm hF3 hbt hgne) ⟨_, hT3, (by have := length_insL k val l1; omega), hF3⟩)
          · intro li xs2 W2 hI hall
            obtain ⟨l2, hT2, hl2, hF2⟩ := hI.post (hall 11 (by simp))
            obtain ⟨r1, r2, r3, r4, r5⟩ := hI.rd
            have c02 : W2.cell? ⟨g, off + pre.length * 3, none⟩ = some (.int .i64 1) := cell_frm (show W1.drew.cell? _ = _ from c0) hF2 hgne
            have two2 := (show TwoN W0.heap.size (w.heap.size + 3) (w.heap.size + 4) (pre ++ [x]).length (ints1 (pre ++ [x])) (ints2 (pre ++ [x])) W1.drew from two).frm hF2 (by have := hout.2.1; omega) (by omega) (by omega)
            have bn2 := (show Boxed W1.drew (w.heap.size + 5) 3 (.int .i64 (pre.length : Int)) from bn1).frm hF2 (by omega)
            have hd2 := hd1.call hT2 hl2 (show Frm (· = bt) W1 W2 from ⟨hF2.os, hF2.tape, hF2.output, hF2.size, hF2.block⟩) hbt (fun k hk => ⟨(hout.2.2 k hk).1, (hout.2.2 k hk).2.1⟩) hle1
            have hle2 : W0.heap.size ≤ W2.heap.size := Nat.le_trans hle1 hF2.size
            have hkw2 : KeepsOthers W W2 := hkw.trans (keeps_frm (show Frm (· = bt) W1 W2 from ⟨hF2.os, hF2.tape, hF2.output, hF2.size, hF2.block⟩) hT1)
            have hkp2 : Kept P W W2 := hkp.trans (fun b hb => hF2.block b (by have := (hout.2.2 b hb).1; show b < W1.heap.size; omega) (hout.2.2 b hb).2.1)
            have hfz2 := bn2.frozen
            clear hI hall
            gi_wp2
            obtain ⟨f1, f2, f3, f4, f5, f6⟩ := during_round hout two2 bn2 hd2 hle2
            exact ⟨(hkw2.trans f2).from _, hkp2.trans f1, f3, f4, f5, f6⟩
        · by_cases h2 : kind = 2
          · subst h2
            gi_wp2
            have hrd : Rds w bt g off pre.length ms.length cm k val W1.drew := ⟨ct, cm1, cn, c1, c2⟩
            refine wpIn_region_steps (by kernel_rfl) (by kernel_rfl) (fun xs => { tmps := (Value.pointer (some (⟨bt, 0, none⟩ : Addr)) :: keys :: vals :: Value.slice (some (⟨g, off, none⟩ : Addr)) ms.length cm :: Value.pointer (some (⟨w.heap.size, 0, none⟩ : Addr)) :: undef :: undef :: Value.pointer (some (⟨w.heap.size + 1, 0, none⟩ : Addr)) :: Value.pointer (some (⟨w.heap.size + 2, 0, none⟩ : Addr)) :: Value.pointer (some (⟨w.heap.size + 3, 0, none⟩ : Addr)) :: Value.pointer (some (⟨w.heap.size + 4, 0, none⟩ : Addr)) :: Value.pointer (some (⟨w.heap.size + 5, 0, none⟩ : Addr)) :: Value.func (Fn.func 38) #[] #[Value.pointer (some (⟨w.heap.size + 6, 0, none⟩ : Addr)), Value.pointer (some (⟨w.heap.size + 6 + 1, 0, none⟩ : Addr))] :: Value.int IntKind.i64 x.fst :: Value.int IntKind.i64 x.snd :: Value.pointer (some (⟨bt, 0, none⟩ : Addr)) :: Value.func (Fn.func 38) #[] #[Value.pointer (some (⟨w.heap.size + 6, 0, none⟩ : Addr)), Value.pointer (some (⟨w.heap.size + 6 + 1, 0, none⟩ : Addr))] :: Value.func (Fn.func 38) #[] #[Value.pointer (some (⟨w.heap.size + 6, 0, none⟩ : Addr)), Value.pointer (some (⟨w.heap.size + 6 + 1, 0, none⟩ : Addr))] :: Value.bool false :: Value.func (Fn.func 38) #[] #[Value.pointer (some (⟨w.heap.size + 6, 0, none⟩ : Addr)), Value.pointer (some (⟨w.heap.size + 6 + 1, 0, none⟩ : Addr))] :: Value.int IntKind.i64 x.fst :: Value.int IntKind.i64 x.snd :: xs0 0 :: xs0 1 :: xs0 2 :: Value.slice (some (⟨g3, 0, none⟩ : Addr)) (pre.length + 1) cap3 :: xs0 4 :: xs0 5 :: xs0 6 :: Value.slice (some (⟨g7, 0, none⟩ : Addr)) (pre.length + 1) cap7 :: Value.int IntKind.i64 (pre.length : Int) :: Value.slice (some (⟨g, off, none⟩ : Addr)) ms.length cm :: Value.int IntKind.i64 (ms.length : Int) :: Value.bool true :: Value.bool true :: Value.slice (some (⟨g, off, none⟩ : Addr)) ms.length cm :: Value.int IntKind.i64 (pre.length : Int) :: Value.pointer (some (⟨g, off + pre.length * 3, none⟩ : Addr)) :: Value.pointer (some (⟨g, off + pre.length * 3, none⟩ : Addr)) :: Value.int IntKind.i64 2 :: Value.bool false :: Value.bool false :: undef :: undef :: undef :: undef :: undef :: undef :: undef :: undef :: undef :: undef :: undef :: undef :: Value.int IntKind.i64 (pre.length : Int) :: Value.slice (some (⟨g, off, none⟩ : Addr)) ms.length cm :: Value.int IntKind.i64 (ms.length : Int) :: Value.bool true :: Value.bool true :: Value.slice (some (⟨g, off, none⟩ : Addr)) ms.length cm :: Value.int IntKind.i64 (pre.length : Int) :: Value.pointer (some (⟨g, off + pre.length * 3, none⟩ : Addr)) :: Value.pointer (some (⟨g, off + pre.length * 3, none⟩ : Addr)) :: Value.int IntKind.i64 2 :: Value.bool true :: Value.bool true :: xs 0 :: xs 1 :: xs 2 :: xs 3 :: xs 4 :: xs 5 :: xs 6 :: undef :: undef :: undef :: undef :: undef :: undef :: undef :: undef :: undef :: undef :: undef :: undef :: []).toArray, defers := [] })
              (fun li xs W2 => RdI W1.drew 6 (Rds w bt g off pre.length ms.length cm k val) (fun ii zz => match ii with | 0 => zz = .pointer (some ⟨bt, 0, none⟩) | 1 => zz = .slice (some ⟨g, off, none⟩) ms.length cm | 2 => zz = .int .i64 (pre.length : Int) | 3 => zz = .pointer (some ⟨g, off + pre.length * 3, none⟩) | 4 => zz = .pointer (some ⟨g, off + pre.length * 3 + 1, none⟩) | 5 => zz = .int .i64 k | _ => True) (fun W' => ∃ l2, Tab W' bt l2 ∧ l2.length ≤ 150 + pre.length + 1 ∧ Frm (· = bt) W1.drew W') li xs W2) (fun | _ => undef) (by repeat (first | exact trivial | refine ⟨fun _ _ => rfl, ?_⟩)) ⟨fun _ h => (by cases h), hrd, fun _ => rfl, fun h => (by cases h)⟩ ⟨?_, ?_, ?_, ?_, ?_, ?_, ?_, trivial⟩ ?_
            · intro li xs2 W2 hI hli hp K hK
              clear hp
              obtain ⟨r1, r2, r3, r4, r5⟩ := hI.rd
              go_simp
              exact hK _ _ (hI.mark 0 _ rfl (by decide))
            · intro li xs2 W2 hI hli hp K hK
              clear hp
              obtain ⟨r1, r2, r3, r4, r5⟩ := hI.rd
              go_simp
              exact hK _ _ (hI.mark 1 _ rfl (by decide))
            · intro li xs2 W2 hI hli hp K hK
              clear hp
              obtain ⟨r1, r2, r3, r4, r5⟩ := hI.rd
              go_simp
              exact hK _ _ (hI.mark 2 _ rfl (by decide))
            · intro li xs2 W2 hI hli hp K hK
              have h1 : xs2 1 = .slice (some ⟨g, off, none⟩) ms.length cm := hI.det 1 (hp.1 rfl)
              have h2 : xs2 2 = .int .i64 (pre.length : Int) := hI.det 2 (hp.2.1 rfl)
              clear hp
              simp only [h1, h2] at hK
              obtain ⟨r1, r2, r3, r4, r5⟩ := hI.rd
              go_simp
              exact hK _ _ (hI.mark 3 _ rfl (by decide))
            · intro li xs2 W2 hI hli hp K hK
              have h3 : xs2 3 = .pointer (some ⟨g, off + pre.length * 3, none⟩) := hI.det 3 (hp.1 rfl)
              clear hp
              simp only [h3] at hK
              obtain ⟨r1, r2, r3, r4, r5⟩ := hI.rd
              go_simp
              exact hK _ _ (hI.mark 4 _ rfl (by decide))
            · intro li xs2 W2 hI hli hp K hK
              have h4 : xs2 4 = .pointer (some ⟨g, off + pre.length * 3 + 1, none⟩) := hI.det 4 (hp.1 rfl)
              clear hp
              simp only [h4] at hK
              obtain ⟨r1, r2, r3, r4, r5⟩ := hI.rd
              go_simp
              exact hK _ _ (hI.mark 5 _ rfl (by decide))
            · intro li xs2 W2 hI hli hp K hK
              have h0 : xs2 0 = .pointer (some ⟨bt, 0, none⟩) := hI.det 0 (hp.1 rfl)
              have h5 : xs2 5 = .int .i64 k := hI.det 5 (hp.2.1 rfl)
              clear hp
              simp only [h0, h5] at hK
              have e2 := hI.pre hli
              subst e2
              go_simp
              refine ⟨trivial, ?_⟩
              refine (CallsIn.inRound lp (callsIn_wide.2 (Del_any bt l1 k W1.drew (hT1.grow (Below.refl _ _).drew) (by unfold big; omega)))).mono ?_
              rintro e W3 ⟨he, hT3, hF3⟩
              subst he
              exact hK _ _ (hI.call _ trivial (hrd.frm hF3 hbt hgne) ⟨_, hT3, (by have := length_delL k l1; omega), hF3⟩)
            · intro li xs2 W2 hI hall
              obtain ⟨l2, hT2, hl2, hF2⟩ := hI.post (hall 6 (by simp))
              obtain ⟨r1, r2, r3, r4, r5⟩ := hI.rd
              have c02 : W2.cell? ⟨g, off + pre.length * 3, none⟩ = some (.int .i64 2) := cell_frm (show W1.drew.cell? _ = _ from c0) hF2 hgne
              have two2 := (show TwoN W0.heap.size (w.heap.size + 3) (w.heap.size + 4) (pre ++ [x]).length (ints1 (pre ++ [x])) (ints2 (pre ++ [x])) W1.drew from two).frm hF2 (by have := hout.2.1; omega) (by omega) (by omega)
              have bn2 := (show Boxed W1.drew (w.heap.size + 5) 3 (.int .i64 (pre.length : Int)) from bn1).frm hF2 (by omega)
              have hd2 := hd1.call hT2 hl2 (show Frm (· = bt) W1 W2 from ⟨hF2.os, hF2.tape, hF2.output, hF2.size, hF2.block⟩) hbt (fun k hk => ⟨(hout.2.2 k hk).1, (hout.2.2 k hk).2.1⟩) hle1
              have hle2 : W0.heap.size ≤ W2.heap.size := Nat.le_trans hle1 hF2.size
              have hkw2 : KeepsOthers W W2 := hkw.trans (keeps_frm (show Frm (· = bt) W1 W2 from ⟨hF2.os, hF2.tape, hF2.output, hF2.size, hF2.block⟩) hT1)
              have hkp2 : Kept P W W2 := hkp.trans (fun b hb => hF2.block b (by have := (hout.2.2 b hb).1; show b < W1.heap.size; omega) (hout.2.2 b hb).2.1)
              have hfz2 := bn2.frozen
              clear hI hall
              gi_wp2
              obtain ⟨f1, f2, f3, f4, f5, f6⟩ := during_round hout two2 bn2 hd2 hle2
              exact ⟨(hkw2.trans f2).from _, hkp2.trans f1, f3, f4, f5, f6⟩
          · have hb1 : (kind == 1) = false := by simp [h1]
            have hb2 : (kind == 2) = false := by simp [h2]
            clear h1 h2
            gi_wp2
            obtain ⟨f1, f2, f3, f4, f5, f6⟩ := during_round hout two bn1 (hd1.mono (by omega)) hle1
            exact ⟨(hkw.trans f2).from _, hkp.trans f1, f3, f4, f5, f6⟩
      · gi_wp2
        obtain ⟨f1, f2, f3, f4, f5, f6⟩ := during_round hout two bn1 (hd1.mono (by omega)) hle1
        exact ⟨(hkw.trans f2).from _, hkp.trans f1, f3, f4, f5, f6⟩
  case done =>
    rintro D ys W hD rfl ⟨⟨v, u, bk, bv, hv', hu, hap, hNv, hNu⟩, bn, hd, hle⟩ hK
    have hc1 := bk.cell
    have hc2 := bv.cell
    have hr0 := hd.r0.cell
    have hrf := hd.r0.frozen
    have hsk : Sl W keys (keysL ys) := hk.frmNum hd.frm (fun j hj => by cases hj; exact hT.notNum)
    have hsv : Sl W vals (valsL ys) := hv.frmNum hd.frm (fun j hj => by cases hj; exact hT.notNum)
    have hlk : (keysL ys).length = ys.length := by simp [keysL]
    have hlv : (valsL ys).length = ys.length := by simp [valsL]
    have hs1 : Sl W v (keysL ys) := Sl.of_row (b := W0.heap.size) (e := 3) (by rw [hlk, ← ints1_eq]; exact hv')
    have hs2 : Sl W u (valsL ys) := Sl.of_row (b := W0.heap.size) (e := 3) (by rw [hlv, ← ints2_eq]; exact hu)
    have hfr := hd.frm
    clear x0 x1 x2 x3 x4 x5 hseq hdur hT0 hP hs0 hv' hu hap hNv hNu bn HM
    gi_wp2_with fail
    refine ⟨trivial, ?_⟩
    refine (callsIn_wide.2 (rows_any v keys _ _ W hs1 hsk (by omega))).mono ?_
    rintro e w4 ⟨rfl, m4, rfl⟩
    rw [decide_eq_true rfl]
    have hs3 := hs2.grow (dn (Below.refl _ W) m4)
    have hs4 := hsv.grow (dn (Below.refl _ W) m4)
    gi_wp2_with fail
    refine ⟨trivial, ?_⟩
    refine (callsIn_wide.2 (rows_any u vals _ _ _ hs3 hs4 (by omega))).mono ?_
    rintro e w5 ⟨rfl, m5, rfl⟩
    rw [decide_eq_true rfl]
    gi_wp2
    have h8 := hout.2.1
    have hKf : ((W.drewN (m4 + m5)).setCell ⟨w.heap.size + 2, 0, none⟩ (.bool true)).heap[D]? = some (.deferred (some [])) := (Below.heap_setCell (W.drewN (m4 + m5)) ⟨w.heap.size + 2, 0, none⟩ _ D (by show D ≠ w.heap.size + 2; omega)).trans hK
    have hbx : Boxed ((W.drewN (m4 + m5)).setCell ⟨w.heap.size + 2, 0, none⟩ (.bool true)) (w.heap.size + 2) 4 (.bool true) := (show Boxed (W.drewN (m4 + m5)) (w.heap.size + 2) 4 (.bool false) from hd.r0).set _
    have hfin : (((W.drewN (m4 + m5)).setCell ⟨w.heap.size + 2, 0, none⟩ (.bool true)).putObj D (.deferred none)).heap[w.heap.size + 2]? = some (.cells #[.bool true] 4 (0, 0)) := (World.putObj_heap_other (by omega)).trans hbx
    have hcf : (((W.drewN (m4 + m5)).setCell ⟨w.heap.size + 2, 0, none⟩ (.bool true)).putObj D (.deferred none)).cell? ⟨w.heap.size + 2, 0, none⟩ = some (.bool true) := by simp [World.cell?, hfin]
    refine ⟨by simp, .inl ⟨_, _, rfl, run_takeDeferred hKf, ?_⟩⟩
    refine ⟨.bool true, ?_, rfl, ?_⟩
    · simp [results, show Try.f17.results = #[.cell 8 4] from rfl, asAddr]
      first | (go_simp; done) | (simp [loadVar, run_underlying Try.underlying4, go_sem, hcf]; done) | (simp [loadVar, run_underlying Try.underlying4, load, hcf, Sem.run_bind, Result.andThen]; done)
    · exact ⟨hfr.os, hfr.tape, hfr.output, Nat.le_trans hfr.size (by simp [World.setCell, World.putObj]), fun k hk hn => ((World.putObj_heap_other (by omega)).trans (Below.heap_setCell (W.drewN (m4 + m5)) ⟨w.heap.size + 2, 0, none⟩ _ k (by show k ≠ w.heap.size + 2; omega))).trans (hfr.block k hk hn)⟩
  case stop =>
    rintro D c pre W _ _ h _
    exact h.elim

end Go.Proofs.Ytgafmckiomhceaa
