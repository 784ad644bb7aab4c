/- told: what an iterator tells, so many at most; for every sequence of pairs whose length is below 100000. -/
import Derived.Test.YtgafmckiomhceaaWalkG
namespace Go.Proofs.Ytgafmckiomhceaa
open Go.RowKit Go.Hold Go.Inv Go.Shelf

attribute [local go_sem] Oper.semAt_some

theorem info_int : (Try.prog.info? 3).map (fun i => (i.zero, i.size, i.bytes)) = some (some (.int .i64 0), 1, 8) := by kernel_rfl

/-- append of one number, inside a fence -/
theorem app1_in {F : Fence} {n : Nat} (w : World) {o : Oper} {a : Act} {K : Act → World → Prop} {Q : Exit → Act → World → Prop} (s x : Operand)
    (hop : o.op = Op.call { callee := Callee.builtin Builtin.append, args := #[s, x], argTypes := #[26, 26] }) (base : Nat) (v : Value) (k : Nat) (xs : List Value) (hs : a.eval s = v) (hown : w.ownsRow base 3 1 v k xs)
    (g0 : Nat) (y : Value) (hx : a.eval x = .slice (some ⟨g0, 0, none⟩) 1 1) (hc : w.cell? ⟨g0, 0, none⟩ = some y) (hy : y.oneCell' = true) (b1 : k ≤ 1000000) (b3 : base ≤ w.heap.size)
    (h : ∀ g cap w', w'.ownsRow base 3 1 (.slice (some ⟨g, 0, none⟩) (k + 1) cap) (k + 1) (xs ++ [y]) → w.grownBy w' v.ownBlock → (v.ownBlock = some g ∨ g = w.heap.size) → K (a.put o.dst (.slice (some ⟨g, 0, none⟩) (k + 1) cap)) w') :
    o.wpIn F n Try.prog a w K Q := by
  obtain ⟨i0, hi, hz0, hz1, hz2⟩ := info_parts info_int
  have hcs : ∀ j u, [y][j]? = some u → w.cell? ((⟨g0, 0, none⟩ : Addr).add j) = some u := by
    intro j u hj
    match j, hj with
    | 0, hj => simp at hj; subst hj; simpa [Addr.add] using hc
    | j + 1, hj => simp at hj
  obtain ⟨g, cap, w', hr, h2, h3, h4, h5⟩ := run_append_lies (P := Try.prog) w 26 o.type base 3 i0 (.int .i64 0) 1 8 Try.underlying26 hi hz0 hz1 hz2 rfl (by decide) v k xs hown ⟨g0, 0, none⟩ 1 1 [y] rfl hcs (by simp [hy]) (by decide) (by unfold maxLen; omega) (by omega) b3 w.heap.size rfl
  unfold Oper.wpIn
  refine ⟨?_, ?_⟩
  · simp [Oper.about, hop, resolve, Target.leads, Sem.run_pure]
  · rw [Oper.semAt_plain F _ _ (by rw [hop]; intro c hc'; cases hc')]
    simp [execOp, hop, resolve, invoke, builtin, hs, hx, hr, Result.andThen]
    exact h g cap w' h2 h3 h4

/-- what has become of 'k, v = append(k, a), append(v, b)' -/
structure ToldI (n₀ n₁ Bk Bv Bm : Nat) (most : Value) (v u : Value) (n : Nat) (xk xv : List Value) (a b : Value) (W : World) (li : Nat → Bool) (xs : Nat → Value) (W1 : World) : Prop where
  below : Below n₀ W W1
  keeps : KeepsOthers W W1
  le : n₁ ≤ W1.heap.size
  v0 : li 0 = true → xs 0 = v
  v1 : li 1 = true → xs 1 = a
  v4 : li 4 = true → xs 4 = u
  v5 : li 5 = true → xs 5 = b
  t2 : li 2 = true → li 3 = false → ∃ g, xs 2 = .slice (some ⟨g, 0, none⟩) 1 1 ∧ W1.cell? ⟨g, 0, none⟩ = some a ∧ some g ≠ v.ownBlock ∧ some g ≠ u.ownBlock
  t6 : li 6 = true → li 7 = false → ∃ g, xs 6 = .slice (some ⟨g, 0, none⟩) 1 1 ∧ W1.cell? ⟨g, 0, none⟩ = some b ∧ some g ≠ v.ownBlock ∧ some g ≠ u.ownBlock
  a0 : li 3 = false → W1.ownsRow n₁ 3 1 v n xk
  a1 : li 3 = true → (∃ g cap, xs 3 = .slice (some ⟨g, 0, none⟩) (n + 1) cap) ∧ W1.ownsRow n₁ 3 1 (xs 3) (n + 1) (xk ++ [a])
  b0 : li 7 = false → W1.ownsRow n₁ 3 1 u n xv
  b1 : li 7 = true → (∃ g cap, xs 7 = .slice (some ⟨g, 0, none⟩) (n + 1) cap) ∧ W1.ownsRow n₁ 3 1 (xs 7) (n + 1) (xv ++ [b])
  p00 : li 3 = false → (v.ownBlock = none ∨ v.ownBlock ≠ u.ownBlock)
  p10 : li 3 = true → li 7 = false → (xs 3).ownBlock ≠ u.ownBlock
  p11 : li 7 = true → (xs 3).ownBlock ≠ (xs 7).ownBlock
  k0 : li 8 = false → Boxed W1 Bk 26 v
  k1 : li 8 = true → Boxed W1 Bk 26 (xs 3)
  u0 : li 9 = false → Boxed W1 Bv 26 u
  u1 : li 9 = true → Boxed W1 Bv 26 (xs 7)
  m : Boxed W1 Bm 3 most
  c3 : li 3 = true → li 0 = true ∧ li 2 = true
  c7 : li 7 = true → li 3 = true ∧ li 4 = true ∧ li 6 = true
  c8 : li 8 = true → li 7 = true
  c9 : li 9 = true → li 8 = true

section
variable {n₀ n₁ Bk Bv Bm : Nat} {most v u : Value} {n : Nat} {xk xv : List Value} {a b : Value} {W W1 : World} {li : Nat → Bool} {xs : Nat → Value}

theorem ToldI.drew0 (hk : Boxed W Bk 26 v) (hu : Boxed W Bv 26 u) (hm : Boxed W Bm 3 most) (hv : W.ownsRow n₁ 3 1 v n xk) (hw : W.ownsRow n₁ 3 1 u n xv) (hp : v.ownBlock = none ∨ v.ownBlock ≠ u.ownBlock) (hle : n₁ ≤ W.heap.size) :
    ToldI n₀ n₁ Bk Bv Bm most v u n xk xv a b W (fun _ => false) xs W.drew :=
  ⟨(Below.refl _ _).drew, KeepsOthers.drew _, hle, fun h => (by cases h), fun h => (by cases h), fun h => (by cases h), fun h => (by cases h), fun h => (by cases h), fun h => (by cases h), fun _ => hv, fun h => (by cases h), fun _ => hw, fun h => (by cases h), fun _ => hp, fun h => (by cases h), fun h => (by cases h), fun _ => hk, fun h => (by cases h), fun _ => hu, fun h => (by cases h), hm, fun h => (by cases h), fun h => (by cases h), fun h => (by cases h), fun h => (by cases h)⟩

theorem row_ne_new {W : World} {base e size : Nat} {v : Value} {k : Nat} {ys : List Value} (h : W.ownsRow base e size v k ys) : some W.heap.size ≠ v.ownBlock := fun e => by have := (h.lt _ e.symm).2; omega

/-- a new block -/
theorem ToldI.alloc (h : ToldI n₀ n₁ Bk Bv Bm most v u n xk xv a b W li xs W1) (hn : n₀ ≤ n₁) (o : Obj) : ToldI n₀ n₁ Bk Bv Bm most v u n xk xv a b W li xs (W1.alloc o) := by
  have hle := h.le
  have hc : ∀ (g : Nat) (y : Value), W1.cell? ⟨g, 0, none⟩ = some y → (W1.alloc o).cell? ⟨g, 0, none⟩ = some y := fun g y hy => cell_kept hy (World.grownBy_alloc W1 o none) (fun r e => by cases e)
  refine ⟨h.below.alloc (by omega) o, h.keeps.trans (KeepsOthers.alloc _ _), by simp; omega, h.v0, h.v1, h.v4, h.v5, ?_, ?_, fun h3 => (h.a0 h3).alloc o, fun h3 => ⟨(h.a1 h3).1, (h.a1 h3).2.alloc o⟩, fun h3 => (h.b0 h3).alloc o, fun h3 => ⟨(h.b1 h3).1, (h.b1 h3).2.alloc o⟩, h.p00, h.p10, h.p11, fun h3 => (h.k0 h3).alloc o, fun h3 => (h.k1 h3).alloc o, fun h3 => (h.u0 h3).alloc o, fun h3 => (h.u1 h3).alloc o, h.m.alloc o, h.c3, h.c7, h.c8, h.c9⟩
  · intro h2 h3
    obtain ⟨g, e, hg, r⟩ := h.t2 h2 h3
    exact ⟨g, e, hc g _ hg, r⟩
  · intro h2 h3
    obtain ⟨g, e, hg, r⟩ := h.t6 h2 h3
    exact ⟨g, e, hc g _ hg, r⟩

/-- an operation that turns no block of these -/
theorem ToldI.mark (h : ToldI n₀ n₁ Bk Bv Bm most v u n xk xv a b W li xs W1) (i : Nat) (x : Value) (hi : i ≠ 3 ∧ i ≠ 7 ∧ i ≠ 8 ∧ i ≠ 9) (h0 : i = 0 → x = v) (h1 : i = 1 → x = a) (h4 : i = 4 → x = u) (h5 : i = 5 → x = b)
    (h2 : i = 2 → ∃ g, x = .slice (some ⟨g, 0, none⟩) 1 1 ∧ W1.cell? ⟨g, 0, none⟩ = some a ∧ some g ≠ v.ownBlock ∧ some g ≠ u.ownBlock)
    (h6 : i = 6 → ∃ g, x = .slice (some ⟨g, 0, none⟩) 1 1 ∧ W1.cell? ⟨g, 0, none⟩ = some b ∧ some g ≠ v.ownBlock ∧ some g ≠ u.ownBlock) :
    ToldI n₀ n₁ Bk Bv Bm most v u n xk xv a b W (upd li i true) (upd xs i x) W1 := by
  obtain ⟨n3, n7, n8, n9⟩ := hi
  have e3 : upd li i true 3 = li 3 := upd_other _ _ (Ne.symm n3)
  have e7 : upd li i true 7 = li 7 := upd_other _ _ (Ne.symm n7)
  have e8 : upd li i true 8 = li 8 := upd_other _ _ (Ne.symm n8)
  have e9 : upd li i true 9 = li 9 := upd_other _ _ (Ne.symm n9)
  have x3 : upd xs i x 3 = xs 3 := upd_other _ _ (Ne.symm n3)
  have x7 : upd xs i x 7 = xs 7 := upd_other _ _ (Ne.symm n7)
  have key : ∀ (j : Nat) (y : Value), (i = j → x = y) → (li j = true → xs j = y) → upd li i true j = true → upd xs i x j = y := fun j y hx hv hj => by
    by_cases hji : j = i
    · subst hji; rw [upd_same]; exact hx rfl
    · rw [upd_other _ _ hji] at hj ⊢; exact hv hj
  have up : ∀ j, li j = true → upd li i true j = true := fun j hj => by
    unfold upd
    split
    · rfl
    · exact hj
  refine ⟨h.below, h.keeps, h.le, key 0 _ h0 h.v0, key 1 _ h1 h.v1, key 4 _ h4 h.v4, key 5 _ h5 h.v5, ?_, ?_, ?_, ?_, ?_, ?_, ?_, ?_, ?_, ?_, ?_, ?_, ?_, h.m, ?_, ?_, ?_, ?_⟩
  · intro hj hl
    rw [e3] at hl
    by_cases hji : 2 = i
    · rw [← hji, upd_same]; exact h2 hji.symm
    · rw [upd_other _ _ hji] at hj ⊢; exact h.t2 hj hl
  · intro hj hl
    rw [e7] at hl
    by_cases hji : 6 = i
    · rw [← hji, upd_same]; exact h6 hji.symm
    · rw [upd_other _ _ hji] at hj ⊢; exact h.t6 hj hl
  · rw [e3]; exact h.a0
  · rw [e3, x3]; exact h.a1
  · rw [e7]; exact h.b0
  · rw [e7, x7]; exact h.b1
  · rw [e3]; exact h.p00
  · rw [e3, e7, x3]; exact h.p10
  · rw [e7, x3, x7]; exact h.p11
  · rw [e8]; exact h.k0
  · rw [e8, x3]; exact h.k1
  · rw [e9]; exact h.u0
  · rw [e9, x7]; exact h.u1
  · rw [e3]; exact fun hh => ⟨up 0 (h.c3 hh).1, up 2 (h.c3 hh).2⟩
  · rw [e7]; exact fun hh => ⟨up 3 (h.c7 hh).1, up 4 (h.c7 hh).2.1, up 6 (h.c7 hh).2.2⟩
  · rw [e8]; exact fun hh => up 7 (h.c8 hh)
  · rw [e9]; exact fun hh => up 8 (h.c9 hh)

theorem keeps_append {A B : World} {base e size : Nat} {v : Value} {k : Nat} {ys : List Value} (hown : A.ownsRow base e size v k ys) (hg : A.grownBy B v.ownBlock) : KeepsOthers A B := by
  refine KeepsOthers.of_grownBy hg fun j o ej hj => ?_
  rcases hown.2 with ⟨rfl, _⟩ | ⟨g, cap, cur, rfl, _, hgb, _⟩
  · simp [Value.ownBlock] at ej
  · obtain rfl : g = j := by simpa [Value.ownBlock] using ej
    rw [hgb] at hj; cases hj; rfl

/-- the first append -/
theorem ToldI.app3 (h : ToldI n₀ n₁ Bk Bv Bm most v u n xk xv a b W li xs W1) (hn : n₀ ≤ n₁) (hB : Bk < n₁ ∧ Bv < n₁ ∧ Bm < n₁) (l3 : li 3 = false) (l0 : li 0 = true) (l2 : li 2 = true) (g cap : Nat) (w' : World)
    (hown : w'.ownsRow n₁ 3 1 (.slice (some ⟨g, 0, none⟩) (n + 1) cap) (n + 1) (xk ++ [a])) (hg : W1.grownBy w' v.ownBlock) (hgf : v.ownBlock = some g ∨ g = W1.heap.size) :
    ToldI n₀ n₁ Bk Bv Bm most v u n xk xv a b W (upd li 3 true) (upd xs 3 (.slice (some ⟨g, 0, none⟩) (n + 1) cap)) w' := by
  have l7 : li 7 = false := not_on (fun hh => (h.c7 hh).1) l3
  have l8 : li 8 = false := not_on h.c8 l7
  have l9 : li 9 = false := not_on h.c9 l8
  have u' : ∀ j, j ≠ 3 → upd li 3 true j = li j := fun j hj => upd_other _ _ hj
  have x' : ∀ j, j ≠ 3 → upd xs 3 (.slice (some ⟨g, 0, none⟩) (n + 1) cap) j = xs j := fun j hj => upd_other _ _ hj
  have hv := h.a0 l3
  have hu := h.b0 l7
  have hle := h.le
  have row : ∀ k, v.ownBlock = some k → n₁ ≤ k := fun k hk => (hv.lt k hk).1
  have box : ∀ {B : Nat} {t : TypeId} {y : Value}, B < n₁ → Boxed W1 B t y → Boxed w' B t y := fun hb hx => hx.kept hg (fun e => by have := row _ e.symm; omega)
  have hpu : v.ownBlock = none ∨ v.ownBlock ≠ u.ownBlock := h.p00 l3
  have hu' : w'.ownsRow n₁ 3 1 u n xv := hu.kept hg (by
    by_cases hb : u.ownBlock = none
    · exact .inl hb
    · right
      rcases hpu with hp | hp
      · rw [hp]; exact hb
      · exact Ne.symm hp)
  refine ⟨h.below.grown hg (by omega) (fun k hk => by have := row k hk; omega), h.keeps.trans (keeps_append hv hg), Nat.le_trans hle hg.size, ?_, ?_, ?_, ?_, ?_, ?_, ?_, ?_, ?_, ?_, ?_, ?_, ?_, ?_, ?_, ?_, ?_, box hB.2.2 h.m, ?_, ?_, ?_, ?_⟩
  · rw [u' 0 (by decide), x' 0 (by decide)]; exact h.v0
  · rw [u' 1 (by decide), x' 1 (by decide)]; exact h.v1
  · rw [u' 4 (by decide), x' 4 (by decide)]; exact h.v4
  · rw [u' 5 (by decide), x' 5 (by decide)]; exact h.v5
  · intro _ hh; rw [upd_same] at hh; cases hh
  · rw [u' 6 (by decide), u' 7 (by decide), x' 6 (by decide)]
    intro h6 h7
    obtain ⟨g', e, hc, r1, r2⟩ := h.t6 h6 h7
    exact ⟨g', e, hg.cell hc (fun e' => r1 e'), r1, r2⟩
  · intro hh; rw [upd_same] at hh; cases hh
  · rw [upd_same, upd_same]; exact fun _ => ⟨⟨g, cap, rfl⟩, hown⟩
  · rw [u' 7 (by decide)]; exact fun _ => hu'
  · rw [u' 7 (by decide), l7]; intro hh; cases hh
  · intro hh; rw [upd_same] at hh; cases hh
  · rw [upd_same]
    intro _ _
    show some g ≠ u.ownBlock
    rcases hgf with hgf | hgf
    · rcases hpu with hp | hp
      · rw [hp] at hgf; cases hgf
      · rw [← hgf]; exact hp
    · rw [hgf]; exact row_ne_new hu
  · rw [u' 7 (by decide), l7]; intro hh; cases hh
  · rw [u' 8 (by decide)]; exact fun hh => box hB.1 (h.k0 hh)
  · rw [u' 8 (by decide), l8]; intro hh; cases hh
  · rw [u' 9 (by decide)]; exact fun hh => box hB.2.1 (h.u0 hh)
  · rw [u' 9 (by decide), l9]; intro hh; cases hh
  · rw [u' 0 (by decide), u' 2 (by decide)]; exact fun _ => ⟨l0, l2⟩
  · rw [u' 7 (by decide), l7]; intro hh; cases hh
  · rw [u' 8 (by decide), l8]; intro hh; cases hh
  · rw [u' 9 (by decide), l9]; intro hh; cases hh

/-- the second append -/
theorem ToldI.app7 (h : ToldI n₀ n₁ Bk Bv Bm most v u n xk xv a b W li xs W1) (hn : n₀ ≤ n₁) (hB : Bk < n₁ ∧ Bv < n₁ ∧ Bm < n₁) (l7 : li 7 = false) (l3 : li 3 = true) (l4 : li 4 = true) (l6 : li 6 = true) (g cap : Nat) (w' : World)
    (hown : w'.ownsRow n₁ 3 1 (.slice (some ⟨g, 0, none⟩) (n + 1) cap) (n + 1) (xv ++ [b])) (hg : W1.grownBy w' u.ownBlock) (hgf : u.ownBlock = some g ∨ g = W1.heap.size) :
    ToldI n₀ n₁ Bk Bv Bm most v u n xk xv a b W (upd li 7 true) (upd xs 7 (.slice (some ⟨g, 0, none⟩) (n + 1) cap)) w' := by
  have l8 : li 8 = false := not_on h.c8 l7
  have l9 : li 9 = false := not_on h.c9 l8
  have u' : ∀ j, j ≠ 7 → upd li 7 true j = li j := fun j hj => upd_other _ _ hj
  have x' : ∀ j, j ≠ 7 → upd xs 7 (.slice (some ⟨g, 0, none⟩) (n + 1) cap) j = xs j := fun j hj => upd_other _ _ hj
  obtain ⟨⟨g3, cap3, e3⟩, hv⟩ := h.a1 l3
  have hu := h.b0 l7
  have hle := h.le
  have row : ∀ k, u.ownBlock = some k → n₁ ≤ k := fun k hk => (hu.lt k hk).1
  have box : ∀ {B : Nat} {t : TypeId} {y : Value}, B < n₁ → Boxed W1 B t y → Boxed w' B t y := fun hb hx => hx.kept hg (fun e => by have := row _ e.symm; omega)
  have hp := h.p10 l3 l7
  refine ⟨h.below.grown hg (by omega) (fun k hk => by have := row k hk; omega), h.keeps.trans (keeps_append hu hg), Nat.le_trans hle hg.size, ?_, ?_, ?_, ?_, ?_, ?_, ?_, ?_, ?_, ?_, ?_, ?_, ?_, ?_, ?_, ?_, ?_, box hB.2.2 h.m, ?_, ?_, ?_, ?_⟩
  · rw [u' 0 (by decide), x' 0 (by decide)]; exact h.v0
  · rw [u' 1 (by decide), x' 1 (by decide)]; exact h.v1
  · rw [u' 4 (by decide), x' 4 (by decide)]; exact h.v4
  · rw [u' 5 (by decide), x' 5 (by decide)]; exact h.v5
  · rw [u' 3 (by decide), l3]; intro _ hh; cases hh
  · intro _ hh; rw [upd_same] at hh; cases hh
  · rw [u' 3 (by decide), l3]; intro hh; cases hh
  · rw [u' 3 (by decide), x' 3 (by decide)]; exact fun _ => ⟨⟨g3, cap3, e3⟩, hv.kept hg (.inr hp)⟩
  · intro hh; rw [upd_same] at hh; cases hh
  · rw [upd_same, upd_same]; exact fun _ => ⟨⟨g, cap, rfl⟩, hown⟩
  · rw [u' 3 (by decide), l3]; intro hh; cases hh
  · intro _ hh; rw [upd_same] at hh; cases hh
  · rw [upd_same, x' 3 (by decide)]
    intro _
    show (xs 3).ownBlock ≠ some g
    rcases hgf with hgf | hgf
    · rw [← hgf]; exact hp
    · rw [hgf]; exact (row_ne_new hv).symm
  · rw [u' 8 (by decide)]; exact fun hh => box hB.1 (h.k0 hh)
  · rw [u' 8 (by decide), l8]; intro hh; cases hh
  · rw [u' 9 (by decide)]; exact fun hh => box hB.2.1 (h.u0 hh)
  · rw [u' 9 (by decide), l9]; intro hh; cases hh
  · rw [u' 0 (by decide), u' 2 (by decide), u' 3 (by decide)]; exact h.c3
  · rw [u' 3 (by decide), u' 4 (by decide), u' 6 (by decide)]; exact fun _ => ⟨l3, l4, l6⟩
  · rw [u' 8 (by decide), l8]; intro hh; cases hh
  · rw [u' 9 (by decide), l9]; intro hh; cases hh

theorem row_setCell {W : World} {n₁ B e size : Nat} {v y : Value} {k : Nat} {ys : List Value} (h : W.ownsRow n₁ e size v k ys) (hB : B < n₁) : (W.setCell ⟨B, 0, none⟩ y).ownsRow n₁ e size v k ys := ownsRow_setCell_below h hB y

/-- the first store -/
theorem ToldI.put8 (h : ToldI n₀ n₁ Bk Bv Bm most v u n xk xv a b W li xs W1) (hB : Bk < n₁ ∧ Bv < n₁ ∧ Bm < n₁) (hne : Bk ≠ Bv ∧ Bk ≠ Bm) (hn : n₀ ≤ Bk) (l7 : li 7 = true) (l8 : li 8 = false) (x : Value) :
    ToldI n₀ n₁ Bk Bv Bm most v u n xk xv a b W (upd li 8 true) (upd xs 8 x) (W1.setCell ⟨Bk, 0, none⟩ (xs 3)) := by
  have l9 : li 9 = false := not_on h.c9 l8
  have u' : ∀ j, j ≠ 8 → upd li 8 true j = li j := fun j hj => upd_other _ _ hj
  have x' : ∀ j, j ≠ 8 → upd xs 8 x j = xs j := fun j hj => upd_other _ _ hj
  have l3 := (h.c7 l7).1
  refine ⟨h.below.setCell (p := ⟨Bk, 0, none⟩) hn _, h.keeps.trans (KeepsOthers.setCell _ _ _), by have := h.le; simpa [World.setCell] using this, ?_, ?_, ?_, ?_, ?_, ?_, ?_, ?_, ?_, ?_, ?_, ?_, ?_, ?_, ?_, ?_, ?_, h.m.other (Ne.symm hne.2) _, ?_, ?_, ?_, ?_⟩
  · rw [u' 0 (by decide), x' 0 (by decide)]; exact h.v0
  · rw [u' 1 (by decide), x' 1 (by decide)]; exact h.v1
  · rw [u' 4 (by decide), x' 4 (by decide)]; exact h.v4
  · rw [u' 5 (by decide), x' 5 (by decide)]; exact h.v5
  · rw [u' 3 (by decide), l3]; intro _ hh; cases hh
  · rw [u' 7 (by decide), l7]; intro _ hh; cases hh
  · rw [u' 3 (by decide), l3]; intro hh; cases hh
  · rw [u' 3 (by decide), x' 3 (by decide)]; exact fun hh => ⟨(h.a1 hh).1, row_setCell (h.a1 hh).2 hB.1⟩
  · rw [u' 7 (by decide), l7]; intro hh; cases hh
  · rw [u' 7 (by decide), x' 7 (by decide)]; exact fun hh => ⟨(h.b1 hh).1, row_setCell (h.b1 hh).2 hB.1⟩
  · rw [u' 3 (by decide), l3]; intro hh; cases hh
  · rw [u' 7 (by decide), l7]; intro _ hh; cases hh
  · rw [u' 7 (by decide), x' 3 (by decide), x' 7 (by decide)]; exact h.p11
  · intro hh; rw [upd_same] at hh; cases hh
  · rw [x' 3 (by decide)]; exact fun _ => (h.k0 l8).set _
  · rw [u' 9 (by decide)]; exact fun hh => (h.u0 hh).other (Ne.symm hne.1) _
  · rw [u' 9 (by decide), l9]; intro hh; cases hh
  · rw [u' 0 (by decide), u' 2 (by decide), u' 3 (by decide)]; exact h.c3
  · rw [u' 7 (by decide), u' 3 (by decide), u' 4 (by decide), u' 6 (by decide)]; exact h.c7
  · rw [u' 7 (by decide)]; exact fun _ => l7
  · rw [u' 9 (by decide), l9]; intro hh; cases hh

/-- the second store -/
theorem ToldI.put9 (h : ToldI n₀ n₁ Bk Bv Bm most v u n xk xv a b W li xs W1) (hB : Bk < n₁ ∧ Bv < n₁ ∧ Bm < n₁) (hne : Bv ≠ Bk ∧ Bv ≠ Bm) (hn : n₀ ≤ Bv) (l8 : li 8 = true) (l9 : li 9 = false) (x : Value) :
    ToldI n₀ n₁ Bk Bv Bm most v u n xk xv a b W (upd li 9 true) (upd xs 9 x) (W1.setCell ⟨Bv, 0, none⟩ (xs 7)) := by
  have l7 := h.c8 l8
  have u' : ∀ j, j ≠ 9 → upd li 9 true j = li j := fun j hj => upd_other _ _ hj
  have x' : ∀ j, j ≠ 9 → upd xs 9 x j = xs j := fun j hj => upd_other _ _ hj
  have l3 := (h.c7 l7).1
  refine ⟨h.below.setCell (p := ⟨Bv, 0, none⟩) hn _, h.keeps.trans (KeepsOthers.setCell _ _ _), by have := h.le; simpa [World.setCell] using this, ?_, ?_, ?_, ?_, ?_, ?_, ?_, ?_, ?_, ?_, ?_, ?_, ?_, ?_, ?_, ?_, ?_, h.m.other (Ne.symm hne.2) _, ?_, ?_, ?_, ?_⟩
  · rw [u' 0 (by decide), x' 0 (by decide)]; exact h.v0
  · rw [u' 1 (by decide), x' 1 (by decide)]; exact h.v1
  · rw [u' 4 (by decide), x' 4 (by decide)]; exact h.v4
  · rw [u' 5 (by decide), x' 5 (by decide)]; exact h.v5
  · rw [u' 3 (by decide), l3]; intro _ hh; cases hh
  · rw [u' 7 (by decide), l7]; intro _ hh; cases hh
  · rw [u' 3 (by decide), l3]; intro hh; cases hh
  · rw [u' 3 (by decide), x' 3 (by decide)]; exact fun hh => ⟨(h.a1 hh).1, row_setCell (h.a1 hh).2 hB.2.1⟩
  · rw [u' 7 (by decide), l7]; intro hh; cases hh
  · rw [u' 7 (by decide), x' 7 (by decide)]; exact fun hh => ⟨(h.b1 hh).1, row_setCell (h.b1 hh).2 hB.2.1⟩
  · rw [u' 3 (by decide), l3]; intro hh; cases hh
  · rw [u' 7 (by decide), l7]; intro _ hh; cases hh
  · rw [u' 7 (by decide), x' 3 (by decide), x' 7 (by decide)]; exact h.p11
  · rw [u' 8 (by decide), l8]; intro hh; cases hh
  · rw [u' 8 (by decide), x' 3 (by decide)]; exact fun hh => (h.k1 hh).other (Ne.symm hne.1) _
  · intro hh; rw [upd_same] at hh; cases hh
  · rw [x' 7 (by decide)]; exact fun _ => (h.u0 l9).set _
  · rw [u' 0 (by decide), u' 2 (by decide), u' 3 (by decide)]; exact h.c3
  · rw [u' 7 (by decide), u' 3 (by decide), u' 4 (by decide), u' 6 (by decide)]; exact h.c7
  · rw [u' 7 (by decide), u' 8 (by decide)]; exact h.c8
  · rw [u' 8 (by decide)]; exact fun _ => l8
end

def Two (n₁ Bk Bv n : Nat) (xk xv : List Value) (W : World) : Prop := ∃ v u, Boxed W Bk 26 v ∧ Boxed W Bv 26 u ∧ W.ownsRow n₁ 3 1 v n xk ∧ W.ownsRow n₁ 3 1 u n xv ∧ (v.ownBlock = none ∨ v.ownBlock ≠ u.ownBlock)

theorem boxed_turn {X Y : World} {row : Option Nat} {B : Nat} {t : TypeId} {v : Value} (h : Boxed X B t v) (hg : X.grownBy Y row) (hrow : ∀ r, row = some r → ∃ o : Obj, X.heap[r]? = some o ∧ o.isCells = false) : Boxed Y B t v :=
  h.kept hg (fun e' => by obtain ⟨o, ho, hc⟩ := hrow B e'.symm; rw [show X.heap[B]? = _ from h] at ho; cases ho; cases hc)
theorem row_turn {X Y : World} {row : Option Nat} {base e size : Nat} {v : Value} {k : Nat} {ys : List Value} (hr : X.ownsRow base e size v k ys) (hg : X.grownBy Y row) (hrow : ∀ r, row = some r → ∃ o : Obj, X.heap[r]? = some o ∧ o.isCells = false) : Y.ownsRow base e size v k ys := by
  refine hr.kept hg ?_
  rcases hr.2 with ⟨rfl, _⟩ | ⟨g, cap, cur, rfl, _, hgb, _⟩
  · exact .inl rfl
  · refine .inr fun e' => ?_
    obtain ⟨o, ho, hc⟩ := hrow g (by simpa [Value.ownBlock] using e'.symm)
    rw [hgb] at ho; cases ho; cases hc
theorem Two.turn {X Y : World} {row : Option Nat} {n₁ Bk Bv n : Nat} {xk xv : List Value} (h : Two n₁ Bk Bv n xk xv X) (hg : X.grownBy Y row) (hrow : ∀ r, row = some r → ∃ o : Obj, X.heap[r]? = some o ∧ o.isCells = false) : Two n₁ Bk Bv n xk xv Y := by
  obtain ⟨v, u, h1, h2, h3, h4, h5⟩ := h
  exact ⟨v, u, boxed_turn h1 hg hrow, boxed_turn h2 hg hrow, row_turn h3 hg hrow, row_turn h4 hg hrow, h5⟩

theorem rowBase {W : World} {b b' e size : Nat} {v : Value} {k : Nat} {ys : List Value} (h : W.ownsRow b e size v k ys) (hb : b' ≤ b) : W.ownsRow b' e size v k ys := by
  obtain ⟨h1, h2⟩ := h
  refine ⟨h1, ?_⟩
  rcases h2 with h2 | ⟨g, cap, cur, hv, hg, r⟩
  · exact .inl h2
  · exact .inr ⟨g, cap, cur, hv, Nat.le_trans hb hg, r⟩

theorem kept_of_below {P : Nat → Prop} {n : Nat} {A B : World} (hP : ∀ b, P b → b < n) (h : Below n A B) : Kept P A B := fun b hb => h.block b (hP b hb)

def ints1 (l : List (Int × Int)) : List Value := l.map fun x => Value.int .i64 x.1
def ints2 (l : List (Int × Int)) : List Value := l.map fun x => Value.int .i64 x.2
theorem ints1_snoc (l : List (Int × Int)) (x : Int × Int) : ints1 (l ++ [x]) = ints1 l ++ [.int .i64 x.1] := by simp [ints1]
theorem ints2_snoc (l : List (Int × Int)) (x : Int × Int) : ints2 (l ++ [x]) = ints2 l ++ [.int .i64 x.2] := by simp [ints2]

set_option maxRecDepth 100000 in
set_option maxHeartbeats 4000000 in
theorem told_any (Bt Bf : Nat) (L : List (Int × Int)) (most : Int) (P : Nat → Prop) (w : World)
    (hseq : ∀ n, SeqStopsK Fence.wide n Try.prog 38 #[.pointer (some ⟨Bt, 0, none⟩), .pointer (some ⟨Bf, 0, none⟩)] (fun x : Int × Int => #[Value.int .i64 x.1, Value.int .i64 x.2]) (Kept P) (fun ys => ys = L) (fun pre => pre <+: L) L.length w)
    (hPw : ∀ b, P b → b < w.heap.size) (hm : 0 < most) (hm2 : most < 4611686018427387904) (hL : L.length ≤ 100000) :
    Calls Try.prog 14 #[.func (.func 38) #[] #[.pointer (some ⟨Bt, 0, none⟩), .pointer (some ⟨Bf, 0, none⟩)], .int .i64 most] w fun e w' => ∃ vk vv, e = .returned (.tuple #[vk, vv]) ∧
      w'.ownsRow w.heap.size 3 1 vk (L.take most.toNat).length (ints1 (L.take most.toNat)) ∧ w'.ownsRow w.heap.size 3 1 vv (L.take most.toNat).length (ints2 (L.take most.toNat)) ∧ Below w.heap.size w w' := by
  refine (callsIn_wide (n := 9)).1 ?_
  have hrun : ∀ W, Sem.run Try.prog (binOp BinOp.eql 38 (Value.func (Fn.func 38) #[] #[.pointer (some ⟨Bt, 0, none⟩), .pointer (some ⟨Bf, 0, none⟩)]) Value.nilFunc) W = .ok (.bool false) W := fun _ => rfl
  refine callsIn_of_wp_marks Try.func14 rfl trivial ?_ rfl
  simp only [Try.ntmps14, List.size_toArray, List.length_cons, List.length_nil, Nat.reduceAdd, Nat.reduceSub, Array.replicate_succ, Array.replicate_zero, List.push_toArray, List.append_toArray, List.nil_append, List.cons_append]
  gi_wp2
  have bM := ((Boxed.new w 3 (.int .i64 most)).alloc (.cells #[.slice none 0 0] 26)).alloc (.cells #[.slice none 0 0] 26)
  have bK := (Boxed.new (w.alloc (.cells #[.int .i64 most] 3)) 26 (.slice none 0 0)).alloc (.cells #[.slice none 0 0] 26)
  have bV := Boxed.new ((w.alloc (.cells #[.int .i64 most] 3)).alloc (.cells #[.slice none 0 0] 26)) 26 (.slice none 0 0)
  rw [World.size_alloc] at bK
  rw [World.size_alloc, World.size_alloc] at bV
  have hB0 : Below w.heap.size w (((w.alloc (.cells #[.int .i64 most] 3)).alloc (.cells #[.slice none 0 0] 26)).alloc (.cells #[.slice none 0 0] 26)) := (((Below.refl _ w).alloc (Nat.le_refl _) _).alloc (by simp) _).alloc (by simp; omega) _
  have hsz : (((w.alloc (.cells #[.int .i64 most] 3)).alloc (.cells #[.slice none 0 0] 26)).alloc (.cells #[.slice none 0 0] 26)).heap.size = w.heap.size + 3 := by simp
  obtain ⟨W0, hW0⟩ : ∃ W0, ((w.alloc (.cells #[.int .i64 most] 3)).alloc (.cells #[.slice none 0 0] 26)).alloc (.cells #[.slice none 0 0] 26) = W0 := ⟨_, rfl⟩
  rw [hW0] at bM bK bV hB0 hsz ⊢
  clear hW0
  have fin1 : ∀ l : List (Int × Int), l = L → (l.length : Int) < most → l = L.take most.toNat := fun l hl h => by rw [hl, List.take_of_length_le (by rw [← hl]; omega)]
  have fin2 : ∀ l : List (Int × Int), l <+: L → (l.length : Int) = most → l = L.take most.toNat := fun l hl h => by obtain ⟨r, rfl⟩ := hl; rw [show most.toNat = l.length by omega, List.take_left]
  refine wpIn_rangeFunc_ownG rfl (by decide) (gf := 38) (lb := #[.pointer (some ⟨Bt, 0, none⟩), .pointer (some ⟨Bf, 0, none⟩)]) rfl trivial (enters_of Try.func38 (by kernel_rfl) rfl) (hseq _) (fun h k => Kept.trans h k)
    (fun W l o o' hl ho _ _ b hb => World.putObj_heap_other (by have := hPw b hb; have := hB0.size; omega)) hB0 (fun _ => rfl)
    (fun pre W => Two (w.heap.size + 3) (w.heap.size + 1) (w.heap.size + 1 + 1) pre.length (ints1 pre) (ints2 pre) W ∧ Boxed W w.heap.size 3 (.int .i64 most) ∧ Below w.heap.size w W ∧ w.heap.size + 3 ≤ W.heap.size ∧ (pre.length : Int) < most)
    (fun c pre W => c = .exit 0 ∧ Two (w.heap.size + 3) (w.heap.size + 1) (w.heap.size + 1 + 1) pre.length (ints1 pre) (ints2 pre) W ∧ Below w.heap.size w W ∧ (pre.length : Int) = most)
    (fun s A B row hs hg hr => ⟨hs.1.turn hg (fun r e => (hr r e).2), boxed_turn hs.2.1 hg (fun r e => (hr r e).2), hs.2.2.1.grown hg (by have := hs.2.2.2.1; omega) (fun k e => by have := (hr k e).1; omega), Nat.le_trans hs.2.2.2.1 hg.size, hs.2.2.2.2⟩)
    (fun c s A B row hs hg hr => ⟨hs.1, hs.2.1.turn hg (fun r e => (hr r e).2), hs.2.2.1.grown hg (by have := hs.2.2.1.size; omega) (fun k e => by have := (hr k e).1; omega), hs.2.2.2⟩)
    ⟨⟨_, _, bK, bV, World.ownsRow_nil _ _ _ _, World.ownsRow_nil _ _ _ _, .inl rfl⟩, bM, hB0, by omega, by simpa using hm⟩
    (fun x => { tmps := (Value.func (Fn.func 38) #[] #[Value.pointer (some (⟨Bt, 0, none⟩ : Addr)), Value.pointer (some (⟨Bf, 0, none⟩ : Addr))] :: Value.int IntKind.i64 most :: undef :: Value.pointer (some (⟨w.heap.size, 0, none⟩ : Addr)) :: Value.slice none 0 0 :: Value.slice none 0 0 :: Value.pointer (some (⟨w.heap.size + 1, 0, none⟩ : Addr)) :: Value.pointer (some (⟨w.heap.size + 1 + 1, 0, none⟩ : Addr)) :: Value.int IntKind.i64 x.1 :: Value.int IntKind.i64 x.2 :: Value.func (Fn.func 38) #[] #[Value.pointer (some (⟨Bt, 0, none⟩ : Addr)), Value.pointer (some (⟨Bf, 0, none⟩ : Addr))] :: Value.bool false :: Value.bool false :: Value.int IntKind.i64 most :: Value.bool (decide (most ≤ 0)) :: Value.bool (decide (most ≤ 0)) :: Value.func (Fn.func 38) #[] #[Value.pointer (some (⟨Bt, 0, none⟩ : Addr)), Value.pointer (some (⟨Bf, 0, none⟩ : Addr))] :: Value.int IntKind.i64 x.1 :: Value.int IntKind.i64 x.2 :: undef :: undef :: undef :: undef :: undef :: undef :: undef :: undef :: undef :: undef :: undef :: undef :: undef :: undef :: []).toArray, defers := [] }) ?assign ?body ?done ?stop
  case assign =>
    intro l x W K hK
    gi_wp2
    exact hK
  case body =>
    rintro l pre x W ⟨⟨v, u, bk, bv, hv, hu, hap⟩, bm, hB, hle, hlt⟩ hpl
    have hpl' : pre.length ≤ 100000 := by omega
    gi_wp2
    refine wpIn_region_steps (by kernel_rfl) (by kernel_rfl) (fun xs => { tmps := (Value.func (Fn.func 38) #[] #[Value.pointer (some (⟨Bt, 0, none⟩ : Addr)), Value.pointer (some (⟨Bf, 0, none⟩ : Addr))] :: Value.int IntKind.i64 most :: undef :: Value.pointer (some (⟨w.heap.size, 0, none⟩ : Addr)) :: Value.slice none 0 0 :: Value.slice none 0 0 :: Value.pointer (some (⟨w.heap.size + 1, 0, none⟩ : Addr)) :: Value.pointer (some (⟨w.heap.size + 1 + 1, 0, none⟩ : Addr)) :: Value.int IntKind.i64 x.fst :: Value.int IntKind.i64 x.snd :: Value.func (Fn.func 38) #[] #[Value.pointer (some (⟨Bt, 0, none⟩ : Addr)), Value.pointer (some (⟨Bf, 0, none⟩ : Addr))] :: Value.bool false :: Value.bool false :: Value.int IntKind.i64 most :: Value.bool (decide (most ≤ 0)) :: Value.bool (decide (most ≤ 0)) :: Value.func (Fn.func 38) #[] #[Value.pointer (some (⟨Bt, 0, none⟩ : Addr)), Value.pointer (some (⟨Bf, 0, none⟩ : Addr))] :: Value.int IntKind.i64 x.fst :: Value.int IntKind.i64 x.snd :: xs 0 :: xs 1 :: xs 2 :: xs 3 :: xs 4 :: xs 5 :: xs 6 :: xs 7 :: undef :: undef :: undef :: undef :: undef :: undef :: []).toArray, defers := [] })
      (fun li xs W1 => ToldI w.heap.size (w.heap.size + 3) (w.heap.size + 1) (w.heap.size + 1 + 1) w.heap.size (.int .i64 most) v u pre.length (ints1 pre) (ints2 pre) (.int .i64 x.1) (.int .i64 x.2) W li xs W1) (fun | _ => undef) (by repeat (first | exact trivial | refine ⟨fun _ _ => rfl, ?_⟩)) (ToldI.drew0 bk bv bm hv hu hap hle) ⟨?_, ?_, ?_, ?_, ?_, ?_, ?_, ?_, ?_, ?_, trivial⟩ ?_
    · intro li xs W1 hI hli hp K hK
      have n3 : li 3 = false := not_on (fun h => (hI.c3 h).1) hli
      have n8 : li 8 = false := not_on hI.c8 (not_on (fun h => (hI.c7 h).1) n3)
      have hc := (hI.k0 n8).cell
      go_simp
      exact hK _ _ (hI.mark 0 _ (by decide) (fun _ => rfl) (fun h => by cases h) (fun h => by cases h) (fun h => by cases h) (fun h => by cases h) (fun h => by cases h))
    · intro li xs W1 hI hli hp K hK
      go_simp
      exact hK _ _ (hI.mark 1 _ (by decide) (fun h => by cases h) (fun _ => rfl) (fun h => by cases h) (fun h => by cases h) (fun h => by cases h) (fun h => by cases h))
    · intro li xs W1 hI hli hp K hK
      have n3 : li 3 = false := not_on (fun h => (hI.c3 h).2) hli
      have n7 : li 7 = false := not_on (fun h => (hI.c7 h).1) n3
      have h1 : xs 1 = .int .i64 x.1 := hI.v1 (hp.1 rfl)
      simp only [h1] at hK
      have hI2 := hI.alloc (by omega) (.cells #[.int .i64 x.1] 3)
      go_simp
      exact hK _ _ (hI2.mark 2 _ (by decide) (fun h => by cases h) (fun h => by cases h) (fun h => by cases h) (fun h => by cases h) (fun _ => ⟨_, rfl, cell_new _ _ _ _, row_ne_new (hI.a0 n3), row_ne_new (hI.b0 n7)⟩) (fun h => by cases h))
    · intro li xs W1 hI hli hp K hK
      have l0 : li 0 = true := hp.1 rfl
      have l2 : li 2 = true := hp.2.1 rfl
      have h0 : xs 0 = v := hI.v0 l0
      obtain ⟨g2, h2, hc2, r1, r2⟩ := hI.t2 l2 hli
      rw [if_pos (wanted_none rfl _)]
      refine app1_in W1 _ _ rfl (w.heap.size + 3) v pre.length (ints1 pre) (by simpa [Act.eval] using h0) (hI.a0 hli) g2 (.int .i64 x.1) (by simpa [Act.eval] using h2) hc2 rfl (by omega) hI.le ?_
      intro g cap w' hown hg hgf
      exact hK _ _ (hI.app3 (by omega) ⟨by omega, by omega, by omega⟩ hli l0 l2 g cap w' hown hg hgf)
    · intro li xs W1 hI hli hp K hK
      have n7 : li 7 = false := not_on (fun h => (hI.c7 h).2.1) hli
      have n9 : li 9 = false := not_on hI.c9 (not_on hI.c8 n7)
      have hc := (hI.u0 n9).cell
      go_simp
      exact hK _ _ (hI.mark 4 _ (by decide) (fun h => by cases h) (fun h => by cases h) (fun _ => rfl) (fun h => by cases h) (fun h => by cases h) (fun h => by cases h))
    · intro li xs W1 hI hli hp K hK
      go_simp
      exact hK _ _ (hI.mark 5 _ (by decide) (fun h => by cases h) (fun h => by cases h) (fun h => by cases h) (fun _ => rfl) (fun h => by cases h) (fun h => by cases h))
    · intro li xs W1 hI hli hp K hK
      have n7 : li 7 = false := not_on (fun h => (hI.c7 h).2.2) hli
      have h5 : xs 5 = .int .i64 x.2 := hI.v5 (hp.1 rfl)
      simp only [h5] at hK
      have hI2 := hI.alloc (by omega) (.cells #[.int .i64 x.2] 3)
      have hv1 : some W1.heap.size ≠ v.ownBlock := fun e => by have := (hv.lt _ e.symm).2; have := hI.keeps.size; omega
      go_simp
      exact hK _ _ (hI2.mark 6 _ (by decide) (fun h => by cases h) (fun h => by cases h) (fun h => by cases h) (fun h => by cases h) (fun h => by cases h) (fun _ => ⟨_, rfl, cell_new _ _ _ _, hv1, row_ne_new (hI.b0 n7)⟩))
    · intro li xs W1 hI hli hp K hK
      have l4 : li 4 = true := hp.1 rfl
      have l6 : li 6 = true := hp.2.1 rfl
      have l3 : li 3 = true := hp.2.2.1 rfl
      have h4 : xs 4 = u := hI.v4 l4
      obtain ⟨g6, h6, hc6, r1, r2⟩ := hI.t6 l6 hli
      rw [if_pos (wanted_none rfl _)]
      refine app1_in W1 _ _ rfl (w.heap.size + 3) u pre.length (ints2 pre) (by simpa [Act.eval] using h4) (hI.b0 hli) g6 (.int .i64 x.2) (by simpa [Act.eval] using h6) hc6 rfl (by omega) hI.le ?_
      intro g cap w' hown hg hgf
      exact hK _ _ (hI.app7 (by omega) ⟨by omega, by omega, by omega⟩ hli l3 l4 l6 g cap w' hown hg hgf)
    · intro li xs W1 hI hli hp K hK
      have l7 : li 7 = true := hp.2.1 rfl
      have b8 := hI.k0 hli
      have hc := b8.cell
      have hf := b8.frozen
      obtain ⟨⟨g3, cap3, h3⟩, _⟩ := hI.a1 (hI.c7 l7).1
      have hn := hI.put8 ⟨by omega, by omega, by omega⟩ ⟨by omega, by omega⟩ (by omega) l7 hli undef
      rw [h3] at hn
      simp only [h3] at hK
      clear hp l7
      go_simp
      exact hK _ _ hn
    · intro li xs W1 hI hli hp K hK
      have l8 : li 8 = true := hp.2.1 rfl
      have b9 := hI.u0 hli
      have hc := b9.cell
      have hf := b9.frozen
      obtain ⟨⟨g7, cap7, h7⟩, _⟩ := hI.b1 (hI.c8 l8)
      have hn := hI.put9 ⟨by omega, by omega, by omega⟩ ⟨by omega, by omega⟩ (by omega) l8 hli undef
      rw [h7] at hn
      simp only [h7] at hK
      clear hp l8
      go_simp
      exact hK _ _ hn
    · intro li xs W1 hI hall
      have l3 := hall 3 (by simp)
      have l7 := hall 7 (by simp)
      have l8 := hall 8 (by simp)
      have l9 := hall 9 (by simp)
      clear hall
      obtain ⟨⟨g3, cap3, e3⟩, hv3⟩ := hI.a1 l3
      obtain ⟨⟨g7, cap7, e7⟩, hv7⟩ := hI.b1 l7
      have b3 := hI.k1 l8
      have b7 := hI.u1 l9
      have bm1 := hI.m
      have hp := hI.p11 l7
      have hbw := hI.below
      have hkw := hI.keeps
      have hle1 := hI.le
      clear hI l3 l7 l8 l9
      rw [e3] at hv3 b3 hp
      rw [e7] at hv7 b7 hp
      simp only [e3, e7]
      have hc3 := b3.cell
      have hcm := bm1.cell
      have two : Two (w.heap.size + 3) (w.heap.size + 1) (w.heap.size + 1 + 1) (pre ++ [x]).length (ints1 (pre ++ [x])) (ints2 (pre ++ [x])) W1 := by
        rw [ints1_snoc, ints2_snoc, List.length_append]
        exact ⟨_, _, b3, b7, hv3, hv7, .inr hp⟩
      clear b3 b7 hv3 hv7 hp bk bv bm hv hu hap
      by_cases hge : most ≤ (pre.length : Int) + 1
      · gi_wp2
        exact ⟨hkw.from _, rfl, two, hB.trans hbw, by simp; omega⟩
      · gi_wp2
        exact ⟨hkw.from _, kept_of_below hPw hbw, two, bm1, hB.trans hbw, hle1, by simp; omega⟩
  case done =>
    rintro D ys W hD hys ⟨⟨v, u, bk, bv, hv, hu, hap⟩, bm, hB, hle, hlt⟩ hK
    have hfin : Hid (ys = L.take most.toNat) := fin1 ys hys hlt
    have hc1 := bk.cell
    have hc2 := bv.cell
    clear hys fin1 fin2 bM bK bV
    gi_wp2
    gi_region
    gi_wp2
    refine ⟨by simp, .inl ⟨_, _, rfl, run_takeDeferred hK, ?_⟩⟩
    refine ⟨_, results_tmp2 rfl _ _ _, v, u, rfl, ?_, ?_, ?_⟩
    · rw [← hfin.out]; exact rowBase (ownsRow_putObj hv _ hK rfl) (by omega)
    · rw [← hfin.out]; exact rowBase (ownsRow_putObj hu _ hK rfl) (by omega)
    · exact hB.drew.trans (belowK_b (w := w) (Nat.le_refl _) W.drew D _ _ (by omega) hK rfl rfl)
  case stop =>
    rintro D c pre W hD hSp ⟨rfl, ⟨v, u, bk, bv, hv, hu, hap⟩, hB, hlt⟩ hK
    have hfin : Hid (pre = L.take most.toNat) := fin2 pre hSp hlt
    have hc1 := bk.cell
    have hc2 := bv.cell
    clear hSp fin1 fin2 bM bK bV
    gi_wp2
    gi_region
    gi_wp2
    refine ⟨by simp, .inl ⟨_, _, rfl, run_takeDeferred hK, ?_⟩⟩
    refine ⟨_, results_tmp2 rfl _ _ _, v, u, rfl, ?_, ?_, ?_⟩
    · rw [← hfin.out]; exact rowBase (ownsRow_putObj hv _ hK rfl) (by omega)
    · rw [← hfin.out]; exact rowBase (ownsRow_putObj hu _ hK rfl) (by omega)
    · exact hB.drew.trans (belowK_b (w := w) (Nat.le_refl _) W.drew D _ _ (by omega) hK rfl rfl)

set_option maxHeartbeats 400000 in
theorem told_zero (Bt Bf : Nat) (most : Int) (w : World) (hm : most ≤ 0) :
    Calls Try.prog 14 #[.func (.func 38) #[] #[.pointer (some ⟨Bt, 0, none⟩), .pointer (some ⟨Bf, 0, none⟩)], .int .i64 most] w fun e w' => e = .returned (.tuple #[.slice none 0 0, .slice none 0 0]) ∧ Below w.heap.size w w' := by
  have hrun : ∀ W, Sem.run Try.prog (binOp BinOp.eql 38 (Value.func (Fn.func 38) #[] #[.pointer (some ⟨Bt, 0, none⟩), .pointer (some ⟨Bf, 0, none⟩)]) Value.nilFunc) W = .ok (.bool false) W := fun _ => rfl
  go_enter Try.func14, Try.ntmps14
  go_wp2
  go_ret2
  exact ⟨rfl, (((Below.refl _ w).alloc (Nat.le_refl _) _).alloc (by simp) _).alloc (by simp; omega) _⟩

end Go.Proofs.Ytgafmckiomhceaa
