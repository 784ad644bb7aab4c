/- told: what an iterator tells, so many at most; for every sequence of pairs whose length is below 100000. -/
import Derived.Test.YtndpdcnaibpgmaaWalkG
namespace Go.Proofs.Ytndpdcnaibpgmaa
open Go.RowKit Go.Hold Go.Inv Go.Shelf

attribute [local go_sem] Oper.semAt_some

theorem info_int : (Try.prog.info? 3).map (fun i => (i.zero, i.size, i.bytes)) = some (some (.int .i64 0), 1, 8) := by kernel_rfl

/-- append of one number, inside a fence -/
theorem app1_in {F : Fence} {n : Nat} (w : World) {o : Oper} {a : Act} {K : Act → World → Prop} {Q : Exit → Act → World → Prop} (s x : Operand)
    (hop : o.op = Op.call { callee := Callee.builtin Builtin.append, args := #[s, x], argTypes := #[22, 22] }) (base : Nat) (v : Value) (k : Nat) (xs : List Value) (hs : a.eval s = v) (hown : w.ownsRow base 3 1 v k xs)
    (g0 : Nat) (y : Value) (hx : a.eval x = .slice (some ⟨g0, 0, none⟩) 1 1) (hc : w.cell? ⟨g0, 0, none⟩ = some y) (hy : y.oneCell' = true) (b1 : k ≤ 1000000) (b3 : base ≤ w.heap.size)
    (h : ∀ g cap w', w'.ownsRow base 3 1 (.slice (some ⟨g, 0, none⟩) (k + 1) cap) (k + 1) (xs ++ [y]) → w.grownBy w' v.ownBlock → (v.ownBlock = some g ∨ g = w.heap.size) → K (a.put o.dst (.slice (some ⟨g, 0, none⟩) (k + 1) cap)) w') :
    o.wpIn F n Try.prog a w K Q := by
  obtain ⟨i0, hi, hz0, hz1, hz2⟩ := info_parts info_int
  have hcs : ∀ j u, [y][j]? = some u → w.cell? ((⟨g0, 0, none⟩ : Addr).add j) = some u := by
    intro j u hj
    match j, hj with
    | 0, hj => simp at hj; subst hj; simpa [Addr.add] using hc
    | j + 1, hj => simp at hj
  obtain ⟨g, cap, w', hr, h2, h3, h4, h5⟩ := run_append_lies (P := Try.prog) w 22 o.type base 3 i0 (.int .i64 0) 1 8 Try.underlying22 hi hz0 hz1 hz2 rfl (by decide) v k xs hown ⟨g0, 0, none⟩ 1 1 [y] rfl hcs (by simp [hy]) (by decide) (by unfold maxLen; omega) (by omega) b3 w.heap.size rfl
  unfold Oper.wpIn
  refine ⟨?_, ?_⟩
  · simp [Oper.about, hop, resolve, Target.leads, Sem.run_pure]
  · rw [Oper.semAt_plain F _ _ (by rw [hop]; intro c hc'; cases hc')]
    simp [execOp, hop, resolve, invoke, builtin, hs, hx, hr, Result.andThen]
    exact h g cap w' h2 h3 h4

/-- what has become of 'k, v = append(k, a), append(v, b)' -/
structure ToldI (n₀ n₁ Bk Bv Bm : Nat) (most : Value) (v u : Value) (n : Nat) (xk xv : List Value) (a b : Value) (W : World) (li : Nat → Bool) (xs : Nat → Value) (W1 : World) : Prop where
  below : Below n₀ W W1
  keeps : KeepsOthers W W1
  le : n₁ ≤ W1.heap.size
  v0 : li 0 = true → xs 0 = v
  v1 : li 1 = true → xs 1 = a
  v4 : li 4 = true → xs 4 = u
  v5 : li 5 = true → xs 5 = b
  t2 : li 2 = true → li 3 = false → ∃ g, xs 2 = .slice (some ⟨g, 0, none⟩) 1 1 ∧ W1.cell? ⟨g, 0, none⟩ = some a ∧ some g ≠ v.ownBlock ∧ some g ≠ u.ownBlock
  t6 : li 6 = true → li 7 = false → ∃ g, xs 6 = .slice (some ⟨g, 0, none⟩) 1 1 ∧ W1.cell? ⟨g, 0, none⟩ = some b ∧ some g ≠ v.ownBlock ∧ some g ≠ u.ownBlock
  a0 : li 3 = false → W1.ownsRow n₁ 3 1 v n xk
  a1 : li 3 = true → (∃ g cap, xs 3 = .slice (some ⟨g, 0, none⟩) (n + 1) cap) ∧ W1.ownsRow n₁ 3 1 (xs 3) (n + 1) (xk ++ [a])
  b0 : li 7 = false → W1.ownsRow n₁ 3 1 u n xv
  b1 : li 7 = true → (∃ g cap, xs 7 = .slice (some ⟨g, 0, none⟩) (n + 1) cap) ∧ W1.ownsRow n₁ 3 1 (xs 7) (n + 1) (xv ++ [b])
  p00 : li 3 = false → (v.ownBlock = none ∨ v.ownBlock ≠ u.ownBlock)
  p10 : li 3 = true → li 7 = false → (xs 3).ownBlock ≠ u.ownBlock
  p11 : li 7 = true → (xs 3).ownBlock ≠ (xs 7).ownBlock
  k0 : li 8 = false → Boxed W1 Bk 22 v
  k1 : li 8 = true → Boxed W1 Bk 22 (xs 3)
  u0 : li 9 = false → Boxed W1 Bv 22 u
  u1 : li 9 = true → Boxed W1 Bv 22 (xs 7)
  m : Boxed W1 Bm 3 most
  c3 : li 3 = true → li 0 = true ∧ li 2 = true
  c7 : li 7 = true → li 3 = true ∧ li 4 = true ∧ li 6 = true
  c8 : li 8 = true → li 7 = true
  c9 : li 9 = true → li 8 = true

section
variable {n₀ n₁ Bk Bv Bm : Nat} {most v u : Value} {n : Nat} {xk xv : List Value} {a b : Value} {W W1 : World} {li : Nat → Bool} {xs : Nat → Value}

theorem ToldI.drew0 (hk : Boxed W Bk 22 v) (hu : Boxed W Bv 22 u) (hm : Boxed W Bm 3 most) (hv : W.ownsRow n₁ 3 1 v n xk) (hw : W.ownsRow n₁ 3 1 u n xv) (hp : v.ownBlock = none ∨ v.ownBlock ≠ u.ownBlock) (hle : n₁ ≤ W.heap.size) :
    ToldI n₀ n₁ Bk Bv Bm most v u n xk xv a b W (fun _ => false) xs W.drew :=
  ⟨(Below.refl _ _).drew, KeepsOthers.drew _, hle, fun h => (by cases h), fun h => (by cases h), fun h => (by cases h), fun h => (by cases h), fun h => (by cases h), fun h => (by cases h), fun _ => hv, fun h => (by cases h), fun _ => hw, fun h => (by cases h), fun _ => hp, fun h => (by cases h), fun h => (by cases h), fun _ => hk, fun h => (by cases h), fun _ => hu, fun h => (by cases h), hm, fun h => (by cases h), fun h => (by cases h), fun h => (by cases h), fun h => (by cases h)⟩

theorem row_ne_new {W : World} {base e size : Nat} {v : Value} {k : Nat} {ys : List Value} (h : W.ownsRow base e size v k ys) : some W.heap.size ≠ v.ownBlock := fun e => by have := (h.lt _ e.symm).2; omega

/-- a new block -/
theorem ToldI.alloc (h : ToldI n₀ n₁ Bk Bv Bm most v u n xk xv a b W li xs W1) (hn : n₀ ≤ n₁) (o : Obj) : ToldI n₀ n₁ Bk Bv Bm most v u n xk xv a b W li xs (W1.alloc o) := by
  have hle := h.le
  have hc : ∀ (g : Nat) (y : Value), W1.cell? ⟨g, 0, none⟩ = some y → (W1.alloc o).cell? ⟨g, 0, none⟩ = some y := fun g y hy => cell_kept hy (World.grownBy_alloc W1 o none) (fun r e => by cases e)
  refine ⟨h.below.alloc (by omega) o, h.keeps.trans (KeepsOthers.alloc _ _), by simp; omega, h.v0, h.v1, h.v4, h.v5, ?_, ?_, fun h3 => (h.a0 h3).alloc o, fun h3 => ⟨(h.a1 h3).1, (h.a1 h3).2.alloc o⟩, fun h3 => (h.b0 h3).alloc o, fun h3 => ⟨(h.b1 h3).1, (h.b1 h3).2.alloc o⟩, h.p00, h.p10, h.p11, fun h3 => (h.k0 h3).alloc o, fun h3 => (h.k1 h3).alloc o, fun h3 => (h.u0 h3).alloc o, fun h3 => (h.u1 h3).alloc o, h.m.alloc o, h.c3, h.c7, h.c8, h.c9⟩
  · intro h2 h3
    obtain ⟨g, e, hg, r⟩ := h.t2 h2 h3
    exact ⟨g, e, hc g _ hg, r⟩
  · intro h2 h3
    obtain ⟨g, e, hg, r⟩ := h.t6 h2 h3
    exact ⟨g, e, hc g _ hg, r⟩

/-- an operation that turns no block of these -/
theorem ToldI.mark (h : ToldI n₀ n₁ Bk Bv Bm most v u n xk xv a b W li xs W1) (i : Nat) (x : Value) (hi : i ≠ 3 ∧ i ≠ 7 ∧ i ≠ 8 ∧ i ≠ 9) (h0 : i = 0 → x = v) (h1 : i = 1 → x = a) (h4 : i = 4 → x = u) (h5 : i = 5 → x = b)
    (h2 : i = 2 → ∃ g, x = .slice (some ⟨g, 0, none⟩) 1 1 ∧ W1.cell? ⟨g, 0, none⟩ = some a ∧ some g ≠ v.ownBlock ∧ some g ≠ u.ownBlock)
    (h6 : i = 6 → ∃ g, x = .slice (some ⟨g, 0, none⟩) 1 1 ∧ W1.cell? ⟨g, 0, none⟩ = some b ∧ some g ≠ v.ownBlock ∧ some g ≠ u.ownBlock) :
    ToldI n₀ n₁ Bk Bv Bm most v u n xk xv a b W (upd li i true) (upd xs i x) W1 := by
  obtain ⟨n3, n7, n8, n9⟩ := hi
  have e3 : upd li i true 3 = li 3 := upd_other _ _ (Ne.symm n3)
  have e7 : upd li i true 7 = li 7 := upd_other _ _ (Ne.symm n7)
  have e8 : upd li i true 8 = li 8 := upd_other _ _ (Ne.symm n8)
  have e9 : upd li i true 9 = li 9 := upd_other _ _ (Ne.symm n9)
  have x3 : upd xs i x 3 = xs 3 := upd_other _ _ (Ne.symm n3)
  have x7 : upd xs i x 7 = xs 7 := upd_other _ _ (Ne.symm n7)
  have key : ∀ (j : Nat) (y : Value), (i = j → x = y) → (li j = true → xs j = y) → upd li i true j = true → upd xs i x j = y := fun j y hx hv hj => by
    by_cases hji : j = i
    · subst hji; rw [upd_same]; exact hx rfl
    · rw [upd_other _ _ hji] at hj ⊢; exact hv hj
  have up : ∀ j, li j = true → upd li i true j = true := fun j hj => by
    unfold upd
    split
    · rfl
    · exact hj
  refine ⟨h.below, h.keeps, h.le, key 0 _ h0 h.v0, key 1 _ h1 h.v1, key 4 _ h4 h.v4, key 5 _ h5 h.v5, ?_, ?_, ?_, ?_, ?_, ?_, ?_, ?_, ?_, ?_, ?_, ?_, ?_, h.m, ?_, ?_, ?_, ?_⟩
  · intro hj hl
    rw [e3] at hl
    by_cases hji : 2 = i
    · rw [← hji, upd_same]; exact h2 hji.symm
    · rw [upd_other _ _ hji] at hj ⊢; exact h.t2 hj hl
  · intro hj hl
    rw [e7] at hl
    by_cases hji : 6 = i
    · rw [← hji, upd_same]; exact h6 hji.symm
    · rw [upd_other _ _ hji] at hj ⊢; exact h.t6 hj hl
  · rw [e3]; exact h.a0
  · rw [e3, x3]; exact h.a1
  · rw [e7]; exact h.b0
  · rw [e7, x7]; exact h.b1
  · rw [e3]; exact h.p00
  · rw [e3, e7, x3]; exact h.p10
  · rw [e7, x3, x7]; exact h.p11
  · rw [e8]; exact h.k0
  · rw [e8, x3]; exact h.k1
  · rw [e9]; exact h.u0
  · rw [e9, x7]; exact h.u1
  · rw [e3]; exact fun hh => ⟨up 0 (h.c3 hh).1, up 2 (h.c3 hh).2⟩
  · rw [e7]; exact fun hh => ⟨up 3 (h.c7 hh).1, up 4 (h.c7 hh).2.1, up 6 (h.c7 hh).2.2⟩
  · rw [e8]; exact fun hh => up 7 (h.c8 hh)
  · rw [e9]; exact fun hh => up 8 (h.c9 hh)

theorem keeps_append {A B : World} {base e size : Nat} {v : Value} {k : Nat} {ys : List Value} (hown : A.ownsRow base e size v k ys) (hg : A.grownBy B v.ownBlock) : KeepsOthers A B := by
  refine KeepsOthers.of_grownBy hg fun j o ej hj => ?_
  rcases hown.2 with ⟨rfl, _⟩ | ⟨g, cap, cur, rfl, _, hgb, _⟩
  · simp [Value.ownBlock] at ej
  · obtain rfl : g = j := by simpa [Value.ownBlock] using ej
    rw [hgb] at hj; cases hj; rfl

/-- the first append -/
theorem ToldI.app3 (h : ToldI n₀ n₁ Bk Bv Bm most v u n xk xv a b W li xs W1) (hn : n₀ ≤ n₁) (hB : Bk < n₁ ∧ Bv < n₁ ∧ Bm < n₁) (l3 : li 3 = false) (l0 : li 0 = true) (l2 : li 2 = true) (g cap : Nat) (w' : World)
    (hown : w'.ownsRow n₁ 3 1 (.slice (some ⟨g, 0, none⟩) (n + 1) cap) (n + 1) (xk ++ [a])) (hg : W1.grownBy w' v.ownBlock) (hgf : v.ownBlock = some g ∨ g = W1.heap.size) :
    ToldI n₀ n₁ Bk Bv Bm most v u n xk xv a b W (upd li 3 true) (upd xs 3 (.slice (some ⟨g, 0, none⟩) (n + 1) cap)) w' := by
  have l7 : li 7 = false := not_on (fun hh => (h.c7 hh).1) l3
  have l8 : li 8 = false := not_on h.c8 l7
  have l9 : li 9 = false := not_on h.c9 l8
  have u' : ∀ j, j ≠ 3 → upd li 3 true j = li j := fun j hj => upd_other _ _ hj
  have x' : ∀ j, j ≠ 3 → upd xs 3 (.slice (some ⟨g, 0, none⟩) (n + 1) cap) j = xs j := fun j hj => upd_other _ _ hj
  have hv := h.a0 l3
  have hu := h.b0 l7
  have hle := h.le
  have row : ∀ k, v.ownBlock = some k → n₁ ≤ k := fun k hk => (hv.lt k hk).1
  have box : ∀ {B : Nat} {t : TypeId} {y : Value}, B < n₁ → Boxed W1 B t y → Boxed w' B t y := fun hb hx => hx.kept hg (fun e => by have := row _ e.symm; omega)
  have hpu : v.ownBlock = none ∨ v.ownBlock ≠ u.ownBlock := h.p00 l3
  have hu' : w'.ownsRow n₁ 3 1 u n xv := hu.kept hg (by
    by_cases hb : u.ownBlock = none
    · exact .inl hb
    · right
      rcases hpu with hp | hp
      · rw [hp]; exact hb
      · exact Ne.symm hp)
  refine ⟨h.below.grown hg (by omega) (fun k hk => by have := row k hk; omega), h.keeps.trans (keeps_append hv hg), Nat.le_trans hle hg.size, ?_, ?_, ?_, ?_, ?_, ?_, ?_, ?_, ?_, ?_, ?_, ?_, ?_, ?_, ?_, ?_, ?_, box hB.2.2 h.m, ?_, ?_, ?_, ?_⟩
  · rw [u' 0 (by decide), x' 0 (by decide)]; exact h.v0
  · rw [u' 1 (by decide), x' 1 (by decide)]; exact h.v1
  · rw [u' 4 (by decide), x' 4 (by decide)]; exact h.v4
  · rw [u' 5 (by decide), x' 5 (by decide)]; exact h.v5
  · intro _ hh; rw [upd_same] at hh; cases hh
  · rw [u' 6 (by decide), u' 7 (by decide), x' 6 (by decide)]
    intro h6 h7
    obtain ⟨g', e, hc, r1, r2⟩ := h.t6 h6 h7
    exact ⟨g', e, hg.cell hc (fun e' => r1 e'), r1, r2⟩
  · intro hh; rw [upd_same] at hh; cases hh
  · rw [upd_same, upd_same]; exact fun _ => ⟨⟨g, cap, rfl⟩, hown⟩
  · rw [u' 7 (by decide)]; exact fun _ => hu'
  · rw [u' 7 (by decide), l7]; intro hh; cases hh
  · intro hh; rw [upd_same] at hh; cases hh
  · rw [upd_same]
    intro _ _
    show some g ≠ u.ownBlock
    rcases hgf with hgf | hgf
    · rcases hpu with hp | hp
      · rw [hp] at hgf; cases hgf
      · rw [← hgf]; exact hp
    · rw [hgf]; exact row_ne_new hu
  · rw [u' 7 (by decide), l7]; intro hh; cases hh
  · rw [u' 8 (by decide)]; exact fun hh => box hB.1 (h.k0 hh)
  · rw [u' 8 (by decide), l8]; intro hh; cases hh
  · rw [u' 9 (by decide)]; exact fun hh => box hB.2.1 (h.u0 hh)
  · rw [u' 9 (by decide), l9]; intro hh; cases hh
  · rw [u' 0 (by decide), u' 2 (by decide)]; exact fun _ => ⟨l0, l2⟩
  · rw [u' 7 (by decide), l7]; intro hh; cases hh
  · rw [u' 8 (by decide), l8]; intro hh; cases hh
  · rw [u' 9 (by decide), l9]; intro hh; cases hh

/-- the second append -/
theorem ToldI.app7 (h : ToldI n₀ n₁ Bk Bv Bm most v u n xk xv a b W li xs W1) (hn : n₀ ≤ n₁) (hB : Bk < n₁ ∧ Bv < n₁ ∧ Bm < n₁) (l7 : li 7 = false) (l3 : li 3 = true) (l4 : li 4 = true) (l6 : li 6 = true) (g cap : Nat) (w' : World)
    (hown : w'.ownsRow n₁ 3 1 (.slice (some ⟨g, 0, none⟩) (n + 1) cap) (n + 1) (xv ++ [b])) (hg : W1.grownBy w' u.ownBlock) (hgf : u.ownBlock = some g ∨ g = W1.heap.size) :
    ToldI n₀ n₁ Bk Bv Bm most v u n xk xv a b W (upd li 7 true) (upd xs 7 (.slice (some ⟨g, 0, none⟩) (n + 1) cap)) w' := by
  have l8 : li 8 = false := not_on h.c8 l7
  have l9 : li 9 = false := not_on h.c9 l8
  have u' : ∀ j, j ≠ 7 → upd li 7 true j = li j := fun j hj => upd_other _ _ hj
  have x' : ∀ j, j ≠ 7 → upd xs 7 (.slice (some ⟨g, 0, none⟩) (n + 1) cap) j = xs j := fun j hj => upd_other _ _ hj
  obtain ⟨⟨g3, cap3, e3⟩, hv⟩ := h.a1 l3
  have hu := h.b0 l7
  have hle := h.le
  have row : ∀ k, u.ownBlock = some k → n₁ ≤ k := fun k hk => (hu.lt k hk).1
  have box : ∀ {B : Nat} {t : TypeId} {y : Value}, B < n₁ → Boxed W1 B t y → Boxed w' B t y := fun hb hx => hx.kept hg (fun e => by have := row _ e.symm; omega)
  have hp := h.p10 l3 l7
  refine ⟨h.below.grown hg (by omega) (fun k hk => by have := row k hk; omega), h.keeps.trans (keeps_append hu hg), Nat.le_trans hle hg.size, ?_, ?_, ?_, ?_, ?_, ?_, ?_, ?_, ?_, ?_, ?_, ?_, ?_, ?_, ?_, ?_, ?_, box hB.2.2 h.m, ?_, ?_, ?_, ?_⟩
  · rw [u' 0 (by decide), x' 0 (by decide)]; exact h.v0
  · rw [u' 1 (by decide), x' 1 (by decide)]; exact h.v1
  · rw [u' 4 (by decide), x' 4 (by decide)]; exact h.v4
  · rw [u' 5 (by decide), x' 5 (by decide)]; exact h.v5
  · rw [u' 3 (by decide), l3]; intro _ hh; cases hh
  · intro _ hh; rw [upd_same] at hh; cases hh
  · rw [u' 3 (by decide), l3]; intro hh; cases hh
  · rw [u' 3 (by decide), x' 3 (by decide)]; exact fun _ => ⟨⟨g3, cap3, e3⟩, hv.kept hg (.inr hp)⟩
  · intro hh; rw [upd_same] at hh; cases hh
  · rw [upd_same, upd_same]; exact fun _ => ⟨⟨g, cap, rfl⟩, hown⟩
  · rw [u' 3 (by decide), l3]; intro hh; cases hh
  · intro _ hh; rw [upd_same] at hh; cases hh
  · rw [upd_same, x' 3 (by decide)]
    intro _
    show (xs 3).ownBlock ≠ some g
    rcases hgf with hgf | hgf
    · rw [← hgf]; exact hp
    · rw [hgf]; exact (row_ne_new hv).symm
  · rw [u' 8 (by decide)]; exact fun hh => box hB.1 (h.k0 hh)
  · rw [u' 8 (by decide), l8]; intro hh; cases hh
  · rw [u' 9 (by decide)]; exact fun hh => box hB.2.1 (h.u0 hh)
  · rw [u' 9 (by decide), l9]; intro hh; cases hh
  · rw [u' 0 (by decide), u' 2 (by decide), u' 3 (by decide)]; exact h.c3
  · rw [u' 3 (by decide), u' 4 (by decide), u' 6 (by decide)]; exact fun _ => ⟨l3, l4, l6⟩
  · rw [u' 8 (by decide), l8]; intro hh; cases hh
  · rw [u' 9 (by decide), l9]; intro hh; cases hh

theorem row_setCell {W : World} {n₁ B e size : Nat} {v y : Value} {k : Nat} {ys : List Value} (h : W.ownsRow n₁ e size v k ys) (hB : B < n₁) : (W.setCell ⟨B, 0, none⟩ y).ownsRow n₁ e size v k ys := ownsRow_setCell_below h hB y

/-- the first store -/
theorem ToldI.put8 (h : ToldI n₀ n₁ Bk Bv Bm most v u n xk xv a b W li xs W1) (hB : Bk < n₁ ∧ Bv < n₁ ∧ Bm < n₁) (hne : Bk ≠ Bv ∧ Bk ≠ Bm) (hn : n₀ ≤ Bk) (l7 : li 7 = true) (l8 : li 8 = false) (x : Value) :
    ToldI n₀ n₁ Bk Bv Bm most v u n xk xv a b W (upd li 8 true) (upd xs 8 x) (W1.setCell ⟨Bk, 0, none⟩ (xs 3)) := by
  have l9 : li 9 = false := not_on h.c9 l8
  have u' : ∀ j, j ≠ 8 → upd li 8 true j = li j := fun j hj => upd_other _ _ hj
  have x' : ∀ j, j ≠ 8 → upd xs 8 x j = xs j := fun j hj => upd_other _ _ hj
  have l3 := (h.c7 l7).1
  refine ⟨h.below.setCell (p := ⟨Bk, 0, none⟩) hn _, h.keeps.trans (KeepsOthers.setCell _ _ _), by have := h.le; simpa [World.setCell] using this, ?_, ?_, ?_, ?_, ?_, ?_, ?_, ?_, ?_, ?_, ?_, ?_, ?_, ?_, ?_, ?_, ?_, h.m.other (Ne.symm hne.2) _, ?_, ?_, ?_, ?_⟩
  · rw [u' 0 (by decide), x' 0 (by decide)]; exact h.v0
  · rw [u' 1 (by decide), x' 1 (by decide)]; exact h.v1
  · rw [u' 4 (by decide), x' 4 (by decide)]; exact h.v4
  · rw [u' 5 (by decide), x' 5 (by decide)]; exact h.v5
  · rw [u' 3 (by decide), l3]; intro _ hh; cases hh
  · rw [u' 7 (by decide), l7]; intro _ hh; cases hh
  · rw [u' 3 (by decide), l3]; intro hh; cases hh
  · rw [u' 3 (by decide), x' 3 (by decide)]; exact fun hh => ⟨(h.a1 hh).1, row_setCell (h.a1 hh).2 hB.1⟩
  · rw [u' 7 (by decide), l7]; intro hh; cases hh
  · rw [u' 7 (by decide), x' 7 (by decide)]; exact fun hh => ⟨(h.b1 hh).1, row_setCell (h.b1 hh).2 hB.1⟩
  · rw [u' 3 (by decide), l3]; intro hh; cases hh
  · rw [u' 7 (by decide), l7]; intro _ hh; cases hh
  · rw [u' 7 (by decide), x' 3 (by decide), x' 7 (by decide)]; exact h.p11
  · intro hh; rw [upd_same] at hh; cases hh
  · rw [x' 3 (by decide)]; exact fun _ => (h.k0 l8).set _
  · rw [u' 9 (by decide)]; exact fun hh => (h.u0 hh).other (Ne.symm hne.1) _
  · rw [u' 9 (by decide), l9]; intro hh; cases hh
  · rw [u' 0 (by decide), u' 2 (by decide), u' 3 (by decide)]; exact h.c3
  · rw [u' 7 (by decide), u' 3 (by decide), u' 4 (by decide), u' 6 (by decide)]; exact h.c7
  · rw [u' 7 (by decide)]; exact fun _ => l7
  · rw [u' 9 (by decide), l9]; intro hh; cases hh

/-- the second store -/
theorem ToldI.put9 (h : ToldI n₀ n₁ Bk Bv Bm most v u n xk xv a b W li xs W1) (hB : Bk < n₁ ∧ Bv < n₁ ∧ Bm < n₁) (hne : Bv ≠ Bk ∧ Bv ≠ Bm) (hn : n₀ ≤ Bv) (l8 : li 8 = true) (l9 : li 9 = false) (x : Value) :
    ToldI n₀ n₁ Bk Bv Bm most v u n xk xv a b W (upd li 9 true) (upd xs 9 x) (W1.setCell ⟨Bv, 0, none⟩ (xs 7)) := by
  have l7 := h.c8 l8
  have u' : ∀ j, j ≠ 9 → upd li 9 true j = li j := fun j hj => upd_other _ _ hj
  have x' : ∀ j, j ≠ 9 → upd xs 9 x j = xs j := fun j hj => upd_other _ _ hj
  have l3 := (h.c7 l7).1
  refine ⟨h.below.setCell (p := ⟨Bv, 0, none⟩) hn _, h.keeps.trans (KeepsOthers.setCell _ _ _), by have := h.le; simpa [World.setCell] using this, ?_, ?_, ?_, ?_, ?_, ?_, ?_, ?_, ?_, ?_, ?_, ?_, ?_, ?_, ?_, ?_, ?_, h.m.other (Ne.symm hne.2) _, ?_, ?_, ?_, ?_⟩
  · rw [u' 0 (by decide), x' 0 (by decide)]; exact h.v0
  · rw [u' 1 (by decide), x' 1 (by decide)]; exact h.v1
  · rw [u' 4 (by decide), x' 4 (by decide)]; exact h.v4
  · rw [u' 5 (by decide), x' 5 (by decide)]; exact h.v5
  · rw [u' 3 (by decide), l3]; intro _ hh; cases hh
  · rw [u' 7 (by decide), l7]; intro _ hh; cases hh
  · rw [u' 3 (by decide), l3]; intro hh; cases hh
  · rw [u' 3 (by decide), x' 3 (by decide)]; exact fun hh => ⟨(h.a1 hh).1, row_setCell (h.a1 hh).2 hB.2.1⟩
  · rw [u' 7 (by decide), l7]; intro hh; cases hh
  · rw [u' 7 (by decide), x' 7 (by decide)]; exact fun hh => ⟨(h.b1 hh).1, row_setCell (h.b1 hh).2 hB.2.1⟩
  · rw [u' 3 (by decide), l3]; intro hh; cases hh
  · rw [u' 7 (by decide), l7]; intro _ hh; cases hh
  · rw [u' 7 (by decide), x' 3 (by decide), x' 7 (by decide)]; exact h.p11
  · rw [u' 8 (by decide), l8]; intro hh; cases hh
  · rw [u' 8 (by decide), x' 3 (by decide)]; exact fun hh => (h.k1 hh).other (Ne.symm hne.1) _
  · intro hh; rw [upd_same] at hh; cases hh
  · rw [x' 7 (by decide)]; exact fun _ => (h.u0 l9).set _
  · rw [u' 0 (by decide), u' 2 (by decide), u' 3 (by decide)]; exact h.c3
  · rw [u' 7 (by decide), u' 3 (by decide), u' 4 (by decide), u' 6 (by decide)]; exact h.c7
  · rw [u' 7 (by decide), u' 8 (by decide)]; exact h.c8
  · rw [u' 8 (by decide)]; exact fun _ => l8
end

def Two (n₁ Bk Bv n : Nat) (xk xv : List Value) (W : World) : Prop := ∃ v u, Boxed W Bk 22 v ∧ Boxed W Bv 22 u ∧ W.ownsRow n₁ 3 1 v n xk ∧ W.ownsRow n₁ 3 1 u n xv ∧ (v.ownBlock = none ∨ v.ownBlock ≠ u.ownBlock)

theorem boxed_turn {X Y : World} {row : Option Nat} {B : Nat} {t : TypeId} {v : Value} (h : Boxed X B t v) (hg : X.grownBy Y row) (hrow : ∀ r, row = some r → ∃ o : Obj, X.heap[r]? = some o ∧ o.isCells = false) : Boxed Y B t v :=
  h.kept hg (fun e' => by obtain ⟨o, ho, hc⟩ := hrow B e'.symm; rw [show X.heap[B]? = _ from h] at ho; cases ho; cases hc)
theorem row_turn {X Y : World} {row : Option Nat} {base e size : Nat} {v : Value} {k : Nat} {ys : List Value} (hr : X.ownsRow base e size v k ys) (hg : X.grownBy Y row) (hrow : ∀ r, row = some r → ∃ o : Obj, X.heap[r]? = some o ∧ o.isCells = false) : Y.ownsRow base e size v k ys := by
  refine hr.kept hg ?_
  rcases hr.2 with ⟨rfl, _⟩ | ⟨g, cap, cur, rfl, _, hgb, _⟩
  · exact .inl rfl
  · refine .inr fun e' => ?_
    obtain ⟨o, ho, hc⟩ := hrow g (by simpa [Value.ownBlock] using e'.symm)
    rw [hgb] at ho; cases ho; cases hc
theorem Two.turn {X Y : World} {row : Option Nat} {n₁ Bk Bv n : Nat} {xk xv : List Value} (h : Two n₁ Bk Bv n xk xv X) (hg : X.grownBy Y row) (hrow : ∀ r, row = some r → ∃ o : Obj, X.heap[r]? = some o ∧ o.isCells = false) : Two n₁ Bk Bv n xk xv Y := by
  obtain ⟨v, u, h1, h2, h3, h4, h5⟩ := h
  exact ⟨v, u, boxed_turn h1 hg hrow, boxed_turn h2 hg hrow, row_turn h3 hg hrow, row_turn h4 hg hrow, h5⟩

theorem rowBase {W : World} {b b' e size : Nat} {v : Value} {k : Nat} {ys : List Value} (h : W.ownsRow b e size v k ys) (hb : b' ≤ b) : W.ownsRow b' e size v k ys := by
  obtain ⟨h1, h2⟩ := h
  refine ⟨h1, ?_⟩
  rcases h2 with h2 | ⟨g, cap, cur, hv, hg, r⟩
  · exact .inl h2
  · exact .inr ⟨g, cap, cur, hv, Nat.le_trans hb hg, r⟩

theorem kept_of_below {P : Nat → Prop} {n : Nat} {A B : World} (hP : ∀ b, P b → b < n) (h : Below n A B) : Kept P A B := fun b hb => h.block b (hP b hb)

def ints1 (l : List (Int × Int)) : List Value := l.map fun x => Value.int .i64 x.1
def ints2 (l : List (Int × Int)) : List Value := l.map fun x => Value.int .i64 x.2
theorem ints1_snoc (l : List (Int × Int)) (x : Int × Int) : ints1 (l ++ [x]) = ints1 l ++ [.int .i64 x.1] := by simp [ints1]
theorem ints2_snoc (l : List (Int × Int)) (x : Int × Int) : ints2 (l ++ [x]) = ints2 l ++ [.int .i64 x.2] := by simp [ints2]


end Go.Proofs.Ytndpdcnaibpgmaa
