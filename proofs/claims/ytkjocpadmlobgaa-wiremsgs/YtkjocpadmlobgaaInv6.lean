/- A region that draws its order and appends twice: append(append(V, S), N), where S and N are made on the way. -/
import Derived.Test.YtkjocpadmlobgaaRefN
namespace Go.Proofs.Ytkjocpadmlobgaa
open Go.RowKit Go.Dig Go.Inv Go.Oct

theorem upd_true {li : Nat → Bool} {i : Nat} (x : Nat) (h : li i = true) : upd li x true i = true := by
  by_cases hx : i = x
  · subst hx; exact upd_same _ _ _
  · rw [upd_other _ _ hx]; exact h
structure App2 (base : Nat) (w0 : World) (V U : Value) (L S N : List Int) (s p c q e : Nat) (val : Nat → Option Value) (li : Nat → Bool) (xs : Nat → Value) (W : World) : Prop where
  bz : base ≤ w0.heap.size
  size : w0.heap.size ≤ W.heap.size
  bel : Below base w0 W
  old : ∀ k, k < w0.heap.size → V.ownBlock ≠ some k → W.heap[k]? = w0.heap[k]?
  lt : ∀ k, V.ownBlock = some k → base ≤ k ∧ k < w0.heap.size
  det : ∀ i v, li i = true → val i = some v → xs i = v
  row0 : li p = false → OwnB W base V L
  src1 : li s = true → li p = false → ∃ ao n cap, xs s = .slice ao n cap ∧ n = S.length ∧ Rowed W ao S cap
  row1 : li p = true → li q = false → OwnB W base (xs p) (L ++ S)
  src2 : li c = true → li q = false → OwnB W w0.heap.size (xs c) N
  ap : li c = true → li p = true → li q = false → ∀ k, (xs c).ownBlock = some k → (xs p).ownBlock ≠ some k
  row2 : li q = true → OwnB W base (xs q) (L ++ S ++ N)
  fin : li e = true → xs e = xs q
  own : li p = true → li q = false → ∀ k, (xs p).ownBlock = some k → V.ownBlock = some k ∨ w0.heap.size ≤ k
  v0 : li e = false → xs e = U
  all : li e = true → ∀ i, i < e → li i = true
  qp : li q = true → li p = true ∧ li c = true

section
variable {base : Nat} {w0 : World} {V U : Value} {L S N : List Int} {s p c q e : Nat} {val : Nat → Option Value} {li : Nat → Bool} {xs : Nat → Value} {W W' : World}
theorem App2.start (hz : base ≤ w0.heap.size) (h : OwnB w0 base V L) (hU : xs e = U) : App2 base w0 V U L S N s p c q e val (fun _ => false) xs w0.drew :=
  ⟨hz, Nat.le_refl _, (Below.refl _ _).drew, fun _ _ _ => rfl, fun k hk => h.lt k hk, (fun _ _ h => by cases h), fun _ => h.same fun _ _ => rfl, (fun h => by cases h), (fun h => by cases h), (fun h => by cases h), (fun h => by cases h), (fun h => by cases h), (fun h => by cases h), (fun h => by cases h), (fun _ => hU), (fun h => by cases h), fun h => by cases h⟩
theorem App2.pure (h : App2 base w0 V U L S N s p c q e val li xs W) {i : Nat} (v : Value) (h1 : i ≠ s ∧ i ≠ p ∧ i ≠ c ∧ i ≠ q ∧ i ≠ e) (hv : val i = some v) : App2 base w0 V U L S N s p c q e val (upd li i true) (upd xs i v) W := by
  obtain ⟨hs, hp, hc, hq, he⟩ := h1
  have us : ∀ {j}, i ≠ j → upd li i true j = li j := fun hj => upd_other _ _ hj.symm
  have ux : ∀ {j}, i ≠ j → upd xs i v j = xs j := fun hj => upd_other _ _ hj.symm
  refine ⟨h.bz, h.size, h.bel, h.old, h.lt, fun j u hj hu => ?_, ?_, ?_, ?_, ?_, ?_, ?_, ?_, ?_, ?_, ?_, ?_⟩
  · by_cases hij : i = j
    · subst hij; rw [upd_same]; rw [hv] at hu; injection hu
    · rw [ux hij]; rw [us hij] at hj; exact h.det j u hj hu
  · rw [us hp]; exact h.row0
  · rw [us hs, us hp, ux hs]; exact h.src1
  · rw [us hp, us hq, ux hp]; exact h.row1
  · rw [us hc, us hq, ux hc]; exact h.src2
  · rw [us hc, us hp, us hq, ux hc, ux hp]; exact h.ap
  · rw [us hq, ux hq]; exact h.row2
  · rw [us he, ux he, ux hq]; exact h.fin
  · rw [us hp, us hq, ux hp]; exact h.own
  · rw [us he, ux he]; exact h.v0
  · rw [us he]; exact fun a j hj => upd_true _ (h.all a j hj)
  · rw [us hq]; exact fun a => ⟨upd_true _ (h.qp a).1, upd_true _ (h.qp a).2⟩
/-- the first source -/
theorem App2.first (h : App2 base w0 V U L S N s p c q e val li xs W) (hB : Below W.heap.size W W') (v : Value) (h1 : s ≠ p ∧ s ≠ c ∧ s ≠ q ∧ s ≠ e) (hv : ∀ u, val s = some u → v = u) (hsrc : ∃ ao n cap, v = .slice ao n cap ∧ n = S.length ∧ Rowed W' ao S cap) : App2 base w0 V U L S N s p c q e val (upd li s true) (upd xs s v) W' := by
  obtain ⟨np, nc, nq, ne⟩ := h1
  have us : ∀ {j}, s ≠ j → upd li s true j = li j := fun hj => upd_other _ _ hj.symm
  have ux : ∀ {j}, s ≠ j → upd xs s v j = xs j := fun hj => upd_other _ _ hj.symm
  have hz := hB.size
  have hb : Below base W W' := hB.mono (Nat.le_trans h.bz h.size)
  have ho : ∀ k, k < w0.heap.size → V.ownBlock ≠ some k → W'.heap[k]? = W.heap[k]? := fun k hk _ => hB.block k (Nat.lt_of_lt_of_le hk h.size)
  refine ⟨h.bz, Nat.le_trans h.size hz, h.bel.trans hb, fun k hk hn => (ho k hk hn).trans (h.old k hk hn), h.lt, fun j u hj hu => ?_, ?_, ?_, ?_, ?_, ?_, ?_, ?_, ?_, ?_, ?_, ?_⟩
  · by_cases hij : s = j
    · subst hij; rw [upd_same]; exact hv u hu
    · rw [ux hij]; rw [us hij] at hj; exact h.det j u hj hu
  · rw [us np]; exact fun a => (h.row0 a).below hB
  · rw [us np, upd_same, upd_same]; exact fun _ _ => hsrc
  · rw [us np, us nq, ux np]; exact fun a b => (h.row1 a b).below hB
  · rw [us nc, us nq, ux nc]; exact fun a b => (h.src2 a b).below hB
  · rw [us nc, us np, us nq, ux nc, ux np]; exact h.ap
  · rw [us nq, ux nq]; exact fun a => (h.row2 a).below hB
  · rw [us ne, ux ne, ux nq]; exact h.fin
  · rw [us np, us nq, ux np]; exact h.own
  · rw [us ne, ux ne]; exact h.v0
  · rw [us ne]; exact fun a j hj => upd_true _ (h.all a j hj)
  · rw [us nq]; exact fun a => ⟨upd_true _ (h.qp a).1, upd_true _ (h.qp a).2⟩
/-- the second source -/
theorem App2.second (h : App2 base w0 V U L S N s p c q e val li xs W) (hB : Below W.heap.size W W') (v : Value) (h1 : c ≠ s ∧ c ≠ p ∧ c ≠ q ∧ c ≠ e) (hv : val c = none) (hsrc : OwnB W' W.heap.size v N) : App2 base w0 V U L S N s p c q e val (upd li c true) (upd xs c v) W' := by
  obtain ⟨ns, np, nq, ne⟩ := h1
  have us : ∀ {j}, c ≠ j → upd li c true j = li j := fun hj => upd_other _ _ hj.symm
  have ux : ∀ {j}, c ≠ j → upd xs c v j = xs j := fun hj => upd_other _ _ hj.symm
  have hz := hB.size
  have hb : Below base W W' := hB.mono (Nat.le_trans h.bz h.size)
  have ho : ∀ k, k < w0.heap.size → V.ownBlock ≠ some k → W'.heap[k]? = W.heap[k]? := fun k hk _ => hB.block k (Nat.lt_of_lt_of_le hk h.size)
  refine ⟨h.bz, Nat.le_trans h.size hz, h.bel.trans hb, fun k hk hn => (ho k hk hn).trans (h.old k hk hn), h.lt, fun j u hj hu => ?_, ?_, ?_, ?_, ?_, ?_, ?_, ?_, ?_, ?_, ?_, ?_⟩
  · by_cases hij : c = j
    · subst hij; rw [hv] at hu; cases hu
    · rw [ux hij]; rw [us hij] at hj; exact h.det j u hj hu
  · rw [us np]; exact fun a => (h.row0 a).below hB
  · rw [us np, us ns, ux ns]; exact fun a b => by obtain ⟨ao, n, cap, e1, e2, e3⟩ := h.src1 a b; exact ⟨ao, n, cap, e1, e2, e3.below hB (Nat.le_refl _)⟩
  · rw [us np, us nq, ux np]; exact fun a b => (h.row1 a b).below hB
  · rw [us nq, upd_same, upd_same]; exact fun _ _ => hsrc.mono h.size
  · rw [us np, us nq, upd_same, upd_same, ux np]; intro _ a b k hk e2; have h3 := (hsrc.lt k hk).1; have h4 := ((h.row1 a b).lt k e2).2; omega
  · rw [us nq, ux nq]; exact fun a => (h.row2 a).below hB
  · rw [us ne, ux ne, ux nq]; exact h.fin
  · rw [us np, us nq, ux np]; exact h.own
  · rw [us ne, ux ne]; exact h.v0
  · rw [us ne]; exact fun a j hj => upd_true _ (h.all a j hj)
  · rw [us nq]; exact fun a => ⟨upd_true _ (h.qp a).1, upd_true _ (h.qp a).2⟩
/-- the first append -/
theorem App2.app1 (h : App2 base w0 V U L S N s p c q e val li xs W) (v : Value) (hG : Gr W W' V v) (h1 : p ≠ s ∧ p ≠ c ∧ p ≠ q ∧ p ≠ e) (hv : val p = none) (hq0 : li q = false) (hown : OwnB W' base v (L ++ S)) : App2 base w0 V U L S N s p c q e val (upd li p true) (upd xs p v) W' := by
  obtain ⟨ns, nc, nq, ne⟩ := h1
  have us : ∀ {j}, p ≠ j → upd li p true j = li j := fun hj => upd_other _ _ hj.symm
  have ux : ∀ {j}, p ≠ j → upd xs p v j = xs j := fun hj => upd_other _ _ hj.symm
  have hz := hG.size
  have hb : Below base W W' := hG.below (Nat.le_trans h.bz h.size) (fun k hk => (h.lt k hk).1)
  have ho : ∀ k, k < w0.heap.size → V.ownBlock ≠ some k → W'.heap[k]? = W.heap[k]? := fun k hk hn => hG.block k (Nat.lt_of_lt_of_le hk h.size) hn
  refine ⟨h.bz, Nat.le_trans h.size hz, h.bel.trans hb, fun k hk hn => (ho k hk hn).trans (h.old k hk hn), h.lt, fun j u hj hu => ?_, ?_, ?_, ?_, ?_, ?_, ?_, ?_, ?_, ?_, ?_, ?_⟩
  · by_cases hij : p = j
    · subst hij; rw [hv] at hu; cases hu
    · rw [ux hij]; rw [us hij] at hj; exact h.det j u hj hu
  · rw [upd_same]; exact fun a => by cases a
  · rw [upd_same]; exact fun _ a => by cases a
  · rw [upd_same, us nq, upd_same]; exact fun _ _ => hown
  · rw [us nc, us nq, ux nc]; exact fun a b => (h.src2 a b).same fun k hk => hG.block k ((h.src2 a b).lt k hk).2 (fun e2 => by have h3 := (h.lt k e2).2; have h4 := ((h.src2 a b).lt k hk).1; omega)
  · rw [us nc, us nq, upd_same, ux nc, upd_same]; intro a _ b k hk e2; rcases hG.own k e2 with h5 | h5; (have h3 := (h.lt k h5).2; have h4 := ((h.src2 a b).lt k hk).1; omega); (have h4 := ((h.src2 a b).lt k hk).2; omega)
  · rw [us nq, ux nq]; exact fun a => by rw [hq0] at a; cases a
  · rw [us ne, ux ne, ux nq]; exact h.fin
  · rw [upd_same, us nq, upd_same]; intro _ _ k hk; exact (hG.own k hk).imp id (fun h5 => Nat.le_trans h.size h5)
  · rw [us ne, ux ne]; exact h.v0
  · rw [us ne]; exact fun a j hj => upd_true _ (h.all a j hj)
  · rw [us nq]; exact fun a => ⟨upd_true _ (h.qp a).1, upd_true _ (h.qp a).2⟩
/-- the second append -/
theorem App2.app2 (h : App2 base w0 V U L S N s p c q e val li xs W) (v : Value) (hG : Gr W W' (xs p) v) (h1 : q ≠ s ∧ q ≠ p ∧ q ≠ c ∧ q ≠ e) (hv : val q = none) (hp1 : li p = true) (hc1 : li c = true) (hq0 : li q = false) (he0 : li e = false) (hown : OwnB W' base v (L ++ S ++ N)) : App2 base w0 V U L S N s p c q e val (upd li q true) (upd xs q v) W' := by
  obtain ⟨ns, np, nc, ne⟩ := h1
  have us : ∀ {j}, q ≠ j → upd li q true j = li j := fun hj => upd_other _ _ hj.symm
  have ux : ∀ {j}, q ≠ j → upd xs q v j = xs j := fun hj => upd_other _ _ hj.symm
  have hr := h.row1 hp1 hq0
  have hz := hG.size
  have hb : Below base W W' := hG.below (Nat.le_trans h.bz h.size) (fun k hk => (hr.lt k hk).1)
  have ho : ∀ k, k < w0.heap.size → V.ownBlock ≠ some k → W'.heap[k]? = W.heap[k]? := fun k hk hn => hG.block k (Nat.lt_of_lt_of_le hk h.size) (fun e2 => (h.own hp1 hq0 k e2).elim hn (fun h5 => by omega))
  refine ⟨h.bz, Nat.le_trans h.size hz, h.bel.trans hb, fun k hk hn => (ho k hk hn).trans (h.old k hk hn), h.lt, fun j u hj hu => ?_, ?_, ?_, ?_, ?_, ?_, ?_, ?_, ?_, ?_, ?_, ?_⟩
  · by_cases hij : q = j
    · subst hij; rw [hv] at hu; cases hu
    · rw [ux hij]; rw [us hij] at hj; exact h.det j u hj hu
  · rw [us np]; exact fun a => by rw [hp1] at a; cases a
  · rw [us np]; exact fun _ a => by rw [hp1] at a; cases a
  · rw [upd_same]; exact fun _ a => by cases a
  · rw [upd_same]; exact fun _ a => by cases a
  · rw [upd_same]; exact fun _ _ a => by cases a
  · rw [upd_same, upd_same]; exact fun _ => hown
  · rw [us ne]; exact fun a => by rw [he0] at a; cases a
  · rw [upd_same]; exact fun _ a => by cases a
  · rw [us ne, ux ne]; exact h.v0
  · rw [us ne]; exact fun a j hj => upd_true _ (h.all a j hj)
  · exact fun _ => ⟨upd_true _ hp1, upd_true _ hc1⟩
theorem App2.last (h : App2 base w0 V U L S N s p c q e val li xs W) (h1 : e ≠ s ∧ e ≠ p ∧ e ≠ c ∧ e ≠ q) (hv : val e = none) (hall : ∀ i, i < e → li i = true) : App2 base w0 V U L S N s p c q e val (upd li e true) (upd xs e (xs q)) W := by
  obtain ⟨hs, hp, hc, hq⟩ := h1
  have us : ∀ {j}, e ≠ j → upd li e true j = li j := fun hj => upd_other _ _ hj.symm
  have ux : ∀ {j}, e ≠ j → upd xs e (xs q) j = xs j := fun hj => upd_other _ _ hj.symm
  refine ⟨h.bz, h.size, h.bel, h.old, h.lt, fun j u hj hu => ?_, ?_, ?_, ?_, ?_, ?_, ?_, ?_, ?_, ?_, ?_, ?_⟩
  · by_cases hij : e = j
    · subst hij; rw [hv] at hu; cases hu
    · rw [ux hij]; rw [us hij] at hj; exact h.det j u hj hu
  · rw [us hp]; exact h.row0
  · rw [us hs, us hp, ux hs]; exact h.src1
  · rw [us hp, us hq, ux hp]; exact h.row1
  · rw [us hc, us hq, ux hc]; exact h.src2
  · rw [us hc, us hp, us hq, ux hc, ux hp]; exact h.ap
  · rw [us hq, ux hq]; exact h.row2
  · rw [upd_same, upd_same, ux hq]; exact fun _ => rfl
  · rw [us hp, us hq, ux hp]; exact h.own
  · rw [upd_same]; exact fun a => by cases a
  · exact fun _ j hj => upd_true _ (hall j hj)
  · rw [us hq]; exact fun a => ⟨upd_true _ (h.qp a).1, upd_true _ (h.qp a).2⟩
theorem App2.openq (h : App2 base w0 V U L S N s p c q e val li xs W) (hl : li p = false) : li q = false := by
  cases hq : li q with
  | false => rfl
  | true => rw [(h.qp hq).1] at hl; cases hl
theorem App2.open (h : App2 base w0 V U L S N s p c q e val li xs W) {i : Nat} (hi : i < e) (hl : li i = false) : li e = false := by
  cases he : li e with
  | false => rfl
  | true => rw [h.all he i hi] at hl; cases hl
end
section
variable {o : Oper} {a : Act} {w : World} {Q : Exit → Act → World → Prop} {K : Act → World → Prop}
theorem wp_appO (s x : Operand) (ho : o.op = .call { callee := .builtin .append, args := #[s, x], argTypes := #[22, 22] }) (base : Nat) (v : Value) (L : List Int) (hs : a.eval s = v) (hown : OwnB w base v L)
    (ao : Option Addr) (m c : Nat) (N : List Int) (hx : a.eval x = .slice ao m c) (hm : m = N.length) (hN : Rowed w ao N c) (hb : L.length + m < 2199023255552) (hbase : base ≤ w.heap.size)
    (h : ∀ v' w', OwnB w' base v' (L ++ N) → Gr w w' v v' → K (a.put o.dst v') w') : o.wp Try.prog a w K Q := by
  rcases hN with ⟨rfl, rfl, rfl⟩ | ⟨ad, rfl, hc⟩
  · subst hm
    obtain ⟨i8, hi, hz0, hz1, hz2⟩ := info_parts info_u8
    have hrun := run_append_owned_none (P := Try.prog) w base 22 o.type 5 i8 1 (by kernel_rfl) hi v L.length (L.map (Value.int .u8)) hown
    unfold Oper.wp
    simp [execOp, ho, resolve, invoke, builtin, hs, hx, hrun, Result.andThen]
    exact h v w (by rw [List.append_nil]; exact hown) (Gr.refl _ _)
  · exact wp_app s x ho base v L hs hown ad m c N hx hm hc hb hbase h
end
end Go.Proofs.Ytkjocpadmlobgaa
