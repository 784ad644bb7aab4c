/- The reference's table in memory; one statement that makes a row out of parts of another, in whatever order; place, From, Get. For tables of up to 100000 entries. -/
import Derived.Test.YtgafmckiomhceaaWalkI
import Derived.Deep.AppendSrc
namespace Go.Proofs.Ytgafmckiomhceaa
open Go.RowKit Go.Hold Go.Inv Go.Shelf

/-! ### places in a list -/
def posL (k : Int) : List (Int × Int) → Nat
  | [] => 0
  | (a, _) :: r => if a < k then posL k r + 1 else 0
def hereL (k : Int) (l : List (Int × Int)) : Bool := match l[posL k l]? with | some e => e.1 == k | none => false

theorem posL_le (k : Int) : ∀ l, posL k l ≤ l.length
  | [] => Nat.le_refl _
  | (a, b) :: r => by
    have := posL_le k r
    simp only [posL]
    split <;> simp <;> omega
theorem posL_lt {k : Int} : ∀ {l : List (Int × Int)} {j : Nat}, j < posL k l → ∃ e, l[j]? = some e ∧ e.1 < k
  | [], j, h => by simp [posL] at h
  | (a, b) :: r, j, h => by
    simp only [posL] at h
    split at h
    · rename_i hlt
      cases j with
      | zero => exact ⟨(a, b), rfl, hlt⟩
      | succ j => obtain ⟨e, he, hk⟩ := posL_lt (k := k) (l := r) (j := j) (by omega); exact ⟨e, by simpa using he, hk⟩
    · omega
theorem posL_at {k : Int} : ∀ {l : List (Int × Int)} {e : Int × Int}, l[posL k l]? = some e → ¬ e.1 < k
  | [], e, h => by simp [posL] at h
  | (a, b) :: r, e, h => by
    simp only [posL] at h
    split at h
    · exact posL_at (l := r) (by simpa using h)
    · rename_i hlt
      simp at h; subst h; exact hlt

theorem insL_here {k v : Int} : ∀ {l : List (Int × Int)}, hereL k l = true → insL k v l = l.set (posL k l) (k, v)
  | [], h => by simp [hereL, posL] at h
  | (a, b) :: r, h => by
    simp only [insL, posL]
    simp only [hereL, posL] at h
    split
    · rename_i hlt
      simp only [hlt, if_true] at h ⊢
      rw [insL_here (l := r) (by simpa [hereL] using h)]; rfl
    · rename_i hlt
      simp only [hlt, if_false] at h ⊢
      simp at h
      simp [h]
theorem insL_new {k v : Int} : ∀ {l : List (Int × Int)}, hereL k l = false → insL k v l = l.take (posL k l) ++ (k, v) :: l.drop (posL k l)
  | [], _ => by simp [insL, posL]
  | (a, b) :: r, h => by
    simp only [insL, posL]
    simp only [hereL, posL] at h
    split
    · rename_i hlt
      simp only [hlt, if_true] at h ⊢
      rw [insL_new (l := r) (by simpa [hereL] using h)]; rfl
    · rename_i hlt
      simp only [hlt, if_false] at h ⊢
      simp at h
      simp [h]
theorem fromL_pos {k : Int} : ∀ {l : List (Int × Int)}, Rises l → fromL k l = l.drop (posL k l)
  | [], _ => rfl
  | (a, b) :: r, h => by
    have h' := List.pairwise_cons.1 h
    simp only [posL]
    by_cases hlt : a < k
    · simp only [hlt, if_true, List.drop_succ_cons]
      rw [← fromL_pos h'.2]; simp [fromL, hlt]
    · simp only [hlt, if_false, List.drop_zero]
      exact fromL_all (fun x hx => by
        rcases List.mem_cons.1 hx with rfl | hx
        · exact hlt
        · have := h'.1 x hx; simp at this; omega)
theorem look_here {k : Int} : ∀ {l : List (Int × Int)}, Rises l → lookL k l = if hereL k l then (l[posL k l]?).map (·.2) else none
  | [], _ => by simp [lookL, hereL, posL]
  | (a, b) :: r, h => by
    have h' := List.pairwise_cons.1 h
    simp only [lookL]
    by_cases hlt : a < k
    · have e1 : hereL k ((a, b) :: r) = hereL k r := by simp [hereL, posL, hlt]
      have e2 : ((a, b) :: r)[posL k ((a, b) :: r)]? = r[posL k r]? := by simp [posL, hlt]
      rw [if_neg (by omega), look_here h'.2, e1, e2]
    · by_cases he : a = k
      · simp [hereL, posL, he]
      · rw [if_neg he, lookL_none (fun x hx => by have := h'.1 x hx; simp at this; omega)]
        simp [hereL, posL, hlt, he]
theorem del_here {k : Int} : ∀ {l : List (Int × Int)}, Rises l → hereL k l = true → delL k l = l.take (posL k l) ++ l.drop (posL k l + 1)
  | [], _, h => by simp [hereL, posL] at h
  | (a, b) :: r, h, hh => by
    have h' := List.pairwise_cons.1 h
    by_cases hlt : a < k
    · have hr : hereL k r = true := by simpa [hereL, posL, hlt] using hh
      have := del_here h'.2 hr
      simp only [posL, hlt, if_true, List.take_succ_cons, List.drop_succ_cons, List.cons_append]
      rw [← this]
      have hne : a ≠ k := by omega
      simp [delL, hne]
    · have he : a = k := by simpa [hereL, posL, hlt] using hh
      simp only [posL, hlt, if_false, List.take_zero, List.nil_append, Nat.zero_add, List.drop_succ_cons, List.drop_zero]
      have : delL k r = r := delL_none (fun x hx => by have := h'.1 x hx; simp at this; omega)
      simp [delL] at this ⊢
      simp [he]
      exact this
theorem isSome_here {k : Int} {l : List (Int × Int)} (h : Rises l) : (lookL k l).isSome = hereL k l := by
  rw [look_here h]
  cases hh : hereL k l with
  | false => rfl
  | true =>
    have : posL k l < l.length := by
      unfold hereL at hh
      split at hh
      · rename_i e he; exact (List.getElem?_eq_some_iff.1 he).1
      · cases hh
    simp [List.getElem?_eq_getElem this]
theorem here_lt {k : Int} {l : List (Int × Int)} (hh : hereL k l = true) : posL k l < l.length := by
  unfold hereL at hh
  split at hh
  · rename_i e he; exact (List.getElem?_eq_some_iff.1 he).1
  · cases hh

def keysL (l : List (Int × Int)) : List Int := l.map (·.1)
def valsL (l : List (Int × Int)) : List Int := l.map (·.2)

/-- Block rt is a reference's table of the entries l. -/
def Ref (W : World) (rt : Nat) (l : List (Int × Int)) : Prop := ∃ vk vv, W.heap[rt]? = some (.cells #[vk, vv] 28 (0, 0)) ∧ Sl W vk (keysL l) ∧ Sl W vv (valsL l)
theorem two_cells {W : World} {b : Nat} {t : TypeId} {x y : Value} (h : W.heap[b]? = some (.cells #[x, y] t (0, 0))) : W.cell? ⟨b, 0, none⟩ = some x ∧ W.cell? ⟨b, 1, none⟩ = some y ∧ W.frozen? ⟨b, 0, none⟩ = false ∧ W.frozen? ⟨b, 1, none⟩ = false := by
  refine ⟨?_, ?_, ?_, ?_⟩ <;> simp [World.cell?, World.frozen?, h]
theorem lt_of_heap {W : World} {b : Nat} {o : Obj} (h : W.heap[b]? = some o) : b < W.heap.size := (Array.getElem?_eq_some_iff.1 h).1
theorem Sl.frm {S : Nat → Prop} {A B : World} {v : Value} {xs : List Int} (h : Sl A v xs) (hF : Frm S A B) (hS : ∀ g off n c, v = .slice (some ⟨g, off, none⟩) n c → ¬ S g) : Sl B v xs := by
  rcases h with h | ⟨g, off, cap, hv, hcap, hc⟩
  · exact .inl h
  · refine .inr ⟨g, off, cap, hv, hcap, fun i x hx => ?_⟩
    have := hc i x hx
    exact (World.cell?_of_block (hF.block g (block_lt_of_cell this) (hS g off _ _ hv))).trans this
theorem Ref.grow {A B : World} {rt : Nat} {l : List (Int × Int)} (h : Ref A rt l) (hB : Below A.heap.size A B) : Ref B rt l := by
  obtain ⟨vk, vv, h1, h2, h3⟩ := h
  exact ⟨vk, vv, (hB.block rt (lt_of_heap h1)).trans h1, h2.grow hB, h3.grow hB⟩
theorem Ref.lt {W : World} {rt : Nat} {l : List (Int × Int)} (h : Ref W rt l) : rt < W.heap.size := by obtain ⟨vk, vv, h1, _⟩ := h; exact lt_of_heap h1
theorem Ref.cell4 {W : World} {rt : Nat} {l : List (Int × Int)} (h : Ref W rt l) : W.cell? ⟨rt, 4, none⟩ = none := by obtain ⟨vk, vv, h1, _⟩ := h; simp [World.cell?, h1]
/-- slices of numbers lie on where no block of numbers has turned -/
theorem Sl.frmNum {S : Nat → Prop} {A B : World} {v : Value} {xs : List Int} (h : Sl A v xs) (hF : Frm S A B) (hS : ∀ k, S k → ∀ i x, A.cell? ⟨k, i, none⟩ ≠ some (.int .i64 x)) : Sl B v xs := by
  rcases h with h | ⟨g, off, cap, hv, hcap, hc⟩
  · exact .inl h
  · refine .inr ⟨g, off, cap, hv, hcap, fun i x hx => ?_⟩
    have := hc i x hx
    exact (World.cell?_of_block (hF.block g (block_lt_of_cell this) (fun hs => hS g hs _ _ this))).trans this
theorem Ref.frm {S : Nat → Prop} {A B : World} {rt : Nat} {l : List (Int × Int)} (h : Ref A rt l) (hF : Frm S A B) (hn : ¬ S rt) (hS : ∀ k, S k → ∀ i x, A.cell? ⟨k, i, none⟩ ≠ some (.int .i64 x)) : Ref B rt l := by
  obtain ⟨vk, vv, h1, h2, h3⟩ := h
  exact ⟨vk, vv, (hF.block rt (lt_of_heap h1) hn).trans h1, h2.frmNum hF hS, h3.frmNum hF hS⟩
theorem Sl.take {W : World} {v : Value} {xs : List Int} (h : Sl W v xs) : (v = .slice none 0 0 ∧ xs = []) ∨ ∃ g off cap, v = .slice (some ⟨g, off, none⟩) xs.length cap ∧ xs.length ≤ cap ∧ (∀ i, i ≤ xs.length → Sl W (.slice (some ⟨g, off, none⟩) i cap) (xs.take i)) ∧ ∀ i c, i ≤ xs.length → xs.length - i ≤ c → Sl W (.slice (some ⟨g, off + i, none⟩) (xs.length - i) c) (xs.drop i) := by
  rcases h with h | ⟨g, off, cap, hv, hcap, hc⟩
  · exact .inl h
  · refine .inr ⟨g, off, cap, hv, hcap, fun i hi => .inr ⟨g, off, cap, by simp [Nat.min_eq_left hi], by simp; omega, fun j x hx => ?_⟩, fun i c hi hcc => .inr ⟨g, off + i, c, by simp, by simpa using hcc, fun j x hx => ?_⟩⟩
    · rw [List.getElem?_take] at hx
      split at hx
      · exact hc j x hx
      · cases hx
    · rw [List.getElem?_drop] at hx
      rw [Nat.add_assoc]; exact hc _ x hx

/-- append onto a row of one's own that is not nil, of whatever slice of numbers -/
theorem run_app (w : World) (ty base g n cap : Nat) (xs : List Value) (hown : w.ownsRow base 3 1 (.slice (some ⟨g, 0, none⟩) n cap) n xs) (x : Value) (ys : List Int) (hx : Sl w x ys) (b1 : n + ys.length ≤ 1000000) (b3 : base ≤ w.heap.size) :
    ∃ g' cap' w', (Builtin.append_ #[26, 26] ty #[.slice (some ⟨g, 0, none⟩) n cap, x]).run Try.prog w = .ok (.slice (some ⟨g', 0, none⟩) (n + ys.length) cap') w' ∧
      w'.ownsRow base 3 1 (.slice (some ⟨g', 0, none⟩) (n + ys.length) cap') (n + ys.length) (xs ++ ys.map (Value.int .i64)) ∧ w.grownBy w' (some g) ∧ (g' = g ∨ g' = w.heap.size) := by
  obtain ⟨i0, hi, hz0, hz1, hz2⟩ := info_parts info_int
  have hcap : n ≤ cap := by
    rcases hown.2 with ⟨h, _⟩ | ⟨_, _, _, h, _, _, hc, _⟩
    · cases h
    · cases h; exact hc
  by_cases h0 : ys = []
  · subst h0
    refine ⟨g, cap, w, ?_, by simpa using hown, ⟨rfl, rfl, rfl, Nat.le_refl _, fun _ _ _ => rfl⟩, .inl rfl⟩
    have hsrc : Src Try.prog i0.size 26 x 0 [] w := by
      rcases hx with ⟨rfl, _⟩ | ⟨g2, o2, c2, rfl, _, _⟩
      · exact Src.ofNil w Try.underlying26 0
      · exact Src.ofSlice w Try.underlying26 _ 0 c2 [] (by simp) (by simp) (by simp)
    have := run_append_room_src (P := Try.prog) w 26 26 ty 3 i0 Try.underlying26 hi g 0 n cap x 0 [] hsrc (by omega) (by simp) (by simp)
    simpa [World.setCells] using this
  · rcases hx with ⟨_, h⟩ | ⟨g2, o2, c2, rfl, _, hc⟩
    · exact absurd h h0
    · have hpos : 0 < ys.length := List.length_pos_iff.2 h0
      obtain ⟨g', cap', w', hr, h2, h3, h4, _⟩ := run_append_lies (P := Try.prog) w 26 ty base 3 i0 (.int .i64 0) 1 8 Try.underlying26 hi hz0 hz1 hz2 rfl (by decide) _ n xs hown ⟨g2, o2, none⟩ ys.length c2 (ys.map (Value.int .i64)) (by simp)
        (by intro j u hj; rw [List.getElem?_map] at hj; cases hy : ys[j]? with | none => rw [hy] at hj; cases hj | some z => rw [hy] at hj; cases hj; rw [Addr.add_lit]; exact hc j z hy) (by simp [Value.oneCell']) hpos (by unfold maxLen; omega) (by omega) b3 w.heap.size rfl
      refine ⟨g', cap', w', hr, h2, h3, ?_⟩
      rcases h4 with h4 | h4
      · left; simpa [Value.ownBlock] using h4.symm
      · exact .inr h4

theorem wp_app {w : World} {o : Oper} {a : Act} {K : Act → World → Prop} {Q : Exit → Act → World → Prop} (s x : Operand)
    (hop : o.op = Op.call { callee := Callee.builtin Builtin.append, args := #[s, x], argTypes := #[26, 26] }) (base g n cap : Nat) (xs : List Value) (hs : a.eval s = .slice (some ⟨g, 0, none⟩) n cap) (hown : w.ownsRow base 3 1 (.slice (some ⟨g, 0, none⟩) n cap) n xs)
    (v : Value) (ys : List Int) (hxe : a.eval x = v) (hx : Sl w v ys) (b1 : n + ys.length ≤ 1000000) (b3 : base ≤ w.heap.size)
    (h : ∀ g' cap' w', w'.ownsRow base 3 1 (.slice (some ⟨g', 0, none⟩) (n + ys.length) cap') (n + ys.length) (xs ++ ys.map (Value.int .i64)) → w.grownBy w' (some g) → (g' = g ∨ g' = w.heap.size) → K (a.put o.dst (.slice (some ⟨g', 0, none⟩) (n + ys.length) cap')) w') :
    o.wp Try.prog a w K Q := by
  obtain ⟨g', cap', w', hr, h2, h3, h4⟩ := run_app w o.type base g n cap xs hown v ys hx b1 b3
  unfold Oper.wp execOp
  simp only [hop, resolve, invoke, builtin, Sem.run_bind, Sem.run_pure, Result.andThen_ok, List.map_toArray, List.map_cons, List.map_nil, hs, hxe, hr]
  exact h g' cap' w' h2 h3 h4

/-- what has become of 'x.F = append(append(append([]int{}, x.F[:i]...), y), x.F[i:]...)' -/
structure RowI (W : World) (D : Nat → Value → Prop) (a : Nat) (X1 : List Value) (y : Int) (n2 : Nat) (X2 : List Value) (Fin : World → Prop) (li : Nat → Bool) (xs : Nat → Value) (W1 : World) : Prop where
  det : ∀ i, li i = true → D i (xs i)
  bel : li 21 = false → Below W.heap.size W W1
  o1 : li 1 = true → li 8 = false → ∃ g cap, xs 1 = .slice (some ⟨g, 0, none⟩) 0 cap ∧ W1.ownsRow W.heap.size 3 1 (.slice (some ⟨g, 0, none⟩) 0 cap) 0 []
  o8 : li 8 = true → li 11 = false → ∃ g cap, xs 8 = .slice (some ⟨g, 0, none⟩) a cap ∧ W1.ownsRow W.heap.size 3 1 (.slice (some ⟨g, 0, none⟩) a cap) a X1
  t10 : li 10 = true → li 11 = false → ∃ g, xs 10 = .slice (some ⟨g, 0, none⟩) 1 1 ∧ W1.cell? ⟨g, 0, none⟩ = some (.int .i64 y) ∧ (li 1 = true → li 8 = false → some g ≠ (xs 1).ownBlock) ∧ (li 8 = true → some g ≠ (xs 8).ownBlock)
  o11 : li 11 = true → li 18 = false → ∃ g cap, xs 11 = .slice (some ⟨g, 0, none⟩) (a + 1) cap ∧ W1.ownsRow W.heap.size 3 1 (.slice (some ⟨g, 0, none⟩) (a + 1) cap) (a + 1) (X1 ++ [.int .i64 y])
  o18 : li 18 = true → li 21 = false → ∃ g cap, xs 18 = .slice (some ⟨g, 0, none⟩) (a + 1 + n2) cap ∧ W1.ownsRow W.heap.size 3 1 (.slice (some ⟨g, 0, none⟩) (a + 1 + n2) cap) (a + 1 + n2) (X1 ++ [.int .i64 y] ++ X2)
  c8 : li 8 = true → li 1 = true
  c11 : li 11 = true → li 8 = true ∧ li 10 = true
  c18 : li 18 = true → li 11 = true
  c21 : li 21 = true → ∀ i, i < 19 → li i = true
  fin : li 21 = true → Fin W1

section
variable {W : World} {D : Nat → Value → Prop} {a : Nat} {X1 : List Value} {y : Int} {n2 : Nat} {X2 : List Value} {Fin : World → Prop} {li : Nat → Bool} {xs : Nat → Value} {W1 : World}

theorem RowI.start : RowI W D a X1 y n2 X2 Fin (fun _ => false) xs W.drew :=
  ⟨fun _ h => (by cases h), fun _ => (Below.refl _ _).drew, fun h => (by cases h), fun h => (by cases h), fun h => (by cases h), fun h => (by cases h), fun h => (by cases h), fun h => (by cases h), fun h => (by cases h), fun h => (by cases h), fun h => (by cases h), fun h => (by cases h)⟩

theorem RowI.mark (h : RowI W D a X1 y n2 X2 Fin li xs W1) (i : Nat) (x : Value) (hf : D i x) (hi : i ≠ 1 ∧ i ≠ 8 ∧ i ≠ 10 ∧ i ≠ 11 ∧ i ≠ 18 ∧ i ≠ 21) : RowI W D a X1 y n2 X2 Fin (upd li i true) (upd xs i x) W1 := by
  obtain ⟨n1, n8, n10, n11, n18, n21⟩ := hi
  have e1 : upd li i true 1 = li 1 := upd_other _ _ (Ne.symm n1)
  have e8 : upd li i true 8 = li 8 := upd_other _ _ (Ne.symm n8)
  have e10 : upd li i true 10 = li 10 := upd_other _ _ (Ne.symm n10)
  have e11 : upd li i true 11 = li 11 := upd_other _ _ (Ne.symm n11)
  have e18 : upd li i true 18 = li 18 := upd_other _ _ (Ne.symm n18)
  have e21 : upd li i true 21 = li 21 := upd_other _ _ (Ne.symm n21)
  have x1 : upd xs i x 1 = xs 1 := upd_other _ _ (Ne.symm n1)
  have x8 : upd xs i x 8 = xs 8 := upd_other _ _ (Ne.symm n8)
  have x10 : upd xs i x 10 = xs 10 := upd_other _ _ (Ne.symm n10)
  have x11 : upd xs i x 11 = xs 11 := upd_other _ _ (Ne.symm n11)
  have x18 : upd xs i x 18 = xs 18 := upd_other _ _ (Ne.symm n18)
  have up : ∀ j, li j = true → upd li i true j = true := fun j hj => by
    unfold upd
    split
    · rfl
    · exact hj
  refine ⟨fun j hl => ?_, by rw [e21]; exact h.bel, by rw [e1, e8, x1]; exact h.o1, by rw [e8, e11, x8]; exact h.o8, by rw [e10, e11, e1, e8, x10, x1, x8]; exact h.t10, by rw [e11, e18, x11]; exact h.o11, by rw [e18, e21, x18]; exact h.o18, by rw [e8, e1]; exact h.c8, by rw [e11, e8, e10]; exact h.c11, by rw [e18, e11]; exact h.c18, by rw [e21]; exact fun hh k hk => up k (h.c21 hh k hk), by rw [e21]; exact h.fin⟩
  by_cases hji : j = i
  · subst hji; rw [upd_same]; exact hf
  · rw [upd_other _ _ hji] at hl ⊢; exact h.det j hl

theorem RowI.le (h : RowI W D a X1 y n2 X2 Fin li xs W1) (l21 : li 21 = false) : W.heap.size ≤ W1.heap.size := (h.bel l21).size
theorem own_lt {W1 : World} {b g n c : Nat} {ys : List Value} (h : W1.ownsRow b 3 1 (.slice (some ⟨g, 0, none⟩) n c) n ys) : g < W1.heap.size ∧ b ≤ g := ⟨(h.lt g rfl).2, (h.lt g rfl).1⟩
theorem RowI.detStep (h : RowI W D a X1 y n2 X2 Fin li xs W1) (i : Nat) (x : Value) (hf : D i x) : ∀ j, upd li i true j = true → D j (upd xs i x j) := fun j hl => by
  by_cases hji : j = i
  · subst hji; rw [upd_same]; exact hf
  · rw [upd_other _ _ hji] at hl ⊢; exact h.det j hl

/-- []int{} -/
theorem RowI.mk1 (h : RowI W D a X1 y n2 X2 Fin li xs W1) (hf : ∀ x, D 1 x) (l1 : li 1 = false) : RowI W D a X1 y n2 X2 Fin (upd li 1 true) (upd xs 1 (.slice (some ⟨W1.heap.size, 0, none⟩) 0 0)) (W1.alloc (.cells #[] 3)) := by
  have l8 : li 8 = false := not_on h.c8 l1
  have l11 : li 11 = false := not_on (fun hh => (h.c11 hh).1) l8
  have l18 : li 18 = false := not_on h.c18 l11
  have l21 : li 21 = false := not_on (fun hh => h.c21 hh 18 (by decide)) l18
  have hle := h.le l21
  have u' : ∀ j, j ≠ 1 → upd li 1 true j = li j := fun j hj => upd_other _ _ hj
  have x' : ∀ j, j ≠ 1 → upd xs 1 (.slice (some ⟨W1.heap.size, 0, none⟩) 0 0) j = xs j := fun j hj => upd_other _ _ hj
  refine ⟨h.detStep 1 _ (hf _), ?_, ?_, ?_, ?_, ?_, ?_, ?_, ?_, ?_, ?_, ?_⟩
  · rw [u' 21 (by decide)]; exact fun _ => (h.bel l21).alloc hle _
  · rw [upd_same]; exact fun _ _ => ⟨_, _, rfl, World.ownsRow_made W1 #[] 0 hle (by unfold maxLen; omega) (by simp)⟩
  · rw [u' 8 (by decide), l8]; intro hh; cases hh
  · rw [u' 10 (by decide), u' 11 (by decide), u' 8 (by decide), x' 10 (by decide), x' 8 (by decide), l8, upd_same, upd_same]
    intro h10 _
    obtain ⟨g, e, hc, _, _⟩ := h.t10 h10 l11
    refine ⟨g, e, cell_kept hc (World.grownBy_alloc W1 _ none) (fun r e => (by cases e)), fun _ _ e' => ?_, fun hh => (by cases hh)⟩
    have := block_lt_of_cell hc
    simp [Value.ownBlock] at e' this; omega
  · rw [u' 11 (by decide), l11]; intro hh; cases hh
  · rw [u' 18 (by decide), l18]; intro hh; cases hh
  · rw [u' 8 (by decide), l8]; intro hh; cases hh
  · rw [u' 11 (by decide), l11]; intro hh; cases hh
  · rw [u' 18 (by decide), l18]; intro hh; cases hh
  · rw [u' 21 (by decide), l21]; intro hh; cases hh
  · rw [u' 21 (by decide), l21]; intro hh; cases hh

/-- the one number's own slice -/
theorem RowI.mk10 (h : RowI W D a X1 y n2 X2 Fin li xs W1) (hf : ∀ x, D 10 x) (l10 : li 10 = false) : RowI W D a X1 y n2 X2 Fin (upd li 10 true) (upd xs 10 (.slice (some ⟨W1.heap.size, 0, none⟩) 1 1)) (W1.alloc (.cells #[.int .i64 y] 3)) := by
  have l11 : li 11 = false := not_on (fun hh => (h.c11 hh).2) l10
  have l18 : li 18 = false := not_on h.c18 l11
  have l21 : li 21 = false := not_on (fun hh => h.c21 hh 18 (by decide)) l18
  have hle := h.le l21
  have u' : ∀ j, j ≠ 10 → upd li 10 true j = li j := fun j hj => upd_other _ _ hj
  have x' : ∀ j, j ≠ 10 → upd xs 10 (.slice (some ⟨W1.heap.size, 0, none⟩) 1 1) j = xs j := fun j hj => upd_other _ _ hj
  refine ⟨h.detStep 10 _ (hf _), ?_, ?_, ?_, ?_, ?_, ?_, ?_, ?_, ?_, ?_, ?_⟩
  · rw [u' 21 (by decide)]; exact fun _ => (h.bel l21).alloc hle _
  · rw [u' 1 (by decide), u' 8 (by decide), x' 1 (by decide)]; exact fun h1 h8 => let ⟨g, cap, e, ho⟩ := h.o1 h1 h8; ⟨g, cap, e, ho.alloc _⟩
  · rw [u' 8 (by decide), u' 11 (by decide), x' 8 (by decide)]; exact fun h1 h8 => let ⟨g, cap, e, ho⟩ := h.o8 h1 h8; ⟨g, cap, e, ho.alloc _⟩
  · rw [upd_same, u' 1 (by decide), u' 8 (by decide), x' 1 (by decide), x' 8 (by decide)]
    intro _ _
    refine ⟨_, rfl, cell_new _ _ _ _, fun h1 h8 e' => ?_, fun h8 e' => ?_⟩
    · obtain ⟨g, cap, e, ho⟩ := h.o1 h1 h8
      rw [e] at e'; have := own_lt ho; simp [Value.ownBlock] at e'; omega
    · obtain ⟨g, cap, e, ho⟩ := h.o8 h8 l11
      rw [e] at e'; have := own_lt ho; simp [Value.ownBlock] at e'; omega
  · rw [u' 11 (by decide), l11]; intro hh; cases hh
  · rw [u' 18 (by decide), l18]; intro hh; cases hh
  · rw [u' 8 (by decide), u' 1 (by decide)]; exact h.c8
  · rw [u' 11 (by decide), l11]; intro hh; cases hh
  · rw [u' 18 (by decide), l18]; intro hh; cases hh
  · rw [u' 21 (by decide), l21]; intro hh; cases hh
  · rw [u' 21 (by decide), l21]; intro hh; cases hh

theorem RowI.app8 (h : RowI W D a X1 y n2 X2 Fin li xs W1) (hf : ∀ x, D 8 x) (l8 : li 8 = false) (l1 : li 1 = true) (g : Nat) (e1 : (xs 1).ownBlock = some g) (hgle : W.heap.size ≤ g) (g' cap' : Nat) (w' : World)
    (hown : w'.ownsRow W.heap.size 3 1 (.slice (some ⟨g', 0, none⟩) a cap') a X1) (hg : W1.grownBy w' (some g)) (hgf : g' = g ∨ g' = W1.heap.size) :
    RowI W D a X1 y n2 X2 Fin (upd li 8 true) (upd xs 8 (.slice (some ⟨g', 0, none⟩) a cap')) w' := by
  have l11 : li 11 = false := not_on (fun hh => (h.c11 hh).1) l8
  have l18 : li 18 = false := not_on h.c18 l11
  have l21 : li 21 = false := not_on (fun hh => h.c21 hh 18 (by decide)) l18
  have hle := h.le l21
  have u' : ∀ j, j ≠ 8 → upd li 8 true j = li j := fun j hj => upd_other _ _ hj
  have x' : ∀ j, j ≠ 8 → upd xs 8 (.slice (some ⟨g', 0, none⟩) a cap') j = xs j := fun j hj => upd_other _ _ hj
  refine ⟨h.detStep 8 _ (hf _), ?_, ?_, ?_, ?_, ?_, ?_, ?_, ?_, ?_, ?_, ?_⟩
  · rw [u' 21 (by decide)]; exact fun _ => (h.bel l21).grown hg hle (fun k e => by cases e; exact hgle)
  · intro _ hh; rw [upd_same] at hh; cases hh
  · rw [upd_same]; exact fun _ _ => ⟨_, _, rfl, hown⟩
  · rw [u' 10 (by decide), u' 11 (by decide), u' 1 (by decide), upd_same, x' 10 (by decide), x' 1 (by decide), upd_same]
    intro h10 _
    obtain ⟨g10, e, hc, r1, _⟩ := h.t10 h10 l11
    have hne := r1 l1 l8
    rw [e1] at hne
    refine ⟨g10, e, hg.cell hc hne, fun _ hh => (by cases hh), fun _ e' => ?_⟩
    have hlt := block_lt_of_cell hc
    rcases hgf with rfl | rfl
    · exact hne e'
    · simp [Value.ownBlock] at e' hlt; omega
  · rw [u' 11 (by decide), l11]; intro hh; cases hh
  · rw [u' 18 (by decide), l18]; intro hh; cases hh
  · rw [u' 1 (by decide)]; exact fun _ => l1
  · rw [u' 11 (by decide), l11]; intro hh; cases hh
  · rw [u' 18 (by decide), l18]; intro hh; cases hh
  · rw [u' 21 (by decide), l21]; intro hh; cases hh
  · rw [u' 21 (by decide), l21]; intro hh; cases hh

theorem RowI.app11 (h : RowI W D a X1 y n2 X2 Fin li xs W1) (hf : ∀ x, D 11 x) (l11 : li 11 = false) (l8 : li 8 = true) (l10 : li 10 = true) (g : Nat) (hgle : W.heap.size ≤ g) (g' cap' : Nat) (w' : World)
    (hown : w'.ownsRow W.heap.size 3 1 (.slice (some ⟨g', 0, none⟩) (a + 1) cap') (a + 1) (X1 ++ [.int .i64 y])) (hg : W1.grownBy w' (some g)) :
    RowI W D a X1 y n2 X2 Fin (upd li 11 true) (upd xs 11 (.slice (some ⟨g', 0, none⟩) (a + 1) cap')) w' := by
  have l18 : li 18 = false := not_on h.c18 l11
  have l21 : li 21 = false := not_on (fun hh => h.c21 hh 18 (by decide)) l18
  have hle := h.le l21
  have u' : ∀ j, j ≠ 11 → upd li 11 true j = li j := fun j hj => upd_other _ _ hj
  refine ⟨h.detStep 11 _ (hf _), ?_, ?_, ?_, ?_, ?_, ?_, ?_, ?_, ?_, ?_, ?_⟩
  · rw [u' 21 (by decide)]; exact fun _ => (h.bel l21).grown hg hle (fun k e => by cases e; exact hgle)
  · rw [u' 8 (by decide), l8]; intro _ hh; cases hh
  · intro _ hh; rw [upd_same] at hh; cases hh
  · intro _ hh; rw [upd_same] at hh; cases hh
  · rw [upd_same]; exact fun _ _ => ⟨_, _, rfl, hown⟩
  · rw [u' 18 (by decide), l18]; intro hh; cases hh
  · rw [u' 8 (by decide), u' 1 (by decide)]; exact h.c8
  · rw [u' 8 (by decide), u' 10 (by decide)]; exact fun _ => ⟨l8, l10⟩
  · rw [u' 18 (by decide), l18]; intro hh; cases hh
  · rw [u' 21 (by decide), l21]; intro hh; cases hh
  · rw [u' 21 (by decide), l21]; intro hh; cases hh

theorem RowI.app18 (h : RowI W D a X1 y n2 X2 Fin li xs W1) (hf : ∀ x, D 18 x) (l18 : li 18 = false) (l11 : li 11 = true) (g : Nat) (hgle : W.heap.size ≤ g) (g' cap' : Nat) (w' : World)
    (hown : w'.ownsRow W.heap.size 3 1 (.slice (some ⟨g', 0, none⟩) (a + 1 + n2) cap') (a + 1 + n2) (X1 ++ [.int .i64 y] ++ X2)) (hg : W1.grownBy w' (some g)) :
    RowI W D a X1 y n2 X2 Fin (upd li 18 true) (upd xs 18 (.slice (some ⟨g', 0, none⟩) (a + 1 + n2) cap')) w' := by
  have l21 : li 21 = false := not_on (fun hh => h.c21 hh 18 (by decide)) l18
  have l8 := (h.c11 l11).1
  have hle := h.le l21
  have u' : ∀ j, j ≠ 18 → upd li 18 true j = li j := fun j hj => upd_other _ _ hj
  refine ⟨h.detStep 18 _ (hf _), ?_, ?_, ?_, ?_, ?_, ?_, ?_, ?_, ?_, ?_, ?_⟩
  · rw [u' 21 (by decide)]; exact fun _ => (h.bel l21).grown hg hle (fun k e => by cases e; exact hgle)
  · rw [u' 8 (by decide), l8]; intro _ hh; cases hh
  · rw [u' 11 (by decide), l11]; intro _ hh; cases hh
  · rw [u' 11 (by decide), l11]; intro _ hh; cases hh
  · intro _ hh; rw [upd_same] at hh; cases hh
  · rw [upd_same]; exact fun _ _ => ⟨_, _, rfl, hown⟩
  · rw [u' 8 (by decide), u' 1 (by decide)]; exact h.c8
  · rw [u' 11 (by decide), u' 8 (by decide), u' 10 (by decide)]; exact h.c11
  · rw [u' 11 (by decide)]; exact fun _ => l11
  · rw [u' 21 (by decide), l21]; intro hh; cases hh
  · rw [u' 21 (by decide), l21]; intro hh; cases hh

theorem RowI.put21 (h : RowI W D a X1 y n2 X2 Fin li xs W1) (hf : ∀ x, D 21 x) (hall : ∀ i, i < 19 → li i = true) (x : Value) (w' : World) (hfin : Fin w') : RowI W D a X1 y n2 X2 Fin (upd li 21 true) (upd xs 21 x) w' := by
  have l18 := hall 18 (by decide)
  have l11 := h.c18 l18
  have l8 := (h.c11 l11).1
  have u' : ∀ j, j ≠ 21 → upd li 21 true j = li j := fun j hj => upd_other _ _ hj
  refine ⟨h.detStep 21 _ (hf _), ?_, ?_, ?_, ?_, ?_, ?_, ?_, ?_, ?_, ?_, fun _ => hfin⟩
  · intro hh; rw [upd_same] at hh; cases hh
  · rw [u' 8 (by decide), l8]; intro _ hh; cases hh
  · rw [u' 11 (by decide), l11]; intro _ hh; cases hh
  · rw [u' 11 (by decide), l11]; intro _ hh; cases hh
  · rw [u' 18 (by decide), l18]; intro _ hh; cases hh
  · intro _ hh; rw [upd_same] at hh; cases hh
  · rw [u' 8 (by decide), u' 1 (by decide)]; exact h.c8
  · rw [u' 11 (by decide), u' 8 (by decide), u' 10 (by decide)]; exact h.c11
  · rw [u' 18 (by decide), u' 11 (by decide)]; exact h.c18
  · exact fun _ i hi => by rw [u' i (by omega)]; exact hall i hi
end

theorem wpList_app {w : World} {ops : Array Oper} {rest : List Oper} {o : Oper} {a : Act} {Q : Exit → Act → World → Prop} (hgd : o.guard = none) (s x : Operand)
    (hop : o.op = Op.call { callee := Callee.builtin Builtin.append, args := #[s, x], argTypes := #[26, 26] }) (base g n cap : Nat) (xs : List Value) (hs : a.eval s = .slice (some ⟨g, 0, none⟩) n cap) (hown : w.ownsRow base 3 1 (.slice (some ⟨g, 0, none⟩) n cap) n xs)
    (v : Value) (ys : List Int) (hxe : a.eval x = v) (hx : Sl w v ys) (b1 : n + ys.length ≤ 1000000) (b3 : base ≤ w.heap.size)
    (h : ∀ g' cap' w', w'.ownsRow base 3 1 (.slice (some ⟨g', 0, none⟩) (n + ys.length) cap') (n + ys.length) (xs ++ ys.map (Value.int .i64)) → w.grownBy w' (some g) → (g' = g ∨ g' = w.heap.size) → wpList Try.prog ops Q rest (a.put o.dst (.slice (some ⟨g', 0, none⟩) (n + ys.length) cap')) w') :
    wpList Try.prog ops Q (o :: rest) a w :=
  wpList_plain hgd fun _ hK => wp_app s x hop base g n cap xs hs hown v ys hxe hx b1 b3 fun g' cap' w' h2 h3 h4 => hK _ _ (h g' cap' w' h2 h3 h4)

/-- the table with one of its rows turned -/
theorem heap_set0 {W : World} {b : Nat} {t : TypeId} {x y z : Value} (h : W.heap[b]? = some (.cells #[x, y] t (0, 0))) : (W.setCell ⟨b, 0, none⟩ z).heap[b]? = some (.cells #[z, y] t (0, 0)) := by
  obtain ⟨hlt, hk⟩ := Array.getElem?_eq_some_iff.1 h
  show (W.heap.modify b _)[b]? = _
  rw [Array.getElem?_eq_getElem (by rw [Array.size_modify]; exact hlt), Array.getElem_modify_self, hk]
  rfl
theorem heap_set1 {W : World} {b : Nat} {t : TypeId} {x y z : Value} (h : W.heap[b]? = some (.cells #[x, y] t (0, 0))) : (W.setCell ⟨b, 1, none⟩ z).heap[b]? = some (.cells #[x, z] t (0, 0)) := by
  obtain ⟨hlt, hk⟩ := Array.getElem?_eq_some_iff.1 h
  show (W.heap.modify b _)[b]? = _
  rw [Array.getElem?_eq_getElem (by rw [Array.size_modify]; exact hlt), Array.getElem_modify_self, hk]
  rfl

set_option maxHeartbeats 2000000 in
theorem place_any (rt : Nat) (l : List (Int × Int)) (k : Int) (w : World) (h : Ref w rt l) (hL : l.length ≤ 100000) :
    Calls Try.prog 41 #[.pointer (some ⟨rt, 0, none⟩), .int .i64 k] w fun e w' => e = .returned (.tuple #[.int .i64 (posL k l : Int), .bool (hereL k l)]) ∧ ∃ m, w' = w.drewN m := by
  obtain ⟨vk, vv, hb, hk, hv⟩ := h
  obtain ⟨av, cv, rfl, hcv⟩ := hk.form
  have hlen : (keysL l).length = l.length := by simp [keysL]
  have HV : Hid (∀ i x, (keysL l)[i]? = some x → ∃ g off, av = some ⟨g, off, none⟩ ∧ w.cell? ⟨g, off + i, none⟩ = some (.int .i64 x)) := hcv
  rw [hlen] at hb
  obtain ⟨c0, _, _, _⟩ := two_cells hb
  have hple := posL_le k l
  clear hk hv hcv hb hlen
  go_enter Try.func41, Try.ntmps41
  go_wp2
  go_loopw [6] (fun i wr => ∃ j : Nat, i = .int .i64 j ∧ j ≤ posL k l ∧ wr = w) (fun i _ => posL k l - (intOf i).toNat)
  case atStart => exact ⟨0, rfl, Nat.zero_le _, rfl⟩
  case round =>
    obtain ⟨j, rfl, hj, rfl⟩ := hrel
    by_cases hlt : j < posL k l
    · obtain ⟨e, he, hek⟩ := posL_lt hlt
      obtain ⟨g, off, rfl, hc⟩ := HV.out j e.1 (by unfold keysL; rw [List.getElem?_map, he]; rfl)
      have hjl : j < l.length := by omega
      clear he
      go_wp2
      go_roundw
      case rel => exact ⟨j + 1, by go_num, by omega, by first | rfl | trivial⟩
      case measure => simp [intOf]; omega
    · obtain rfl : j = posL k l := by omega
      by_cases hend : posL k l < l.length
      · obtain ⟨e, he⟩ : ∃ e, l[posL k l]? = some e := ⟨l[posL k l], List.getElem?_eq_getElem hend⟩
        have hek := posL_at he
        obtain ⟨g, off, rfl, hc⟩ := HV.out (posL k l) e.1 (by unfold keysL; rw [List.getElem?_map, he]; rfl)
        have hH : Hid (hereL k l = (e.1 == k)) := by show _ = _; unfold hereL; rw [he]
        clear he
        have HP0 : Hid (posL k l = posL k l) := rfl
        generalize hP : posL k l = P at *
        have HP : Hid (posL k l = P) := hP
        clear hP HP0
        have hd : decide ((P : Int) < (l.length : Int)) = true := by simp; omega
        go_wp2
        go_quiet (fail)
        go_wp2
        go_ret2
        exact ⟨by show Ending.returned (.tuple #[.int .i64 (P : Int), .bool (e.1 == k)]) = _; rw [hH.out, HP.out], _, rfl⟩
      · have hH : Hid (hereL k l = false) := by
          show _ = _
          unfold hereL
          rw [List.getElem?_eq_none (by omega)]
        have HP0 : Hid (posL k l = posL k l) := rfl
        generalize hP : posL k l = P at *
        have HP : Hid (posL k l = P) := hP
        clear hP HP0
        have hd : decide ((P : Int) < (l.length : Int)) = false := by simp; omega
        go_wp2
        go_quiet (fail)
        go_wp2
        go_ret2
        exact ⟨by show Ending.returned (.tuple #[.int .i64 (P : Int), .bool false]) = _; rw [hH.out, HP.out], _, rfl⟩

set_option maxHeartbeats 400000 in
theorem rFrom_any (rt : Nat) (l : List (Int × Int)) (k : Int) (w : World) (h : Ref w rt l) (hL : l.length ≤ 100000) :
    Calls Try.prog 29 #[.pointer (some ⟨rt, 0, none⟩), .int .i64 k] w fun e w' => e = .returned (.int .i64 (posL k l : Int)) ∧ ∃ m, w' = w.drewN m := by
  go_enter Try.func29, Try.ntmps29
  go_wp2_with fail
  refine (place_any rt l k w h hL).mono ?_
  rintro e w' ⟨rfl, m, rfl⟩
  go_wp2
  go_ret
  exact ⟨rfl, m, rfl⟩

set_option maxHeartbeats 1000000 in
theorem rGet_any (rt : Nat) (l : List (Int × Int)) (k : Int) (w : World) (h : Ref w rt l) (hL : l.length ≤ 100000) (hr : Rises l) :
    Calls Try.prog 28 #[.pointer (some ⟨rt, 0, none⟩), .int .i64 k] w fun e w' => e = .returned (.tuple #[.int .i64 ((lookL k l).getD 0), .bool (lookL k l).isSome]) ∧ ∃ m, w' = w.drewN m := by
  have hh := h
  obtain ⟨vk, vv, hb, hk, hv⟩ := hh
  obtain ⟨av, cv, rfl, hcv⟩ := hv.form
  have hlen : (valsL l).length = l.length := by simp [valsL]
  rw [hlen] at hb
  obtain ⟨_, c1, _, _⟩ := two_cells hb
  clear hk hv hb hlen
  cases hhere : hereL k l with
  | false =>
    have hlook : Hid (lookL k l = none) := by show _ = _; rw [look_here hr, hhere]; rfl
    go_enter Try.func28, Try.ntmps28
    go_wp2_with fail
    refine (place_any rt l k w h hL).mono ?_
    rintro e w' ⟨rfl, m, rfl⟩
    rw [hhere]
    clear hhere
    go_wp2
    go_ret2
    exact ⟨by show Ending.returned (.tuple #[.int .i64 0, .bool false]) = _; rw [hlook.out]; rfl, m, rfl⟩
  | true =>
    have hlt := here_lt hhere
    obtain ⟨e, he⟩ : ∃ e, l[posL k l]? = some e := ⟨l[posL k l], List.getElem?_eq_getElem hlt⟩
    have hlook : Hid (lookL k l = some e.2) := by show _ = _; rw [look_here hr, hhere, he]; rfl
    obtain ⟨g, off, rfl, hc⟩ := hcv (posL k l) e.2 (by unfold valsL; rw [List.getElem?_map, he]; rfl)
    clear hcv he
    go_enter Try.func28, Try.ntmps28
    go_wp2_with fail
    refine (place_any rt l k w h hL).mono ?_
    rintro e' w' ⟨rfl, m, rfl⟩
    rw [hhere]
    clear hhere
    generalize posL k l = P at *
    go_wp2
    go_ret2
    exact ⟨by show Ending.returned (.tuple #[.int .i64 e.2, .bool true]) = _; rw [hlook.out]; rfl, m, rfl⟩

theorem Ref.notNum {W : World} {rt : Nat} {l : List (Int × Int)} (h : Ref W rt l) : ∀ i x, W.cell? ⟨rt, i, none⟩ ≠ some (.int .i64 x) := by
  obtain ⟨vk, vv, hb, hk, hv⟩ := h
  intro i x e
  obtain ⟨a1, b1, rfl, _⟩ := hk.form
  obtain ⟨a2, b2, rfl, _⟩ := hv.form
  match i with
  | 0 => simp [World.cell?, hb] at e
  | 1 => simp [World.cell?, hb] at e
  | i + 2 => simp [World.cell?, hb] at e

theorem here_facts {W w1 : World} {rt : Nat} {vk vv : Value} {g' n P cap' : Nat} {zs : List Int} {z : Int} (hrt : rt < W.heap.size) (hb : W.heap[rt]? = some (.cells #[vk, vv] 28 (0, 0))) (hg : (W.alloc (.cells #[] 3)).grownBy w1 (some W.heap.size))
    (hown : w1.ownsRow W.heap.size 3 1 (.slice (some ⟨g', 0, none⟩) n cap') n (zs.map (Value.int .i64))) (hlt : P < n) (hz : zs[P]? = some z) :
    w1.heap[rt]? = some (.cells #[vk, vv] 28 (0, 0)) ∧ w1.cell? ⟨rt, 0, none⟩ = some vk ∧ w1.cell? ⟨rt, 1, none⟩ = some vv ∧ w1.frozen? ⟨rt, 0, none⟩ = false ∧ w1.frozen? ⟨rt, 1, none⟩ = false ∧ W.heap.size ≤ g' ∧ w1.cell? ⟨g', P, none⟩ = some (.int .i64 z) ∧ w1.frozen? ⟨g', P, none⟩ = false ∧ (¬ rt = g') ∧ ¬ g' = rt := by
  have hb1 : w1.heap[rt]? = some (.cells #[vk, vv] 28 (0, 0)) := ((hg.block rt (by simp; omega) (by simp; omega)).trans (Below.heap_alloc _ _ _ hrt)).trans hb
  obtain ⟨d0, d1, q0, q1⟩ := two_cells hb1
  have hgl := (own_lt hown).2
  exact ⟨hb1, d0, d1, q0, q1, hgl, (hown.cellAt P (by omega)).trans (by rw [List.getElem?_map, hz]; rfl), hown.frozenAt P, by omega, by omega⟩

set_option maxHeartbeats 1000000 in
theorem rSet_here (rt : Nat) (l : List (Int × Int)) (k v : Int) (w : World) (h : Ref w rt l) (hL : l.length ≤ 100000) (hhere : hereL k l = true) :
    Calls Try.prog 26 #[.pointer (some ⟨rt, 0, none⟩), .int .i64 k, .int .i64 v] w fun e w' => (∃ x, e = .returned x) ∧ Ref w' rt (insL k v l) ∧ Frm (· = rt) w w' := by
  have hlt := here_lt hhere
  have HI : Hid (insL k v l = l.set (posL k l) (k, v)) := insL_here hhere
  have HK : Hid (keysL (l.set (posL k l) (k, v)) = keysL l) := by
    show _ = _
    unfold keysL
    rw [List.map_set]
    obtain ⟨e, he⟩ : ∃ e, l[posL k l]? = some e := ⟨l[posL k l], List.getElem?_eq_getElem hlt⟩
    have hek : e.1 = k := by unfold hereL at hhere; rw [he] at hhere; simpa using hhere
    apply List.ext_getElem?
    intro i
    rw [List.getElem?_set]
    split
    · rename_i hi
      rw [← hi, List.getElem?_map, he]; simp [hek]; exact hlt
    · rfl
  have HV : Hid (valsL (l.set (posL k l) (k, v)) = (valsL l).set (posL k l) v) := by show _ = _; unfold valsL; rw [List.map_set]
  go_enter Try.func26, Try.ntmps26
  go_wp2_with fail
  refine (place_any rt l k w h hL).mono ?_
  rintro e w' ⟨rfl, m, rfl⟩
  rw [hhere]
  have hF0 : Frm (· = rt) w (w.drewN m) := (Frm.refl _ _).drewN m
  have hR : Ref (w.drewN m) rt l := h.grow (dn (Below.refl _ _) m)
  obtain ⟨W, hW⟩ : ∃ W, w.drewN m = W := ⟨_, rfl⟩
  rw [hW] at hF0 hR ⊢
  have hnn := hR.notNum
  obtain ⟨vk, vv, hb, hk, hv⟩ := hR
  have hrt := lt_of_heap hb
  obtain ⟨c0, c1, f0, f1⟩ := two_cells hb
  have hlenv : (valsL l).length = l.length := by simp [valsL]
  clear hW h hhere
  generalize hP : posL k l = P at *
  clear hP
  have hB1 : Below W.heap.size W (W.alloc (.cells #[] 3)) := (Below.refl _ _).alloc (Nat.le_refl _) _
  obtain ⟨z, hz⟩ : ∃ z, (valsL l)[P]? = some z := ⟨(valsL l)[P]'(by omega), List.getElem?_eq_getElem (by omega)⟩
  go_wp2_with (at_builtin; refine wpList_app rfl _ _ rfl W.heap.size W.heap.size 0 0 [] rfl (World.ownsRow_made W #[] 0 (Nat.le_refl _) (by unfold maxLen; omega) (by simp)) vv (valsL l) rfl (hv.grow hB1) (by omega) (by simp) ?_; intro g' cap' w1 hown hg hgf; rw [Nat.zero_add, List.nil_append, hlenv] at hown; obtain ⟨hb1, d0, d1, q0, q1, hgl, hc2, hf2, hne, hne2⟩ := here_facts hrt hb hg hown hlt hz; rw [Nat.zero_add, hlenv])
  refine bodyPost_ret (results_none rfl _ _ _) rfl ?_
  have hg0 : Below W.heap.size W w1 := hB1.trans ((Below.refl _ _).grown hg (by simp) (fun k e => by cases e; exact Nat.le_refl _))
  have hF1 : Frm (· = rt) W ((w1.setCell ⟨rt, 1, none⟩ (.slice (some ⟨g', 0, none⟩) l.length cap')).setCell ⟨g', P, none⟩ (.int .i64 v)) :=
    ⟨hg0.os, hg0.tape, hg0.output, by simpa [World.setCell] using hg0.size, fun j hj hn => by rw [Below.heap_setCell _ _ _ j (by simp; omega), Below.heap_setCell _ _ _ j hn]; exact hg0.block j hj⟩
  refine ⟨⟨_, rfl⟩, ?_, hF0.trans hF1⟩
  rw [HI.out]
  have hrow : (w1.setCell ⟨rt, 1, none⟩ (.slice (some ⟨g', 0, none⟩) l.length cap')).ownsRow W.heap.size 3 1 (.slice (some ⟨g', 0, none⟩) l.length cap') l.length ((valsL l).map (Value.int .i64)) := ownsRow_setCell_below hown hrt _
  have hrow2 := hrow.stored P (.int .i64 v)
  refine ⟨vk, .slice (some ⟨g', 0, none⟩) l.length cap', ?_, ?_, ?_⟩
  · rw [Below.heap_setCell _ _ _ rt (by simp; omega)]; exact heap_set1 hb1
  · rw [HK.out]
    exact hk.frmNum hF1 (fun j hj => by cases hj; exact hnn)
  · rw [HV.out]
    refine Sl.of_row (b := W.heap.size) (e := 3) ?_
    have := hrow2.1
    rw [List.map_set]
    simpa [List.length_set, hlenv] using this

end Go.Proofs.Ytgafmckiomhceaa
