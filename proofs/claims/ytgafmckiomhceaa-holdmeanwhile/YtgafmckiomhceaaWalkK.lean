/- The reference's Set of a new key, and its Del. For tables of up to 100000 entries. -/
import Derived.Test.YtgafmckiomhceaaWalkJ
namespace Go.Proofs.Ytgafmckiomhceaa
open Go.RowKit Go.Hold Go.Inv Go.Shelf

theorem notNum_of {W : World} {b : Nat} {t : TypeId} {a1 a2 : Option Addr} {n1 c1 n2 c2 : Nat} (hb : W.heap[b]? = some (.cells #[.slice a1 n1 c1, .slice a2 n2 c2] t (0, 0))) : ∀ i x, W.cell? ⟨b, i, none⟩ ≠ some (.int .i64 x) := by
  intro i x e
  match i with
  | 0 => simp [World.cell?, hb] at e
  | 1 => simp [World.cell?, hb] at e
  | i + 2 => simp [World.cell?, hb] at e
theorem keysL_new (l : List (Int × Int)) (p : Nat) (k v : Int) : keysL (l.take p ++ (k, v) :: l.drop p) = (keysL l).take p ++ k :: (keysL l).drop p := by simp [keysL, List.map_take, List.map_drop]
theorem valsL_new (l : List (Int × Int)) (p : Nat) (k v : Int) : valsL (l.take p ++ (k, v) :: l.drop p) = (valsL l).take p ++ v :: (valsL l).drop p := by simp [valsL, List.map_take, List.map_drop]
theorem row_sl {W : World} {b g cap p N2 : Nat} {A : List Int} {y : Int} (hp : p ≤ A.length) (hN : (A.drop p).length = N2) (h : W.ownsRow b 3 1 (.slice (some ⟨g, 0, none⟩) (p + 1 + N2) cap) (p + 1 + N2) ((A.take p).map (Value.int .i64) ++ [.int .i64 y] ++ (A.drop p).map (Value.int .i64))) :
    Sl W (.slice (some ⟨g, 0, none⟩) (p + 1 + N2) cap) (A.take p ++ y :: A.drop p) := by
  refine Sl.of_row (b := b) (e := 3) ?_
  have e : (A.take p ++ y :: A.drop p).length = p + 1 + N2 := by simp at hN ⊢; omega
  rw [e]
  simpa using h

/-- what has become of 'x.F = append(append([]int{}, x.F[:i]...), x.F[i+1:]...)' -/
structure DelI (W : World) (D : Nat → Value → Prop) (a : Nat) (X1 : List Value) (n2 : Nat) (X2 : List Value) (Fin : World → Prop) (li : Nat → Bool) (xs : Nat → Value) (W1 : World) : Prop where
  det : ∀ i, li i = true → D i (xs i)
  bel : li 19 = false → Below W.heap.size W W1
  o1 : li 1 = true → li 8 = false → ∃ g cap, xs 1 = .slice (some ⟨g, 0, none⟩) 0 cap ∧ W1.ownsRow W.heap.size 3 1 (.slice (some ⟨g, 0, none⟩) 0 cap) 0 []
  o8 : li 8 = true → li 16 = false → ∃ g cap, xs 8 = .slice (some ⟨g, 0, none⟩) a cap ∧ W1.ownsRow W.heap.size 3 1 (.slice (some ⟨g, 0, none⟩) a cap) a X1
  o16 : li 16 = true → li 19 = false → ∃ g cap, xs 16 = .slice (some ⟨g, 0, none⟩) (a + n2) cap ∧ W1.ownsRow W.heap.size 3 1 (.slice (some ⟨g, 0, none⟩) (a + n2) cap) (a + n2) (X1 ++ X2)
  c8 : li 8 = true → li 1 = true
  c16 : li 16 = true → li 8 = true
  c19 : li 19 = true → ∀ i, i < 17 → li i = true
  fin : li 19 = true → Fin W1

section
variable {W : World} {D : Nat → Value → Prop} {a : Nat} {X1 : List Value} {n2 : Nat} {X2 : List Value} {Fin : World → Prop} {li : Nat → Bool} {xs : Nat → Value} {W1 : World}

theorem DelI.start : DelI W D a X1 n2 X2 Fin (fun _ => false) xs W.drew :=
  ⟨fun _ h => (by cases h), fun _ => (Below.refl _ _).drew, fun h => (by cases h), fun h => (by cases h), fun h => (by cases h), fun h => (by cases h), fun h => (by cases h), fun h => (by cases h), fun h => (by cases h)⟩
theorem DelI.detStep (h : DelI W D a X1 n2 X2 Fin li xs W1) (i : Nat) (x : Value) (hf : D i x) : ∀ j, upd li i true j = true → D j (upd xs i x j) := fun j hl => by
  by_cases hji : j = i
  · subst hji; rw [upd_same]; exact hf
  · rw [upd_other _ _ hji] at hl ⊢; exact h.det j hl
theorem DelI.mark (h : DelI W D a X1 n2 X2 Fin li xs W1) (i : Nat) (x : Value) (hf : D i x) (hi : i ≠ 1 ∧ i ≠ 8 ∧ i ≠ 16 ∧ i ≠ 19) : DelI W D a X1 n2 X2 Fin (upd li i true) (upd xs i x) W1 := by
  obtain ⟨n1, n8, n16, n19⟩ := hi
  have e1 : upd li i true 1 = li 1 := upd_other _ _ (Ne.symm n1)
  have e8 : upd li i true 8 = li 8 := upd_other _ _ (Ne.symm n8)
  have e16 : upd li i true 16 = li 16 := upd_other _ _ (Ne.symm n16)
  have e19 : upd li i true 19 = li 19 := upd_other _ _ (Ne.symm n19)
  have x1 : upd xs i x 1 = xs 1 := upd_other _ _ (Ne.symm n1)
  have x8 : upd xs i x 8 = xs 8 := upd_other _ _ (Ne.symm n8)
  have x16 : upd xs i x 16 = xs 16 := upd_other _ _ (Ne.symm n16)
  have up : ∀ j, li j = true → upd li i true j = true := fun j hj => by
    unfold upd
    split
    · rfl
    · exact hj
  exact ⟨h.detStep i x hf, by rw [e19]; exact h.bel, by rw [e1, e8, x1]; exact h.o1, by rw [e8, e16, x8]; exact h.o8, by rw [e16, e19, x16]; exact h.o16, by rw [e8, e1]; exact h.c8, by rw [e16, e8]; exact h.c16, by rw [e19]; exact fun hh k hk => up k (h.c19 hh k hk), by rw [e19]; exact h.fin⟩
theorem DelI.mk1 (h : DelI W D a X1 n2 X2 Fin li xs W1) (hf : ∀ x, D 1 x) (l1 : li 1 = false) : DelI W D a X1 n2 X2 Fin (upd li 1 true) (upd xs 1 (.slice (some ⟨W1.heap.size, 0, none⟩) 0 0)) (W1.alloc (.cells #[] 3)) := by
  have l8 : li 8 = false := not_on h.c8 l1
  have l16 : li 16 = false := not_on h.c16 l8
  have l19 : li 19 = false := not_on (fun hh => h.c19 hh 16 (by decide)) l16
  have hle := (h.bel l19).size
  have u' : ∀ j, j ≠ 1 → upd li 1 true j = li j := fun j hj => upd_other _ _ hj
  refine ⟨h.detStep 1 _ (hf _), ?_, ?_, ?_, ?_, ?_, ?_, ?_, ?_⟩
  · rw [u' 19 (by decide)]; exact fun _ => (h.bel l19).alloc hle _
  · rw [upd_same]; exact fun _ _ => ⟨_, _, rfl, World.ownsRow_made W1 #[] 0 hle (by unfold maxLen; omega) (by simp)⟩
  · rw [u' 8 (by decide), l8]; intro hh; cases hh
  · rw [u' 16 (by decide), l16]; intro hh; cases hh
  · rw [u' 8 (by decide), l8]; intro hh; cases hh
  · rw [u' 16 (by decide), l16]; intro hh; cases hh
  · rw [u' 19 (by decide), l19]; intro hh; cases hh
  · rw [u' 19 (by decide), l19]; intro hh; cases hh
theorem DelI.app8 (h : DelI W D a X1 n2 X2 Fin li xs W1) (hf : ∀ x, D 8 x) (l8 : li 8 = false) (l1 : li 1 = true) (g : Nat) (hgle : W.heap.size ≤ g) (g' cap' : Nat) (w' : World)
    (hown : w'.ownsRow W.heap.size 3 1 (.slice (some ⟨g', 0, none⟩) a cap') a X1) (hg : W1.grownBy w' (some g)) : DelI W D a X1 n2 X2 Fin (upd li 8 true) (upd xs 8 (.slice (some ⟨g', 0, none⟩) a cap')) w' := by
  have l16 : li 16 = false := not_on h.c16 l8
  have l19 : li 19 = false := not_on (fun hh => h.c19 hh 16 (by decide)) l16
  have hle := (h.bel l19).size
  have u' : ∀ j, j ≠ 8 → upd li 8 true j = li j := fun j hj => upd_other _ _ hj
  refine ⟨h.detStep 8 _ (hf _), ?_, ?_, ?_, ?_, ?_, ?_, ?_, ?_⟩
  · rw [u' 19 (by decide)]; exact fun _ => (h.bel l19).grown hg hle (fun k e => by cases e; exact hgle)
  · intro _ hh; rw [upd_same] at hh; cases hh
  · rw [upd_same]; exact fun _ _ => ⟨_, _, rfl, hown⟩
  · rw [u' 16 (by decide), l16]; intro hh; cases hh
  · rw [u' 1 (by decide)]; exact fun _ => l1
  · rw [u' 16 (by decide), l16]; intro hh; cases hh
  · rw [u' 19 (by decide), l19]; intro hh; cases hh
  · rw [u' 19 (by decide), l19]; intro hh; cases hh
theorem DelI.app16 (h : DelI W D a X1 n2 X2 Fin li xs W1) (hf : ∀ x, D 16 x) (l16 : li 16 = false) (l8 : li 8 = true) (g : Nat) (hgle : W.heap.size ≤ g) (g' cap' : Nat) (w' : World)
    (hown : w'.ownsRow W.heap.size 3 1 (.slice (some ⟨g', 0, none⟩) (a + n2) cap') (a + n2) (X1 ++ X2)) (hg : W1.grownBy w' (some g)) : DelI W D a X1 n2 X2 Fin (upd li 16 true) (upd xs 16 (.slice (some ⟨g', 0, none⟩) (a + n2) cap')) w' := by
  have l19 : li 19 = false := not_on (fun hh => h.c19 hh 16 (by decide)) l16
  have hle := (h.bel l19).size
  have u' : ∀ j, j ≠ 16 → upd li 16 true j = li j := fun j hj => upd_other _ _ hj
  refine ⟨h.detStep 16 _ (hf _), ?_, ?_, ?_, ?_, ?_, ?_, ?_, ?_⟩
  · rw [u' 19 (by decide)]; exact fun _ => (h.bel l19).grown hg hle (fun k e => by cases e; exact hgle)
  · rw [u' 8 (by decide), l8]; intro _ hh; cases hh
  · intro _ hh; rw [upd_same] at hh; cases hh
  · rw [upd_same]; exact fun _ _ => ⟨_, _, rfl, hown⟩
  · rw [u' 8 (by decide), u' 1 (by decide)]; exact h.c8
  · rw [u' 8 (by decide)]; exact fun _ => l8
  · rw [u' 19 (by decide), l19]; intro hh; cases hh
  · rw [u' 19 (by decide), l19]; intro hh; cases hh
theorem DelI.put19 (h : DelI W D a X1 n2 X2 Fin li xs W1) (hf : ∀ x, D 19 x) (hall : ∀ i, i < 17 → li i = true) (x : Value) (w' : World) (hfin : Fin w') : DelI W D a X1 n2 X2 Fin (upd li 19 true) (upd xs 19 x) w' := by
  have l16 := hall 16 (by decide)
  have l8 := h.c16 l16
  have u' : ∀ j, j ≠ 19 → upd li 19 true j = li j := fun j hj => upd_other _ _ hj
  refine ⟨h.detStep 19 _ (hf _), ?_, ?_, ?_, ?_, ?_, ?_, ?_, fun _ => hfin⟩
  · intro hh; rw [upd_same] at hh; cases hh
  · rw [u' 8 (by decide), l8]; intro _ hh; cases hh
  · rw [u' 16 (by decide), l16]; intro _ hh; cases hh
  · intro _ hh; rw [upd_same] at hh; cases hh
  · rw [u' 8 (by decide), u' 1 (by decide)]; exact h.c8
  · rw [u' 16 (by decide), u' 8 (by decide)]; exact h.c16
  · exact fun _ i hi => by rw [u' i (by omega)]; exact hall i hi
end
theorem keysL_del (l : List (Int × Int)) (p : Nat) : keysL (l.take p ++ l.drop (p + 1)) = (keysL l).take p ++ (keysL l).drop (p + 1) := by simp [keysL, List.map_take, List.map_drop]
theorem valsL_del (l : List (Int × Int)) (p : Nat) : valsL (l.take p ++ l.drop (p + 1)) = (valsL l).take p ++ (valsL l).drop (p + 1) := by simp [valsL, List.map_take, List.map_drop]
theorem row_slD {W : World} {b g cap p N2 : Nat} {A : List Int} (hp : p < A.length) (hN : (A.drop (p + 1)).length = N2) (h : W.ownsRow b 3 1 (.slice (some ⟨g, 0, none⟩) (p + N2) cap) (p + N2) ((A.take p).map (Value.int .i64) ++ (A.drop (p + 1)).map (Value.int .i64))) :
    Sl W (.slice (some ⟨g, 0, none⟩) (p + N2) cap) (A.take p ++ A.drop (p + 1)) := by
  refine Sl.of_row (b := b) (e := 3) ?_
  have e : (A.take p ++ A.drop (p + 1)).length = p + N2 := by simp at hN ⊢; omega
  rw [e]
  simpa using h

set_option maxRecDepth 100000 in
set_option maxHeartbeats 4000000 in
theorem rSet_new (rt : Nat) (l : List (Int × Int)) (k v : Int) (w : World) (h : Ref w rt l) (hL : l.length ≤ 100000) (hhere : hereL k l = false) :
    Calls Try.prog 26 #[.pointer (some ⟨rt, 0, none⟩), .int .i64 k, .int .i64 v] w fun e w' => (∃ x, e = .returned x) ∧ Ref w' rt (insL k v l) ∧ Frm (· = rt) w w' := by
  have HI : Hid (insL k v l = l.take (posL k l) ++ (k, v) :: l.drop (posL k l)) := insL_new hhere
  have hple := posL_le k l
  go_enter Try.func26, Try.ntmps26
  go_wp2_with fail
  refine (place_any rt l k w h hL).mono ?_
  rintro e w' ⟨rfl, m, rfl⟩
  rw [hhere]
  have hF0 : Frm (· = rt) w (w.drewN m) := (Frm.refl _ _).drewN m
  have hR : Ref (w.drewN m) rt l := h.grow (dn (Below.refl _ _) m)
  obtain ⟨W, hW⟩ : ∃ W, w.drewN m = W := ⟨_, rfl⟩
  rw [hW] at hF0 hR ⊢
  have hnn := hR.notNum
  obtain ⟨vk, vv, hb, hk, hv⟩ := hR
  have hrt := lt_of_heap hb
  obtain ⟨c0, c1, _, _⟩ := two_cells hb
  have hlenk : (keysL l).length = l.length := by simp [keysL]
  have hlenv : (valsL l).length = l.length := by simp [valsL]
  clear hW h hhere
  generalize posL k l = P at *
  obtain ⟨KL, hKL⟩ : ∃ KL, keysL l = KL := ⟨_, rfl⟩
  obtain ⟨VL, hVL⟩ : ∃ VL, valsL l = VL := ⟨_, rfl⟩
  have HKL : Hid (keysL l = KL) := hKL
  have HVL : Hid (valsL l = VL) := hVL
  rw [hKL] at hk hlenk
  rw [hVL] at hv hlenv
  clear hKL hVL
  obtain ⟨N2, hN2⟩ : ∃ N2, (KL.drop P).length = N2 := ⟨_, rfl⟩
  have HN2 : Hid ((KL.drop P).length = N2) := hN2
  have HN3 : Hid ((VL.drop P).length = N2) := by show _ = _; rw [← hN2]; simp; omega
  have hle1 : KL.length ≤ 100000 ∧ VL.length ≤ 100000 := ⟨by omega, by omega⟩
  have htk := hk.take
  have hPle : P ≤ KL.length := by omega
  have hPle2 : P ≤ VL.length := by omega
  clear hN2 hlenk hlenv
  go_wp2
  refine wp_region_steps (by kernel_rfl) (by kernel_rfl) (fun xs => { tmps := (Value.pointer (some (⟨rt, 0, none⟩ : Addr)) :: Value.int IntKind.i64 k :: Value.int IntKind.i64 v :: undef :: undef :: undef :: Value.int IntKind.i64 (P : Int) :: Value.bool false :: Value.tuple #[Value.int IntKind.i64 (P : Int), Value.bool false] :: Value.pointer (some (⟨rt, 0, none⟩ : Addr)) :: Value.int IntKind.i64 k :: Value.tuple #[Value.int IntKind.i64 (P : Int), Value.bool false] :: Value.int IntKind.i64 (P : Int) :: Value.bool false :: Value.bool false :: undef :: undef :: undef :: undef :: undef :: undef :: undef :: undef :: undef :: undef :: undef :: undef :: undef :: undef :: undef :: undef :: xs 0 :: xs 1 :: xs 2 :: xs 3 :: xs 4 :: xs 5 :: xs 6 :: xs 7 :: xs 8 :: xs 9 :: xs 10 :: xs 11 :: xs 12 :: xs 13 :: xs 14 :: xs 15 :: xs 16 :: xs 17 :: xs 18 :: xs 19 :: xs 20 :: undef :: undef :: undef :: undef :: undef :: undef :: undef :: undef :: undef :: undef :: undef :: undef :: undef :: undef :: undef :: undef :: undef :: undef :: undef :: undef :: undef :: []).toArray, defers := [] })
    (fun li xs W1 => RowI W (fun ii zz => match ii with | 0 => zz = .pointer (some ⟨rt, 0, none⟩) | 2 => zz = .pointer (some ⟨rt, 0, none⟩) | 3 => zz = .pointer (some ⟨rt, 0, none⟩) | 4 => zz = .pointer (some ⟨rt, 0, none⟩) | 5 => zz = vk | 6 => zz = .int .i64 (P : Int) | 7 => Sl W zz (KL.take P) | 9 => zz = .int .i64 k | 12 => zz = .pointer (some ⟨rt, 0, none⟩) | 13 => zz = .pointer (some ⟨rt, 0, none⟩) | 14 => zz = .pointer (some ⟨rt, 0, none⟩) | 15 => zz = vk | 16 => zz = .int .i64 (P : Int) | 17 => Sl W zz (KL.drop P) | 19 => zz = .pointer (some ⟨rt, 0, none⟩) | 20 => zz = .pointer (some ⟨rt, 0, none⟩) | _ => True) P ((KL.take P).map (Value.int .i64)) k N2 ((KL.drop P).map (Value.int .i64)) (fun W' => ∃ g cap, W'.heap[rt]? = some (.cells #[.slice (some ⟨g, 0, none⟩) (P + 1 + N2) cap, vv] 28 (0, 0)) ∧ W'.ownsRow W.heap.size 3 1 (.slice (some ⟨g, 0, none⟩) (P + 1 + N2) cap) (P + 1 + N2) ((KL.take P).map (Value.int .i64) ++ [.int .i64 k] ++ (KL.drop P).map (Value.int .i64)) ∧ Frm (· = rt) W W') li xs W1) (fun | _ => undef) (by repeat (first | exact trivial | refine ⟨fun _ _ => rfl, ?_⟩)) RowI.start ⟨?_, ?_, ?_, ?_, ?_, ?_, ?_, ?_, ?_, ?_, ?_, ?_, ?_, ?_, ?_, ?_, ?_, ?_, ?_, ?_, ?_, ?_, trivial⟩ ?_
  · intro li xs W1 hI hli hp K hK
    clear hp
    go_simp
    exact hK _ _ (hI.mark 0 _ rfl (by decide))
  · intro li xs W1 hI hli hp K hK
    clear hp
    go_simp
    exact hK _ _ (hI.mk1 (fun _ => trivial) hli)
  · intro li xs W1 hI hli hp K hK
    clear hp
    go_simp
    exact hK _ _ (hI.mark 2 _ rfl (by decide))
  · intro li xs W1 hI hli hp K hK
    have h2 : xs 2 = .pointer (some ⟨rt, 0, none⟩) := hI.det 2 (hp.1 rfl)
    simp only [h2] at hK
    clear hp
    go_simp
    exact hK _ _ (hI.mark 3 _ rfl (by decide))
  · intro li xs W1 hI hli hp K hK
    have h3 : xs 3 = .pointer (some ⟨rt, 0, none⟩) := hI.det 3 (hp.1 rfl)
    simp only [h3] at hK
    clear hp
    go_simp
    exact hK _ _ (hI.mark 4 _ rfl (by decide))
  · intro li xs W1 hI hli hp K hK
    have h4 : xs 4 = .pointer (some ⟨rt, 0, none⟩) := hI.det 4 (hp.1 rfl)
    have l21 : li 21 = false := not_on (fun hh => hI.c21 hh 5 (by decide)) hli
    have cc := ((hI.bel l21).cell (p := ⟨rt, 0, none⟩) hrt).trans c0
    simp only [h4] at hK
    clear hp
    go_simp
    exact hK _ _ (hI.mark 5 _ rfl (by decide))
  · intro li xs W1 hI hli hp K hK
    clear hp
    go_simp
    exact hK _ _ (hI.mark 6 _ rfl (by decide))
  · intro li xs W1 hI hli hp K hK
    have h5 : xs 5 = vk := hI.det 5 (hp.1 rfl)
    have h6 : xs 6 = .int .i64 (P : Int) := hI.det 6 (hp.2.1 rfl)
    clear hp
    rcases htk with ⟨e, hA⟩ | ⟨g, off, cap, e, hcap, ht, hd⟩
    · rw [e] at h5
      have hsl : Sl W (.slice none 0 0) (KL.take P) := .inl ⟨rfl, by rw [hA]; simp⟩
      obtain rfl : P = 0 := by rw [hA] at hPle; simpa using hPle
      simp only [h5, h6] at hK
      clear hA e
      go_simp
      exact hK _ _ (hI.mark 7 _ hsl (by decide))
    · rw [e] at h5
      have hPc : P ≤ cap := by omega
      have hsl := ht P hPle
      simp only [h5, h6] at hK
      clear e ht hd
      go_simp
      exact hK _ _ (hI.mark 7 _ hsl (by decide))
  · intro li xs W1 hI hli hp K hK
    have l1 : li 1 = true := hp.1 rfl
    have l7 : li 7 = true := hp.2.1 rfl
    have l21 : li 21 = false := not_on (fun hh => hI.c21 hh 8 (by decide)) hli
    obtain ⟨g1, cap1, e1, ho1⟩ := hI.o1 l1 hli
    have h7 : Sl W (xs 7) (KL.take P) := hI.det 7 l7
    have hln : (KL.take P).length = P := by simp; omega
    rw [if_pos (wanted_none rfl _)]
    refine wp_app _ _ rfl W.heap.size g1 0 cap1 [] (by simpa [Act.eval] using e1) ho1 (xs 7) (KL.take P) rfl (h7.grow (hI.bel l21)) (by omega) (hI.bel l21).size ?_
    intro g' cap' w' hown hg hgf
    rw [Nat.zero_add, List.nil_append, hln] at hown
    rw [Nat.zero_add, hln]
    exact hK _ _ (hI.app8 (fun _ => trivial) hli l1 g1 (by rw [e1]; rfl) (own_lt ho1).2 g' cap' w' hown hg hgf)
  · intro li xs W1 hI hli hp K hK
    clear hp
    go_simp
    exact hK _ _ (hI.mark 9 _ rfl (by decide))
  · intro li xs W1 hI hli hp K hK
    have h9 : xs 9 = .int .i64 k := hI.det 9 (hp.1 rfl)
    simp only [h9] at hK
    clear hp
    go_simp
    exact hK _ _ (hI.mk10 (fun _ => trivial) hli)
  · intro li xs W1 hI hli hp K hK
    have l8 : li 8 = true := hp.1 rfl
    have l10 : li 10 = true := hp.2.1 rfl
    have l21 : li 21 = false := not_on (fun hh => hI.c21 hh 11 (by decide)) hli
    obtain ⟨g8, cap8, e8, ho8⟩ := hI.o8 l8 hli
    obtain ⟨g10, e10, hc10, _, _⟩ := hI.t10 l10 hli
    have hsl : Sl W1 (xs 10) [k] := .inr ⟨g10, 0, 1, e10, by simp, fun i x hx => by
      match i, hx with
      | 0, hx => simp at hx; subst hx; exact hc10
      | i + 1, hx => simp at hx⟩
    rw [if_pos (wanted_none rfl _)]
    refine wp_app _ _ rfl W.heap.size g8 P cap8 _ (by simpa [Act.eval] using e8) ho8 (xs 10) [k] rfl hsl (by simp; omega) (hI.bel l21).size ?_
    intro g' cap' w' hown hg hgf
    exact hK _ _ (hI.app11 (fun _ => trivial) hli l8 l10 g8 (own_lt ho8).2 g' cap' w' hown hg)
  · intro li xs W1 hI hli hp K hK
    clear hp
    go_simp
    exact hK _ _ (hI.mark 12 _ rfl (by decide))
  · intro li xs W1 hI hli hp K hK
    have h12 : xs 12 = .pointer (some ⟨rt, 0, none⟩) := hI.det 12 (hp.1 rfl)
    simp only [h12] at hK
    clear hp
    go_simp
    exact hK _ _ (hI.mark 13 _ rfl (by decide))
  · intro li xs W1 hI hli hp K hK
    have h13 : xs 13 = .pointer (some ⟨rt, 0, none⟩) := hI.det 13 (hp.1 rfl)
    simp only [h13] at hK
    clear hp
    go_simp
    exact hK _ _ (hI.mark 14 _ rfl (by decide))
  · intro li xs W1 hI hli hp K hK
    have h14 : xs 14 = .pointer (some ⟨rt, 0, none⟩) := hI.det 14 (hp.1 rfl)
    have l21 : li 21 = false := not_on (fun hh => hI.c21 hh 15 (by decide)) hli
    have cc := ((hI.bel l21).cell (p := ⟨rt, 0, none⟩) hrt).trans c0
    simp only [h14] at hK
    clear hp
    go_simp
    exact hK _ _ (hI.mark 15 _ rfl (by decide))
  · intro li xs W1 hI hli hp K hK
    clear hp
    go_simp
    exact hK _ _ (hI.mark 16 _ rfl (by decide))
  · intro li xs W1 hI hli hp K hK
    have h15 : xs 15 = vk := hI.det 15 (hp.1 rfl)
    have h16 : xs 16 = .int .i64 (P : Int) := hI.det 16 (hp.2.1 rfl)
    clear hp
    rcases htk with ⟨e, hA⟩ | ⟨g, off, cap, e, hcap, ht, hd⟩
    · rw [e] at h15
      have hsl : Sl W (.slice none 0 0) (KL.drop P) := .inl ⟨rfl, by rw [hA]; simp⟩
      obtain rfl : P = 0 := by rw [hA] at hPle; simpa using hPle
      simp only [h15, h16] at hK
      clear hA e
      go_simp
      exact hK _ _ (hI.mark 17 _ hsl (by decide))
    · rw [e] at h15
      by_cases hcp : cap = P
      · have hgen : ∀ mm cc, mm = KL.length - P → Sl W (.slice (some ⟨g, off, none⟩) mm cc) (KL.drop P) := fun mm cc hm => .inr ⟨g, off, cc, by rw [hm]; simp, by simp; omega, fun i x hx => by rw [List.getElem?_drop, List.getElem?_eq_none (by omega)] at hx; cases hx⟩
        clear e ht hd
        subst hcp
        simp only [h15, h16] at hK
        go_simp
        refine hK _ _ (hI.mark 17 _ (hgen _ _ ?_) (by decide))
        omega
      · have hsl := hd P (cap - P) hPle (by omega)
        simp only [h15, h16] at hK
        clear e ht hd
        go_simp
        exact hK _ _ (hI.mark 17 _ hsl (by decide))
  · intro li xs W1 hI hli hp K hK
    have l11 : li 11 = true := hp.1 rfl
    have l17 : li 17 = true := hp.2.1 rfl
    have l21 : li 21 = false := not_on (fun hh => hI.c21 hh 18 (by decide)) hli
    obtain ⟨g11, cap11, e11, ho11⟩ := hI.o11 l11 hli
    have h17 : Sl W (xs 17) (KL.drop P) := hI.det 17 l17
    rw [if_pos (wanted_none rfl _)]
    refine wp_app _ _ rfl W.heap.size g11 (P + 1) cap11 _ (by simpa [Act.eval] using e11) ho11 (xs 17) (KL.drop P) rfl (h17.grow (hI.bel l21)) (by simp; omega) (hI.bel l21).size ?_
    intro g' cap' w' hown hg hgf
    rw [HN2.out] at hown ⊢
    exact hK _ _ (hI.app18 (fun _ => trivial) hli l11 g11 (own_lt ho11).2 g' cap' w' hown hg)
  · intro li xs W1 hI hli hp K hK
    have h0 : xs 0 = .pointer (some ⟨rt, 0, none⟩) := hI.det 0 (hp.1 rfl)
    simp only [h0] at hK
    clear hp
    go_simp
    exact hK _ _ (hI.mark 19 _ rfl (by decide))
  · intro li xs W1 hI hli hp K hK
    have h19 : xs 19 = .pointer (some ⟨rt, 0, none⟩) := hI.det 19 (hp.1 rfl)
    simp only [h19] at hK
    clear hp
    go_simp
    exact hK _ _ (hI.mark 20 _ rfl (by decide))
  · intro li xs W1 hI hli hp K hK
    have hall : ∀ i, i < 19 → li i = true := fun i hi => by
      match i, hi with
      | 0, _ => exact hp.2.2.2.1 rfl
      | 1, _ => exact hp.2.2.2.2.1 rfl
      | 2, _ => exact hp.2.2.2.2.2.1 rfl
      | 3, _ => exact hp.2.2.2.2.2.2.1 rfl
      | 4, _ => exact hp.2.2.2.2.2.2.2.1 rfl
      | 5, _ => exact hp.2.2.2.2.2.2.2.2.1 rfl
      | 6, _ => exact hp.2.2.2.2.2.2.2.2.2.1 rfl
      | 7, _ => exact hp.2.2.2.2.2.2.2.2.2.2.1 rfl
      | 8, _ => exact hp.2.2.2.2.2.2.2.2.2.2.2.1 rfl
      | 9, _ => exact hp.2.2.2.2.2.2.2.2.2.2.2.2.1 rfl
      | 10, _ => exact hp.2.2.2.2.2.2.2.2.2.2.2.2.2.1 rfl
      | 11, _ => exact hp.2.2.2.2.2.2.2.2.2.2.2.2.2.2.1 rfl
      | 12, _ => exact hp.2.2.2.2.2.2.2.2.2.2.2.2.2.2.2.1 rfl
      | 13, _ => exact hp.2.2.2.2.2.2.2.2.2.2.2.2.2.2.2.2.1 rfl
      | 14, _ => exact hp.2.2.2.2.2.2.2.2.2.2.2.2.2.2.2.2.2.1 rfl
      | 15, _ => exact hp.2.2.2.2.2.2.2.2.2.2.2.2.2.2.2.2.2.2.1 rfl
      | 16, _ => exact hp.2.2.2.2.2.2.2.2.2.2.2.2.2.2.2.2.2.2.2.1 rfl
      | 17, _ => exact hp.2.2.2.2.2.2.2.2.2.2.2.2.2.2.2.2.2.2.2.2.1 rfl
      | 18, _ => exact hp.2.1 rfl
      | i + 19, h => exact absurd h (by omega)
    have l20 : li 20 = true := hp.1 rfl
    have l18 : li 18 = true := hall 18 (by decide)
    have h20 : xs 20 = .pointer (some ⟨rt, 0, none⟩) := hI.det 20 l20
    obtain ⟨g18, cap18, h18, ho18⟩ := hI.o18 l18 hli
    have hbel := hI.bel hli
    have hb1 := (hbel.block rt hrt).trans hb
    obtain ⟨d0, d1, q0, q1⟩ := two_cells hb1
    simp only [h20, h18] at hK
    clear hp l20 l18
    have hput := hI.put21 (fun _ => trivial) hall undef (W1.setCell ⟨rt, 0, none⟩ (.slice (some ⟨g18, 0, none⟩) (P + 1 + N2) cap18)) ⟨g18, cap18, heap_set0 hb1, ownsRow_setCell_below ho18 hrt _, (Frm.of_below hbel).trans (Frm.setCell W1 rt 0 _)⟩
    go_simp
    exact hK _ _ hput
  · intro li0 xs0 W2 hI hall
    obtain ⟨g1, cap1, hb2, hrow, hF1⟩ := hI.fin (hall 21 (by simp))
    clear hI hall
    have hsl := row_sl hPle HN2.out hrow
    have hv2 : Sl W2 vv VL := hv.frmNum hF1 (fun j hj => by cases hj; exact hnn)
    clear hk htk hrow hv hb c0 c1
    have hrt0 := hrt
    replace hrt := lt_of_heap hb2
    obtain ⟨c0, c1, _, _⟩ := two_cells hb2
    replace hb := hb2
    have htk := hv2.take
    replace hPle := hPle2
    replace HN2 := HN3
    go_wp2
    refine wp_region_steps (by kernel_rfl) (by kernel_rfl) (fun xs => { tmps := (Value.pointer (some (⟨rt, 0, none⟩ : Addr)) :: Value.int IntKind.i64 k :: Value.int IntKind.i64 v :: undef :: undef :: undef :: Value.int IntKind.i64 (P : Int) :: Value.bool false :: Value.tuple #[Value.int IntKind.i64 (P : Int), Value.bool false] :: Value.pointer (some (⟨rt, 0, none⟩ : Addr)) :: Value.int IntKind.i64 k :: Value.tuple #[Value.int IntKind.i64 (P : Int), Value.bool false] :: Value.int IntKind.i64 (P : Int) :: Value.bool false :: Value.bool false :: undef :: undef :: undef :: undef :: undef :: undef :: undef :: undef :: undef :: undef :: undef :: undef :: undef :: undef :: undef :: undef :: xs0 0 :: xs0 1 :: xs0 2 :: xs0 3 :: xs0 4 :: xs0 5 :: xs0 6 :: xs0 7 :: xs0 8 :: xs0 9 :: xs0 10 :: xs0 11 :: xs0 12 :: xs0 13 :: xs0 14 :: xs0 15 :: xs0 16 :: xs0 17 :: xs0 18 :: xs0 19 :: xs0 20 :: xs 0 :: xs 1 :: xs 2 :: xs 3 :: xs 4 :: xs 5 :: xs 6 :: xs 7 :: xs 8 :: xs 9 :: xs 10 :: xs 11 :: xs 12 :: xs 13 :: xs 14 :: xs 15 :: xs 16 :: xs 17 :: xs 18 :: xs 19 :: xs 20 :: []).toArray, defers := [] })
      (fun li xs W1 => RowI W2 (fun ii zz => match ii with | 0 => zz = .pointer (some ⟨rt, 0, none⟩) | 2 => zz = .pointer (some ⟨rt, 0, none⟩) | 3 => zz = .pointer (some ⟨rt, 0, none⟩) | 4 => zz = .pointer (some ⟨rt, 1, none⟩) | 5 => zz = vv | 6 => zz = .int .i64 (P : Int) | 7 => Sl W2 zz (VL.take P) | 9 => zz = .int .i64 v | 12 => zz = .pointer (some ⟨rt, 0, none⟩) | 13 => zz = .pointer (some ⟨rt, 0, none⟩) | 14 => zz = .pointer (some ⟨rt, 1, none⟩) | 15 => zz = vv | 16 => zz = .int .i64 (P : Int) | 17 => Sl W2 zz (VL.drop P) | 19 => zz = .pointer (some ⟨rt, 0, none⟩) | 20 => zz = .pointer (some ⟨rt, 1, none⟩) | _ => True) P ((VL.take P).map (Value.int .i64)) v N2 ((VL.drop P).map (Value.int .i64)) (fun W' => ∃ g cap, W'.heap[rt]? = some (.cells #[.slice (some ⟨g1, 0, none⟩) (P + 1 + N2) cap1, .slice (some ⟨g, 0, none⟩) (P + 1 + N2) cap] 28 (0, 0)) ∧ W'.ownsRow W2.heap.size 3 1 (.slice (some ⟨g, 0, none⟩) (P + 1 + N2) cap) (P + 1 + N2) ((VL.take P).map (Value.int .i64) ++ [.int .i64 v] ++ (VL.drop P).map (Value.int .i64)) ∧ Frm (· = rt) W2 W') li xs W1) (fun | _ => undef) (by repeat (first | exact trivial | refine ⟨fun _ _ => rfl, ?_⟩)) RowI.start ⟨?_, ?_, ?_, ?_, ?_, ?_, ?_, ?_, ?_, ?_, ?_, ?_, ?_, ?_, ?_, ?_, ?_, ?_, ?_, ?_, ?_, ?_, trivial⟩ ?_
    · intro li xs W1 hI hli hp K hK
      clear hp
      go_simp
      exact hK _ _ (hI.mark 0 _ rfl (by decide))
    · intro li xs W1 hI hli hp K hK
      clear hp
      go_simp
      exact hK _ _ (hI.mk1 (fun _ => trivial) hli)
    · intro li xs W1 hI hli hp K hK
      clear hp
      go_simp
      exact hK _ _ (hI.mark 2 _ rfl (by decide))
    · intro li xs W1 hI hli hp K hK
      have h2 : xs 2 = .pointer (some ⟨rt, 0, none⟩) := hI.det 2 (hp.1 rfl)
      simp only [h2] at hK
      clear hp
      go_simp
      exact hK _ _ (hI.mark 3 _ rfl (by decide))
    · intro li xs W1 hI hli hp K hK
      have h3 : xs 3 = .pointer (some ⟨rt, 0, none⟩) := hI.det 3 (hp.1 rfl)
      simp only [h3] at hK
      clear hp
      go_simp
      exact hK _ _ (hI.mark 4 _ rfl (by decide))
    · intro li xs W1 hI hli hp K hK
      have h4 : xs 4 = .pointer (some ⟨rt, 1, none⟩) := hI.det 4 (hp.1 rfl)
      have l21 : li 21 = false := not_on (fun hh => hI.c21 hh 5 (by decide)) hli
      have cc := ((hI.bel l21).cell (p := ⟨rt, 1, none⟩) hrt).trans c1
      simp only [h4] at hK
      clear hp
      go_simp
      exact hK _ _ (hI.mark 5 _ rfl (by decide))
    · intro li xs W1 hI hli hp K hK
      clear hp
      go_simp
      exact hK _ _ (hI.mark 6 _ rfl (by decide))
    · intro li xs W1 hI hli hp K hK
      have h5 : xs 5 = vv := hI.det 5 (hp.1 rfl)
      have h6 : xs 6 = .int .i64 (P : Int) := hI.det 6 (hp.2.1 rfl)
      clear hp
      rcases htk with ⟨e, hA⟩ | ⟨g, off, cap, e, hcap, ht, hd⟩
      · rw [e] at h5
        have hsl : Sl W2 (.slice none 0 0) (VL.take P) := .inl ⟨rfl, by rw [hA]; simp⟩
        obtain rfl : P = 0 := by rw [hA] at hPle; simpa using hPle
        simp only [h5, h6] at hK
        clear hA e
        go_simp
        exact hK _ _ (hI.mark 7 _ hsl (by decide))
      · rw [e] at h5
        have hPc : P ≤ cap := by omega
        have hsl := ht P hPle
        simp only [h5, h6] at hK
        clear e ht hd
        go_simp
        exact hK _ _ (hI.mark 7 _ hsl (by decide))
    · intro li xs W1 hI hli hp K hK
      have l1 : li 1 = true := hp.1 rfl
      have l7 : li 7 = true := hp.2.1 rfl
      have l21 : li 21 = false := not_on (fun hh => hI.c21 hh 8 (by decide)) hli
      obtain ⟨g1, cap1, e1, ho1⟩ := hI.o1 l1 hli
      have h7 : Sl W2 (xs 7) (VL.take P) := hI.det 7 l7
      have hln : (VL.take P).length = P := by simp; omega
      rw [if_pos (wanted_none rfl _)]
      refine wp_app _ _ rfl W2.heap.size g1 0 cap1 [] (by simpa [Act.eval] using e1) ho1 (xs 7) (VL.take P) rfl (h7.grow (hI.bel l21)) (by omega) (hI.bel l21).size ?_
      intro g' cap' w' hown hg hgf
      rw [Nat.zero_add, List.nil_append, hln] at hown
      rw [Nat.zero_add, hln]
      exact hK _ _ (hI.app8 (fun _ => trivial) hli l1 g1 (by rw [e1]; rfl) (own_lt ho1).2 g' cap' w' hown hg hgf)
    · intro li xs W1 hI hli hp K hK
      clear hp
      go_simp
      exact hK _ _ (hI.mark 9 _ rfl (by decide))
    · intro li xs W1 hI hli hp K hK
      have h9 : xs 9 = .int .i64 v := hI.det 9 (hp.1 rfl)
      simp only [h9] at hK
      clear hp
      go_simp
      exact hK _ _ (hI.mk10 (fun _ => trivial) hli)
    · intro li xs W1 hI hli hp K hK
      have l8 : li 8 = true := hp.1 rfl
      have l10 : li 10 = true := hp.2.1 rfl
      have l21 : li 21 = false := not_on (fun hh => hI.c21 hh 11 (by decide)) hli
      obtain ⟨g8, cap8, e8, ho8⟩ := hI.o8 l8 hli
      obtain ⟨g10, e10, hc10, _, _⟩ := hI.t10 l10 hli
      have hsl : Sl W1 (xs 10) [v] := .inr ⟨g10, 0, 1, e10, by simp, fun i x hx => by
        match i, hx with
        | 0, hx => simp at hx; subst hx; exact hc10
        | i + 1, hx => simp at hx⟩
      rw [if_pos (wanted_none rfl _)]
      refine wp_app _ _ rfl W2.heap.size g8 P cap8 _ (by simpa [Act.eval] using e8) ho8 (xs 10) [v] rfl hsl (by simp; omega) (hI.bel l21).size ?_
      intro g' cap' w' hown hg hgf
      exact hK _ _ (hI.app11 (fun _ => trivial) hli l8 l10 g8 (own_lt ho8).2 g' cap' w' hown hg)
    · intro li xs W1 hI hli hp K hK
      clear hp
      go_simp
      exact hK _ _ (hI.mark 12 _ rfl (by decide))
    · intro li xs W1 hI hli hp K hK
      have h12 : xs 12 = .pointer (some ⟨rt, 0, none⟩) := hI.det 12 (hp.1 rfl)
      simp only [h12] at hK
      clear hp
      go_simp
      exact hK _ _ (hI.mark 13 _ rfl (by decide))
    · intro li xs W1 hI hli hp K hK
      have h13 : xs 13 = .pointer (some ⟨rt, 0, none⟩) := hI.det 13 (hp.1 rfl)
      simp only [h13] at hK
      clear hp
      go_simp
      exact hK _ _ (hI.mark 14 _ rfl (by decide))
    · intro li xs W1 hI hli hp K hK
      have h14 : xs 14 = .pointer (some ⟨rt, 1, none⟩) := hI.det 14 (hp.1 rfl)
      have l21 : li 21 = false := not_on (fun hh => hI.c21 hh 15 (by decide)) hli
      have cc := ((hI.bel l21).cell (p := ⟨rt, 1, none⟩) hrt).trans c1
      simp only [h14] at hK
      clear hp
      go_simp
      exact hK _ _ (hI.mark 15 _ rfl (by decide))
    · intro li xs W1 hI hli hp K hK
      clear hp
      go_simp
      exact hK _ _ (hI.mark 16 _ rfl (by decide))
    · intro li xs W1 hI hli hp K hK
      have h15 : xs 15 = vv := hI.det 15 (hp.1 rfl)
      have h16 : xs 16 = .int .i64 (P : Int) := hI.det 16 (hp.2.1 rfl)
      clear hp
      rcases htk with ⟨e, hA⟩ | ⟨g, off, cap, e, hcap, ht, hd⟩
      · rw [e] at h15
        have hsl : Sl W2 (.slice none 0 0) (VL.drop P) := .inl ⟨rfl, by rw [hA]; simp⟩
        obtain rfl : P = 0 := by rw [hA] at hPle; simpa using hPle
        simp only [h15, h16] at hK
        clear hA e
        go_simp
        exact hK _ _ (hI.mark 17 _ hsl (by decide))
      · rw [e] at h15
        by_cases hcp : cap = P
        · have hgen : ∀ mm cc, mm = VL.length - P → Sl W2 (.slice (some ⟨g, off, none⟩) mm cc) (VL.drop P) := fun mm cc hm => .inr ⟨g, off, cc, by rw [hm]; simp, by simp; omega, fun i x hx => by rw [List.getElem?_drop, List.getElem?_eq_none (by omega)] at hx; cases hx⟩
          clear e ht hd
          subst hcp
          simp only [h15, h16] at hK
          go_simp
          refine hK _ _ (hI.mark 17 _ (hgen _ _ ?_) (by decide))
          omega
        · have hsl := hd P (cap - P) hPle (by omega)
          simp only [h15, h16] at hK
          clear e ht hd
          go_simp
          exact hK _ _ (hI.mark 17 _ hsl (by decide))
    · intro li xs W1 hI hli hp K hK
      have l11 : li 11 = true := hp.1 rfl
      have l17 : li 17 = true := hp.2.1 rfl
      have l21 : li 21 = false := not_on (fun hh => hI.c21 hh 18 (by decide)) hli
      obtain ⟨g11, cap11, e11, ho11⟩ := hI.o11 l11 hli
      have h17 : Sl W2 (xs 17) (VL.drop P) := hI.det 17 l17
      rw [if_pos (wanted_none rfl _)]
      refine wp_app _ _ rfl W2.heap.size g11 (P + 1) cap11 _ (by simpa [Act.eval] using e11) ho11 (xs 17) (VL.drop P) rfl (h17.grow (hI.bel l21)) (by simp; omega) (hI.bel l21).size ?_
      intro g' cap' w' hown hg hgf
      rw [HN2.out] at hown ⊢
      exact hK _ _ (hI.app18 (fun _ => trivial) hli l11 g11 (own_lt ho11).2 g' cap' w' hown hg)
    · intro li xs W1 hI hli hp K hK
      have h0 : xs 0 = .pointer (some ⟨rt, 0, none⟩) := hI.det 0 (hp.1 rfl)
      simp only [h0] at hK
      clear hp
      go_simp
      exact hK _ _ (hI.mark 19 _ rfl (by decide))
    · intro li xs W1 hI hli hp K hK
      have h19 : xs 19 = .pointer (some ⟨rt, 0, none⟩) := hI.det 19 (hp.1 rfl)
      simp only [h19] at hK
      clear hp
      go_simp
      exact hK _ _ (hI.mark 20 _ rfl (by decide))
    · intro li xs W1 hI hli hp K hK
      have hall : ∀ i, i < 19 → li i = true := fun i hi => by
        match i, hi with
        | 0, _ => exact hp.2.2.2.1 rfl
        | 1, _ => exact hp.2.2.2.2.1 rfl
        | 2, _ => exact hp.2.2.2.2.2.1 rfl
        | 3, _ => exact hp.2.2.2.2.2.2.1 rfl
        | 4, _ => exact hp.2.2.2.2.2.2.2.1 rfl
        | 5, _ => exact hp.2.2.2.2.2.2.2.2.1 rfl
        | 6, _ => exact hp.2.2.2.2.2.2.2.2.2.1 rfl
        | 7, _ => exact hp.2.2.2.2.2.2.2.2.2.2.1 rfl
        | 8, _ => exact hp.2.2.2.2.2.2.2.2.2.2.2.1 rfl
        | 9, _ => exact hp.2.2.2.2.2.2.2.2.2.2.2.2.1 rfl
        | 10, _ => exact hp.2.2.2.2.2.2.2.2.2.2.2.2.2.1 rfl
        | 11, _ => exact hp.2.2.2.2.2.2.2.2.2.2.2.2.2.2.1 rfl
        | 12, _ => exact hp.2.2.2.2.2.2.2.2.2.2.2.2.2.2.2.1 rfl
        | 13, _ => exact hp.2.2.2.2.2.2.2.2.2.2.2.2.2.2.2.2.1 rfl
        | 14, _ => exact hp.2.2.2.2.2.2.2.2.2.2.2.2.2.2.2.2.2.1 rfl
        | 15, _ => exact hp.2.2.2.2.2.2.2.2.2.2.2.2.2.2.2.2.2.2.1 rfl
        | 16, _ => exact hp.2.2.2.2.2.2.2.2.2.2.2.2.2.2.2.2.2.2.2.1 rfl
        | 17, _ => exact hp.2.2.2.2.2.2.2.2.2.2.2.2.2.2.2.2.2.2.2.2.1 rfl
        | 18, _ => exact hp.2.1 rfl
        | i + 19, h => exact absurd h (by omega)
      have l20 : li 20 = true := hp.1 rfl
      have l18 : li 18 = true := hall 18 (by decide)
      have h20 : xs 20 = .pointer (some ⟨rt, 1, none⟩) := hI.det 20 l20
      obtain ⟨g18, cap18, h18, ho18⟩ := hI.o18 l18 hli
      have hbel := hI.bel hli
      have hb1 := (hbel.block rt hrt).trans hb
      obtain ⟨d0, d1, q0, q1⟩ := two_cells hb1
      simp only [h20, h18] at hK
      clear hp l20 l18
      have hput := hI.put21 (fun _ => trivial) hall undef (W1.setCell ⟨rt, 1, none⟩ (.slice (some ⟨g18, 0, none⟩) (P + 1 + N2) cap18)) ⟨g18, cap18, heap_set1 hb1, ownsRow_setCell_below ho18 hrt _, (Frm.of_below hbel).trans (Frm.setCell W1 rt 1 _)⟩
      go_simp
      exact hK _ _ hput
    · intro li xs W3 hI hall
      obtain ⟨g2, cap2, hb3, hrow2, hF2⟩ := hI.fin (hall 21 (by simp))
      clear hI hall
      go_wp2
      go_end0
      have hsl2 := row_sl hPle HN2.out hrow2
      refine ⟨⟨_, rfl⟩, ?_, hF0.trans (hF1.trans hF2)⟩
      rw [HI.out]
      refine ⟨_, _, hb3, ?_, ?_⟩
      · rw [keysL_new, HKL.out]
        refine hsl.frmNum hF2 (fun j hj => ?_)
        cases hj
        obtain ⟨a2, b2, rfl, _⟩ := hv2.form
        exact notNum_of hb
      · rw [valsL_new, HVL.out]; exact hsl2

theorem rSet_any (rt : Nat) (l : List (Int × Int)) (k v : Int) (w : World) (h : Ref w rt l) (hL : l.length ≤ 100000) :
    Calls Try.prog 26 #[.pointer (some ⟨rt, 0, none⟩), .int .i64 k, .int .i64 v] w fun e w' => (∃ x, e = .returned x) ∧ Ref w' rt (insL k v l) ∧ Frm (· = rt) w w' := by
  cases hh : hereL k l with
  | true => exact rSet_here rt l k v w h hL hh
  | false => exact rSet_new rt l k v w h hL hh
set_option maxRecDepth 100000 in
set_option maxHeartbeats 4000000 in
theorem rDel_here (rt : Nat) (l : List (Int × Int)) (k : Int) (w : World) (h : Ref w rt l) (hL : l.length ≤ 100000) (hr : Rises l) (hhere : hereL k l = true) :
    Calls Try.prog 27 #[.pointer (some ⟨rt, 0, none⟩), .int .i64 k] w fun e w' => e = .returned (.bool true) ∧ Ref w' rt (delL k l) ∧ Frm (· = rt) w w' := by
  have HI : Hid (delL k l = l.take (posL k l) ++ l.drop (posL k l + 1)) := del_here hr hhere
  have hlt := here_lt hhere
  have hple := posL_le k l
  go_enter Try.func27, Try.ntmps27
  go_wp2_with fail
  refine (place_any rt l k w h hL).mono ?_
  rintro e w' ⟨rfl, m, rfl⟩
  rw [hhere]
  have hF0 : Frm (· = rt) w (w.drewN m) := (Frm.refl _ _).drewN m
  have hR : Ref (w.drewN m) rt l := h.grow (dn (Below.refl _ _) m)
  obtain ⟨W, hW⟩ : ∃ W, w.drewN m = W := ⟨_, rfl⟩
  rw [hW] at hF0 hR ⊢
  have hnn := hR.notNum
  obtain ⟨vk, vv, hb, hk, hv⟩ := hR
  have hrt := lt_of_heap hb
  obtain ⟨c0, c1, _, _⟩ := two_cells hb
  have hlenk : (keysL l).length = l.length := by simp [keysL]
  have hlenv : (valsL l).length = l.length := by simp [valsL]
  clear hW h hhere
  generalize posL k l = P at *
  obtain ⟨KL, hKL⟩ : ∃ KL, keysL l = KL := ⟨_, rfl⟩
  obtain ⟨VL, hVL⟩ : ∃ VL, valsL l = VL := ⟨_, rfl⟩
  have HKL : Hid (keysL l = KL) := hKL
  have HVL : Hid (valsL l = VL) := hVL
  rw [hKL] at hk hlenk
  rw [hVL] at hv hlenv
  clear hKL hVL
  obtain ⟨N2, hN2⟩ : ∃ N2, (KL.drop (P + 1)).length = N2 := ⟨_, rfl⟩
  have HN2 : Hid ((KL.drop (P + 1)).length = N2) := hN2
  have HN3 : Hid ((VL.drop (P + 1)).length = N2) := by show _ = _; rw [← hN2]; simp; omega
  have hle1 : KL.length ≤ 100000 ∧ VL.length ≤ 100000 := ⟨by omega, by omega⟩
  have htk := hk.take
  have hPlt : P < KL.length := by omega
  have hPlt2 : P < VL.length := by omega
  clear hN2 hlenk hlenv
  go_wp2
  refine wp_region_steps (by kernel_rfl) (by kernel_rfl) (fun xs => { tmps := (Value.pointer (some (⟨rt, 0, none⟩ : Addr)) :: Value.int IntKind.i64 k :: undef :: undef :: Value.bool false :: Value.int IntKind.i64 (P : Int) :: Value.bool true :: Value.tuple #[Value.int IntKind.i64 (P : Int), Value.bool true] :: Value.pointer (some (⟨rt, 0, none⟩ : Addr)) :: Value.int IntKind.i64 k :: Value.tuple #[Value.int IntKind.i64 (P : Int), Value.bool true] :: Value.int IntKind.i64 (P : Int) :: Value.bool true :: Value.bool true :: xs 0 :: xs 1 :: xs 2 :: xs 3 :: xs 4 :: xs 5 :: xs 6 :: xs 7 :: xs 8 :: xs 9 :: xs 10 :: xs 11 :: xs 12 :: xs 13 :: xs 14 :: xs 15 :: xs 16 :: xs 17 :: xs 18 :: undef :: undef :: undef :: undef :: undef :: undef :: undef :: undef :: undef :: undef :: undef :: undef :: undef :: undef :: undef :: undef :: undef :: undef :: undef :: undef :: []).toArray, defers := [] })
    (fun li xs W1 => DelI W (fun ii zz => match ii with | 0 => zz = .pointer (some ⟨rt, 0, none⟩) | 2 => zz = .pointer (some ⟨rt, 0, none⟩) | 3 => zz = .pointer (some ⟨rt, 0, none⟩) | 4 => zz = .pointer (some ⟨rt, 0, none⟩) | 5 => zz = vk | 6 => zz = .int .i64 (P : Int) | 7 => Sl W zz (KL.take P) | 9 => zz = .pointer (some ⟨rt, 0, none⟩) | 10 => zz = .pointer (some ⟨rt, 0, none⟩) | 11 => zz = .pointer (some ⟨rt, 0, none⟩) | 12 => zz = vk | 13 => zz = .int .i64 (P : Int) | 14 => zz = .int .i64 ((P : Int) + 1) | 15 => Sl W zz (KL.drop (P + 1)) | 17 => zz = .pointer (some ⟨rt, 0, none⟩) | 18 => zz = .pointer (some ⟨rt, 0, none⟩) | _ => True) P ((KL.take P).map (Value.int .i64)) N2 ((KL.drop (P + 1)).map (Value.int .i64)) (fun W' => ∃ g cap, W'.heap[rt]? = some (.cells #[.slice (some ⟨g, 0, none⟩) (P + N2) cap, vv] 28 (0, 0)) ∧ W'.ownsRow W.heap.size 3 1 (.slice (some ⟨g, 0, none⟩) (P + N2) cap) (P + N2) ((KL.take P).map (Value.int .i64) ++ (KL.drop (P + 1)).map (Value.int .i64)) ∧ Frm (· = rt) W W') li xs W1) (fun | _ => undef) (by repeat (first | exact trivial | refine ⟨fun _ _ => rfl, ?_⟩)) DelI.start ⟨?_, ?_, ?_, ?_, ?_, ?_, ?_, ?_, ?_, ?_, ?_, ?_, ?_, ?_, ?_, ?_, ?_, ?_, ?_, ?_, trivial⟩ ?_
  · intro li xs W1 hI hli hp K hK
    clear hp
    go_simp
    exact hK _ _ (hI.mark 0 _ rfl (by decide))
  · intro li xs W1 hI hli hp K hK
    clear hp
    go_simp
    exact hK _ _ (hI.mk1 (fun _ => trivial) hli)
  · intro li xs W1 hI hli hp K hK
    clear hp
    go_simp
    exact hK _ _ (hI.mark 2 _ rfl (by decide))
  · intro li xs W1 hI hli hp K hK
    have h2 : xs 2 = .pointer (some ⟨rt, 0, none⟩) := hI.det 2 (hp.1 rfl)
    simp only [h2] at hK
    clear hp
    go_simp
    exact hK _ _ (hI.mark 3 _ rfl (by decide))
  · intro li xs W1 hI hli hp K hK
    have h3 : xs 3 = .pointer (some ⟨rt, 0, none⟩) := hI.det 3 (hp.1 rfl)
    simp only [h3] at hK
    clear hp
    go_simp
    exact hK _ _ (hI.mark 4 _ rfl (by decide))
  · intro li xs W1 hI hli hp K hK
    have h4 : xs 4 = .pointer (some ⟨rt, 0, none⟩) := hI.det 4 (hp.1 rfl)
    have l19 : li 19 = false := not_on (fun hh => hI.c19 hh 5 (by decide)) hli
    have cc := ((hI.bel l19).cell (p := ⟨rt, 0, none⟩) hrt).trans c0
    simp only [h4] at hK
    clear hp
    go_simp
    exact hK _ _ (hI.mark 5 _ rfl (by decide))
  · intro li xs W1 hI hli hp K hK
    clear hp
    go_simp
    exact hK _ _ (hI.mark 6 _ rfl (by decide))
  · intro li xs W1 hI hli hp K hK
    have h5 : xs 5 = vk := hI.det 5 (hp.1 rfl)
    have h6 : xs 6 = .int .i64 (P : Int) := hI.det 6 (hp.2.1 rfl)
    clear hp
    rcases htk with ⟨e, hA⟩ | ⟨g, off, cap, e, hcap, ht, hd⟩
    · rw [hA] at hPlt; simp at hPlt
    · rw [e] at h5
      have hPc : P ≤ cap := by omega
      have hsl := ht P (by omega)
      simp only [h5, h6] at hK
      clear e ht hd
      go_simp
      exact hK _ _ (hI.mark 7 _ hsl (by decide))
  · intro li xs W1 hI hli hp K hK
    have l1 : li 1 = true := hp.1 rfl
    have l7 : li 7 = true := hp.2.1 rfl
    have l19 : li 19 = false := not_on (fun hh => hI.c19 hh 8 (by decide)) hli
    obtain ⟨g1, cap1, e1, ho1⟩ := hI.o1 l1 hli
    have h7 : Sl W (xs 7) (KL.take P) := hI.det 7 l7
    have hln : (KL.take P).length = P := by simp; omega
    rw [if_pos (wanted_none rfl _)]
    refine wp_app _ _ rfl W.heap.size g1 0 cap1 [] (by simpa [Act.eval] using e1) ho1 (xs 7) (KL.take P) rfl (h7.grow (hI.bel l19)) (by omega) (hI.bel l19).size ?_
    intro g' cap' w' hown hg hgf
    rw [Nat.zero_add, List.nil_append, hln] at hown
    rw [Nat.zero_add, hln]
    exact hK _ _ (hI.app8 (fun _ => trivial) hli l1 g1 (own_lt ho1).2 g' cap' w' hown hg)
  · intro li xs W1 hI hli hp K hK
    clear hp
    go_simp
    exact hK _ _ (hI.mark 9 _ rfl (by decide))
  · intro li xs W1 hI hli hp K hK
    have h9 : xs 9 = .pointer (some ⟨rt, 0, none⟩) := hI.det 9 (hp.1 rfl)
    simp only [h9] at hK
    clear hp
    go_simp
    exact hK _ _ (hI.mark 10 _ rfl (by decide))
  · intro li xs W1 hI hli hp K hK
    have h10 : xs 10 = .pointer (some ⟨rt, 0, none⟩) := hI.det 10 (hp.1 rfl)
    simp only [h10] at hK
    clear hp
    go_simp
    exact hK _ _ (hI.mark 11 _ rfl (by decide))
  · intro li xs W1 hI hli hp K hK
    have h11 : xs 11 = .pointer (some ⟨rt, 0, none⟩) := hI.det 11 (hp.1 rfl)
    have l19 : li 19 = false := not_on (fun hh => hI.c19 hh 12 (by decide)) hli
    have cc := ((hI.bel l19).cell (p := ⟨rt, 0, none⟩) hrt).trans c0
    simp only [h11] at hK
    clear hp
    go_simp
    exact hK _ _ (hI.mark 12 _ rfl (by decide))
  · intro li xs W1 hI hli hp K hK
    clear hp
    go_simp
    exact hK _ _ (hI.mark 13 _ rfl (by decide))
  · intro li xs W1 hI hli hp K hK
    have h13 : xs 13 = .int .i64 (P : Int) := hI.det 13 (hp.1 rfl)
    simp only [h13] at hK
    clear hp
    go_simp
    exact hK _ _ (hI.mark 14 _ (by show Value.int _ _ = _; rw [wrapS (by omega) (by omega)]) (by decide))
  · intro li xs W1 hI hli hp K hK
    have h12 : xs 12 = vk := hI.det 12 (hp.1 rfl)
    have h14 : xs 14 = .int .i64 ((P : Int) + 1) := hI.det 14 (hp.2.1 rfl)
    clear hp
    rcases htk with ⟨e, hA⟩ | ⟨g, off, cap, e, hcap, ht, hd⟩
    · rw [hA] at hPlt; simp at hPlt
    · rw [e] at h12
      obtain ⟨Q1, hQ1⟩ : ∃ Q1, P + 1 = Q1 := ⟨_, rfl⟩
      have HQ : Hid (P + 1 = Q1) := hQ1
      have hQle : Q1 ≤ KL.length := by omega
      rw [show ((P : Int) + 1) = (Q1 : Int) by omega] at h14
      clear hQ1
      by_cases hcp : cap = Q1
      · have hgen : ∀ mm cc, mm = KL.length - Q1 → Sl W (.slice (some ⟨g, off, none⟩) mm cc) (KL.drop (P + 1)) := fun mm cc hm => .inr ⟨g, off, cc, by rw [hm, HQ.out]; simp, by rw [HQ.out]; simp; omega, fun i x hx => by rw [HQ.out, List.getElem?_drop, List.getElem?_eq_none (by omega)] at hx; cases hx⟩
        clear e ht hd
        subst hcp
        simp only [h12, h14] at hK
        go_simp
        refine hK _ _ (hI.mark 15 _ (hgen _ _ ?_) (by decide))
        omega
      · have hsl := hd Q1 (cap - Q1) hQle (by omega)
        simp only [h12, h14] at hK
        clear e ht hd
        go_simp
        exact hK _ _ (hI.mark 15 _ (by show Sl _ _ (KL.drop (P + 1)); rw [HQ.out]; exact hsl) (by decide))
  · intro li xs W1 hI hli hp K hK
    have l8 : li 8 = true := hp.1 rfl
    have l15 : li 15 = true := hp.2.1 rfl
    have l19 : li 19 = false := not_on (fun hh => hI.c19 hh 16 (by decide)) hli
    obtain ⟨g8, cap8, e8, ho8⟩ := hI.o8 l8 hli
    have h15 : Sl W (xs 15) (KL.drop (P + 1)) := hI.det 15 l15
    rw [if_pos (wanted_none rfl _)]
    refine wp_app _ _ rfl W.heap.size g8 P cap8 _ (by simpa [Act.eval] using e8) ho8 (xs 15) (KL.drop (P + 1)) rfl (h15.grow (hI.bel l19)) (by simp; omega) (hI.bel l19).size ?_
    intro g' cap' w' hown hg hgf
    rw [HN2.out] at hown ⊢
    exact hK _ _ (hI.app16 (fun _ => trivial) hli l8 g8 (own_lt ho8).2 g' cap' w' hown hg)
  · intro li xs W1 hI hli hp K hK
    have h0 : xs 0 = .pointer (some ⟨rt, 0, none⟩) := hI.det 0 (hp.1 rfl)
    simp only [h0] at hK
    clear hp
    go_simp
    exact hK _ _ (hI.mark 17 _ rfl (by decide))
  · intro li xs W1 hI hli hp K hK
    have h17 : xs 17 = .pointer (some ⟨rt, 0, none⟩) := hI.det 17 (hp.1 rfl)
    simp only [h17] at hK
    clear hp
    go_simp
    exact hK _ _ (hI.mark 18 _ rfl (by decide))
  · intro li xs W1 hI hli hp K hK
    have hall : ∀ i, i < 17 → li i = true := fun i hi => by
      match i, hi with
      | 0, _ => exact hp.2.2.2.1 rfl
      | 1, _ => exact hp.2.2.2.2.1 rfl
      | 2, _ => exact hp.2.2.2.2.2.1 rfl
      | 3, _ => exact hp.2.2.2.2.2.2.1 rfl
      | 4, _ => exact hp.2.2.2.2.2.2.2.1 rfl
      | 5, _ => exact hp.2.2.2.2.2.2.2.2.1 rfl
      | 6, _ => exact hp.2.2.2.2.2.2.2.2.2.1 rfl
      | 7, _ => exact hp.2.2.2.2.2.2.2.2.2.2.1 rfl
      | 8, _ => exact hp.2.2.2.2.2.2.2.2.2.2.2.1 rfl
      | 9, _ => exact hp.2.2.2.2.2.2.2.2.2.2.2.2.1 rfl
      | 10, _ => exact hp.2.2.2.2.2.2.2.2.2.2.2.2.2.1 rfl
      | 11, _ => exact hp.2.2.2.2.2.2.2.2.2.2.2.2.2.2.1 rfl
      | 12, _ => exact hp.2.2.2.2.2.2.2.2.2.2.2.2.2.2.2.1 rfl
      | 13, _ => exact hp.2.2.2.2.2.2.2.2.2.2.2.2.2.2.2.2.1 rfl
      | 14, _ => exact hp.2.2.2.2.2.2.2.2.2.2.2.2.2.2.2.2.2.1 rfl
      | 15, _ => exact hp.2.2.2.2.2.2.2.2.2.2.2.2.2.2.2.2.2.2.1 rfl
      | 16, _ => exact hp.2.1 rfl
      | i + 17, h => exact absurd h (by omega)
    have l18 : li 18 = true := hp.1 rfl
    have l16 : li 16 = true := hall 16 (by decide)
    have h18 : xs 18 = .pointer (some ⟨rt, 0, none⟩) := hI.det 18 l18
    obtain ⟨g16, cap16, h16, ho16⟩ := hI.o16 l16 hli
    have hbel := hI.bel hli
    have hb1 := (hbel.block rt hrt).trans hb
    obtain ⟨d0, d1, q0, q1⟩ := two_cells hb1
    simp only [h18, h16] at hK
    clear hp l18 l16
    have hput := hI.put19 (fun _ => trivial) hall undef (W1.setCell ⟨rt, 0, none⟩ (.slice (some ⟨g16, 0, none⟩) (P + N2) cap16)) ⟨g16, cap16, heap_set0 hb1, ownsRow_setCell_below ho16 hrt _, (Frm.of_below hbel).trans (Frm.setCell W1 rt 0 _)⟩
    go_simp
    exact hK _ _ hput
  · intro li0 xs0 W2 hI hall
    obtain ⟨g1, cap1, hb2, hrow, hF1⟩ := hI.fin (hall 19 (by simp))
    clear hI hall
    have hsl := row_slD hPlt HN2.out hrow
    have hv2 : Sl W2 vv VL := hv.frmNum hF1 (fun j hj => by cases hj; exact hnn)
    clear hk htk hrow hv hb c0 c1
    have hrt0 := hrt
    replace hrt := lt_of_heap hb2
    obtain ⟨c0, c1, _, _⟩ := two_cells hb2
    replace hb := hb2
    have htk := hv2.take
    replace hPlt := hPlt2
    replace HN2 := HN3
    go_wp2
    refine wp_region_steps (by kernel_rfl) (by kernel_rfl) (fun xs => { tmps := (Value.pointer (some (⟨rt, 0, none⟩ : Addr)) :: Value.int IntKind.i64 k :: undef :: undef :: Value.bool false :: Value.int IntKind.i64 (P : Int) :: Value.bool true :: Value.tuple #[Value.int IntKind.i64 (P : Int), Value.bool true] :: Value.pointer (some (⟨rt, 0, none⟩ : Addr)) :: Value.int IntKind.i64 k :: Value.tuple #[Value.int IntKind.i64 (P : Int), Value.bool true] :: Value.int IntKind.i64 (P : Int) :: Value.bool true :: Value.bool true :: xs0 0 :: xs0 1 :: xs0 2 :: xs0 3 :: xs0 4 :: xs0 5 :: xs0 6 :: xs0 7 :: xs0 8 :: xs0 9 :: xs0 10 :: xs0 11 :: xs0 12 :: xs0 13 :: xs0 14 :: xs0 15 :: xs0 16 :: xs0 17 :: xs0 18 :: xs 0 :: xs 1 :: xs 2 :: xs 3 :: xs 4 :: xs 5 :: xs 6 :: xs 7 :: xs 8 :: xs 9 :: xs 10 :: xs 11 :: xs 12 :: xs 13 :: xs 14 :: xs 15 :: xs 16 :: xs 17 :: xs 18 :: undef :: []).toArray, defers := [] })
      (fun li xs W1 => DelI W2 (fun ii zz => match ii with | 0 => zz = .pointer (some ⟨rt, 0, none⟩) | 2 => zz = .pointer (some ⟨rt, 0, none⟩) | 3 => zz = .pointer (some ⟨rt, 0, none⟩) | 4 => zz = .pointer (some ⟨rt, 1, none⟩) | 5 => zz = vv | 6 => zz = .int .i64 (P : Int) | 7 => Sl W2 zz (VL.take P) | 9 => zz = .pointer (some ⟨rt, 0, none⟩) | 10 => zz = .pointer (some ⟨rt, 0, none⟩) | 11 => zz = .pointer (some ⟨rt, 1, none⟩) | 12 => zz = vv | 13 => zz = .int .i64 (P : Int) | 14 => zz = .int .i64 ((P : Int) + 1) | 15 => Sl W2 zz (VL.drop (P + 1)) | 17 => zz = .pointer (some ⟨rt, 0, none⟩) | 18 => zz = .pointer (some ⟨rt, 1, none⟩) | _ => True) P ((VL.take P).map (Value.int .i64)) N2 ((VL.drop (P + 1)).map (Value.int .i64)) (fun W' => ∃ g cap, W'.heap[rt]? = some (.cells #[.slice (some ⟨g1, 0, none⟩) (P + N2) cap1, .slice (some ⟨g, 0, none⟩) (P + N2) cap] 28 (0, 0)) ∧ W'.ownsRow W2.heap.size 3 1 (.slice (some ⟨g, 0, none⟩) (P + N2) cap) (P + N2) ((VL.take P).map (Value.int .i64) ++ (VL.drop (P + 1)).map (Value.int .i64)) ∧ Frm (· = rt) W2 W') li xs W1) (fun | _ => undef) (by repeat (first | exact trivial | refine ⟨fun _ _ => rfl, ?_⟩)) DelI.start ⟨?_, ?_, ?_, ?_, ?_, ?_, ?_, ?_, ?_, ?_, ?_, ?_, ?_, ?_, ?_, ?_, ?_, ?_, ?_, ?_, trivial⟩ ?_
    · intro li xs W1 hI hli hp K hK
      clear hp
      go_simp
      exact hK _ _ (hI.mark 0 _ rfl (by decide))
    · intro li xs W1 hI hli hp K hK
      clear hp
      go_simp
      exact hK _ _ (hI.mk1 (fun _ => trivial) hli)
    · intro li xs W1 hI hli hp K hK
      clear hp
      go_simp
      exact hK _ _ (hI.mark 2 _ rfl (by decide))
    · intro li xs W1 hI hli hp K hK
      have h2 : xs 2 = .pointer (some ⟨rt, 0, none⟩) := hI.det 2 (hp.1 rfl)
      simp only [h2] at hK
      clear hp
      go_simp
      exact hK _ _ (hI.mark 3 _ rfl (by decide))
    · intro li xs W1 hI hli hp K hK
      have h3 : xs 3 = .pointer (some ⟨rt, 0, none⟩) := hI.det 3 (hp.1 rfl)
      simp only [h3] at hK
      clear hp
      go_simp
      exact hK _ _ (hI.mark 4 _ rfl (by decide))
    · intro li xs W1 hI hli hp K hK
      have h4 : xs 4 = .pointer (some ⟨rt, 1, none⟩) := hI.det 4 (hp.1 rfl)
      have l19 : li 19 = false := not_on (fun hh => hI.c19 hh 5 (by decide)) hli
      have cc := ((hI.bel l19).cell (p := ⟨rt, 1, none⟩) hrt).trans c1
      simp only [h4] at hK
      clear hp
      go_simp
      exact hK _ _ (hI.mark 5 _ rfl (by decide))
    · intro li xs W1 hI hli hp K hK
      clear hp
      go_simp
      exact hK _ _ (hI.mark 6 _ rfl (by decide))
    · intro li xs W1 hI hli hp K hK
      have h5 : xs 5 = vv := hI.det 5 (hp.1 rfl)
      have h6 : xs 6 = .int .i64 (P : Int) := hI.det 6 (hp.2.1 rfl)
      clear hp
      rcases htk with ⟨e, hA⟩ | ⟨g, off, cap, e, hcap, ht, hd⟩
      · rw [hA] at hPlt; simp at hPlt
      · rw [e] at h5
        have hPc : P ≤ cap := by omega
        have hsl := ht P (by omega)
        simp only [h5, h6] at hK
        clear e ht hd
        go_simp
        exact hK _ _ (hI.mark 7 _ hsl (by decide))
    · intro li xs W1 hI hli hp K hK
      have l1 : li 1 = true := hp.1 rfl
      have l7 : li 7 = true := hp.2.1 rfl
      have l19 : li 19 = false := not_on (fun hh => hI.c19 hh 8 (by decide)) hli
      obtain ⟨g1, cap1, e1, ho1⟩ := hI.o1 l1 hli
      have h7 : Sl W2 (xs 7) (VL.take P) := hI.det 7 l7
      have hln : (VL.take P).length = P := by simp; omega
      rw [if_pos (wanted_none rfl _)]
      refine wp_app _ _ rfl W2.heap.size g1 0 cap1 [] (by simpa [Act.eval] using e1) ho1 (xs 7) (VL.take P) rfl (h7.grow (hI.bel l19)) (by omega) (hI.bel l19).size ?_
      intro g' cap' w' hown hg hgf
      rw [Nat.zero_add, List.nil_append, hln] at hown
      rw [Nat.zero_add, hln]
      exact hK _ _ (hI.app8 (fun _ => trivial) hli l1 g1 (own_lt ho1).2 g' cap' w' hown hg)
    · intro li xs W1 hI hli hp K hK
      clear hp
      go_simp
      exact hK _ _ (hI.mark 9 _ rfl (by decide))
    · intro li xs W1 hI hli hp K hK
      have h9 : xs 9 = .pointer (some ⟨rt, 0, none⟩) := hI.det 9 (hp.1 rfl)
      simp only [h9] at hK
      clear hp
      go_simp
      exact hK _ _ (hI.mark 10 _ rfl (by decide))
    · intro li xs W1 hI hli hp K hK
      have h10 : xs 10 = .pointer (some ⟨rt, 0, none⟩) := hI.det 10 (hp.1 rfl)
      simp only [h10] at hK
      clear hp
      go_simp
      exact hK _ _ (hI.mark 11 _ rfl (by decide))
    · intro li xs W1 hI hli hp K hK
      have h11 : xs 11 = .pointer (some ⟨rt, 1, none⟩) := hI.det 11 (hp.1 rfl)
      have l19 : li 19 = false := not_on (fun hh => hI.c19 hh 12 (by decide)) hli
      have cc := ((hI.bel l19).cell (p := ⟨rt, 1, none⟩) hrt).trans c1
      simp only [h11] at hK
      clear hp
      go_simp
      exact hK _ _ (hI.mark 12 _ rfl (by decide))
    · intro li xs W1 hI hli hp K hK
      clear hp
      go_simp
      exact hK _ _ (hI.mark 13 _ rfl (by decide))
    · intro li xs W1 hI hli hp K hK
      have h13 : xs 13 = .int .i64 (P : Int) := hI.det 13 (hp.1 rfl)
      simp only [h13] at hK
      clear hp
      go_simp
      exact hK _ _ (hI.mark 14 _ (by show Value.int _ _ = _; rw [wrapS (by omega) (by omega)]) (by decide))
    · intro li xs W1 hI hli hp K hK
      have h12 : xs 12 = vv := hI.det 12 (hp.1 rfl)
      have h14 : xs 14 = .int .i64 ((P : Int) + 1) := hI.det 14 (hp.2.1 rfl)
      clear hp
      rcases htk with ⟨e, hA⟩ | ⟨g, off, cap, e, hcap, ht, hd⟩
      · rw [hA] at hPlt; simp at hPlt
      · rw [e] at h12
        obtain ⟨Q1, hQ1⟩ : ∃ Q1, P + 1 = Q1 := ⟨_, rfl⟩
        have HQ : Hid (P + 1 = Q1) := hQ1
        have hQle : Q1 ≤ VL.length := by omega
        rw [show ((P : Int) + 1) = (Q1 : Int) by omega] at h14
        clear hQ1
        by_cases hcp : cap = Q1
        · have hgen : ∀ mm cc, mm = VL.length - Q1 → Sl W2 (.slice (some ⟨g, off, none⟩) mm cc) (VL.drop (P + 1)) := fun mm cc hm => .inr ⟨g, off, cc, by rw [hm, HQ.out]; simp, by rw [HQ.out]; simp; omega, fun i x hx => by rw [HQ.out, List.getElem?_drop, List.getElem?_eq_none (by omega)] at hx; cases hx⟩
          clear e ht hd
          subst hcp
          simp only [h12, h14] at hK
          go_simp
          refine hK _ _ (hI.mark 15 _ (hgen _ _ ?_) (by decide))
          omega
        · have hsl := hd Q1 (cap - Q1) hQle (by omega)
          simp only [h12, h14] at hK
          clear e ht hd
          go_simp
          exact hK _ _ (hI.mark 15 _ (by show Sl _ _ (VL.drop (P + 1)); rw [HQ.out]; exact hsl) (by decide))
    · intro li xs W1 hI hli hp K hK
      have l8 : li 8 = true := hp.1 rfl
      have l15 : li 15 = true := hp.2.1 rfl
      have l19 : li 19 = false := not_on (fun hh => hI.c19 hh 16 (by decide)) hli
      obtain ⟨g8, cap8, e8, ho8⟩ := hI.o8 l8 hli
      have h15 : Sl W2 (xs 15) (VL.drop (P + 1)) := hI.det 15 l15
      rw [if_pos (wanted_none rfl _)]
      refine wp_app _ _ rfl W2.heap.size g8 P cap8 _ (by simpa [Act.eval] using e8) ho8 (xs 15) (VL.drop (P + 1)) rfl (h15.grow (hI.bel l19)) (by simp; omega) (hI.bel l19).size ?_
      intro g' cap' w' hown hg hgf
      rw [HN2.out] at hown ⊢
      exact hK _ _ (hI.app16 (fun _ => trivial) hli l8 g8 (own_lt ho8).2 g' cap' w' hown hg)
    · intro li xs W1 hI hli hp K hK
      have h0 : xs 0 = .pointer (some ⟨rt, 0, none⟩) := hI.det 0 (hp.1 rfl)
      simp only [h0] at hK
      clear hp
      go_simp
      exact hK _ _ (hI.mark 17 _ rfl (by decide))
    · intro li xs W1 hI hli hp K hK
      have h17 : xs 17 = .pointer (some ⟨rt, 0, none⟩) := hI.det 17 (hp.1 rfl)
      simp only [h17] at hK
      clear hp
      go_simp
      exact hK _ _ (hI.mark 18 _ rfl (by decide))
    · intro li xs W1 hI hli hp K hK
      have hall : ∀ i, i < 17 → li i = true := fun i hi => by
        match i, hi with
        | 0, _ => exact hp.2.2.2.1 rfl
        | 1, _ => exact hp.2.2.2.2.1 rfl
        | 2, _ => exact hp.2.2.2.2.2.1 rfl
        | 3, _ => exact hp.2.2.2.2.2.2.1 rfl
        | 4, _ => exact hp.2.2.2.2.2.2.2.1 rfl
        | 5, _ => exact hp.2.2.2.2.2.2.2.2.1 rfl
        | 6, _ => exact hp.2.2.2.2.2.2.2.2.2.1 rfl
        | 7, _ => exact hp.2.2.2.2.2.2.2.2.2.2.1 rfl
        | 8, _ => exact hp.2.2.2.2.2.2.2.2.2.2.2.1 rfl
        | 9, _ => exact hp.2.2.2.2.2.2.2.2.2.2.2.2.1 rfl
        | 10, _ => exact hp.2.2.2.2.2.2.2.2.2.2.2.2.2.1 rfl
        | 11, _ => exact hp.2.2.2.2.2.2.2.2.2.2.2.2.2.2.1 rfl
        | 12, _ => exact hp.2.2.2.2.2.2.2.2.2.2.2.2.2.2.2.1 rfl
        | 13, _ => exact hp.2.2.2.2.2.2.2.2.2.2.2.2.2.2.2.2.1 rfl
        | 14, _ => exact hp.2.2.2.2.2.2.2.2.2.2.2.2.2.2.2.2.2.1 rfl
        | 15, _ => exact hp.2.2.2.2.2.2.2.2.2.2.2.2.2.2.2.2.2.2.1 rfl
        | 16, _ => exact hp.2.1 rfl
        | i + 17, h => exact absurd h (by omega)
      have l18 : li 18 = true := hp.1 rfl
      have l16 : li 16 = true := hall 16 (by decide)
      have h18 : xs 18 = .pointer (some ⟨rt, 1, none⟩) := hI.det 18 l18
      obtain ⟨g16, cap16, h16, ho16⟩ := hI.o16 l16 hli
      have hbel := hI.bel hli
      have hb1 := (hbel.block rt hrt).trans hb
      obtain ⟨d0, d1, q0, q1⟩ := two_cells hb1
      simp only [h18, h16] at hK
      clear hp l18 l16
      have hput := hI.put19 (fun _ => trivial) hall undef (W1.setCell ⟨rt, 1, none⟩ (.slice (some ⟨g16, 0, none⟩) (P + N2) cap16)) ⟨g16, cap16, heap_set1 hb1, ownsRow_setCell_below ho16 hrt _, (Frm.of_below hbel).trans (Frm.setCell W1 rt 1 _)⟩
      go_simp
      exact hK _ _ hput
    · intro li xs W3 hI hall
      obtain ⟨g2, cap2, hb3, hrow2, hF2⟩ := hI.fin (hall 19 (by simp))
      clear hI hall
      go_wp2
      go_ret
      have hsl2 := row_slD hPlt HN2.out hrow2
      refine ⟨rfl, ?_, hF0.trans (hF1.trans hF2)⟩
      rw [HI.out]
      refine ⟨_, _, hb3, ?_, ?_⟩
      · rw [keysL_del, HKL.out]
        refine hsl.frmNum hF2 (fun j hj => ?_)
        cases hj
        obtain ⟨a2, b2, rfl, _⟩ := hv2.form
        exact notNum_of hb
      · rw [valsL_del, HVL.out]; exact hsl2

set_option maxHeartbeats 400000 in
theorem rDel_not (rt : Nat) (l : List (Int × Int)) (k : Int) (w : World) (h : Ref w rt l) (hL : l.length ≤ 100000) (hr : Rises l) (hhere : hereL k l = false) :
    Calls Try.prog 27 #[.pointer (some ⟨rt, 0, none⟩), .int .i64 k] w fun e w' => e = .returned (.bool false) ∧ Ref w' rt (delL k l) ∧ Frm (· = rt) w w' := by
  have HD : Hid (delL k l = l) := delL_of_look (by have := isSome_here (k := k) hr; rw [hhere] at this; cases hl : lookL k l with | none => rfl | some x => rw [hl] at this; cases this)
  go_enter Try.func27, Try.ntmps27
  go_wp2_with fail
  refine (place_any rt l k w h hL).mono ?_
  rintro e w' ⟨rfl, m, rfl⟩
  rw [hhere]
  clear hhere
  go_wp2
  go_ret
  exact ⟨rfl, by rw [HD.out]; exact h.grow (dn (Below.refl _ _) m), (Frm.refl _ _).drewN m⟩
theorem rDel_any (rt : Nat) (l : List (Int × Int)) (k : Int) (w : World) (h : Ref w rt l) (hL : l.length ≤ 100000) (hr : Rises l) :
    Calls Try.prog 27 #[.pointer (some ⟨rt, 0, none⟩), .int .i64 k] w fun e w' => e = .returned (.bool (lookL k l).isSome) ∧ Ref w' rt (delL k l) ∧ Frm (· = rt) w w' := by
  rw [isSome_here hr]
  cases hh : hereL k l with
  | true => exact rDel_here rt l k w h hL hr hh
  | false => exact rDel_not rt l k w h hL hr hh

end Go.Proofs.Ytgafmckiomhceaa
