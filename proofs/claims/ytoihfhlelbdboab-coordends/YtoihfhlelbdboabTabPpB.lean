/- The contracts of hold's turnLow, turnHigh and balance. For every tree of fewer than 2^40 entries. -/
import Derived.Test.YtoihfhlelbdboabTabPpA
import Derived.Deep.RegionWith
namespace Go.Proofs.Ytoihfhlelbdboab.Pp
open Go.Proofs Go.RowKit Go.Hold Go.Inv

theorem dn {B : Nat} {a w : World} (h : Below B a w) (n : Nat) : Below B a (w.drewN n) := ⟨h.os, h.tape, h.output, h.size, h.block⟩
theorem T.drewN {W : World} {p : Option Addr} {t : BT (Option Addr)} (h : T W p t) (n : Nat) : T (W.drewN n) p t := T.grow (A := W) (B := W.drewN n) (dn (Below.refl _ _) n) h

set_option maxRecDepth 100000 in
set_option maxHeartbeats 1000000 in
theorem turnLow_one (pl ph : Option Addr) (l i o : BT (Option Addr)) (k : Int) (v : (Option Addr)) (rk : Int) (rv : (Option Addr)) (w : World) (hl : T w pl l) (hh : T w ph (.node i rk rv o)) (hz : l.size + i.size + o.size + 10 < big) (hc : i.size + 1 < 2 * (o.size + 1)) :
    Calls Try.prog 87 #[.pointer pl, .agg #[.int .i64 k, (Value.pointer v)], .pointer ph] w fun e w' => ∃ p, e = .returned (.pointer p) ∧ T w' p (.node (.node l k v i) rk rv o) ∧ Below w.heap.size w w' := by
  unfold big at hz
  obtain ⟨b, pi, po, rfl, hb, c0, c1, c2, c3, c4, hi, ho⟩ := hh
  go_enter Try.func87, Try.ntmps87
  go_wp2
  obtain ⟨W1, hW1⟩ : ∃ W1, w.alloc (.cells #[.int .i64 k, (Value.pointer v)] 116) = W1 := ⟨_, rfl⟩
  have hB0 : Below w.heap.size w W1 := by rw [← hW1]; exact (Below.refl _ _).alloc (Nat.le_refl _) _
  have hlt : w.heap.size < W1.heap.size := by rw [← hW1]; simp
  have e0 : W1.cell? ⟨w.heap.size, 0, none⟩ = some (.int .i64 k) := by rw [← hW1]; exact cell_new _ _ _ _
  have e1 : W1.cell? ⟨w.heap.size, 1, none⟩ = some (Value.pointer v) := by rw [← hW1]; exact cell_new _ _ _ _
  rw [hW1]
  clear hW1
  have hb1 : b < W1.heap.size := Nat.lt_of_lt_of_le hb hB0.size
  replace hl := hl.grow hB0
  replace hi := T.grow hB0 hi
  replace ho := T.grow hB0 ho
  replace c0 := (hB0.cell (p := ⟨b, 0, none⟩) hb).trans c0
  replace c1 := (hB0.cell (p := ⟨b, 1, none⟩) hb).trans c1
  replace c3 := (hB0.cell (p := ⟨b, 3, none⟩) hb).trans c3
  replace c4 := (hB0.cell (p := ⟨b, 4, none⟩) hb).trans c4
  clear c2
  go_quiet (fail)
  go_wp2_with (first | (go_at_call_of 86 (pi); refine (weight_any _ i _ (hi.drewN _) (by unfold big; omega)).mono ?_; rintro e w' ⟨rfl, rfl⟩) | (go_at_call_of 86 (po); refine (weight_any _ o _ (ho.drewN _) (by unfold big; omega)).mono ?_; rintro e w' ⟨rfl, rfl⟩))
  generalize Value.bool (decide ((i.size : Int) + 1 < 2 * ((o.size : Int) + 1))) = u22
  refine wp_region_grow (by kernel_rfl) (by kernel_rfl) (by kernel_rfl) (fun xs => { tmps := (Value.pointer pl :: Value.agg #[Value.int IntKind.i64 k, Value.pointer v] :: Value.pointer (some (⟨b, 0, none⟩ : Addr)) :: undef :: Value.pointer (some (⟨w.heap.size, 0, none⟩ : Addr)) :: undef :: xs 10 :: Value.pointer pi :: Value.pointer po :: Value.pointer (some (⟨b, 0, none⟩ : Addr)) :: Value.pointer (some (⟨b, 0, none⟩ : Addr)) :: Value.pointer (some (⟨b, 3, none⟩ : Addr)) :: Value.pointer pi :: Value.pointer (some (⟨b, 0, none⟩ : Addr)) :: Value.pointer (some (⟨b, 0, none⟩ : Addr)) :: Value.pointer (some (⟨b, 4, none⟩ : Addr)) :: Value.pointer po :: Value.pointer pi :: Value.int IntKind.i64 ((i.size : Int) + 1) :: Value.pointer po :: Value.int IntKind.i64 ((o.size : Int) + 1) :: Value.int IntKind.i64 (2 * ((o.size : Int) + 1)) :: u22 :: xs 0 :: xs 1 :: xs 2 :: xs 3 :: xs 4 :: xs 5 :: xs 6 :: xs 7 :: xs 8 :: xs 9 :: undef :: undef :: undef :: undef :: undef :: undef :: undef :: undef :: undef :: undef :: undef :: undef :: undef :: undef :: undef :: undef :: undef :: undef :: undef :: undef :: undef :: undef :: []).toArray, defers := [] })
    (fun ii xx WW => match ii with | 0 => xx = Value.pointer pl | 1 => xx = Value.agg #[Value.int IntKind.i64 k, (Value.pointer v)] | 2 => xx = Value.pointer pi | 3 => ∃ p, xx = .pointer p ∧ T WW p (.node l k v i) | 4 => xx = Value.pointer (some (⟨b, 0, none⟩ : Addr)) | 5 => xx = Value.pointer (some (⟨b, 0, none⟩ : Addr)) | 6 => xx = Value.pointer (some (⟨b, 0, none⟩ : Addr)) | 7 => xx = Value.agg #[Value.int IntKind.i64 rk, (Value.pointer rv)] | 8 => xx = Value.pointer po | 9 => ∃ p, xx = .pointer p ∧ T WW p (.node (.node l k v i) rk rv o) | 10 => ∃ p, xx = .pointer p ∧ T WW p (.node (.node l k v i) rk rv o) | _ => True) (fun | 10 => Value.pointer none | _ => undef) (by repeat (first | exact trivial | refine ⟨fun _ _ => rfl, ?_⟩))
    (by intro i x w w' h hs; (try dsimp only at hs ⊢); split at hs <;> first | exact hs | exact trivial | (obtain ⟨p, hp, ht⟩ := hs; exact ⟨p, hp, ht.grow h⟩)) ⟨?_, ?_, ?_, ?_, ?_, ?_, ?_, ?_, ?_, ?_, ?_, trivial⟩ ?_
  · intro xs W hB hp K hK
    clear hp
    go_simp
    exact hK _ _ (Below.refl _ _) rfl
  · intro xs W hB hp K hK
    clear hp
    have cc0 := (hB.cell (p := ⟨w.heap.size, 0, none⟩) hlt).trans e0
    have cc1 := (hB.cell (p := ⟨w.heap.size, 1, none⟩) hlt).trans e1
    go_simp
    exact hK _ _ (Below.refl _ _) rfl
  · intro xs W hB hp K hK
    clear hp
    go_simp
    exact hK _ _ (Below.refl _ _) rfl
  · intro xs W hB hp K hK
    have h0 : xs 0 = Value.pointer pl := hp.1 rfl
    have h1 : xs 1 = Value.agg #[Value.int IntKind.i64 k, (Value.pointer v)] := hp.2.1 rfl
    have h2 : xs 2 = Value.pointer pi := hp.2.2.1 rfl
    clear hp
    simp only [h0, h1, h2] at hK
    go_simp
    refine (join_any pl pi l i k v _ ((hl.drewN nq).grow hB) ((hi.drewN nq).grow hB) (by unfold big; (try simp only [BT.size]); omega)).mono ?_
    rintro e w' ⟨p, rfl, ht, hb'⟩
    exact hK _ _ hb' ⟨p, rfl, ht⟩
  · intro xs W hB hp K hK
    clear hp
    go_simp
    exact hK _ _ (Below.refl _ _) rfl
  · intro xs W hB hp K hK
    have h4 : xs 4 = Value.pointer (some (⟨b, 0, none⟩ : Addr)) := hp.1 rfl
    clear hp
    simp only [h4] at hK
    go_simp
    exact hK _ _ (Below.refl _ _) rfl
  · intro xs W hB hp K hK
    have h5 : xs 5 = Value.pointer (some (⟨b, 0, none⟩ : Addr)) := hp.1 rfl
    clear hp
    simp only [h5] at hK
    go_simp
    exact hK _ _ (Below.refl _ _) rfl
  · intro xs W hB hp K hK
    have h6 : xs 6 = Value.pointer (some (⟨b, 0, none⟩ : Addr)) := hp.1 rfl
    clear hp
    simp only [h6] at hK
    have cc0 := (hB.cell (p := ⟨b, 0, none⟩) hb1).trans c0
    have cc1 := (hB.cell (p := ⟨b, 1, none⟩) hb1).trans c1
    go_simp
    exact hK _ _ (Below.refl _ _) rfl
  · intro xs W hB hp K hK
    clear hp
    go_simp
    exact hK _ _ (Below.refl _ _) rfl
  · intro xs W hB hp K hK
    obtain ⟨p3, h3, ht3⟩ : ∃ p, xs 3 = .pointer p ∧ T W p (.node l k v i) := hp.1 rfl
    have h7 : xs 7 = Value.agg #[Value.int IntKind.i64 rk, (Value.pointer rv)] := hp.2.1 rfl
    have h8 : xs 8 = Value.pointer po := hp.2.2.1 rfl
    clear hp
    simp only [h3, h7, h8] at hK
    go_simp
    refine (join_any _ po _ o rk rv _ ht3 ((ho.drewN nq).grow hB) (by unfold big; (try simp only [BT.size]); omega)).mono ?_
    rintro e w' ⟨p, rfl, ht, hb'⟩
    exact hK _ _ hb' ⟨p, rfl, ht⟩
  · intro xs W hB hp K hK
    obtain ⟨p9, h9, ht9⟩ : ∃ p, xs 9 = .pointer p ∧ T W p (.node (.node l k v i) rk rv o) := hp.1 rfl
    clear hp
    simp only [h9] at hK
    go_simp
    exact hK _ _ (Below.refl _ _) ⟨_, rfl, ht9⟩
  · intro xs W hB hs
    obtain ⟨p, h, ht⟩ : ∃ p, xs 10 = .pointer p ∧ T W p (.node (.node l k v i) rk rv o) := hs 10 (by simp)
    simp only [h]
    go_wp2
    go_ret
    exact ⟨_, rfl, ht, (dn hB0 nq).trans (hB.mono (dn hB0 nq).size)⟩

set_option maxRecDepth 100000 in
set_option maxHeartbeats 1000000 in
theorem turnLow_two (pl ph : Option Addr) (l x y o : BT (Option Addr)) (k : Int) (v : (Option Addr)) (ik : Int) (iv : (Option Addr)) (rk : Int) (rv : (Option Addr)) (w : World) (hl : T w pl l) (hh : T w ph (.node (.node x ik iv y) rk rv o)) (hz : l.size + x.size + y.size + o.size + 10 < big) (hc : ¬ (BT.node x ik iv y).size + 1 < 2 * (o.size + 1)) :
    Calls Try.prog 87 #[.pointer pl, .agg #[.int .i64 k, (Value.pointer v)], .pointer ph] w fun e w' => ∃ p, e = .returned (.pointer p) ∧ T w' p (.node (.node l k v x) ik iv (.node y rk rv o)) ∧ Below w.heap.size w w' := by
  unfold big at hz
  obtain ⟨b, pi, po, rfl, hb, c0, c1, c2, c3, c4, hi, ho⟩ := hh
  go_enter Try.func87, Try.ntmps87
  go_wp2
  obtain ⟨W1, hW1⟩ : ∃ W1, w.alloc (.cells #[.int .i64 k, (Value.pointer v)] 116) = W1 := ⟨_, rfl⟩
  have hB0 : Below w.heap.size w W1 := by rw [← hW1]; exact (Below.refl _ _).alloc (Nat.le_refl _) _
  have hlt : w.heap.size < W1.heap.size := by rw [← hW1]; simp
  have e0 : W1.cell? ⟨w.heap.size, 0, none⟩ = some (.int .i64 k) := by rw [← hW1]; exact cell_new _ _ _ _
  have e1 : W1.cell? ⟨w.heap.size, 1, none⟩ = some (Value.pointer v) := by rw [← hW1]; exact cell_new _ _ _ _
  rw [hW1]
  clear hW1
  have hb1 : b < W1.heap.size := Nat.lt_of_lt_of_le hb hB0.size
  replace hl := hl.grow hB0
  replace hi := T.grow hB0 hi
  replace ho := T.grow hB0 ho
  replace c0 := (hB0.cell (p := ⟨b, 0, none⟩) hb).trans c0
  replace c1 := (hB0.cell (p := ⟨b, 1, none⟩) hb).trans c1
  replace c3 := (hB0.cell (p := ⟨b, 3, none⟩) hb).trans c3
  replace c4 := (hB0.cell (p := ⟨b, 4, none⟩) hb).trans c4
  clear c2
  have hi' := hi
  obtain ⟨bi, px, py, epi, hbi, d0, d1, d2, d3, d4, hx, hy⟩ := hi'
  subst epi
  clear d2
  have hsz : (BT.node x ik iv y).size < 1099511627776 := by simp only [BT.size]; omega
  go_quiet (fail)
  go_wp2_with (first | (go_at_call_of 86 (bi); refine (weight_any _ (.node x ik iv y) _ (hi.drewN _) (by unfold big; simp only [BT.size]; omega)).mono ?_; rintro e w' ⟨rfl, rfl⟩) | (go_at_call_of 86 (po); refine (weight_any _ o _ (ho.drewN _) (by unfold big; omega)).mono ?_; rintro e w' ⟨rfl, rfl⟩))
  generalize Value.bool (decide (↑(x.node ik iv y).size + 1 < 2 * ((o.size : Int) + 1))) = u22
  refine wp_region_grow (by kernel_rfl) (by kernel_rfl) (by kernel_rfl) (fun xs => { tmps := (Value.pointer pl :: Value.agg #[Value.int IntKind.i64 k, Value.pointer v] :: Value.pointer (some (⟨b, 0, none⟩ : Addr)) :: undef :: Value.pointer (some (⟨w.heap.size, 0, none⟩ : Addr)) :: undef :: xs 22 :: Value.pointer (some (⟨bi, 0, none⟩ : Addr)) :: Value.pointer po :: Value.pointer (some (⟨b, 0, none⟩ : Addr)) :: Value.pointer (some (⟨b, 0, none⟩ : Addr)) :: Value.pointer (some (⟨b, 3, none⟩ : Addr)) :: Value.pointer (some (⟨bi, 0, none⟩ : Addr)) :: Value.pointer (some (⟨b, 0, none⟩ : Addr)) :: Value.pointer (some (⟨b, 0, none⟩ : Addr)) :: Value.pointer (some (⟨b, 4, none⟩ : Addr)) :: Value.pointer po :: Value.pointer (some (⟨bi, 0, none⟩ : Addr)) :: Value.int IntKind.i64 (↑(x.node ik iv y).size + 1) :: Value.pointer po :: Value.int IntKind.i64 ((o.size : Int) + 1) :: Value.int IntKind.i64 (2 * ((o.size : Int) + 1)) :: u22 :: undef :: undef :: undef :: undef :: undef :: undef :: undef :: undef :: undef :: undef :: xs 0 :: xs 1 :: xs 2 :: xs 3 :: xs 4 :: xs 5 :: xs 6 :: xs 7 :: xs 8 :: xs 9 :: xs 10 :: xs 11 :: xs 12 :: xs 13 :: xs 14 :: xs 15 :: xs 16 :: xs 17 :: xs 18 :: xs 19 :: xs 20 :: xs 21 :: []).toArray, defers := [] })
    (fun ii xx WW => match ii with | 0 => xx = Value.pointer pl | 1 => xx = Value.agg #[Value.int IntKind.i64 k, (Value.pointer v)] | 2 => xx = Value.pointer (some (⟨bi, 0, none⟩ : Addr)) | 3 => xx = Value.pointer (some (⟨bi, 0, none⟩ : Addr)) | 4 => xx = Value.pointer (some (⟨bi, 3, none⟩ : Addr)) | 5 => xx = Value.pointer px | 6 => ∃ p, xx = .pointer p ∧ T WW p (.node l k v x) | 7 => xx = Value.pointer (some (⟨bi, 0, none⟩ : Addr)) | 8 => xx = Value.pointer (some (⟨bi, 0, none⟩ : Addr)) | 9 => xx = Value.pointer (some (⟨bi, 0, none⟩ : Addr)) | 10 => xx = Value.agg #[Value.int IntKind.i64 ik, (Value.pointer iv)] | 11 => xx = Value.pointer (some (⟨bi, 0, none⟩ : Addr)) | 12 => xx = Value.pointer (some (⟨bi, 0, none⟩ : Addr)) | 13 => xx = Value.pointer (some (⟨bi, 4, none⟩ : Addr)) | 14 => xx = Value.pointer py | 15 => xx = Value.pointer (some (⟨b, 0, none⟩ : Addr)) | 16 => xx = Value.pointer (some (⟨b, 0, none⟩ : Addr)) | 17 => xx = Value.pointer (some (⟨b, 0, none⟩ : Addr)) | 18 => xx = Value.agg #[Value.int IntKind.i64 rk, (Value.pointer rv)] | 19 => xx = Value.pointer po | 20 => ∃ p, xx = .pointer p ∧ T WW p (.node y rk rv o) | 21 => ∃ p, xx = .pointer p ∧ T WW p (.node (.node l k v x) ik iv (.node y rk rv o)) | 22 => ∃ p, xx = .pointer p ∧ T WW p (.node (.node l k v x) ik iv (.node y rk rv o)) | _ => True) (fun | 22 => Value.pointer none | _ => undef) (by repeat (first | exact trivial | refine ⟨fun _ _ => rfl, ?_⟩))
    (by intro i x w w' h hs; (try dsimp only at hs ⊢); split at hs <;> first | exact hs | exact trivial | (obtain ⟨p, hp, ht⟩ := hs; exact ⟨p, hp, ht.grow h⟩)) ⟨?_, ?_, ?_, ?_, ?_, ?_, ?_, ?_, ?_, ?_, ?_, ?_, ?_, ?_, ?_, ?_, ?_, ?_, ?_, ?_, ?_, ?_, ?_, trivial⟩ ?_
  · intro xs W hB hp K hK
    clear hp
    go_simp
    exact hK _ _ (Below.refl _ _) rfl
  · intro xs W hB hp K hK
    clear hp
    have cc0 := (hB.cell (p := ⟨w.heap.size, 0, none⟩) hlt).trans e0
    have cc1 := (hB.cell (p := ⟨w.heap.size, 1, none⟩) hlt).trans e1
    go_simp
    exact hK _ _ (Below.refl _ _) rfl
  · intro xs W hB hp K hK
    clear hp
    go_simp
    exact hK _ _ (Below.refl _ _) rfl
  · intro xs W hB hp K hK
    have h2 : xs 2 = Value.pointer (some (⟨bi, 0, none⟩ : Addr)) := hp.1 rfl
    clear hp
    simp only [h2] at hK
    go_simp
    exact hK _ _ (Below.refl _ _) rfl
  · intro xs W hB hp K hK
    have h3 : xs 3 = Value.pointer (some (⟨bi, 0, none⟩ : Addr)) := hp.1 rfl
    clear hp
    simp only [h3] at hK
    go_simp
    exact hK _ _ (Below.refl _ _) rfl
  · intro xs W hB hp K hK
    have h4 : xs 4 = Value.pointer (some (⟨bi, 3, none⟩ : Addr)) := hp.1 rfl
    clear hp
    simp only [h4] at hK
    have cc0 := (hB.cell (p := ⟨bi, 3, none⟩) hbi).trans d3
    go_simp
    exact hK _ _ (Below.refl _ _) rfl
  · intro xs W hB hp K hK
    have h0 : xs 0 = Value.pointer pl := hp.1 rfl
    have h1 : xs 1 = Value.agg #[Value.int IntKind.i64 k, (Value.pointer v)] := hp.2.1 rfl
    have h5 : xs 5 = Value.pointer px := hp.2.2.1 rfl
    clear hp
    simp only [h0, h1, h5] at hK
    go_simp
    refine (join_any pl px l x k v _ ((hl.drewN nq).grow hB) ((T.drewN (W := W1) hx nq).grow hB) (by unfold big; (try simp only [BT.size]); omega)).mono ?_
    rintro e w' ⟨p, rfl, ht, hb'⟩
    exact hK _ _ hb' ⟨p, rfl, ht⟩
  · intro xs W hB hp K hK
    clear hp
    go_simp
    exact hK _ _ (Below.refl _ _) rfl
  · intro xs W hB hp K hK
    have h7 : xs 7 = Value.pointer (some (⟨bi, 0, none⟩ : Addr)) := hp.1 rfl
    clear hp
    simp only [h7] at hK
    go_simp
    exact hK _ _ (Below.refl _ _) rfl
  · intro xs W hB hp K hK
    have h8 : xs 8 = Value.pointer (some (⟨bi, 0, none⟩ : Addr)) := hp.1 rfl
    clear hp
    simp only [h8] at hK
    go_simp
    exact hK _ _ (Below.refl _ _) rfl
  · intro xs W hB hp K hK
    have h9 : xs 9 = Value.pointer (some (⟨bi, 0, none⟩ : Addr)) := hp.1 rfl
    clear hp
    simp only [h9] at hK
    have cc0 := (hB.cell (p := ⟨bi, 0, none⟩) hbi).trans d0
    have cc1 := (hB.cell (p := ⟨bi, 1, none⟩) hbi).trans d1
    go_simp
    exact hK _ _ (Below.refl _ _) rfl
  · intro xs W hB hp K hK
    clear hp
    go_simp
    exact hK _ _ (Below.refl _ _) rfl
  · intro xs W hB hp K hK
    have h11 : xs 11 = Value.pointer (some (⟨bi, 0, none⟩ : Addr)) := hp.1 rfl
    clear hp
    simp only [h11] at hK
    go_simp
    exact hK _ _ (Below.refl _ _) rfl
  · intro xs W hB hp K hK
    have h12 : xs 12 = Value.pointer (some (⟨bi, 0, none⟩ : Addr)) := hp.1 rfl
    clear hp
    simp only [h12] at hK
    go_simp
    exact hK _ _ (Below.refl _ _) rfl
  · intro xs W hB hp K hK
    have h13 : xs 13 = Value.pointer (some (⟨bi, 4, none⟩ : Addr)) := hp.1 rfl
    clear hp
    simp only [h13] at hK
    have cc0 := (hB.cell (p := ⟨bi, 4, none⟩) hbi).trans d4
    go_simp
    exact hK _ _ (Below.refl _ _) rfl
  · intro xs W hB hp K hK
    clear hp
    go_simp
    exact hK _ _ (Below.refl _ _) rfl
  · intro xs W hB hp K hK
    have h15 : xs 15 = Value.pointer (some (⟨b, 0, none⟩ : Addr)) := hp.1 rfl
    clear hp
    simp only [h15] at hK
    go_simp
    exact hK _ _ (Below.refl _ _) rfl
  · intro xs W hB hp K hK
    have h16 : xs 16 = Value.pointer (some (⟨b, 0, none⟩ : Addr)) := hp.1 rfl
    clear hp
    simp only [h16] at hK
    go_simp
    exact hK _ _ (Below.refl _ _) rfl
  · intro xs W hB hp K hK
    have h17 : xs 17 = Value.pointer (some (⟨b, 0, none⟩ : Addr)) := hp.1 rfl
    clear hp
    simp only [h17] at hK
    have cc0 := (hB.cell (p := ⟨b, 0, none⟩) hb1).trans c0
    have cc1 := (hB.cell (p := ⟨b, 1, none⟩) hb1).trans c1
    go_simp
    exact hK _ _ (Below.refl _ _) rfl
  · intro xs W hB hp K hK
    clear hp
    go_simp
    exact hK _ _ (Below.refl _ _) rfl
  · intro xs W hB hp K hK
    have h14 : xs 14 = Value.pointer py := hp.1 rfl
    have h18 : xs 18 = Value.agg #[Value.int IntKind.i64 rk, (Value.pointer rv)] := hp.2.1 rfl
    have h19 : xs 19 = Value.pointer po := hp.2.2.1 rfl
    clear hp
    simp only [h14, h18, h19] at hK
    go_simp
    refine (join_any py po y o rk rv _ ((T.drewN (W := W1) hy nq).grow hB) ((ho.drewN nq).grow hB) (by unfold big; (try simp only [BT.size]); omega)).mono ?_
    rintro e w' ⟨p, rfl, ht, hb'⟩
    exact hK _ _ hb' ⟨p, rfl, ht⟩
  · intro xs W hB hp K hK
    obtain ⟨p6, h6, ht6⟩ : ∃ p, xs 6 = .pointer p ∧ T W p (.node l k v x) := hp.1 rfl
    have h10 : xs 10 = Value.agg #[Value.int IntKind.i64 ik, (Value.pointer iv)] := hp.2.1 rfl
    obtain ⟨p20, h20, ht20⟩ : ∃ p, xs 20 = .pointer p ∧ T W p (.node y rk rv o) := hp.2.2.1 rfl
    clear hp
    simp only [h6, h10, h20] at hK
    go_simp
    refine (join_any _ _ _ _ ik iv _ ht6 ht20 (by unfold big; (try simp only [BT.size]); omega)).mono ?_
    rintro e w' ⟨p, rfl, ht, hb'⟩
    exact hK _ _ hb' ⟨p, rfl, ht⟩
  · intro xs W hB hp K hK
    obtain ⟨p21, h21, ht21⟩ : ∃ p, xs 21 = .pointer p ∧ T W p (.node (.node l k v x) ik iv (.node y rk rv o)) := hp.1 rfl
    clear hp
    simp only [h21] at hK
    go_simp
    exact hK _ _ (Below.refl _ _) ⟨_, rfl, ht21⟩
  · intro xs W hB hs
    obtain ⟨p, h, ht⟩ : ∃ p, xs 22 = .pointer p ∧ T W p (.node (.node l k v x) ik iv (.node y rk rv o)) := hs 22 (by simp)
    simp only [h]
    go_wp2
    go_ret
    exact ⟨_, rfl, ht, (dn hB0 nq).trans (hB.mono (dn hB0 nq).size)⟩

set_option maxRecDepth 100000 in
set_option maxHeartbeats 1000000 in
theorem turnHigh_one (pl ph : Option Addr) (l i o : BT (Option Addr)) (k : Int) (v : (Option Addr)) (rk : Int) (rv : (Option Addr)) (w : World) (hl : T w ph l) (hh : T w pl (.node o rk rv i)) (hz : l.size + i.size + o.size + 10 < big) (hc : i.size + 1 < 2 * (o.size + 1)) :
    Calls Try.prog 88 #[.pointer pl, .agg #[.int .i64 k, (Value.pointer v)], .pointer ph] w fun e w' => ∃ p, e = .returned (.pointer p) ∧ T w' p (.node o rk rv (.node i k v l)) ∧ Below w.heap.size w w' := by
  unfold big at hz
  obtain ⟨b, po, pi, rfl, hb, c0, c1, c2, c3, c4, ho, hi⟩ := hh
  go_enter Try.func88, Try.ntmps88
  go_wp2
  obtain ⟨W1, hW1⟩ : ∃ W1, w.alloc (.cells #[.int .i64 k, (Value.pointer v)] 116) = W1 := ⟨_, rfl⟩
  have hB0 : Below w.heap.size w W1 := by rw [← hW1]; exact (Below.refl _ _).alloc (Nat.le_refl _) _
  have hlt : w.heap.size < W1.heap.size := by rw [← hW1]; simp
  have e0 : W1.cell? ⟨w.heap.size, 0, none⟩ = some (.int .i64 k) := by rw [← hW1]; exact cell_new _ _ _ _
  have e1 : W1.cell? ⟨w.heap.size, 1, none⟩ = some (Value.pointer v) := by rw [← hW1]; exact cell_new _ _ _ _
  rw [hW1]
  clear hW1
  have hb1 : b < W1.heap.size := Nat.lt_of_lt_of_le hb hB0.size
  replace hl := hl.grow hB0
  replace hi := T.grow hB0 hi
  replace ho := T.grow hB0 ho
  replace c0 := (hB0.cell (p := ⟨b, 0, none⟩) hb).trans c0
  replace c1 := (hB0.cell (p := ⟨b, 1, none⟩) hb).trans c1
  replace c3 := (hB0.cell (p := ⟨b, 3, none⟩) hb).trans c3
  replace c4 := (hB0.cell (p := ⟨b, 4, none⟩) hb).trans c4
  clear c2
  go_quiet (fail)
  go_wp2_with (first | (go_at_call_of 86 (pi); refine (weight_any _ i _ (hi.drewN _) (by unfold big; omega)).mono ?_; rintro e w' ⟨rfl, rfl⟩) | (go_at_call_of 86 (po); refine (weight_any _ o _ (ho.drewN _) (by unfold big; omega)).mono ?_; rintro e w' ⟨rfl, rfl⟩))
  generalize Value.bool (decide ((i.size : Int) + 1 < 2 * ((o.size : Int) + 1))) = u22
  refine wp_region_grow (by kernel_rfl) (by kernel_rfl) (by kernel_rfl) (fun xs => { tmps := (Value.pointer (some (⟨b, 0, none⟩ : Addr)) :: Value.agg #[Value.int IntKind.i64 k, Value.pointer v] :: Value.pointer ph :: undef :: Value.pointer (some (⟨w.heap.size, 0, none⟩ : Addr)) :: undef :: xs 10 :: Value.pointer pi :: Value.pointer po :: Value.pointer (some (⟨b, 0, none⟩ : Addr)) :: Value.pointer (some (⟨b, 0, none⟩ : Addr)) :: Value.pointer (some (⟨b, 4, none⟩ : Addr)) :: Value.pointer pi :: Value.pointer (some (⟨b, 0, none⟩ : Addr)) :: Value.pointer (some (⟨b, 0, none⟩ : Addr)) :: Value.pointer (some (⟨b, 3, none⟩ : Addr)) :: Value.pointer po :: Value.pointer pi :: Value.int IntKind.i64 ((i.size : Int) + 1) :: Value.pointer po :: Value.int IntKind.i64 ((o.size : Int) + 1) :: Value.int IntKind.i64 (2 * ((o.size : Int) + 1)) :: u22 :: xs 0 :: xs 1 :: xs 2 :: xs 3 :: xs 4 :: xs 5 :: xs 6 :: xs 7 :: xs 8 :: xs 9 :: undef :: undef :: undef :: undef :: undef :: undef :: undef :: undef :: undef :: undef :: undef :: undef :: undef :: undef :: undef :: undef :: undef :: undef :: undef :: undef :: undef :: undef :: []).toArray, defers := [] })
    (fun ii xx WW => match ii with | 0 => xx = Value.pointer po | 1 => xx = Value.pointer (some (⟨b, 0, none⟩ : Addr)) | 2 => xx = Value.pointer (some (⟨b, 0, none⟩ : Addr)) | 3 => xx = Value.pointer (some (⟨b, 0, none⟩ : Addr)) | 4 => xx = Value.agg #[Value.int IntKind.i64 rk, (Value.pointer rv)] | 5 => xx = Value.pointer pi | 6 => xx = Value.agg #[Value.int IntKind.i64 k, (Value.pointer v)] | 7 => xx = Value.pointer ph | 8 => ∃ p, xx = .pointer p ∧ T WW p (.node i k v l) | 9 => ∃ p, xx = .pointer p ∧ T WW p (.node o rk rv (.node i k v l)) | 10 => ∃ p, xx = .pointer p ∧ T WW p (.node o rk rv (.node i k v l)) | _ => True) (fun | 10 => Value.pointer none | _ => undef) (by repeat (first | exact trivial | refine ⟨fun _ _ => rfl, ?_⟩))
    (by intro i x w w' h hs; (try dsimp only at hs ⊢); split at hs <;> first | exact hs | exact trivial | (obtain ⟨p, hp, ht⟩ := hs; exact ⟨p, hp, ht.grow h⟩)) ⟨?_, ?_, ?_, ?_, ?_, ?_, ?_, ?_, ?_, ?_, ?_, trivial⟩ ?_
  · intro xs W hB hp K hK
    clear hp
    go_simp
    exact hK _ _ (Below.refl _ _) rfl
  · intro xs W hB hp K hK
    clear hp
    go_simp
    exact hK _ _ (Below.refl _ _) rfl
  · intro xs W hB hp K hK
    have h1 : xs 1 = Value.pointer (some (⟨b, 0, none⟩ : Addr)) := hp.1 rfl
    clear hp
    simp only [h1] at hK
    go_simp
    exact hK _ _ (Below.refl _ _) rfl
  · intro xs W hB hp K hK
    have h2 : xs 2 = Value.pointer (some (⟨b, 0, none⟩ : Addr)) := hp.1 rfl
    clear hp
    simp only [h2] at hK
    go_simp
    exact hK _ _ (Below.refl _ _) rfl
  · intro xs W hB hp K hK
    have h3 : xs 3 = Value.pointer (some (⟨b, 0, none⟩ : Addr)) := hp.1 rfl
    clear hp
    simp only [h3] at hK
    have cc0 := (hB.cell (p := ⟨b, 0, none⟩) hb1).trans c0
    have cc1 := (hB.cell (p := ⟨b, 1, none⟩) hb1).trans c1
    go_simp
    exact hK _ _ (Below.refl _ _) rfl
  · intro xs W hB hp K hK
    clear hp
    go_simp
    exact hK _ _ (Below.refl _ _) rfl
  · intro xs W hB hp K hK
    clear hp
    have cc0 := (hB.cell (p := ⟨w.heap.size, 0, none⟩) hlt).trans e0
    have cc1 := (hB.cell (p := ⟨w.heap.size, 1, none⟩) hlt).trans e1
    go_simp
    exact hK _ _ (Below.refl _ _) rfl
  · intro xs W hB hp K hK
    clear hp
    go_simp
    exact hK _ _ (Below.refl _ _) rfl
  · intro xs W hB hp K hK
    have h5 : xs 5 = Value.pointer pi := hp.1 rfl
    have h6 : xs 6 = Value.agg #[Value.int IntKind.i64 k, (Value.pointer v)] := hp.2.1 rfl
    have h7 : xs 7 = Value.pointer ph := hp.2.2.1 rfl
    clear hp
    simp only [h5, h6, h7] at hK
    go_simp
    refine (join_any pi ph i l k v _ ((hi.drewN nq).grow hB) ((hl.drewN nq).grow hB) (by unfold big; (try simp only [BT.size]); omega)).mono ?_
    rintro e w' ⟨p, rfl, ht, hb'⟩
    exact hK _ _ hb' ⟨p, rfl, ht⟩
  · intro xs W hB hp K hK
    have h0 : xs 0 = Value.pointer po := hp.1 rfl
    have h4 : xs 4 = Value.agg #[Value.int IntKind.i64 rk, (Value.pointer rv)] := hp.2.1 rfl
    obtain ⟨p8, h8, ht8⟩ : ∃ p, xs 8 = .pointer p ∧ T W p (.node i k v l) := hp.2.2.1 rfl
    clear hp
    simp only [h0, h4, h8] at hK
    go_simp
    refine (join_any po _ o _ rk rv _ ((ho.drewN nq).grow hB) ht8 (by unfold big; (try simp only [BT.size]); omega)).mono ?_
    rintro e w' ⟨p, rfl, ht, hb'⟩
    exact hK _ _ hb' ⟨p, rfl, ht⟩
  · intro xs W hB hp K hK
    obtain ⟨p9, h9, ht9⟩ : ∃ p, xs 9 = .pointer p ∧ T W p (.node o rk rv (.node i k v l)) := hp.1 rfl
    clear hp
    simp only [h9] at hK
    go_simp
    exact hK _ _ (Below.refl _ _) ⟨_, rfl, ht9⟩
  · intro xs W hB hs
    obtain ⟨p, h, ht⟩ : ∃ p, xs 10 = .pointer p ∧ T W p (.node o rk rv (.node i k v l)) := hs 10 (by simp)
    simp only [h]
    go_wp2
    go_ret
    exact ⟨_, rfl, ht, (dn hB0 nq).trans (hB.mono (dn hB0 nq).size)⟩

set_option maxRecDepth 100000 in
set_option maxHeartbeats 1000000 in
theorem turnHigh_two (pl ph : Option Addr) (l x y o : BT (Option Addr)) (k : Int) (v : (Option Addr)) (ik : Int) (iv : (Option Addr)) (rk : Int) (rv : (Option Addr)) (w : World) (hl : T w ph l) (hh : T w pl (.node o rk rv (.node x ik iv y))) (hz : l.size + x.size + y.size + o.size + 10 < big) (hc : ¬ (BT.node x ik iv y).size + 1 < 2 * (o.size + 1)) :
    Calls Try.prog 88 #[.pointer pl, .agg #[.int .i64 k, (Value.pointer v)], .pointer ph] w fun e w' => ∃ p, e = .returned (.pointer p) ∧ T w' p (.node (.node o rk rv x) ik iv (.node y k v l)) ∧ Below w.heap.size w w' := by
  unfold big at hz
  obtain ⟨b, po, pi, rfl, hb, c0, c1, c2, c3, c4, ho, hi⟩ := hh
  go_enter Try.func88, Try.ntmps88
  go_wp2
  obtain ⟨W1, hW1⟩ : ∃ W1, w.alloc (.cells #[.int .i64 k, (Value.pointer v)] 116) = W1 := ⟨_, rfl⟩
  have hB0 : Below w.heap.size w W1 := by rw [← hW1]; exact (Below.refl _ _).alloc (Nat.le_refl _) _
  have hlt : w.heap.size < W1.heap.size := by rw [← hW1]; simp
  have e0 : W1.cell? ⟨w.heap.size, 0, none⟩ = some (.int .i64 k) := by rw [← hW1]; exact cell_new _ _ _ _
  have e1 : W1.cell? ⟨w.heap.size, 1, none⟩ = some (Value.pointer v) := by rw [← hW1]; exact cell_new _ _ _ _
  rw [hW1]
  clear hW1
  have hb1 : b < W1.heap.size := Nat.lt_of_lt_of_le hb hB0.size
  replace hl := hl.grow hB0
  replace hi := T.grow hB0 hi
  replace ho := T.grow hB0 ho
  replace c0 := (hB0.cell (p := ⟨b, 0, none⟩) hb).trans c0
  replace c1 := (hB0.cell (p := ⟨b, 1, none⟩) hb).trans c1
  replace c3 := (hB0.cell (p := ⟨b, 3, none⟩) hb).trans c3
  replace c4 := (hB0.cell (p := ⟨b, 4, none⟩) hb).trans c4
  clear c2
  have hi' := hi
  obtain ⟨bi, px, py, epi, hbi, d0, d1, d2, d3, d4, hx, hy⟩ := hi'
  subst epi
  clear d2
  have hsz : (BT.node x ik iv y).size < 1099511627776 := by simp only [BT.size]; omega
  go_quiet (fail)
  go_wp2_with (first | (go_at_call_of 86 (bi); refine (weight_any _ (.node x ik iv y) _ (hi.drewN _) (by unfold big; simp only [BT.size]; omega)).mono ?_; rintro e w' ⟨rfl, rfl⟩) | (go_at_call_of 86 (po); refine (weight_any _ o _ (ho.drewN _) (by unfold big; omega)).mono ?_; rintro e w' ⟨rfl, rfl⟩))
  generalize Value.bool (decide (↑(x.node ik iv y).size + 1 < 2 * ((o.size : Int) + 1))) = u22
  refine wp_region_grow (by kernel_rfl) (by kernel_rfl) (by kernel_rfl) (fun xs => { tmps := (Value.pointer (some (⟨b, 0, none⟩ : Addr)) :: Value.agg #[Value.int IntKind.i64 k, Value.pointer v] :: Value.pointer ph :: undef :: Value.pointer (some (⟨w.heap.size, 0, none⟩ : Addr)) :: undef :: xs 22 :: Value.pointer (some (⟨bi, 0, none⟩ : Addr)) :: Value.pointer po :: Value.pointer (some (⟨b, 0, none⟩ : Addr)) :: Value.pointer (some (⟨b, 0, none⟩ : Addr)) :: Value.pointer (some (⟨b, 4, none⟩ : Addr)) :: Value.pointer (some (⟨bi, 0, none⟩ : Addr)) :: Value.pointer (some (⟨b, 0, none⟩ : Addr)) :: Value.pointer (some (⟨b, 0, none⟩ : Addr)) :: Value.pointer (some (⟨b, 3, none⟩ : Addr)) :: Value.pointer po :: Value.pointer (some (⟨bi, 0, none⟩ : Addr)) :: Value.int IntKind.i64 (↑(x.node ik iv y).size + 1) :: Value.pointer po :: Value.int IntKind.i64 ((o.size : Int) + 1) :: Value.int IntKind.i64 (2 * ((o.size : Int) + 1)) :: u22 :: undef :: undef :: undef :: undef :: undef :: undef :: undef :: undef :: undef :: undef :: xs 0 :: xs 1 :: xs 2 :: xs 3 :: xs 4 :: xs 5 :: xs 6 :: xs 7 :: xs 8 :: xs 9 :: xs 10 :: xs 11 :: xs 12 :: xs 13 :: xs 14 :: xs 15 :: xs 16 :: xs 17 :: xs 18 :: xs 19 :: xs 20 :: xs 21 :: []).toArray, defers := [] })
    (fun ii xx WW => match ii with | 0 => xx = Value.pointer po | 1 => xx = Value.pointer (some (⟨b, 0, none⟩ : Addr)) | 2 => xx = Value.pointer (some (⟨b, 0, none⟩ : Addr)) | 3 => xx = Value.pointer (some (⟨b, 0, none⟩ : Addr)) | 4 => xx = Value.agg #[Value.int IntKind.i64 rk, (Value.pointer rv)] | 5 => xx = Value.pointer (some (⟨bi, 0, none⟩ : Addr)) | 6 => xx = Value.pointer (some (⟨bi, 0, none⟩ : Addr)) | 7 => xx = Value.pointer (some (⟨bi, 3, none⟩ : Addr)) | 8 => xx = Value.pointer px | 9 => ∃ p, xx = .pointer p ∧ T WW p (.node o rk rv x) | 10 => xx = Value.pointer (some (⟨bi, 0, none⟩ : Addr)) | 11 => xx = Value.pointer (some (⟨bi, 0, none⟩ : Addr)) | 12 => xx = Value.pointer (some (⟨bi, 0, none⟩ : Addr)) | 13 => xx = Value.agg #[Value.int IntKind.i64 ik, (Value.pointer iv)] | 14 => xx = Value.pointer (some (⟨bi, 0, none⟩ : Addr)) | 15 => xx = Value.pointer (some (⟨bi, 0, none⟩ : Addr)) | 16 => xx = Value.pointer (some (⟨bi, 4, none⟩ : Addr)) | 17 => xx = Value.pointer py | 18 => xx = Value.agg #[Value.int IntKind.i64 k, (Value.pointer v)] | 19 => xx = Value.pointer ph | 20 => ∃ p, xx = .pointer p ∧ T WW p (.node y k v l) | 21 => ∃ p, xx = .pointer p ∧ T WW p (.node (.node o rk rv x) ik iv (.node y k v l)) | 22 => ∃ p, xx = .pointer p ∧ T WW p (.node (.node o rk rv x) ik iv (.node y k v l)) | _ => True) (fun | 22 => Value.pointer none | _ => undef) (by repeat (first | exact trivial | refine ⟨fun _ _ => rfl, ?_⟩))
    (by intro i x w w' h hs; (try dsimp only at hs ⊢); split at hs <;> first | exact hs | exact trivial | (obtain ⟨p, hp, ht⟩ := hs; exact ⟨p, hp, ht.grow h⟩)) ⟨?_, ?_, ?_, ?_, ?_, ?_, ?_, ?_, ?_, ?_, ?_, ?_, ?_, ?_, ?_, ?_, ?_, ?_, ?_, ?_, ?_, ?_, ?_, trivial⟩ ?_
  · intro xs W hB hp K hK
    clear hp
    go_simp
    exact hK _ _ (Below.refl _ _) rfl
  · intro xs W hB hp K hK
    clear hp
    go_simp
    exact hK _ _ (Below.refl _ _) rfl
  · intro xs W hB hp K hK
    have h1 : xs 1 = Value.pointer (some (⟨b, 0, none⟩ : Addr)) := hp.1 rfl
    clear hp
    simp only [h1] at hK
    go_simp
    exact hK _ _ (Below.refl _ _) rfl
  · intro xs W hB hp K hK
    have h2 : xs 2 = Value.pointer (some (⟨b, 0, none⟩ : Addr)) := hp.1 rfl
    clear hp
    simp only [h2] at hK
    go_simp
    exact hK _ _ (Below.refl _ _) rfl
  · intro xs W hB hp K hK
    have h3 : xs 3 = Value.pointer (some (⟨b, 0, none⟩ : Addr)) := hp.1 rfl
    clear hp
    simp only [h3] at hK
    have cc0 := (hB.cell (p := ⟨b, 0, none⟩) hb1).trans c0
    have cc1 := (hB.cell (p := ⟨b, 1, none⟩) hb1).trans c1
    go_simp
    exact hK _ _ (Below.refl _ _) rfl
  · intro xs W hB hp K hK
    clear hp
    go_simp
    exact hK _ _ (Below.refl _ _) rfl
  · intro xs W hB hp K hK
    have h5 : xs 5 = Value.pointer (some (⟨bi, 0, none⟩ : Addr)) := hp.1 rfl
    clear hp
    simp only [h5] at hK
    go_simp
    exact hK _ _ (Below.refl _ _) rfl
  · intro xs W hB hp K hK
    have h6 : xs 6 = Value.pointer (some (⟨bi, 0, none⟩ : Addr)) := hp.1 rfl
    clear hp
    simp only [h6] at hK
    go_simp
    exact hK _ _ (Below.refl _ _) rfl
  · intro xs W hB hp K hK
    have h7 : xs 7 = Value.pointer (some (⟨bi, 3, none⟩ : Addr)) := hp.1 rfl
    clear hp
    simp only [h7] at hK
    have cc0 := (hB.cell (p := ⟨bi, 3, none⟩) hbi).trans d3
    go_simp
    exact hK _ _ (Below.refl _ _) rfl
  · intro xs W hB hp K hK
    have h0 : xs 0 = Value.pointer po := hp.1 rfl
    have h4 : xs 4 = Value.agg #[Value.int IntKind.i64 rk, (Value.pointer rv)] := hp.2.1 rfl
    have h8 : xs 8 = Value.pointer px := hp.2.2.1 rfl
    clear hp
    simp only [h0, h4, h8] at hK
    go_simp
    refine (join_any po px o x rk rv _ ((ho.drewN nq).grow hB) ((T.drewN (W := W1) hx nq).grow hB) (by unfold big; (try simp only [BT.size]); omega)).mono ?_
    rintro e w' ⟨p, rfl, ht, hb'⟩
    exact hK _ _ hb' ⟨p, rfl, ht⟩
  · intro xs W hB hp K hK
    clear hp
    go_simp
    exact hK _ _ (Below.refl _ _) rfl
  · intro xs W hB hp K hK
    have h10 : xs 10 = Value.pointer (some (⟨bi, 0, none⟩ : Addr)) := hp.1 rfl
    clear hp
    simp only [h10] at hK
    go_simp
    exact hK _ _ (Below.refl _ _) rfl
  · intro xs W hB hp K hK
    have h11 : xs 11 = Value.pointer (some (⟨bi, 0, none⟩ : Addr)) := hp.1 rfl
    clear hp
    simp only [h11] at hK
    go_simp
    exact hK _ _ (Below.refl _ _) rfl
  · intro xs W hB hp K hK
    have h12 : xs 12 = Value.pointer (some (⟨bi, 0, none⟩ : Addr)) := hp.1 rfl
    clear hp
    simp only [h12] at hK
    have cc0 := (hB.cell (p := ⟨bi, 0, none⟩) hbi).trans d0
    have cc1 := (hB.cell (p := ⟨bi, 1, none⟩) hbi).trans d1
    go_simp
    exact hK _ _ (Below.refl _ _) rfl
  · intro xs W hB hp K hK
    clear hp
    go_simp
    exact hK _ _ (Below.refl _ _) rfl
  · intro xs W hB hp K hK
    have h14 : xs 14 = Value.pointer (some (⟨bi, 0, none⟩ : Addr)) := hp.1 rfl
    clear hp
    simp only [h14] at hK
    go_simp
    exact hK _ _ (Below.refl _ _) rfl
  · intro xs W hB hp K hK
    have h15 : xs 15 = Value.pointer (some (⟨bi, 0, none⟩ : Addr)) := hp.1 rfl
    clear hp
    simp only [h15] at hK
    go_simp
    exact hK _ _ (Below.refl _ _) rfl
  · intro xs W hB hp K hK
    have h16 : xs 16 = Value.pointer (some (⟨bi, 4, none⟩ : Addr)) := hp.1 rfl
    clear hp
    simp only [h16] at hK
    have cc0 := (hB.cell (p := ⟨bi, 4, none⟩) hbi).trans d4
    go_simp
    exact hK _ _ (Below.refl _ _) rfl
  · intro xs W hB hp K hK
    clear hp
    have cc0 := (hB.cell (p := ⟨w.heap.size, 0, none⟩) hlt).trans e0
    have cc1 := (hB.cell (p := ⟨w.heap.size, 1, none⟩) hlt).trans e1
    go_simp
    exact hK _ _ (Below.refl _ _) rfl
  · intro xs W hB hp K hK
    clear hp
    go_simp
    exact hK _ _ (Below.refl _ _) rfl
  · intro xs W hB hp K hK
    have h17 : xs 17 = Value.pointer py := hp.1 rfl
    have h18 : xs 18 = Value.agg #[Value.int IntKind.i64 k, (Value.pointer v)] := hp.2.1 rfl
    have h19 : xs 19 = Value.pointer ph := hp.2.2.1 rfl
    clear hp
    simp only [h17, h18, h19] at hK
    go_simp
    refine (join_any py ph y l k v _ ((T.drewN (W := W1) hy nq).grow hB) ((hl.drewN nq).grow hB) (by unfold big; (try simp only [BT.size]); omega)).mono ?_
    rintro e w' ⟨p, rfl, ht, hb'⟩
    exact hK _ _ hb' ⟨p, rfl, ht⟩
  · intro xs W hB hp K hK
    obtain ⟨p9, h9, ht9⟩ : ∃ p, xs 9 = .pointer p ∧ T W p (.node o rk rv x) := hp.1 rfl
    have h13 : xs 13 = Value.agg #[Value.int IntKind.i64 ik, (Value.pointer iv)] := hp.2.1 rfl
    obtain ⟨p20, h20, ht20⟩ : ∃ p, xs 20 = .pointer p ∧ T W p (.node y k v l) := hp.2.2.1 rfl
    clear hp
    simp only [h9, h13, h20] at hK
    go_simp
    refine (join_any _ _ _ _ ik iv _ ht9 ht20 (by unfold big; (try simp only [BT.size]); omega)).mono ?_
    rintro e w' ⟨p, rfl, ht, hb'⟩
    exact hK _ _ hb' ⟨p, rfl, ht⟩
  · intro xs W hB hp K hK
    obtain ⟨p21, h21, ht21⟩ : ∃ p, xs 21 = .pointer p ∧ T W p (.node (.node o rk rv x) ik iv (.node y k v l)) := hp.1 rfl
    clear hp
    simp only [h21] at hK
    go_simp
    exact hK _ _ (Below.refl _ _) ⟨_, rfl, ht21⟩
  · intro xs W hB hs
    obtain ⟨p, h, ht⟩ : ∃ p, xs 22 = .pointer p ∧ T W p (.node (.node o rk rv x) ik iv (.node y k v l)) := hs 22 (by simp)
    simp only [h]
    go_wp2
    go_ret
    exact ⟨_, rfl, ht, (dn hB0 nq).trans (hB.mono (dn hB0 nq).size)⟩

theorem turnLow_any (pl ph : Option Addr) (l r : BT (Option Addr)) (k : Int) (v : (Option Addr)) (w : World) (hl : T w pl l) (hr : T w ph r) (hz : l.size + r.size + 10 < big) (hc : 0 < r.size) :
    Calls Try.prog 87 #[.pointer pl, .agg #[.int .i64 k, (Value.pointer v)], .pointer ph] w fun e w' => ∃ p, e = .returned (.pointer p) ∧ T w' p (turnLow l k v r) ∧ Below w.heap.size w w' := by
  cases r with
  | nil => simp [BT.size] at hc
  | node i rk rv o =>
    simp only [BT.size] at hz
    by_cases h : i.size + 1 < 2 * (o.size + 1)
    · simp only [turnLow, if_pos h]
      exact turnLow_one pl ph l i o k v rk rv w hl hr (by omega) h
    · cases i with
      | nil => simp only [BT.size] at h; omega
      | node x ik iv y =>
        simp only [turnLow, if_neg h]
        simp only [BT.size] at hz
        exact turnLow_two pl ph l x y o k v ik iv rk rv w hl hr (by omega) h
theorem turnHigh_any (pl ph : Option Addr) (l r : BT (Option Addr)) (k : Int) (v : (Option Addr)) (w : World) (hl : T w pl l) (hr : T w ph r) (hz : l.size + r.size + 10 < big) (hc : 0 < l.size) :
    Calls Try.prog 88 #[.pointer pl, .agg #[.int .i64 k, (Value.pointer v)], .pointer ph] w fun e w' => ∃ p, e = .returned (.pointer p) ∧ T w' p (turnHigh l k v r) ∧ Below w.heap.size w w' := by
  cases l with
  | nil => simp [BT.size] at hc
  | node o lk lv i =>
    simp only [BT.size] at hz
    by_cases h : i.size + 1 < 2 * (o.size + 1)
    · simp only [turnHigh, if_pos h]
      exact turnHigh_one pl ph r i o k v lk lv w hr hl (by omega) h
    · cases i with
      | nil => simp only [BT.size] at h; omega
      | node x ik iv y =>
        simp only [turnHigh, if_neg h]
        simp only [BT.size] at hz
        exact turnHigh_two pl ph r x y o k v ik iv lk lv w hr hl (by omega) h

set_option maxRecDepth 100000 in
set_option maxHeartbeats 1000000 in
theorem balance_any (pl pr : Option Addr) (l r : BT (Option Addr)) (k : Int) (v : (Option Addr)) (w : World) (hl : T w pl l) (hr : T w pr r) (hz : l.size + r.size + 10 < big) :
    Calls Try.prog 81 #[.pointer pl, .agg #[.int .i64 k, (Value.pointer v)], .pointer pr] w fun e w' => ∃ p, e = .returned (.pointer p) ∧ T w' p (bal l k v r) ∧ Below w.heap.size w w' := by
  have hbig := hz
  unfold big at hz
  have hB0 : Below w.heap.size w (w.alloc (.cells #[.int .i64 k, (Value.pointer v)] 116)) := (Below.refl _ _).alloc (Nat.le_refl _) _
  by_cases h1 : 3 * (l.size + 1) < r.size + 1
  · have hbal : Hid (bal l k v r = turnLow l k v r) := by show bal l k v r = _; unfold bal; rw [if_pos h1]
    go_enter Try.func81, Try.ntmps81
    go_wp2_with (first
      | (go_at_call_of 86 (pr); refine (weight_any _ r _ (hr.grow hB0) (by unfold big; omega)).mono ?_; rintro e w' ⟨rfl, rfl⟩)
      | (go_at_call_of 86 (pl); refine (weight_any _ l _ (hl.grow hB0) (by unfold big; omega)).mono ?_; rintro e w' ⟨rfl, rfl⟩)
      | (go_at_call 87; refine (turnLow_any pl pr l r k v _ (hl.grow hB0) (hr.grow hB0) hbig (by omega)).mono ?_; rintro e w' ⟨p, rfl, ht, hb⟩))
    go_ret
    exact ⟨p, rfl, by rw [hbal.out]; exact ht, hB0.trans (hb.mono hB0.size)⟩
  · by_cases h2 : 3 * (r.size + 1) < l.size + 1
    · have hbal : Hid (bal l k v r = turnHigh l k v r) := by show bal l k v r = _; unfold bal; rw [if_neg h1, if_pos h2]
      go_enter Try.func81, Try.ntmps81
      go_wp2_with (first
        | (go_at_call_of 86 (pr); refine (weight_any _ r _ (hr.grow hB0) (by unfold big; omega)).mono ?_; rintro e w' ⟨rfl, rfl⟩)
        | (go_at_call_of 86 (pl); refine (weight_any _ l _ (hl.grow hB0) (by unfold big; omega)).mono ?_; rintro e w' ⟨rfl, rfl⟩)
        | (go_at_call 88; refine (turnHigh_any pl pr l r k v _ (hl.grow hB0) (hr.grow hB0) hbig (by omega)).mono ?_; rintro e w' ⟨p, rfl, ht, hb⟩))
      go_ret
      exact ⟨p, rfl, by rw [hbal.out]; exact ht, hB0.trans (hb.mono hB0.size)⟩
    · have hbal : Hid (bal l k v r = .node l k v r) := by show bal l k v r = _; unfold bal; rw [if_neg h1, if_neg h2]
      go_enter Try.func81, Try.ntmps81
      go_wp2_with (first
        | (go_at_call_of 86 (pr); refine (weight_any _ r _ (hr.grow hB0) (by unfold big; omega)).mono ?_; rintro e w' ⟨rfl, rfl⟩)
        | (go_at_call_of 86 (pl); refine (weight_any _ l _ (hl.grow hB0) (by unfold big; omega)).mono ?_; rintro e w' ⟨rfl, rfl⟩)
        | (go_at_call 80; refine (join_any pl pr l r k v _ (hl.grow hB0) (hr.grow hB0) (by unfold big; omega)).mono ?_; rintro e w' ⟨p, rfl, ht, hb⟩))
      go_ret
      exact ⟨p, rfl, by rw [hbal.out]; exact ht, hB0.trans (hb.mono hB0.size)⟩

end Go.Proofs.Ytoihfhlelbdboab.Pp
