/- The contracts of hold's merge and without, and of a table's calls that range over nothing. For every tree of fewer than 2^40 entries. -/
import Derived.Test.YtgafmckiomhceaaWalkC
namespace Go.Proofs.Ytgafmckiomhceaa
open Go.RowKit Go.Hold Go.Inv

def DelOK (t : BT Int) : Prop := ∀ (k : Int) (p : Option Addr) (w : World), T w p t → t.size + 20 < big →
    Calls Try.prog 40 #[.pointer p, .int .i64 k] w fun e w' => ∃ q, e = .returned (.pointer q) ∧ T w' q (del t k) ∧ Below w.heap.size w w'

set_option maxHeartbeats 1000000 in
theorem merge_node (l a d : BT Int) (k2 v2 : Int) (hd : DelOK (.node a k2 v2 d)) (pl pr : Option Addr) (w : World) (hl : T w pl l) (hr : T w pr (.node a k2 v2 d)) (hz : l.size + (BT.node a k2 v2 d).size + 20 < big) :
    Calls Try.prog 46 #[.pointer pl, .pointer pr] w fun e w' => ∃ q, e = .returned (.pointer q) ∧ T w' q (mergeW l (.node a k2 v2 d) (del (.node a k2 v2 d))) ∧ Below w.heap.size w w' := by
  unfold big at hz
  obtain ⟨b, rfl⟩ : ∃ b, pr = some ⟨b, 0, none⟩ := by obtain ⟨b, _, _, h, _⟩ := hr; exact ⟨b, h⟩
  go_enter Try.func46, Try.ntmps46
  go_wp2_with (go_at_call 53; refine (least_any _ a k2 v2 d _ hr).mono ?_; rintro e w1 ⟨rfl, hb1⟩)
  have hzd := size_del (.node a k2 v2 d) (least a k2 v2).1
  obtain ⟨k, hk⟩ : ∃ k, (least a k2 v2).1 = k := ⟨_, rfl⟩
  obtain ⟨v, hv⟩ : ∃ v, (least a k2 v2).2 = v := ⟨_, rfl⟩
  rw [hk] at hzd
  have heq : Hid (mergeW l (.node a k2 v2 d) (del (.node a k2 v2 d)) = bal l k v (del (.node a k2 v2 d) k)) := by show _ = _; rw [← hk, ← hv]; rfl
  rw [hk, hv]
  clear hk hv
  obtain ⟨W1, hW1⟩ : ∃ W1, w1.alloc (.cells #[.int .i64 k, .int .i64 v] 79) = W1 := ⟨_, rfl⟩
  have hB1 : Below w1.heap.size w1 W1 := by rw [← hW1]; exact (Below.refl _ _).alloc (Nat.le_refl _) _
  have hB0 : Below w.heap.size w W1 := hb1.trans (hB1.mono hb1.size)
  have hlt : w1.heap.size < W1.heap.size := by rw [← hW1]; simp
  have e0 : W1.cell? ⟨w1.heap.size, 0, none⟩ = some (.int .i64 k) := by rw [← hW1]; exact cell_new _ _ _ _
  have e1 : W1.cell? ⟨w1.heap.size, 1, none⟩ = some (.int .i64 v) := by rw [← hW1]; exact cell_new _ _ _ _
  rw [hW1]
  clear hW1
  replace hl := hl.grow hB0
  replace hr := hr.grow hB0
  refine wp_region_grow (by kernel_rfl) (by kernel_rfl) (by kernel_rfl) (fun xs => { tmps := (Value.pointer pl :: Value.pointer (some (⟨b, 0, none⟩ : Addr)) :: undef :: undef :: xs 7 :: Value.pointer (some (⟨w1.heap.size, 0, none⟩ : Addr)) :: Value.pointer (some (⟨b, 0, none⟩ : Addr)) :: Value.bool false :: undef :: Value.pointer (some (⟨b, 0, none⟩ : Addr)) :: Value.agg #[Value.int IntKind.i64 k, Value.int IntKind.i64 v] :: xs 0 :: xs 1 :: xs 2 :: xs 3 :: xs 4 :: xs 5 :: xs 6 :: []).toArray, defers := [] })
    (fun ii xx WW => match ii with | 0 => xx = Value.pointer pl | 1 => xx = Value.agg #[Value.int IntKind.i64 k, Value.int IntKind.i64 v] | 2 => xx = Value.pointer (some (⟨b, 0, none⟩ : Addr)) | 3 => xx = Value.pointer (some (⟨w1.heap.size, 0, none⟩ : Addr)) | 4 => xx = Value.int IntKind.i64 k | 5 => ∃ p, xx = .pointer p ∧ T WW p (del (.node a k2 v2 d) k) | 6 => ∃ p, xx = .pointer p ∧ T WW p (bal l k v (del (.node a k2 v2 d) k)) | 7 => ∃ p, xx = .pointer p ∧ T WW p (bal l k v (del (.node a k2 v2 d) k)) | _ => True) (fun | 7 => Value.pointer none | _ => undef) (by repeat (first | exact trivial | refine ⟨fun _ _ => rfl, ?_⟩))
    (by intro i x w w' h hs; (try dsimp only at hs ⊢); split at hs <;> first | exact hs | exact trivial | (obtain ⟨p, hp, ht⟩ := hs; exact ⟨p, hp, ht.grow h⟩)) ⟨?_, ?_, ?_, ?_, ?_, ?_, ?_, ?_, trivial⟩ ?_
  · intro xs W hB hp K hK
    clear hp
    go_simp
    exact hK _ _ (Below.refl _ _) rfl
  · intro xs W hB hp K hK
    clear hp
    have cc0 := (hB.cell (p := ⟨w1.heap.size, 0, none⟩) hlt).trans e0
    have cc1 := (hB.cell (p := ⟨w1.heap.size, 1, none⟩) hlt).trans e1
    go_simp
    exact hK _ _ (Below.refl _ _) rfl
  · intro xs W hB hp K hK
    clear hp
    go_simp
    exact hK _ _ (Below.refl _ _) rfl
  · intro xs W hB hp K hK
    clear hp
    go_simp
    exact hK _ _ (Below.refl _ _) rfl
  · intro xs W hB hp K hK
    have h3 : xs 3 = Value.pointer (some (⟨w1.heap.size, 0, none⟩ : Addr)) := hp.1 rfl
    clear hp
    simp only [h3] at hK
    have cc0 := (hB.cell (p := ⟨w1.heap.size, 0, none⟩) hlt).trans e0
    go_simp
    exact hK _ _ (Below.refl _ _) rfl
  · intro xs W hB hp K hK
    have h2 : xs 2 = Value.pointer (some (⟨b, 0, none⟩ : Addr)) := hp.1 rfl
    have h4 : xs 4 = Value.int IntKind.i64 k := hp.2.1 rfl
    clear hp
    simp only [h2, h4] at hK
    go_simp
    refine (hd k _ _ (hr.grow hB) (by unfold big; omega)).mono ?_
    rintro e w' ⟨p, rfl, ht, hb'⟩
    exact hK _ _ hb' ⟨p, rfl, ht⟩
  · intro xs W hB hp K hK
    have h0 : xs 0 = Value.pointer pl := hp.1 rfl
    have h1 : xs 1 = Value.agg #[Value.int IntKind.i64 k, Value.int IntKind.i64 v] := hp.2.1 rfl
    obtain ⟨p5, h5, ht5⟩ : ∃ p, xs 5 = .pointer p ∧ T W p (del (.node a k2 v2 d) k) := hp.2.2.1 rfl
    clear hp
    simp only [h0, h1, h5] at hK
    go_simp
    refine (balance_any pl _ l _ k v _ (hl.grow hB) ht5 (by unfold big; omega)).mono ?_
    rintro e w' ⟨p, rfl, ht, hb'⟩
    exact hK _ _ hb' ⟨p, rfl, ht⟩
  · intro xs W hB hp K hK
    obtain ⟨p6, h6, ht6⟩ : ∃ p, xs 6 = .pointer p ∧ T W p (bal l k v (del (.node a k2 v2 d) k)) := hp.1 rfl
    clear hp
    simp only [h6] at hK
    go_simp
    exact hK _ _ (Below.refl _ _) ⟨_, rfl, ht6⟩
  · intro xs W hB hs
    obtain ⟨p, h, ht⟩ : ∃ p, xs 7 = .pointer p ∧ T W p (bal l k v (del (.node a k2 v2 d) k)) := hs 7 (by simp)
    simp only [h]
    go_wp2
    go_ret
    exact ⟨_, rfl, by rw [heq.out]; exact ht, hB0.trans (hB.mono hB0.size)⟩

set_option maxHeartbeats 400000 in
theorem merge_nil (l : BT Int) (pl : Option Addr) (w : World) (hl : T w pl l) :
    Calls Try.prog 46 #[.pointer pl, .pointer none] w fun e w' => ∃ q, e = .returned (.pointer q) ∧ T w' q (mergeW l .nil (del .nil)) ∧ Below w.heap.size w w' := by
  go_enter Try.func46, Try.ntmps46
  go_wp2
  go_ret
  exact ⟨_, rfl, hl, Below.refl _ _⟩
theorem merge_any (l r : BT Int) (hd : DelOK r) (pl pr : Option Addr) (w : World) (hl : T w pl l) (hr : T w pr r) (hz : l.size + r.size + 20 < big) :
    Calls Try.prog 46 #[.pointer pl, .pointer pr] w fun e w' => ∃ q, e = .returned (.pointer q) ∧ T w' q (mergeW l r (del r)) ∧ Below w.heap.size w w' := by
  cases r with
  | nil => obtain rfl : pr = none := hr; exact merge_nil l pl w hl
  | node a k2 v2 d => exact merge_node l a d k2 v2 hd pl pr w hl hr hz

set_option maxHeartbeats 1000000 in
theorem without_low (l r : BT Int) (k' v' : Int) (ihl : DelOK l) (k : Int) (hk : k < k') (p : Option Addr) (w : World) (ht : T w p (.node l k' v' r)) (hz : (BT.node l k' v' r).size + 20 < big) :
    Calls Try.prog 40 #[.pointer p, .int .i64 k] w fun e w' => ∃ q, e = .returned (.pointer q) ∧ T w' q (del (.node l k' v' r) k) ∧ Below w.heap.size w w' := by
  unfold big at hz
  simp only [BT.size] at hz
  obtain ⟨b, pl, pr, rfl, hb, c0, c1, c2, c3, c4, hl, hr⟩ := ht
  replace hl : T w pl l := hl
  replace hr : T w pr r := hr
  clear c2
  have heq : Hid (del (.node l k' v' r) k = (bal (del l k) k' v' r)) := by show _ = _; simp only [del]; rw [if_pos hk]
  go_enter Try.func40, Try.ntmps40
  go_wp2
  refine wp_region_grow (by kernel_rfl) (by kernel_rfl) (by kernel_rfl) (fun xs => { tmps := (Value.pointer (some (⟨b, 0, none⟩ : Addr)) :: Value.int IntKind.i64 k :: undef :: undef :: xs 15 :: Value.bool false :: Value.pointer (some (⟨b, 0, none⟩ : Addr)) :: Value.bool false :: Value.bool true :: Value.int IntKind.i64 k :: Value.pointer (some (⟨b, 0, none⟩ : Addr)) :: Value.pointer (some (⟨b, 0, none⟩ : Addr)) :: Value.pointer (some (⟨b, 0, none⟩ : Addr)) :: Value.pointer (some (⟨b, 0, none⟩ : Addr)) :: Value.int IntKind.i64 k' :: Value.bool true :: xs 0 :: xs 1 :: xs 2 :: xs 3 :: xs 4 :: xs 5 :: xs 6 :: xs 7 :: xs 8 :: xs 9 :: xs 10 :: xs 11 :: xs 12 :: xs 13 :: xs 14 :: undef :: undef :: undef :: undef :: undef :: undef :: undef :: undef :: undef :: undef :: undef :: undef :: undef :: undef :: undef :: undef :: undef :: undef :: undef :: undef :: undef :: undef :: undef :: undef :: undef :: undef :: undef :: undef :: undef :: undef :: undef :: undef :: []).toArray, defers := [] })
    (fun ii xx WW => match ii with | 0 => xx = Value.pointer (some (⟨b, 0, none⟩ : Addr)) | 1 => xx = Value.pointer (some (⟨b, 0, none⟩ : Addr)) | 2 => xx = Value.pointer (some (⟨b, 3, none⟩ : Addr)) | 3 => xx = Value.pointer pl | 4 => xx = Value.int IntKind.i64 k | 5 => ∃ p, xx = .pointer p ∧ T WW p (del l k) | 6 => xx = Value.pointer (some (⟨b, 0, none⟩ : Addr)) | 7 => xx = Value.pointer (some (⟨b, 0, none⟩ : Addr)) | 8 => xx = Value.pointer (some (⟨b, 0, none⟩ : Addr)) | 9 => xx = Value.agg #[Value.int IntKind.i64 k', Value.int IntKind.i64 v'] | 10 => xx = Value.pointer (some (⟨b, 0, none⟩ : Addr)) | 11 => xx = Value.pointer (some (⟨b, 0, none⟩ : Addr)) | 12 => xx = Value.pointer (some (⟨b, 4, none⟩ : Addr)) | 13 => xx = Value.pointer pr | 14 => ∃ p, xx = .pointer p ∧ T WW p (bal (del l k) k' v' r) | 15 => ∃ p, xx = .pointer p ∧ T WW p (bal (del l k) k' v' r) | _ => True) (fun | 15 => Value.pointer none | _ => undef) (by repeat (first | exact trivial | refine ⟨fun _ _ => rfl, ?_⟩))
    (by intro i x w w' h hs; (try dsimp only at hs ⊢); split at hs <;> first | exact hs | exact trivial | (obtain ⟨p, hp, ht⟩ := hs; exact ⟨p, hp, ht.grow h⟩)) ⟨?_, ?_, ?_, ?_, ?_, ?_, ?_, ?_, ?_, ?_, ?_, ?_, ?_, ?_, ?_, ?_, trivial⟩ ?_
  · intro xs W hB hp K hK
    clear hp
    go_simp
    exact hK _ _ (Below.refl _ _) rfl
  · intro xs W hB hp K hK
    have h0 : xs 0 = Value.pointer (some (⟨b, 0, none⟩ : Addr)) := hp.1 rfl
    clear hp
    simp only [h0] at hK
    go_simp
    exact hK _ _ (Below.refl _ _) rfl
  · intro xs W hB hp K hK
    have h1 : xs 1 = Value.pointer (some (⟨b, 0, none⟩ : Addr)) := hp.1 rfl
    clear hp
    simp only [h1] at hK
    go_simp
    exact hK _ _ (Below.refl _ _) rfl
  · intro xs W hB hp K hK
    have h2 : xs 2 = Value.pointer (some (⟨b, 3, none⟩ : Addr)) := hp.1 rfl
    clear hp
    simp only [h2] at hK
    have cc0 := (hB.cell (p := ⟨b, 3, none⟩) hb).trans c3
    go_simp
    exact hK _ _ (Below.refl _ _) rfl
  · intro xs W hB hp K hK
    clear hp
    go_simp
    exact hK _ _ (Below.refl _ _) rfl
  · intro xs W hB hp K hK
    have h3 : xs 3 = Value.pointer pl := hp.1 rfl
    have h4 : xs 4 = Value.int IntKind.i64 k := hp.2.1 rfl
    clear hp
    simp only [h3, h4] at hK
    go_simp
    refine (ihl k _ _ (hl.grow hB) (by unfold big; omega)).mono ?_
    rintro e w' ⟨p, rfl, ht, hb'⟩
    exact hK _ _ hb' ⟨p, rfl, ht⟩
  · intro xs W hB hp K hK
    clear hp
    go_simp
    exact hK _ _ (Below.refl _ _) rfl
  · intro xs W hB hp K hK
    have h6 : xs 6 = Value.pointer (some (⟨b, 0, none⟩ : Addr)) := hp.1 rfl
    clear hp
    simp only [h6] at hK
    go_simp
    exact hK _ _ (Below.refl _ _) rfl
  · intro xs W hB hp K hK
    have h7 : xs 7 = Value.pointer (some (⟨b, 0, none⟩ : Addr)) := hp.1 rfl
    clear hp
    simp only [h7] at hK
    go_simp
    exact hK _ _ (Below.refl _ _) rfl
  · intro xs W hB hp K hK
    have h8 : xs 8 = Value.pointer (some (⟨b, 0, none⟩ : Addr)) := hp.1 rfl
    clear hp
    simp only [h8] at hK
    have cc0 := (hB.cell (p := ⟨b, 0, none⟩) hb).trans c0
    have cc1 := (hB.cell (p := ⟨b, 1, none⟩) hb).trans c1
    go_simp
    exact hK _ _ (Below.refl _ _) rfl
  · intro xs W hB hp K hK
    clear hp
    go_simp
    exact hK _ _ (Below.refl _ _) rfl
  · intro xs W hB hp K hK
    have h10 : xs 10 = Value.pointer (some (⟨b, 0, none⟩ : Addr)) := hp.1 rfl
    clear hp
    simp only [h10] at hK
    go_simp
    exact hK _ _ (Below.refl _ _) rfl
  · intro xs W hB hp K hK
    have h11 : xs 11 = Value.pointer (some (⟨b, 0, none⟩ : Addr)) := hp.1 rfl
    clear hp
    simp only [h11] at hK
    go_simp
    exact hK _ _ (Below.refl _ _) rfl
  · intro xs W hB hp K hK
    have h12 : xs 12 = Value.pointer (some (⟨b, 4, none⟩ : Addr)) := hp.1 rfl
    clear hp
    simp only [h12] at hK
    have cc0 := (hB.cell (p := ⟨b, 4, none⟩) hb).trans c4
    go_simp
    exact hK _ _ (Below.refl _ _) rfl
  · intro xs W hB hp K hK
    obtain ⟨p5, h5, ht5⟩ : ∃ p, xs 5 = .pointer p ∧ T W p (del l k) := hp.1 rfl
    have h9 : xs 9 = Value.agg #[Value.int IntKind.i64 k', Value.int IntKind.i64 v'] := hp.2.1 rfl
    have h13 : xs 13 = Value.pointer pr := hp.2.2.1 rfl
    clear hp
    simp only [h5, h9, h13] at hK
    have hzd := size_del l k
    go_simp
    refine (balance_any _ pr _ r k' v' _ ht5 (hr.grow hB) (by unfold big; omega)).mono ?_
    rintro e w' ⟨p, rfl, ht, hb'⟩
    exact hK _ _ hb' ⟨p, rfl, ht⟩
  · intro xs W hB hp K hK
    obtain ⟨p14, h14, ht14⟩ : ∃ p, xs 14 = .pointer p ∧ T W p (bal (del l k) k' v' r) := hp.1 rfl
    clear hp
    simp only [h14] at hK
    go_simp
    exact hK _ _ (Below.refl _ _) ⟨_, rfl, ht14⟩
  · intro xs W hB hs
    obtain ⟨p, h, ht⟩ : ∃ p, xs 15 = .pointer p ∧ T W p (bal (del l k) k' v' r) := hs 15 (by simp)
    simp only [h]
    go_wp2
    go_ret
    exact ⟨_, rfl, by rw [heq.out]; exact ht, hB⟩

set_option maxHeartbeats 1000000 in
theorem without_high (l r : BT Int) (k' v' : Int) (ihr : DelOK r) (k : Int) (hk : ¬ k < k') (hk2 : k' < k) (p : Option Addr) (w : World) (ht : T w p (.node l k' v' r)) (hz : (BT.node l k' v' r).size + 20 < big) :
    Calls Try.prog 40 #[.pointer p, .int .i64 k] w fun e w' => ∃ q, e = .returned (.pointer q) ∧ T w' q (del (.node l k' v' r) k) ∧ Below w.heap.size w w' := by
  unfold big at hz
  simp only [BT.size] at hz
  obtain ⟨b, pl, pr, rfl, hb, c0, c1, c2, c3, c4, hl, hr⟩ := ht
  replace hl : T w pl l := hl
  replace hr : T w pr r := hr
  clear c2
  have heq : Hid (del (.node l k' v' r) k = (bal l k' v' (del r k))) := by show _ = _; simp only [del]; rw [if_neg hk, if_pos hk2]
  go_enter Try.func40, Try.ntmps40
  go_wp2
  refine wp_region_grow (by kernel_rfl) (by kernel_rfl) (by kernel_rfl) (fun xs => { tmps := (Value.pointer (some (⟨b, 0, none⟩ : Addr)) :: Value.int IntKind.i64 k :: undef :: undef :: xs 15 :: Value.bool false :: Value.pointer (some (⟨b, 0, none⟩ : Addr)) :: Value.bool false :: Value.bool false :: Value.int IntKind.i64 k :: Value.pointer (some (⟨b, 0, none⟩ : Addr)) :: Value.pointer (some (⟨b, 0, none⟩ : Addr)) :: Value.pointer (some (⟨b, 0, none⟩ : Addr)) :: Value.pointer (some (⟨b, 0, none⟩ : Addr)) :: Value.int IntKind.i64 k' :: Value.bool false :: undef :: undef :: undef :: undef :: undef :: undef :: undef :: undef :: undef :: undef :: undef :: undef :: undef :: undef :: undef :: Value.bool true :: Value.int IntKind.i64 k :: Value.pointer (some (⟨b, 0, none⟩ : Addr)) :: Value.pointer (some (⟨b, 0, none⟩ : Addr)) :: Value.pointer (some (⟨b, 0, none⟩ : Addr)) :: Value.pointer (some (⟨b, 0, none⟩ : Addr)) :: Value.int IntKind.i64 k' :: Value.bool true :: xs 0 :: xs 1 :: xs 2 :: xs 3 :: xs 4 :: xs 5 :: xs 6 :: xs 7 :: xs 8 :: xs 9 :: xs 10 :: xs 11 :: xs 12 :: xs 13 :: xs 14 :: undef :: undef :: undef :: undef :: undef :: undef :: undef :: undef :: undef :: []).toArray, defers := [] })
    (fun ii xx WW => match ii with | 0 => xx = Value.pointer (some (⟨b, 0, none⟩ : Addr)) | 1 => xx = Value.pointer (some (⟨b, 0, none⟩ : Addr)) | 2 => xx = Value.pointer (some (⟨b, 3, none⟩ : Addr)) | 3 => xx = Value.pointer pl | 4 => xx = Value.pointer (some (⟨b, 0, none⟩ : Addr)) | 5 => xx = Value.pointer (some (⟨b, 0, none⟩ : Addr)) | 6 => xx = Value.pointer (some (⟨b, 0, none⟩ : Addr)) | 7 => xx = Value.agg #[Value.int IntKind.i64 k', Value.int IntKind.i64 v'] | 8 => xx = Value.pointer (some (⟨b, 0, none⟩ : Addr)) | 9 => xx = Value.pointer (some (⟨b, 0, none⟩ : Addr)) | 10 => xx = Value.pointer (some (⟨b, 4, none⟩ : Addr)) | 11 => xx = Value.pointer pr | 12 => xx = Value.int IntKind.i64 k | 13 => ∃ p, xx = .pointer p ∧ T WW p (del r k) | 14 => ∃ p, xx = .pointer p ∧ T WW p (bal l k' v' (del r k)) | 15 => ∃ p, xx = .pointer p ∧ T WW p (bal l k' v' (del r k)) | _ => True) (fun | 15 => Value.pointer none | _ => undef) (by repeat (first | exact trivial | refine ⟨fun _ _ => rfl, ?_⟩))
    (by intro i x w w' h hs; (try dsimp only at hs ⊢); split at hs <;> first | exact hs | exact trivial | (obtain ⟨p, hp, ht⟩ := hs; exact ⟨p, hp, ht.grow h⟩)) ⟨?_, ?_, ?_, ?_, ?_, ?_, ?_, ?_, ?_, ?_, ?_, ?_, ?_, ?_, ?_, ?_, trivial⟩ ?_
  · intro xs W hB hp K hK
    clear hp
    go_simp
    exact hK _ _ (Below.refl _ _) rfl
  · intro xs W hB hp K hK
    have h0 : xs 0 = Value.pointer (some (⟨b, 0, none⟩ : Addr)) := hp.1 rfl
    clear hp
    simp only [h0] at hK
    go_simp
    exact hK _ _ (Below.refl _ _) rfl
  · intro xs W hB hp K hK
    have h1 : xs 1 = Value.pointer (some (⟨b, 0, none⟩ : Addr)) := hp.1 rfl
    clear hp
    simp only [h1] at hK
    go_simp
    exact hK _ _ (Below.refl _ _) rfl
  · intro xs W hB hp K hK
    have h2 : xs 2 = Value.pointer (some (⟨b, 3, none⟩ : Addr)) := hp.1 rfl
    clear hp
    simp only [h2] at hK
    have cc0 := (hB.cell (p := ⟨b, 3, none⟩) hb).trans c3
    go_simp
    exact hK _ _ (Below.refl _ _) rfl
  · intro xs W hB hp K hK
    clear hp
    go_simp
    exact hK _ _ (Below.refl _ _) rfl
  · intro xs W hB hp K hK
    have h4 : xs 4 = Value.pointer (some (⟨b, 0, none⟩ : Addr)) := hp.1 rfl
    clear hp
    simp only [h4] at hK
    go_simp
    exact hK _ _ (Below.refl _ _) rfl
  · intro xs W hB hp K hK
    have h5 : xs 5 = Value.pointer (some (⟨b, 0, none⟩ : Addr)) := hp.1 rfl
    clear hp
    simp only [h5] at hK
    go_simp
    exact hK _ _ (Below.refl _ _) rfl
  · intro xs W hB hp K hK
    have h6 : xs 6 = Value.pointer (some (⟨b, 0, none⟩ : Addr)) := hp.1 rfl
    clear hp
    simp only [h6] at hK
    have cc0 := (hB.cell (p := ⟨b, 0, none⟩) hb).trans c0
    have cc1 := (hB.cell (p := ⟨b, 1, none⟩) hb).trans c1
    go_simp
    exact hK _ _ (Below.refl _ _) rfl
  · intro xs W hB hp K hK
    clear hp
    go_simp
    exact hK _ _ (Below.refl _ _) rfl
  · intro xs W hB hp K hK
    have h8 : xs 8 = Value.pointer (some (⟨b, 0, none⟩ : Addr)) := hp.1 rfl
    clear hp
    simp only [h8] at hK
    go_simp
    exact hK _ _ (Below.refl _ _) rfl
  · intro xs W hB hp K hK
    have h9 : xs 9 = Value.pointer (some (⟨b, 0, none⟩ : Addr)) := hp.1 rfl
    clear hp
    simp only [h9] at hK
    go_simp
    exact hK _ _ (Below.refl _ _) rfl
  · intro xs W hB hp K hK
    have h10 : xs 10 = Value.pointer (some (⟨b, 4, none⟩ : Addr)) := hp.1 rfl
    clear hp
    simp only [h10] at hK
    have cc0 := (hB.cell (p := ⟨b, 4, none⟩) hb).trans c4
    go_simp
    exact hK _ _ (Below.refl _ _) rfl
  · intro xs W hB hp K hK
    clear hp
    go_simp
    exact hK _ _ (Below.refl _ _) rfl
  · intro xs W hB hp K hK
    have h11 : xs 11 = Value.pointer pr := hp.1 rfl
    have h12 : xs 12 = Value.int IntKind.i64 k := hp.2.1 rfl
    clear hp
    simp only [h11, h12] at hK
    go_simp
    refine (ihr k _ _ (hr.grow hB) (by unfold big; omega)).mono ?_
    rintro e w' ⟨p, rfl, ht, hb'⟩
    exact hK _ _ hb' ⟨p, rfl, ht⟩
  · intro xs W hB hp K hK
    have h3 : xs 3 = Value.pointer pl := hp.1 rfl
    have h7 : xs 7 = Value.agg #[Value.int IntKind.i64 k', Value.int IntKind.i64 v'] := hp.2.1 rfl
    obtain ⟨p13, h13, ht13⟩ : ∃ p, xs 13 = .pointer p ∧ T W p (del r k) := hp.2.2.1 rfl
    clear hp
    simp only [h3, h7, h13] at hK
    have hzd := size_del r k
    go_simp
    refine (balance_any pl _ l _ k' v' _ (hl.grow hB) ht13 (by unfold big; omega)).mono ?_
    rintro e w' ⟨p, rfl, ht, hb'⟩
    exact hK _ _ hb' ⟨p, rfl, ht⟩
  · intro xs W hB hp K hK
    obtain ⟨p14, h14, ht14⟩ : ∃ p, xs 14 = .pointer p ∧ T W p (bal l k' v' (del r k)) := hp.1 rfl
    clear hp
    simp only [h14] at hK
    go_simp
    exact hK _ _ (Below.refl _ _) ⟨_, rfl, ht14⟩
  · intro xs W hB hs
    obtain ⟨p, h, ht⟩ : ∃ p, xs 15 = .pointer p ∧ T W p (bal l k' v' (del r k)) := hs 15 (by simp)
    simp only [h]
    go_wp2
    go_ret
    exact ⟨_, rfl, by rw [heq.out]; exact ht, hB⟩

set_option maxHeartbeats 1000000 in
theorem without_eq (l r : BT Int) (k' v' : Int) (ihr : DelOK r) (k : Int) (hk : ¬ k < k') (hk2 : ¬ k' < k) (p : Option Addr) (w : World) (ht : T w p (.node l k' v' r)) (hz : (BT.node l k' v' r).size + 20 < big) :
    Calls Try.prog 40 #[.pointer p, .int .i64 k] w fun e w' => ∃ q, e = .returned (.pointer q) ∧ T w' q (del (.node l k' v' r) k) ∧ Below w.heap.size w w' := by
  unfold big at hz
  simp only [BT.size] at hz
  obtain ⟨b, pl, pr, rfl, hb, c0, c1, c2, c3, c4, hl, hr⟩ := ht
  replace hl : T w pl l := hl
  replace hr : T w pr r := hr
  clear c2
  have heq : Hid (del (.node l k' v' r) k = (mergeW l r (del r))) := by show _ = _; simp only [del]; rw [if_neg hk, if_neg hk2]
  go_enter Try.func40, Try.ntmps40
  go_wp2
  refine wp_region_grow (by kernel_rfl) (by kernel_rfl) (by kernel_rfl) (fun xs => { tmps := (Value.pointer (some (⟨b, 0, none⟩ : Addr)) :: Value.int IntKind.i64 k :: undef :: undef :: xs 9 :: Value.bool false :: Value.pointer (some (⟨b, 0, none⟩ : Addr)) :: Value.bool false :: Value.bool false :: Value.int IntKind.i64 k :: Value.pointer (some (⟨b, 0, none⟩ : Addr)) :: Value.pointer (some (⟨b, 0, none⟩ : Addr)) :: Value.pointer (some (⟨b, 0, none⟩ : Addr)) :: Value.pointer (some (⟨b, 0, none⟩ : Addr)) :: Value.int IntKind.i64 k' :: Value.bool false :: undef :: undef :: undef :: undef :: undef :: undef :: undef :: undef :: undef :: undef :: undef :: undef :: undef :: undef :: undef :: Value.bool false :: Value.int IntKind.i64 k :: Value.pointer (some (⟨b, 0, none⟩ : Addr)) :: Value.pointer (some (⟨b, 0, none⟩ : Addr)) :: Value.pointer (some (⟨b, 0, none⟩ : Addr)) :: Value.pointer (some (⟨b, 0, none⟩ : Addr)) :: Value.int IntKind.i64 k' :: Value.bool false :: undef :: undef :: undef :: undef :: undef :: undef :: undef :: undef :: undef :: undef :: undef :: undef :: undef :: undef :: undef :: xs 0 :: xs 1 :: xs 2 :: xs 3 :: xs 4 :: xs 5 :: xs 6 :: xs 7 :: xs 8 :: []).toArray, defers := [] })
    (fun ii xx WW => match ii with | 0 => xx = Value.pointer (some (⟨b, 0, none⟩ : Addr)) | 1 => xx = Value.pointer (some (⟨b, 0, none⟩ : Addr)) | 2 => xx = Value.pointer (some (⟨b, 3, none⟩ : Addr)) | 3 => xx = Value.pointer pl | 4 => xx = Value.pointer (some (⟨b, 0, none⟩ : Addr)) | 5 => xx = Value.pointer (some (⟨b, 0, none⟩ : Addr)) | 6 => xx = Value.pointer (some (⟨b, 4, none⟩ : Addr)) | 7 => xx = Value.pointer pr | 8 => ∃ p, xx = .pointer p ∧ T WW p (mergeW l r (del r)) | 9 => ∃ p, xx = .pointer p ∧ T WW p (mergeW l r (del r)) | _ => True) (fun | 9 => Value.pointer none | _ => undef) (by repeat (first | exact trivial | refine ⟨fun _ _ => rfl, ?_⟩))
    (by intro i x w w' h hs; (try dsimp only at hs ⊢); split at hs <;> first | exact hs | exact trivial | (obtain ⟨p, hp, ht⟩ := hs; exact ⟨p, hp, ht.grow h⟩)) ⟨?_, ?_, ?_, ?_, ?_, ?_, ?_, ?_, ?_, ?_, trivial⟩ ?_
  · intro xs W hB hp K hK
    clear hp
    go_simp
    exact hK _ _ (Below.refl _ _) rfl
  · intro xs W hB hp K hK
    have h0 : xs 0 = Value.pointer (some (⟨b, 0, none⟩ : Addr)) := hp.1 rfl
    clear hp
    simp only [h0] at hK
    go_simp
    exact hK _ _ (Below.refl _ _) rfl
  · intro xs W hB hp K hK
    have h1 : xs 1 = Value.pointer (some (⟨b, 0, none⟩ : Addr)) := hp.1 rfl
    clear hp
    simp only [h1] at hK
    go_simp
    exact hK _ _ (Below.refl _ _) rfl
  · intro xs W hB hp K hK
    have h2 : xs 2 = Value.pointer (some (⟨b, 3, none⟩ : Addr)) := hp.1 rfl
    clear hp
    simp only [h2] at hK
    have cc0 := (hB.cell (p := ⟨b, 3, none⟩) hb).trans c3
    go_simp
    exact hK _ _ (Below.refl _ _) rfl
  · intro xs W hB hp K hK
    clear hp
    go_simp
    exact hK _ _ (Below.refl _ _) rfl
  · intro xs W hB hp K hK
    have h4 : xs 4 = Value.pointer (some (⟨b, 0, none⟩ : Addr)) := hp.1 rfl
    clear hp
    simp only [h4] at hK
    go_simp
    exact hK _ _ (Below.refl _ _) rfl
  · intro xs W hB hp K hK
    have h5 : xs 5 = Value.pointer (some (⟨b, 0, none⟩ : Addr)) := hp.1 rfl
    clear hp
    simp only [h5] at hK
    go_simp
    exact hK _ _ (Below.refl _ _) rfl
  · intro xs W hB hp K hK
    have h6 : xs 6 = Value.pointer (some (⟨b, 4, none⟩ : Addr)) := hp.1 rfl
    clear hp
    simp only [h6] at hK
    have cc0 := (hB.cell (p := ⟨b, 4, none⟩) hb).trans c4
    go_simp
    exact hK _ _ (Below.refl _ _) rfl
  · intro xs W hB hp K hK
    have h3 : xs 3 = Value.pointer pl := hp.1 rfl
    have h7 : xs 7 = Value.pointer pr := hp.2.1 rfl
    clear hp
    simp only [h3, h7] at hK
    go_simp
    refine (merge_any l r ihr _ _ _ (hl.grow hB) (hr.grow hB) (by unfold big; omega)).mono ?_
    rintro e w' ⟨p, rfl, ht, hb'⟩
    exact hK _ _ hb' ⟨p, rfl, ht⟩
  · intro xs W hB hp K hK
    obtain ⟨p8, h8, ht8⟩ : ∃ p, xs 8 = .pointer p ∧ T W p (mergeW l r (del r)) := hp.1 rfl
    clear hp
    simp only [h8] at hK
    go_simp
    exact hK _ _ (Below.refl _ _) ⟨_, rfl, ht8⟩
  · intro xs W hB hs
    obtain ⟨p, h, ht⟩ : ∃ p, xs 9 = .pointer p ∧ T W p (mergeW l r (del r)) := hs 9 (by simp)
    simp only [h]
    go_wp2
    go_ret
    exact ⟨_, rfl, by rw [heq.out]; exact ht, hB⟩

set_option maxHeartbeats 400000 in
theorem without_nil : DelOK .nil := by
  intro k p w ht _
  obtain rfl : p = none := ht
  go_enter Try.func40, Try.ntmps40
  go_wp2
  go_ret
  exact ⟨_, rfl, rfl, Below.refl _ _⟩
theorem without_any : ∀ t : BT Int, DelOK t
  | .nil => without_nil
  | .node l k' v' r => by
    intro k p w ht hz
    by_cases h1 : k < k'
    · exact without_low l r k' v' (without_any l) k h1 p w ht hz
    · by_cases h2 : k' < k
      · exact without_high l r k' v' (without_any r) k h1 h2 p w ht hz
      · exact without_eq l r k' v' (without_any r) k h1 h2 p w ht hz

end Go.Proofs.Ytgafmckiomhceaa
