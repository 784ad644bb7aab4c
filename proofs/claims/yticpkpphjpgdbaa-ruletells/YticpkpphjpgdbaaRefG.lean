/- The reference's Check. -/
import Derived.Test.YticpkpphjpgdbaaWireC
import Derived.Test.YticpkpphjpgdbaaRefF
namespace Go.Proofs.Yticpkpphjpgdbaa
open Go.RowKit Go.Dig Go.Sha Go.Inv
set_option linter.unusedVariables false

set_option maxRecDepth 10000 in
set_option maxHeartbeats 1000000 in
theorem rCheck_low (rg n : Nat) (seed : Nat → Int) (i : Int) (P : List Int) (ao : Option Addr) (cap : Nat) (tag : Nat → Int) (w : World) (h : RRing w rg seed n) (hl : Rowed w ao P cap) (hz : P.length < 274877906944) (q : i < 0) :
    Calls Try.prog 71 #[.pointer (some ⟨rg, 0, none⟩), .int .i64 i, .slice ao P.length cap, .agg (row .u8 32 tag)] w fun e w' => e = .returned (.bool (checkB seed n i P tag)) ∧ Below w.heap.size w w' := by
  have HL : Hid (Rowed w ao P cap) := hl
  have HR : Hid (RRing w rg seed n) := h
  have Hc : Hid (checkB seed n i P tag = false) := by show _ = _; unfold checkB; rw [show hasB n i = false by simp [hasB]; omega]; rfl
  obtain ⟨kg, kc, hr0, _, _, _, _⟩ := h
  have hr1 := alloc_blk_old hr0 (.cells (row .u8 32 tag) 30)
  have hA := alloc_blk w (.cells (row .u8 32 tag) 30)
  have hBw := below_alloc w (.cells (row .u8 32 tag) 30)
  clear hl hr0
  go_enter Try.func71, Try.ntmps71
  go_wp2_with (refine wpList_box_row rfl 30 _ rfl _ rfl ?_)
  generalize w.alloc (.cells (row .u8 32 tag) 30) = w1 at *
  have HA : Hid (w1.heap[w.heap.size]? = some (.cells (row .u8 32 tag) 30 (0, 0))) := hA
  have HR0 : Hid (w1.heap[rg]? = some (.cells #[.slice (some ⟨kg, 0, none⟩) n kc] 62 (0, 0))) := hr1
  clear hA hr1
  refine wp_region_growG (by kernel_rfl) (by kernel_rfl) (fun xs => { tmps := (.pointer (some ⟨rg, 0, none⟩) :: .int .i64 i :: .slice ao P.length cap :: .agg (row .u8 32 tag) :: undef :: undef :: undef :: .pointer (some ⟨w.heap.size, 0, none⟩) :: xs 19 :: xs 0 :: xs 1 :: xs 2 :: xs 3 :: xs 4 :: xs 5 :: xs 6 :: xs 7 :: xs 8 :: xs 9 :: xs 10 :: xs 11 :: xs 12 :: xs 13 :: xs 14 :: xs 15 :: xs 16 :: xs 17 :: xs 18 :: []).toArray, defers := [] })
    (fun ii xx _ => match ii with | 0 => xx = .int .i64 i | 1 => xx = .bool false | 2 => xx = .bool false | 10 => xx = .bool false | 11 => xx = .bool false | 18 => xx = .bool false | 19 => xx = .bool false | _ => True) (fun | 19 => .bool false | _ => undef) (by repeat (first | exact trivial | refine ⟨fun _ _ => rfl, ?_⟩)) (fun _ _ _ _ _ h => h) ⟨?_, ?_, ?_, ?_, ?_, ?_, ?_, ?_, ?_, ?_, ?_, ?_, ?_, ?_, ?_, ?_, ?_, ?_, ?_, ?_, trivial⟩ ?_
  · intro xs W hB hp K hK
    rw [if_pos (wanted_none rfl _)]
    clear hp
    go_simp
    exact hK _ _ (Below.refl _ _) rfl
  · intro xs W hB hp K hK
    rw [if_pos (wanted_none rfl _)]
    have h0 : xs 0 = .int .i64 i := hp.1 rfl
    clear hp
    simp only [h0] at hK ⊢
    clear h0
    go_simp
    exact hK _ _ (Below.refl _ _) (by first | rfl | (show Value.bool _ = _; simp; omega))
  · intro xs W hB hp K hK
    rw [if_pos (wanted_none rfl _)]
    have h1 : xs 1 = .bool false := hp.1 rfl
    clear hp
    simp only [h1] at hK ⊢
    clear h1
    go_simp
    exact hK _ _ (Below.refl _ _) rfl
  · intro xs W hB hp K hK
    have hgd : xs 2 = .bool false := hp.1 rfl
    rw [wanted_g (b := false) rfl (by show (match some (xs 2) with | some (.bool b) => some b | _ => none) = some false; rw [hgd])]
    exact hK _ _ (Below.refl _ _) trivial
  · intro xs W hB hp K hK
    have hgd : xs 2 = .bool false := hp.1 rfl
    rw [wanted_g (b := false) rfl (by show (match some (xs 2) with | some (.bool b) => some b | _ => none) = some false; rw [hgd])]
    exact hK _ _ (Below.refl _ _) trivial
  · intro xs W hB hp K hK
    have hgd : xs 2 = .bool false := hp.2.1 rfl
    rw [wanted_g (b := false) rfl (by show (match some (xs 2) with | some (.bool b) => some b | _ => none) = some false; rw [hgd])]
    exact hK _ _ (Below.refl _ _) trivial
  · intro xs W hB hp K hK
    have hgd : xs 2 = .bool false := hp.2.1 rfl
    rw [wanted_g (b := false) rfl (by show (match some (xs 2) with | some (.bool b) => some b | _ => none) = some false; rw [hgd])]
    exact hK _ _ (Below.refl _ _) trivial
  · intro xs W hB hp K hK
    have hgd : xs 2 = .bool false := hp.2.1 rfl
    rw [wanted_g (b := false) rfl (by show (match some (xs 2) with | some (.bool b) => some b | _ => none) = some false; rw [hgd])]
    exact hK _ _ (Below.refl _ _) trivial
  · intro xs W hB hp K hK
    have hgd : xs 2 = .bool false := hp.2.1 rfl
    rw [wanted_g (b := false) rfl (by show (match some (xs 2) with | some (.bool b) => some b | _ => none) = some false; rw [hgd])]
    exact hK _ _ (Below.refl _ _) trivial
  · intro xs W hB hp K hK
    have hgd : xs 2 = .bool false := hp.2.2.1 rfl
    rw [wanted_g (b := false) rfl (by show (match some (xs 2) with | some (.bool b) => some b | _ => none) = some false; rw [hgd])]
    exact hK _ _ (Below.refl _ _) trivial
  · intro xs W hB hp K hK
    rw [if_pos (wanted_none rfl _)]
    have h2 : xs 2 = .bool false := hp.1 rfl
    clear hp
    simp only [h2] at hK ⊢
    clear h2
    go_simp
    exact hK _ _ (Below.refl _ _) rfl
  · intro xs W hB hp K hK
    rw [if_pos (wanted_none rfl _)]
    have h10 : xs 10 = .bool false := hp.1 rfl
    clear hp
    simp only [h10] at hK ⊢
    clear h10
    go_simp
    exact hK _ _ (Below.refl _ _) rfl
  · intro xs W hB hp K hK
    have hgd : xs 11 = .bool false := hp.1 rfl
    rw [wanted_g (b := false) rfl (by show (match some (xs 11) with | some (.bool b) => some b | _ => none) = some false; rw [hgd])]
    exact hK _ _ (Below.refl _ _) trivial
  · intro xs W hB hp K hK
    have hgd : xs 11 = .bool false := hp.1 rfl
    rw [wanted_g (b := false) rfl (by show (match some (xs 11) with | some (.bool b) => some b | _ => none) = some false; rw [hgd])]
    exact hK _ _ (Below.refl _ _) trivial
  · intro xs W hB hp K hK
    have hgd : xs 11 = .bool false := hp.1 rfl
    rw [wanted_g (b := false) rfl (by show (match some (xs 11) with | some (.bool b) => some b | _ => none) = some false; rw [hgd])]
    exact hK _ _ (Below.refl _ _) trivial
  · intro xs W hB hp K hK
    have hgd : xs 11 = .bool false := hp.2.2.2.1 rfl
    rw [wanted_g (b := false) rfl (by show (match some (xs 11) with | some (.bool b) => some b | _ => none) = some false; rw [hgd])]
    exact hK _ _ (Below.refl _ _) trivial
  · intro xs W hB hp K hK
    have hgd : xs 11 = .bool false := hp.1 rfl
    rw [wanted_g (b := false) rfl (by show (match some (xs 11) with | some (.bool b) => some b | _ => none) = some false; rw [hgd])]
    exact hK _ _ (Below.refl _ _) trivial
  · intro xs W hB hp K hK
    have hgd : xs 11 = .bool false := hp.2.2.1 rfl
    rw [wanted_g (b := false) rfl (by show (match some (xs 11) with | some (.bool b) => some b | _ => none) = some false; rw [hgd])]
    exact hK _ _ (Below.refl _ _) trivial
  · intro xs W hB hp K hK
    rw [if_pos (wanted_none rfl _)]
    have h11 : xs 11 = .bool false := hp.1 rfl
    clear hp
    simp only [h11] at hK ⊢
    clear h11
    go_simp
    exact hK _ _ (Below.refl _ _) rfl
  · intro xs W hB hp K hK
    rw [if_pos (wanted_none rfl _)]
    have h18 : xs 18 = .bool false := hp.1 rfl
    clear hp
    simp only [h18] at hK ⊢
    clear h18
    go_simp
    exact hK _ _ (Below.refl _ _) rfl
  · intro xs W hB hs
    have h19 : xs 19 = .bool false := hs 19 (by simp)
    simp only [h19]
    go_wp2_with fail
    go_ret
    exact ⟨by rw [Hc.out]; rfl, hBw.trans (hB.mono hBw.size)⟩
set_option maxRecDepth 10000 in
set_option maxHeartbeats 1000000 in
theorem rCheck_high (rg n : Nat) (seed : Nat → Int) (i : Int) (P : List Int) (ao : Option Addr) (cap : Nat) (tag : Nat → Int) (w : World) (h : RRing w rg seed n) (hl : Rowed w ao P cap) (hz : P.length < 274877906944) (q0 : 0 ≤ i) (q : (n : Int) ≤ i) :
    Calls Try.prog 71 #[.pointer (some ⟨rg, 0, none⟩), .int .i64 i, .slice ao P.length cap, .agg (row .u8 32 tag)] w fun e w' => e = .returned (.bool (checkB seed n i P tag)) ∧ Below w.heap.size w w' := by
  have HL : Hid (Rowed w ao P cap) := hl
  have HR : Hid (RRing w rg seed n) := h
  have Hc : Hid (checkB seed n i P tag = false) := by show _ = _; unfold checkB; rw [show hasB n i = false by simp [hasB]; omega]; rfl
  obtain ⟨kg, kc, hr0, _, _, _, _⟩ := h
  have hr1 := alloc_blk_old hr0 (.cells (row .u8 32 tag) 30)
  have hA := alloc_blk w (.cells (row .u8 32 tag) 30)
  have hBw := below_alloc w (.cells (row .u8 32 tag) 30)
  clear hl hr0
  go_enter Try.func71, Try.ntmps71
  go_wp2_with (refine wpList_box_row rfl 30 _ rfl _ rfl ?_)
  generalize w.alloc (.cells (row .u8 32 tag) 30) = w1 at *
  have HA : Hid (w1.heap[w.heap.size]? = some (.cells (row .u8 32 tag) 30 (0, 0))) := hA
  have HR0 : Hid (w1.heap[rg]? = some (.cells #[.slice (some ⟨kg, 0, none⟩) n kc] 62 (0, 0))) := hr1
  clear hA hr1
  refine wp_region_growG (by kernel_rfl) (by kernel_rfl) (fun xs => { tmps := (.pointer (some ⟨rg, 0, none⟩) :: .int .i64 i :: .slice ao P.length cap :: .agg (row .u8 32 tag) :: undef :: undef :: undef :: .pointer (some ⟨w.heap.size, 0, none⟩) :: xs 19 :: xs 0 :: xs 1 :: xs 2 :: xs 3 :: xs 4 :: xs 5 :: xs 6 :: xs 7 :: xs 8 :: xs 9 :: xs 10 :: xs 11 :: xs 12 :: xs 13 :: xs 14 :: xs 15 :: xs 16 :: xs 17 :: xs 18 :: []).toArray, defers := [] })
    (fun ii xx _ => match ii with | 0 => xx = .int .i64 i | 1 => xx = .bool true | 2 => xx = .bool true | 3 => xx = .int .i64 i | 4 => xx = .pointer (some ⟨rg, 0, none⟩) | 5 => xx = .pointer (some ⟨rg, 0, none⟩) | 6 => xx = .pointer (some ⟨rg, 0, none⟩) | 7 => xx = .slice (some ⟨kg, 0, none⟩) n kc | 8 => xx = .int .i64 (n : Int) | 9 => xx = .bool false | 10 => xx = .bool false | 11 => xx = .bool false | 18 => xx = .bool false | 19 => xx = .bool false | _ => True) (fun | 19 => .bool false | _ => undef) (by repeat (first | exact trivial | refine ⟨fun _ _ => rfl, ?_⟩)) (fun _ _ _ _ _ h => h) ⟨?_, ?_, ?_, ?_, ?_, ?_, ?_, ?_, ?_, ?_, ?_, ?_, ?_, ?_, ?_, ?_, ?_, ?_, ?_, ?_, trivial⟩ ?_
  · intro xs W hB hp K hK
    rw [if_pos (wanted_none rfl _)]
    clear hp
    go_simp
    exact hK _ _ (Below.refl _ _) rfl
  · intro xs W hB hp K hK
    rw [if_pos (wanted_none rfl _)]
    have h0 : xs 0 = .int .i64 i := hp.1 rfl
    clear hp
    simp only [h0] at hK ⊢
    clear h0
    go_simp
    exact hK _ _ (Below.refl _ _) (by first | rfl | (show Value.bool _ = _; simp; omega))
  · intro xs W hB hp K hK
    rw [if_pos (wanted_none rfl _)]
    have h1 : xs 1 = .bool true := hp.1 rfl
    clear hp
    simp only [h1] at hK ⊢
    clear h1
    go_simp
    exact hK _ _ (Below.refl _ _) rfl
  · intro xs W hB hp K hK
    have hgd : xs 2 = .bool true := hp.1 rfl
    rw [wanted_g (b := true) rfl (by show (match some (xs 2) with | some (.bool b) => some b | _ => none) = some true; rw [hgd])]
    rw [if_pos (show (true == true) = true from rfl)]
    clear hgd
    clear hp
    go_simp
    exact hK _ _ (Below.refl _ _) rfl
  · intro xs W hB hp K hK
    have hgd : xs 2 = .bool true := hp.1 rfl
    rw [wanted_g (b := true) rfl (by show (match some (xs 2) with | some (.bool b) => some b | _ => none) = some true; rw [hgd])]
    rw [if_pos (show (true == true) = true from rfl)]
    clear hgd
    clear hp
    go_simp
    exact hK _ _ (Below.refl _ _) rfl
  · intro xs W hB hp K hK
    have hgd : xs 2 = .bool true := hp.2.1 rfl
    rw [wanted_g (b := true) rfl (by show (match some (xs 2) with | some (.bool b) => some b | _ => none) = some true; rw [hgd])]
    rw [if_pos (show (true == true) = true from rfl)]
    clear hgd
    have h4 : xs 4 = .pointer (some ⟨rg, 0, none⟩) := hp.1 rfl
    clear hp
    simp only [h4] at hK ⊢
    clear h4
    go_simp
    exact hK _ _ (Below.refl _ _) rfl
  · intro xs W hB hp K hK
    have hgd : xs 2 = .bool true := hp.2.1 rfl
    rw [wanted_g (b := true) rfl (by show (match some (xs 2) with | some (.bool b) => some b | _ => none) = some true; rw [hgd])]
    rw [if_pos (show (true == true) = true from rfl)]
    clear hgd
    have h5 : xs 5 = .pointer (some ⟨rg, 0, none⟩) := hp.1 rfl
    clear hp
    simp only [h5] at hK ⊢
    clear h5
    go_simp
    exact hK _ _ (Below.refl _ _) rfl
  · intro xs W hB hp K hK
    have hgd : xs 2 = .bool true := hp.2.1 rfl
    rw [wanted_g (b := true) rfl (by show (match some (xs 2) with | some (.bool b) => some b | _ => none) = some true; rw [hgd])]
    rw [if_pos (show (true == true) = true from rfl)]
    clear hgd
    have h6 : xs 6 = .pointer (some ⟨rg, 0, none⟩) := hp.1 rfl
    clear hp
    have cc : W.cell? ⟨rg, 0, none⟩ = some (.slice (some ⟨kg, 0, none⟩) n kc) := cell_blk (Below.blk hB (lt_blk HR0.out) HR0.out) 0
    simp only [h6] at hK ⊢
    clear h6
    go_simp
    exact hK _ _ (Below.refl _ _) rfl
  · intro xs W hB hp K hK
    have hgd : xs 2 = .bool true := hp.2.1 rfl
    rw [wanted_g (b := true) rfl (by show (match some (xs 2) with | some (.bool b) => some b | _ => none) = some true; rw [hgd])]
    rw [if_pos (show (true == true) = true from rfl)]
    clear hgd
    have h7 : xs 7 = .slice (some ⟨kg, 0, none⟩) n kc := hp.1 rfl
    clear hp
    simp only [h7] at hK ⊢
    clear h7
    go_simp
    exact hK _ _ (Below.refl _ _) rfl
  · intro xs W hB hp K hK
    have hgd : xs 2 = .bool true := hp.2.2.1 rfl
    rw [wanted_g (b := true) rfl (by show (match some (xs 2) with | some (.bool b) => some b | _ => none) = some true; rw [hgd])]
    rw [if_pos (show (true == true) = true from rfl)]
    clear hgd
    have h3 : xs 3 = .int .i64 i := hp.1 rfl
    have h8 : xs 8 = .int .i64 (n : Int) := hp.2.1 rfl
    clear hp
    simp only [h3, h8] at hK ⊢
    clear h3 h8
    go_simp
    exact hK _ _ (Below.refl _ _) (by first | rfl | (show Value.bool _ = _; simp; omega))
  · intro xs W hB hp K hK
    rw [if_pos (wanted_none rfl _)]
    have h2 : xs 2 = .bool true := hp.1 rfl
    have h9 : xs 9 = .bool false := hp.2.1 rfl
    clear hp
    simp only [h2, h9] at hK ⊢
    clear h2 h9
    go_simp
    exact hK _ _ (Below.refl _ _) rfl
  · intro xs W hB hp K hK
    rw [if_pos (wanted_none rfl _)]
    have h10 : xs 10 = .bool false := hp.1 rfl
    clear hp
    simp only [h10] at hK ⊢
    clear h10
    go_simp
    exact hK _ _ (Below.refl _ _) rfl
  · intro xs W hB hp K hK
    have hgd : xs 11 = .bool false := hp.1 rfl
    rw [wanted_g (b := false) rfl (by show (match some (xs 11) with | some (.bool b) => some b | _ => none) = some false; rw [hgd])]
    exact hK _ _ (Below.refl _ _) trivial
  · intro xs W hB hp K hK
    have hgd : xs 11 = .bool false := hp.1 rfl
    rw [wanted_g (b := false) rfl (by show (match some (xs 11) with | some (.bool b) => some b | _ => none) = some false; rw [hgd])]
    exact hK _ _ (Below.refl _ _) trivial
  · intro xs W hB hp K hK
    have hgd : xs 11 = .bool false := hp.1 rfl
    rw [wanted_g (b := false) rfl (by show (match some (xs 11) with | some (.bool b) => some b | _ => none) = some false; rw [hgd])]
    exact hK _ _ (Below.refl _ _) trivial
  · intro xs W hB hp K hK
    have hgd : xs 11 = .bool false := hp.2.2.2.1 rfl
    rw [wanted_g (b := false) rfl (by show (match some (xs 11) with | some (.bool b) => some b | _ => none) = some false; rw [hgd])]
    exact hK _ _ (Below.refl _ _) trivial
  · intro xs W hB hp K hK
    have hgd : xs 11 = .bool false := hp.1 rfl
    rw [wanted_g (b := false) rfl (by show (match some (xs 11) with | some (.bool b) => some b | _ => none) = some false; rw [hgd])]
    exact hK _ _ (Below.refl _ _) trivial
  · intro xs W hB hp K hK
    have hgd : xs 11 = .bool false := hp.2.2.1 rfl
    rw [wanted_g (b := false) rfl (by show (match some (xs 11) with | some (.bool b) => some b | _ => none) = some false; rw [hgd])]
    exact hK _ _ (Below.refl _ _) trivial
  · intro xs W hB hp K hK
    rw [if_pos (wanted_none rfl _)]
    have h11 : xs 11 = .bool false := hp.1 rfl
    clear hp
    simp only [h11] at hK ⊢
    clear h11
    go_simp
    exact hK _ _ (Below.refl _ _) rfl
  · intro xs W hB hp K hK
    rw [if_pos (wanted_none rfl _)]
    have h18 : xs 18 = .bool false := hp.1 rfl
    clear hp
    simp only [h18] at hK ⊢
    clear h18
    go_simp
    exact hK _ _ (Below.refl _ _) rfl
  · intro xs W hB hs
    have h19 : xs 19 = .bool false := hs 19 (by simp)
    simp only [h19]
    go_wp2_with fail
    go_ret
    exact ⟨by rw [Hc.out]; rfl, hBw.trans (hB.mono hBw.size)⟩
set_option maxRecDepth 10000 in
set_option maxHeartbeats 1000000 in
theorem rCheck_in (rg n : Nat) (seed : Nat → Int) (i : Int) (P : List Int) (ao : Option Addr) (cap : Nat) (tag : Nat → Int) (w : World) (h : RRing w rg seed n) (hl : Rowed w ao P cap) (hz : P.length < 274877906944) (q0 : 0 ≤ i) (q : i < (n : Int)) :
    Calls Try.prog 71 #[.pointer (some ⟨rg, 0, none⟩), .int .i64 i, .slice ao P.length cap, .agg (row .u8 32 tag)] w fun e w' => e = .returned (.bool (checkB seed n i P tag)) ∧ Below w.heap.size w w' := by
  have HL : Hid (Rowed w ao P cap) := hl
  have HR : Hid (RRing w rg seed n) := h
  have Hc : Hid (checkB seed n i P tag = rowEq 32 tag (sealF seed n i P)) := by show _ = _; unfold checkB; rw [show hasB n i = true by simp [hasB]; omega]; rfl
  obtain ⟨kg, kc, hr0, _, _, _, _⟩ := h
  have hr1 := alloc_blk_old hr0 (.cells (row .u8 32 tag) 30)
  have hA := alloc_blk w (.cells (row .u8 32 tag) 30)
  have hBw := below_alloc w (.cells (row .u8 32 tag) 30)
  clear hl hr0
  go_enter Try.func71, Try.ntmps71
  go_wp2_with (refine wpList_box_row rfl 30 _ rfl _ rfl ?_)
  generalize w.alloc (.cells (row .u8 32 tag) 30) = w1 at *
  have HA : Hid (w1.heap[w.heap.size]? = some (.cells (row .u8 32 tag) 30 (0, 0))) := hA
  have HR0 : Hid (w1.heap[rg]? = some (.cells #[.slice (some ⟨kg, 0, none⟩) n kc] 62 (0, 0))) := hr1
  clear hA hr1
  refine wp_region_growG (by kernel_rfl) (by kernel_rfl) (fun xs => { tmps := (.pointer (some ⟨rg, 0, none⟩) :: .int .i64 i :: .slice ao P.length cap :: .agg (row .u8 32 tag) :: undef :: undef :: undef :: .pointer (some ⟨w.heap.size, 0, none⟩) :: xs 19 :: xs 0 :: xs 1 :: xs 2 :: xs 3 :: xs 4 :: xs 5 :: xs 6 :: xs 7 :: xs 8 :: xs 9 :: xs 10 :: xs 11 :: xs 12 :: xs 13 :: xs 14 :: xs 15 :: xs 16 :: xs 17 :: xs 18 :: []).toArray, defers := [] })
    (fun ii xx _ => match ii with | 0 => xx = .int .i64 i | 1 => xx = .bool true | 2 => xx = .bool true | 3 => xx = .int .i64 i | 4 => xx = .pointer (some ⟨rg, 0, none⟩) | 5 => xx = .pointer (some ⟨rg, 0, none⟩) | 6 => xx = .pointer (some ⟨rg, 0, none⟩) | 7 => xx = .slice (some ⟨kg, 0, none⟩) n kc | 8 => xx = .int .i64 (n : Int) | 9 => xx = .bool true | 10 => xx = .bool true | 11 => xx = .bool true | 12 => xx = .pointer (some ⟨rg, 0, none⟩) | 13 => xx = .int .i64 i | 14 => xx = .slice ao P.length cap | 15 => xx = .agg (row .u8 32 (sealF seed n i P)) | 16 => xx = .agg (row .u8 32 tag) | 17 => xx = .bool (rowEq 32 tag (sealF seed n i P)) | 18 => xx = .bool (rowEq 32 tag (sealF seed n i P)) | 19 => xx = .bool (rowEq 32 tag (sealF seed n i P)) | _ => True) (fun | 19 => .bool false | _ => undef) (by repeat (first | exact trivial | refine ⟨fun _ _ => rfl, ?_⟩)) (fun _ _ _ _ _ h => h) ⟨?_, ?_, ?_, ?_, ?_, ?_, ?_, ?_, ?_, ?_, ?_, ?_, ?_, ?_, ?_, ?_, ?_, ?_, ?_, ?_, trivial⟩ ?_
  · intro xs W hB hp K hK
    rw [if_pos (wanted_none rfl _)]
    clear hp
    go_simp
    exact hK _ _ (Below.refl _ _) rfl
  · intro xs W hB hp K hK
    rw [if_pos (wanted_none rfl _)]
    have h0 : xs 0 = .int .i64 i := hp.1 rfl
    clear hp
    simp only [h0] at hK ⊢
    clear h0
    go_simp
    exact hK _ _ (Below.refl _ _) (by first | rfl | (show Value.bool _ = _; simp; omega))
  · intro xs W hB hp K hK
    rw [if_pos (wanted_none rfl _)]
    have h1 : xs 1 = .bool true := hp.1 rfl
    clear hp
    simp only [h1] at hK ⊢
    clear h1
    go_simp
    exact hK _ _ (Below.refl _ _) rfl
  · intro xs W hB hp K hK
    have hgd : xs 2 = .bool true := hp.1 rfl
    rw [wanted_g (b := true) rfl (by show (match some (xs 2) with | some (.bool b) => some b | _ => none) = some true; rw [hgd])]
    rw [if_pos (show (true == true) = true from rfl)]
    clear hgd
    clear hp
    go_simp
    exact hK _ _ (Below.refl _ _) rfl
  · intro xs W hB hp K hK
    have hgd : xs 2 = .bool true := hp.1 rfl
    rw [wanted_g (b := true) rfl (by show (match some (xs 2) with | some (.bool b) => some b | _ => none) = some true; rw [hgd])]
    rw [if_pos (show (true == true) = true from rfl)]
    clear hgd
    clear hp
    go_simp
    exact hK _ _ (Below.refl _ _) rfl
  · intro xs W hB hp K hK
    have hgd : xs 2 = .bool true := hp.2.1 rfl
    rw [wanted_g (b := true) rfl (by show (match some (xs 2) with | some (.bool b) => some b | _ => none) = some true; rw [hgd])]
    rw [if_pos (show (true == true) = true from rfl)]
    clear hgd
    have h4 : xs 4 = .pointer (some ⟨rg, 0, none⟩) := hp.1 rfl
    clear hp
    simp only [h4] at hK ⊢
    clear h4
    go_simp
    exact hK _ _ (Below.refl _ _) rfl
  · intro xs W hB hp K hK
    have hgd : xs 2 = .bool true := hp.2.1 rfl
    rw [wanted_g (b := true) rfl (by show (match some (xs 2) with | some (.bool b) => some b | _ => none) = some true; rw [hgd])]
    rw [if_pos (show (true == true) = true from rfl)]
    clear hgd
    have h5 : xs 5 = .pointer (some ⟨rg, 0, none⟩) := hp.1 rfl
    clear hp
    simp only [h5] at hK ⊢
    clear h5
    go_simp
    exact hK _ _ (Below.refl _ _) rfl
  · intro xs W hB hp K hK
    have hgd : xs 2 = .bool true := hp.2.1 rfl
    rw [wanted_g (b := true) rfl (by show (match some (xs 2) with | some (.bool b) => some b | _ => none) = some true; rw [hgd])]
    rw [if_pos (show (true == true) = true from rfl)]
    clear hgd
    have h6 : xs 6 = .pointer (some ⟨rg, 0, none⟩) := hp.1 rfl
    clear hp
    have cc : W.cell? ⟨rg, 0, none⟩ = some (.slice (some ⟨kg, 0, none⟩) n kc) := cell_blk (Below.blk hB (lt_blk HR0.out) HR0.out) 0
    simp only [h6] at hK ⊢
    clear h6
    go_simp
    exact hK _ _ (Below.refl _ _) rfl
  · intro xs W hB hp K hK
    have hgd : xs 2 = .bool true := hp.2.1 rfl
    rw [wanted_g (b := true) rfl (by show (match some (xs 2) with | some (.bool b) => some b | _ => none) = some true; rw [hgd])]
    rw [if_pos (show (true == true) = true from rfl)]
    clear hgd
    have h7 : xs 7 = .slice (some ⟨kg, 0, none⟩) n kc := hp.1 rfl
    clear hp
    simp only [h7] at hK ⊢
    clear h7
    go_simp
    exact hK _ _ (Below.refl _ _) rfl
  · intro xs W hB hp K hK
    have hgd : xs 2 = .bool true := hp.2.2.1 rfl
    rw [wanted_g (b := true) rfl (by show (match some (xs 2) with | some (.bool b) => some b | _ => none) = some true; rw [hgd])]
    rw [if_pos (show (true == true) = true from rfl)]
    clear hgd
    have h3 : xs 3 = .int .i64 i := hp.1 rfl
    have h8 : xs 8 = .int .i64 (n : Int) := hp.2.1 rfl
    clear hp
    simp only [h3, h8] at hK ⊢
    clear h3 h8
    go_simp
    exact hK _ _ (Below.refl _ _) (by first | rfl | (show Value.bool _ = _; simp; omega))
  · intro xs W hB hp K hK
    rw [if_pos (wanted_none rfl _)]
    have h2 : xs 2 = .bool true := hp.1 rfl
    have h9 : xs 9 = .bool true := hp.2.1 rfl
    clear hp
    simp only [h2, h9] at hK ⊢
    clear h2 h9
    go_simp
    exact hK _ _ (Below.refl _ _) rfl
  · intro xs W hB hp K hK
    rw [if_pos (wanted_none rfl _)]
    have h10 : xs 10 = .bool true := hp.1 rfl
    clear hp
    simp only [h10] at hK ⊢
    clear h10
    go_simp
    exact hK _ _ (Below.refl _ _) rfl
  · intro xs W hB hp K hK
    have hgd : xs 11 = .bool true := hp.1 rfl
    rw [wanted_g (b := true) rfl (by show (match some (xs 11) with | some (.bool b) => some b | _ => none) = some true; rw [hgd])]
    rw [if_pos (show (true == true) = true from rfl)]
    clear hgd
    clear hp
    go_simp
    exact hK _ _ (Below.refl _ _) rfl
  · intro xs W hB hp K hK
    have hgd : xs 11 = .bool true := hp.1 rfl
    rw [wanted_g (b := true) rfl (by show (match some (xs 11) with | some (.bool b) => some b | _ => none) = some true; rw [hgd])]
    rw [if_pos (show (true == true) = true from rfl)]
    clear hgd
    clear hp
    go_simp
    exact hK _ _ (Below.refl _ _) rfl
  · intro xs W hB hp K hK
    have hgd : xs 11 = .bool true := hp.1 rfl
    rw [wanted_g (b := true) rfl (by show (match some (xs 11) with | some (.bool b) => some b | _ => none) = some true; rw [hgd])]
    rw [if_pos (show (true == true) = true from rfl)]
    clear hgd
    clear hp
    go_simp
    exact hK _ _ (Below.refl _ _) rfl
  · intro xs W hB hp K hK
    have hgd : xs 11 = .bool true := hp.2.2.2.1 rfl
    rw [wanted_g (b := true) rfl (by show (match some (xs 11) with | some (.bool b) => some b | _ => none) = some true; rw [hgd])]
    rw [if_pos (show (true == true) = true from rfl)]
    clear hgd
    have h12 : xs 12 = .pointer (some ⟨rg, 0, none⟩) := hp.1 rfl
    have h13 : xs 13 = .int .i64 i := hp.2.1 rfl
    have h14 : xs 14 = .slice ao P.length cap := hp.2.2.1 rfl
    clear hp
    simp only [h12, h13, h14] at hK ⊢
    clear h12 h13 h14
    go_simp
    refine (rSeal_any rg n seed i P ao cap W (HR.out.below (hBw.trans (hB.mono hBw.size))) (HL.out.below (hBw.trans (hB.mono hBw.size)) (Nat.le_refl _)) hz).mono ?_
    rintro e w' ⟨rfl, hB'⟩
    exact hK _ _ hB' rfl
  · intro xs W hB hp K hK
    have hgd : xs 11 = .bool true := hp.1 rfl
    rw [wanted_g (b := true) rfl (by show (match some (xs 11) with | some (.bool b) => some b | _ => none) = some true; rw [hgd])]
    rw [if_pos (show (true == true) = true from rfl)]
    clear hgd
    clear hp
    exact wp_load_row _ _ rfl w.heap.size rfl 30 _ (0, 0) (.array 32 5) (Below.blk hB (lt_blk HA.out) HA.out) (by kernel_rfl) rfl (row_info size_hash _) (hK _ _ (Below.refl _ _) rfl)
  · intro xs W hB hp K hK
    have hgd : xs 11 = .bool true := hp.2.2.1 rfl
    rw [wanted_g (b := true) rfl (by show (match some (xs 11) with | some (.bool b) => some b | _ => none) = some true; rw [hgd])]
    rw [if_pos (show (true == true) = true from rfl)]
    clear hgd
    have h15 : xs 15 = .agg (row .u8 32 (sealF seed n i P)) := hp.1 rfl
    have h16 : xs 16 = .agg (row .u8 32 tag) := hp.2.1 rfl
    clear hp
    have heq := equalIn_hash (sealF seed n i P) tag
    rw [rowEq_comm] at heq
    simp only [h15, h16] at hK ⊢
    clear h15 h16
    go_simp
    exact hK _ _ (Below.refl _ _) rfl
  · intro xs W hB hp K hK
    rw [if_pos (wanted_none rfl _)]
    have h11 : xs 11 = .bool true := hp.1 rfl
    have h17 : xs 17 = .bool (rowEq 32 tag (sealF seed n i P)) := hp.2.1 rfl
    clear hp
    simp only [h11, h17] at hK ⊢
    clear h11 h17
    go_simp
    exact hK _ _ (Below.refl _ _) rfl
  · intro xs W hB hp K hK
    rw [if_pos (wanted_none rfl _)]
    have h18 : xs 18 = .bool (rowEq 32 tag (sealF seed n i P)) := hp.1 rfl
    clear hp
    simp only [h18] at hK ⊢
    clear h18
    go_simp
    exact hK _ _ (Below.refl _ _) rfl
  · intro xs W hB hs
    have h19 : xs 19 = .bool (rowEq 32 tag (sealF seed n i P)) := hs 19 (by simp)
    simp only [h19]
    go_wp2_with fail
    go_ret
    exact ⟨by rw [Hc.out]; rfl, hBw.trans (hB.mono hBw.size)⟩
theorem rCheck_any (rg n : Nat) (seed : Nat → Int) (i : Int) (P : List Int) (ao : Option Addr) (cap : Nat) (tag : Nat → Int) (w : World) (h : RRing w rg seed n) (hl : Rowed w ao P cap) (hz : P.length < 274877906944) :
    Calls Try.prog 71 #[.pointer (some ⟨rg, 0, none⟩), .int .i64 i, .slice ao P.length cap, .agg (row .u8 32 tag)] w fun e w' => e = .returned (.bool (checkB seed n i P tag)) ∧ Below w.heap.size w w' := by
  by_cases q0 : i < 0
  · exact rCheck_low rg n seed i P ao cap tag w h hl hz q0
  · by_cases q1 : (n : Int) ≤ i
    · exact rCheck_high rg n seed i P ao cap tag w h hl hz (by omega) q1
    · exact rCheck_in rg n seed i P ao cap tag w h hl hz (by omega) (by omega)
end Go.Proofs.Yticpkpphjpgdbaa
