/- SealTells' walk: of any ring, node and bytes the seal, and whether any tag is it. -/
import Derived.Test.YtcckklkjigampaaSealX
import Derived.Test.YtcckklkjigampaaRefG
namespace Go.Proofs.Ytcckklkjigampaa
open Go.RowKit Go.Dig Go.Sha Go.Inv
set_option linter.unusedVariables false

/-- what the two News leave, in whatever order -/
def tellsSpec3 (nodes : Int) (seed : Nat → Int) (n : Nat) : Nat → Value → World → Prop
  | 0, x, _ => x = .int .i64 nodes
  | 1, x, _ => x = .agg (row .u8 32 seed)
  | 2, x, w => ∃ rg, x = .pointer (some ⟨rg, 0, none⟩) ∧ RingAt w rg seed n
  | 3, x, _ => x = .int .i64 nodes
  | 4, x, _ => x = .agg (row .u8 32 seed)
  | 5, x, w => ∃ rg, x = .pointer (some ⟨rg, 0, none⟩) ∧ RRing w rg seed n
  | 6, x, w => ∃ rg, x = .pointer (some ⟨rg, 0, none⟩) ∧ RingAt w rg seed n
  | 7, x, w => ∃ rg, x = .pointer (some ⟨rg, 0, none⟩) ∧ RRing w rg seed n
  | _, _, _ => True

set_option maxRecDepth 10000 in
set_option maxHeartbeats 1000000 in
theorem sealTells_low (nodes : Int) (seed : Nat → Int) (i : Int) (P : List Int) (ao : Option Addr) (cap : Nat) (tag : Nat → Int) (w : World) (h0 : -9223372036854775808 ≤ nodes) (h1 : nodes ≤ 9223372036854775807) (hl : Lies w ao P) (hc : P.length ≤ cap) (hr : Rowed w ao P cap) (q4 : ¬ 2000 < P.length) (n : Nat) (hn : nodesOf nodes = n) (q : i < 0) :
    Calls Try.prog 3 #[.int .i64 nodes, .agg (row .u8 32 seed), .int .i64 i, .slice ao P.length cap, .agg (row .u8 32 tag)] w fun e w' => e = .returned (.bool true) ∧ Below w.heap.size w w' := by
  have HL : Hid (Lies w ao P) := hl
  have HD : Hid (Rowed w ao P cap) := hr
  have HZ : Hid ((Try.prog.info? 23).map (·.zero) = some (some (.agg (row .u8 32 (fun _ => 0))))) := zero_hash
  have Hn : Hid (nodesOf nodes = n) := hn
  clear hl hr hn
  go_enter Try.func3, Try.ntmps3
  have hA : ((w.alloc (.cells (row .u8 32 seed) 23)).alloc (.cells (row .u8 32 tag) 23)).heap[w.heap.size]? = some (.cells (row .u8 32 seed) 23 (0, 0)) := alloc_blk_old (alloc_blk _ _) _
  have hT : ((w.alloc (.cells (row .u8 32 seed) 23)).alloc (.cells (row .u8 32 tag) 23)).heap[w.heap.size + 1]? = some (.cells (row .u8 32 tag) 23 (0, 0)) := by
    have := alloc_blk (w.alloc (.cells (row .u8 32 seed) 23)) (.cells (row .u8 32 tag) 23)
    rw [World.size_alloc] at this; exact this
  have hBw : Below w.heap.size w ((w.alloc (.cells (row .u8 32 seed) 23)).alloc (.cells (row .u8 32 tag) 23)) := (below_alloc _ _).alloc (by simp) _
  go_wp2_with (first | refine wpList_box_row rfl 23 _ rfl _ rfl ?_)
  generalize (w.alloc (.cells (row .u8 32 seed) 23)).alloc (.cells (row .u8 32 tag) 23) = w1 at *
  have HA : Hid (w1.heap[w.heap.size]? = some (.cells (row .u8 32 seed) 23 (0, 0))) := hA
  have HT : Hid (w1.heap[w.heap.size + 1]? = some (.cells (row .u8 32 tag) 23 (0, 0))) := hT
  clear hA hT
  refine wp_region_growG (by kernel_rfl) (by kernel_rfl) (fun xs => { tmps := (Value.int IntKind.i64 nodes :: Value.agg (row IntKind.u8 32 seed) :: Value.int IntKind.i64 i :: Value.slice ao P.length cap :: Value.agg (row IntKind.u8 32 tag) :: undef :: Value.pointer (some { block := w.heap.size, off := 0 }) :: undef :: undef :: Value.pointer (some { block := w.heap.size + 1, off := 0 }) :: Value.bool false :: xs 6 :: xs 7 :: Value.slice ao P.length cap :: Value.int IntKind.i64 (P.length : Int) :: Value.bool (decide (2000 < (P.length : Int))) :: xs 0 :: xs 1 :: xs 2 :: xs 3 :: xs 4 :: xs 5 :: undef :: undef :: undef :: undef :: undef :: undef :: undef :: undef :: undef :: undef :: undef :: undef :: undef :: undef :: undef :: undef :: undef :: undef :: undef :: undef :: undef :: undef :: undef :: undef :: undef :: undef :: undef :: undef :: undef :: undef :: undef :: undef :: undef :: undef :: undef :: undef :: undef :: undef :: undef :: undef :: undef :: undef :: undef :: undef :: undef :: undef :: undef :: undef :: undef :: undef :: undef :: undef :: undef :: undef :: undef :: undef :: undef :: undef :: undef :: []).toArray, defers := [] })
    (tellsSpec3 nodes seed n) (fun _ => undef) (by repeat (first | exact trivial | refine ⟨fun _ _ => rfl, ?_⟩))
    (by intro i x w w' h hs; unfold tellsSpec3 at *; split at hs <;> first | exact hs | (obtain ⟨g, e, r⟩ := hs; exact ⟨g, e, r.below h⟩) | exact trivial) ⟨?_, ?_, ?_, ?_, ?_, ?_, ?_, ?_, trivial⟩ ?_
  · intro xs W hB hp K hK
    clear hp
    rw [if_pos (wanted_none rfl _)]
    go_simp
    exact hK _ _ (Below.refl _ _) rfl
  · intro xs W hB hp K hK
    clear hp
    rw [if_pos (wanted_none rfl _)]
    exact wp_load_row _ _ rfl w.heap.size rfl 23 _ (0, 0) (.array 32 5) (Below.blk hB (lt_blk HA.out) HA.out) (by kernel_rfl) rfl (row_info size_hash _) (hK _ _ (Below.refl _ _) rfl)
  · intro xs W hB hp K hK
    have h0' : xs 0 = .int .i64 nodes := hp.1 rfl
    have h1' : xs 1 = .agg (row .u8 32 seed) := hp.2.1 rfl
    clear hp
    rw [if_pos (wanted_none rfl _)]
    simp only [h0', h1'] at hK ⊢
    clear h0' h1'
    go_simp
    refine (sNew_any nodes seed W h0 h1).mono ?_
    rintro e w' ⟨rg, rfl, hrg, hR, hB'⟩
    rw [Hn.out] at hR
    exact hK _ _ hB' ⟨rg, rfl, hR⟩
  · intro xs W hB hp K hK
    clear hp
    rw [if_pos (wanted_none rfl _)]
    go_simp
    exact hK _ _ (Below.refl _ _) rfl
  · intro xs W hB hp K hK
    clear hp
    rw [if_pos (wanted_none rfl _)]
    exact wp_load_row _ _ rfl w.heap.size rfl 23 _ (0, 0) (.array 32 5) (Below.blk hB (lt_blk HA.out) HA.out) (by kernel_rfl) rfl (row_info size_hash _) (hK _ _ (Below.refl _ _) rfl)
  · intro xs W hB hp K hK
    have h0' : xs 3 = .int .i64 nodes := hp.1 rfl
    have h1' : xs 4 = .agg (row .u8 32 seed) := hp.2.1 rfl
    clear hp
    rw [if_pos (wanted_none rfl _)]
    simp only [h0', h1'] at hK ⊢
    clear h0' h1'
    go_simp
    refine (rNew_any nodes seed W h0 h1).mono ?_
    rintro e w' ⟨rg, rfl, hrg, hR, hB'⟩
    rw [Hn.out] at hR
    exact hK _ _ hB' ⟨rg, rfl, hR⟩
  · intro xs W hB hp K hK
    obtain ⟨rg, e2, hR⟩ : ∃ rg, xs 2 = .pointer (some ⟨rg, 0, none⟩) ∧ RingAt W rg seed n := hp.1 rfl
    clear hp
    rw [if_pos (wanted_none rfl _)]
    have HRx : Hid (RingAt W rg seed n) := hR
    clear hR
    simp only [e2] at hK ⊢
    go_simp
    exact hK _ _ (Below.refl _ _) ⟨rg, rfl, HRx.out⟩
  · intro xs W hB hp K hK
    obtain ⟨rg, e2, hR⟩ : ∃ rg, xs 5 = .pointer (some ⟨rg, 0, none⟩) ∧ RRing W rg seed n := hp.1 rfl
    clear hp
    rw [if_pos (wanted_none rfl _)]
    have HRx : Hid (RRing W rg seed n) := hR
    clear hR
    simp only [e2] at hK ⊢
    go_simp
    exact hK _ _ (Below.refl _ _) ⟨rg, rfl, HRx.out⟩
  intro xs w2 hB2 hs
  obtain ⟨rg, h6, hR⟩ : ∃ rg, xs 6 = .pointer (some ⟨rg, 0, none⟩) ∧ RingAt w2 rg seed n := hs 6 (by simp)
  obtain ⟨xg, h7, hX⟩ : ∃ xg, xs 7 = .pointer (some ⟨xg, 0, none⟩) ∧ RRing w2 xg seed n := hs 7 (by simp)
  simp only [h6, h7]
  clear hs h6 h7
  generalize xs 0 = t0
  generalize xs 1 = t1
  generalize xs 2 = t2
  generalize xs 3 = t3
  generalize xs 4 = t4
  generalize xs 5 = t5
  have HR : Hid (RingAt w2 rg seed n) := hR
  have HX : Hid (RRing w2 xg seed n) := hX
  obtain ⟨kg, kc, hx0, _, _, _, _⟩ := hX
  have HX0 : Hid (w2.heap[xg]? = some (.cells #[.slice (some ⟨kg, 0, none⟩) n kc] 32 (0, 0))) := hx0
  have hBB : Below w.heap.size w w2 := hBw.trans (hB2.mono hBw.size)
  have HT2 : Hid (w2.heap[w.heap.size + 1]? = some (.cells (row .u8 32 tag) 23 (0, 0))) := Below.blk hB2 (lt_blk HT.out) HT.out
  clear hR hx0 hBw hB2 HA HT
  go_wp2_with fail
  obtain ⟨sf, Hsf⟩ : ∃ sf, Hid (sf = sealF seed n i P) := ⟨_, rfl⟩
  obtain ⟨cb, Hcb⟩ : ∃ cb, Hid (cb = checkB seed n i P tag) := ⟨_, rfl⟩
  have Hck : Hid (checkB seed n i P sf = false) := by
    show _ = _
    rw [Hsf.out]
    unfold checkB
    rw [show hasB n i = false by simp [hasB]; omega, Bool.false_and]
  refine wp_region_growG (by kernel_rfl) (by kernel_rfl) (fun xs => { tmps := (Value.int IntKind.i64 nodes :: Value.agg (row IntKind.u8 32 seed) :: Value.int IntKind.i64 i :: Value.slice ao P.length cap :: Value.agg (row IntKind.u8 32 tag) :: undef :: Value.pointer (some { block := w.heap.size, off := 0 }) :: undef :: undef :: Value.pointer (some { block := w.heap.size + 1, off := 0 }) :: xs 57 :: Value.pointer (some { block := rg, off := 0 }) :: Value.pointer (some { block := xg, off := 0 }) :: Value.slice ao P.length cap :: Value.int IntKind.i64 (P.length : Int) :: Value.bool (decide (2000 < (P.length : Int))) :: t0 :: t1 :: t2 :: t3 :: t4 :: t5 :: Value.pointer (some { block := rg, off := 0 }) :: Value.bool false :: xs 0 :: xs 1 :: xs 2 :: xs 3 :: xs 4 :: xs 5 :: xs 6 :: xs 7 :: xs 8 :: xs 9 :: xs 10 :: xs 11 :: xs 12 :: xs 13 :: xs 14 :: xs 15 :: xs 16 :: xs 17 :: xs 18 :: xs 19 :: xs 20 :: xs 21 :: xs 22 :: xs 23 :: xs 24 :: xs 25 :: xs 26 :: xs 27 :: xs 28 :: xs 29 :: xs 30 :: xs 31 :: xs 32 :: xs 33 :: xs 34 :: xs 35 :: xs 36 :: xs 37 :: xs 38 :: xs 39 :: xs 40 :: xs 41 :: xs 42 :: xs 43 :: xs 44 :: xs 45 :: xs 46 :: xs 47 :: xs 48 :: xs 49 :: xs 50 :: xs 51 :: xs 52 :: xs 53 :: xs 54 :: xs 55 :: xs 56 :: []).toArray, defers := [] })
    (fun ii xx _ => match ii with | 0 => xx = .pointer (some ⟨rg, 0, none⟩) | 1 => xx = .int .i64 (n : Int) | 2 => xx = .pointer (some ⟨xg, 0, none⟩) | 3 => xx = .pointer (some ⟨xg, 0, none⟩) | 4 => xx = .pointer (some ⟨xg, 0, none⟩) | 5 => xx = .slice (some ⟨kg, 0, none⟩) n kc | 6 => xx = .int .i64 (n : Int) | 7 => xx = .bool true | 8 => xx = .bool true | 9 => xx = .pointer (some ⟨rg, 0, none⟩) | 10 => xx = .int .i64 i | 11 => xx = .slice ao P.length cap | 12 => xx = .agg (row .u8 32 sf) | 13 => xx = .pointer (some ⟨xg, 0, none⟩) | 14 => xx = .int .i64 i | 15 => xx = .slice ao P.length cap | 16 => xx = .agg (row .u8 32 sf) | 17 => xx = .bool true | 18 => xx = .bool true | 19 => xx = .bool true | 20 => xx = .pointer (some ⟨rg, 0, none⟩) | 21 => xx = .int .i64 i | 22 => xx = .slice ao P.length cap | 23 => xx = .agg (row .u8 32 tag) | 24 => xx = .bool cb | 25 => xx = .pointer (some ⟨xg, 0, none⟩) | 26 => xx = .int .i64 i | 27 => xx = .slice ao P.length cap | 28 => xx = .agg (row .u8 32 tag) | 29 => xx = .bool cb | 30 => xx = .bool true | 31 => xx = .bool true | 32 => xx = .bool true | 33 => xx = .pointer (some ⟨rg, 0, none⟩) | 34 => xx = .int .i64 i | 35 => xx = .slice ao P.length cap | 36 => xx = .pointer (some ⟨xg, 0, none⟩) | 37 => xx = .int .i64 i | 38 => xx = .slice ao P.length cap | 39 => xx = .agg (row .u8 32 sf) | 40 => xx = .bool false | 41 => xx = .int .i64 i | 42 => xx = .bool false | 43 => xx = .bool false | 51 => xx = .bool false | 52 => xx = .bool true | 53 => xx = .bool true | 54 => xx = .bool true | 55 => xx = .bool true | 56 => xx = .bool true | 57 => xx = .bool true | _ => True) (fun | 57 => .bool false | _ => undef) (by repeat (first | exact trivial | refine ⟨fun _ _ => rfl, ?_⟩)) (fun _ _ _ _ _ h => h) ⟨?_, ?_, ?_, ?_, ?_, ?_, ?_, ?_, ?_, ?_, ?_, ?_, ?_, ?_, ?_, ?_, ?_, ?_, ?_, ?_, ?_, ?_, ?_, ?_, ?_, ?_, ?_, ?_, ?_, ?_, ?_, ?_, ?_, ?_, ?_, ?_, ?_, ?_, ?_, ?_, ?_, ?_, ?_, ?_, ?_, ?_, ?_, ?_, ?_, ?_, ?_, ?_, ?_, ?_, ?_, ?_, ?_, ?_, trivial⟩ ?_
  · intro xs W hB hp K hK
    rw [if_pos (wanted_none rfl _)]
    clear hp
    go_simp
    exact hK _ _ (Below.refl _ _) rfl
  · intro xs W hB hp K hK
    rw [if_pos (wanted_none rfl _)]
    have h0 : xs 0 = .pointer (some ⟨rg, 0, none⟩) := hp.1 rfl
    clear hp
    simp only [h0] at hK ⊢
    clear h0
    go_simp
    refine (nodes_any rg n seed W (HR.out.below hB)).mono ?_
    rintro e w' ⟨rfl, rfl⟩
    exact hK _ _ (Below.refl _ _) rfl
  · intro xs W hB hp K hK
    rw [if_pos (wanted_none rfl _)]
    clear hp
    go_simp
    exact hK _ _ (Below.refl _ _) rfl
  · intro xs W hB hp K hK
    rw [if_pos (wanted_none rfl _)]
    have h2 : xs 2 = .pointer (some ⟨xg, 0, none⟩) := hp.1 rfl
    clear hp
    simp only [h2] at hK ⊢
    clear h2
    go_simp
    exact hK _ _ (Below.refl _ _) rfl
  · intro xs W hB hp K hK
    rw [if_pos (wanted_none rfl _)]
    have h3 : xs 3 = .pointer (some ⟨xg, 0, none⟩) := hp.1 rfl
    clear hp
    simp only [h3] at hK ⊢
    clear h3
    go_simp
    exact hK _ _ (Below.refl _ _) rfl
  · intro xs W hB hp K hK
    rw [if_pos (wanted_none rfl _)]
    have h4 : xs 4 = .pointer (some ⟨xg, 0, none⟩) := hp.1 rfl
    clear hp
    have cc : W.cell? ⟨xg, 0, none⟩ = some (.slice (some ⟨kg, 0, none⟩) n kc) := cell_blk (Below.blk hB (lt_blk HX0.out) HX0.out) 0
    simp only [h4] at hK ⊢
    clear h4
    go_simp
    exact hK _ _ (Below.refl _ _) rfl
  · intro xs W hB hp K hK
    rw [if_pos (wanted_none rfl _)]
    have h5 : xs 5 = .slice (some ⟨kg, 0, none⟩) n kc := hp.1 rfl
    clear hp
    simp only [h5] at hK ⊢
    clear h5
    go_simp
    exact hK _ _ (Below.refl _ _) rfl
  · intro xs W hB hp K hK
    rw [if_pos (wanted_none rfl _)]
    have h1 : xs 1 = .int .i64 (n : Int) := hp.1 rfl
    have h6 : xs 6 = .int .i64 (n : Int) := hp.2.1 rfl
    clear hp
    simp only [h1, h6] at hK ⊢
    clear h1 h6
    go_simp
    exact hK _ _ (Below.refl _ _) (by first | rfl | (show Value.bool _ = _; simp; done) | (show Value.bool _ = _; simp; omega))
  · intro xs W hB hp K hK
    rw [if_pos (wanted_none rfl _)]
    have h7 : xs 7 = .bool true := hp.1 rfl
    clear hp
    simp only [h7] at hK ⊢
    clear h7
    go_simp
    exact hK _ _ (Below.refl _ _) rfl
  · intro xs W hB hp K hK
    have hgd : xs 8 = .bool true := hp.1 rfl
    rw [wanted_g (b := true) rfl (by show (match some (xs 8) with | some (.bool b) => some b | _ => none) = some true; rw [hgd])]
    rw [if_pos (show (true == true) = true from rfl)]
    clear hgd
    clear hp
    go_simp
    exact hK _ _ (Below.refl _ _) rfl
  · intro xs W hB hp K hK
    have hgd : xs 8 = .bool true := hp.1 rfl
    rw [wanted_g (b := true) rfl (by show (match some (xs 8) with | some (.bool b) => some b | _ => none) = some true; rw [hgd])]
    rw [if_pos (show (true == true) = true from rfl)]
    clear hgd
    clear hp
    go_simp
    exact hK _ _ (Below.refl _ _) rfl
  · intro xs W hB hp K hK
    have hgd : xs 8 = .bool true := hp.1 rfl
    rw [wanted_g (b := true) rfl (by show (match some (xs 8) with | some (.bool b) => some b | _ => none) = some true; rw [hgd])]
    rw [if_pos (show (true == true) = true from rfl)]
    clear hgd
    clear hp
    go_simp
    exact hK _ _ (Below.refl _ _) rfl
  · intro xs W hB hp K hK
    have hgd : xs 8 = .bool true := hp.2.2.2.1 rfl
    rw [wanted_g (b := true) rfl (by show (match some (xs 8) with | some (.bool b) => some b | _ => none) = some true; rw [hgd])]
    rw [if_pos (show (true == true) = true from rfl)]
    clear hgd
    have h9 : xs 9 = .pointer (some ⟨rg, 0, none⟩) := hp.1 rfl
    have h10 : xs 10 = .int .i64 i := hp.2.1 rfl
    have h11 : xs 11 = .slice ao P.length cap := hp.2.2.1 rfl
    clear hp
    simp only [h9, h10, h11] at hK ⊢
    clear h9 h10 h11
    go_simp
    refine (seal_any rg n seed i P ao cap W (HR.out.below hB) (HL.out.below (hBB.trans (hB.mono hBB.size)) (Nat.le_refl _)) hc (by omega)).mono ?_
    rintro e w' ⟨rfl, hB'⟩
    rw [← Hsf.out]
    exact hK _ _ hB' rfl
  · intro xs W hB hp K hK
    have hgd : xs 8 = .bool true := hp.1 rfl
    rw [wanted_g (b := true) rfl (by show (match some (xs 8) with | some (.bool b) => some b | _ => none) = some true; rw [hgd])]
    rw [if_pos (show (true == true) = true from rfl)]
    clear hgd
    clear hp
    go_simp
    exact hK _ _ (Below.refl _ _) rfl
  · intro xs W hB hp K hK
    have hgd : xs 8 = .bool true := hp.1 rfl
    rw [wanted_g (b := true) rfl (by show (match some (xs 8) with | some (.bool b) => some b | _ => none) = some true; rw [hgd])]
    rw [if_pos (show (true == true) = true from rfl)]
    clear hgd
    clear hp
    go_simp
    exact hK _ _ (Below.refl _ _) rfl
  · intro xs W hB hp K hK
    have hgd : xs 8 = .bool true := hp.1 rfl
    rw [wanted_g (b := true) rfl (by show (match some (xs 8) with | some (.bool b) => some b | _ => none) = some true; rw [hgd])]
    rw [if_pos (show (true == true) = true from rfl)]
    clear hgd
    clear hp
    go_simp
    exact hK _ _ (Below.refl _ _) rfl
  · intro xs W hB hp K hK
    have hgd : xs 8 = .bool true := hp.2.2.2.2.1 rfl
    rw [wanted_g (b := true) rfl (by show (match some (xs 8) with | some (.bool b) => some b | _ => none) = some true; rw [hgd])]
    rw [if_pos (show (true == true) = true from rfl)]
    clear hgd
    have h13 : xs 13 = .pointer (some ⟨xg, 0, none⟩) := hp.1 rfl
    have h14 : xs 14 = .int .i64 i := hp.2.1 rfl
    have h15 : xs 15 = .slice ao P.length cap := hp.2.2.1 rfl
    clear hp
    simp only [h13, h14, h15] at hK ⊢
    clear h13 h14 h15
    go_simp
    refine (rSeal_any xg n seed i P ao cap W (HX.out.below hB) (HD.out.below (hBB.trans (hB.mono hBB.size)) (Nat.le_refl _)) (by omega)).mono ?_
    rintro e w' ⟨rfl, hB'⟩
    rw [← Hsf.out]
    exact hK _ _ hB' rfl
  · intro xs W hB hp K hK
    have hgd : xs 8 = .bool true := hp.2.2.1 rfl
    rw [wanted_g (b := true) rfl (by show (match some (xs 8) with | some (.bool b) => some b | _ => none) = some true; rw [hgd])]
    rw [if_pos (show (true == true) = true from rfl)]
    clear hgd
    have h12 : xs 12 = .agg (row .u8 32 sf) := hp.1 rfl
    have h16 : xs 16 = .agg (row .u8 32 sf) := hp.2.1 rfl
    clear hp
    have heq := equalIn_hash sf sf
    rw [rowEq_self] at heq
    simp only [h12, h16] at hK ⊢
    clear h12 h16
    go_simp
    exact hK _ _ (Below.refl _ _) (by first | rfl | (show Value.bool _ = _; simp; done) | (show Value.bool _ = _; simp; omega))
  · intro xs W hB hp K hK
    rw [if_pos (wanted_none rfl _)]
    have h8 : xs 8 = .bool true := hp.1 rfl
    have h17 : xs 17 = .bool true := hp.2.1 rfl
    clear hp
    simp only [h8, h17] at hK ⊢
    clear h8 h17
    go_simp
    exact hK _ _ (Below.refl _ _) rfl
  · intro xs W hB hp K hK
    rw [if_pos (wanted_none rfl _)]
    have h18 : xs 18 = .bool true := hp.1 rfl
    clear hp
    simp only [h18] at hK ⊢
    clear h18
    go_simp
    exact hK _ _ (Below.refl _ _) rfl
  · intro xs W hB hp K hK
    have hgd : xs 19 = .bool true := hp.1 rfl
    rw [wanted_g (b := true) rfl (by show (match some (xs 19) with | some (.bool b) => some b | _ => none) = some true; rw [hgd])]
    rw [if_pos (show (true == true) = true from rfl)]
    clear hgd
    clear hp
    go_simp
    exact hK _ _ (Below.refl _ _) rfl
  · intro xs W hB hp K hK
    have hgd : xs 19 = .bool true := hp.1 rfl
    rw [wanted_g (b := true) rfl (by show (match some (xs 19) with | some (.bool b) => some b | _ => none) = some true; rw [hgd])]
    rw [if_pos (show (true == true) = true from rfl)]
    clear hgd
    clear hp
    go_simp
    exact hK _ _ (Below.refl _ _) rfl
  · intro xs W hB hp K hK
    have hgd : xs 19 = .bool true := hp.1 rfl
    rw [wanted_g (b := true) rfl (by show (match some (xs 19) with | some (.bool b) => some b | _ => none) = some true; rw [hgd])]
    rw [if_pos (show (true == true) = true from rfl)]
    clear hgd
    clear hp
    go_simp
    exact hK _ _ (Below.refl _ _) rfl
  · intro xs W hB hp K hK
    have hgd : xs 19 = .bool true := hp.1 rfl
    rw [wanted_g (b := true) rfl (by show (match some (xs 19) with | some (.bool b) => some b | _ => none) = some true; rw [hgd])]
    rw [if_pos (show (true == true) = true from rfl)]
    clear hgd
    clear hp
    exact wp_load_row _ _ rfl (w.heap.size + 1) rfl 23 _ (0, 0) (.array 32 5) (Below.blk hB (lt_blk HT2.out) HT2.out) (by kernel_rfl) rfl (row_info size_hash _) (hK _ _ (Below.refl _ _) rfl)
  · intro xs W hB hp K hK
    have hgd : xs 19 = .bool true := hp.2.2.2.2.1 rfl
    rw [wanted_g (b := true) rfl (by show (match some (xs 19) with | some (.bool b) => some b | _ => none) = some true; rw [hgd])]
    rw [if_pos (show (true == true) = true from rfl)]
    clear hgd
    have h20 : xs 20 = .pointer (some ⟨rg, 0, none⟩) := hp.1 rfl
    have h21 : xs 21 = .int .i64 i := hp.2.1 rfl
    have h22 : xs 22 = .slice ao P.length cap := hp.2.2.1 rfl
    have h23 : xs 23 = .agg (row .u8 32 tag) := hp.2.2.2.1 rfl
    clear hp
    simp only [h20, h21, h22, h23] at hK ⊢
    clear h20 h21 h22 h23
    go_simp
    refine (check_any rg n seed i P ao cap tag W (HR.out.below hB) (HL.out.below (hBB.trans (hB.mono hBB.size)) (Nat.le_refl _)) hc (by omega)).mono ?_
    rintro e w' ⟨rfl, hB'⟩
    rw [← Hcb.out]
    exact hK _ _ hB' rfl
  · intro xs W hB hp K hK
    have hgd : xs 19 = .bool true := hp.1 rfl
    rw [wanted_g (b := true) rfl (by show (match some (xs 19) with | some (.bool b) => some b | _ => none) = some true; rw [hgd])]
    rw [if_pos (show (true == true) = true from rfl)]
    clear hgd
    clear hp
    go_simp
    exact hK _ _ (Below.refl _ _) rfl
  · intro xs W hB hp K hK
    have hgd : xs 19 = .bool true := hp.1 rfl
    rw [wanted_g (b := true) rfl (by show (match some (xs 19) with | some (.bool b) => some b | _ => none) = some true; rw [hgd])]
    rw [if_pos (show (true == true) = true from rfl)]
    clear hgd
    clear hp
    go_simp
    exact hK _ _ (Below.refl _ _) rfl
  · intro xs W hB hp K hK
    have hgd : xs 19 = .bool true := hp.1 rfl
    rw [wanted_g (b := true) rfl (by show (match some (xs 19) with | some (.bool b) => some b | _ => none) = some true; rw [hgd])]
    rw [if_pos (show (true == true) = true from rfl)]
    clear hgd
    clear hp
    go_simp
    exact hK _ _ (Below.refl _ _) rfl
  · intro xs W hB hp K hK
    have hgd : xs 19 = .bool true := hp.1 rfl
    rw [wanted_g (b := true) rfl (by show (match some (xs 19) with | some (.bool b) => some b | _ => none) = some true; rw [hgd])]
    rw [if_pos (show (true == true) = true from rfl)]
    clear hgd
    clear hp
    exact wp_load_row _ _ rfl (w.heap.size + 1) rfl 23 _ (0, 0) (.array 32 5) (Below.blk hB (lt_blk HT2.out) HT2.out) (by kernel_rfl) rfl (row_info size_hash _) (hK _ _ (Below.refl _ _) rfl)
  · intro xs W hB hp K hK
    have hgd : xs 19 = .bool true := hp.2.2.2.2.2.1 rfl
    rw [wanted_g (b := true) rfl (by show (match some (xs 19) with | some (.bool b) => some b | _ => none) = some true; rw [hgd])]
    rw [if_pos (show (true == true) = true from rfl)]
    clear hgd
    have h25 : xs 25 = .pointer (some ⟨xg, 0, none⟩) := hp.1 rfl
    have h26 : xs 26 = .int .i64 i := hp.2.1 rfl
    have h27 : xs 27 = .slice ao P.length cap := hp.2.2.1 rfl
    have h28 : xs 28 = .agg (row .u8 32 tag) := hp.2.2.2.1 rfl
    clear hp
    simp only [h25, h26, h27, h28] at hK ⊢
    clear h25 h26 h27 h28
    go_simp
    refine (rCheck_any xg n seed i P ao cap tag W (HX.out.below hB) (HD.out.below (hBB.trans (hB.mono hBB.size)) (Nat.le_refl _)) (by omega)).mono ?_
    rintro e w' ⟨rfl, hB'⟩
    rw [← Hcb.out]
    exact hK _ _ hB' rfl
  · intro xs W hB hp K hK
    have hgd : xs 19 = .bool true := hp.2.2.1 rfl
    rw [wanted_g (b := true) rfl (by show (match some (xs 19) with | some (.bool b) => some b | _ => none) = some true; rw [hgd])]
    rw [if_pos (show (true == true) = true from rfl)]
    clear hgd
    have h24 : xs 24 = .bool cb := hp.1 rfl
    have h29 : xs 29 = .bool cb := hp.2.1 rfl
    clear hp
    simp only [h24, h29] at hK ⊢
    clear h24 h29
    go_simp
    exact hK _ _ (Below.refl _ _) (by first | rfl | (show Value.bool _ = _; simp; done) | (show Value.bool _ = _; simp; omega))
  · intro xs W hB hp K hK
    rw [if_pos (wanted_none rfl _)]
    have h19 : xs 19 = .bool true := hp.1 rfl
    have h30 : xs 30 = .bool true := hp.2.1 rfl
    clear hp
    simp only [h19, h30] at hK ⊢
    clear h19 h30
    go_simp
    exact hK _ _ (Below.refl _ _) rfl
  · intro xs W hB hp K hK
    rw [if_pos (wanted_none rfl _)]
    have h31 : xs 31 = .bool true := hp.1 rfl
    clear hp
    simp only [h31] at hK ⊢
    clear h31
    go_simp
    exact hK _ _ (Below.refl _ _) rfl
  · intro xs W hB hp K hK
    have hgd : xs 32 = .bool true := hp.1 rfl
    rw [wanted_g (b := true) rfl (by show (match some (xs 32) with | some (.bool b) => some b | _ => none) = some true; rw [hgd])]
    rw [if_pos (show (true == true) = true from rfl)]
    clear hgd
    clear hp
    go_simp
    exact hK _ _ (Below.refl _ _) rfl
  · intro xs W hB hp K hK
    have hgd : xs 32 = .bool true := hp.1 rfl
    rw [wanted_g (b := true) rfl (by show (match some (xs 32) with | some (.bool b) => some b | _ => none) = some true; rw [hgd])]
    rw [if_pos (show (true == true) = true from rfl)]
    clear hgd
    clear hp
    go_simp
    exact hK _ _ (Below.refl _ _) rfl
  · intro xs W hB hp K hK
    have hgd : xs 32 = .bool true := hp.1 rfl
    rw [wanted_g (b := true) rfl (by show (match some (xs 32) with | some (.bool b) => some b | _ => none) = some true; rw [hgd])]
    rw [if_pos (show (true == true) = true from rfl)]
    clear hgd
    clear hp
    go_simp
    exact hK _ _ (Below.refl _ _) rfl
  · intro xs W hB hp K hK
    have hgd : xs 32 = .bool true := hp.1 rfl
    rw [wanted_g (b := true) rfl (by show (match some (xs 32) with | some (.bool b) => some b | _ => none) = some true; rw [hgd])]
    rw [if_pos (show (true == true) = true from rfl)]
    clear hgd
    clear hp
    go_simp
    exact hK _ _ (Below.refl _ _) rfl
  · intro xs W hB hp K hK
    have hgd : xs 32 = .bool true := hp.1 rfl
    rw [wanted_g (b := true) rfl (by show (match some (xs 32) with | some (.bool b) => some b | _ => none) = some true; rw [hgd])]
    rw [if_pos (show (true == true) = true from rfl)]
    clear hgd
    clear hp
    go_simp
    exact hK _ _ (Below.refl _ _) rfl
  · intro xs W hB hp K hK
    have hgd : xs 32 = .bool true := hp.1 rfl
    rw [wanted_g (b := true) rfl (by show (match some (xs 32) with | some (.bool b) => some b | _ => none) = some true; rw [hgd])]
    rw [if_pos (show (true == true) = true from rfl)]
    clear hgd
    clear hp
    go_simp
    exact hK _ _ (Below.refl _ _) rfl
  · intro xs W hB hp K hK
    have hgd : xs 32 = .bool true := hp.2.2.2.1 rfl
    rw [wanted_g (b := true) rfl (by show (match some (xs 32) with | some (.bool b) => some b | _ => none) = some true; rw [hgd])]
    rw [if_pos (show (true == true) = true from rfl)]
    clear hgd
    have h36 : xs 36 = .pointer (some ⟨xg, 0, none⟩) := hp.1 rfl
    have h37 : xs 37 = .int .i64 i := hp.2.1 rfl
    have h38 : xs 38 = .slice ao P.length cap := hp.2.2.1 rfl
    clear hp
    simp only [h36, h37, h38] at hK ⊢
    clear h36 h37 h38
    go_simp
    refine (rSeal_any xg n seed i P ao cap W (HX.out.below hB) (HD.out.below (hBB.trans (hB.mono hBB.size)) (Nat.le_refl _)) (by omega)).mono ?_
    rintro e w' ⟨rfl, hB'⟩
    rw [← Hsf.out]
    exact hK _ _ hB' rfl
  · intro xs W hB hp K hK
    have hgd : xs 32 = .bool true := hp.2.2.2.2.2.1 rfl
    rw [wanted_g (b := true) rfl (by show (match some (xs 32) with | some (.bool b) => some b | _ => none) = some true; rw [hgd])]
    rw [if_pos (show (true == true) = true from rfl)]
    clear hgd
    have h33 : xs 33 = .pointer (some ⟨rg, 0, none⟩) := hp.1 rfl
    have h34 : xs 34 = .int .i64 i := hp.2.1 rfl
    have h35 : xs 35 = .slice ao P.length cap := hp.2.2.1 rfl
    have h39 : xs 39 = .agg (row .u8 32 sf) := hp.2.2.2.1 rfl
    clear hp
    simp only [h33, h34, h35, h39] at hK ⊢
    clear h33 h34 h35 h39
    go_simp
    refine (check_any rg n seed i P ao cap sf W (HR.out.below hB) (HL.out.below (hBB.trans (hB.mono hBB.size)) (Nat.le_refl _)) hc (by omega)).mono ?_
    rintro e w' ⟨rfl, hB'⟩
    rw [Hck.out]
    exact hK _ _ hB' rfl
  · intro xs W hB hp K hK
    have hgd : xs 32 = .bool true := hp.1 rfl
    rw [wanted_g (b := true) rfl (by show (match some (xs 32) with | some (.bool b) => some b | _ => none) = some true; rw [hgd])]
    rw [if_pos (show (true == true) = true from rfl)]
    clear hgd
    clear hp
    go_simp
    exact hK _ _ (Below.refl _ _) rfl
  · intro xs W hB hp K hK
    have hgd : xs 32 = .bool true := hp.2.1 rfl
    rw [wanted_g (b := true) rfl (by show (match some (xs 32) with | some (.bool b) => some b | _ => none) = some true; rw [hgd])]
    rw [if_pos (show (true == true) = true from rfl)]
    clear hgd
    have h41 : xs 41 = .int .i64 i := hp.1 rfl
    clear hp
    simp only [h41] at hK ⊢
    clear h41
    go_simp
    exact hK _ _ (Below.refl _ _) (by first | rfl | (show Value.bool _ = _; simp; done) | (show Value.bool _ = _; simp; omega))
  · intro xs W hB hp K hK
    have hgd : xs 32 = .bool true := hp.2.2.1 rfl
    rw [wanted_g (b := true) rfl (by show (match some (xs 32) with | some (.bool b) => some b | _ => none) = some true; rw [hgd])]
    rw [if_pos (show (true == true) = true from rfl)]
    clear hgd
    have h42 : xs 42 = .bool false := hp.1 rfl
    clear hp
    simp only [h42] at hK ⊢
    clear h42
    go_simp
    exact hK _ _ (Below.refl _ _) rfl
  · intro xs W hB hp K hK
    have hgd : xs 43 = .bool false := hp.1 rfl
    rw [wanted_g (b := false) rfl (by show (match some (xs 43) with | some (.bool b) => some b | _ => none) = some false; rw [hgd])]
    exact hK _ _ (Below.refl _ _) trivial
  · intro xs W hB hp K hK
    have hgd : xs 43 = .bool false := hp.1 rfl
    rw [wanted_g (b := false) rfl (by show (match some (xs 43) with | some (.bool b) => some b | _ => none) = some false; rw [hgd])]
    exact hK _ _ (Below.refl _ _) trivial
  · intro xs W hB hp K hK
    have hgd : xs 43 = .bool false := hp.2.1 rfl
    rw [wanted_g (b := false) rfl (by show (match some (xs 43) with | some (.bool b) => some b | _ => none) = some false; rw [hgd])]
    exact hK _ _ (Below.refl _ _) trivial
  · intro xs W hB hp K hK
    have hgd : xs 43 = .bool false := hp.2.1 rfl
    rw [wanted_g (b := false) rfl (by show (match some (xs 43) with | some (.bool b) => some b | _ => none) = some false; rw [hgd])]
    exact hK _ _ (Below.refl _ _) trivial
  · intro xs W hB hp K hK
    have hgd : xs 43 = .bool false := hp.2.1 rfl
    rw [wanted_g (b := false) rfl (by show (match some (xs 43) with | some (.bool b) => some b | _ => none) = some false; rw [hgd])]
    exact hK _ _ (Below.refl _ _) trivial
  · intro xs W hB hp K hK
    have hgd : xs 43 = .bool false := hp.2.1 rfl
    rw [wanted_g (b := false) rfl (by show (match some (xs 43) with | some (.bool b) => some b | _ => none) = some false; rw [hgd])]
    exact hK _ _ (Below.refl _ _) trivial
  · intro xs W hB hp K hK
    have hgd : xs 43 = .bool false := hp.2.2.1 rfl
    rw [wanted_g (b := false) rfl (by show (match some (xs 43) with | some (.bool b) => some b | _ => none) = some false; rw [hgd])]
    exact hK _ _ (Below.refl _ _) trivial
  · intro xs W hB hp K hK
    have hgd : xs 32 = .bool true := hp.2.2.1 rfl
    rw [wanted_g (b := true) rfl (by show (match some (xs 32) with | some (.bool b) => some b | _ => none) = some true; rw [hgd])]
    rw [if_pos (show (true == true) = true from rfl)]
    clear hgd
    have h43 : xs 43 = .bool false := hp.1 rfl
    clear hp
    simp only [h43] at hK ⊢
    clear h43
    go_simp
    exact hK _ _ (Below.refl _ _) rfl
  · intro xs W hB hp K hK
    have hgd : xs 32 = .bool true := hp.2.2.1 rfl
    rw [wanted_g (b := true) rfl (by show (match some (xs 32) with | some (.bool b) => some b | _ => none) = some true; rw [hgd])]
    rw [if_pos (show (true == true) = true from rfl)]
    clear hgd
    have h40 : xs 40 = .bool false := hp.1 rfl
    have h51 : xs 51 = .bool false := hp.2.1 rfl
    clear hp
    simp only [h40, h51] at hK ⊢
    clear h40 h51
    go_simp
    exact hK _ _ (Below.refl _ _) (by first | rfl | (show Value.bool _ = _; simp; done) | (show Value.bool _ = _; simp; omega))
  · intro xs W hB hp K hK
    rw [if_pos (wanted_none rfl _)]
    have h32 : xs 32 = .bool true := hp.1 rfl
    have h52 : xs 52 = .bool true := hp.2.1 rfl
    clear hp
    simp only [h32, h52] at hK ⊢
    clear h32 h52
    go_simp
    exact hK _ _ (Below.refl _ _) rfl
  · intro xs W hB hp K hK
    rw [if_pos (wanted_none rfl _)]
    have h53 : xs 53 = .bool true := hp.1 rfl
    clear hp
    simp only [h53] at hK ⊢
    clear h53
    go_simp
    exact hK _ _ (Below.refl _ _) rfl
  · intro xs W hB hp K hK
    have hgd : xs 54 = .bool true := hp.1 rfl
    rw [wanted_g (b := true) rfl (by show (match some (xs 54) with | some (.bool b) => some b | _ => none) = some true; rw [hgd])]
    rw [if_pos (show (true == true) = true from rfl)]
    clear hgd
    clear hp
    go_simp
    refine (known_any _).mono ?_
    rintro e w' ⟨rfl, hB'⟩
    exact hK _ _ hB' rfl
  · intro xs W hB hp K hK
    rw [if_pos (wanted_none rfl _)]
    have h54 : xs 54 = .bool true := hp.1 rfl
    have h55 : xs 55 = .bool true := hp.2.1 rfl
    clear hp
    simp only [h54, h55] at hK ⊢
    clear h54 h55
    go_simp
    exact hK _ _ (Below.refl _ _) rfl
  · intro xs W hB hp K hK
    rw [if_pos (wanted_none rfl _)]
    have h56 : xs 56 = .bool true := hp.1 rfl
    clear hp
    simp only [h56] at hK ⊢
    clear h56
    go_simp
    exact hK _ _ (Below.refl _ _) rfl
  · intro xs W hB hs
    have h57 : xs 57 = .bool true := hs 57 (by simp)
    simp only [h57]
    go_wp2_with fail
    go_ret
    exact ⟨rfl, hBB.trans (hB.mono hBB.size)⟩
set_option maxRecDepth 10000 in
set_option maxHeartbeats 1000000 in
theorem sealTells_high (nodes : Int) (seed : Nat → Int) (i : Int) (P : List Int) (ao : Option Addr) (cap : Nat) (tag : Nat → Int) (w : World) (h0 : -9223372036854775808 ≤ nodes) (h1 : nodes ≤ 9223372036854775807) (hl : Lies w ao P) (hc : P.length ≤ cap) (hr : Rowed w ao P cap) (q4 : ¬ 2000 < P.length) (n : Nat) (hn : nodesOf nodes = n) (q0 : 0 ≤ i) (q : (n : Int) ≤ i) :
    Calls Try.prog 3 #[.int .i64 nodes, .agg (row .u8 32 seed), .int .i64 i, .slice ao P.length cap, .agg (row .u8 32 tag)] w fun e w' => e = .returned (.bool true) ∧ Below w.heap.size w w' := by
  have HL : Hid (Lies w ao P) := hl
  have HD : Hid (Rowed w ao P cap) := hr
  have HZ : Hid ((Try.prog.info? 23).map (·.zero) = some (some (.agg (row .u8 32 (fun _ => 0))))) := zero_hash
  have Hn : Hid (nodesOf nodes = n) := hn
  clear hl hr hn
  go_enter Try.func3, Try.ntmps3
  have hA : ((w.alloc (.cells (row .u8 32 seed) 23)).alloc (.cells (row .u8 32 tag) 23)).heap[w.heap.size]? = some (.cells (row .u8 32 seed) 23 (0, 0)) := alloc_blk_old (alloc_blk _ _) _
  have hT : ((w.alloc (.cells (row .u8 32 seed) 23)).alloc (.cells (row .u8 32 tag) 23)).heap[w.heap.size + 1]? = some (.cells (row .u8 32 tag) 23 (0, 0)) := by
    have := alloc_blk (w.alloc (.cells (row .u8 32 seed) 23)) (.cells (row .u8 32 tag) 23)
    rw [World.size_alloc] at this; exact this
  have hBw : Below w.heap.size w ((w.alloc (.cells (row .u8 32 seed) 23)).alloc (.cells (row .u8 32 tag) 23)) := (below_alloc _ _).alloc (by simp) _
  go_wp2_with (first | refine wpList_box_row rfl 23 _ rfl _ rfl ?_)
  generalize (w.alloc (.cells (row .u8 32 seed) 23)).alloc (.cells (row .u8 32 tag) 23) = w1 at *
  have HA : Hid (w1.heap[w.heap.size]? = some (.cells (row .u8 32 seed) 23 (0, 0))) := hA
  have HT : Hid (w1.heap[w.heap.size + 1]? = some (.cells (row .u8 32 tag) 23 (0, 0))) := hT
  clear hA hT
  refine wp_region_growG (by kernel_rfl) (by kernel_rfl) (fun xs => { tmps := (Value.int IntKind.i64 nodes :: Value.agg (row IntKind.u8 32 seed) :: Value.int IntKind.i64 i :: Value.slice ao P.length cap :: Value.agg (row IntKind.u8 32 tag) :: undef :: Value.pointer (some { block := w.heap.size, off := 0 }) :: undef :: undef :: Value.pointer (some { block := w.heap.size + 1, off := 0 }) :: Value.bool false :: xs 6 :: xs 7 :: Value.slice ao P.length cap :: Value.int IntKind.i64 (P.length : Int) :: Value.bool (decide (2000 < (P.length : Int))) :: xs 0 :: xs 1 :: xs 2 :: xs 3 :: xs 4 :: xs 5 :: undef :: undef :: undef :: undef :: undef :: undef :: undef :: undef :: undef :: undef :: undef :: undef :: undef :: undef :: undef :: undef :: undef :: undef :: undef :: undef :: undef :: undef :: undef :: undef :: undef :: undef :: undef :: undef :: undef :: undef :: undef :: undef :: undef :: undef :: undef :: undef :: undef :: undef :: undef :: undef :: undef :: undef :: undef :: undef :: undef :: undef :: undef :: undef :: undef :: undef :: undef :: undef :: undef :: undef :: undef :: undef :: undef :: undef :: undef :: []).toArray, defers := [] })
    (tellsSpec3 nodes seed n) (fun _ => undef) (by repeat (first | exact trivial | refine ⟨fun _ _ => rfl, ?_⟩))
    (by intro i x w w' h hs; unfold tellsSpec3 at *; split at hs <;> first | exact hs | (obtain ⟨g, e, r⟩ := hs; exact ⟨g, e, r.below h⟩) | exact trivial) ⟨?_, ?_, ?_, ?_, ?_, ?_, ?_, ?_, trivial⟩ ?_
  · intro xs W hB hp K hK
    clear hp
    rw [if_pos (wanted_none rfl _)]
    go_simp
    exact hK _ _ (Below.refl _ _) rfl
  · intro xs W hB hp K hK
    clear hp
    rw [if_pos (wanted_none rfl _)]
    exact wp_load_row _ _ rfl w.heap.size rfl 23 _ (0, 0) (.array 32 5) (Below.blk hB (lt_blk HA.out) HA.out) (by kernel_rfl) rfl (row_info size_hash _) (hK _ _ (Below.refl _ _) rfl)
  · intro xs W hB hp K hK
    have h0' : xs 0 = .int .i64 nodes := hp.1 rfl
    have h1' : xs 1 = .agg (row .u8 32 seed) := hp.2.1 rfl
    clear hp
    rw [if_pos (wanted_none rfl _)]
    simp only [h0', h1'] at hK ⊢
    clear h0' h1'
    go_simp
    refine (sNew_any nodes seed W h0 h1).mono ?_
    rintro e w' ⟨rg, rfl, hrg, hR, hB'⟩
    rw [Hn.out] at hR
    exact hK _ _ hB' ⟨rg, rfl, hR⟩
  · intro xs W hB hp K hK
    clear hp
    rw [if_pos (wanted_none rfl _)]
    go_simp
    exact hK _ _ (Below.refl _ _) rfl
  · intro xs W hB hp K hK
    clear hp
    rw [if_pos (wanted_none rfl _)]
    exact wp_load_row _ _ rfl w.heap.size rfl 23 _ (0, 0) (.array 32 5) (Below.blk hB (lt_blk HA.out) HA.out) (by kernel_rfl) rfl (row_info size_hash _) (hK _ _ (Below.refl _ _) rfl)
  · intro xs W hB hp K hK
    have h0' : xs 3 = .int .i64 nodes := hp.1 rfl
    have h1' : xs 4 = .agg (row .u8 32 seed) := hp.2.1 rfl
    clear hp
    rw [if_pos (wanted_none rfl _)]
    simp only [h0', h1'] at hK ⊢
    clear h0' h1'
    go_simp
    refine (rNew_any nodes seed W h0 h1).mono ?_
    rintro e w' ⟨rg, rfl, hrg, hR, hB'⟩
    rw [Hn.out] at hR
    exact hK _ _ hB' ⟨rg, rfl, hR⟩
  · intro xs W hB hp K hK
    obtain ⟨rg, e2, hR⟩ : ∃ rg, xs 2 = .pointer (some ⟨rg, 0, none⟩) ∧ RingAt W rg seed n := hp.1 rfl
    clear hp
    rw [if_pos (wanted_none rfl _)]
    have HRx : Hid (RingAt W rg seed n) := hR
    clear hR
    simp only [e2] at hK ⊢
    go_simp
    exact hK _ _ (Below.refl _ _) ⟨rg, rfl, HRx.out⟩
  · intro xs W hB hp K hK
    obtain ⟨rg, e2, hR⟩ : ∃ rg, xs 5 = .pointer (some ⟨rg, 0, none⟩) ∧ RRing W rg seed n := hp.1 rfl
    clear hp
    rw [if_pos (wanted_none rfl _)]
    have HRx : Hid (RRing W rg seed n) := hR
    clear hR
    simp only [e2] at hK ⊢
    go_simp
    exact hK _ _ (Below.refl _ _) ⟨rg, rfl, HRx.out⟩
  intro xs w2 hB2 hs
  obtain ⟨rg, h6, hR⟩ : ∃ rg, xs 6 = .pointer (some ⟨rg, 0, none⟩) ∧ RingAt w2 rg seed n := hs 6 (by simp)
  obtain ⟨xg, h7, hX⟩ : ∃ xg, xs 7 = .pointer (some ⟨xg, 0, none⟩) ∧ RRing w2 xg seed n := hs 7 (by simp)
  simp only [h6, h7]
  clear hs h6 h7
  generalize xs 0 = t0
  generalize xs 1 = t1
  generalize xs 2 = t2
  generalize xs 3 = t3
  generalize xs 4 = t4
  generalize xs 5 = t5
  have HR : Hid (RingAt w2 rg seed n) := hR
  have HX : Hid (RRing w2 xg seed n) := hX
  obtain ⟨kg, kc, hx0, _, _, _, _⟩ := hX
  have HX0 : Hid (w2.heap[xg]? = some (.cells #[.slice (some ⟨kg, 0, none⟩) n kc] 32 (0, 0))) := hx0
  have hBB : Below w.heap.size w w2 := hBw.trans (hB2.mono hBw.size)
  have HT2 : Hid (w2.heap[w.heap.size + 1]? = some (.cells (row .u8 32 tag) 23 (0, 0))) := Below.blk hB2 (lt_blk HT.out) HT.out
  clear hR hx0 hBw hB2 HA HT
  go_wp2_with fail
  obtain ⟨sf, Hsf⟩ : ∃ sf, Hid (sf = sealF seed n i P) := ⟨_, rfl⟩
  obtain ⟨cb, Hcb⟩ : ∃ cb, Hid (cb = checkB seed n i P tag) := ⟨_, rfl⟩
  have Hck : Hid (checkB seed n i P sf = false) := by
    show _ = _
    rw [Hsf.out]
    unfold checkB
    rw [show hasB n i = false by simp [hasB]; omega, Bool.false_and]
  refine wp_region_growG (by kernel_rfl) (by kernel_rfl) (fun xs => { tmps := (Value.int IntKind.i64 nodes :: Value.agg (row IntKind.u8 32 seed) :: Value.int IntKind.i64 i :: Value.slice ao P.length cap :: Value.agg (row IntKind.u8 32 tag) :: undef :: Value.pointer (some { block := w.heap.size, off := 0 }) :: undef :: undef :: Value.pointer (some { block := w.heap.size + 1, off := 0 }) :: xs 57 :: Value.pointer (some { block := rg, off := 0 }) :: Value.pointer (some { block := xg, off := 0 }) :: Value.slice ao P.length cap :: Value.int IntKind.i64 (P.length : Int) :: Value.bool (decide (2000 < (P.length : Int))) :: t0 :: t1 :: t2 :: t3 :: t4 :: t5 :: Value.pointer (some { block := rg, off := 0 }) :: Value.bool false :: xs 0 :: xs 1 :: xs 2 :: xs 3 :: xs 4 :: xs 5 :: xs 6 :: xs 7 :: xs 8 :: xs 9 :: xs 10 :: xs 11 :: xs 12 :: xs 13 :: xs 14 :: xs 15 :: xs 16 :: xs 17 :: xs 18 :: xs 19 :: xs 20 :: xs 21 :: xs 22 :: xs 23 :: xs 24 :: xs 25 :: xs 26 :: xs 27 :: xs 28 :: xs 29 :: xs 30 :: xs 31 :: xs 32 :: xs 33 :: xs 34 :: xs 35 :: xs 36 :: xs 37 :: xs 38 :: xs 39 :: xs 40 :: xs 41 :: xs 42 :: xs 43 :: xs 44 :: xs 45 :: xs 46 :: xs 47 :: xs 48 :: xs 49 :: xs 50 :: xs 51 :: xs 52 :: xs 53 :: xs 54 :: xs 55 :: xs 56 :: []).toArray, defers := [] })
    (fun ii xx _ => match ii with | 0 => xx = .pointer (some ⟨rg, 0, none⟩) | 1 => xx = .int .i64 (n : Int) | 2 => xx = .pointer (some ⟨xg, 0, none⟩) | 3 => xx = .pointer (some ⟨xg, 0, none⟩) | 4 => xx = .pointer (some ⟨xg, 0, none⟩) | 5 => xx = .slice (some ⟨kg, 0, none⟩) n kc | 6 => xx = .int .i64 (n : Int) | 7 => xx = .bool true | 8 => xx = .bool true | 9 => xx = .pointer (some ⟨rg, 0, none⟩) | 10 => xx = .int .i64 i | 11 => xx = .slice ao P.length cap | 12 => xx = .agg (row .u8 32 sf) | 13 => xx = .pointer (some ⟨xg, 0, none⟩) | 14 => xx = .int .i64 i | 15 => xx = .slice ao P.length cap | 16 => xx = .agg (row .u8 32 sf) | 17 => xx = .bool true | 18 => xx = .bool true | 19 => xx = .bool true | 20 => xx = .pointer (some ⟨rg, 0, none⟩) | 21 => xx = .int .i64 i | 22 => xx = .slice ao P.length cap | 23 => xx = .agg (row .u8 32 tag) | 24 => xx = .bool cb | 25 => xx = .pointer (some ⟨xg, 0, none⟩) | 26 => xx = .int .i64 i | 27 => xx = .slice ao P.length cap | 28 => xx = .agg (row .u8 32 tag) | 29 => xx = .bool cb | 30 => xx = .bool true | 31 => xx = .bool true | 32 => xx = .bool true | 33 => xx = .pointer (some ⟨rg, 0, none⟩) | 34 => xx = .int .i64 i | 35 => xx = .slice ao P.length cap | 36 => xx = .pointer (some ⟨xg, 0, none⟩) | 37 => xx = .int .i64 i | 38 => xx = .slice ao P.length cap | 39 => xx = .agg (row .u8 32 sf) | 40 => xx = .bool false | 41 => xx = .int .i64 i | 42 => xx = .bool true | 43 => xx = .bool true | 44 => xx = .int .i64 i | 45 => xx = .pointer (some ⟨xg, 0, none⟩) | 46 => xx = .pointer (some ⟨xg, 0, none⟩) | 47 => xx = .pointer (some ⟨xg, 0, none⟩) | 48 => xx = .slice (some ⟨kg, 0, none⟩) n kc | 49 => xx = .int .i64 (n : Int) | 50 => xx = .bool false | 51 => xx = .bool false | 52 => xx = .bool true | 53 => xx = .bool true | 54 => xx = .bool true | 55 => xx = .bool true | 56 => xx = .bool true | 57 => xx = .bool true | _ => True) (fun | 57 => .bool false | _ => undef) (by repeat (first | exact trivial | refine ⟨fun _ _ => rfl, ?_⟩)) (fun _ _ _ _ _ h => h) ⟨?_, ?_, ?_, ?_, ?_, ?_, ?_, ?_, ?_, ?_, ?_, ?_, ?_, ?_, ?_, ?_, ?_, ?_, ?_, ?_, ?_, ?_, ?_, ?_, ?_, ?_, ?_, ?_, ?_, ?_, ?_, ?_, ?_, ?_, ?_, ?_, ?_, ?_, ?_, ?_, ?_, ?_, ?_, ?_, ?_, ?_, ?_, ?_, ?_, ?_, ?_, ?_, ?_, ?_, ?_, ?_, ?_, ?_, trivial⟩ ?_
  · intro xs W hB hp K hK
    rw [if_pos (wanted_none rfl _)]
    clear hp
    go_simp
    exact hK _ _ (Below.refl _ _) rfl
  · intro xs W hB hp K hK
    rw [if_pos (wanted_none rfl _)]
    have h0 : xs 0 = .pointer (some ⟨rg, 0, none⟩) := hp.1 rfl
    clear hp
    simp only [h0] at hK ⊢
    clear h0
    go_simp
    refine (nodes_any rg n seed W (HR.out.below hB)).mono ?_
    rintro e w' ⟨rfl, rfl⟩
    exact hK _ _ (Below.refl _ _) rfl
  · intro xs W hB hp K hK
    rw [if_pos (wanted_none rfl _)]
    clear hp
    go_simp
    exact hK _ _ (Below.refl _ _) rfl
  · intro xs W hB hp K hK
    rw [if_pos (wanted_none rfl _)]
    have h2 : xs 2 = .pointer (some ⟨xg, 0, none⟩) := hp.1 rfl
    clear hp
    simp only [h2] at hK ⊢
    clear h2
    go_simp
    exact hK _ _ (Below.refl _ _) rfl
  · intro xs W hB hp K hK
    rw [if_pos (wanted_none rfl _)]
    have h3 : xs 3 = .pointer (some ⟨xg, 0, none⟩) := hp.1 rfl
    clear hp
    simp only [h3] at hK ⊢
    clear h3
    go_simp
    exact hK _ _ (Below.refl _ _) rfl
  · intro xs W hB hp K hK
    rw [if_pos (wanted_none rfl _)]
    have h4 : xs 4 = .pointer (some ⟨xg, 0, none⟩) := hp.1 rfl
    clear hp
    have cc : W.cell? ⟨xg, 0, none⟩ = some (.slice (some ⟨kg, 0, none⟩) n kc) := cell_blk (Below.blk hB (lt_blk HX0.out) HX0.out) 0
    simp only [h4] at hK ⊢
    clear h4
    go_simp
    exact hK _ _ (Below.refl _ _) rfl
  · intro xs W hB hp K hK
    rw [if_pos (wanted_none rfl _)]
    have h5 : xs 5 = .slice (some ⟨kg, 0, none⟩) n kc := hp.1 rfl
    clear hp
    simp only [h5] at hK ⊢
    clear h5
    go_simp
    exact hK _ _ (Below.refl _ _) rfl
  · intro xs W hB hp K hK
    rw [if_pos (wanted_none rfl _)]
    have h1 : xs 1 = .int .i64 (n : Int) := hp.1 rfl
    have h6 : xs 6 = .int .i64 (n : Int) := hp.2.1 rfl
    clear hp
    simp only [h1, h6] at hK ⊢
    clear h1 h6
    go_simp
    exact hK _ _ (Below.refl _ _) (by first | rfl | (show Value.bool _ = _; simp; done) | (show Value.bool _ = _; simp; omega))
  · intro xs W hB hp K hK
    rw [if_pos (wanted_none rfl _)]
    have h7 : xs 7 = .bool true := hp.1 rfl
    clear hp
    simp only [h7] at hK ⊢
    clear h7
    go_simp
    exact hK _ _ (Below.refl _ _) rfl
  · intro xs W hB hp K hK
    have hgd : xs 8 = .bool true := hp.1 rfl
    rw [wanted_g (b := true) rfl (by show (match some (xs 8) with | some (.bool b) => some b | _ => none) = some true; rw [hgd])]
    rw [if_pos (show (true == true) = true from rfl)]
    clear hgd
    clear hp
    go_simp
    exact hK _ _ (Below.refl _ _) rfl
  · intro xs W hB hp K hK
    have hgd : xs 8 = .bool true := hp.1 rfl
    rw [wanted_g (b := true) rfl (by show (match some (xs 8) with | some (.bool b) => some b | _ => none) = some true; rw [hgd])]
    rw [if_pos (show (true == true) = true from rfl)]
    clear hgd
    clear hp
    go_simp
    exact hK _ _ (Below.refl _ _) rfl
  · intro xs W hB hp K hK
    have hgd : xs 8 = .bool true := hp.1 rfl
    rw [wanted_g (b := true) rfl (by show (match some (xs 8) with | some (.bool b) => some b | _ => none) = some true; rw [hgd])]
    rw [if_pos (show (true == true) = true from rfl)]
    clear hgd
    clear hp
    go_simp
    exact hK _ _ (Below.refl _ _) rfl
  · intro xs W hB hp K hK
    have hgd : xs 8 = .bool true := hp.2.2.2.1 rfl
    rw [wanted_g (b := true) rfl (by show (match some (xs 8) with | some (.bool b) => some b | _ => none) = some true; rw [hgd])]
    rw [if_pos (show (true == true) = true from rfl)]
    clear hgd
    have h9 : xs 9 = .pointer (some ⟨rg, 0, none⟩) := hp.1 rfl
    have h10 : xs 10 = .int .i64 i := hp.2.1 rfl
    have h11 : xs 11 = .slice ao P.length cap := hp.2.2.1 rfl
    clear hp
    simp only [h9, h10, h11] at hK ⊢
    clear h9 h10 h11
    go_simp
    refine (seal_any rg n seed i P ao cap W (HR.out.below hB) (HL.out.below (hBB.trans (hB.mono hBB.size)) (Nat.le_refl _)) hc (by omega)).mono ?_
    rintro e w' ⟨rfl, hB'⟩
    rw [← Hsf.out]
    exact hK _ _ hB' rfl
  · intro xs W hB hp K hK
    have hgd : xs 8 = .bool true := hp.1 rfl
    rw [wanted_g (b := true) rfl (by show (match some (xs 8) with | some (.bool b) => some b | _ => none) = some true; rw [hgd])]
    rw [if_pos (show (true == true) = true from rfl)]
    clear hgd
    clear hp
    go_simp
    exact hK _ _ (Below.refl _ _) rfl
  · intro xs W hB hp K hK
    have hgd : xs 8 = .bool true := hp.1 rfl
    rw [wanted_g (b := true) rfl (by show (match some (xs 8) with | some (.bool b) => some b | _ => none) = some true; rw [hgd])]
    rw [if_pos (show (true == true) = true from rfl)]
    clear hgd
    clear hp
    go_simp
    exact hK _ _ (Below.refl _ _) rfl
  · intro xs W hB hp K hK
    have hgd : xs 8 = .bool true := hp.1 rfl
    rw [wanted_g (b := true) rfl (by show (match some (xs 8) with | some (.bool b) => some b | _ => none) = some true; rw [hgd])]
    rw [if_pos (show (true == true) = true from rfl)]
    clear hgd
    clear hp
    go_simp
    exact hK _ _ (Below.refl _ _) rfl
  · intro xs W hB hp K hK
    have hgd : xs 8 = .bool true := hp.2.2.2.2.1 rfl
    rw [wanted_g (b := true) rfl (by show (match some (xs 8) with | some (.bool b) => some b | _ => none) = some true; rw [hgd])]
    rw [if_pos (show (true == true) = true from rfl)]
    clear hgd
    have h13 : xs 13 = .pointer (some ⟨xg, 0, none⟩) := hp.1 rfl
    have h14 : xs 14 = .int .i64 i := hp.2.1 rfl
    have h15 : xs 15 = .slice ao P.length cap := hp.2.2.1 rfl
    clear hp
    simp only [h13, h14, h15] at hK ⊢
    clear h13 h14 h15
    go_simp
    refine (rSeal_any xg n seed i P ao cap W (HX.out.below hB) (HD.out.below (hBB.trans (hB.mono hBB.size)) (Nat.le_refl _)) (by omega)).mono ?_
    rintro e w' ⟨rfl, hB'⟩
    rw [← Hsf.out]
    exact hK _ _ hB' rfl
  · intro xs W hB hp K hK
    have hgd : xs 8 = .bool true := hp.2.2.1 rfl
    rw [wanted_g (b := true) rfl (by show (match some (xs 8) with | some (.bool b) => some b | _ => none) = some true; rw [hgd])]
    rw [if_pos (show (true == true) = true from rfl)]
    clear hgd
    have h12 : xs 12 = .agg (row .u8 32 sf) := hp.1 rfl
    have h16 : xs 16 = .agg (row .u8 32 sf) := hp.2.1 rfl
    clear hp
    have heq := equalIn_hash sf sf
    rw [rowEq_self] at heq
    simp only [h12, h16] at hK ⊢
    clear h12 h16
    go_simp
    exact hK _ _ (Below.refl _ _) (by first | rfl | (show Value.bool _ = _; simp; done) | (show Value.bool _ = _; simp; omega))
  · intro xs W hB hp K hK
    rw [if_pos (wanted_none rfl _)]
    have h8 : xs 8 = .bool true := hp.1 rfl
    have h17 : xs 17 = .bool true := hp.2.1 rfl
    clear hp
    simp only [h8, h17] at hK ⊢
    clear h8 h17
    go_simp
    exact hK _ _ (Below.refl _ _) rfl
  · intro xs W hB hp K hK
    rw [if_pos (wanted_none rfl _)]
    have h18 : xs 18 = .bool true := hp.1 rfl
    clear hp
    simp only [h18] at hK ⊢
    clear h18
    go_simp
    exact hK _ _ (Below.refl _ _) rfl
  · intro xs W hB hp K hK
    have hgd : xs 19 = .bool true := hp.1 rfl
    rw [wanted_g (b := true) rfl (by show (match some (xs 19) with | some (.bool b) => some b | _ => none) = some true; rw [hgd])]
    rw [if_pos (show (true == true) = true from rfl)]
    clear hgd
    clear hp
    go_simp
    exact hK _ _ (Below.refl _ _) rfl
  · intro xs W hB hp K hK
    have hgd : xs 19 = .bool true := hp.1 rfl
    rw [wanted_g (b := true) rfl (by show (match some (xs 19) with | some (.bool b) => some b | _ => none) = some true; rw [hgd])]
    rw [if_pos (show (true == true) = true from rfl)]
    clear hgd
    clear hp
    go_simp
    exact hK _ _ (Below.refl _ _) rfl
  · intro xs W hB hp K hK
    have hgd : xs 19 = .bool true := hp.1 rfl
    rw [wanted_g (b := true) rfl (by show (match some (xs 19) with | some (.bool b) => some b | _ => none) = some true; rw [hgd])]
    rw [if_pos (show (true == true) = true from rfl)]
    clear hgd
    clear hp
    go_simp
    exact hK _ _ (Below.refl _ _) rfl
  · intro xs W hB hp K hK
    have hgd : xs 19 = .bool true := hp.1 rfl
    rw [wanted_g (b := true) rfl (by show (match some (xs 19) with | some (.bool b) => some b | _ => none) = some true; rw [hgd])]
    rw [if_pos (show (true == true) = true from rfl)]
    clear hgd
    clear hp
    exact wp_load_row _ _ rfl (w.heap.size + 1) rfl 23 _ (0, 0) (.array 32 5) (Below.blk hB (lt_blk HT2.out) HT2.out) (by kernel_rfl) rfl (row_info size_hash _) (hK _ _ (Below.refl _ _) rfl)
  · intro xs W hB hp K hK
    have hgd : xs 19 = .bool true := hp.2.2.2.2.1 rfl
    rw [wanted_g (b := true) rfl (by show (match some (xs 19) with | some (.bool b) => some b | _ => none) = some true; rw [hgd])]
    rw [if_pos (show (true == true) = true from rfl)]
    clear hgd
    have h20 : xs 20 = .pointer (some ⟨rg, 0, none⟩) := hp.1 rfl
    have h21 : xs 21 = .int .i64 i := hp.2.1 rfl
    have h22 : xs 22 = .slice ao P.length cap := hp.2.2.1 rfl
    have h23 : xs 23 = .agg (row .u8 32 tag) := hp.2.2.2.1 rfl
    clear hp
    simp only [h20, h21, h22, h23] at hK ⊢
    clear h20 h21 h22 h23
    go_simp
    refine (check_any rg n seed i P ao cap tag W (HR.out.below hB) (HL.out.below (hBB.trans (hB.mono hBB.size)) (Nat.le_refl _)) hc (by omega)).mono ?_
    rintro e w' ⟨rfl, hB'⟩
    rw [← Hcb.out]
    exact hK _ _ hB' rfl
  · intro xs W hB hp K hK
    have hgd : xs 19 = .bool true := hp.1 rfl
    rw [wanted_g (b := true) rfl (by show (match some (xs 19) with | some (.bool b) => some b | _ => none) = some true; rw [hgd])]
    rw [if_pos (show (true == true) = true from rfl)]
    clear hgd
    clear hp
    go_simp
    exact hK _ _ (Below.refl _ _) rfl
  · intro xs W hB hp K hK
    have hgd : xs 19 = .bool true := hp.1 rfl
    rw [wanted_g (b := true) rfl (by show (match some (xs 19) with | some (.bool b) => some b | _ => none) = some true; rw [hgd])]
    rw [if_pos (show (true == true) = true from rfl)]
    clear hgd
    clear hp
    go_simp
    exact hK _ _ (Below.refl _ _) rfl
  · intro xs W hB hp K hK
    have hgd : xs 19 = .bool true := hp.1 rfl
    rw [wanted_g (b := true) rfl (by show (match some (xs 19) with | some (.bool b) => some b | _ => none) = some true; rw [hgd])]
    rw [if_pos (show (true == true) = true from rfl)]
    clear hgd
    clear hp
    go_simp
    exact hK _ _ (Below.refl _ _) rfl
  · intro xs W hB hp K hK
    have hgd : xs 19 = .bool true := hp.1 rfl
    rw [wanted_g (b := true) rfl (by show (match some (xs 19) with | some (.bool b) => some b | _ => none) = some true; rw [hgd])]
    rw [if_pos (show (true == true) = true from rfl)]
    clear hgd
    clear hp
    exact wp_load_row _ _ rfl (w.heap.size + 1) rfl 23 _ (0, 0) (.array 32 5) (Below.blk hB (lt_blk HT2.out) HT2.out) (by kernel_rfl) rfl (row_info size_hash _) (hK _ _ (Below.refl _ _) rfl)
  · intro xs W hB hp K hK
    have hgd : xs 19 = .bool true := hp.2.2.2.2.2.1 rfl
    rw [wanted_g (b := true) rfl (by show (match some (xs 19) with | some (.bool b) => some b | _ => none) = some true; rw [hgd])]
    rw [if_pos (show (true == true) = true from rfl)]
    clear hgd
    have h25 : xs 25 = .pointer (some ⟨xg, 0, none⟩) := hp.1 rfl
    have h26 : xs 26 = .int .i64 i := hp.2.1 rfl
    have h27 : xs 27 = .slice ao P.length cap := hp.2.2.1 rfl
    have h28 : xs 28 = .agg (row .u8 32 tag) := hp.2.2.2.1 rfl
    clear hp
    simp only [h25, h26, h27, h28] at hK ⊢
    clear h25 h26 h27 h28
    go_simp
    refine (rCheck_any xg n seed i P ao cap tag W (HX.out.below hB) (HD.out.below (hBB.trans (hB.mono hBB.size)) (Nat.le_refl _)) (by omega)).mono ?_
    rintro e w' ⟨rfl, hB'⟩
    rw [← Hcb.out]
    exact hK _ _ hB' rfl
  · intro xs W hB hp K hK
    have hgd : xs 19 = .bool true := hp.2.2.1 rfl
    rw [wanted_g (b := true) rfl (by show (match some (xs 19) with | some (.bool b) => some b | _ => none) = some true; rw [hgd])]
    rw [if_pos (show (true == true) = true from rfl)]
    clear hgd
    have h24 : xs 24 = .bool cb := hp.1 rfl
    have h29 : xs 29 = .bool cb := hp.2.1 rfl
    clear hp
    simp only [h24, h29] at hK ⊢
    clear h24 h29
    go_simp
    exact hK _ _ (Below.refl _ _) (by first | rfl | (show Value.bool _ = _; simp; done) | (show Value.bool _ = _; simp; omega))
  · intro xs W hB hp K hK
    rw [if_pos (wanted_none rfl _)]
    have h19 : xs 19 = .bool true := hp.1 rfl
    have h30 : xs 30 = .bool true := hp.2.1 rfl
    clear hp
    simp only [h19, h30] at hK ⊢
    clear h19 h30
    go_simp
    exact hK _ _ (Below.refl _ _) rfl
  · intro xs W hB hp K hK
    rw [if_pos (wanted_none rfl _)]
    have h31 : xs 31 = .bool true := hp.1 rfl
    clear hp
    simp only [h31] at hK ⊢
    clear h31
    go_simp
    exact hK _ _ (Below.refl _ _) rfl
  · intro xs W hB hp K hK
    have hgd : xs 32 = .bool true := hp.1 rfl
    rw [wanted_g (b := true) rfl (by show (match some (xs 32) with | some (.bool b) => some b | _ => none) = some true; rw [hgd])]
    rw [if_pos (show (true == true) = true from rfl)]
    clear hgd
    clear hp
    go_simp
    exact hK _ _ (Below.refl _ _) rfl
  · intro xs W hB hp K hK
    have hgd : xs 32 = .bool true := hp.1 rfl
    rw [wanted_g (b := true) rfl (by show (match some (xs 32) with | some (.bool b) => some b | _ => none) = some true; rw [hgd])]
    rw [if_pos (show (true == true) = true from rfl)]
    clear hgd
    clear hp
    go_simp
    exact hK _ _ (Below.refl _ _) rfl
  · intro xs W hB hp K hK
    have hgd : xs 32 = .bool true := hp.1 rfl
    rw [wanted_g (b := true) rfl (by show (match some (xs 32) with | some (.bool b) => some b | _ => none) = some true; rw [hgd])]
    rw [if_pos (show (true == true) = true from rfl)]
    clear hgd
    clear hp
    go_simp
    exact hK _ _ (Below.refl _ _) rfl
  · intro xs W hB hp K hK
    have hgd : xs 32 = .bool true := hp.1 rfl
    rw [wanted_g (b := true) rfl (by show (match some (xs 32) with | some (.bool b) => some b | _ => none) = some true; rw [hgd])]
    rw [if_pos (show (true == true) = true from rfl)]
    clear hgd
    clear hp
    go_simp
    exact hK _ _ (Below.refl _ _) rfl
  · intro xs W hB hp K hK
    have hgd : xs 32 = .bool true := hp.1 rfl
    rw [wanted_g (b := true) rfl (by show (match some (xs 32) with | some (.bool b) => some b | _ => none) = some true; rw [hgd])]
    rw [if_pos (show (true == true) = true from rfl)]
    clear hgd
    clear hp
    go_simp
    exact hK _ _ (Below.refl _ _) rfl
  · intro xs W hB hp K hK
    have hgd : xs 32 = .bool true := hp.1 rfl
    rw [wanted_g (b := true) rfl (by show (match some (xs 32) with | some (.bool b) => some b | _ => none) = some true; rw [hgd])]
    rw [if_pos (show (true == true) = true from rfl)]
    clear hgd
    clear hp
    go_simp
    exact hK _ _ (Below.refl _ _) rfl
  · intro xs W hB hp K hK
    have hgd : xs 32 = .bool true := hp.2.2.2.1 rfl
    rw [wanted_g (b := true) rfl (by show (match some (xs 32) with | some (.bool b) => some b | _ => none) = some true; rw [hgd])]
    rw [if_pos (show (true == true) = true from rfl)]
    clear hgd
    have h36 : xs 36 = .pointer (some ⟨xg, 0, none⟩) := hp.1 rfl
    have h37 : xs 37 = .int .i64 i := hp.2.1 rfl
    have h38 : xs 38 = .slice ao P.length cap := hp.2.2.1 rfl
    clear hp
    simp only [h36, h37, h38] at hK ⊢
    clear h36 h37 h38
    go_simp
    refine (rSeal_any xg n seed i P ao cap W (HX.out.below hB) (HD.out.below (hBB.trans (hB.mono hBB.size)) (Nat.le_refl _)) (by omega)).mono ?_
    rintro e w' ⟨rfl, hB'⟩
    rw [← Hsf.out]
    exact hK _ _ hB' rfl
  · intro xs W hB hp K hK
    have hgd : xs 32 = .bool true := hp.2.2.2.2.2.1 rfl
    rw [wanted_g (b := true) rfl (by show (match some (xs 32) with | some (.bool b) => some b | _ => none) = some true; rw [hgd])]
    rw [if_pos (show (true == true) = true from rfl)]
    clear hgd
    have h33 : xs 33 = .pointer (some ⟨rg, 0, none⟩) := hp.1 rfl
    have h34 : xs 34 = .int .i64 i := hp.2.1 rfl
    have h35 : xs 35 = .slice ao P.length cap := hp.2.2.1 rfl
    have h39 : xs 39 = .agg (row .u8 32 sf) := hp.2.2.2.1 rfl
    clear hp
    simp only [h33, h34, h35, h39] at hK ⊢
    clear h33 h34 h35 h39
    go_simp
    refine (check_any rg n seed i P ao cap sf W (HR.out.below hB) (HL.out.below (hBB.trans (hB.mono hBB.size)) (Nat.le_refl _)) hc (by omega)).mono ?_
    rintro e w' ⟨rfl, hB'⟩
    rw [Hck.out]
    exact hK _ _ hB' rfl
  · intro xs W hB hp K hK
    have hgd : xs 32 = .bool true := hp.1 rfl
    rw [wanted_g (b := true) rfl (by show (match some (xs 32) with | some (.bool b) => some b | _ => none) = some true; rw [hgd])]
    rw [if_pos (show (true == true) = true from rfl)]
    clear hgd
    clear hp
    go_simp
    exact hK _ _ (Below.refl _ _) rfl
  · intro xs W hB hp K hK
    have hgd : xs 32 = .bool true := hp.2.1 rfl
    rw [wanted_g (b := true) rfl (by show (match some (xs 32) with | some (.bool b) => some b | _ => none) = some true; rw [hgd])]
    rw [if_pos (show (true == true) = true from rfl)]
    clear hgd
    have h41 : xs 41 = .int .i64 i := hp.1 rfl
    clear hp
    simp only [h41] at hK ⊢
    clear h41
    go_simp
    exact hK _ _ (Below.refl _ _) (by first | rfl | (show Value.bool _ = _; simp; done) | (show Value.bool _ = _; simp; omega))
  · intro xs W hB hp K hK
    have hgd : xs 32 = .bool true := hp.2.2.1 rfl
    rw [wanted_g (b := true) rfl (by show (match some (xs 32) with | some (.bool b) => some b | _ => none) = some true; rw [hgd])]
    rw [if_pos (show (true == true) = true from rfl)]
    clear hgd
    have h42 : xs 42 = .bool true := hp.1 rfl
    clear hp
    simp only [h42] at hK ⊢
    clear h42
    go_simp
    exact hK _ _ (Below.refl _ _) rfl
  · intro xs W hB hp K hK
    have hgd : xs 43 = .bool true := hp.1 rfl
    rw [wanted_g (b := true) rfl (by show (match some (xs 43) with | some (.bool b) => some b | _ => none) = some true; rw [hgd])]
    rw [if_pos (show (true == true) = true from rfl)]
    clear hgd
    clear hp
    go_simp
    exact hK _ _ (Below.refl _ _) rfl
  · intro xs W hB hp K hK
    have hgd : xs 43 = .bool true := hp.1 rfl
    rw [wanted_g (b := true) rfl (by show (match some (xs 43) with | some (.bool b) => some b | _ => none) = some true; rw [hgd])]
    rw [if_pos (show (true == true) = true from rfl)]
    clear hgd
    clear hp
    go_simp
    exact hK _ _ (Below.refl _ _) rfl
  · intro xs W hB hp K hK
    have hgd : xs 43 = .bool true := hp.2.1 rfl
    rw [wanted_g (b := true) rfl (by show (match some (xs 43) with | some (.bool b) => some b | _ => none) = some true; rw [hgd])]
    rw [if_pos (show (true == true) = true from rfl)]
    clear hgd
    have h45 : xs 45 = .pointer (some ⟨xg, 0, none⟩) := hp.1 rfl
    clear hp
    simp only [h45] at hK ⊢
    clear h45
    go_simp
    exact hK _ _ (Below.refl _ _) rfl
  · intro xs W hB hp K hK
    have hgd : xs 43 = .bool true := hp.2.1 rfl
    rw [wanted_g (b := true) rfl (by show (match some (xs 43) with | some (.bool b) => some b | _ => none) = some true; rw [hgd])]
    rw [if_pos (show (true == true) = true from rfl)]
    clear hgd
    have h46 : xs 46 = .pointer (some ⟨xg, 0, none⟩) := hp.1 rfl
    clear hp
    simp only [h46] at hK ⊢
    clear h46
    go_simp
    exact hK _ _ (Below.refl _ _) rfl
  · intro xs W hB hp K hK
    have hgd : xs 43 = .bool true := hp.2.1 rfl
    rw [wanted_g (b := true) rfl (by show (match some (xs 43) with | some (.bool b) => some b | _ => none) = some true; rw [hgd])]
    rw [if_pos (show (true == true) = true from rfl)]
    clear hgd
    have h47 : xs 47 = .pointer (some ⟨xg, 0, none⟩) := hp.1 rfl
    clear hp
    have cc : W.cell? ⟨xg, 0, none⟩ = some (.slice (some ⟨kg, 0, none⟩) n kc) := cell_blk (Below.blk hB (lt_blk HX0.out) HX0.out) 0
    simp only [h47] at hK ⊢
    clear h47
    go_simp
    exact hK _ _ (Below.refl _ _) rfl
  · intro xs W hB hp K hK
    have hgd : xs 43 = .bool true := hp.2.1 rfl
    rw [wanted_g (b := true) rfl (by show (match some (xs 43) with | some (.bool b) => some b | _ => none) = some true; rw [hgd])]
    rw [if_pos (show (true == true) = true from rfl)]
    clear hgd
    have h48 : xs 48 = .slice (some ⟨kg, 0, none⟩) n kc := hp.1 rfl
    clear hp
    simp only [h48] at hK ⊢
    clear h48
    go_simp
    exact hK _ _ (Below.refl _ _) rfl
  · intro xs W hB hp K hK
    have hgd : xs 43 = .bool true := hp.2.2.1 rfl
    rw [wanted_g (b := true) rfl (by show (match some (xs 43) with | some (.bool b) => some b | _ => none) = some true; rw [hgd])]
    rw [if_pos (show (true == true) = true from rfl)]
    clear hgd
    have h44 : xs 44 = .int .i64 i := hp.1 rfl
    have h49 : xs 49 = .int .i64 (n : Int) := hp.2.1 rfl
    clear hp
    simp only [h44, h49] at hK ⊢
    clear h44 h49
    go_simp
    exact hK _ _ (Below.refl _ _) (by first | rfl | (show Value.bool _ = _; simp; done) | (show Value.bool _ = _; simp; omega))
  · intro xs W hB hp K hK
    have hgd : xs 32 = .bool true := hp.2.2.1 rfl
    rw [wanted_g (b := true) rfl (by show (match some (xs 32) with | some (.bool b) => some b | _ => none) = some true; rw [hgd])]
    rw [if_pos (show (true == true) = true from rfl)]
    clear hgd
    have h43 : xs 43 = .bool true := hp.1 rfl
    have h50 : xs 50 = .bool false := hp.2.1 rfl
    clear hp
    simp only [h43, h50] at hK ⊢
    clear h43 h50
    go_simp
    exact hK _ _ (Below.refl _ _) rfl
  · intro xs W hB hp K hK
    have hgd : xs 32 = .bool true := hp.2.2.1 rfl
    rw [wanted_g (b := true) rfl (by show (match some (xs 32) with | some (.bool b) => some b | _ => none) = some true; rw [hgd])]
    rw [if_pos (show (true == true) = true from rfl)]
    clear hgd
    have h40 : xs 40 = .bool false := hp.1 rfl
    have h51 : xs 51 = .bool false := hp.2.1 rfl
    clear hp
    simp only [h40, h51] at hK ⊢
    clear h40 h51
    go_simp
    exact hK _ _ (Below.refl _ _) (by first | rfl | (show Value.bool _ = _; simp; done) | (show Value.bool _ = _; simp; omega))
  · intro xs W hB hp K hK
    rw [if_pos (wanted_none rfl _)]
    have h32 : xs 32 = .bool true := hp.1 rfl
    have h52 : xs 52 = .bool true := hp.2.1 rfl
    clear hp
    simp only [h32, h52] at hK ⊢
    clear h32 h52
    go_simp
    exact hK _ _ (Below.refl _ _) rfl
  · intro xs W hB hp K hK
    rw [if_pos (wanted_none rfl _)]
    have h53 : xs 53 = .bool true := hp.1 rfl
    clear hp
    simp only [h53] at hK ⊢
    clear h53
    go_simp
    exact hK _ _ (Below.refl _ _) rfl
  · intro xs W hB hp K hK
    have hgd : xs 54 = .bool true := hp.1 rfl
    rw [wanted_g (b := true) rfl (by show (match some (xs 54) with | some (.bool b) => some b | _ => none) = some true; rw [hgd])]
    rw [if_pos (show (true == true) = true from rfl)]
    clear hgd
    clear hp
    go_simp
    refine (known_any _).mono ?_
    rintro e w' ⟨rfl, hB'⟩
    exact hK _ _ hB' rfl
  · intro xs W hB hp K hK
    rw [if_pos (wanted_none rfl _)]
    have h54 : xs 54 = .bool true := hp.1 rfl
    have h55 : xs 55 = .bool true := hp.2.1 rfl
    clear hp
    simp only [h54, h55] at hK ⊢
    clear h54 h55
    go_simp
    exact hK _ _ (Below.refl _ _) rfl
  · intro xs W hB hp K hK
    rw [if_pos (wanted_none rfl _)]
    have h56 : xs 56 = .bool true := hp.1 rfl
    clear hp
    simp only [h56] at hK ⊢
    clear h56
    go_simp
    exact hK _ _ (Below.refl _ _) rfl
  · intro xs W hB hs
    have h57 : xs 57 = .bool true := hs 57 (by simp)
    simp only [h57]
    go_wp2_with fail
    go_ret
    exact ⟨rfl, hBB.trans (hB.mono hBB.size)⟩
set_option maxRecDepth 10000 in
set_option maxHeartbeats 1000000 in
theorem sealTells_in (nodes : Int) (seed : Nat → Int) (i : Int) (P : List Int) (ao : Option Addr) (cap : Nat) (tag : Nat → Int) (w : World) (h0 : -9223372036854775808 ≤ nodes) (h1 : nodes ≤ 9223372036854775807) (hl : Lies w ao P) (hc : P.length ≤ cap) (hr : Rowed w ao P cap) (q4 : ¬ 2000 < P.length) (n : Nat) (hn : nodesOf nodes = n) (q0 : 0 ≤ i) (q : i < (n : Int)) :
    Calls Try.prog 3 #[.int .i64 nodes, .agg (row .u8 32 seed), .int .i64 i, .slice ao P.length cap, .agg (row .u8 32 tag)] w fun e w' => e = .returned (.bool true) ∧ Below w.heap.size w w' := by
  have HL : Hid (Lies w ao P) := hl
  have HD : Hid (Rowed w ao P cap) := hr
  have HZ : Hid ((Try.prog.info? 23).map (·.zero) = some (some (.agg (row .u8 32 (fun _ => 0))))) := zero_hash
  have Hn : Hid (nodesOf nodes = n) := hn
  clear hl hr hn
  go_enter Try.func3, Try.ntmps3
  have hA : ((w.alloc (.cells (row .u8 32 seed) 23)).alloc (.cells (row .u8 32 tag) 23)).heap[w.heap.size]? = some (.cells (row .u8 32 seed) 23 (0, 0)) := alloc_blk_old (alloc_blk _ _) _
  have hT : ((w.alloc (.cells (row .u8 32 seed) 23)).alloc (.cells (row .u8 32 tag) 23)).heap[w.heap.size + 1]? = some (.cells (row .u8 32 tag) 23 (0, 0)) := by
    have := alloc_blk (w.alloc (.cells (row .u8 32 seed) 23)) (.cells (row .u8 32 tag) 23)
    rw [World.size_alloc] at this; exact this
  have hBw : Below w.heap.size w ((w.alloc (.cells (row .u8 32 seed) 23)).alloc (.cells (row .u8 32 tag) 23)) := (below_alloc _ _).alloc (by simp) _
  go_wp2_with (first | refine wpList_box_row rfl 23 _ rfl _ rfl ?_)
  generalize (w.alloc (.cells (row .u8 32 seed) 23)).alloc (.cells (row .u8 32 tag) 23) = w1 at *
  have HA : Hid (w1.heap[w.heap.size]? = some (.cells (row .u8 32 seed) 23 (0, 0))) := hA
  have HT : Hid (w1.heap[w.heap.size + 1]? = some (.cells (row .u8 32 tag) 23 (0, 0))) := hT
  clear hA hT
  refine wp_region_growG (by kernel_rfl) (by kernel_rfl) (fun xs => { tmps := (Value.int IntKind.i64 nodes :: Value.agg (row IntKind.u8 32 seed) :: Value.int IntKind.i64 i :: Value.slice ao P.length cap :: Value.agg (row IntKind.u8 32 tag) :: undef :: Value.pointer (some { block := w.heap.size, off := 0 }) :: undef :: undef :: Value.pointer (some { block := w.heap.size + 1, off := 0 }) :: Value.bool false :: xs 6 :: xs 7 :: Value.slice ao P.length cap :: Value.int IntKind.i64 (P.length : Int) :: Value.bool (decide (2000 < (P.length : Int))) :: xs 0 :: xs 1 :: xs 2 :: xs 3 :: xs 4 :: xs 5 :: undef :: undef :: undef :: undef :: undef :: undef :: undef :: undef :: undef :: undef :: undef :: undef :: undef :: undef :: undef :: undef :: undef :: undef :: undef :: undef :: undef :: undef :: undef :: undef :: undef :: undef :: undef :: undef :: undef :: undef :: undef :: undef :: undef :: undef :: undef :: undef :: undef :: undef :: undef :: undef :: undef :: undef :: undef :: undef :: undef :: undef :: undef :: undef :: undef :: undef :: undef :: undef :: undef :: undef :: undef :: undef :: undef :: undef :: undef :: []).toArray, defers := [] })
    (tellsSpec3 nodes seed n) (fun _ => undef) (by repeat (first | exact trivial | refine ⟨fun _ _ => rfl, ?_⟩))
    (by intro i x w w' h hs; unfold tellsSpec3 at *; split at hs <;> first | exact hs | (obtain ⟨g, e, r⟩ := hs; exact ⟨g, e, r.below h⟩) | exact trivial) ⟨?_, ?_, ?_, ?_, ?_, ?_, ?_, ?_, trivial⟩ ?_
  · intro xs W hB hp K hK
    clear hp
    rw [if_pos (wanted_none rfl _)]
    go_simp
    exact hK _ _ (Below.refl _ _) rfl
  · intro xs W hB hp K hK
    clear hp
    rw [if_pos (wanted_none rfl _)]
    exact wp_load_row _ _ rfl w.heap.size rfl 23 _ (0, 0) (.array 32 5) (Below.blk hB (lt_blk HA.out) HA.out) (by kernel_rfl) rfl (row_info size_hash _) (hK _ _ (Below.refl _ _) rfl)
  · intro xs W hB hp K hK
    have h0' : xs 0 = .int .i64 nodes := hp.1 rfl
    have h1' : xs 1 = .agg (row .u8 32 seed) := hp.2.1 rfl
    clear hp
    rw [if_pos (wanted_none rfl _)]
    simp only [h0', h1'] at hK ⊢
    clear h0' h1'
    go_simp
    refine (sNew_any nodes seed W h0 h1).mono ?_
    rintro e w' ⟨rg, rfl, hrg, hR, hB'⟩
    rw [Hn.out] at hR
    exact hK _ _ hB' ⟨rg, rfl, hR⟩
  · intro xs W hB hp K hK
    clear hp
    rw [if_pos (wanted_none rfl _)]
    go_simp
    exact hK _ _ (Below.refl _ _) rfl
  · intro xs W hB hp K hK
    clear hp
    rw [if_pos (wanted_none rfl _)]
    exact wp_load_row _ _ rfl w.heap.size rfl 23 _ (0, 0) (.array 32 5) (Below.blk hB (lt_blk HA.out) HA.out) (by kernel_rfl) rfl (row_info size_hash _) (hK _ _ (Below.refl _ _) rfl)
  · intro xs W hB hp K hK
    have h0' : xs 3 = .int .i64 nodes := hp.1 rfl
    have h1' : xs 4 = .agg (row .u8 32 seed) := hp.2.1 rfl
    clear hp
    rw [if_pos (wanted_none rfl _)]
    simp only [h0', h1'] at hK ⊢
    clear h0' h1'
    go_simp
    refine (rNew_any nodes seed W h0 h1).mono ?_
    rintro e w' ⟨rg, rfl, hrg, hR, hB'⟩
    rw [Hn.out] at hR
    exact hK _ _ hB' ⟨rg, rfl, hR⟩
  · intro xs W hB hp K hK
    obtain ⟨rg, e2, hR⟩ : ∃ rg, xs 2 = .pointer (some ⟨rg, 0, none⟩) ∧ RingAt W rg seed n := hp.1 rfl
    clear hp
    rw [if_pos (wanted_none rfl _)]
    have HRx : Hid (RingAt W rg seed n) := hR
    clear hR
    simp only [e2] at hK ⊢
    go_simp
    exact hK _ _ (Below.refl _ _) ⟨rg, rfl, HRx.out⟩
  · intro xs W hB hp K hK
    obtain ⟨rg, e2, hR⟩ : ∃ rg, xs 5 = .pointer (some ⟨rg, 0, none⟩) ∧ RRing W rg seed n := hp.1 rfl
    clear hp
    rw [if_pos (wanted_none rfl _)]
    have HRx : Hid (RRing W rg seed n) := hR
    clear hR
    simp only [e2] at hK ⊢
    go_simp
    exact hK _ _ (Below.refl _ _) ⟨rg, rfl, HRx.out⟩
  intro xs w2 hB2 hs
  obtain ⟨rg, h6, hR⟩ : ∃ rg, xs 6 = .pointer (some ⟨rg, 0, none⟩) ∧ RingAt w2 rg seed n := hs 6 (by simp)
  obtain ⟨xg, h7, hX⟩ : ∃ xg, xs 7 = .pointer (some ⟨xg, 0, none⟩) ∧ RRing w2 xg seed n := hs 7 (by simp)
  simp only [h6, h7]
  clear hs h6 h7
  generalize xs 0 = t0
  generalize xs 1 = t1
  generalize xs 2 = t2
  generalize xs 3 = t3
  generalize xs 4 = t4
  generalize xs 5 = t5
  have HR : Hid (RingAt w2 rg seed n) := hR
  have HX : Hid (RRing w2 xg seed n) := hX
  obtain ⟨kg, kc, hx0, _, _, _, _⟩ := hX
  have HX0 : Hid (w2.heap[xg]? = some (.cells #[.slice (some ⟨kg, 0, none⟩) n kc] 32 (0, 0))) := hx0
  have hBB : Below w.heap.size w w2 := hBw.trans (hB2.mono hBw.size)
  have HT2 : Hid (w2.heap[w.heap.size + 1]? = some (.cells (row .u8 32 tag) 23 (0, 0))) := Below.blk hB2 (lt_blk HT.out) HT.out
  clear hR hx0 hBw hB2 HA HT
  go_wp2_with fail
  obtain ⟨sf, Hsf⟩ : ∃ sf, Hid (sf = sealF seed n i P) := ⟨_, rfl⟩
  obtain ⟨cb, Hcb⟩ : ∃ cb, Hid (cb = checkB seed n i P tag) := ⟨_, rfl⟩
  have Hck : Hid (checkB seed n i P sf = true) := by
    show _ = _
    rw [Hsf.out]
    exact check_own (by simp [hasB]; omega)
  refine wp_region_growG (by kernel_rfl) (by kernel_rfl) (fun xs => { tmps := (Value.int IntKind.i64 nodes :: Value.agg (row IntKind.u8 32 seed) :: Value.int IntKind.i64 i :: Value.slice ao P.length cap :: Value.agg (row IntKind.u8 32 tag) :: undef :: Value.pointer (some { block := w.heap.size, off := 0 }) :: undef :: undef :: Value.pointer (some { block := w.heap.size + 1, off := 0 }) :: xs 57 :: Value.pointer (some { block := rg, off := 0 }) :: Value.pointer (some { block := xg, off := 0 }) :: Value.slice ao P.length cap :: Value.int IntKind.i64 (P.length : Int) :: Value.bool (decide (2000 < (P.length : Int))) :: t0 :: t1 :: t2 :: t3 :: t4 :: t5 :: Value.pointer (some { block := rg, off := 0 }) :: Value.bool false :: xs 0 :: xs 1 :: xs 2 :: xs 3 :: xs 4 :: xs 5 :: xs 6 :: xs 7 :: xs 8 :: xs 9 :: xs 10 :: xs 11 :: xs 12 :: xs 13 :: xs 14 :: xs 15 :: xs 16 :: xs 17 :: xs 18 :: xs 19 :: xs 20 :: xs 21 :: xs 22 :: xs 23 :: xs 24 :: xs 25 :: xs 26 :: xs 27 :: xs 28 :: xs 29 :: xs 30 :: xs 31 :: xs 32 :: xs 33 :: xs 34 :: xs 35 :: xs 36 :: xs 37 :: xs 38 :: xs 39 :: xs 40 :: xs 41 :: xs 42 :: xs 43 :: xs 44 :: xs 45 :: xs 46 :: xs 47 :: xs 48 :: xs 49 :: xs 50 :: xs 51 :: xs 52 :: xs 53 :: xs 54 :: xs 55 :: xs 56 :: []).toArray, defers := [] })
    (fun ii xx _ => match ii with | 0 => xx = .pointer (some ⟨rg, 0, none⟩) | 1 => xx = .int .i64 (n : Int) | 2 => xx = .pointer (some ⟨xg, 0, none⟩) | 3 => xx = .pointer (some ⟨xg, 0, none⟩) | 4 => xx = .pointer (some ⟨xg, 0, none⟩) | 5 => xx = .slice (some ⟨kg, 0, none⟩) n kc | 6 => xx = .int .i64 (n : Int) | 7 => xx = .bool true | 8 => xx = .bool true | 9 => xx = .pointer (some ⟨rg, 0, none⟩) | 10 => xx = .int .i64 i | 11 => xx = .slice ao P.length cap | 12 => xx = .agg (row .u8 32 sf) | 13 => xx = .pointer (some ⟨xg, 0, none⟩) | 14 => xx = .int .i64 i | 15 => xx = .slice ao P.length cap | 16 => xx = .agg (row .u8 32 sf) | 17 => xx = .bool true | 18 => xx = .bool true | 19 => xx = .bool true | 20 => xx = .pointer (some ⟨rg, 0, none⟩) | 21 => xx = .int .i64 i | 22 => xx = .slice ao P.length cap | 23 => xx = .agg (row .u8 32 tag) | 24 => xx = .bool cb | 25 => xx = .pointer (some ⟨xg, 0, none⟩) | 26 => xx = .int .i64 i | 27 => xx = .slice ao P.length cap | 28 => xx = .agg (row .u8 32 tag) | 29 => xx = .bool cb | 30 => xx = .bool true | 31 => xx = .bool true | 32 => xx = .bool true | 33 => xx = .pointer (some ⟨rg, 0, none⟩) | 34 => xx = .int .i64 i | 35 => xx = .slice ao P.length cap | 36 => xx = .pointer (some ⟨xg, 0, none⟩) | 37 => xx = .int .i64 i | 38 => xx = .slice ao P.length cap | 39 => xx = .agg (row .u8 32 sf) | 40 => xx = .bool true | 41 => xx = .int .i64 i | 42 => xx = .bool true | 43 => xx = .bool true | 44 => xx = .int .i64 i | 45 => xx = .pointer (some ⟨xg, 0, none⟩) | 46 => xx = .pointer (some ⟨xg, 0, none⟩) | 47 => xx = .pointer (some ⟨xg, 0, none⟩) | 48 => xx = .slice (some ⟨kg, 0, none⟩) n kc | 49 => xx = .int .i64 (n : Int) | 50 => xx = .bool true | 51 => xx = .bool true | 52 => xx = .bool true | 53 => xx = .bool true | 54 => xx = .bool true | 55 => xx = .bool true | 56 => xx = .bool true | 57 => xx = .bool true | _ => True) (fun | 57 => .bool false | _ => undef) (by repeat (first | exact trivial | refine ⟨fun _ _ => rfl, ?_⟩)) (fun _ _ _ _ _ h => h) ⟨?_, ?_, ?_, ?_, ?_, ?_, ?_, ?_, ?_, ?_, ?_, ?_, ?_, ?_, ?_, ?_, ?_, ?_, ?_, ?_, ?_, ?_, ?_, ?_, ?_, ?_, ?_, ?_, ?_, ?_, ?_, ?_, ?_, ?_, ?_, ?_, ?_, ?_, ?_, ?_, ?_, ?_, ?_, ?_, ?_, ?_, ?_, ?_, ?_, ?_, ?_, ?_, ?_, ?_, ?_, ?_, ?_, ?_, trivial⟩ ?_
  · intro xs W hB hp K hK
    rw [if_pos (wanted_none rfl _)]
    clear hp
    go_simp
    exact hK _ _ (Below.refl _ _) rfl
  · intro xs W hB hp K hK
    rw [if_pos (wanted_none rfl _)]
    have h0 : xs 0 = .pointer (some ⟨rg, 0, none⟩) := hp.1 rfl
    clear hp
    simp only [h0] at hK ⊢
    clear h0
    go_simp
    refine (nodes_any rg n seed W (HR.out.below hB)).mono ?_
    rintro e w' ⟨rfl, rfl⟩
    exact hK _ _ (Below.refl _ _) rfl
  · intro xs W hB hp K hK
    rw [if_pos (wanted_none rfl _)]
    clear hp
    go_simp
    exact hK _ _ (Below.refl _ _) rfl
  · intro xs W hB hp K hK
    rw [if_pos (wanted_none rfl _)]
    have h2 : xs 2 = .pointer (some ⟨xg, 0, none⟩) := hp.1 rfl
    clear hp
    simp only [h2] at hK ⊢
    clear h2
    go_simp
    exact hK _ _ (Below.refl _ _) rfl
  · intro xs W hB hp K hK
    rw [if_pos (wanted_none rfl _)]
    have h3 : xs 3 = .pointer (some ⟨xg, 0, none⟩) := hp.1 rfl
    clear hp
    simp only [h3] at hK ⊢
    clear h3
    go_simp
    exact hK _ _ (Below.refl _ _) rfl
  · intro xs W hB hp K hK
    rw [if_pos (wanted_none rfl _)]
    have h4 : xs 4 = .pointer (some ⟨xg, 0, none⟩) := hp.1 rfl
    clear hp
    have cc : W.cell? ⟨xg, 0, none⟩ = some (.slice (some ⟨kg, 0, none⟩) n kc) := cell_blk (Below.blk hB (lt_blk HX0.out) HX0.out) 0
    simp only [h4] at hK ⊢
    clear h4
    go_simp
    exact hK _ _ (Below.refl _ _) rfl
  · intro xs W hB hp K hK
    rw [if_pos (wanted_none rfl _)]
    have h5 : xs 5 = .slice (some ⟨kg, 0, none⟩) n kc := hp.1 rfl
    clear hp
    simp only [h5] at hK ⊢
    clear h5
    go_simp
    exact hK _ _ (Below.refl _ _) rfl
  · intro xs W hB hp K hK
    rw [if_pos (wanted_none rfl _)]
    have h1 : xs 1 = .int .i64 (n : Int) := hp.1 rfl
    have h6 : xs 6 = .int .i64 (n : Int) := hp.2.1 rfl
    clear hp
    simp only [h1, h6] at hK ⊢
    clear h1 h6
    go_simp
    exact hK _ _ (Below.refl _ _) (by first | rfl | (show Value.bool _ = _; simp; done) | (show Value.bool _ = _; simp; omega))
  · intro xs W hB hp K hK
    rw [if_pos (wanted_none rfl _)]
    have h7 : xs 7 = .bool true := hp.1 rfl
    clear hp
    simp only [h7] at hK ⊢
    clear h7
    go_simp
    exact hK _ _ (Below.refl _ _) rfl
  · intro xs W hB hp K hK
    have hgd : xs 8 = .bool true := hp.1 rfl
    rw [wanted_g (b := true) rfl (by show (match some (xs 8) with | some (.bool b) => some b | _ => none) = some true; rw [hgd])]
    rw [if_pos (show (true == true) = true from rfl)]
    clear hgd
    clear hp
    go_simp
    exact hK _ _ (Below.refl _ _) rfl
  · intro xs W hB hp K hK
    have hgd : xs 8 = .bool true := hp.1 rfl
    rw [wanted_g (b := true) rfl (by show (match some (xs 8) with | some (.bool b) => some b | _ => none) = some true; rw [hgd])]
    rw [if_pos (show (true == true) = true from rfl)]
    clear hgd
    clear hp
    go_simp
    exact hK _ _ (Below.refl _ _) rfl
  · intro xs W hB hp K hK
    have hgd : xs 8 = .bool true := hp.1 rfl
    rw [wanted_g (b := true) rfl (by show (match some (xs 8) with | some (.bool b) => some b | _ => none) = some true; rw [hgd])]
    rw [if_pos (show (true == true) = true from rfl)]
    clear hgd
    clear hp
    go_simp
    exact hK _ _ (Below.refl _ _) rfl
  · intro xs W hB hp K hK
    have hgd : xs 8 = .bool true := hp.2.2.2.1 rfl
    rw [wanted_g (b := true) rfl (by show (match some (xs 8) with | some (.bool b) => some b | _ => none) = some true; rw [hgd])]
    rw [if_pos (show (true == true) = true from rfl)]
    clear hgd
    have h9 : xs 9 = .pointer (some ⟨rg, 0, none⟩) := hp.1 rfl
    have h10 : xs 10 = .int .i64 i := hp.2.1 rfl
    have h11 : xs 11 = .slice ao P.length cap := hp.2.2.1 rfl
    clear hp
    simp only [h9, h10, h11] at hK ⊢
    clear h9 h10 h11
    go_simp
    refine (seal_any rg n seed i P ao cap W (HR.out.below hB) (HL.out.below (hBB.trans (hB.mono hBB.size)) (Nat.le_refl _)) hc (by omega)).mono ?_
    rintro e w' ⟨rfl, hB'⟩
    rw [← Hsf.out]
    exact hK _ _ hB' rfl
  · intro xs W hB hp K hK
    have hgd : xs 8 = .bool true := hp.1 rfl
    rw [wanted_g (b := true) rfl (by show (match some (xs 8) with | some (.bool b) => some b | _ => none) = some true; rw [hgd])]
    rw [if_pos (show (true == true) = true from rfl)]
    clear hgd
    clear hp
    go_simp
    exact hK _ _ (Below.refl _ _) rfl
  · intro xs W hB hp K hK
    have hgd : xs 8 = .bool true := hp.1 rfl
    rw [wanted_g (b := true) rfl (by show (match some (xs 8) with | some (.bool b) => some b | _ => none) = some true; rw [hgd])]
    rw [if_pos (show (true == true) = true from rfl)]
    clear hgd
    clear hp
    go_simp
    exact hK _ _ (Below.refl _ _) rfl
  · intro xs W hB hp K hK
    have hgd : xs 8 = .bool true := hp.1 rfl
    rw [wanted_g (b := true) rfl (by show (match some (xs 8) with | some (.bool b) => some b | _ => none) = some true; rw [hgd])]
    rw [if_pos (show (true == true) = true from rfl)]
    clear hgd
    clear hp
    go_simp
    exact hK _ _ (Below.refl _ _) rfl
  · intro xs W hB hp K hK
    have hgd : xs 8 = .bool true := hp.2.2.2.2.1 rfl
    rw [wanted_g (b := true) rfl (by show (match some (xs 8) with | some (.bool b) => some b | _ => none) = some true; rw [hgd])]
    rw [if_pos (show (true == true) = true from rfl)]
    clear hgd
    have h13 : xs 13 = .pointer (some ⟨xg, 0, none⟩) := hp.1 rfl
    have h14 : xs 14 = .int .i64 i := hp.2.1 rfl
    have h15 : xs 15 = .slice ao P.length cap := hp.2.2.1 rfl
    clear hp
    simp only [h13, h14, h15] at hK ⊢
    clear h13 h14 h15
    go_simp
    refine (rSeal_any xg n seed i P ao cap W (HX.out.below hB) (HD.out.below (hBB.trans (hB.mono hBB.size)) (Nat.le_refl _)) (by omega)).mono ?_
    rintro e w' ⟨rfl, hB'⟩
    rw [← Hsf.out]
    exact hK _ _ hB' rfl
  · intro xs W hB hp K hK
    have hgd : xs 8 = .bool true := hp.2.2.1 rfl
    rw [wanted_g (b := true) rfl (by show (match some (xs 8) with | some (.bool b) => some b | _ => none) = some true; rw [hgd])]
    rw [if_pos (show (true == true) = true from rfl)]
    clear hgd
    have h12 : xs 12 = .agg (row .u8 32 sf) := hp.1 rfl
    have h16 : xs 16 = .agg (row .u8 32 sf) := hp.2.1 rfl
    clear hp
    have heq := equalIn_hash sf sf
    rw [rowEq_self] at heq
    simp only [h12, h16] at hK ⊢
    clear h12 h16
    go_simp
    exact hK _ _ (Below.refl _ _) (by first | rfl | (show Value.bool _ = _; simp; done) | (show Value.bool _ = _; simp; omega))
  · intro xs W hB hp K hK
    rw [if_pos (wanted_none rfl _)]
    have h8 : xs 8 = .bool true := hp.1 rfl
    have h17 : xs 17 = .bool true := hp.2.1 rfl
    clear hp
    simp only [h8, h17] at hK ⊢
    clear h8 h17
    go_simp
    exact hK _ _ (Below.refl _ _) rfl
  · intro xs W hB hp K hK
    rw [if_pos (wanted_none rfl _)]
    have h18 : xs 18 = .bool true := hp.1 rfl
    clear hp
    simp only [h18] at hK ⊢
    clear h18
    go_simp
    exact hK _ _ (Below.refl _ _) rfl
  · intro xs W hB hp K hK
    have hgd : xs 19 = .bool true := hp.1 rfl
    rw [wanted_g (b := true) rfl (by show (match some (xs 19) with | some (.bool b) => some b | _ => none) = some true; rw [hgd])]
    rw [if_pos (show (true == true) = true from rfl)]
    clear hgd
    clear hp
    go_simp
    exact hK _ _ (Below.refl _ _) rfl
  · intro xs W hB hp K hK
    have hgd : xs 19 = .bool true := hp.1 rfl
    rw [wanted_g (b := true) rfl (by show (match some (xs 19) with | some (.bool b) => some b | _ => none) = some true; rw [hgd])]
    rw [if_pos (show (true == true) = true from rfl)]
    clear hgd
    clear hp
    go_simp
    exact hK _ _ (Below.refl _ _) rfl
  · intro xs W hB hp K hK
    have hgd : xs 19 = .bool true := hp.1 rfl
    rw [wanted_g (b := true) rfl (by show (match some (xs 19) with | some (.bool b) => some b | _ => none) = some true; rw [hgd])]
    rw [if_pos (show (true == true) = true from rfl)]
    clear hgd
    clear hp
    go_simp
    exact hK _ _ (Below.refl _ _) rfl
  · intro xs W hB hp K hK
    have hgd : xs 19 = .bool true := hp.1 rfl
    rw [wanted_g (b := true) rfl (by show (match some (xs 19) with | some (.bool b) => some b | _ => none) = some true; rw [hgd])]
    rw [if_pos (show (true == true) = true from rfl)]
    clear hgd
    clear hp
    exact wp_load_row _ _ rfl (w.heap.size + 1) rfl 23 _ (0, 0) (.array 32 5) (Below.blk hB (lt_blk HT2.out) HT2.out) (by kernel_rfl) rfl (row_info size_hash _) (hK _ _ (Below.refl _ _) rfl)
  · intro xs W hB hp K hK
    have hgd : xs 19 = .bool true := hp.2.2.2.2.1 rfl
    rw [wanted_g (b := true) rfl (by show (match some (xs 19) with | some (.bool b) => some b | _ => none) = some true; rw [hgd])]
    rw [if_pos (show (true == true) = true from rfl)]
    clear hgd
    have h20 : xs 20 = .pointer (some ⟨rg, 0, none⟩) := hp.1 rfl
    have h21 : xs 21 = .int .i64 i := hp.2.1 rfl
    have h22 : xs 22 = .slice ao P.length cap := hp.2.2.1 rfl
    have h23 : xs 23 = .agg (row .u8 32 tag) := hp.2.2.2.1 rfl
    clear hp
    simp only [h20, h21, h22, h23] at hK ⊢
    clear h20 h21 h22 h23
    go_simp
    refine (check_any rg n seed i P ao cap tag W (HR.out.below hB) (HL.out.below (hBB.trans (hB.mono hBB.size)) (Nat.le_refl _)) hc (by omega)).mono ?_
    rintro e w' ⟨rfl, hB'⟩
    rw [← Hcb.out]
    exact hK _ _ hB' rfl
  · intro xs W hB hp K hK
    have hgd : xs 19 = .bool true := hp.1 rfl
    rw [wanted_g (b := true) rfl (by show (match some (xs 19) with | some (.bool b) => some b | _ => none) = some true; rw [hgd])]
    rw [if_pos (show (true == true) = true from rfl)]
    clear hgd
    clear hp
    go_simp
    exact hK _ _ (Below.refl _ _) rfl
  · intro xs W hB hp K hK
    have hgd : xs 19 = .bool true := hp.1 rfl
    rw [wanted_g (b := true) rfl (by show (match some (xs 19) with | some (.bool b) => some b | _ => none) = some true; rw [hgd])]
    rw [if_pos (show (true == true) = true from rfl)]
    clear hgd
    clear hp
    go_simp
    exact hK _ _ (Below.refl _ _) rfl
  · intro xs W hB hp K hK
    have hgd : xs 19 = .bool true := hp.1 rfl
    rw [wanted_g (b := true) rfl (by show (match some (xs 19) with | some (.bool b) => some b | _ => none) = some true; rw [hgd])]
    rw [if_pos (show (true == true) = true from rfl)]
    clear hgd
    clear hp
    go_simp
    exact hK _ _ (Below.refl _ _) rfl
  · intro xs W hB hp K hK
    have hgd : xs 19 = .bool true := hp.1 rfl
    rw [wanted_g (b := true) rfl (by show (match some (xs 19) with | some (.bool b) => some b | _ => none) = some true; rw [hgd])]
    rw [if_pos (show (true == true) = true from rfl)]
    clear hgd
    clear hp
    exact wp_load_row _ _ rfl (w.heap.size + 1) rfl 23 _ (0, 0) (.array 32 5) (Below.blk hB (lt_blk HT2.out) HT2.out) (by kernel_rfl) rfl (row_info size_hash _) (hK _ _ (Below.refl _ _) rfl)
  · intro xs W hB hp K hK
    have hgd : xs 19 = .bool true := hp.2.2.2.2.2.1 rfl
    rw [wanted_g (b := true) rfl (by show (match some (xs 19) with | some (.bool b) => some b | _ => none) = some true; rw [hgd])]
    rw [if_pos (show (true == true) = true from rfl)]
    clear hgd
    have h25 : xs 25 = .pointer (some ⟨xg, 0, none⟩) := hp.1 rfl
    have h26 : xs 26 = .int .i64 i := hp.2.1 rfl
    have h27 : xs 27 = .slice ao P.length cap := hp.2.2.1 rfl
    have h28 : xs 28 = .agg (row .u8 32 tag) := hp.2.2.2.1 rfl
    clear hp
    simp only [h25, h26, h27, h28] at hK ⊢
    clear h25 h26 h27 h28
    go_simp
    refine (rCheck_any xg n seed i P ao cap tag W (HX.out.below hB) (HD.out.below (hBB.trans (hB.mono hBB.size)) (Nat.le_refl _)) (by omega)).mono ?_
    rintro e w' ⟨rfl, hB'⟩
    rw [← Hcb.out]
    exact hK _ _ hB' rfl
  · intro xs W hB hp K hK
    have hgd : xs 19 = .bool true := hp.2.2.1 rfl
    rw [wanted_g (b := true) rfl (by show (match some (xs 19) with | some (.bool b) => some b | _ => none) = some true; rw [hgd])]
    rw [if_pos (show (true == true) = true from rfl)]
    clear hgd
    have h24 : xs 24 = .bool cb := hp.1 rfl
    have h29 : xs 29 = .bool cb := hp.2.1 rfl
    clear hp
    simp only [h24, h29] at hK ⊢
    clear h24 h29
    go_simp
    exact hK _ _ (Below.refl _ _) (by first | rfl | (show Value.bool _ = _; simp; done) | (show Value.bool _ = _; simp; omega))
  · intro xs W hB hp K hK
    rw [if_pos (wanted_none rfl _)]
    have h19 : xs 19 = .bool true := hp.1 rfl
    have h30 : xs 30 = .bool true := hp.2.1 rfl
    clear hp
    simp only [h19, h30] at hK ⊢
    clear h19 h30
    go_simp
    exact hK _ _ (Below.refl _ _) rfl
  · intro xs W hB hp K hK
    rw [if_pos (wanted_none rfl _)]
    have h31 : xs 31 = .bool true := hp.1 rfl
    clear hp
    simp only [h31] at hK ⊢
    clear h31
    go_simp
    exact hK _ _ (Below.refl _ _) rfl
  · intro xs W hB hp K hK
    have hgd : xs 32 = .bool true := hp.1 rfl
    rw [wanted_g (b := true) rfl (by show (match some (xs 32) with | some (.bool b) => some b | _ => none) = some true; rw [hgd])]
    rw [if_pos (show (true == true) = true from rfl)]
    clear hgd
    clear hp
    go_simp
    exact hK _ _ (Below.refl _ _) rfl
  · intro xs W hB hp K hK
    have hgd : xs 32 = .bool true := hp.1 rfl
    rw [wanted_g (b := true) rfl (by show (match some (xs 32) with | some (.bool b) => some b | _ => none) = some true; rw [hgd])]
    rw [if_pos (show (true == true) = true from rfl)]
    clear hgd
    clear hp
    go_simp
    exact hK _ _ (Below.refl _ _) rfl
  · intro xs W hB hp K hK
    have hgd : xs 32 = .bool true := hp.1 rfl
    rw [wanted_g (b := true) rfl (by show (match some (xs 32) with | some (.bool b) => some b | _ => none) = some true; rw [hgd])]
    rw [if_pos (show (true == true) = true from rfl)]
    clear hgd
    clear hp
    go_simp
    exact hK _ _ (Below.refl _ _) rfl
  · intro xs W hB hp K hK
    have hgd : xs 32 = .bool true := hp.1 rfl
    rw [wanted_g (b := true) rfl (by show (match some (xs 32) with | some (.bool b) => some b | _ => none) = some true; rw [hgd])]
    rw [if_pos (show (true == true) = true from rfl)]
    clear hgd
    clear hp
    go_simp
    exact hK _ _ (Below.refl _ _) rfl
  · intro xs W hB hp K hK
    have hgd : xs 32 = .bool true := hp.1 rfl
    rw [wanted_g (b := true) rfl (by show (match some (xs 32) with | some (.bool b) => some b | _ => none) = some true; rw [hgd])]
    rw [if_pos (show (true == true) = true from rfl)]
    clear hgd
    clear hp
    go_simp
    exact hK _ _ (Below.refl _ _) rfl
  · intro xs W hB hp K hK
    have hgd : xs 32 = .bool true := hp.1 rfl
    rw [wanted_g (b := true) rfl (by show (match some (xs 32) with | some (.bool b) => some b | _ => none) = some true; rw [hgd])]
    rw [if_pos (show (true == true) = true from rfl)]
    clear hgd
    clear hp
    go_simp
    exact hK _ _ (Below.refl _ _) rfl
  · intro xs W hB hp K hK
    have hgd : xs 32 = .bool true := hp.2.2.2.1 rfl
    rw [wanted_g (b := true) rfl (by show (match some (xs 32) with | some (.bool b) => some b | _ => none) = some true; rw [hgd])]
    rw [if_pos (show (true == true) = true from rfl)]
    clear hgd
    have h36 : xs 36 = .pointer (some ⟨xg, 0, none⟩) := hp.1 rfl
    have h37 : xs 37 = .int .i64 i := hp.2.1 rfl
    have h38 : xs 38 = .slice ao P.length cap := hp.2.2.1 rfl
    clear hp
    simp only [h36, h37, h38] at hK ⊢
    clear h36 h37 h38
    go_simp
    refine (rSeal_any xg n seed i P ao cap W (HX.out.below hB) (HD.out.below (hBB.trans (hB.mono hBB.size)) (Nat.le_refl _)) (by omega)).mono ?_
    rintro e w' ⟨rfl, hB'⟩
    rw [← Hsf.out]
    exact hK _ _ hB' rfl
  · intro xs W hB hp K hK
    have hgd : xs 32 = .bool true := hp.2.2.2.2.2.1 rfl
    rw [wanted_g (b := true) rfl (by show (match some (xs 32) with | some (.bool b) => some b | _ => none) = some true; rw [hgd])]
    rw [if_pos (show (true == true) = true from rfl)]
    clear hgd
    have h33 : xs 33 = .pointer (some ⟨rg, 0, none⟩) := hp.1 rfl
    have h34 : xs 34 = .int .i64 i := hp.2.1 rfl
    have h35 : xs 35 = .slice ao P.length cap := hp.2.2.1 rfl
    have h39 : xs 39 = .agg (row .u8 32 sf) := hp.2.2.2.1 rfl
    clear hp
    simp only [h33, h34, h35, h39] at hK ⊢
    clear h33 h34 h35 h39
    go_simp
    refine (check_any rg n seed i P ao cap sf W (HR.out.below hB) (HL.out.below (hBB.trans (hB.mono hBB.size)) (Nat.le_refl _)) hc (by omega)).mono ?_
    rintro e w' ⟨rfl, hB'⟩
    rw [Hck.out]
    exact hK _ _ hB' rfl
  · intro xs W hB hp K hK
    have hgd : xs 32 = .bool true := hp.1 rfl
    rw [wanted_g (b := true) rfl (by show (match some (xs 32) with | some (.bool b) => some b | _ => none) = some true; rw [hgd])]
    rw [if_pos (show (true == true) = true from rfl)]
    clear hgd
    clear hp
    go_simp
    exact hK _ _ (Below.refl _ _) rfl
  · intro xs W hB hp K hK
    have hgd : xs 32 = .bool true := hp.2.1 rfl
    rw [wanted_g (b := true) rfl (by show (match some (xs 32) with | some (.bool b) => some b | _ => none) = some true; rw [hgd])]
    rw [if_pos (show (true == true) = true from rfl)]
    clear hgd
    have h41 : xs 41 = .int .i64 i := hp.1 rfl
    clear hp
    simp only [h41] at hK ⊢
    clear h41
    go_simp
    exact hK _ _ (Below.refl _ _) (by first | rfl | (show Value.bool _ = _; simp; done) | (show Value.bool _ = _; simp; omega))
  · intro xs W hB hp K hK
    have hgd : xs 32 = .bool true := hp.2.2.1 rfl
    rw [wanted_g (b := true) rfl (by show (match some (xs 32) with | some (.bool b) => some b | _ => none) = some true; rw [hgd])]
    rw [if_pos (show (true == true) = true from rfl)]
    clear hgd
    have h42 : xs 42 = .bool true := hp.1 rfl
    clear hp
    simp only [h42] at hK ⊢
    clear h42
    go_simp
    exact hK _ _ (Below.refl _ _) rfl
  · intro xs W hB hp K hK
    have hgd : xs 43 = .bool true := hp.1 rfl
    rw [wanted_g (b := true) rfl (by show (match some (xs 43) with | some (.bool b) => some b | _ => none) = some true; rw [hgd])]
    rw [if_pos (show (true == true) = true from rfl)]
    clear hgd
    clear hp
    go_simp
    exact hK _ _ (Below.refl _ _) rfl
  · intro xs W hB hp K hK
    have hgd : xs 43 = .bool true := hp.1 rfl
    rw [wanted_g (b := true) rfl (by show (match some (xs 43) with | some (.bool b) => some b | _ => none) = some true; rw [hgd])]
    rw [if_pos (show (true == true) = true from rfl)]
    clear hgd
    clear hp
    go_simp
    exact hK _ _ (Below.refl _ _) rfl
  · intro xs W hB hp K hK
    have hgd : xs 43 = .bool true := hp.2.1 rfl
    rw [wanted_g (b := true) rfl (by show (match some (xs 43) with | some (.bool b) => some b | _ => none) = some true; rw [hgd])]
    rw [if_pos (show (true == true) = true from rfl)]
    clear hgd
    have h45 : xs 45 = .pointer (some ⟨xg, 0, none⟩) := hp.1 rfl
    clear hp
    simp only [h45] at hK ⊢
    clear h45
    go_simp
    exact hK _ _ (Below.refl _ _) rfl
  · intro xs W hB hp K hK
    have hgd : xs 43 = .bool true := hp.2.1 rfl
    rw [wanted_g (b := true) rfl (by show (match some (xs 43) with | some (.bool b) => some b | _ => none) = some true; rw [hgd])]
    rw [if_pos (show (true == true) = true from rfl)]
    clear hgd
    have h46 : xs 46 = .pointer (some ⟨xg, 0, none⟩) := hp.1 rfl
    clear hp
    simp only [h46] at hK ⊢
    clear h46
    go_simp
    exact hK _ _ (Below.refl _ _) rfl
  · intro xs W hB hp K hK
    have hgd : xs 43 = .bool true := hp.2.1 rfl
    rw [wanted_g (b := true) rfl (by show (match some (xs 43) with | some (.bool b) => some b | _ => none) = some true; rw [hgd])]
    rw [if_pos (show (true == true) = true from rfl)]
    clear hgd
    have h47 : xs 47 = .pointer (some ⟨xg, 0, none⟩) := hp.1 rfl
    clear hp
    have cc : W.cell? ⟨xg, 0, none⟩ = some (.slice (some ⟨kg, 0, none⟩) n kc) := cell_blk (Below.blk hB (lt_blk HX0.out) HX0.out) 0
    simp only [h47] at hK ⊢
    clear h47
    go_simp
    exact hK _ _ (Below.refl _ _) rfl
  · intro xs W hB hp K hK
    have hgd : xs 43 = .bool true := hp.2.1 rfl
    rw [wanted_g (b := true) rfl (by show (match some (xs 43) with | some (.bool b) => some b | _ => none) = some true; rw [hgd])]
    rw [if_pos (show (true == true) = true from rfl)]
    clear hgd
    have h48 : xs 48 = .slice (some ⟨kg, 0, none⟩) n kc := hp.1 rfl
    clear hp
    simp only [h48] at hK ⊢
    clear h48
    go_simp
    exact hK _ _ (Below.refl _ _) rfl
  · intro xs W hB hp K hK
    have hgd : xs 43 = .bool true := hp.2.2.1 rfl
    rw [wanted_g (b := true) rfl (by show (match some (xs 43) with | some (.bool b) => some b | _ => none) = some true; rw [hgd])]
    rw [if_pos (show (true == true) = true from rfl)]
    clear hgd
    have h44 : xs 44 = .int .i64 i := hp.1 rfl
    have h49 : xs 49 = .int .i64 (n : Int) := hp.2.1 rfl
    clear hp
    simp only [h44, h49] at hK ⊢
    clear h44 h49
    go_simp
    exact hK _ _ (Below.refl _ _) (by first | rfl | (show Value.bool _ = _; simp; done) | (show Value.bool _ = _; simp; omega))
  · intro xs W hB hp K hK
    have hgd : xs 32 = .bool true := hp.2.2.1 rfl
    rw [wanted_g (b := true) rfl (by show (match some (xs 32) with | some (.bool b) => some b | _ => none) = some true; rw [hgd])]
    rw [if_pos (show (true == true) = true from rfl)]
    clear hgd
    have h43 : xs 43 = .bool true := hp.1 rfl
    have h50 : xs 50 = .bool true := hp.2.1 rfl
    clear hp
    simp only [h43, h50] at hK ⊢
    clear h43 h50
    go_simp
    exact hK _ _ (Below.refl _ _) rfl
  · intro xs W hB hp K hK
    have hgd : xs 32 = .bool true := hp.2.2.1 rfl
    rw [wanted_g (b := true) rfl (by show (match some (xs 32) with | some (.bool b) => some b | _ => none) = some true; rw [hgd])]
    rw [if_pos (show (true == true) = true from rfl)]
    clear hgd
    have h40 : xs 40 = .bool true := hp.1 rfl
    have h51 : xs 51 = .bool true := hp.2.1 rfl
    clear hp
    simp only [h40, h51] at hK ⊢
    clear h40 h51
    go_simp
    exact hK _ _ (Below.refl _ _) (by first | rfl | (show Value.bool _ = _; simp; done) | (show Value.bool _ = _; simp; omega))
  · intro xs W hB hp K hK
    rw [if_pos (wanted_none rfl _)]
    have h32 : xs 32 = .bool true := hp.1 rfl
    have h52 : xs 52 = .bool true := hp.2.1 rfl
    clear hp
    simp only [h32, h52] at hK ⊢
    clear h32 h52
    go_simp
    exact hK _ _ (Below.refl _ _) rfl
  · intro xs W hB hp K hK
    rw [if_pos (wanted_none rfl _)]
    have h53 : xs 53 = .bool true := hp.1 rfl
    clear hp
    simp only [h53] at hK ⊢
    clear h53
    go_simp
    exact hK _ _ (Below.refl _ _) rfl
  · intro xs W hB hp K hK
    have hgd : xs 54 = .bool true := hp.1 rfl
    rw [wanted_g (b := true) rfl (by show (match some (xs 54) with | some (.bool b) => some b | _ => none) = some true; rw [hgd])]
    rw [if_pos (show (true == true) = true from rfl)]
    clear hgd
    clear hp
    go_simp
    refine (known_any _).mono ?_
    rintro e w' ⟨rfl, hB'⟩
    exact hK _ _ hB' rfl
  · intro xs W hB hp K hK
    rw [if_pos (wanted_none rfl _)]
    have h54 : xs 54 = .bool true := hp.1 rfl
    have h55 : xs 55 = .bool true := hp.2.1 rfl
    clear hp
    simp only [h54, h55] at hK ⊢
    clear h54 h55
    go_simp
    exact hK _ _ (Below.refl _ _) rfl
  · intro xs W hB hp K hK
    rw [if_pos (wanted_none rfl _)]
    have h56 : xs 56 = .bool true := hp.1 rfl
    clear hp
    simp only [h56] at hK ⊢
    clear h56
    go_simp
    exact hK _ _ (Below.refl _ _) rfl
  · intro xs W hB hs
    have h57 : xs 57 = .bool true := hs 57 (by simp)
    simp only [h57]
    go_wp2_with fail
    go_ret
    exact ⟨rfl, hBB.trans (hB.mono hBB.size)⟩
set_option maxRecDepth 10000 in
theorem sealTells_any (nodes : Int) (seed : Nat → Int) (i : Int) (P : List Int) (ao : Option Addr) (cap : Nat) (tag : Nat → Int) (w : World) (h0 : -9223372036854775808 ≤ nodes) (h1 : nodes ≤ 9223372036854775807) (hl : Lies w ao P) (hc : P.length ≤ cap) (hr : Rowed w ao P cap) :
    Calls Try.prog 3 #[.int .i64 nodes, .agg (row .u8 32 seed), .int .i64 i, .slice ao P.length cap, .agg (row .u8 32 tag)] w fun e w' => e = .returned (.bool true) ∧ Below w.heap.size w w' := by
  by_cases q4 : 2000 < P.length
  · have hB : Below w.heap.size w ((w.alloc (.cells (row .u8 32 seed) 23)).alloc (.cells (row .u8 32 tag) 23)) := (below_alloc _ _).alloc (by simp) _
    go_enter Try.func3, Try.ntmps3
    go_wp2_with (first | refine wpList_box_row rfl 23 _ rfl _ rfl ?_)
    go_ret
    exact ⟨rfl, hB⟩
  by_cases q0 : i < 0
  · exact sealTells_low nodes seed i P ao cap tag w h0 h1 hl hc hr q4 _ rfl q0
  by_cases q1 : (nodesOf nodes : Int) ≤ i
  · exact sealTells_high nodes seed i P ao cap tag w h0 h1 hl hc hr q4 _ rfl (by omega) q1
  · exact sealTells_in nodes seed i P ao cap tag w h0 h1 hl hc hr q4 _ rfl (by omega) (by omega)
end Go.Proofs.Ytcckklkjigampaa
