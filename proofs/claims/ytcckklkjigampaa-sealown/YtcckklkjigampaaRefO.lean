/- SealOwn's walk: a node's seal is checked as its own; whatever else is taken as it is the same tag. -/
import Derived.Test.YtcckklkjigampaaSealX
import Derived.Test.YtcckklkjigampaaRefG
namespace Go.Proofs.Ytcckklkjigampaa
open Go.RowKit Go.Dig Go.Sha Go.Inv
set_option linter.unusedVariables false

set_option maxRecDepth 10000 in
set_option maxHeartbeats 1000000 in
theorem sealOwn_any (i j : Int) (P R : List Int) (ao bo : Option Addr) (cap dap : Nat) (w : World) (hl : Lies w ao P) (hc : P.length ≤ cap) (hm : Lies w bo R) (hd : R.length ≤ dap) (hr : Rowed w bo R dap) :
    Calls Try.prog 7 #[.int .i64 i, .int .i64 j, .slice ao P.length cap, .slice bo R.length dap] w fun e w' => e = .returned (.bool true) ∧ Below w.heap.size w w' := by
  have HL : Hid (Lies w ao P) := hl
  have HM : Hid (Lies w bo R) := hm
  have HD : Hid (Rowed w bo R dap) := hr
  have HZ : Hid ((Try.prog.info? 23).map (·.zero) = some (some (.agg (row .u8 32 (fun _ => 0))))) := zero_hash
  clear hl hm hr
  by_cases q0 : i < 0
  · go_enter Try.func7, Try.ntmps7
    go_wp2_with fail
    go_ret
    exact ⟨rfl, Below.refl _ _⟩
  by_cases q1 : 3 < i
  · go_enter Try.func7, Try.ntmps7
    go_wp2_with fail
    go_ret
    exact ⟨rfl, Below.refl _ _⟩
  by_cases q2 : j < 0
  · go_enter Try.func7, Try.ntmps7
    go_wp2_with fail
    go_ret
    exact ⟨rfl, Below.refl _ _⟩
  by_cases q3 : 3 < j
  · go_enter Try.func7, Try.ntmps7
    go_wp2_with fail
    go_ret
    exact ⟨rfl, Below.refl _ _⟩
  by_cases q4 : 1000 < P.length
  · go_enter Try.func7, Try.ntmps7
    go_wp2_with fail
    go_ret
    exact ⟨rfl, Below.refl _ _⟩
  by_cases q5 : 1000 < R.length
  · go_enter Try.func7, Try.ntmps7
    go_wp2_with fail
    go_ret
    exact ⟨rfl, Below.refl _ _⟩
  go_enter Try.func7, Try.ntmps7
  go_wp2_with (first | refine wpList_build_to rfl 23 _ rfl (row .u8 32 (oneF 7)) (by kernel_rfl) ?_)
  refine (sNew_any 4 (oneF 7) _ (by decide) (by decide)).mono ?_
  rintro e w1 ⟨rg, rfl, hrg, hR, hB1⟩
  rw [show nodesOf 4 = 4 by decide] at hR
  have HR : Hid (RingAt w1 rg (oneF 7) 4) := hR
  clear hR
  go_wp2_with (first | refine wpList_build_to rfl 23 _ rfl (row .u8 32 (oneF 7)) (by kernel_rfl) ?_)
  refine (rNew_any 4 (oneF 7) _ (by decide) (by decide)).mono ?_
  rintro e w2 ⟨xg, rfl, hxg, hX, hB2⟩
  rw [show nodesOf 4 = 4 by decide] at hX
  have HX : Hid (RRing w2 xg (oneF 7) 4) := hX
  have HR2 : Hid (RingAt w2 rg (oneF 7) 4) := HR.out.below hB2
  have hBB2 : Below w.heap.size w w2 := hB1.trans (hB2.mono hB1.size)
  clear hX HR hB1 hB2
  go_wp2_with fail
  refine (seal_any rg 4 (oneF 7) i P ao cap _ HR2.out (HL.out.below hBB2 (Nat.le_refl _)) hc (by omega)).mono ?_
  rintro e w3 ⟨rfl, hB3⟩
  have HR3 : Hid (RingAt w3 rg (oneF 7) 4) := HR2.out.below hB3
  have HX3 : Hid (RRing w3 xg (oneF 7) 4) := HX.out.below hB3
  have hBB3 : Below w.heap.size w w3 := hBB2.trans (hB3.mono hBB2.size)
  clear HR2 HX hBB2 hB3
  obtain ⟨sf, Hsf⟩ : ∃ sf, Hid (sf = sealF (oneF 7) 4 i P) := ⟨_, rfl⟩
  rw [show sealF (oneF 7) 4 i P = sf from Hsf.out.symm]
  have HA0 : Hid ((w3.alloc (.cells (row .u8 32 (fun _ => 0)) 23)).heap[w3.heap.size]? = some (.cells (row .u8 32 (fun _ => 0)) 23 (0, 0))) := alloc_blk _ _
  go_wp2_with (first | refine wpList_alloc_row rfl 23 rfl _ HZ.out ?_ | refine wpList_store_key rfl _ _ rfl w3.heap.size sf rfl rfl _ HA0.out ?_)
  intro w4 hA hB4' _
  have hB4 : Below w3.heap.size w3 w4 := (below_alloc _ _).trans (hB4' _ (Nat.le_refl _))
  have HA : Hid (w4.heap[w3.heap.size]? = some (.cells (row .u8 32 sf) 23 (0, 0))) := hA
  have HR4 : Hid (RingAt w4 rg (oneF 7) 4) := HR3.out.below hB4
  have HX4 : Hid (RRing w4 xg (oneF 7) 4) := HX3.out.below hB4
  have hBB4 : Below w.heap.size w w4 := hBB3.trans (hB4.mono hBB3.size)
  clear hA hB4' hB4 HR3 HX3 hBB3 HA0
  go_wp2_with fail
  obtain ⟨tf, Htf⟩ : ∃ tf, Hid (tf = sealF (oneF 7) 4 j R) := ⟨_, rfl⟩
  obtain ⟨rb, Hrb⟩ : ∃ rb, Hid (rb = rowEq 32 tf sf) := ⟨_, rfl⟩
  have Hck : Hid (checkB (oneF 7) 4 i P sf = true) := by
    show _ = _
    rw [Hsf.out]
    exact check_own (by simp [hasB]; omega)
  have Hcj : Hid (checkB (oneF 7) 4 j R sf = rb) := by
    show _ = _
    rw [Hrb.out, rowEq_comm, Htf.out]
    unfold checkB
    rw [show hasB 4 j = true by simp [hasB]; omega, Bool.true_and]
  refine wp_region_growG (by kernel_rfl) (by kernel_rfl) (fun xs => { tmps := (Value.int IntKind.i64 i :: Value.int IntKind.i64 j :: Value.slice ao P.length cap :: Value.slice bo R.length dap :: undef :: undef :: undef :: undef :: xs 22 :: Value.pointer (some { block := rg, off := 0 }) :: Value.pointer (some { block := xg, off := 0 }) :: Value.pointer (some { block := w3.heap.size, off := 0 }) :: Value.int IntKind.i64 i :: Value.bool false :: Value.bool false :: Value.int IntKind.i64 i :: Value.bool false :: Value.bool false :: Value.bool false :: Value.int IntKind.i64 j :: Value.bool false :: Value.bool false :: Value.bool false :: Value.int IntKind.i64 j :: Value.bool false :: Value.bool false :: Value.bool false :: Value.slice ao P.length cap :: Value.int IntKind.i64 (P.length : Int) :: Value.bool (decide (1000 < (P.length : Int))) :: Value.bool (decide (1000 < (P.length : Int))) :: Value.bool (decide (1000 < (P.length : Int))) :: Value.slice bo R.length dap :: Value.int IntKind.i64 (R.length : Int) :: Value.bool (decide (1000 < (R.length : Int))) :: Value.bool (decide (1000 < (P.length : Int)) || decide (1000 < (R.length : Int))) :: Value.agg (row IntKind.u8 32 (oneF 7)) :: Value.pointer (some { block := rg, off := 0 }) :: Value.agg (row IntKind.u8 32 (oneF 7)) :: Value.pointer (some { block := xg, off := 0 }) :: Value.pointer (some { block := rg, off := 0 }) :: Value.bool false :: Value.pointer (some { block := rg, off := 0 }) :: Value.int IntKind.i64 i :: Value.slice ao P.length cap :: Value.agg (row IntKind.u8 32 sf) :: xs 0 :: xs 1 :: xs 2 :: xs 3 :: xs 4 :: xs 5 :: xs 6 :: xs 7 :: xs 8 :: xs 9 :: xs 10 :: xs 11 :: xs 12 :: xs 13 :: xs 14 :: xs 15 :: xs 16 :: xs 17 :: xs 18 :: xs 19 :: xs 20 :: xs 21 :: []).toArray, defers := [] })
    (fun ii xx _ => match ii with | 0 => xx = .pointer (some ⟨rg, 0, none⟩) | 1 => xx = .int .i64 i | 2 => xx = .slice ao P.length cap | 3 => xx = .agg (row .u8 32 sf) | 4 => xx = .bool true | 5 => xx = .bool true | 6 => xx = .pointer (some ⟨rg, 0, none⟩) | 7 => xx = .int .i64 j | 8 => xx = .slice bo R.length dap | 9 => xx = .agg (row .u8 32 sf) | 10 => xx = .bool rb | 11 => xx = .pointer (some ⟨xg, 0, none⟩) | 12 => xx = .int .i64 j | 13 => xx = .slice bo R.length dap | 14 => xx = .agg (row .u8 32 tf) | 15 => xx = .agg (row .u8 32 sf) | 16 => xx = .bool rb | 17 => xx = .bool true | 18 => xx = .bool true | 19 => xx = .bool true | 20 => xx = .bool true | 21 => xx = .bool true | 22 => xx = .bool true | _ => True) (fun | 22 => .bool false | _ => undef) (by repeat (first | exact trivial | refine ⟨fun _ _ => rfl, ?_⟩)) (fun _ _ _ _ _ h => h) ⟨?_, ?_, ?_, ?_, ?_, ?_, ?_, ?_, ?_, ?_, ?_, ?_, ?_, ?_, ?_, ?_, ?_, ?_, ?_, ?_, ?_, ?_, ?_, trivial⟩ ?_
  · intro xs W hB hp K hK
    rw [if_pos (wanted_none rfl _)]
    clear hp
    go_simp
    exact hK _ _ (Below.refl _ _) rfl
  · intro xs W hB hp K hK
    rw [if_pos (wanted_none rfl _)]
    clear hp
    go_simp
    exact hK _ _ (Below.refl _ _) rfl
  · intro xs W hB hp K hK
    rw [if_pos (wanted_none rfl _)]
    clear hp
    go_simp
    exact hK _ _ (Below.refl _ _) rfl
  · intro xs W hB hp K hK
    rw [if_pos (wanted_none rfl _)]
    clear hp
    exact wp_load_row _ _ rfl w3.heap.size rfl 23 _ (0, 0) (.array 32 5) (Below.blk hB (lt_blk HA.out) HA.out) (by kernel_rfl) rfl (row_info size_hash _) (hK _ _ (Below.refl _ _) rfl)
  · intro xs W hB hp K hK
    rw [if_pos (wanted_none rfl _)]
    have h0 : xs 0 = .pointer (some ⟨rg, 0, none⟩) := hp.1 rfl
    have h1 : xs 1 = .int .i64 i := hp.2.1 rfl
    have h2 : xs 2 = .slice ao P.length cap := hp.2.2.1 rfl
    have h3 : xs 3 = .agg (row .u8 32 sf) := hp.2.2.2.1 rfl
    clear hp
    simp only [h0, h1, h2, h3] at hK ⊢
    clear h0 h1 h2 h3
    go_simp
    refine (check_any rg 4 (oneF 7) i P ao cap sf W (HR4.out.below hB) (HL.out.below (hBB4.trans (hB.mono hBB4.size)) (Nat.le_refl _)) hc (by omega)).mono ?_
    rintro e w' ⟨rfl, hB'⟩
    rw [Hck.out]
    exact hK _ _ hB' rfl
  · intro xs W hB hp K hK
    rw [if_pos (wanted_none rfl _)]
    have h4 : xs 4 = .bool true := hp.1 rfl
    clear hp
    simp only [h4] at hK ⊢
    clear h4
    go_simp
    exact hK _ _ (Below.refl _ _) rfl
  · intro xs W hB hp K hK
    have hgd : xs 5 = .bool true := hp.1 rfl
    rw [wanted_g (b := true) rfl (by show (match some (xs 5) with | some (.bool b) => some b | _ => none) = some true; rw [hgd])]
    rw [if_pos (show (true == true) = true from rfl)]
    clear hgd
    clear hp
    go_simp
    exact hK _ _ (Below.refl _ _) rfl
  · intro xs W hB hp K hK
    have hgd : xs 5 = .bool true := hp.1 rfl
    rw [wanted_g (b := true) rfl (by show (match some (xs 5) with | some (.bool b) => some b | _ => none) = some true; rw [hgd])]
    rw [if_pos (show (true == true) = true from rfl)]
    clear hgd
    clear hp
    go_simp
    exact hK _ _ (Below.refl _ _) rfl
  · intro xs W hB hp K hK
    have hgd : xs 5 = .bool true := hp.1 rfl
    rw [wanted_g (b := true) rfl (by show (match some (xs 5) with | some (.bool b) => some b | _ => none) = some true; rw [hgd])]
    rw [if_pos (show (true == true) = true from rfl)]
    clear hgd
    clear hp
    go_simp
    exact hK _ _ (Below.refl _ _) rfl
  · intro xs W hB hp K hK
    have hgd : xs 5 = .bool true := hp.1 rfl
    rw [wanted_g (b := true) rfl (by show (match some (xs 5) with | some (.bool b) => some b | _ => none) = some true; rw [hgd])]
    rw [if_pos (show (true == true) = true from rfl)]
    clear hgd
    clear hp
    exact wp_load_row _ _ rfl w3.heap.size rfl 23 _ (0, 0) (.array 32 5) (Below.blk hB (lt_blk HA.out) HA.out) (by kernel_rfl) rfl (row_info size_hash _) (hK _ _ (Below.refl _ _) rfl)
  · intro xs W hB hp K hK
    have hgd : xs 5 = .bool true := hp.2.2.2.2.1 rfl
    rw [wanted_g (b := true) rfl (by show (match some (xs 5) with | some (.bool b) => some b | _ => none) = some true; rw [hgd])]
    rw [if_pos (show (true == true) = true from rfl)]
    clear hgd
    have h6 : xs 6 = .pointer (some ⟨rg, 0, none⟩) := hp.1 rfl
    have h7 : xs 7 = .int .i64 j := hp.2.1 rfl
    have h8 : xs 8 = .slice bo R.length dap := hp.2.2.1 rfl
    have h9 : xs 9 = .agg (row .u8 32 sf) := hp.2.2.2.1 rfl
    clear hp
    simp only [h6, h7, h8, h9] at hK ⊢
    clear h6 h7 h8 h9
    go_simp
    refine (check_any rg 4 (oneF 7) j R bo dap sf W (HR4.out.below hB) (HM.out.below (hBB4.trans (hB.mono hBB4.size)) (Nat.le_refl _)) hd (by omega)).mono ?_
    rintro e w' ⟨rfl, hB'⟩
    rw [Hcj.out]
    exact hK _ _ hB' rfl
  · intro xs W hB hp K hK
    have hgd : xs 5 = .bool true := hp.1 rfl
    rw [wanted_g (b := true) rfl (by show (match some (xs 5) with | some (.bool b) => some b | _ => none) = some true; rw [hgd])]
    rw [if_pos (show (true == true) = true from rfl)]
    clear hgd
    clear hp
    go_simp
    exact hK _ _ (Below.refl _ _) rfl
  · intro xs W hB hp K hK
    have hgd : xs 5 = .bool true := hp.1 rfl
    rw [wanted_g (b := true) rfl (by show (match some (xs 5) with | some (.bool b) => some b | _ => none) = some true; rw [hgd])]
    rw [if_pos (show (true == true) = true from rfl)]
    clear hgd
    clear hp
    go_simp
    exact hK _ _ (Below.refl _ _) rfl
  · intro xs W hB hp K hK
    have hgd : xs 5 = .bool true := hp.1 rfl
    rw [wanted_g (b := true) rfl (by show (match some (xs 5) with | some (.bool b) => some b | _ => none) = some true; rw [hgd])]
    rw [if_pos (show (true == true) = true from rfl)]
    clear hgd
    clear hp
    go_simp
    exact hK _ _ (Below.refl _ _) rfl
  · intro xs W hB hp K hK
    have hgd : xs 5 = .bool true := hp.2.2.2.2.1 rfl
    rw [wanted_g (b := true) rfl (by show (match some (xs 5) with | some (.bool b) => some b | _ => none) = some true; rw [hgd])]
    rw [if_pos (show (true == true) = true from rfl)]
    clear hgd
    have h11 : xs 11 = .pointer (some ⟨xg, 0, none⟩) := hp.1 rfl
    have h12 : xs 12 = .int .i64 j := hp.2.1 rfl
    have h13 : xs 13 = .slice bo R.length dap := hp.2.2.1 rfl
    clear hp
    simp only [h11, h12, h13] at hK ⊢
    clear h11 h12 h13
    go_simp
    refine (rSeal_any xg 4 (oneF 7) j R bo dap W (HX4.out.below hB) (HD.out.below (hBB4.trans (hB.mono hBB4.size)) (Nat.le_refl _)) (by omega)).mono ?_
    rintro e w' ⟨rfl, hB'⟩
    rw [← Htf.out]
    exact hK _ _ hB' rfl
  · intro xs W hB hp K hK
    have hgd : xs 5 = .bool true := hp.1 rfl
    rw [wanted_g (b := true) rfl (by show (match some (xs 5) with | some (.bool b) => some b | _ => none) = some true; rw [hgd])]
    rw [if_pos (show (true == true) = true from rfl)]
    clear hgd
    clear hp
    exact wp_load_row _ _ rfl w3.heap.size rfl 23 _ (0, 0) (.array 32 5) (Below.blk hB (lt_blk HA.out) HA.out) (by kernel_rfl) rfl (row_info size_hash _) (hK _ _ (Below.refl _ _) rfl)
  · intro xs W hB hp K hK
    have hgd : xs 5 = .bool true := hp.2.2.1 rfl
    rw [wanted_g (b := true) rfl (by show (match some (xs 5) with | some (.bool b) => some b | _ => none) = some true; rw [hgd])]
    rw [if_pos (show (true == true) = true from rfl)]
    clear hgd
    have h14 : xs 14 = .agg (row .u8 32 tf) := hp.1 rfl
    have h15 : xs 15 = .agg (row .u8 32 sf) := hp.2.1 rfl
    clear hp
    have heq := equalIn_hash tf sf
    rw [← Hrb.out] at heq
    simp only [h14, h15] at hK ⊢
    clear h14 h15
    go_simp
    exact hK _ _ (Below.refl _ _) rfl
  · intro xs W hB hp K hK
    have hgd : xs 5 = .bool true := hp.2.2.1 rfl
    rw [wanted_g (b := true) rfl (by show (match some (xs 5) with | some (.bool b) => some b | _ => none) = some true; rw [hgd])]
    rw [if_pos (show (true == true) = true from rfl)]
    clear hgd
    have h10 : xs 10 = .bool rb := hp.1 rfl
    have h16 : xs 16 = .bool rb := hp.2.1 rfl
    clear hp
    simp only [h10, h16] at hK ⊢
    clear h10 h16
    go_simp
    exact hK _ _ (Below.refl _ _) (by first | rfl | (show Value.bool _ = _; simp; omega))
  · intro xs W hB hp K hK
    rw [if_pos (wanted_none rfl _)]
    have h5 : xs 5 = .bool true := hp.1 rfl
    have h17 : xs 17 = .bool true := hp.2.1 rfl
    clear hp
    simp only [h5, h17] at hK ⊢
    clear h5 h17
    go_simp
    exact hK _ _ (Below.refl _ _) rfl
  · intro xs W hB hp K hK
    rw [if_pos (wanted_none rfl _)]
    have h18 : xs 18 = .bool true := hp.1 rfl
    clear hp
    simp only [h18] at hK ⊢
    clear h18
    go_simp
    exact hK _ _ (Below.refl _ _) rfl
  · intro xs W hB hp K hK
    have hgd : xs 19 = .bool true := hp.1 rfl
    rw [wanted_g (b := true) rfl (by show (match some (xs 19) with | some (.bool b) => some b | _ => none) = some true; rw [hgd])]
    rw [if_pos (show (true == true) = true from rfl)]
    clear hgd
    clear hp
    go_simp
    refine (known_any _).mono ?_
    rintro e w' ⟨rfl, hB'⟩
    exact hK _ _ hB' rfl
  · intro xs W hB hp K hK
    rw [if_pos (wanted_none rfl _)]
    have h19 : xs 19 = .bool true := hp.1 rfl
    have h20 : xs 20 = .bool true := hp.2.1 rfl
    clear hp
    simp only [h19, h20] at hK ⊢
    clear h19 h20
    go_simp
    exact hK _ _ (Below.refl _ _) rfl
  · intro xs W hB hp K hK
    rw [if_pos (wanted_none rfl _)]
    have h21 : xs 21 = .bool true := hp.1 rfl
    clear hp
    simp only [h21] at hK ⊢
    clear h21
    go_simp
    exact hK _ _ (Below.refl _ _) rfl
  · intro xs W hB hs
    have h22 : xs 22 = .bool true := hs 22 (by simp)
    simp only [h22]
    go_wp2_with fail
    go_ret
    exact ⟨rfl, hBB4.trans (hB.mono hBB4.size)⟩
end Go.Proofs.Ytcckklkjigampaa
