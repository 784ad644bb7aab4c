/- seal's Seal and Check. For every ring, node, tag, and row of up to 2^38 bytes. -/
import Derived.Test.YticpkpphjpgdbaaSealB
import Derived.Test.YticpkpphjpgdbaaInv2
namespace Go.Proofs.Yticpkpphjpgdbaa
open Go.RowKit Go.Dig Go.Sha Go.Inv

def zeroF : Nat → Int := fun _ => 0
/-- the seal of node i of a ring of n nodes -/
def sealF (seed : Nat → Int) (n : Nat) (i : Int) (P : List Int) : Nat → Int := if hasB n i = true then mac (ofF 32 (keyAt seed i.toNat)) P else zeroF

set_option maxRecDepth 10000 in
set_option maxHeartbeats 1000000 in
theorem seal_any (rg n : Nat) (seed : Nat → Int) (i : Int) (P : List Int) (ao : Option Addr) (cap : Nat) (w : World) (h : RingAt w rg seed n) (hl : Lies w ao P) (hc : P.length ≤ cap) (hz : P.length < 274877906944) :
    Calls Try.prog 76 #[.pointer (some ⟨rg, 0, none⟩), .int .i64 i, .slice ao P.length cap] w fun e w' => e = .returned (.agg (row .u8 32 (sealF seed n i P))) ∧ Below w.heap.size w w' := by
  have HZ : Hid ((Try.prog.info? 30).map (·.zero) = some (some (.agg (row .u8 32 (fun _ => 0))))) := zero_hash
  have HL : Hid (Lies w ao P) := hl
  have hR : RingAt (w.alloc (.cells (row .u8 32 (fun _ => 0)) 30)) rg seed n := h.below (below_alloc _ _)
  have hrr := alloc_blk w (.cells (row .u8 32 (fun _ => 0)) 30)
  have hBw := below_alloc w (.cells (row .u8 32 (fun _ => 0)) 30)
  have hsz : (w.alloc (.cells (row .u8 32 (fun _ => 0)) 30)).heap.size = w.heap.size + 1 := by simp
  clear hl h
  have hsl := slice_hash
  go_enter Try.func76, Try.ntmps76
  go_wp2_with (first | refine wpList_alloc_row rfl 30 rfl _ HZ.out ?_ | fail)
  generalize w.alloc (.cells (row .u8 32 (fun _ => 0)) 30) = w1 at *
  have HRR : Hid (w1.heap[w.heap.size]? = some (.cells (row .u8 32 (fun _ => 0)) 30 (0, 0))) := hrr
  have HR : Hid (RingAt w1 rg seed n) := hR
  clear hrr hR
  refine (has_any rg n seed i _ HR.out).mono ?_
  rintro e w2 ⟨rfl, rfl⟩
  cases hb : hasB n i with
  | false =>
    go_wp2_with (first | refine wpList_build_to rfl 30 _ rfl (row .u8 32 (fun _ => 0)) (by kernel_rfl) ?_ | refine wpList_store_self rfl 30 _ _ rfl w.heap.size _ rfl rfl _ HRR.out (row_info size_hash _) (row_all _ _ _) ?_)
    refine bodyPost_ret (v := .agg (row .u8 32 (sealF seed n i P))) ?_ rfl ⟨rfl, hBw⟩
    rw [show sealF seed n i P = zeroF by simp [sealF, hb]]
    exact results_cell_row rfl _ _ w.heap.size _ _ _ (.array 32 5) rfl HRR.out (by kernel_rfl) rfl (row_info size_hash _)
  | true =>
    have hbi : 0 ≤ i ∧ i < (n : Int) := by simpa [hasB] using hb
    obtain ⟨m, rfl⟩ := Int.eq_ofNat_of_zero_le hbi.1
    have hm : m < n := by omega
    obtain ⟨kg, h0, h1, hn0, hn1⟩ := HR.out
    have c0 : w2.cell? ⟨rg, 0, none⟩ = some (.slice (some ⟨kg, 0, none⟩) n n) := cell_blk h0 0
    have HK : Hid (w2.heap[kg]? = some (.cells (row .u8 (32 * n) (keysF seed)) 30 (0, 0))) := h1
    have Hb : Hid (hasB n (m : Int) = true) := hb
    clear h0 h1 hb hbi HR
    go_wp2_with fail
    have hkl : (ofF 32 (keyAt seed m)).length = 32 := ofF_length _ _
    have hmac := mac_any (ofF 32 (keyAt seed m)) P kg (m * 32) 32 ao cap w2 (fun j hj => by
      rw [hkl] at hj
      rw [cell_blk HK.out, row_get (by omega), ofF_getD hj]
      unfold keysF
      rw [show (m * 32 + j) / 32 = m by omega, show (m * 32 + j) % 32 = j by omega]) (lt_blk HK.out) (by omega) (HL.out.below hBw (Nat.le_refl _)) hc hz
    rw [hkl] at hmac
    refine hmac.mono ?_
    rintro e w3 ⟨rfl, hB3⟩
    have HR3 : Hid (w3.heap[w.heap.size]? = some (.cells (row .u8 32 (fun _ => 0)) 30 (0, 0))) := Below.blk hB3 (lt_blk HRR.out) HRR.out
    have hBw3 : Below w.heap.size w w3 := hBw.trans (hB3.mono hBw.size)
    have Hs : Hid (sealF seed n (m : Int) P = mac (ofF 32 (keyAt seed m)) P) := by show _ = _; unfold sealF; rw [if_pos Hb.out, Int.toNat_natCast]
    rw [← Hs.out]
    clear hmac hB3 HRR hkl HK c0
    go_wp2_with (refine wpList_store_blk rfl 30 _ _ rfl w.heap.size _ rfl rfl _ _ HR3.out (row_info size_hash _) (by rw [row_size, row_size]) (row_all _ _ _) ?_)
    refine bodyPost_ret (v := .agg (row .u8 32 (sealF seed n (m : Int) P))) ?_ rfl ⟨rfl, below_setRow hBw3 (Nat.le_refl _) _⟩
    exact results_cell_row rfl _ _ w.heap.size _ _ _ (.array 32 5) rfl (setRow_at HR3.out _) (by kernel_rfl) rfl (row_info size_hash _)

set_option maxRecDepth 10000 in
set_option maxHeartbeats 1000000 in
theorem seal_nil (i : Int) (v : Value) (w : World) :
    Calls Try.prog 76 #[.pointer none, .int .i64 i, v] w fun e w' => e = .returned (.agg (row .u8 32 zeroF)) ∧ Below w.heap.size w w' := by
  have HZ : Hid ((Try.prog.info? 30).map (·.zero) = some (some (.agg (row .u8 32 (fun _ => 0))))) := zero_hash
  have hrr := alloc_blk w (.cells (row .u8 32 (fun _ => 0)) 30)
  have hBw := below_alloc w (.cells (row .u8 32 (fun _ => 0)) 30)
  go_enter Try.func76, Try.ntmps76
  go_wp2_with (first | refine wpList_alloc_row rfl 30 rfl _ HZ.out ?_ | fail)
  generalize w.alloc (.cells (row .u8 32 (fun _ => 0)) 30) = w1 at *
  have HRR : Hid (w1.heap[w.heap.size]? = some (.cells (row .u8 32 (fun _ => 0)) 30 (0, 0))) := hrr
  clear hrr
  refine (has_nil i _).mono ?_
  rintro e w2 ⟨rfl, rfl⟩
  go_wp2_with (first | refine wpList_build_to rfl 30 _ rfl (row .u8 32 (fun _ => 0)) (by kernel_rfl) ?_ | refine wpList_store_self rfl 30 _ _ rfl w.heap.size _ rfl rfl _ HRR.out (row_info size_hash _) (row_all _ _ _) ?_)
  refine bodyPost_ret (v := .agg (row .u8 32 zeroF)) ?_ rfl ⟨rfl, hBw⟩
  exact results_cell_row rfl _ _ w.heap.size _ _ _ (.array 32 5) rfl HRR.out (by kernel_rfl) rfl (row_info size_hash _)

/-- what Check's condition leaves, operation by operation -/
def chkSpec (pr : Value) (i : Int) (sl : Value) (b : Bool) (tag sf : Nat → Int) : Nat → Value → World → Prop
  | 0, x, _ => x = pr
  | 1, x, _ => x = .int .i64 i
  | 2, x, _ => x = .bool b
  | 3, x, _ => x = .bool b
  | 4, x, _ => b = true → x = .agg (row .u8 32 tag)
  | 5, x, _ => b = true → x = pr
  | 6, x, _ => b = true → x = .int .i64 i
  | 7, x, _ => b = true → x = sl
  | 8, x, _ => b = true → x = .agg (row .u8 32 sf)
  | 9, x, _ => b = true → x = .bool (rowEq 32 tag sf)
  | 10, x, _ => x = .bool (b && rowEq 32 tag sf)
  | 11, x, _ => x = .bool (b && rowEq 32 tag sf)
  | _, _, _ => True
theorem wanted_g {o : Oper} {ops : Array Oper} {t : Array Value} {j : Nat} {b c : Bool} (hg : o.guard = some (j, c)) (hy : yielded ops t j = some b) : Region.wanted o (yielded ops t) = (b == c) := by
  simp [Region.wanted, hg, hy]

set_option maxRecDepth 10000 in
set_option maxHeartbeats 1000000 in
/-- Check, whatever has and Seal come to -/
theorem check_of (pr : Value) (i : Int) (sl : Value) (b : Bool) (tag sf : Nat → Int) (w : World)
    (hhas : ∀ W, Below w.heap.size w W → Calls Try.prog 75 #[pr, .int .i64 i] W fun e w' => e = .returned (.bool b) ∧ w' = W)
    (hseal : b = true → ∀ W, Below w.heap.size w W → Calls Try.prog 76 #[pr, .int .i64 i, sl] W fun e w' => e = .returned (.agg (row .u8 32 sf)) ∧ Below W.heap.size W w') :
    Calls Try.prog 67 #[pr, .int .i64 i, sl, .agg (row .u8 32 tag)] w fun e w' => e = .returned (.bool (b && rowEq 32 tag sf)) ∧ Below w.heap.size w w' := by
  have HH : Hid (∀ W, Below w.heap.size w W → Calls Try.prog 75 #[pr, .int .i64 i] W fun e w' => e = .returned (.bool b) ∧ w' = W) := hhas
  have HS : Hid (b = true → ∀ W, Below w.heap.size w W → Calls Try.prog 76 #[pr, .int .i64 i, sl] W fun e w' => e = .returned (.agg (row .u8 32 sf)) ∧ Below W.heap.size W w') := hseal
  clear hhas hseal
  have hA := alloc_blk w (.cells (row .u8 32 tag) 30)
  have hBw := below_alloc w (.cells (row .u8 32 tag) 30)
  go_enter Try.func67, Try.ntmps67
  go_wp2_with (refine wpList_box_row rfl 30 _ rfl _ rfl ?_)
  generalize w.alloc (.cells (row .u8 32 tag) 30) = w1 at *
  have HA : Hid (w1.heap[w.heap.size]? = some (.cells (row .u8 32 tag) 30 (0, 0))) := hA
  clear hA
  refine wp_region_growG (by kernel_rfl) (by kernel_rfl) (fun xs => { tmps := (pr :: .int .i64 i :: sl :: .agg (row .u8 32 tag) :: undef :: undef :: undef :: .pointer (some ⟨w.heap.size, 0, none⟩) :: xs 11 :: xs 0 :: xs 1 :: xs 2 :: xs 3 :: xs 4 :: xs 5 :: xs 6 :: xs 7 :: xs 8 :: xs 9 :: xs 10 :: []).toArray, defers := [] })
    (chkSpec pr i sl b tag sf) (fun | 11 => .bool false | _ => undef) (by repeat (first | exact trivial | refine ⟨fun _ _ => rfl, ?_⟩))
    (by intro i x w w' h hs; unfold chkSpec at *; split at hs <;> first | exact hs | exact trivial) ⟨?_, ?_, ?_, ?_, ?_, ?_, ?_, ?_, ?_, ?_, ?_, ?_, trivial⟩ ?_
  · intro xs W hB hp K hK
    rw [if_pos (wanted_none rfl _)]
    go_simp
    exact hK _ _ (Below.refl _ _) rfl
  · intro xs W hB hp K hK
    rw [if_pos (wanted_none rfl _)]
    go_simp
    exact hK _ _ (Below.refl _ _) rfl
  · intro xs W hB hp K hK
    have h0 : xs 0 = pr := hp.1 rfl
    have h1 : xs 1 = .int .i64 i := hp.2.1 rfl
    clear hp
    rw [if_pos (wanted_none rfl _)]
    simp only [h0, h1] at hK ⊢
    go_simp
    refine (HH.out W (hBw.trans (hB.mono hBw.size))).mono ?_
    rintro e w' ⟨rfl, rfl⟩
    exact hK _ _ (Below.refl _ _) rfl
  · intro xs W hB hp K hK
    have h2 : xs 2 = .bool b := hp.1 rfl
    clear hp
    rw [if_pos (wanted_none rfl _)]
    simp only [h2] at hK ⊢
    go_simp
    exact hK _ _ (Below.refl _ _) rfl
  · intro xs W hB hp K hK
    have h3 : xs 3 = .bool b := hp.1 rfl
    rw [wanted_g (b := b) rfl (by show (match some (xs 3) with | some (.bool b) => some b | _ => none) = some b; rw [h3])]
    cases b with
    | false => exact hK _ _ (Below.refl _ _) (fun e => by cases e)
    | true => exact wp_load_row _ _ rfl w.heap.size rfl 30 _ (0, 0) (.array 32 5) (Below.blk hB (lt_blk HA.out) HA.out) (by kernel_rfl) rfl (row_info size_hash _) (hK _ _ (Below.refl _ _) (fun _ => rfl))
  · intro xs W hB hp K hK
    have h3 : xs 3 = .bool b := hp.1 rfl
    rw [wanted_g (b := b) rfl (by show (match some (xs 3) with | some (.bool b) => some b | _ => none) = some b; rw [h3])]
    cases b with
    | false => exact hK _ _ (Below.refl _ _) (fun e => by cases e)
    | true =>
      clear hp h3
      rw [if_pos (show (true == true) = true from rfl)]
      go_simp
      exact hK _ _ (Below.refl _ _) (fun _ => rfl)
  · intro xs W hB hp K hK
    have h3 : xs 3 = .bool b := hp.1 rfl
    rw [wanted_g (b := b) rfl (by show (match some (xs 3) with | some (.bool b) => some b | _ => none) = some b; rw [h3])]
    cases b with
    | false => exact hK _ _ (Below.refl _ _) (fun e => by cases e)
    | true =>
      clear hp h3
      rw [if_pos (show (true == true) = true from rfl)]
      go_simp
      exact hK _ _ (Below.refl _ _) (fun _ => rfl)
  · intro xs W hB hp K hK
    have h3 : xs 3 = .bool b := hp.1 rfl
    rw [wanted_g (b := b) rfl (by show (match some (xs 3) with | some (.bool b) => some b | _ => none) = some b; rw [h3])]
    cases b with
    | false => exact hK _ _ (Below.refl _ _) (fun e => by cases e)
    | true =>
      clear hp h3
      rw [if_pos (show (true == true) = true from rfl)]
      go_simp
      exact hK _ _ (Below.refl _ _) (fun _ => rfl)
  · intro xs W hB hp K hK
    have h3 : xs 3 = .bool b := hp.2.2.2.2.1 rfl
    rw [wanted_g (b := b) rfl (by show (match some (xs 3) with | some (.bool b) => some b | _ => none) = some b; rw [h3])]
    cases b with
    | false => exact hK _ _ (Below.refl _ _) (fun e => by cases e)
    | true =>
      have h5 : xs 5 = pr := hp.1 rfl rfl
      have h6 : xs 6 = .int .i64 i := hp.2.1 rfl rfl
      have h7 : xs 7 = sl := hp.2.2.1 rfl rfl
      clear hp
      rw [if_pos (show (true == true) = true from rfl)]
      simp only [h5, h6, h7] at hK ⊢
      clear h3 h5 h6 h7
      go_simp
      refine (HS.out rfl W (hBw.trans (hB.mono hBw.size))).mono ?_
      rintro e w' ⟨rfl, hB'⟩
      exact hK _ _ hB' (fun _ => rfl)
  · intro xs W hB hp K hK
    have h3 : xs 3 = .bool b := hp.2.2.1 rfl
    rw [wanted_g (b := b) rfl (by show (match some (xs 3) with | some (.bool b) => some b | _ => none) = some b; rw [h3])]
    cases b with
    | false => exact hK _ _ (Below.refl _ _) (fun e => by cases e)
    | true =>
      have h4 : xs 4 = .agg (row .u8 32 tag) := hp.1 rfl rfl
      have h8 : xs 8 = .agg (row .u8 32 sf) := hp.2.1 rfl rfl
      have heq := equalIn_hash tag sf
      clear hp h3
      rw [if_pos (show (true == true) = true from rfl)]
      simp only [h4, h8] at hK ⊢
      clear h4 h8
      go_simp
      exact hK _ _ (Below.refl _ _) (fun _ => rfl)
  · intro xs W hB hp K hK
    have h3 : xs 3 = .bool b := hp.1 rfl
    have h9 : b = true → xs 9 = .bool (rowEq 32 tag sf) := hp.2.1 rfl
    clear hp
    rw [if_pos (wanted_none rfl _)]
    cases b with
    | false =>
      clear h9
      simp only [h3] at hK ⊢
      go_simp
      exact hK _ _ (Below.refl _ _) rfl
    | true =>
      have h9' := h9 rfl
      clear h9
      simp only [h3, h9'] at hK ⊢
      go_simp
      exact hK _ _ (Below.refl _ _) rfl
  · intro xs W hB hp K hK
    have h10 : xs 10 = .bool (b && rowEq 32 tag sf) := hp.1 rfl
    clear hp
    rw [if_pos (wanted_none rfl _)]
    simp only [h10] at hK ⊢
    go_simp
    exact hK _ _ (Below.refl _ _) rfl
  · intro xs W hB hs
    have h11 : xs 11 = .bool (b && rowEq 32 tag sf) := hs 11 (by simp)
    simp only [h11]
    go_wp2_with fail
    go_ret
    exact ⟨rfl, hBw.trans (hB.mono hBw.size)⟩
/-- a tag is checked -/
def checkB (seed : Nat → Int) (n : Nat) (i : Int) (P : List Int) (tag : Nat → Int) : Bool := hasB n i && rowEq 32 tag (sealF seed n i P)
theorem check_any (rg n : Nat) (seed : Nat → Int) (i : Int) (P : List Int) (ao : Option Addr) (cap : Nat) (tag : Nat → Int) (w : World) (h : RingAt w rg seed n) (hl : Lies w ao P) (hc : P.length ≤ cap) (hz : P.length < 274877906944) :
    Calls Try.prog 67 #[.pointer (some ⟨rg, 0, none⟩), .int .i64 i, .slice ao P.length cap, .agg (row .u8 32 tag)] w fun e w' => e = .returned (.bool (checkB seed n i P tag)) ∧ Below w.heap.size w w' :=
  check_of _ i _ (hasB n i) tag (sealF seed n i P) w (fun W hB => has_any rg n seed i W (h.below hB)) (fun _ W hB => seal_any rg n seed i P ao cap W (h.below hB) (hl.below hB (Nat.le_refl _)) hc hz)
theorem check_nil (i : Int) (v : Value) (tag : Nat → Int) (w : World) :
    Calls Try.prog 67 #[.pointer none, .int .i64 i, v, .agg (row .u8 32 tag)] w fun e w' => e = .returned (.bool false) ∧ Below w.heap.size w w' :=
  check_of _ i _ false tag zeroF w (fun W _ => has_nil i W) (fun e => by cases e)
end Go.Proofs.Yticpkpphjpgdbaa
