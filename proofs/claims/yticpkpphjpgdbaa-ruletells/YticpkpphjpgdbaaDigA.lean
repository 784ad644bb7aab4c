/- digest's and its reference's turning of a word; digest's spread of a block into sixty-four words. For every block. -/
import Derived.Test.YticpkpphjpgdbaaRows
import Derived.Deep.QuietTactic
import Derived.BigQuiet
import Derived.BigRegion
import Derived.Test.YticpkpphjpgdbaaDigRow
import Derived.Test.YticpkpphjpgdbaaSha
namespace Go.Proofs.Yticpkpphjpgdbaa
open Go.RowKit Go.Dig Go.Sha

set_option maxHeartbeats 400000 in
theorem rotl_any (x : Int) (n : Nat) (w : World) (h0 : 0 < n) (h1 : n < 32) :
    Calls Try.prog 81 #[.int .u32 x, .int .i64 (-(n : Int))] w fun e w' => e = .returned (.int .u32 (rot x n)) ∧ w' = w := by
  have hs := neg_and n h0 h1
  have hs2 : ((32 : Int) - (n : Int)).toNat = 32 - n := by omega
  have hs3 : ((32 : Int) - ((32 : Int) - (n : Int))).toNat = n := by omega
  have hs4 : (32 : Int) - ((32 : Int) - (n : Int)) = n := by omega
  go_enter Try.func81, Try.ntmps81
  go_wp2
  go_ret
  exact ⟨by rw [rot, bits_or_comm]; rfl, rfl⟩
set_option maxHeartbeats 400000 in
theorem turn_any (x : Int) (n : Nat) (w : World) (h0 : 0 < n) (h1 : n < 32) :
    Calls Try.prog 73 #[.int .u32 x, .int .i64 (n : Int)] w fun e w' => e = .returned (.int .u32 (rot x n)) ∧ w' = w := by
  go_enter Try.func73, Try.ntmps73
  go_wp2_with (go_at_call 81; refine (rotl_any x n _ h0 h1).mono ?_; rintro e w' ⟨rfl, rfl⟩)
  go_ret
  exact ⟨rfl, rfl⟩
theorem turn_lit (x : Int) (n : Nat) (i : Int) (hi : i = (n : Int)) (w : World) (h0 : 0 < n) (h1 : n < 32) :
    Calls Try.prog 73 #[.int .u32 x, .int .i64 i] w fun e w' => e = .returned (.int .u32 (rot x n)) ∧ w' = w := by subst hi; exact turn_any x n w h0 h1
theorem turn_at (x i : Int) (w : World) (h0 : 0 < i) (h1 : i < 32) :
    Calls Try.prog 73 #[.int .u32 x, .int .i64 i] w fun e w' => e = .returned (.int .u32 (rot x i.toNat)) ∧ w' = w := by
  have := turn_any x i.toNat w (by omega) (by omega)
  rw [Int.toNat_of_nonneg (by omega)] at this; exact this
set_option maxHeartbeats 400000 in
theorem rr_any (x : Int) (n : Nat) (w : World) (h0 : 0 < n) (h1 : n < 32) :
    Calls Try.prog 61 #[.int .u32 x, .int .u64 (n : Int)] w fun e w' => e = .returned (.int .u32 (rot x n)) ∧ w' = w := by
  have hs2 : ((32 : Int) - (n : Int)).toNat = 32 - n := by omega
  go_enter Try.func61, Try.ntmps61
  go_wp2
  go_ret
  exact ⟨rfl, rfl⟩
theorem rr_at (x i : Int) (w : World) (h0 : 0 < i) (h1 : i < 32) :
    Calls Try.prog 61 #[.int .u32 x, .int .u64 i] w fun e w' => e = .returned (.int .u32 (rot x i.toNat)) ∧ w' = w := by
  have := rr_any x i.toNat w (by omega) (by omega)
  rw [Int.toNat_of_nonneg (by omega)] at this; exact this

theorem zero_a64w : (Try.prog.info? 84).map (·.zero) = some (some (.agg (row .u32 64 (fun _ => 0)))) := by kernel_rfl
theorem size_a64w : (Try.prog.info? 84).map (·.size) = some 64 := by kernel_rfl
theorem addr_add (b o j : Nat) : (⟨b, o, none⟩ : Addr).add j = ⟨b, o + j, none⟩ := Addr.add_mid b o j
theorem slice_lh (b o : Nat) (l h : Int) (w : World) (h0 : 0 ≤ l) (h1 : l ≤ h) (h2 : h ≤ 64) (h3 : l < 64) :
    (Instr.sliceAt 92 (.pointer (some ⟨b, o, none⟩)) (some (.int .i64 l)) (some (.int .i64 h)) none).run Try.prog w = .ok (.slice (some ⟨b, o + l.toNat, none⟩) (h.toNat - l.toNat) (64 - l.toNat)) w := by
  have hl : Try.prog.arrayLen 92 = 64 := by kernel_rfl
  have he : Try.prog.elem 92 = 5 := by kernel_rfl
  rw [run_sliceAt_array_lh w 92 _ (by kernel_rfl) _ _ l h h0 h1 (by rw [hl]; exact h2), he, hl]
  have hs : (sizeOf 5).run Try.prog w = .ok 1 w := by simp [go_sem]
  rw [hs]
  have hne : ¬ (64 = l.toNat) := by omega
  simp [slicedAt, hne, addr_add]
theorem slice_l (b o : Nat) (l : Int) (w : World) (h0 : 0 ≤ l) (h3 : l < 64) :
    (Instr.sliceAt 92 (.pointer (some ⟨b, o, none⟩)) (some (.int .i64 l)) none none).run Try.prog w = .ok (.slice (some ⟨b, o + l.toNat, none⟩) (64 - l.toNat) (64 - l.toNat)) w := by
  have hl : Try.prog.arrayLen 92 = 64 := by kernel_rfl
  have he : Try.prog.elem 92 = 5 := by kernel_rfl
  rw [run_sliceAt_array_l w 92 _ (by kernel_rfl) _ l h0 (by rw [hl]; omega), he, hl]
  have hs : (sizeOf 5).run Try.prog w = .ok 1 w := by simp [go_sem]
  rw [hs]
  have hne : ¬ (64 = l.toNat) := by omega
  simp [slicedAt, hne, addr_add]

/-- the first k are there -/
def upTo (k : Nat) (f : Nat → Int) : Nat → Int := fun j => if j < k then f j else 0
theorem upTo_put (k : Nat) (f : Nat → Int) : put (upTo k f) k (f k) = upTo (k + 1) f := by
  funext j
  unfold put upTo
  by_cases h : j = k
  · subst h; simp
  · by_cases h2 : j < k
    · simp [h, h2, Nat.lt_succ_of_lt h2]
    · simp [h, h2, show ¬ j < k + 1 by omega]
theorem upTo_lt {k j : Nat} {f : Nat → Int} (h : j < k) : upTo k f j = f j := by simp [upTo, h]

theorem put_step {wr wr' : World} {g : Nat} {k : Nat} {f : Nat → Int} {t : TypeId} (h : wr.heap[g]? = some (.cells (row .u32 64 (upTo k f)) t (0, 0))) (e : wr'.heap = (wr.setCell ⟨g, k, none⟩ (.int .u32 (f k))).heap) :
    wr'.heap[g]? = some (.cells (row .u32 64 (upTo (k + 1) f)) t (0, 0)) := by
  rw [e, set_blk_row h, upTo_put]

set_option maxRecDepth 10000 in
set_option maxHeartbeats 1000000 in
theorem spread_any (b o : Nat) (bs : Nat → Int) (w : World) (hb : b < w.heap.size) (hc : ∀ j, j < 64 → w.cell? ⟨b, o + j, none⟩ = some (.int .u8 (bs j))) :
    Calls Try.prog 72 #[.pointer (some ⟨b, o, none⟩)] w fun e w' => e = .returned (.agg (row .u32 64 (W bs))) ∧ Below w.heap.size w w' := by
  have HC : Hid (∀ j, j < 64 → w.cell? ⟨b, o + j, none⟩ = some (.int .u8 (bs j))) := hc
  clear hc
  have HZ : Hid ((Try.prog.info? 84).map (·.zero) = some (some (.agg (row .u32 64 (fun _ => 0))))) := zero_a64w
  go_enter Try.func72, Try.ntmps72
  go_wp2_with (refine wpList_alloc_row rfl 84 rfl _ HZ.out ?_)
  go_loopw [10] (fun i wr => ∃ k : Nat, k ≤ 16 ∧ i = .int .i64 (k : Int) ∧ Below w.heap.size w wr ∧ wr.heap[w.heap.size]? = some (.cells (row .u32 64 (upTo k (W bs))) 84 (0, 0))) (fun i _ => 16 - (intOf i).toNat)
  case atStart =>
    exact ⟨0, Nat.zero_le _, rfl, (Below.refl _ _).alloc (Nat.le_refl _) _, alloc_blk _ _⟩
  case round =>
    obtain ⟨k, hk, rfl, hB, hr⟩ := hrel
    have HR : Hid (wr.heap[w.heap.size]? = some (.cells (row .u32 64 (upTo k (W bs))) 84 (0, 0))) := hr
    clear hr
    by_cases hlt : k < 16
    · have c0 : wr.cell? ⟨b, o + 4 * k, none⟩ = some (.int .u8 (bs (4 * k))) := (hB.cell (p := ⟨b, _, none⟩) hb).trans (HC.out _ (by omega))
      have c1 : wr.cell? ⟨b, o + 4 * k + 1, none⟩ = some (.int .u8 (bs (4 * k + 1))) := by rw [Nat.add_assoc]; exact (hB.cell (p := ⟨b, _, none⟩) hb).trans (HC.out _ (by omega))
      have c2 : wr.cell? ⟨b, o + 4 * k + 2, none⟩ = some (.int .u8 (bs (4 * k + 2))) := by rw [Nat.add_assoc]; exact (hB.cell (p := ⟨b, _, none⟩) hb).trans (HC.out _ (by omega))
      have c3 : wr.cell? ⟨b, o + 4 * k + 3, none⟩ = some (.int .u8 (bs (4 * k + 3))) := by rw [Nat.add_assoc]; exact (hB.cell (p := ⟨b, _, none⟩) hb).trans (HC.out _ (by omega))
      have hs : wr.cell? ⟨w.heap.size, k, none⟩ = some (.int .u32 (upTo k (W bs) k)) := (cell_blk HR.out k).trans (row_get (by omega))
      have hf := frozen_blk HR.out k
      have hsl := slice_lh b o (4 * (k : Int)) (4 * (k : Int) + 4) wr (by omega) (by omega) (by omega) (by omega)
      rw [show (4 * (k : Int)).toNat = 4 * k from by omega, show (4 * (k : Int) + 4).toNat - 4 * k = 4 from by omega] at hsl
      go_wp2_with fail
      go_region
      rw [show bits BinOp.or IntKind.u32 (bits BinOp.or IntKind.u32 (bits BinOp.or IntKind.u32 (bs (4 * k) % 4294967296 * 16777216 % 4294967296) (bs (4 * k + 1) % 4294967296 * 65536 % 4294967296)) (bs (4 * k + 2) % 4294967296 * 256 % 4294967296)) (bs (4 * k + 3) % 4294967296) = W bs k from (W_low hlt).symm]
      go_wp2_with fail
      go_roundw
      case rel => exact ⟨k + 1, by omega, by go_num, (by repeat (first | exact hB | refine Below.drew ?_ | refine Below.setCell (p := ⟨w.heap.size, _, none⟩) ?_ (Nat.le_refl _) _)), put_step HR.out rfl⟩
      case measure => simp [intOf]; omega
    · obtain rfl : k = 16 := by omega
      simp only [show ((16 : Nat) : Int) = 16 from rfl]
      go_wp2_with fail
      go_loopw [5] (fun i wq => ∃ k : Nat, 16 ≤ k ∧ k ≤ 64 ∧ i = .int .i64 (k : Int) ∧ Below w.heap.size w wq ∧ wq.heap[w.heap.size]? = some (.cells (row .u32 64 (upTo k (W bs))) 84 (0, 0))) (fun i _ => 64 - (intOf i).toNat)
      case atStart => exact ⟨16, Nat.le_refl _, by omega, rfl, hB, HR.out⟩
      case round =>
        clear hB HR hlt hk
        obtain ⟨k, hk0, hk, rfl, hB, hr⟩ := hrel
        have HR : Hid (wr.heap[w.heap.size]? = some (.cells (row .u32 64 (upTo k (W bs))) 84 (0, 0))) := hr
        clear hr
        by_cases hlt : k < 64
        · have c0 : wr.cell? ⟨w.heap.size, k - 15, none⟩ = some (.int .u32 (W bs (k - 15))) := by rw [cell_blk HR.out, row_get (by omega), upTo_lt (by omega)]
          have c1 : wr.cell? ⟨w.heap.size, k - 2, none⟩ = some (.int .u32 (W bs (k - 2))) := by rw [cell_blk HR.out, row_get (by omega), upTo_lt (by omega)]
          have c2 : wr.cell? ⟨w.heap.size, k - 16, none⟩ = some (.int .u32 (W bs (k - 16))) := by rw [cell_blk HR.out, row_get (by omega), upTo_lt (by omega)]
          have c3 : wr.cell? ⟨w.heap.size, k - 7, none⟩ = some (.int .u32 (W bs (k - 7))) := by rw [cell_blk HR.out, row_get (by omega), upTo_lt (by omega)]
          have hs : wr.cell? ⟨w.heap.size, k, none⟩ = some (.int .u32 (upTo k (W bs) k)) := (cell_blk HR.out k).trans (row_get (by omega))
          have hf := frozen_blk HR.out k
          go_wp2_with fail
          go_region
          go_wp2_with fail
          refine (turn_lit _ 7 7 rfl _ (by decide) (by decide)).mono ?_
          rintro e w' ⟨rfl, rfl⟩
          go_wp2_with fail
          refine (turn_lit _ 18 18 rfl _ (by decide) (by decide)).mono ?_
          rintro e w' ⟨rfl, rfl⟩
          go_wp2_with fail
          refine (turn_lit _ 17 17 rfl _ (by decide) (by decide)).mono ?_
          rintro e w' ⟨rfl, rfl⟩
          go_wp2_with fail
          refine (turn_lit _ 19 19 rfl _ (by decide) (by decide)).mono ?_
          rintro e w' ⟨rfl, rfl⟩
          go_wp2_with fail
          go_region
          rw [show (W bs (k - 16) + bits BinOp.xor IntKind.u32 (bits BinOp.xor IntKind.u32 (rot (W bs (k - 15)) 7) (rot (W bs (k - 15)) 18)) (W bs (k - 15) / 8) + W bs (k - 7) + bits BinOp.xor IntKind.u32 (bits BinOp.xor IntKind.u32 (rot (W bs (k - 2)) 17) (rot (W bs (k - 2)) 19)) (W bs (k - 2) / 1024)) % 4294967296 = W bs k from (W_high (by omega)).symm]
          go_wp2_with fail
          go_roundw
          case rel => exact ⟨k + 1, by omega, by omega, by go_num, (by repeat (first | exact hB | refine Below.drew ?_ | refine Below.setCell (p := ⟨w.heap.size, _, none⟩) ?_ (Nat.le_refl _) _)), put_step HR.out rfl⟩
          case measure => simp [intOf]; omega
        · obtain rfl : k = 64 := by omega
          go_wp2_with (first | refine wpList_load_blk rfl 84 _ rfl w.heap.size _ rfl _ _ HR.out 64 82 (by kernel_rfl) (row_info size_a64w _) ?_ | refine wpList_store_self rfl 84 _ _ rfl w.heap.size _ rfl rfl _ HR.out (row_info size_a64w _) (row_all _ _ _) ?_)
          refine bodyPost_ret (v := .agg (row .u32 64 (W bs))) ?_ rfl ⟨rfl, hB⟩
          rw [row_congr (k := .u32) (n := 64) (f := W bs) (g := upTo 64 (W bs)) (fun j hj => (upTo_lt hj).symm)]
          exact results_cell_row rfl _ _ w.heap.size _ _ _ (.array 64 82) rfl HR.out (by kernel_rfl) rfl (row_info size_a64w _)
end Go.Proofs.Yticpkpphjpgdbaa
