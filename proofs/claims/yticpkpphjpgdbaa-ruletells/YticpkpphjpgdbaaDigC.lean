/- digest's hash: the state as bytes; its summing at the start. For every state. -/
import Derived.Test.YticpkpphjpgdbaaDigSum
import Derived.Test.YticpkpphjpgdbaaDigLaw
import Derived.Test.YticpkpphjpgdbaaSha2
namespace Go.Proofs.Yticpkpphjpgdbaa
open Go.RowKit Go.Dig Go.Sha

theorem part_u32 (cs : Array Value) (off : Nat) (v : Value) (w : World) (h : cs[off]? = some v) : (part 82 cs off).run Try.prog w = .ok v w := by
  simp [part, go_sem, h]
theorem index_st (st : Nat → Int) (k : Nat) (h : k < 8) (w : World) : (Instr.index 83 (.agg (row .u32 8 st)) (.int .i64 (k : Int))).run Try.prog w = .ok (.int .u32 (st k)) w :=
  run_index_row 83 82 8 .u32 8 st .i64 k (by kernel_rfl) h h (by kernel_rfl) part_u32 w

theorem size_a8w : (Try.prog.info? 83).map (·.size) = some 8 := by kernel_rfl
theorem zero_hash : (Try.prog.info? 30).map (·.zero) = some (some (.agg (row .u8 32 (fun _ => 0)))) := by kernel_rfl
theorem size_hash : (Try.prog.info? 30).map (·.size) = some 32 := by kernel_rfl

theorem put_four {wr wr' : World} {g : Nat} {k : Nat} {f : Nat → Int} {t : TypeId} {n : Nat} (h : wr.heap[g]? = some (.cells (row .u8 n (upTo (4 * k) f)) t (0, 0)))
    (e : wr'.heap = ((((wr.setCell ⟨g, 4 * k, none⟩ (.int .u8 (f (4 * k)))).setCell ⟨g, 4 * k + 1, none⟩ (.int .u8 (f (4 * k + 1)))).setCell ⟨g, 4 * k + 2, none⟩ (.int .u8 (f (4 * k + 2)))).setCell ⟨g, 4 * k + 3, none⟩ (.int .u8 (f (4 * k + 3)))).heap) :
    wr'.heap[g]? = some (.cells (row .u8 n (upTo (4 * (k + 1)) f)) t (0, 0)) := by
  have h0 := set_blk_row h (4 * k) (f (4 * k)); rw [upTo_put] at h0
  have h1 := set_blk_row h0 (4 * k + 1) (f (4 * k + 1)); rw [upTo_put] at h1
  have h2 := set_blk_row h1 (4 * k + 2) (f (4 * k + 2)); rw [upTo_put] at h2
  have h3 := set_blk_row h2 (4 * k + 3) (f (4 * k + 3)); rw [upTo_put] at h3
  rw [e, h3, show 4 * (k + 1) = 4 * k + 1 + 1 + 1 + 1 by omega]
theorem hashOf0 (st : Nat → Int) (k : Nat) : hashOf st (4 * k) = st k / 16777216 % 256 := by simp [hashOf, show 4 * k / 4 = k by omega, show 4 * k % 4 = 0 by omega]
theorem hashOf1 (st : Nat → Int) (k : Nat) : hashOf st (4 * k + 1) = st k / 65536 % 256 := by simp [hashOf, show (4 * k + 1) / 4 = k by omega, show (4 * k + 1) % 4 = 1 by omega]
theorem hashOf2 (st : Nat → Int) (k : Nat) : hashOf st (4 * k + 2) = st k / 256 % 256 := by simp [hashOf, show (4 * k + 2) / 4 = k by omega, show (4 * k + 2) % 4 = 2 by omega]
theorem hashOf3 (st : Nat → Int) (k : Nat) : hashOf st (4 * k + 3) = st k % 256 := by simp [hashOf, show (4 * k + 3) / 4 = k by omega, show (4 * k + 3) % 4 = 3 by omega]

set_option maxRecDepth 10000 in
set_option maxHeartbeats 400000 in
theorem hash_any (g : Nat) (st bs : Nat → Int) (size : Int) (w : World) (h : SumAt w g st bs size) :
    Calls Try.prog 53 #[.pointer (some ⟨g, 0, none⟩)] w fun e w' => e = .returned (.agg (row .u8 32 (hashOf st))) ∧ Below w.heap.size w w' := by
  have HZ : Hid ((Try.prog.info? 30).map (·.zero) = some (some (.agg (row .u8 32 (fun _ => 0))))) := zero_hash
  have H : Hid (SumAt w g st bs size) := h
  have hg : g < w.heap.size := h.lt
  clear h
  go_enter Try.func53, Try.ntmps53
  go_wp2_with (first | refine wpList_alloc_row rfl 30 rfl _ HZ.out ?_ | refine wpList_load_nums rfl 83 _ rfl g 0 rfl .u32 8 st (fun j hj => by rw [Nat.zero_add]; exact SumAt.st (alloc_blk_old H.out _) hj) 8 82 (by kernel_rfl) size_a8w ?_)
  go_loopw [9] (fun i wr => ∃ k : Nat, k ≤ 8 ∧ i = .int .i64 (k : Int) ∧ Below w.heap.size w wr ∧ wr.heap[w.heap.size]? = some (.cells (row .u8 32 (upTo (4 * k) (hashOf st))) 30 (0, 0))) (fun i _ => 8 - (intOf i).toNat)
  case atStart =>
    exact ⟨0, Nat.zero_le _, rfl, (Below.refl _ _).alloc (Nat.le_refl _) _, alloc_blk _ _⟩
  case round =>
    obtain ⟨k, hk, rfl, hB, hr⟩ := hrel
    have HR : Hid (wr.heap[w.heap.size]? = some (.cells (row .u8 32 (upTo (4 * k) (hashOf st))) 30 (0, 0))) := hr
    clear hr
    by_cases hlt : k < 8
    · have hix := index_st st k hlt wr
      have c0 : wr.cell? ⟨w.heap.size, 4 * k, none⟩ = some (.int .u8 (upTo (4 * k) (hashOf st) (4 * k))) := by rw [cell_blk HR.out, row_get (by omega)]
      have c1 : wr.cell? ⟨w.heap.size, 4 * k + 1, none⟩ = some (.int .u8 (upTo (4 * k) (hashOf st) (4 * k + 1))) := by rw [cell_blk HR.out, row_get (by omega)]
      have c2 : wr.cell? ⟨w.heap.size, 4 * k + 2, none⟩ = some (.int .u8 (upTo (4 * k) (hashOf st) (4 * k + 2))) := by rw [cell_blk HR.out, row_get (by omega)]
      have c3 : wr.cell? ⟨w.heap.size, 4 * k + 3, none⟩ = some (.int .u8 (upTo (4 * k) (hashOf st) (4 * k + 3))) := by rw [cell_blk HR.out, row_get (by omega)]
      have f0 := frozen_blk HR.out (4 * k)
      have f1 := frozen_blk HR.out (4 * k + 1)
      have f2 := frozen_blk HR.out (4 * k + 2)
      have f3 := frozen_blk HR.out (4 * k + 3)
      go_wp2_with fail
      rw [← hashOf0, ← hashOf1, ← hashOf2, ← hashOf3]
      refine ⟨⟨k + 1, by omega, by go_num, ?_, put_four HR.out rfl⟩, by simp [intOf]; omega⟩
      exact (((hB.setCell (p := ⟨w.heap.size, _, none⟩) (Nat.le_refl _) _).setCell (p := ⟨w.heap.size, _, none⟩) (Nat.le_refl _) _).setCell (p := ⟨w.heap.size, _, none⟩) (Nat.le_refl _) _).setCell (p := ⟨w.heap.size, _, none⟩) (Nat.le_refl _) _
    · obtain rfl : k = 8 := by omega
      simp only [show ((8 : Nat) : Int) = 8 from rfl]
      go_wp2_with (first | refine wpList_load_blk rfl 30 _ rfl w.heap.size _ rfl _ _ HR.out 32 5 (by kernel_rfl) (row_info size_hash _) ?_ | refine wpList_store_self rfl 30 _ _ rfl w.heap.size _ rfl rfl _ HR.out (row_info size_hash _) (row_all _ _ _) ?_)
      refine bodyPost_ret (v := .agg (row .u8 32 (hashOf st))) ?_ rfl ⟨rfl, hB⟩
      rw [row_congr (k := .u8) (n := 32) (f := hashOf st) (g := upTo (4 * 8) (hashOf st)) (fun j hj => (upTo_lt (by omega)).symm)]
      exact results_cell_row rfl _ _ w.heap.size _ _ _ (.array 32 5) rfl HR.out (by kernel_rfl) rfl (row_info size_hash _)

set_option maxRecDepth 10000 in
set_option maxHeartbeats 400000 in
theorem roundNumbers_any (w : World) : Calls Try.prog 62 #[] w fun e w' => e = .returned (.agg (row .u32 64 k256)) ∧ Below w.heap.size w w' := by
  have HZ : Hid ((Try.prog.info? 84).map (·.zero) = some (some (.agg (row .u32 64 (fun _ => 0))))) := zero_a64w
  go_enter Try.func62, Try.ntmps62
  go_wp2_with (first | refine wpList_alloc_row rfl 84 rfl _ HZ.out ?_ | refine wpList_build_to rfl _ _ rfl (row .u32 64 k256) (by kernel_rfl) ?_ | refine wpList_store_blk rfl 84 _ _ rfl w.heap.size _ rfl rfl _ _ (alloc_blk _ _) (row_info size_a64w _) (by rw [row_size, row_size]) (row_all _ _ _) ?_)
  rw [setRow_new]
  refine bodyPost_ret (v := .agg (row .u32 64 k256)) ?_ rfl ⟨rfl, (Below.refl _ _).alloc (Nat.le_refl _) _⟩
  exact results_cell_row rfl _ _ w.heap.size _ _ _ (.array 64 82) rfl (alloc_blk _ _) (by kernel_rfl) rfl (row_info size_a64w _)

set_option maxRecDepth 10000 in
set_option maxHeartbeats 400000 in
theorem newSumming_any (w : World) : Calls Try.prog 50 #[] w fun e w' => ∃ g, e = .returned (.pointer (some ⟨g, 0, none⟩)) ∧ w.heap.size ≤ g ∧ SumAt w' g ini (fun _ => 0) 0 ∧ Below w.heap.size w w' := by
  go_enter Try.func50, Try.ntmps50
  go_wp2_with (first | refine wpList_build_to rfl 83 _ rfl (row .u32 8 ini) (by kernel_rfl) ?_ | fail)
  refine (roundNumbers_any w).mono ?_
  rintro e w1 ⟨rfl, hB⟩
  go_wp2_with (first | refine wpList_build_to rfl 94 _ rfl (sumRow ini (fun _ => 0) 0) (by kernel_rfl) ?_ | refine wpList_box_row rfl 94 _ rfl _ rfl ?_)
  go_ret
  exact ⟨w1.heap.size, rfl, hB.size, alloc_blk _ _, hB.alloc hB.size _⟩
end Go.Proofs.Yticpkpphjpgdbaa
