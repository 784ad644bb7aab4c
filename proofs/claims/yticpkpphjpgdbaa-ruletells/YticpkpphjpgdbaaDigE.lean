/- digest's ending: what stands behind so many bytes. For up to 2^40 bytes. -/
import Derived.Test.YticpkpphjpgdbaaDigC
namespace Go.Proofs.Yticpkpphjpgdbaa
open Go.RowKit Go.Dig Go.Sha

theorem info_u8 : (Try.prog.info? 5).map (fun i => (i.zero, i.size, i.bytes)) = some (some (.int .u8 0), 1, 1) := by kernel_rfl
theorem lenB_shift (n : Nat) (k : Nat) (s : Int) (hs : s = 56 - 8 * (k : Int)) (hk : k ≤ 7) : (n : Int) * 8 / 2 ^ s.toNat % 256 = lenB n k := by
  unfold lenB; rw [show s.toNat = 56 - 8 * k by omega]

set_option maxRecDepth 10000 in
set_option maxHeartbeats 1000000 in
theorem ending_any (n : Nat) (w : World) (hz : n < 1099511627776) :
    Calls Try.prog 52 #[.int .i64 (n : Int)] w fun e w' => ∃ g cap, e = .returned (.slice (some ⟨g, 0, none⟩) (pad n).length cap) ∧ (pad n).length ≤ cap ∧ w.heap.size ≤ g ∧ (∀ j, j < (pad n).length → w'.cell? ⟨g, j, none⟩ = some (.int .u8 ((pad n).getD j 0))) ∧ Below w.heap.size w w' := by
  obtain ⟨i8, hi, hz0, hz1, hz2⟩ := info_parts info_u8
  have HI : Hid (Try.prog.info? 5 = some i8) := hi
  clear hi
  obtain ⟨d, hd⟩ : ∃ d, d = gap n := ⟨_, rfl⟩
  have hgp := gap_pos n
  have hd1 : 64 - ((n : Int) + 8) % 64 = (d : Int) := by rw [hd]; unfold gap; omega
  have hd2 : 0 < d ∧ d ≤ 64 := by rw [hd]; exact hgp
  have HD : Hid (d = gap n) := hd
  clear hd hgp
  have h0 := alloc_blk w (.cells (row .u8 (d + 8) (fun _ => 0)) 5)
  have c0 : (w.alloc (.cells (row .u8 (d + 8) (fun _ => 0)) 5)).cell? ⟨w.heap.size, 0, none⟩ = some (.int .u8 0) := (cell_blk h0 0).trans (row_get (by omega))
  have f0 : (w.alloc (.cells (row .u8 (d + 8) (fun _ => 0)) 5)).frozen? ⟨w.heap.size, 0, none⟩ = false := frozen_blk h0 0
  have hown : (w.alloc (.cells ((row .u8 (d + 8) (fun _ => 0)).setIfInBounds 0 (.int .u8 128)) 5)).ownsRow w.heap.size 5 1 (.slice (some ⟨w.heap.size, 0, none⟩) (d + 0) (d + 8)) (d + 0) ((padTo n 0).map (Value.int .u8)) := by
    refine ⟨by rw [List.length_map, padTo_length, HD.out, Nat.mul_one], .inr ⟨w.heap.size, d + 8, row .u8 (d + 8) (put (fun _ => 0) 0 128), rfl, Nat.le_refl _, (by rw [alloc_blk, row_set]), by omega, by unfold maxLen; omega, by rw [row_size, Nat.mul_one], ?_⟩⟩
    rw [row_list]
    apply List.ext_getElem?
    intro j
    by_cases hj : j < d
    · rw [List.getElem?_take_of_lt (by omega)]
      cases j with
      | zero => simp [padTo, put, show 0 < d + 8 by omega]
      | succ j =>
        simp only [padTo, lens, List.range_zero, List.map_nil, List.append_nil, List.map_cons, List.getElem?_cons_succ, List.map_replicate]
        rw [List.getElem?_replicate, if_pos (by rw [← HD.out]; omega)]
        simp [put, show j + 1 < d + 8 by omega]
    · rw [List.getElem?_eq_none (by simp; omega), List.getElem?_eq_none (by rw [List.length_map, padTo_length, ← HD.out]; omega)]
  have hB0 : Below w.heap.size w (w.alloc (.cells ((row .u8 (d + 8) (fun _ => 0)).setIfInBounds 0 (.int .u8 128)) 5)) := (Below.refl _ _).alloc (Nat.le_refl _) _
  have HO : Hid ((w.alloc (.cells ((row .u8 (d + 8) (fun _ => 0)).setIfInBounds 0 (.int .u8 128)) 5)).ownsRow w.heap.size 5 1 (.slice (some ⟨w.heap.size, 0, none⟩) (d + 0) (d + 8)) (d + 0) ((padTo n 0).map (Value.int .u8))) := hown
  clear h0 hown
  go_enter Try.func52, Try.ntmps52
  go_wp2_with (at_make; refine wpList_make_num rfl _ _ 22 rfl 5 i8 .u8 (by kernel_rfl) HI.out hz0 hz1 .i64 .i64 _ _ d (d + 8) rfl rfl rfl (by omega) (by omega) (by rw [hz2]; omega) (by omega) ?_)
  go_loopw [4, 6] (fun v i wr => ∃ k : Nat, k ≤ 8 ∧ v = .slice (some ⟨w.heap.size, 0, none⟩) (d + k) (d + 8) ∧ i = .int .i64 (56 - 8 * (k : Int)) ∧ Below w.heap.size w wr ∧ Hid (wr.ownsRow w.heap.size 5 1 (.slice (some ⟨w.heap.size, 0, none⟩) (d + k) (d + 8)) (d + k) ((padTo n k).map (Value.int .u8)))) (fun _ i _ => (intOf i + 8).toNat)
  case atStart => exact ⟨0, by omega, rfl, rfl, hB0, HO⟩
  case round =>
    clear HO hB0 c0 f0
    obtain ⟨k, hk, rfl, rfl, hB, HO⟩ := hrel
    by_cases hlt : k < 8
    · have hle : 0 ≤ 56 - 8 * (k : Int) := by omega
      have hlen := lenB_shift n k (56 - 8 * (k : Int)) rfl (by omega)
      rw [show (56 - 8 * (k : Int)).toNat = 56 - 8 * k by omega] at hlen
      go_wp2_with (at_builtin; refine wpList_append_fits _ rfl _ _ 22 rfl w.heap.size 5 i8 1 (by kernel_rfl) HI.out hz1 w.heap.size (d + k) (d + 8) _ rfl (World.ownsRow.alloc HO.out _) ⟨wr.heap.size, 0, none⟩ 1 1 [.int .u8 (lenB n k)] rfl rfl (fun j u hu => ?_) (by simp [Value.oneCell']) (by omega) ?_)
      · obtain rfl : j = 0 := by have := (List.getElem?_eq_some_iff.1 hu).1; simp at this; exact this
        rw [addr_add, cell_blk (alloc_blk _ _)]
        exact hu
      · intro w1 hown hgr
        have hB1 : Below w.heap.size w w1 := (hB.alloc hB.size _).grown hgr (by simp; exact Nat.le_succ_of_le hB.size) (fun k hk => by cases hk; exact Nat.le_refl _)
        have HO1 : Hid (w1.ownsRow w.heap.size 5 1 (.slice (some ⟨w.heap.size, 0, none⟩) (d + k + 1) (d + 8)) (d + k + 1) ((padTo n (k + 1)).map (Value.int .u8))) := by
          rw [padTo_succ, List.map_append]; exact hown
        clear hown hgr
        go_wp2_with fail
        exact ⟨⟨k + 1, by omega, rfl, by rw [show (56 - 8 * ((k + 1 : Nat) : Int)) = 56 - 8 * (k : Int) - 8 by omega], hB1, HO1⟩, by simp only [intOf]; omega⟩
    · obtain rfl : k = 8 := by omega
      go_wp2_with fail
      go_ret
      refine ⟨w.heap.size, d + 8, by rw [pad, padTo_length, HD.out]; rfl, by rw [pad, padTo_length, HD.out]; omega, Nat.le_refl _, fun j hj => ?_, hB⟩
      rw [pad, padTo_length, ← HD.out] at hj
      rw [World.ownsRow.cellAt HO.out j (by omega)]
      rw [pad, List.getElem?_map, List.getD, List.getElem?_eq_getElem (by rw [padTo_length, ← HD.out]; omega)]
      rfl
end Go.Proofs.Yticpkpphjpgdbaa
