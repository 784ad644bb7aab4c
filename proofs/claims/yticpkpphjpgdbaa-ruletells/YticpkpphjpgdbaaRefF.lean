/- The reference's Seal and Check. -/
import Derived.Test.YticpkpphjpgdbaaWireC
import Derived.Test.YticpkpphjpgdbaaRefE
import Derived.Test.YticpkpphjpgdbaaSealC
namespace Go.Proofs.Yticpkpphjpgdbaa
open Go.RowKit Go.Dig Go.Sha Go.Inv
set_option linter.unusedVariables false

theorem wpList_store_key {ops : Array Oper} {rest : List Oper} {o : Oper} {a : Act} {w : World} {Q : Exit → Act → World → Prop} (hgd : o.guard = none) (x y : Operand) (ho : o.op = .store 30 x y) (g : Nat) (f : Nat → Int) (hx : a.eval x = .pointer (some ⟨g, 0, none⟩)) (hy : a.eval y = .agg (row .u8 32 f))
    (F : Nat → Int) (hg : w.heap[g]? = some (.cells (row .u8 32 F) 30 (0, 0)))
    (h : ∀ w', w'.heap[g]? = some (.cells (row .u8 32 f) 30 (0, 0)) → (∀ B, B ≤ g → Below B w w') → (∀ q, q ≠ g → w'.heap[q]? = w.heap[q]?) → wpList Try.prog ops Q rest (a.put o.dst undef) w') : wpList Try.prog ops Q (o :: rest) a w :=
  wpList_store_blk hgd 30 x y ho g _ hx hy _ _ hg (row_info size_hash _) (by rw [row_size, row_size]) (row_all _ _ _) (h _ (setRow_at hg _) (fun B hB => below_setRow (Below.refl _ _) hB _) (fun q hq => by simp only [World.setRow, Array.getElem?_modify]; rw [if_neg (Ne.symm hq)]))

set_option maxRecDepth 10000 in
set_option maxHeartbeats 1000000 in
theorem rSeal_any (rg n : Nat) (seed : Nat → Int) (i : Int) (P : List Int) (ao : Option Addr) (cap : Nat) (w : World) (h : RRing w rg seed n) (hl : Rowed w ao P cap) (hz : P.length < 274877906944) :
    Calls Try.prog 35 #[.pointer (some ⟨rg, 0, none⟩), .int .i64 i, .slice ao P.length cap] w fun e w' => e = .returned (.agg (row .u8 32 (sealF seed n i P))) ∧ Below w.heap.size w w' := by
  have HZ : Hid ((Try.prog.info? 30).map (·.zero) = some (some (.agg (row .u8 32 (fun _ => 0))))) := zero_hash
  have HL : Hid (Rowed w ao P cap) := hl
  obtain ⟨kg, kc, hr0, hr1, hn0, hn1, hkg⟩ := h
  have hBw := below_alloc w (.cells (row .u8 32 (fun _ => 0)) 30)
  have c0 : (w.alloc (.cells (row .u8 32 (fun _ => 0)) 30)).cell? ⟨rg, 0, none⟩ = some (.slice (some ⟨kg, 0, none⟩) n kc) := cell_blk (alloc_blk_old hr0 _) 0
  have HRR : Hid ((w.alloc (.cells (row .u8 32 (fun _ => 0)) 30)).heap[w.heap.size]? = some (.cells (row .u8 32 (fun _ => 0)) 30 (0, 0))) := alloc_blk w (.cells (row .u8 32 (fun _ => 0)) 30)
  have HK : Hid (∀ j, j < 32 * n → (w.alloc (.cells (row .u8 32 (fun _ => 0)) 30)).cell? ⟨kg, j, none⟩ = some (.int .u8 (keysF seed j))) := fun j hj => (hBw.cell hkg).trans (hr1 j hj)
  have hsz : (w.alloc (.cells (row .u8 32 (fun _ => 0)) 30)).heap.size = w.heap.size + 1 := by simp
  clear hl hr1 hr0
  have hsl := slice_hash
  by_cases q0 : i < 0
  · have hb : hasB n i = false := by simp [hasB]; omega
    go_enter Try.func35, Try.ntmps35
    go_wp2_with (first | refine wpList_alloc_row rfl 30 rfl _ HZ.out ?_ | refine wpList_build_to rfl 30 _ rfl (row .u8 32 (fun _ => 0)) (by kernel_rfl) ?_ | refine wpList_store_self rfl 30 _ _ rfl w.heap.size _ rfl rfl _ HRR.out (row_info size_hash _) (row_all _ _ _) ?_)
    refine bodyPost_ret (v := .agg (row .u8 32 (sealF seed n i P))) ?_ rfl ⟨rfl, hBw⟩
    rw [show sealF seed n i P = zeroF by simp [sealF, hb]]
    exact results_cell_row rfl _ _ w.heap.size _ _ _ (.array 32 5) rfl HRR.out (by kernel_rfl) rfl (row_info size_hash _)
  · by_cases q1 : (n : Int) ≤ i
    · have hb : hasB n i = false := by simp [hasB]; omega
      go_enter Try.func35, Try.ntmps35
      go_wp2_with (first | refine wpList_alloc_row rfl 30 rfl _ HZ.out ?_ | refine wpList_build_to rfl 30 _ rfl (row .u8 32 (fun _ => 0)) (by kernel_rfl) ?_ | refine wpList_store_self rfl 30 _ _ rfl w.heap.size _ rfl rfl _ HRR.out (row_info size_hash _) (row_all _ _ _) ?_)
      refine bodyPost_ret (v := .agg (row .u8 32 (sealF seed n i P))) ?_ rfl ⟨rfl, hBw⟩
      rw [show sealF seed n i P = zeroF by simp [sealF, hb]]
      exact results_cell_row rfl _ _ w.heap.size _ _ _ (.array 32 5) rfl HRR.out (by kernel_rfl) rfl (row_info size_hash _)
    · obtain ⟨m, rfl⟩ := Int.eq_ofNat_of_zero_le (show 0 ≤ i by omega)
      have hm : m < n := by omega
      have HKm : Hid (∀ j, j < 32 → (w.alloc (.cells (row .u8 32 (fun _ => 0)) 30)).cell? ⟨kg, m * 32 + j, none⟩ = some (.int .u8 (keyAt seed m j))) := fun j hj => by
        rw [HK.out (m * 32 + j) (by omega)]
        unfold keysF
        rw [show (m * 32 + j) / 32 = m by omega, show (m * 32 + j) % 32 = j by omega]
      have HR2 : Hid (((w.alloc (.cells (row .u8 32 (fun _ => 0)) 30)).alloc (.cells (row .u8 32 (fun _ => 0)) 30)).heap[w.heap.size + 1]? = some (.cells (row .u8 32 (fun _ => 0)) 30 (0, 0))) := by
        have := alloc_blk (w.alloc (.cells (row .u8 32 (fun _ => 0)) 30)) (.cells (row .u8 32 (fun _ => 0)) 30)
        rw [hsz] at this; exact this
      have HR1 : Hid (((w.alloc (.cells (row .u8 32 (fun _ => 0)) 30)).alloc (.cells (row .u8 32 (fun _ => 0)) 30)).heap[w.heap.size]? = some (.cells (row .u8 32 (fun _ => 0)) 30 (0, 0))) := alloc_blk_old HRR.out _
      have hB2 : Below w.heap.size w ((w.alloc (.cells (row .u8 32 (fun _ => 0)) 30)).alloc (.cells (row .u8 32 (fun _ => 0)) 30)) := hBw.alloc (by omega) _
      have HB2 : Hid (Below w.heap.size w ((w.alloc (.cells (row .u8 32 (fun _ => 0)) 30)).alloc (.cells (row .u8 32 (fun _ => 0)) 30))) := hB2
      clear hB2 hBw HRR
      go_enter Try.func35, Try.ntmps35
      go_wp2_with (first | refine wpList_alloc_row rfl 30 rfl _ HZ.out ?_ | refine wpList_load_nums rfl 30 _ rfl kg (m * 32) rfl .u8 32 (keyAt seed m) HKm.out 32 5 (by kernel_rfl) size_hash ?_ | refine wpList_store_key rfl _ _ rfl (w.heap.size + 1) (keyAt seed m) (show Value.pointer (some ⟨(w.alloc (.cells (row .u8 32 (fun _ => 0)) 30)).heap.size, 0, none⟩) = _ by rw [hsz]) rfl _ HR2.out ?_)
      intro w3 hk3 hB3 ho3
      have hz3 : w3.heap[w.heap.size]? = some (.cells (row .u8 32 (fun _ => 0)) 30 (0, 0)) := (ho3 w.heap.size (by omega)).trans HR1.out
      have hBw : Below w.heap.size w w3 := HB2.out.trans (hB3 _ (by omega))
      have HR3 : Hid (w3.heap[w.heap.size]? = some (.cells (row .u8 32 (fun _ => 0)) 30 (0, 0))) := hz3
      have HK3 : Hid (w3.heap[w.heap.size + 1]? = some (.cells (row .u8 32 (keyAt seed m)) 30 (0, 0))) := hk3
      clear hk3 hB3 ho3 hz3 HB2 HR1 HR2 HKm HK c0 hsz
      go_wp2_with fail
      have hkl : (ofF 32 (keyAt seed m)).length = 32 := ofF_length _ _
      have hmac := rMac_any (ofF 32 (keyAt seed m)) P (w.heap.size + 1) 0 32 ao cap w3 (fun j hj => by
        rw [hkl] at hj
        rw [cell_blk HK3.out, row_get (by omega), ofF_getD hj, Nat.zero_add]) (lt_blk HK3.out) (by omega) (HL.out.below hBw (Nat.le_refl _)) hz
      rw [hkl] at hmac
      refine hmac.mono ?_
      rintro e w4 ⟨rfl, hB4⟩
      have HR4 : Hid (w4.heap[w.heap.size]? = some (.cells (row .u8 32 (fun _ => 0)) 30 (0, 0))) := Below.blk hB4 (lt_blk HR3.out) HR3.out
      have hBw4 : Below w.heap.size w w4 := hBw.trans (hB4.mono hBw.size)
      have Hs : Hid (sealF seed n (m : Int) P = mac (ofF 32 (keyAt seed m)) P) := by show _ = _; unfold sealF; rw [if_pos (by simp [hasB]; omega), Int.toNat_natCast]
      rw [← Hs.out]
      clear hmac hB4 HR3 hkl HK3
      go_wp2_with (refine wpList_store_blk rfl 30 _ _ rfl w.heap.size _ rfl rfl _ _ HR4.out (row_info size_hash _) (by rw [row_size, row_size]) (row_all _ _ _) ?_)
      refine bodyPost_ret (v := .agg (row .u8 32 (sealF seed n (m : Int) P))) ?_ rfl ⟨rfl, below_setRow hBw4 (Nat.le_refl _) _⟩
      exact results_cell_row rfl _ _ w.heap.size _ _ _ (.array 32 5) rfl (setRow_at HR4.out _) (by kernel_rfl) rfl (row_info size_hash _)

end Go.Proofs.Yticpkpphjpgdbaa
