/- digest's Sum, Link, padKey, fullKey and Mac. For up to 2^38 bytes. -/
import Derived.Test.YticpkpphjpgdbaaDigF
namespace Go.Proofs.Yticpkpphjpgdbaa
open Go.RowKit Go.Dig Go.Sha

def ofF (n : Nat) (f : Nat → Int) : List Int := (List.range n).map f
theorem ofF_length (n : Nat) (f : Nat → Int) : (ofF n f).length = n := by simp [ofF]
theorem ofF_getD {n : Nat} {f : Nat → Int} {j : Nat} (h : j < n) : (ofF n f).getD j 0 = f j := by simp [ofF, List.getD, h]
theorem lies_row {w : World} {g n : Nat} {f : Nat → Int} {t : TypeId} {fr : Nat × Nat} (h : w.heap[g]? = some (.cells (row .u8 n f) t fr)) : Lies w (some ⟨g, 0, none⟩) (ofF n f) := fun _ =>
  ⟨g, 0, rfl, fun j hj => by
    rw [ofF_length] at hj
    rw [Nat.zero_add, cell_blk h, row_get hj, ofF_getD hj]⟩
theorem slice_hash (b o : Nat) (w : World) : (Instr.sliceAt 30 (.pointer (some ⟨b, o, none⟩)) none none none).run Try.prog w = .ok (.slice (some ⟨b, o, none⟩) 32 32) w := by
  have hl : Try.prog.arrayLen 30 = 32 := by kernel_rfl
  have he : Try.prog.elem 30 = 5 := by kernel_rfl
  rw [run_sliceAt_array_all w 30 _ (by kernel_rfl), he, hl]
  have hs : (sizeOf 5).run Try.prog w = .ok 1 w := by simp [go_sem]
  rw [hs]
  simp [slicedAt, addr_add]
theorem slice_block (b o : Nat) (w : World) : (Instr.sliceAt 92 (.pointer (some ⟨b, o, none⟩)) none none none).run Try.prog w = .ok (.slice (some ⟨b, o, none⟩) 64 64) w := by
  have hl : Try.prog.arrayLen 92 = 64 := by kernel_rfl
  have he : Try.prog.elem 92 = 5 := by kernel_rfl
  rw [run_sliceAt_array_all w 92 _ (by kernel_rfl), he, hl]
  have hs : (sizeOf 5).run Try.prog w = .ok 1 w := by simp [go_sem]
  rw [hs]
  simp [slicedAt, addr_add]

theorem sumRows_two (ax ay : Option Addr) (nx ny cx cy : Nat) (X Y : List Int) (hx : nx = X.length) (hy : ny = Y.length) (rb cap : Nat) (w : World) (t : TypeId) (fr : Nat × Nat) (hr : w.heap[rb]? = some (.cells #[.slice ax nx cx, .slice ay ny cy] t fr))
    (lx : Lies w ax X) (ly : Lies w ay Y) (hcx : nx ≤ cx) (hcy : ny ≤ cy) (hz : X.length + Y.length < 549755813888) :
    Calls Try.prog 38 #[.slice (some ⟨rb, 0, none⟩) 2 cap] w fun e w' => e = .returned (.agg (row .u8 32 (sha (X ++ Y)))) ∧ Below w.heap.size w w' := by
  subst hx; subst hy
  have hcat : cat [(ax, cx, X), (ay, cy, Y)] = X ++ Y := by simp [cat]
  have := sumRows_any [(ax, cx, X), (ay, cy, Y)] rb cap w (fun j hj => by
      rw [cell_blk hr]
      match j, hj with
      | 0, _ => rfl
      | 1, _ => rfl) (fun x hx => by
      simp at hx
      rcases hx with rfl | rfl
      · exact ⟨lx, hcx⟩
      · exact ⟨ly, hcy⟩) (by rw [hcat]; simpa using hz) (by simp)
  rw [hcat] at this
  exact this
theorem sumRows_one (ax : Option Addr) (nx cx : Nat) (X : List Int) (hx : nx = X.length) (rb cap : Nat) (w : World) (t : TypeId) (fr : Nat × Nat) (hr : w.heap[rb]? = some (.cells #[.slice ax nx cx] t fr))
    (lx : Lies w ax X) (hcx : nx ≤ cx) (hz : X.length < 549755813888) :
    Calls Try.prog 38 #[.slice (some ⟨rb, 0, none⟩) 1 cap] w fun e w' => e = .returned (.agg (row .u8 32 (sha X))) ∧ Below w.heap.size w w' := by
  subst hx
  have hcat : cat [(ax, cx, X)] = X := by simp [cat]
  have := sumRows_any [(ax, cx, X)] rb cap w (fun j hj => by
      rw [cell_blk hr]
      match j, hj with
      | 0, _ => rfl) (fun x hx => by
      simp at hx
      subst hx
      exact ⟨lx, hcx⟩) (by rw [hcat]; exact hz) (by simp)
  rw [hcat] at this
  exact this
theorem below_alloc (w : World) (o : Obj) : Below w.heap.size w (w.alloc o) := (Below.refl _ _).alloc (Nat.le_refl _) _

set_option maxRecDepth 10000 in
set_option maxHeartbeats 1000000 in
theorem link_any (f : Nat → Int) (P : List Int) (ao : Option Addr) (cap : Nat) (w : World) (hl : Lies w ao P) (hc : P.length ≤ cap) (hz : P.length < 274877906944) :
    Calls Try.prog 26 #[.agg (row .u8 32 f), .slice ao P.length cap] w fun e w' => e = .returned (.agg (row .u8 32 (sha (ofF 32 f ++ P)))) ∧ Below w.heap.size w w' := by
  have HZ : Hid ((Try.prog.info? 30).map (·.zero) = some (some (.agg (row .u8 32 (fun _ => 0))))) := zero_hash
  have HL : Hid (Lies w ao P) := hl
  clear hl
  have hsl := slice_hash
  go_enter Try.func26, Try.ntmps26
  go_wp2_with (first | refine wpList_alloc_row rfl 30 rfl _ HZ.out ?_ | refine wpList_box_row rfl 30 _ rfl _ rfl ?_)
  have hA : ((w.alloc (.cells (row .u8 32 f) 30)).alloc (.cells (row .u8 32 (fun _ => 0)) 30)).heap[w.heap.size]? = some (.cells (row .u8 32 f) 30 (0, 0)) := alloc_blk_old (alloc_blk _ _) _
  have hR : ((w.alloc (.cells (row .u8 32 f) 30)).alloc (.cells (row .u8 32 (fun _ => 0)) 30)).heap[w.heap.size + 1]? = some (.cells (row .u8 32 (fun _ => 0)) 30 (0, 0)) := by
    have := alloc_blk (w.alloc (.cells (row .u8 32 f) 30)) (.cells (row .u8 32 (fun _ => 0)) 30)
    rw [World.size_alloc] at this; exact this
  have hBw : Below w.heap.size w ((w.alloc (.cells (row .u8 32 f) 30)).alloc (.cells (row .u8 32 (fun _ => 0)) 30)) := (below_alloc _ _).alloc (by simp) _
  have hsz : ((w.alloc (.cells (row .u8 32 f) 30)).alloc (.cells (row .u8 32 (fun _ => 0)) 30)).heap.size = w.heap.size + 1 + 1 := by simp
  generalize (w.alloc (.cells (row .u8 32 f) 30)).alloc (.cells (row .u8 32 (fun _ => 0)) 30) = w1 at *
  rw [← hsz]
  refine (sumRows_two (some ⟨w.heap.size, 0, none⟩) ao 32 P.length 32 cap (ofF 32 f) P (ofF_length _ _).symm rfl _ _ _ _ _ (alloc_blk _ _) (lies_row (alloc_blk_old hA _)) (HL.out.below (hBw.alloc (by omega) _) (Nat.le_refl _)) (Nat.le_refl _) hc (by rw [ofF_length]; omega)).mono ?_
  rintro e w2 ⟨rfl, hB2⟩
  have HR2 : Hid (w2.heap[w.heap.size + 1]? = some (.cells (row .u8 32 (fun _ => 0)) 30 (0, 0))) := Below.blk hB2 (by simp; omega) (alloc_blk_old hR _)
  have hBB : Below w.heap.size w w2 := (hBw.alloc (by omega) _).trans (hB2.mono (by simp; omega))
  clear hA hR hB2 hBw hsz
  go_wp2_with (refine wpList_store_blk rfl 30 _ _ rfl (w.heap.size + 1) _ rfl rfl _ _ HR2.out (row_info size_hash _) (by rw [row_size, row_size]) (row_all _ _ _) ?_)
  refine bodyPost_ret (v := .agg (row .u8 32 (sha (ofF 32 f ++ P)))) ?_ rfl ⟨rfl, below_setRow hBB (by omega) _⟩
  exact results_cell_row rfl _ _ (w.heap.size + 1) _ _ _ (.array 32 5) rfl (setRow_at HR2.out _) (by kernel_rfl) rfl (row_info size_hash _)

theorem zero_a64b : (Try.prog.info? 92).map (·.zero) = some (some (.agg (row .u8 64 (fun _ => 0)))) := by kernel_rfl
theorem size_a64b : (Try.prog.info? 92).map (·.size) = some 64 := by kernel_rfl
def xorTo (k : Nat) (f : Nat → Int) (x : Int) : Nat → Int := fun j => if j < k then bits .xor .u8 (f j) x else f j
theorem xorTo_put (k : Nat) (f : Nat → Int) (x : Int) : put (xorTo k f x) k (bits .xor .u8 (f k) x) = xorTo (k + 1) f x := by
  funext j
  unfold put xorTo
  by_cases h : j = k
  · subst h; simp
  · by_cases h2 : j < k
    · simp [h, h2, Nat.lt_succ_of_lt h2]
    · simp [h, h2, show ¬ j < k + 1 by omega]
def xorB (f : Nat → Int) (x : Int) : Nat → Int := fun j => bits .xor .u8 (f j) x

set_option maxRecDepth 10000 in
set_option maxHeartbeats 1000000 in
theorem padKey_any (f : Nat → Int) (x : Int) (w : World) :
    Calls Try.prog 88 #[.agg (row .u8 64 f), .int .u8 x] w fun e w' => e = .returned (.agg (row .u8 64 (xorB f x))) ∧ Below w.heap.size w w' := by
  have HZ : Hid ((Try.prog.info? 92).map (·.zero) = some (some (.agg (row .u8 64 (fun _ => 0))))) := zero_a64b
  go_enter Try.func88, Try.ntmps88
  go_wp2_with (first | refine wpList_alloc_row rfl 92 rfl _ HZ.out ?_ | refine wpList_box_row rfl 92 _ rfl _ rfl ?_)
  have hA : ((w.alloc (.cells (row .u8 64 f) 92)).alloc (.cells (row .u8 64 (fun _ => 0)) 92)).heap[w.heap.size]? = some (.cells (row .u8 64 f) 92 (0, 0)) := alloc_blk_old (alloc_blk _ _) _
  have hR : ((w.alloc (.cells (row .u8 64 f) 92)).alloc (.cells (row .u8 64 (fun _ => 0)) 92)).heap[w.heap.size + 1]? = some (.cells (row .u8 64 (fun _ => 0)) 92 (0, 0)) := by
    have := alloc_blk (w.alloc (.cells (row .u8 64 f) 92)) (.cells (row .u8 64 (fun _ => 0)) 92)
    rw [World.size_alloc] at this; exact this
  have hB0 : Below w.heap.size w ((w.alloc (.cells (row .u8 64 f) 92)).alloc (.cells (row .u8 64 (fun _ => 0)) 92)) := (below_alloc _ _).alloc (by simp) _
  have HA : Hid (((w.alloc (.cells (row .u8 64 f) 92)).alloc (.cells (row .u8 64 (fun _ => 0)) 92)).heap[w.heap.size]? = some (.cells (row .u8 64 (xorTo 0 f x)) 92 (0, 0))) := hA
  have HR : Hid (((w.alloc (.cells (row .u8 64 f) 92)).alloc (.cells (row .u8 64 (fun _ => 0)) 92)).heap[w.heap.size + 1]? = some (.cells (row .u8 64 (fun _ => 0)) 92 (0, 0))) := hR
  clear hA hR
  generalize (w.alloc (.cells (row .u8 64 f) 92)).alloc (.cells (row .u8 64 (fun _ => 0)) 92) = w1 at *
  go_loopw [6] (fun i wr => ∃ k : Nat, k ≤ 64 ∧ i = .int .i64 (k : Int) ∧ Below w.heap.size w wr ∧ Hid (wr.heap[w.heap.size]? = some (.cells (row .u8 64 (xorTo k f x)) 92 (0, 0))) ∧ Hid (wr.heap[w.heap.size + 1]? = some (.cells (row .u8 64 (fun _ => 0)) 92 (0, 0)))) (fun i _ => 64 - (intOf i).toNat)
  case atStart => exact ⟨0, by omega, rfl, hB0, HA, HR⟩
  case round =>
    clear hB0 HA HR
    obtain ⟨k, hk, rfl, hB, HA, HR⟩ := hrel
    by_cases hlt : k < 64
    · have c0 : wr.cell? ⟨w.heap.size, k, none⟩ = some (.int .u8 (f k)) := by rw [cell_blk HA.out, row_get hlt]; simp [xorTo]
      have f0 := frozen_blk HA.out k
      go_wp2_with fail
      exact ⟨⟨k + 1, by omega, by go_num, hB.setCell (p := ⟨w.heap.size, _, none⟩) (Nat.le_refl _) _, (by show _ = _; rw [set_blk_row HA.out, xorTo_put]), (set_blk_other _ _ (by omega)).trans HR.out⟩, by simp only [intOf]; omega⟩
    · obtain rfl : k = 64 := by omega
      simp only [show ((64 : Nat) : Int) = 64 from rfl]
      go_wp2_with (first | refine wpList_load_blk rfl 92 _ rfl w.heap.size _ rfl _ _ HA.out 64 5 (by kernel_rfl) (row_info size_a64b _) ?_ | refine wpList_store_blk rfl 92 _ _ rfl (w.heap.size + 1) _ rfl rfl _ _ HR.out (row_info size_a64b _) (by rw [row_size, row_size]) (row_all _ _ _) ?_)
      refine bodyPost_ret (v := .agg (row .u8 64 (xorB f x))) ?_ rfl ⟨rfl, below_setRow hB (by omega) _⟩
      rw [row_congr (k := .u8) (n := 64) (f := xorB f x) (g := xorTo 64 f x) (fun j hj => by simp [xorB, xorTo, hj])]
      exact results_cell_row rfl _ _ (w.heap.size + 1) _ _ _ (.array 64 5) rfl (setRow_at HR.out _) (by kernel_rfl) rfl (row_info size_a64b _)

theorem set_row_over {g n : Nat} {t : TypeId} {fr : Nat × Nat} : ∀ (Q : List Int) (o : Nat) {w : World} {f : Nat → Int}, w.heap[g]? = some (.cells (row .u8 n f) t fr) → (w.setCells g o (Q.map (Value.int .u8))).heap[g]? = some (.cells (row .u8 n (over f o Q.length Q)) t fr)
  | [], o, w, f, h => by
    have e : over f o 0 [] = f := by funext j; unfold over; rw [if_neg (by omega)]
    simp only [List.map_nil, World.setCells, List.length_nil, e]; exact h
  | v :: Q, o, w, f, h => by
    simp only [List.map_cons, World.setCells]
    have := set_row_over Q (o + 1) (set_blk_row h o v)
    rw [this]
    congr 2
    apply row_congr
    intro j _
    unfold over put
    simp only [List.length_cons]
    by_cases e : j = o
    · subst e; rw [if_neg (by omega), if_pos rfl, if_pos (by omega)]; simp
    · by_cases e2 : o + 1 ≤ j ∧ j < o + 1 + Q.length
      · rw [if_pos e2, if_pos (by omega), show j - o = (j - (o + 1)) + 1 by omega]; simp [List.getD]
      · rw [if_neg e2, if_neg e, if_neg (by omega)]

def keyF (K : List Int) : Nat → Int := fun j => K.getD j 0
set_option maxRecDepth 10000 in
set_option maxHeartbeats 1000000 in
theorem fullKey_any (K : List Int) (b o cap : Nat) (w : World) (hl : ∀ j, j < K.length → w.cell? ⟨b, o + j, none⟩ = some (.int .u8 (K.getD j 0))) (h64 : K.length ≤ 64) (hb : b < w.heap.size) :
    Calls Try.prog 87 #[.slice (some ⟨b, o, none⟩) K.length cap] w fun e w' => e = .returned (.agg (row .u8 64 (keyF K))) ∧ Below w.heap.size w w' := by
  have HZ : Hid ((Try.prog.info? 92).map (·.zero) = some (some (.agg (row .u8 64 (fun _ => 0))))) := zero_a64b
  have hsl := slice_block
  have h0 := alloc_blk w (.cells (row .u8 64 (fun _ => 0)) 92)
  have hcp := fun ty => copy_bytes w.heap.size 0 64 64 b o K.length cap K K.length ty (w.alloc (.cells (row .u8 64 (fun _ => 0)) 92)) (Nat.min_eq_left h64).symm (Nat.le_refl _) (fun j hj => (World.cell?_alloc_lt _ _ _ hb).trans (hl j hj)) (fun j hj => by rw [Nat.zero_add, cell_blk h0, row_get (by omega)]; rfl) (fun j hj => frozen_blk h0 _)
  have hS := set_row_over (K.take K.length) 0 h0
  have hBw : Below w.heap.size w ((w.alloc (.cells (row .u8 64 (fun _ => 0)) 92)).setCells w.heap.size 0 ((K.take K.length).map (Value.int .u8))) := (Keeps.setCells (b := w.heap.size) _ 0 (Keeps.of_below (below_alloc w (.cells (row .u8 64 (fun _ => 0)) 92)))).below (Nat.le_refl _) (Nat.le_refl _)
  rw [List.take_length] at hcp hS hBw
  have HS : Hid (((w.alloc (.cells (row .u8 64 (fun _ => 0)) 92)).setCells w.heap.size 0 (K.map (Value.int .u8))).heap[w.heap.size]? = some (.cells (row .u8 64 (over (fun _ => 0) 0 K.length K)) 92 (0, 0))) := hS
  clear hS h0 hl
  generalize hmk : K.map (Value.int .u8) = cs at *
  clear hmk
  go_enter Try.func87, Try.ntmps87
  go_wp2_with (first | refine wpList_alloc_row rfl 92 rfl _ HZ.out ?_ | refine wpList_load_blk rfl 92 _ rfl w.heap.size _ rfl _ _ HS.out 64 5 (by kernel_rfl) (row_info size_a64b _) ?_ | refine wpList_store_self rfl 92 _ _ rfl w.heap.size _ rfl rfl _ HS.out (row_info size_a64b _) (row_all _ _ _) ?_)
  refine bodyPost_ret (v := .agg (row .u8 64 (keyF K))) ?_ rfl ⟨rfl, hBw⟩
  rw [row_congr (k := .u8) (n := 64) (f := keyF K) (g := over (fun _ => 0) 0 K.length K) (fun j hj => by
    unfold over keyF
    by_cases e : j < K.length
    · rw [if_pos (by omega)]; rfl
    · rw [if_neg (by omega)]; simp [List.getD, e])]
  exact results_cell_row rfl _ _ w.heap.size _ _ _ (.array 64 5) rfl HS.out (by kernel_rfl) rfl (row_info size_a64b _)
end Go.Proofs.Yticpkpphjpgdbaa
