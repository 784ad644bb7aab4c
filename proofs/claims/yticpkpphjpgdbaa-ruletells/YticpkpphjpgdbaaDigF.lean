/- digest's sumRows: the digest of rows of bytes, one behind the other. For up to 2^39 bytes in all. -/
import Derived.Test.YticpkpphjpgdbaaDigD
import Derived.Test.YticpkpphjpgdbaaDigE
namespace Go.Proofs.Yticpkpphjpgdbaa
open Go.RowKit Go.Dig Go.Sha

/-- the bytes P lie at ao -/
def Lies (w : World) (ao : Option Addr) (P : List Int) : Prop :=
  P ≠ [] → ∃ b o, ao = some ⟨b, o, none⟩ ∧ ∀ j, j < P.length → w.cell? ⟨b, o + j, none⟩ = some (.int .u8 (P.getD j 0))
theorem Lies.bytes {w w' : World} {B : Nat} {ao : Option Addr} {P : List Int} (h : Lies w ao P) (hB : Below B w w') (hl : w.heap.size ≤ B) {g : Nat} (hg : w.heap.size ≤ g) : Bytes w' g ao P := fun hp => by
  obtain ⟨b, o, e, hc⟩ := h hp
  have hlt : b < w.heap.size := by
    have h0 := hc 0 (by cases P with | nil => exact absurd rfl hp | cons _ _ => simp)
    exact World.block_lt_of_cell? w _ h0
  refine ⟨b, o, e, by omega, fun j hj => ?_⟩
  rw [hB.cell (by show b < B; omega)]; exact hc j hj
theorem Lies.below {w w' : World} {B : Nat} {ao : Option Addr} {P : List Int} (h : Lies w ao P) (hB : Below B w w') (hl : w.heap.size ≤ B) : Lies w' ao P := fun hp => by
  obtain ⟨b, o, e, hc⟩ := h hp
  refine ⟨b, o, e, fun j hj => ?_⟩
  rw [hB.cell (by show b < B; have := World.block_lt_of_cell? w _ (hc j hj); simp at this; omega)]; exact hc j hj

theorem below_setRow {B : Nat} {a w : World} (h : Below B a w) {g : Nat} (hg : B ≤ g) (c : Array Value) : Below B a (w.setRow g c) :=
  h.trans ⟨rfl, rfl, rfl, by simp [World.setRow], fun k hk => by simp only [World.setRow, Array.getElem?_modify]; rw [if_neg (by omega)]⟩
theorem setRow_at {w : World} {g : Nat} {c : Array Value} {t : TypeId} {fr : Nat × Nat} (h : w.heap[g]? = some (.cells c t fr)) (c' : Array Value) : (w.setRow g c').heap[g]? = some (.cells c' t fr) := setRow_heap w g c c' t fr h

/-- rows of bytes: where each lies, its room, its bytes -/
abbrev Rws := List (Option Addr × Nat × List Int)
def cat (R : Rws) : List Int := R.flatMap (·.2.2)
theorem cat_take {R : Rws} {k : Nat} (h : k < R.length) : cat (R.take (k + 1)) = cat (R.take k) ++ (R[k]).2.2 := by
  unfold cat
  rw [List.take_succ_eq_append_getElem h, List.flatMap_append]
  simp
theorem cat_le {R : Rws} {k : Nat} : (cat (R.take k)).length ≤ (cat R).length := by
  have : cat R = cat (R.take k) ++ cat (R.drop k) := by unfold cat; rw [← List.flatMap_append, List.take_append_drop]
  rw [this, List.length_append]; omega

set_option maxRecDepth 10000 in
set_option maxHeartbeats 1000000 in
theorem sumRows_any (R : Rws) (rb cap : Nat) (w : World) (hc : ∀ j (hj : j < R.length), w.cell? ⟨rb, j, none⟩ = some (.slice (R[j]).1 (R[j]).2.2.length (R[j]).2.1)) (hl : ∀ x ∈ R, Lies w x.1 x.2.2 ∧ x.2.2.length ≤ x.2.1) (hz : (cat R).length < 549755813888) (hn : R.length < 1000) :
    Calls Try.prog 38 #[.slice (some ⟨rb, 0, none⟩) R.length cap] w fun e w' => e = .returned (.agg (row .u8 32 (sha (cat R)))) ∧ Below w.heap.size w w' := by
  have HZ : Hid ((Try.prog.info? 30).map (·.zero) = some (some (.agg (row .u8 32 (fun _ => 0))))) := zero_hash
  have HC : Hid (∀ j (hj : j < R.length), w.cell? ⟨rb, j, none⟩ = some (.slice (R[j]).1 (R[j]).2.2.length (R[j]).2.1)) := hc
  have HL : Hid (∀ x ∈ R, Lies w x.1 x.2.2 ∧ x.2.2.length ≤ x.2.1) := hl
  clear hc hl
  go_enter Try.func38, Try.ntmps38
  go_wp2_with (first | refine wpList_alloc_row rfl 30 rfl _ HZ.out ?_ | fail)
  refine (newSumming_any _).mono ?_
  rintro e w1 ⟨g, rfl, hg, hS, hB⟩
  have hB0 : Below w.heap.size w w1 := ((Below.refl _ _).alloc (Nat.le_refl _) _).trans (hB.mono (by simp))
  have hr : w1.heap[w.heap.size]? = some (.cells (row .u8 32 (fun _ => 0)) 30 (0, 0)) := Below.blk hB (by simp) (alloc_blk _ _)
  have hg' : w.heap.size < g := by simp at hg; omega
  have HS : Hid (SumAt w1 g ini (fun _ => 0) 0) := hS
  have HR : Hid (w1.heap[w.heap.size]? = some (.cells (row .u8 32 (fun _ => 0)) 30 (0, 0))) := hr
  clear hS hB hg hr
  go_wp2_with fail
  go_loopw [9] (fun i wr => ∃ (k : Nat) (st bs : Nat → Int), k ≤ R.length ∧ i = .int .i64 (k : Int) ∧ Below w.heap.size w wr ∧ Hid (SumAt wr g st bs (((cat (R.take k)).length : Nat) : Int)) ∧ Hid (Holds (cat (R.take k)) st bs) ∧ Hid (wr.heap[w.heap.size]? = some (.cells (row .u8 32 (fun _ => 0)) 30 (0, 0)))) (fun i _ => R.length - (intOf i).toNat)
  case atStart => exact ⟨0, ini, _, Nat.zero_le _, rfl, hB0, HS, holds_start, HR⟩
  case round =>
    clear hB0 HS HR
    obtain ⟨k, st, bs, hk, rfl, hB, HS, HH, HR⟩ := hrel
    by_cases hlt : k < R.length
    · obtain ⟨x, hx⟩ : ∃ x, x = R[k] := ⟨_, rfl⟩
      have c0 : wr.cell? ⟨rb, k, none⟩ = some (.slice x.1 x.2.2.length x.2.1) := by
        rw [hx]
        exact (hB.cell (World.block_lt_of_cell? w _ (HC.out k hlt))).trans (HC.out k hlt)
      have hmem : x ∈ R := by rw [hx]; exact List.getElem_mem hlt
      have hcl := cat_le (R := R) (k := k + 1)
      rw [cat_take hlt, ← hx, List.length_append] at hcl
      have HX : Hid (x = R[k]) := hx
      clear hx
      go_wp2_with fail
      refine (add_any g (cat (R.take k)) x.2.2 st bs x.1 x.2.1 wr HS.out HH.out ((HL.out x hmem).1.bytes hB (Nat.le_refl _) (by omega)) (HL.out x hmem).2 (by omega)).mono ?_
      rintro e w2 ⟨rfl, ⟨st2, bs2, hS2, hH2⟩, hK2⟩
      rw [HX.out, ← cat_take hlt] at hS2 hH2
      have hB2 : Below w.heap.size w w2 := hB.trans (hK2.below (by omega) hB.size)
      have HR2 : Hid (w2.heap[w.heap.size]? = some (.cells (row .u8 32 (fun _ => 0)) 30 (0, 0))) := (hK2.block _ (lt_blk HR.out) (by omega)).trans HR.out
      have HS2 : Hid (SumAt w2 g st2 bs2 (((cat (R.take (k + 1))).length : Nat) : Int)) := hS2
      have HH2 : Hid (Holds (cat (R.take (k + 1))) st2 bs2) := hH2
      clear hS2 hH2 hK2 hcl
      go_wp2_with fail
      exact ⟨⟨k + 1, st2, bs2, by omega, by go_num, hB2, HS2, HH2, HR2⟩, by simp only [intOf]; omega⟩
    · obtain rfl : k = R.length := by omega
      rw [List.take_length] at HS HH
      have c0 : wr.cell? ⟨g, 136, none⟩ = some (.int .i64 (((cat R).length : Nat) : Int)) := HS.out.n
      go_wp2_with fail
      refine (ending_any (cat R).length wr (by omega)).mono ?_
      rintro e w2 ⟨pg, pc, rfl, hpc, hpg, hcell, hB2⟩
      have hgw := HS.out.lt
      have hS2 := HS.out.below hB2 hgw
      have HR2 : Hid (w2.heap[w.heap.size]? = some (.cells (row .u8 32 (fun _ => 0)) 30 (0, 0))) := Below.blk hB2 (lt_blk HR.out) HR.out
      have HC2 : Hid (∀ j, j < (pad (cat R).length).length → w2.cell? ⟨pg, j, none⟩ = some (.int .u8 ((pad (cat R).length).getD j 0))) := hcell
      have HS2 : Hid (SumAt w2 g st bs (((cat R).length : Nat) : Int)) := hS2
      have hBB : Below w.heap.size w w2 := hB.trans (hB2.mono hB.size)
      have hpl := gap_pos (cat R).length
      have hpad : (pad (cat R).length).length = gap (cat R).length + 8 := padTo_length _ 8
      have Hpad : Hid ((pad (cat R).length).length = gap (cat R).length + 8) := hpad
      have hple : (pad (cat R).length).length ≤ 72 := by omega
      clear hcell hS2 hB2 HR HS hpad hpl c0
      go_wp2_with fail
      refine (add_any g (cat R) (pad (cat R).length) st bs (some ⟨pg, 0, none⟩) pc w2 HS2.out HH.out (fun _ => ⟨pg, 0, rfl, by omega, fun j hj => by rw [Nat.zero_add]; exact HC2.out j hj⟩) hpc (by omega)).mono ?_
      rintro e w3 ⟨rfl, ⟨st3, bs3, hS3, hH3⟩, hK3⟩
      have hst : st3 = states (padded (cat R)) ((padded (cat R)).length / 64) := hH3.1
      have HT : Hid (st3 = states (padded (cat R)) ((padded (cat R)).length / 64)) := hst
      have HR3 : Hid (w3.heap[w.heap.size]? = some (.cells (row .u8 32 (fun _ => 0)) 30 (0, 0))) := (hK3.block _ (lt_blk HR2.out) (by omega)).trans HR2.out
      have HS3 : Hid (SumAt w3 g st3 bs3 (((cat R ++ pad (cat R).length).length : Nat) : Int)) := hS3
      have hBB3 : Below w.heap.size w w3 := hBB.trans (hK3.below (by omega) hBB.size)
      clear hst hH3 hS3 hK3 hBB HR2 HS2 HC2 HH
      go_wp2_with fail
      refine (hash_any g st3 bs3 _ w3 HS3.out).mono ?_
      rintro e w4 ⟨rfl, hB4⟩
      have HR4 : Hid (w4.heap[w.heap.size]? = some (.cells (row .u8 32 (fun _ => 0)) 30 (0, 0))) := Below.blk hB4 (lt_blk HR3.out) HR3.out
      have hBB4 : Below w.heap.size w w4 := hBB3.trans (hB4.mono hBB3.size)
      clear hB4 HR3 HS3 hBB3
      go_wp2_with (refine wpList_store_blk rfl 30 _ _ rfl w.heap.size _ rfl rfl _ _ HR4.out (row_info size_hash _) (by rw [row_size, row_size]) (row_all _ _ _) ?_)
      refine bodyPost_ret (v := .agg (row .u8 32 (sha (cat R)))) ?_ rfl ⟨rfl, below_setRow hBB4 (Nat.le_refl _) _⟩
      rw [show sha (cat R) = hashOf st3 by rw [HT.out]; rfl]
      exact results_cell_row rfl _ _ w.heap.size _ _ _ (.array 32 5) rfl (setRow_at HR4.out _) (by kernel_rfl) rfl (row_info size_hash _)
end Go.Proofs.Yticpkpphjpgdbaa
