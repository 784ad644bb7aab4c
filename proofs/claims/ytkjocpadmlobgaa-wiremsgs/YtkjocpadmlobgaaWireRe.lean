/- octet's Reader, weakly: Bad, Num, Nums of a mark's four numbers, NewReader. For rows of up to 2^38 bytes. -/
import Derived.Test.YtkjocpadmlobgaaWireRd
namespace Go.Proofs.Ytkjocpadmlobgaa
open Go.RowKit Go.Dig Go.Inv Go.Oct

/-- a Reader, whatever is left in it -/
def Rd (w : World) (r : Nat) : Prop := ∃ (ao : Option Addr) (L : List Int) (cap : Nat) (bad : Bool), w.heap[r]? = some (.cells #[.slice ao L.length cap, .bool bad] 115 (0, 0)) ∧ Rowed w ao L cap ∧ L.length ≤ cap ∧ (∀ x ∈ L, 0 ≤ x ∧ x < 256) ∧ L.length < 274877906944 ∧ ∀ ad, ao = some ad → ad.block < r
theorem Rd.lt {w : World} {r : Nat} (h : Rd w r) : r < w.heap.size := by obtain ⟨_, _, _, _, hb, _⟩ := h; exact lt_blk hb
theorem Rowed.same {w w' : World} {ao : Option Addr} {L : List Int} {cap : Nat} (h : Rowed w ao L cap) (hs : ∀ ad, ao = some ad → w'.heap[ad.block]? = w.heap[ad.block]?) : Rowed w' ao L cap := by
  rcases h with h | ⟨ad, e, hc⟩
  · exact .inl h
  · refine .inr ⟨ad, e, fun j hj => ?_⟩
    have hb : (ad.add j).block = ad.block := by unfold Addr.add; split <;> rfl
    exact (World.cell?_of_block (a := ad.add j) (by rw [hb]; exact hs ad e)).trans (hc j hj)
theorem Rd.same {w w' : World} {r : Nat} (h : Rd w r) (hs : ∀ k, k < w.heap.size → w'.heap[k]? = w.heap[k]?) : Rd w' r := by
  obtain ⟨ao, L, cap, bad, hb, hR, hc, hy, hl, hne⟩ := h
  refine ⟨ao, L, cap, bad, (hs r (lt_blk hb)).trans hb, ?_, hc, hy, hl, hne⟩
  rcases hR with h | ⟨ad, e, hcl⟩
  · exact .inl h
  · exact .inr ⟨ad, e, fun j hj => (World.cell?_of_block (hs _ (World.block_lt_of_cell? w _ (hcl j hj)))).trans (hcl j hj)⟩
set_option maxRecDepth 10000 in
set_option maxHeartbeats 1000000 in
theorem rdBad_any (r : Nat) (w : World) (h : Rd w r) : Calls Try.prog 82 #[.pointer (some ⟨r, 0, none⟩)] w fun e w' => e = .returned (.tuple #[]) ∧ Rd w' r ∧ Keeps r w w' := by
  obtain ⟨ao, L, cap, bad, hb, hR, hc, hy, hl, hne⟩ := h
  obtain ⟨n, HN⟩ : ∃ n, Hid (L.length = n) := ⟨_, rfl⟩
  rw [HN.out] at hb
  have HB : Hid (w.heap[r]? = some (.cells #[.slice ao n cap, .bool bad] 115 (0, 0))) := hb
  have hb2 := set_blk hb 0 (.slice none 0 0)
  have c0 : w.cell? ⟨r, 0, none⟩ = some (.slice ao n cap) := (cell_blk hb _).trans rfl
  have f0 : w.frozen? ⟨r, 0, none⟩ = false := frozen_blk hb _
  have c1 : (w.setCell ⟨r, 0, none⟩ (.slice none 0 0)).cell? ⟨r, 1, none⟩ = some (.bool bad) := (cell_blk hb2 _).trans rfl
  have f1 : (w.setCell ⟨r, 0, none⟩ (.slice none 0 0)).frozen? ⟨r, 1, none⟩ = false := frozen_blk hb2 _
  have HB3 : Hid (((w.setCell ⟨r, 0, none⟩ (.slice none 0 0)).setCell ⟨r, 1, none⟩ (.bool true)).heap[r]? = some (.cells #[.slice none 0 0, .bool true] 115 (0, 0))) := (set_blk hb2 1 _).trans rfl
  clear hb hb2 hR hc hy hl hne
  go_enter Try.func82, Try.ntmps82
  go_wp2_with fail
  refine bodyPost_end (v := .tuple #[]) (by simp [results, Try.results82, go_sem]) rfl ?_
  refine ⟨rfl, ⟨none, [], 0, true, HB3.out, .inl ⟨rfl, rfl, rfl⟩, Nat.le_refl _, (fun x hx => by cases hx), by decide, fun ad e => by cases e⟩, ((Keeps.refl _ _).setCell _ _).setCell _ _⟩
set_option maxRecDepth 10000 in
set_option maxHeartbeats 2000000 in
theorem rdNum_any (r : Nat) (w : World) (h : Rd w r) : Calls Try.prog 72 #[.pointer (some ⟨r, 0, none⟩)] w fun e w' => (∃ z : Int, e = .returned (.int .i64 z) ∧ inI z) ∧ Rd w' r ∧ Keeps r w w' := by
  have HH : Hid (Rd w r) := h
  obtain ⟨ao, L, cap, bad, hb, hR, hc, hy, hl, hne⟩ := h
  have HF := firstNumber_any L ao cap w hR hc hl hy
  obtain ⟨n, HN⟩ : ∃ n, Hid (L.length = n) := ⟨_, rfl⟩
  rw [HN.out] at hb hc hl HF
  have HFF : Hid (Calls Try.prog 81 #[.slice ao n cap] w fun e w' => (∃ (z : Int) (k : Nat), e = .returned (.tuple #[.int .i64 z, .int .i64 (k : Int)]) ∧ inI z ∧ k ≤ n) ∧ w' = w) := HF
  have c0 : w.cell? ⟨r, 0, none⟩ = some (.slice ao n cap) := (cell_blk hb _).trans rfl
  have f0 : w.frozen? ⟨r, 0, none⟩ = false := frozen_blk hb _
  have HB : Hid (w.heap[r]? = some (.cells #[.slice ao n cap, .bool bad] 115 (0, 0))) := hb
  have HR : Hid (Rowed w ao L cap) := hR
  have HY : Hid (∀ x ∈ L, 0 ≤ x ∧ x < 256) := hy
  have HNE : Hid (∀ ad, ao = some ad → ad.block < r) := hne
  clear HF hb hR hy hne
  go_enter Try.func72, Try.ntmps72
  go_wp2_with fail
  refine HFF.out.mono ?_
  rintro e w1 ⟨⟨z, k, rfl, hz, hk⟩, rfl⟩
  by_cases hk0 : k = 0
  · subst hk0
    go_wp2_with fail
    refine (rdBad_any r w1 HH.out).mono ?_
    rintro e w2 ⟨rfl, hr2, hk2⟩
    go_wp2_with fail
    go_ret
    exact ⟨⟨0, rfl, inI_lit (by decide) (by decide)⟩, hr2, hk2⟩
  · obtain ⟨gb, go, e1, hcl⟩ := HR.out.at (fun e => by have := HN.out; rw [e] at this; simp at this; omega)
    subst e1
    have hk0' : ¬ (k : Int) = 0 := by omega
    have hne := HNE.out _ rfl
    go_wp2_with fail
    · have h0 : n - k = 0 := by omega
      go_ret
      refine ⟨⟨z, rfl, hz⟩, ⟨some ⟨gb, go, none⟩, [], 0, bad, ?_, .inr ⟨_, rfl, fun j hj => by cases hj⟩, Nat.le_refl _, (fun x hx => by cases hx), by decide, fun ad e => by cases e; exact hne⟩, (Keeps.refl _ _).setCell _ _⟩
      rw [set_blk HB.out, h0]; rfl
    · go_ret
      have hlen : (L.drop k).length = n - k := by rw [List.length_drop, HN.out]
      refine ⟨⟨z, rfl, hz⟩, ⟨some ⟨gb, go + k, none⟩, L.drop k, cap - k, bad, ?_, .inr ⟨_, rfl, fun j hj => ?_⟩, by rw [hlen]; omega, fun x hx => HY.out x (List.mem_of_mem_drop hx), by rw [hlen]; omega, fun ad e => by cases e; exact hne⟩, (Keeps.refl _ _).setCell _ _⟩
      · rw [set_blk HB.out, hlen]; rfl
      · rw [hlen] at hj
        have h1 := hcl (k + j) (by have := HN.out; omega)
        rw [addr_add]
        refine (World.cell?_of_block (Below.heap_setCell _ _ _ _ (Nat.ne_of_lt hne))).trans ?_
        rw [Nat.add_assoc, h1]
        simp [List.getD, List.getElem?_drop]
theorem Rd.setCell {w : World} {r g i : Nat} {v : Value} (h : Rd w r) (hg : r < g) : Rd (w.setCell ⟨g, i, none⟩ v) r := by
  obtain ⟨ao, L, cap, bad, hb, hR, hc, hy, hl, hne⟩ := h
  exact ⟨ao, L, cap, bad, (Below.heap_setCell _ _ _ _ (by simp; omega)).trans hb, hR.same (fun ad e => Below.heap_setCell _ _ _ _ (by have := hne ad e; simp; omega)), hc, hy, hl, hne⟩
/-- four pointers to a mark's numbers -/
def PtrsAt (w : World) (sb g : Nat) : Prop := ∀ j, j < 4 → w.cell? ⟨sb, j, none⟩ = some (.pointer (some ⟨g, j, none⟩))
set_option maxRecDepth 10000 in
set_option maxHeartbeats 2000000 in
theorem rdNums4_any (r sb g : Nat) (a : Nat → Int) (w : World) (h : Rd w r) (hp : PtrsAt w sb g) (hg : w.heap[g]? = some (.cells (row .i64 4 a) 44 (0, 0))) (ha : ∀ j, inI (a j)) (h1 : r < g) (h2 : g < sb) :
    Calls Try.prog 73 #[.pointer (some ⟨r, 0, none⟩), .slice (some ⟨sb, 0, none⟩) 4 4] w fun e w' => e = .returned (.tuple #[]) ∧ Rd w' r ∧ Below r w w' ∧ (∀ k, k < w.heap.size → k ≠ r → k ≠ g → w'.heap[k]? = w.heap[k]?) ∧ ∃ a' : Nat → Int, (∀ j, inI (a' j)) ∧ w'.heap[g]? = some (.cells (row .i64 4 a') 44 (0, 0)) := by
  have HS : Hid (Rd w r ∧ PtrsAt w sb g ∧ w.heap[g]? = some (.cells (row .i64 4 a) 44 (0, 0)) ∧ ∀ j, inI (a j)) := ⟨h, hp, hg, ha⟩
  have hsb : sb < w.heap.size := World.block_lt_of_cell? w _ (hp 0 (by omega))
  clear h hp hg ha
  go_enter Try.func73, Try.ntmps73
  go_wp2_with fail
  go_loopw [9] (fun iv wr => ∃ (i : Nat) (b : Nat → Int), i ≤ 4 ∧ iv = .int .i64 (i : Int) ∧ Hid (Rd wr r ∧ PtrsAt wr sb g ∧ wr.heap[g]? = some (.cells (row .i64 4 b) 44 (0, 0)) ∧ ∀ j, inI (b j)) ∧ Below r w wr ∧ Hid (∀ k, k < w.heap.size → k ≠ r → k ≠ g → wr.heap[k]? = w.heap[k]?)) (fun iv _ => 4 - (intOf iv).toNat)
  case atStart => exact ⟨0, a, by omega, rfl, HS, Below.refl _ _, fun _ _ _ _ => rfl⟩
  case round =>
    clear HS
    obtain ⟨i, b, hi, rfl, HS, hB, HKP⟩ := hrel
    by_cases hlt : i < 4
    · have hlt' : (i : Int) < 4 := by omega
      have hcell := HS.out.2.1 i hlt
      have hrs : r < wr.heap.size := HS.out.1.lt
      go_wp2_with fail
      refine (rdNum_any r wr HS.out.1).mono ?_
      rintro e w1 ⟨⟨z, rfl, hz⟩, hr1, hk1⟩
      have hgb : w1.heap[g]? = some (.cells (row .i64 4 b) 44 (0, 0)) := (hk1.block g (lt_blk HS.out.2.2.1) (by omega)).trans HS.out.2.2.1
      have hc : w1.cell? ⟨g, i, none⟩ = some (.int .i64 (b i)) := (cell_blk hgb _).trans (row_get hlt)
      have hf : w1.frozen? ⟨g, i, none⟩ = false := frozen_blk hgb _
      have HS2 : Hid (Rd (w1.setCell ⟨g, i, none⟩ (.int .i64 z)) r ∧ PtrsAt (w1.setCell ⟨g, i, none⟩ (.int .i64 z)) sb g ∧ (w1.setCell ⟨g, i, none⟩ (.int .i64 z)).heap[g]? = some (.cells (row .i64 4 (put b i z)) 44 (0, 0)) ∧ ∀ j, inI (put b i z j)) := by
        refine ⟨hr1.setCell h1, fun j hj => ?_, by rw [set_blk hgb, row_set], fun j => ?_⟩
        · have h0 := HS.out.2.1 j hj
          have hsb2 : sb < wr.heap.size := World.block_lt_of_cell? wr _ h0
          exact ((World.cell?_of_block (Below.heap_setCell _ _ _ _ (by simp; omega))).trans (hk1.cell (p := ⟨sb, j, none⟩) hsb2 (by simp; omega))).trans h0
        · unfold put
          split
          · exact hz
          · exact HS.out.2.2.2 j
      have hB2 : Below r w (w1.setCell ⟨g, i, none⟩ (.int .i64 z)) := (hB.trans (hk1.below (Nat.le_refl _) (Nat.le_of_lt hrs))).setCell (p := ⟨g, i, none⟩) (by simp; omega) _
      have HKP2 : Hid (∀ k, k < w.heap.size → k ≠ r → k ≠ g → (w1.setCell ⟨g, i, none⟩ (.int .i64 z)).heap[k]? = w.heap[k]?) := fun k hk hkr hkg => ((Below.heap_setCell _ _ _ _ hkg).trans (hk1.block k (Nat.lt_of_lt_of_le hk hB.size) hkr)).trans (HKP.out k hk hkr hkg)
      clear hgb hr1 hk1 HS hcell HKP
      go_wp2_with fail
      exact ⟨⟨i + 1, _, by omega, rfl, HS2, hB2, HKP2⟩, by simp [intOf]; omega⟩
    · obtain rfl : i = 4 := by omega
      go_wp2_with fail
      refine bodyPost_end (v := .tuple #[]) (by simp [results, Try.results73, go_sem]) rfl ?_
      exact ⟨rfl, HS.out.1, hB, HKP.out, b, HS.out.2.2.2, HS.out.2.2.1⟩
set_option maxRecDepth 10000 in
set_option maxHeartbeats 2000000 in
theorem newReader_any (L : List Int) (ao : Option Addr) (cap : Nat) (w : World) (hR : Rowed w ao L cap) (hy : ∀ x ∈ L, 0 ≤ x ∧ x < 256) (hl : L.length < 274877906944) : Calls Try.prog 71 #[.slice ao L.length cap] w fun e w' => ∃ r, e = .returned (.pointer (some ⟨r, 0, none⟩)) ∧ Rd w' r ∧ w.heap.size ≤ r ∧ Below w.heap.size w w' := by
  obtain ⟨n, HN⟩ : ∃ n, Hid (n = L.length) := ⟨_, rfl⟩
  have HB0 : Hid (Below w.heap.size w (w.alloc (.cells #[.slice ao n cap] 22))) := below_alloc _ _
  have hJ := join_any w.heap.size ao n cap 1 L (w.alloc (.cells #[.slice ao n cap] 22)) ((cell_blk (alloc_blk _ _) _).trans rfl) HN.out (hR.below HB0.out (Nat.le_refl _)) (by omega)
  have HJ : Hid (Calls Try.prog 70 #[.slice (some ⟨w.heap.size, 0, none⟩) 1 1] (w.alloc (.cells #[.slice ao n cap] 22)) fun e w' => ∃ v', e = .returned v' ∧ OwnB w' (w.alloc (.cells #[.slice ao n cap] 22)).heap.size v' L ∧ Below (w.alloc (.cells #[.slice ao n cap] 22)).heap.size (w.alloc (.cells #[.slice ao n cap] 22)) w') := hJ
  rw [← HN.out]
  clear hJ hR
  go_enter Try.func71, Try.ntmps71
  go_wp2_with fail
  refine HJ.out.mono ?_
  rintro e w2 ⟨v2, rfl, hO2, hB2⟩
  obtain ⟨ao2, n2, c2, rfl, HF⟩ := hO2.form
  have hW2 : Below w.heap.size w w2 := HB0.out.trans (hB2.mono (by simp))
  have HBL : Hid (∀ ad, ao2 = some ad → ad.block < w2.heap.size) := fun ad e => by
    subst e
    rcases hO2.2 with ⟨e1, _⟩ | ⟨g, cp, cur, e1, _, hgg, _⟩
    · cases e1
    · injection e1 with e1
      injection e1 with e1
      rw [e1]
      exact lt_blk hgg
  have HR2 : Hid (Rowed w2 ao2 L c2 ∧ L.length ≤ c2 ∧ n2 = L.length) := ⟨HF.out.2.2, HF.out.2.1, HF.out.1⟩
  clear HF hO2 hB2 HJ HB0
  go_wp2_with fail
  go_ret
  obtain ⟨hr, hc, hn⟩ := HR2.out
  exact ⟨w2.heap.size, rfl, ⟨ao2, L, c2, false, by rw [← hn]; exact alloc_blk _ _, hr.below (below_alloc _ _) (Nat.le_refl _), hc, hy, hl, fun ad e => HBL.out ad e⟩, hW2.size, hW2.alloc hW2.size _⟩
end Go.Proofs.Ytkjocpadmlobgaa
