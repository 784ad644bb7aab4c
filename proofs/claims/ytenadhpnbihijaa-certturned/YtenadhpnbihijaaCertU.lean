/- CertTurned's walk. For every vote and number. -/
import Derived.Test.YtenadhpnbihijaaRefQ
import Derived.Test.YtenadhpnbihijaaCertK
import Derived.Laws.Bits128
import Derived.Deep.CutRange
namespace Go.Proofs.Ytenadhpnbihijaa
open Go.RowKit Go.Dig Go.Sha Go.Inv Go.Oct

def VoteR.look (z : VoteR) (i : Nat) : Option Value := if i = 0 then some (.int .i64 z.k) else if i = 1 then some (.int .i64 z.s) else if i = 2 then some (.int .i64 z.v) else if i < 35 then some (.int .u8 (z.sum (i - 3))) else if i = 35 then some (.int .i64 z.f) else if i < 68 then some (.int .u8 (z.tag (i - 36))) else none
theorem VoteR.get (z : VoteR) (i : Nat) : z.cells[i]? = z.look i := by
  unfold VoteR.look
  by_cases h0 : i = 0
  · subst h0; rw [if_pos rfl]; exact z.at0
  rw [if_neg h0]
  by_cases h1 : i = 1
  · subst h1; rw [if_pos rfl]; exact z.at1
  rw [if_neg h1]
  by_cases h2 : i = 2
  · subst h2; rw [if_pos rfl]; exact z.at2
  rw [if_neg h2]
  by_cases h3 : i < 35
  · rw [if_pos h3]
    have := z.atSum (j := i - 3) (by omega)
    rwa [show 3 + (i - 3) = i by omega] at this
  rw [if_neg h3]
  by_cases h4 : i = 35
  · subst h4; rw [if_pos rfl]; exact z.at35
  rw [if_neg h4]
  by_cases h5 : i < 68
  · rw [if_pos h5]
    have := z.atTag (j := i - 36) (by omega)
    rwa [show 36 + (i - 36) = i by omega] at this
  rw [if_neg h5, Array.getElem?_eq_none (by rw [z.size]; omega)]
theorem VoteR.set (z z' : VoteR) (j : Nat) (a : Value) (hj : j < 68) (h1 : z'.look j = some a) (h2 : ∀ i, i ≠ j → z'.look i = z.look i) : z.cells.setIfInBounds j a = z'.cells := Array.ext_getElem? fun i => by
  rw [Array.getElem?_setIfInBounds]
  by_cases e : j = i
  · subst e; rw [if_pos rfl, if_pos (by rw [z.size]; exact hj), z'.get, h1]
  · rw [if_neg e, z'.get, z.get]; exact (h2 i (Ne.symm e)).symm
theorem set_k (z : VoteR) (a : Int) : z.cells.setIfInBounds 0 (.int .i64 a) = ({ z with k := a } : VoteR).cells := VoteR.set z _ 0 _ (by decide) (by simp [VoteR.look]) (fun i h => by simp [VoteR.look, h])
theorem set_s (z : VoteR) (a : Int) : z.cells.setIfInBounds 1 (.int .i64 a) = ({ z with s := a } : VoteR).cells := VoteR.set z _ 1 _ (by decide) (by simp [VoteR.look]) (fun i h => by simp [VoteR.look, h])
theorem set_v (z : VoteR) (a : Int) : z.cells.setIfInBounds 2 (.int .i64 a) = ({ z with v := a } : VoteR).cells := VoteR.set z _ 2 _ (by decide) (by simp [VoteR.look]) (fun i h => by simp [VoteR.look, h])
theorem set_f (z : VoteR) (a : Int) : z.cells.setIfInBounds 35 (.int .i64 a) = ({ z with f := a } : VoteR).cells := VoteR.set z _ 35 _ (by decide) (by simp [VoteR.look]) (fun i h => by simp [VoteR.look, h])
theorem set_sum (z : VoteR) (j : Nat) (hj : j < 32) (a : Int) : z.cells.setIfInBounds (3 + j) (.int .u8 a) = ({ z with sum := upd z.sum j a } : VoteR).cells := VoteR.set z _ (3 + j) _ (by omega) (by
  unfold VoteR.look
  rw [if_neg (by omega), if_neg (by omega), if_neg (by omega), if_pos (by omega), show 3 + j - 3 = j by omega]
  simp [upd]) (fun i h => by
  unfold VoteR.look
  by_cases h3 : i < 35
  · by_cases h2 : i < 3
    · have : i = 0 ∨ i = 1 ∨ i = 2 := by omega
      rcases this with rfl | rfl | rfl <;> rfl
    · rw [if_neg (by omega), if_neg (by omega), if_neg (by omega), if_pos h3, if_neg (by omega), if_neg (by omega), if_neg (by omega), if_pos h3]
      show some (Value.int .u8 (upd z.sum j a (i - 3))) = _
      rw [upd_other _ _ (by omega)]
  · simp only [if_neg h3])
theorem set_tag (z : VoteR) (j : Nat) (hj : j < 32) (a : Int) : z.cells.setIfInBounds (36 + j) (.int .u8 a) = ({ z with tag := upd z.tag j a } : VoteR).cells := VoteR.set z _ (36 + j) _ (by omega) (by
  unfold VoteR.look
  rw [if_neg (by omega), if_neg (by omega), if_neg (by omega), if_neg (by omega), if_neg (by omega), if_pos (by omega), show 36 + j - 36 = j by omega]
  simp [upd]) (fun i h => by
  unfold VoteR.look
  by_cases h3 : i < 36
  · by_cases h35 : i = 35
    · subst h35; rfl
    · have h4 : i < 35 := by omega
      simp only [if_pos h4]
  · rw [if_neg (show ¬ i = 0 by omega), if_neg (show ¬ i = 1 by omega), if_neg (show ¬ i = 2 by omega), if_neg (show ¬ i < 35 by omega), if_neg (show ¬ i = 35 by omega), if_neg (show ¬ i = 0 by omega), if_neg (show ¬ i = 1 by omega), if_neg (show ¬ i = 2 by omega), if_neg (show ¬ i < 35 by omega), if_neg (show ¬ i = 35 by omega)]
    by_cases h5 : i < 68
    · rw [if_pos h5, if_pos h5]
      show some (Value.int .u8 (upd z.tag j a (i - 36))) = _
      rw [upd_other _ _ (by omega)]
    · rw [if_neg h5, if_neg h5])
theorem i64_and7 (n : Int) : bits .and .i64 n 7 = n % 8 := by
  have hm : (BitVec.ofInt 64 7).toNat = 2 ^ 3 - 1 := by decide
  have key : (BitVec.ofInt 64 n &&& BitVec.ofInt 64 7).toNat = (n % ((2 ^ 64 : Nat) : Int)).toNat % 2 ^ 3 := by
    rw [BitVec.toNat_and, BitVec.toNat_ofInt, hm, Nat.and_two_pow_sub_one_eq_mod]
  show IntKind.i64.wrap ((BitVec.ofInt 64 n &&& BitVec.ofInt 64 7).toNat : Nat) = n % 8
  rw [key, IntKind.wrap_i64]
  omega
theorem i64_and3 (n : Int) : bits .and .i64 n 3 = n % 4 := by
  have hm : (BitVec.ofInt 64 3).toNat = 2 ^ 2 - 1 := by decide
  have key : (BitVec.ofInt 64 n &&& BitVec.ofInt 64 3).toNat = (n % ((2 ^ 64 : Nat) : Int)).toNat % 2 ^ 2 := by
    rw [BitVec.toNat_and, BitVec.toNat_ofInt, hm, Nat.and_two_pow_sub_one_eq_mod]
  show IntKind.i64.wrap ((BitVec.ofInt 64 n &&& BitVec.ofInt 64 3).toNat : Nat) = n % 4
  rw [key, IntKind.wrap_i64]
  omega
set_option maxRecDepth 10000 in
set_option maxHeartbeats 8000000 in
theorem certTurned_in (x : VoteW) (which : Int) (w : World) (f0 : 0 ≤ x.1.f) (f1 : x.1.f ≤ 3) (k0 : 1 ≤ x.1.k) (k1 : x.1.k ≤ 3) (s0 : 0 ≤ x.1.s) (s1 : x.1.s ≤ 60) (v0 : 0 ≤ x.1.v) (v1 : x.1.v ≤ 7) :
    Calls Try.prog 8 #[.agg x.1.cells, .int .i64 which] w fun e w' => e = .returned (.bool true) ∧ Below w.heap.size w w' := by
  have e0 : ¬ (x.1.f < 0) := by omega
  have e1 : ¬ (3 < x.1.f) := by omega
  have e2 : ¬ (x.1.k < 1) := by omega
  have e3 : ¬ (3 < x.1.k) := by omega
  have e4 : ¬ (x.1.s < 0) := by omega
  have e5 : ¬ (60 < x.1.s) := by omega
  have e6 : ¬ (x.1.v < 0) := by omega
  have e7 : ¬ (7 < x.1.v) := by omega
  have HB0 : Hid ((w.alloc (.cells x.1.cells 26)).heap[w.heap.size]? = some (.cells x.1.cells 26 (0, 0))) := alloc_blk _ _
  have hBa := below_alloc w (.cells x.1.cells 26)
  have c0 : (w.alloc (.cells x.1.cells 26)).cell? ⟨w.heap.size, 0, none⟩ = some (.int .i64 x.1.k) := (cell_blk HB0.out _).trans x.1.at0
  have c1 : (w.alloc (.cells x.1.cells 26)).cell? ⟨w.heap.size, 1, none⟩ = some (.int .i64 x.1.s) := (cell_blk HB0.out _).trans x.1.at1
  have c2 : (w.alloc (.cells x.1.cells 26)).cell? ⟨w.heap.size, 2, none⟩ = some (.int .i64 x.1.v) := (cell_blk HB0.out _).trans x.1.at2
  have c35 : (w.alloc (.cells x.1.cells 26)).cell? ⟨w.heap.size, 35, none⟩ = some (.int .i64 x.1.f) := (cell_blk HB0.out _).trans x.1.at35
  go_enter Try.func8, Try.ntmps8
  go_wp2_with (first | refine wpList_box_row rfl 26 _ rfl _ rfl ?_ | refine wpList_build_to rfl 24 _ rfl (row .u8 32 (oneF 1)) (by kernel_rfl) ?_)
  clear c0 c1 c2 c35
  generalize w.alloc (.cells x.1.cells 26) = w0 at *
  refine (sNew_any 4 (oneF 1) w0 (by decide) (by decide)).mono ?_
  rintro e w1 ⟨rg, rfl, hrg, hR, hB1⟩
  rw [show nodesOf 4 = 4 by decide] at hR
  have HR : Hid (RingV w1 (.pointer (some ⟨rg, 0, none⟩)) ring4) := ⟨rg, rfl, hR⟩
  clear hR
  go_wp2_with (refine wpList_build_to rfl 24 _ rfl (row .u8 32 (oneF 1)) (by kernel_rfl) ?_)
  refine (rNew_any 4 (oneF 1) w1 (by decide) (by decide)).mono ?_
  rintro e w2 ⟨xg, rfl, hxg, hX, hB2⟩
  rw [show nodesOf 4 = 4 by decide] at hX
  have HX2 : Hid (RRing w2 xg (oneF 1) 4) := hX
  have HR2 : Hid (RingV w2 (.pointer (some ⟨rg, 0, none⟩)) ring4) := HR.out.below hB2
  have hB12 : Below w0.heap.size w0 w2 := hB1.trans (hB2.mono hB1.size)
  have HB2 : Hid (w2.heap[w.heap.size]? = some (.cells x.1.cells 26 (0, 0))) := (hB12.block _ (lt_blk HB0.out)).trans HB0.out
  have hBw2 : Below w.heap.size w w2 := hBa.trans (hB12.mono hBa.size)
  clear hX HR hB1 hB2 hB12 HB0 hBa
  have c0 : w2.cell? ⟨w.heap.size, 0, none⟩ = some (.int .i64 x.1.k) := (cell_blk HB2.out _).trans x.1.at0
  have c1 : w2.cell? ⟨w.heap.size, 1, none⟩ = some (.int .i64 x.1.s) := (cell_blk HB2.out _).trans x.1.at1
  have c2 : w2.cell? ⟨w.heap.size, 2, none⟩ = some (.int .i64 x.1.v) := (cell_blk HB2.out _).trans x.1.at2
  have c35 : w2.cell? ⟨w.heap.size, 35, none⟩ = some (.int .i64 x.1.f) := (cell_blk HB2.out _).trans x.1.at35
  have HSU : Hid (HashAt w2 w.heap.size 3 x.1.sum) := by have := (voteAt_blk HB2.out).sum; rwa [Nat.zero_add] at this
  go_wp2_with (refine wpList_load_hashG ?_ _ rfl w.heap.size 3 ?_ x.1.sum ?_ ?_; kernel_rfl; rfl; exact HSU.out)
  refine (cast_any _ ring4 x.1.k x.1.s x.1.v x.1.sum x.1.f w2 HR2.out x.2.1 x.2.2.1 x.2.2.2.1 x.2.2.2.2).mono ?_
  rintro e w3 ⟨rfl, hB3⟩
  have hgd : goodR ring4 (castR ring4 x.1.k x.1.s x.1.v x.1.sum x.1.f) = true := good_cast (by unfold hasB; exact decide_eq_true ⟨by omega, by omega⟩)
  obtain ⟨z, hz⟩ : ∃ z, castW ring4 x.1.k x.1.s x.1.v x.1.sum x.1.f x.2.1 x.2.2.1 x.2.2.2.1 x.2.2.2.2 = z := ⟨_, rfl⟩
  have hz1 : castR ring4 x.1.k x.1.s x.1.v x.1.sum x.1.f = z.1 := by rw [← hz]; rfl
  have HZK : Hid (z.1.k = x.1.k ∧ z.1.s = x.1.s ∧ z.1.v = x.1.v ∧ z.1.f = x.1.f) := by subst hz; exact ⟨rfl, rfl, rfl, rfl⟩
  rw [hz1] at hgd ⊢
  have HGD : Hid (goodR ring4 z.1 = true) := hgd
  have hB34 := below_alloc w3 (.cells z.1.cells 26)
  have hB24 : Below w2.heap.size w2 (w3.alloc (.cells z.1.cells 26)) := hB3.trans (hB34.mono hB3.size)
  have HG4 : Hid ((w3.alloc (.cells z.1.cells 26)).heap[w3.heap.size]? = some (.cells z.1.cells 26 (0, 0))) := alloc_blk _ _
  have HV4 : Hid (VoteAt (w3.alloc (.cells z.1.cells 26)) w3.heap.size 0 z.1) := voteAt_blk HG4.out
  have hg23 : w2.heap.size ≤ w3.heap.size := hB3.size
  clear c0 c1 c2 c35 hz hz1 hgd hB3 hB34 HSU HB2
  go_wp2_with (first | (refine wpList_alloc_vote rfl rfl ?_) | (refine wpList_store_vote rfl _ _ rfl w3 z.1 ?_ ?_ ?_ ?_; rfl; rfl; rfl) | (refine wpList_load_voteG ?_ _ rfl w3.heap.size 0 ?_ z.1 ?_ ?_; kernel_rfl; rfl; exact HV4.out))
  generalize w3.alloc (.cells z.1.cells 26) = w4 at *
  refine (good_any _ ring4 z.1 w4 (HR2.out.below hB24) z.2).mono ?_
  rintro e w5 ⟨rfl, hB5⟩
  rw [HGD.out]
  have hB25 : Below w2.heap.size w2 w5 := hB24.trans (hB5.mono hB24.size)
  have HG5 : Hid (w5.heap[w3.heap.size]? = some (.cells z.1.cells 26 (0, 0))) := (hB5.block _ (lt_blk HG4.out)).trans HG4.out
  obtain ⟨g, hg⟩ : ∃ g, w3.heap.size = g := ⟨_, rfl⟩
  rw [hg] at HG5 hg23 ⊢
  clear hB24 hB5 HG4 HV4 HGD
  obtain ⟨zk, zs, zv, zf⟩ := HZK.out
  have d0 : w5.cell? ⟨g, 0, none⟩ = some (.int .i64 x.1.k) := by rw [← zk]; exact (cell_blk HG5.out _).trans z.1.at0
  have d1 : w5.cell? ⟨g, 1, none⟩ = some (.int .i64 x.1.s) := by rw [← zs]; exact (cell_blk HG5.out _).trans z.1.at1
  have d2 : w5.cell? ⟨g, 2, none⟩ = some (.int .i64 x.1.v) := by rw [← zv]; exact (cell_blk HG5.out _).trans z.1.at2
  have d35 : w5.cell? ⟨g, 35, none⟩ = some (.int .i64 x.1.f) := by rw [← zf]; exact (cell_blk HG5.out _).trans z.1.at35
  have d3 : w5.cell? ⟨g, 3, none⟩ = some (.int .u8 (z.1.sum 0)) := (cell_blk HG5.out _).trans (z.1.atSum (j := 0) (by decide))
  have fr : ∀ j, w5.frozen? ⟨g, j, none⟩ = false := fun j => frozen_blk HG5.out j
  have ha7 := i64_and7 which
  have ha3 := i64_and3 (x.1.f + 1)
  clear zk zs zv zf
  have hway : which % 8 = 0 ∨ which % 8 = 1 ∨ which % 8 = 2 ∨ which % 8 = 3 ∨ which % 8 = 4 ∨ (¬ which % 8 = 0 ∧ ¬ which % 8 = 1 ∧ ¬ which % 8 = 2 ∧ ¬ which % 8 = 3 ∧ ¬ which % 8 = 4) := by omega
  rcases hway with q | q | q | q | q | ⟨q0, q1, q2, q3, q4⟩
  · go_upto_region 21 with fail
    obtain ⟨z', HZ'⟩ : ∃ z' : VoteW, Hid (z'.1.cells = z.1.cells.setIfInBounds (0) (.int .i64 (x.1.k % 3 + 1))) := ⟨⟨{ z.1 with k := x.1.k % 3 + 1 }, ⟨show inI (x.1.k % 3 + 1) from ⟨by omega, by omega⟩, z.2.2.1, z.2.2.2.1, z.2.2.2.2⟩⟩, (set_k z.1 _).symm⟩
    have HG6 : Hid ((w5.setCell ⟨g, 0, none⟩ (.int .i64 (x.1.k % 3 + 1))).heap[g]? = some (.cells z'.1.cells 26 (0, 0))) := by
      show _ = _
      rw [HZ'.out]
      exact set_blk HG5.out _ _
    have hB6 : Below w2.heap.size w2 (w5.setCell ⟨g, 0, none⟩ (.int .i64 (x.1.k % 3 + 1))) := hB25.setCell (p := ⟨g, 0, none⟩) hg23 _
    clear d0 d1 d2 d3 d35 fr HG5 hB25 HZK HZ'
    generalize w5.setCell ⟨g, 0, none⟩ (.int .i64 (x.1.k % 3 + 1)) = w6 at *
    have hBw6 : Below w.heap.size w w6 := hBw2.trans (hB6.mono hBw2.size)
    have HV6 : Hid (VoteAt w6 g 0 z'.1) := voteAt_blk HG6.out
    go_wp2_with (refine wpList_load_voteG ?_ _ rfl g 0 ?_ z'.1 ?_ ?_; kernel_rfl; rfl; exact HV6.out)
    refine (good_any _ ring4 z'.1 w6 (HR2.out.below hB6) z'.2).mono ?_
    rintro e w7 ⟨rfl, hB7⟩
    have hB27 : Below w2.heap.size w2 w7 := hB6.trans (hB7.mono hB6.size)
    have hBw7 : Below w.heap.size w w7 := hBw6.trans (hB7.mono hBw6.size)
    have HV7 : Hid (VoteAt w7 g 0 z'.1) := HV6.out.same (hB7.block _ (lt_blk HG6.out))
    clear hB7 hBw6 HV6 HG6 hB6
    cases hgd : goodR ring4 z'.1
    · go_wp2_with fail
      refine (known6_any w7).mono ?_
      rintro e w8 ⟨rfl, hB8⟩
      have hBw8 : Below w.heap.size w w8 := hBw7.trans (hB8.mono hBw7.size)
      clear hB8
      go_wp2_with fail
      go_ret
      exact ⟨rfl, hBw8⟩
    · go_wp2_with (refine wpList_load_voteG ?_ _ rfl g 0 ?_ z'.1 ?_ ?_; kernel_rfl; rfl; exact HV7.out)
      refine (rGood_any xg 4 (oneF 1) z'.1 w7 (HX2.out.below hB27) z'.2).mono ?_
      rintro e w8 ⟨rfl, hB8⟩
      have hgd' : goodR (some (oneF 1, 4)) z'.1 = true := hgd
      rw [hgd']
      have hBw8 : Below w.heap.size w w8 := hBw7.trans (hB8.mono hBw7.size)
      clear hB8
      go_wp2_with fail
      refine (known6_any w8).mono ?_
      rintro e w9 ⟨rfl, hB9⟩
      have hBw9 : Below w.heap.size w w9 := hBw8.trans (hB9.mono hBw8.size)
      clear hB9
      go_wp2_with fail
      go_ret
      exact ⟨rfl, hBw9⟩
  · go_upto_region 21 with fail
    obtain ⟨z', HZ'⟩ : ∃ z' : VoteW, Hid (z'.1.cells = z.1.cells.setIfInBounds (1) (.int .i64 (x.1.s + 1))) := ⟨⟨{ z.1 with s := x.1.s + 1 }, ⟨z.2.1, show inI (x.1.s + 1) from ⟨by omega, by omega⟩, z.2.2.2.1, z.2.2.2.2⟩⟩, (set_s z.1 _).symm⟩
    have HG6 : Hid ((w5.setCell ⟨g, 1, none⟩ (.int .i64 (x.1.s + 1))).heap[g]? = some (.cells z'.1.cells 26 (0, 0))) := by
      show _ = _
      rw [HZ'.out]
      exact set_blk HG5.out _ _
    have hB6 : Below w2.heap.size w2 (w5.setCell ⟨g, 1, none⟩ (.int .i64 (x.1.s + 1))) := hB25.setCell (p := ⟨g, 1, none⟩) hg23 _
    clear d0 d1 d2 d3 d35 fr HG5 hB25 HZK HZ'
    generalize w5.setCell ⟨g, 1, none⟩ (.int .i64 (x.1.s + 1)) = w6 at *
    have hBw6 : Below w.heap.size w w6 := hBw2.trans (hB6.mono hBw2.size)
    have HV6 : Hid (VoteAt w6 g 0 z'.1) := voteAt_blk HG6.out
    go_wp2_with (refine wpList_load_voteG ?_ _ rfl g 0 ?_ z'.1 ?_ ?_; kernel_rfl; rfl; exact HV6.out)
    refine (good_any _ ring4 z'.1 w6 (HR2.out.below hB6) z'.2).mono ?_
    rintro e w7 ⟨rfl, hB7⟩
    have hB27 : Below w2.heap.size w2 w7 := hB6.trans (hB7.mono hB6.size)
    have hBw7 : Below w.heap.size w w7 := hBw6.trans (hB7.mono hBw6.size)
    have HV7 : Hid (VoteAt w7 g 0 z'.1) := HV6.out.same (hB7.block _ (lt_blk HG6.out))
    clear hB7 hBw6 HV6 HG6 hB6
    cases hgd : goodR ring4 z'.1
    · go_wp2_with fail
      refine (known6_any w7).mono ?_
      rintro e w8 ⟨rfl, hB8⟩
      have hBw8 : Below w.heap.size w w8 := hBw7.trans (hB8.mono hBw7.size)
      clear hB8
      go_wp2_with fail
      go_ret
      exact ⟨rfl, hBw8⟩
    · go_wp2_with (refine wpList_load_voteG ?_ _ rfl g 0 ?_ z'.1 ?_ ?_; kernel_rfl; rfl; exact HV7.out)
      refine (rGood_any xg 4 (oneF 1) z'.1 w7 (HX2.out.below hB27) z'.2).mono ?_
      rintro e w8 ⟨rfl, hB8⟩
      have hgd' : goodR (some (oneF 1, 4)) z'.1 = true := hgd
      rw [hgd']
      have hBw8 : Below w.heap.size w w8 := hBw7.trans (hB8.mono hBw7.size)
      clear hB8
      go_wp2_with fail
      refine (known6_any w8).mono ?_
      rintro e w9 ⟨rfl, hB9⟩
      have hBw9 : Below w.heap.size w w9 := hBw8.trans (hB9.mono hBw8.size)
      clear hB9
      go_wp2_with fail
      go_ret
      exact ⟨rfl, hBw9⟩
  · go_upto_region 21 with fail
    obtain ⟨z', HZ'⟩ : ∃ z' : VoteW, Hid (z'.1.cells = z.1.cells.setIfInBounds (2) (.int .i64 (x.1.v + 1))) := ⟨⟨{ z.1 with v := x.1.v + 1 }, ⟨z.2.1, z.2.2.1, show inI (x.1.v + 1) from ⟨by omega, by omega⟩, z.2.2.2.2⟩⟩, (set_v z.1 _).symm⟩
    have HG6 : Hid ((w5.setCell ⟨g, 2, none⟩ (.int .i64 (x.1.v + 1))).heap[g]? = some (.cells z'.1.cells 26 (0, 0))) := by
      show _ = _
      rw [HZ'.out]
      exact set_blk HG5.out _ _
    have hB6 : Below w2.heap.size w2 (w5.setCell ⟨g, 2, none⟩ (.int .i64 (x.1.v + 1))) := hB25.setCell (p := ⟨g, 2, none⟩) hg23 _
    clear d0 d1 d2 d3 d35 fr HG5 hB25 HZK HZ'
    generalize w5.setCell ⟨g, 2, none⟩ (.int .i64 (x.1.v + 1)) = w6 at *
    have hBw6 : Below w.heap.size w w6 := hBw2.trans (hB6.mono hBw2.size)
    have HV6 : Hid (VoteAt w6 g 0 z'.1) := voteAt_blk HG6.out
    go_wp2_with (refine wpList_load_voteG ?_ _ rfl g 0 ?_ z'.1 ?_ ?_; kernel_rfl; rfl; exact HV6.out)
    refine (good_any _ ring4 z'.1 w6 (HR2.out.below hB6) z'.2).mono ?_
    rintro e w7 ⟨rfl, hB7⟩
    have hB27 : Below w2.heap.size w2 w7 := hB6.trans (hB7.mono hB6.size)
    have hBw7 : Below w.heap.size w w7 := hBw6.trans (hB7.mono hBw6.size)
    have HV7 : Hid (VoteAt w7 g 0 z'.1) := HV6.out.same (hB7.block _ (lt_blk HG6.out))
    clear hB7 hBw6 HV6 HG6 hB6
    cases hgd : goodR ring4 z'.1
    · go_wp2_with fail
      refine (known6_any w7).mono ?_
      rintro e w8 ⟨rfl, hB8⟩
      have hBw8 : Below w.heap.size w w8 := hBw7.trans (hB8.mono hBw7.size)
      clear hB8
      go_wp2_with fail
      go_ret
      exact ⟨rfl, hBw8⟩
    · go_wp2_with (refine wpList_load_voteG ?_ _ rfl g 0 ?_ z'.1 ?_ ?_; kernel_rfl; rfl; exact HV7.out)
      refine (rGood_any xg 4 (oneF 1) z'.1 w7 (HX2.out.below hB27) z'.2).mono ?_
      rintro e w8 ⟨rfl, hB8⟩
      have hgd' : goodR (some (oneF 1, 4)) z'.1 = true := hgd
      rw [hgd']
      have hBw8 : Below w.heap.size w w8 := hBw7.trans (hB8.mono hBw7.size)
      clear hB8
      go_wp2_with fail
      refine (known6_any w8).mono ?_
      rintro e w9 ⟨rfl, hB9⟩
      have hBw9 : Below w.heap.size w w9 := hBw8.trans (hB9.mono hBw8.size)
      clear hB9
      go_wp2_with fail
      go_ret
      exact ⟨rfl, hBw9⟩
  · go_upto_region 21 with fail
    obtain ⟨z', HZ'⟩ : ∃ z' : VoteW, Hid (z'.1.cells = z.1.cells.setIfInBounds (3) (.int .u8 (bits BinOp.xor IntKind.u8 (z.1.sum 0) 1))) := ⟨⟨{ z.1 with sum := upd z.1.sum 0 (bits BinOp.xor IntKind.u8 (z.1.sum 0) 1) }, ⟨z.2.1, z.2.2.1, z.2.2.2.1, z.2.2.2.2⟩⟩, (set_sum z.1 0 (by decide) _).symm⟩
    have HG6 : Hid ((w5.setCell ⟨g, 3, none⟩ (.int .u8 (bits BinOp.xor IntKind.u8 (z.1.sum 0) 1))).heap[g]? = some (.cells z'.1.cells 26 (0, 0))) := by
      show _ = _
      rw [HZ'.out]
      exact set_blk HG5.out _ _
    have hB6 : Below w2.heap.size w2 (w5.setCell ⟨g, 3, none⟩ (.int .u8 (bits BinOp.xor IntKind.u8 (z.1.sum 0) 1))) := hB25.setCell (p := ⟨g, 3, none⟩) hg23 _
    clear d0 d1 d2 d3 d35 fr HG5 hB25 HZK HZ'
    generalize w5.setCell ⟨g, 3, none⟩ (.int .u8 (bits BinOp.xor IntKind.u8 (z.1.sum 0) 1)) = w6 at *
    have hBw6 : Below w.heap.size w w6 := hBw2.trans (hB6.mono hBw2.size)
    have HV6 : Hid (VoteAt w6 g 0 z'.1) := voteAt_blk HG6.out
    go_wp2_with (refine wpList_load_voteG ?_ _ rfl g 0 ?_ z'.1 ?_ ?_; kernel_rfl; rfl; exact HV6.out)
    refine (good_any _ ring4 z'.1 w6 (HR2.out.below hB6) z'.2).mono ?_
    rintro e w7 ⟨rfl, hB7⟩
    have hB27 : Below w2.heap.size w2 w7 := hB6.trans (hB7.mono hB6.size)
    have hBw7 : Below w.heap.size w w7 := hBw6.trans (hB7.mono hBw6.size)
    have HV7 : Hid (VoteAt w7 g 0 z'.1) := HV6.out.same (hB7.block _ (lt_blk HG6.out))
    clear hB7 hBw6 HV6 HG6 hB6
    cases hgd : goodR ring4 z'.1
    · go_wp2_with fail
      refine (known6_any w7).mono ?_
      rintro e w8 ⟨rfl, hB8⟩
      have hBw8 : Below w.heap.size w w8 := hBw7.trans (hB8.mono hBw7.size)
      clear hB8
      go_wp2_with fail
      go_ret
      exact ⟨rfl, hBw8⟩
    · go_wp2_with (refine wpList_load_voteG ?_ _ rfl g 0 ?_ z'.1 ?_ ?_; kernel_rfl; rfl; exact HV7.out)
      refine (rGood_any xg 4 (oneF 1) z'.1 w7 (HX2.out.below hB27) z'.2).mono ?_
      rintro e w8 ⟨rfl, hB8⟩
      have hgd' : goodR (some (oneF 1, 4)) z'.1 = true := hgd
      rw [hgd']
      have hBw8 : Below w.heap.size w w8 := hBw7.trans (hB8.mono hBw7.size)
      clear hB8
      go_wp2_with fail
      refine (known6_any w8).mono ?_
      rintro e w9 ⟨rfl, hB9⟩
      have hBw9 : Below w.heap.size w w9 := hBw8.trans (hB9.mono hBw8.size)
      clear hB9
      go_wp2_with fail
      go_ret
      exact ⟨rfl, hBw9⟩
  · go_upto_region 21 with fail
    obtain ⟨z', HZ'⟩ : ∃ z' : VoteW, Hid (z'.1.cells = z.1.cells.setIfInBounds (35) (.int .i64 ((x.1.f + 1) % 4))) := ⟨⟨{ z.1 with f := (x.1.f + 1) % 4 }, ⟨z.2.1, z.2.2.1, z.2.2.2.1, show inI ((x.1.f + 1) % 4) from ⟨by omega, by omega⟩⟩⟩, (set_f z.1 _).symm⟩
    have HG6 : Hid ((w5.setCell ⟨g, 35, none⟩ (.int .i64 ((x.1.f + 1) % 4))).heap[g]? = some (.cells z'.1.cells 26 (0, 0))) := by
      show _ = _
      rw [HZ'.out]
      exact set_blk HG5.out _ _
    have hB6 : Below w2.heap.size w2 (w5.setCell ⟨g, 35, none⟩ (.int .i64 ((x.1.f + 1) % 4))) := hB25.setCell (p := ⟨g, 35, none⟩) hg23 _
    clear d0 d1 d2 d3 d35 fr HG5 hB25 HZK HZ'
    generalize w5.setCell ⟨g, 35, none⟩ (.int .i64 ((x.1.f + 1) % 4)) = w6 at *
    have hBw6 : Below w.heap.size w w6 := hBw2.trans (hB6.mono hBw2.size)
    have HV6 : Hid (VoteAt w6 g 0 z'.1) := voteAt_blk HG6.out
    go_wp2_with (refine wpList_load_voteG ?_ _ rfl g 0 ?_ z'.1 ?_ ?_; kernel_rfl; rfl; exact HV6.out)
    refine (good_any _ ring4 z'.1 w6 (HR2.out.below hB6) z'.2).mono ?_
    rintro e w7 ⟨rfl, hB7⟩
    have hB27 : Below w2.heap.size w2 w7 := hB6.trans (hB7.mono hB6.size)
    have hBw7 : Below w.heap.size w w7 := hBw6.trans (hB7.mono hBw6.size)
    have HV7 : Hid (VoteAt w7 g 0 z'.1) := HV6.out.same (hB7.block _ (lt_blk HG6.out))
    clear hB7 hBw6 HV6 HG6 hB6
    cases hgd : goodR ring4 z'.1
    · go_wp2_with fail
      refine (known6_any w7).mono ?_
      rintro e w8 ⟨rfl, hB8⟩
      have hBw8 : Below w.heap.size w w8 := hBw7.trans (hB8.mono hBw7.size)
      clear hB8
      go_wp2_with fail
      go_ret
      exact ⟨rfl, hBw8⟩
    · go_wp2_with (refine wpList_load_voteG ?_ _ rfl g 0 ?_ z'.1 ?_ ?_; kernel_rfl; rfl; exact HV7.out)
      refine (rGood_any xg 4 (oneF 1) z'.1 w7 (HX2.out.below hB27) z'.2).mono ?_
      rintro e w8 ⟨rfl, hB8⟩
      have hgd' : goodR (some (oneF 1, 4)) z'.1 = true := hgd
      rw [hgd']
      have hBw8 : Below w.heap.size w w8 := hBw7.trans (hB8.mono hBw7.size)
      clear hB8
      go_wp2_with fail
      refine (known6_any w8).mono ?_
      rintro e w9 ⟨rfl, hB9⟩
      have hBw9 : Below w.heap.size w w9 := hBw8.trans (hB9.mono hBw8.size)
      clear hB9
      go_wp2_with fail
      go_ret
      exact ⟨rfl, hBw9⟩
  · obtain ⟨m, hm, hm32⟩ : ∃ m : Nat, bits .and .i64 which 31 = (m : Int) ∧ m < 32 := ⟨(which % 32).toNat, by rw [i64_and31]; omega, by omega⟩
    have d36 : w5.cell? ⟨g, 36 + m, none⟩ = some (.int .u8 (z.1.tag m)) := (cell_blk HG5.out _).trans (z.1.atTag hm32)
    go_upto_region 21 with fail
    obtain ⟨z', HZ'⟩ : ∃ z' : VoteW, Hid (z'.1.cells = z.1.cells.setIfInBounds (36 + m) (.int .u8 (bits BinOp.xor IntKind.u8 (z.1.tag m) 1))) := ⟨⟨{ z.1 with tag := upd z.1.tag m (bits BinOp.xor IntKind.u8 (z.1.tag m) 1) }, ⟨z.2.1, z.2.2.1, z.2.2.2.1, z.2.2.2.2⟩⟩, (set_tag z.1 m hm32 _).symm⟩
    have HG6 : Hid ((w5.setCell ⟨g, 36 + m, none⟩ (.int .u8 (bits BinOp.xor IntKind.u8 (z.1.tag m) 1))).heap[g]? = some (.cells z'.1.cells 26 (0, 0))) := by
      show _ = _
      rw [HZ'.out]
      exact set_blk HG5.out _ _
    have hB6 : Below w2.heap.size w2 (w5.setCell ⟨g, 36 + m, none⟩ (.int .u8 (bits BinOp.xor IntKind.u8 (z.1.tag m) 1))) := hB25.setCell (p := ⟨g, 36 + m, none⟩) hg23 _
    clear d0 d1 d2 d3 d35 d36 fr HG5 hB25 HZK HZ'
    generalize w5.setCell ⟨g, 36 + m, none⟩ (.int .u8 (bits BinOp.xor IntKind.u8 (z.1.tag m) 1)) = w6 at *
    have hBw6 : Below w.heap.size w w6 := hBw2.trans (hB6.mono hBw2.size)
    have HV6 : Hid (VoteAt w6 g 0 z'.1) := voteAt_blk HG6.out
    go_wp2_with (refine wpList_load_voteG ?_ _ rfl g 0 ?_ z'.1 ?_ ?_; kernel_rfl; rfl; exact HV6.out)
    refine (good_any _ ring4 z'.1 w6 (HR2.out.below hB6) z'.2).mono ?_
    rintro e w7 ⟨rfl, hB7⟩
    have hB27 : Below w2.heap.size w2 w7 := hB6.trans (hB7.mono hB6.size)
    have hBw7 : Below w.heap.size w w7 := hBw6.trans (hB7.mono hBw6.size)
    have HV7 : Hid (VoteAt w7 g 0 z'.1) := HV6.out.same (hB7.block _ (lt_blk HG6.out))
    clear hB7 hBw6 HV6 HG6 hB6
    cases hgd : goodR ring4 z'.1
    · go_wp2_with fail
      refine (known6_any w7).mono ?_
      rintro e w8 ⟨rfl, hB8⟩
      have hBw8 : Below w.heap.size w w8 := hBw7.trans (hB8.mono hBw7.size)
      clear hB8
      go_wp2_with fail
      go_ret
      exact ⟨rfl, hBw8⟩
    · go_wp2_with (refine wpList_load_voteG ?_ _ rfl g 0 ?_ z'.1 ?_ ?_; kernel_rfl; rfl; exact HV7.out)
      refine (rGood_any xg 4 (oneF 1) z'.1 w7 (HX2.out.below hB27) z'.2).mono ?_
      rintro e w8 ⟨rfl, hB8⟩
      have hgd' : goodR (some (oneF 1, 4)) z'.1 = true := hgd
      rw [hgd']
      have hBw8 : Below w.heap.size w w8 := hBw7.trans (hB8.mono hBw7.size)
      clear hB8
      go_wp2_with fail
      refine (known6_any w8).mono ?_
      rintro e w9 ⟨rfl, hB9⟩
      have hBw9 : Below w.heap.size w w9 := hBw8.trans (hB9.mono hBw8.size)
      clear hB9
      go_wp2_with fail
      go_ret
      exact ⟨rfl, hBw9⟩
set_option maxRecDepth 10000 in
set_option maxHeartbeats 4000000 in
theorem certTurned_any (x : VoteW) (which : Int) (w : World) : Calls Try.prog 8 #[.agg x.1.cells, .int .i64 which] w fun e w' => e = .returned (.bool true) ∧ Below w.heap.size w w' := by
  have HB0 : Hid ((w.alloc (.cells x.1.cells 26)).heap[w.heap.size]? = some (.cells x.1.cells 26 (0, 0))) := alloc_blk _ _
  have hBa := below_alloc w (.cells x.1.cells 26)
  have c0 : (w.alloc (.cells x.1.cells 26)).cell? ⟨w.heap.size, 0, none⟩ = some (.int .i64 x.1.k) := (cell_blk HB0.out _).trans x.1.at0
  have c1 : (w.alloc (.cells x.1.cells 26)).cell? ⟨w.heap.size, 1, none⟩ = some (.int .i64 x.1.s) := (cell_blk HB0.out _).trans x.1.at1
  have c2 : (w.alloc (.cells x.1.cells 26)).cell? ⟨w.heap.size, 2, none⟩ = some (.int .i64 x.1.v) := (cell_blk HB0.out _).trans x.1.at2
  have c35 : (w.alloc (.cells x.1.cells 26)).cell? ⟨w.heap.size, 35, none⟩ = some (.int .i64 x.1.f) := (cell_blk HB0.out _).trans x.1.at35
  by_cases z0 : x.1.f < 0
  · go_enter Try.func8, Try.ntmps8
    go_wp2_with (refine wpList_box_row rfl 26 _ rfl _ rfl ?_)
    go_ret
    exact ⟨rfl, hBa⟩
  by_cases z1 : 3 < x.1.f
  · go_enter Try.func8, Try.ntmps8
    go_wp2_with (refine wpList_box_row rfl 26 _ rfl _ rfl ?_)
    go_ret
    exact ⟨rfl, hBa⟩
  by_cases z2 : x.1.k < 1
  · go_enter Try.func8, Try.ntmps8
    go_wp2_with (refine wpList_box_row rfl 26 _ rfl _ rfl ?_)
    go_ret
    exact ⟨rfl, hBa⟩
  by_cases z3 : 3 < x.1.k
  · go_enter Try.func8, Try.ntmps8
    go_wp2_with (refine wpList_box_row rfl 26 _ rfl _ rfl ?_)
    go_ret
    exact ⟨rfl, hBa⟩
  by_cases z4 : x.1.s < 0
  · go_enter Try.func8, Try.ntmps8
    go_wp2_with (refine wpList_box_row rfl 26 _ rfl _ rfl ?_)
    go_ret
    exact ⟨rfl, hBa⟩
  by_cases z5 : 60 < x.1.s
  · go_enter Try.func8, Try.ntmps8
    go_wp2_with (refine wpList_box_row rfl 26 _ rfl _ rfl ?_)
    go_ret
    exact ⟨rfl, hBa⟩
  by_cases z6 : x.1.v < 0
  · go_enter Try.func8, Try.ntmps8
    go_wp2_with (refine wpList_box_row rfl 26 _ rfl _ rfl ?_)
    go_ret
    exact ⟨rfl, hBa⟩
  by_cases z7 : 7 < x.1.v
  · go_enter Try.func8, Try.ntmps8
    go_wp2_with (refine wpList_box_row rfl 26 _ rfl _ rfl ?_)
    go_ret
    exact ⟨rfl, hBa⟩
  clear c0 c1 c2 c35 HB0 hBa
  exact certTurned_in x which w (by omega) (by omega) (by omega) (by omega) (by omega) (by omega) (by omega) (by omega)
end Go.Proofs.Ytenadhpnbihijaa
