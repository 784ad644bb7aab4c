/- The document's marks out of bytes. For rows of up to 2^30 bytes. -/
import Derived.Test.YtkjocpadmlobgaaWireRm
import Derived.Test.YtkjocpadmlobgaaWireDm
import Derived.Test.YtkjocpadmlobgaaRefM
namespace Go.Proofs.Ytkjocpadmlobgaa
open Go.RowKit Go.Dig Go.Inv Go.Oct
set_option linter.unusedVariables false

set_option maxRecDepth 10000 in
set_option maxHeartbeats 1000000 in
theorem rrWhole_str (r : Nat) (L : List Int) (er : Bool) (w : World) (h : RdR w r L er) : Calls Try.prog 50 #[.pointer (some ⟨r, 0, none⟩)] w fun e w' => e = .returned (.bool (!er && decide (L = []))) ∧ w' = w := by
  obtain ⟨ao, cap, hb, -, -, -, -, -, -⟩ := h
  obtain ⟨n, hn⟩ : ∃ n, L.length = n := ⟨_, rfl⟩
  have hd : decide (L = []) = decide (n = 0) := by rw [← hn]; simp
  rw [hd]
  rw [hn] at hb
  have c1 : w.cell? ⟨r, 1, none⟩ = some (.bool er) := (cell_blk hb _).trans rfl
  have c0 : w.cell? ⟨r, 0, none⟩ = some (.slice ao n cap) := (cell_blk hb _).trans rfl
  clear hb hd hn
  go_enter Try.func50, Try.ntmps50
  cases er
  · by_cases h0 : n = 0
    · subst h0
      go_wp2_with fail
      go_ret
      exact ⟨rfl, rfl⟩
    · have h0' : ¬ (n : Int) = 0 := by omega
      go_wp2_with fail
      go_ret
      simp [h0]
  · go_wp2_with fail
    go_ret
    exact ⟨rfl, rfl⟩
theorem rkNone {B L : List Int} {er : Bool} {b : Nat → Int} (h : ∀ k p e t, markB k p e t = true → encMark k p e t = B → b 0 = k ∧ b 1 = p ∧ b 2 = e ∧ b 3 = t ∧ L = [] ∧ er = false)
    (hn : (L = [] → er = false → False) ∨ markB (b 0) (b 1) (b 2) (b 3) = false ∨ ¬ encMark (b 0) (b 1) (b 2) (b 3) = B) : DecMark B (.returned (.tuple #[.agg (markC (fun _ => 0)), .int .i64 2])) :=
  ⟨fun _ => 0, 2, rfl, .inr ⟨rfl, rfl, fun k p e t ho hE => by
    obtain ⟨h0, h1, h2, h3, h4, h5⟩ := h _ _ _ _ ho hE
    rw [h0, h1, h2, h3] at hn
    rcases hn with hn | hn | hn
    · exact hn h4 h5
    · rw [ho] at hn; cases hn
    · exact hn hE⟩⟩
theorem mark_sep {B : List Int} {k p e t : Int} (hE : encMark k p e t = B) : B = num 3 ++ (nums [k, p, e, t] ++ []) := by
  rw [← hE]
  unfold encMark
  simp only [nums_cons, nums_nil, List.append_nil]
theorem set_mark {w : World} {g : Nat} {a : Nat → Int} {t : TypeId} (hg : w.heap[g]? = some (.cells (markC a) t (0, 0))) (i : Nat) (z : Int) (hi : i = 1 ∨ i = 2 ∨ i = 3) : (w.setCell ⟨g, i, none⟩ (.int .i64 z)).heap[g]? = some (.cells (markC (put a i z)) t (0, 0)) := by
  refine (set_blk hg _ _).trans ?_
  rcases hi with rfl | rfl | rfl <;> simp [markC, put]
set_option maxRecDepth 10000 in
set_option maxHeartbeats 8000000 in
theorem rdMark_str (B : List Int) (ao : Option Addr) (cap : Nat) (w : World) (hR : Rowed w ao B cap) (hy : ∀ x ∈ B, 0 ≤ x ∧ x < 256) (hl : B.length < 1073741824) (hc : B.length ≤ cap) :
    Calls Try.prog 24 #[.slice ao B.length cap] w fun e w' => DecMark B e ∧ Below w.heap.size w w' := by
  have HR : Hid (Rowed w ao B cap) := hR
  have HY : Hid (ByteL B) := hy
  have HB2 : Hid (Below w.heap.size w ((w.alloc (.cells (markC (fun _ => 0)) 44)).alloc (.cells #[.slice ao B.length cap, .bool false] 86))) := ((Below.refl _ _).alloc (Nat.le_refl _) _).alloc (by simp) _
  have H0 : Hid (((w.alloc (.cells (markC (fun _ => 0)) 44)).alloc (.cells #[.slice ao B.length cap, .bool false] 86)).heap[w.heap.size]? = some (.cells (markC (fun _ => 0)) 44 (0, 0))) := alloc_blk_old (alloc_blk _ _) _
  have HRR : Hid (RdR ((w.alloc (.cells (markC (fun _ => 0)) 44)).alloc (.cells #[.slice ao B.length cap, .bool false] 86)) (w.heap.size + 1) B false) := by
    have h1 : (w.alloc (.cells (markC (fun _ => 0)) 44)).heap.size = w.heap.size + 1 := by simp
    have hb := alloc_blk (w.alloc (.cells (markC (fun _ => 0)) 44)) (.cells #[.slice ao B.length cap, .bool false] 86)
    rw [h1] at hb
    refine ⟨ao, cap, hb, hR.below HB2.out (Nat.le_refl _), hc, hy, by omega, fun ad e hne => ?_, (fun e => by cases e)⟩
    obtain ⟨gb, go, e1, hcl⟩ := hR.at hne
    rw [e1] at e
    cases e
    have := World.block_lt_of_cell? w _ (hcl 0 (List.length_pos_iff.2 hne))
    exact ⟨by simp at this ⊢; omega, rfl⟩
  obtain ⟨n, HN⟩ : ∃ n, Hid (B.length = n) := ⟨_, rfl⟩
  rw [HN.out] at HB2 H0 HRR ⊢
  clear hR hy hc
  go_enter Try.func24, Try.ntmps24
  go_wp2_with fail
  change Calls _ _ _ ((w.alloc (.cells (markC (fun _ => 0)) 44)).alloc (.cells #[.slice ao n cap, .bool false] 86)) _
  generalize (w.alloc (.cells (markC (fun _ => 0)) 44)).alloc (.cells #[.slice ao n cap, .bool false] 86) = w0 at *
  refine (rrNum_str (w.heap.size + 1) B false w0 HRR.out).mono ?_
  rintro e w1 ⟨⟨z, rfl, -, -, L1, er1, hr1, ht1, hl1⟩, hk1⟩
  have hlt0 := HRR.out.lt
  have H1 : Hid (w1.heap[w.heap.size]? = some (.cells (markC (fun _ => 0)) 44 (0, 0))) := (hk1.block _ (by omega) (by omega)).trans H0.out
  have HW1 : Hid (Below w.heap.size w w1) := HB2.out.trans (hk1.below (by omega) (by omega))
  by_cases hz : z = 3
  · subst hz
    have HRX : Hid (RdR w1 (w.heap.size + 1) L1 er1) := hr1
    have HSX : Hid (∀ k p e t, markB k p e t = true → encMark k p e t = B → L1 = nums [k, p, e, t] ++ [] ∧ er1 = false) := fun k p e t _ hE => (ht1.one ⟨by decide, by decide⟩ (mark_sep hE)).2
    clear hr1 ht1 hl1 hk1 HB2 H0 HRR hlt0
    go_wp2_with fail
    refine (rrNum_str (w.heap.size + 1) L1 er1 w1 HRX.out).mono ?_
    rintro e w2 ⟨⟨a0, rfl, i0, -, L2, er2, hr2, ht2, -⟩, hk2⟩
    have hlt1 := HRX.out.lt
    have H2 : Hid (w2.heap[w.heap.size]? = some (.cells (markC (fun _ => 0)) 44 (0, 0))) := (hk2.block _ (by omega) (by omega)).trans H1.out
    have HW2 : Hid (Below w.heap.size w w2) := HW1.out.trans (hk2.below (by omega) (by omega))
    have HR2 : Hid (RdR w2 (w.heap.size + 1) L2 er2) := hr2
    have HT2 : Hid (TookN L1 L2 [a0] er1 er2) := ht2
    clear hr2 ht2 hk2 HRX H1 HW1 hlt1
    obtain ⟨b0, HB0⟩ : ∃ b0 : Nat → Int, Hid (b0 = put (fun _ => 0) 0 a0) := ⟨_, rfl⟩
    have hcb : (#[.int .i64 a0, .int .i64 0, .int .i64 0, .int .i64 0] : Array Value) = markC b0 := by rw [HB0.out]; rfl
    go_upto_region 5 with (refine wpList_store_mark rfl _ _ rfl w2.heap.size b0 (fun _ => 0) ?_ ?_ (alloc_blk _ _) ?_; rfl; rfl)
    rw [setRow_zero]
    have hlt2 := HR2.out.lt
    have HG3 : Hid ((w2.alloc (.cells (markC b0) 44)).heap[w2.heap.size]? = some (.cells (markC b0) 44 (0, 0))) := alloc_blk _ _
    have H3 : Hid ((w2.alloc (.cells (markC b0) 44)).heap[w.heap.size]? = some (.cells (markC (fun _ => 0)) 44 (0, 0))) := alloc_blk_old H2.out _
    have HR3 : Hid (RdR (w2.alloc (.cells (markC b0) 44)) (w.heap.size + 1) L2 er2) := HR2.out.same (fun q hq => (below_alloc _ _).block q (by omega))
    have HW3 : Hid (Below w.heap.size w (w2.alloc (.cells (markC b0) 44))) := HW2.out.alloc (by omega) _
    generalize w2.alloc (.cells (markC b0) 44) = w3 at *
    obtain ⟨g, hg⟩ : ∃ g, w2.heap.size = g := ⟨_, rfl⟩
    rw [hg] at HG3 hlt2
    simp only [hg]
    clear hg HR2 H2 HW2 hcb
    go_wp2_with fail
    refine (rrNum_str (w.heap.size + 1) L2 er2 w3 HR3.out).mono ?_
    rintro e u3 ⟨⟨a1, rfl, ia1, -, L3, er3, hr, ht, -⟩, hk⟩
    have hlt3 := HR3.out.lt
    have HGU : Hid (u3.heap[g]? = some (.cells (markC b0) 44 (0, 0))) := (hk.block _ (lt_blk HG3.out) (by omega)).trans HG3.out
    have HU0 : Hid (u3.heap[w.heap.size]? = some (.cells (markC (fun _ => 0)) 44 (0, 0))) := (hk.block _ (lt_blk H3.out) (by omega)).trans H3.out
    have HWU : Hid (Below w.heap.size w u3) := HW3.out.trans (hk.below (by omega) (by omega))
    have HT4 : Hid (TookN L2 L3 [a1] er2 er3) := ht
    have hcc : u3.cell? ⟨g, 1, none⟩ = some (.int .i64 (b0 1)) := (cell_blk HGU.out _).trans rfl
    have hff : u3.frozen? ⟨g, 1, none⟩ = false := frozen_blk HGU.out _
    obtain ⟨b1, Hb1⟩ : ∃ b1 : Nat → Int, Hid (b1 = put b0 1 a1) := ⟨_, rfl⟩
    have HG4 : Hid ((u3.setCell ⟨g, 1, none⟩ (.int .i64 a1)).heap[g]? = some (.cells (markC b1) 44 (0, 0))) := by rw [Hb1.out]; exact set_mark HGU.out 1 a1 (by decide)
    have H4 : Hid ((u3.setCell ⟨g, 1, none⟩ (.int .i64 a1)).heap[w.heap.size]? = some (.cells (markC (fun _ => 0)) 44 (0, 0))) := (Below.heap_setCell _ _ _ _ (by simp; omega)).trans HU0.out
    have HR4 : Hid (RdR (u3.setCell ⟨g, 1, none⟩ (.int .i64 a1)) (w.heap.size + 1) L3 er3) := hr.same (fun q hq => Below.heap_setCell _ _ _ _ (by simp; omega))
    have HW4 : Hid (Below w.heap.size w (u3.setCell ⟨g, 1, none⟩ (.int .i64 a1))) := HWU.out.setCell (p := ⟨g, 1, none⟩) (by simp; omega) _
    clear hr ht hk HGU HU0 HWU HR3 HG3 H3 HW3 hlt3
    go_upto_region 6 with fail
    generalize u3.setCell ⟨g, 1, none⟩ (.int .i64 a1) = w4 at *
    clear hcc hff
    go_wp2_with fail
    refine (rrNum_str (w.heap.size + 1) L3 er3 w4 HR4.out).mono ?_
    rintro e u4 ⟨⟨a2, rfl, ia2, -, L4, er4, hr, ht, -⟩, hk⟩
    have hlt4 := HR4.out.lt
    have HGU : Hid (u4.heap[g]? = some (.cells (markC b1) 44 (0, 0))) := (hk.block _ (lt_blk HG4.out) (by omega)).trans HG4.out
    have HU0 : Hid (u4.heap[w.heap.size]? = some (.cells (markC (fun _ => 0)) 44 (0, 0))) := (hk.block _ (lt_blk H4.out) (by omega)).trans H4.out
    have HWU : Hid (Below w.heap.size w u4) := HW4.out.trans (hk.below (by omega) (by omega))
    have HT5 : Hid (TookN L3 L4 [a2] er3 er4) := ht
    have hcc : u4.cell? ⟨g, 2, none⟩ = some (.int .i64 (b1 2)) := (cell_blk HGU.out _).trans rfl
    have hff : u4.frozen? ⟨g, 2, none⟩ = false := frozen_blk HGU.out _
    obtain ⟨b2, Hb2⟩ : ∃ b2 : Nat → Int, Hid (b2 = put b1 2 a2) := ⟨_, rfl⟩
    have HG5 : Hid ((u4.setCell ⟨g, 2, none⟩ (.int .i64 a2)).heap[g]? = some (.cells (markC b2) 44 (0, 0))) := by rw [Hb2.out]; exact set_mark HGU.out 2 a2 (by decide)
    have H5 : Hid ((u4.setCell ⟨g, 2, none⟩ (.int .i64 a2)).heap[w.heap.size]? = some (.cells (markC (fun _ => 0)) 44 (0, 0))) := (Below.heap_setCell _ _ _ _ (by simp; omega)).trans HU0.out
    have HR5 : Hid (RdR (u4.setCell ⟨g, 2, none⟩ (.int .i64 a2)) (w.heap.size + 1) L4 er4) := hr.same (fun q hq => Below.heap_setCell _ _ _ _ (by simp; omega))
    have HW5 : Hid (Below w.heap.size w (u4.setCell ⟨g, 2, none⟩ (.int .i64 a2))) := HWU.out.setCell (p := ⟨g, 2, none⟩) (by simp; omega) _
    clear hr ht hk HGU HU0 HWU HR4 HG4 H4 HW4 hlt4
    go_upto_region 7 with fail
    generalize u4.setCell ⟨g, 2, none⟩ (.int .i64 a2) = w5 at *
    clear hcc hff
    go_wp2_with fail
    refine (rrNum_str (w.heap.size + 1) L4 er4 w5 HR5.out).mono ?_
    rintro e u5 ⟨⟨a3, rfl, ia3, -, L5, er5, hr, ht, -⟩, hk⟩
    have hlt5 := HR5.out.lt
    have HGU : Hid (u5.heap[g]? = some (.cells (markC b2) 44 (0, 0))) := (hk.block _ (lt_blk HG5.out) (by omega)).trans HG5.out
    have HU0 : Hid (u5.heap[w.heap.size]? = some (.cells (markC (fun _ => 0)) 44 (0, 0))) := (hk.block _ (lt_blk H5.out) (by omega)).trans H5.out
    have HWU : Hid (Below w.heap.size w u5) := HW5.out.trans (hk.below (by omega) (by omega))
    have HT6 : Hid (TookN L4 L5 [a3] er4 er5) := ht
    have hcc : u5.cell? ⟨g, 3, none⟩ = some (.int .i64 (b2 3)) := (cell_blk HGU.out _).trans rfl
    have hff : u5.frozen? ⟨g, 3, none⟩ = false := frozen_blk HGU.out _
    obtain ⟨b3, Hb3⟩ : ∃ b3 : Nat → Int, Hid (b3 = put b2 3 a3) := ⟨_, rfl⟩
    have HG6 : Hid ((u5.setCell ⟨g, 3, none⟩ (.int .i64 a3)).heap[g]? = some (.cells (markC b3) 44 (0, 0))) := by rw [Hb3.out]; exact set_mark HGU.out 3 a3 (by decide)
    have H6 : Hid ((u5.setCell ⟨g, 3, none⟩ (.int .i64 a3)).heap[w.heap.size]? = some (.cells (markC (fun _ => 0)) 44 (0, 0))) := (Below.heap_setCell _ _ _ _ (by simp; omega)).trans HU0.out
    have HR6 : Hid (RdR (u5.setCell ⟨g, 3, none⟩ (.int .i64 a3)) (w.heap.size + 1) L5 er5) := hr.same (fun q hq => Below.heap_setCell _ _ _ _ (by simp; omega))
    have HW6 : Hid (Below w.heap.size w (u5.setCell ⟨g, 3, none⟩ (.int .i64 a3))) := HWU.out.setCell (p := ⟨g, 3, none⟩) (by simp; omega) _
    clear hr ht hk HGU HU0 HWU HR5 HG5 H5 HW5 hlt5
    go_upto_region 8 with fail
    generalize u5.setCell ⟨g, 3, none⟩ (.int .i64 a3) = w6 at *
    clear hcc hff
    have HAA : Hid (b3 0 = a0 ∧ b3 1 = a1 ∧ b3 2 = a2 ∧ b3 3 = a3) := by rw [Hb3.out, Hb2.out, Hb1.out, HB0.out]; exact ⟨rfl, rfl, rfl, rfl⟩
    have HAI : Hid (inI (b3 0) ∧ inI (b3 1) ∧ inI (b3 2) ∧ inI (b3 3)) := by obtain ⟨q0, q1, q2, q3⟩ := HAA.out; rw [q0, q1, q2, q3]; exact ⟨i0, ia1, ia2, ia3⟩
    have HTT : Hid (∀ k p e t, markB k p e t = true → encMark k p e t = B → b3 0 = k ∧ b3 1 = p ∧ b3 2 = e ∧ b3 3 = t ∧ L5 = [] ∧ er5 = false) := fun k p e t ho hE => by
      obtain ⟨c1, c2⟩ := HSX.out k p e t ho hE
      obtain ⟨m1, m2, m3, m4⟩ := markB_nums ho
      obtain ⟨d1, d2, d3⟩ := (((HT2.out.append HT4.out).append HT5.out).append HT6.out) [k, p, e, t] [] (numOk_cons m1 (numOk_cons m2 (numOk_cons m3 (numOk_cons m4 numOk_nil)))) rfl c1
      obtain ⟨q0, q1, q2, q3⟩ := HAA.out
      simp only [List.cons_append, List.nil_append, List.cons.injEq, and_true] at d1
      exact ⟨q0.trans d1.1, q1.trans d1.2.1, q2.trans d1.2.2.1, q3.trans d1.2.2.2, d2, d3.trans c2⟩
    clear HSX HT2 HT4 HT5 HT6 HAA HB0 Hb1 Hb2 Hb3
    go_wp2_with (refine wpList_load_mark rfl _ rfl g b3 44 (0, 0) ?_ ?_ ?_; rfl; exact HG6.out)
    refine (rEncodeMark_any (b3 0) (b3 1) (b3 2) (b3 3) w6 HAI.out.1 HAI.out.2.1 HAI.out.2.2.1 HAI.out.2.2.2).mono ?_
    rintro x w7 ⟨v7, rfl, hO7, hB7⟩
    have HG7 : Hid (w7.heap[g]? = some (.cells (markC b3) 44 (0, 0))) := (hB7.block _ (lt_blk HG6.out)).trans HG6.out
    have H7 : Hid (w7.heap[w.heap.size]? = some (.cells (markC (fun _ => 0)) 44 (0, 0))) := (hB7.block _ (lt_blk H6.out)).trans H6.out
    have HR7 : Hid (RdR w7 (w.heap.size + 1) L5 er5) := HR6.out.same (fun q hq => hB7.block _ (by have := HR6.out.lt; omega))
    have HW7 : Hid (Below w.heap.size w w7) := HW6.out.trans (hB7.mono (by have := lt_blk H6.out; omega))
    obtain ⟨ok, HOK⟩ : ∃ ok, Hid (markB (b3 0) (b3 1) (b3 2) (b3 3) = ok) := ⟨_, rfl⟩
    rw [HOK.out] at hO7 ⊢
    obtain ⟨ao7, c7, rfl, -, hR7, -⟩ := OwnB.form2r hO7
    have HC7 : Hid (Rowed w7 ao7 (if ok = true then encMark (b3 0) (b3 1) (b3 2) (b3 3) else []) c7) := hR7
    clear hO7 hB7 hR7 HG6 H6 HR6 HW6
    obtain ⟨n7, HN7⟩ : ∃ n7, Hid ((if ok = true then encMark (b3 0) (b3 1) (b3 2) (b3 3) else []).length = n7) := ⟨_, rfl⟩
    rw [HN7.out]
    obtain ⟨fe, HFE⟩ : ∃ fe : Int, Hid ((if ok = true then (0 : Int) else 1) = fe) := ⟨_, rfl⟩
    rw [HFE.out]
    go_wp2_with fail
    refine (rrWhole_str (w.heap.size + 1) L5 er5 w7 HR7.out).mono ?_
    rintro x w8 ⟨rfl, rfl⟩
    obtain ⟨wh, HWH⟩ : ∃ wh, Hid ((!er5 && decide (L5 = [])) = wh) := ⟨_, rfl⟩
    rw [HWH.out]
    cases wh
    case false =>
      have HD : Hid (DecMark B (.returned (.tuple #[.agg (markC (fun _ => 0)), .int .i64 2]))) := rkNone HTT.out (.inl (fun h1 h2 => by have := HWH.out; rw [h1, h2] at this; simp at this))
      go_upto_region 10 with fail
      go_wp2_with (refine wpList_store_mark rfl _ _ rfl w.heap.size (fun _ => 0) (fun _ => 0) ?_ ?_ H7.out ?_; rfl; rfl)
      have HC8 : Hid ((w8.setRow w.heap.size (markC (fun _ => 0))).heap[w.heap.size]? = some (.cells (markC (fun _ => 0)) 44 (0, 0))) := setRow_blk H7.out _
      have hW8 : Below w.heap.size w (w8.setRow w.heap.size (markC (fun _ => 0))) := HW7.out.trans ((keeps_setRow w8 _ _).below (Nat.le_refl _) (by have := lt_blk H7.out; omega))
      refine bodyPost_ret (v := .tuple #[.agg (markC (fun _ => 0)), .int .i64 2]) ?_ rfl ⟨HD.out, hW8⟩
      exact results_cell_tmp (p := 2) (q := 3) rfl _ _ w.heap.size _ _ rfl rfl (load_mark_cell _ _ _ _ _ HC8.out)
    case true =>
      cases ok
      case false =>
        obtain rfl : fe = 1 := HFE.out.symm
        have HD : Hid (DecMark B (.returned (.tuple #[.agg (markC (fun _ => 0)), .int .i64 2]))) := rkNone HTT.out (.inr (.inl HOK.out))
        go_upto_region 10 with fail
        go_wp2_with (refine wpList_store_mark rfl _ _ rfl w.heap.size (fun _ => 0) (fun _ => 0) ?_ ?_ H7.out ?_; rfl; rfl)
        have HC8 : Hid ((w8.setRow w.heap.size (markC (fun _ => 0))).heap[w.heap.size]? = some (.cells (markC (fun _ => 0)) 44 (0, 0))) := setRow_blk H7.out _
        have hW8 : Below w.heap.size w (w8.setRow w.heap.size (markC (fun _ => 0))) := HW7.out.trans ((keeps_setRow w8 _ _).below (Nat.le_refl _) (by have := lt_blk H7.out; omega))
        refine bodyPost_ret (v := .tuple #[.agg (markC (fun _ => 0)), .int .i64 2]) ?_ rfl ⟨HD.out, hW8⟩
        exact results_cell_tmp (p := 2) (q := 3) rfl _ _ w.heap.size _ _ rfl rfl (load_mark_cell _ _ _ _ _ HC8.out)
      case true =>
        obtain rfl : fe = 0 := HFE.out.symm
        simp only [if_true] at HC7 HN7
        have hcv1 := conv_str (w := w8) HC7.out HN7.out.symm
        have hcv2 := conv_str (w := w8) (HR.out.below HW7.out (Nat.le_refl _)) HN.out.symm
        obtain ⟨sA, HSA⟩ : ∃ sA, Hid (strOf (encMark (b3 0) (b3 1) (b3 2) (b3 3)) = sA) := ⟨_, rfl⟩
        obtain ⟨sB, HSB⟩ : ∃ sB, Hid (strOf B = sB) := ⟨_, rfl⟩
        rw [HSA.out] at hcv1
        rw [HSB.out] at hcv2
        by_cases hs : sA = sB
        case neg =>
          have hs1 : (sA.toList == sB.toList) = false := beq_false_of_ne (fun h => hs (ByteArray.ext (Array.toList_inj.1 (by rw [← ByteArray.toList_eq, ← ByteArray.toList_eq]; exact h))))
          have HD : Hid (DecMark B (.returned (.tuple #[.agg (markC (fun _ => 0)), .int .i64 2]))) := rkNone HTT.out (.inr (.inr (fun h => hs (HSA.out.symm.trans ((congrArg strOf h).trans HSB.out)))))
          go_upto_region 10 with fail
          go_wp2_with (refine wpList_store_mark rfl _ _ rfl w.heap.size (fun _ => 0) (fun _ => 0) ?_ ?_ H7.out ?_; rfl; rfl)
          have HC8 : Hid ((w8.setRow w.heap.size (markC (fun _ => 0))).heap[w.heap.size]? = some (.cells (markC (fun _ => 0)) 44 (0, 0))) := setRow_blk H7.out _
          have hW8 : Below w.heap.size w (w8.setRow w.heap.size (markC (fun _ => 0))) := HW7.out.trans ((keeps_setRow w8 _ _).below (Nat.le_refl _) (by have := lt_blk H7.out; omega))
          refine bodyPost_ret (v := .tuple #[.agg (markC (fun _ => 0)), .int .i64 2]) ?_ rfl ⟨HD.out, hW8⟩
          exact results_cell_tmp (p := 2) (q := 3) rfl _ _ w.heap.size _ _ rfl rfl (load_mark_cell _ _ _ _ _ HC8.out)
        case pos =>
          subst hs
          have HEQ : Hid (encMark (b3 0) (b3 1) (b3 2) (b3 3) = B) := strOf_inj (nums_bytes _) HY.out (HSA.out.trans HSB.out.symm)
          go_wp2_with (first | (refine wpList_load_mark rfl _ rfl g b3 44 (0, 0) ?_ ?_ ?_; rfl; exact HG7.out) | (refine wpList_store_mark rfl _ _ rfl w.heap.size b3 (fun _ => 0) ?_ ?_ H7.out ?_; rfl; rfl))
          have HC8 : Hid ((w8.setRow w.heap.size (markC b3)).heap[w.heap.size]? = some (.cells (markC b3) 44 (0, 0))) := setRow_blk H7.out _
          have hW8 : Below w.heap.size w (w8.setRow w.heap.size (markC b3)) := HW7.out.trans ((keeps_setRow w8 _ _).below (Nat.le_refl _) (by have := lt_blk H7.out; omega))
          refine bodyPost_ret (v := .tuple #[.agg (markC b3), .int .i64 0]) ?_ rfl ⟨⟨b3, 0, rfl, .inl ⟨rfl, HOK.out, HEQ.out⟩⟩, hW8⟩
          exact results_cell_tmp (p := 2) (q := 3) rfl _ _ w.heap.size _ _ rfl rfl (load_mark_cell _ _ _ _ _ HC8.out)
  · have HT1 : Hid (∀ k p e t, markB k p e t = true → encMark k p e t = B → False) := fun k p e t _ hE => hz (ht1.one ⟨by decide, by decide⟩ (mark_sep hE)).1
    have HR1 : Hid (RdR w1 (w.heap.size + 1) L1 er1) := hr1
    clear hr1 ht1 hl1 hk1 HB2 H0 HRR
    go_wp2_with fail
    refine (rrBad_str (w.heap.size + 1) L1 er1 w1 HR1.out).mono ?_
    rintro e w1' ⟨rfl, hr2, hk2, -⟩
    have hlt1 := HR1.out.lt
    have H1' : Hid (w1'.heap[w.heap.size]? = some (.cells (markC (fun _ => 0)) 44 (0, 0))) := (hk2.block _ (by omega) (by omega)).trans H1.out
    have HW1' : Hid (Below w.heap.size w w1') := HW1.out.trans (hk2.below (by omega) (by omega))
    have HRX : Hid (RdR w1' (w.heap.size + 1) [] true) := hr2
    have HSX : Hid (∀ k p e t, markB k p e t = true → encMark k p e t = B → ([] : List Int) = nums [k, p, e, t] ++ [] ∧ true = false) := fun k p e t ho hE => (HT1.out k p e t ho hE).elim
    clear hr2 hk2 HR1 HT1 H1 HW1 hlt1
    go_wp2_with fail
    refine (rrNum_str (w.heap.size + 1) ([] : List Int) true w1' HRX.out).mono ?_
    rintro e w2 ⟨⟨a0, rfl, i0, -, L2, er2, hr2, ht2, -⟩, hk2⟩
    have hlt1 := HRX.out.lt
    have H2 : Hid (w2.heap[w.heap.size]? = some (.cells (markC (fun _ => 0)) 44 (0, 0))) := (hk2.block _ (by omega) (by omega)).trans H1'.out
    have HW2 : Hid (Below w.heap.size w w2) := HW1'.out.trans (hk2.below (by omega) (by omega))
    have HR2 : Hid (RdR w2 (w.heap.size + 1) L2 er2) := hr2
    have HT2 : Hid (TookN ([] : List Int) L2 [a0] true er2) := ht2
    clear hr2 ht2 hk2 HRX H1' HW1' hlt1
    obtain ⟨b0, HB0⟩ : ∃ b0 : Nat → Int, Hid (b0 = put (fun _ => 0) 0 a0) := ⟨_, rfl⟩
    have hcb : (#[.int .i64 a0, .int .i64 0, .int .i64 0, .int .i64 0] : Array Value) = markC b0 := by rw [HB0.out]; rfl
    go_upto_region 5 with (refine wpList_store_mark rfl _ _ rfl w2.heap.size b0 (fun _ => 0) ?_ ?_ (alloc_blk _ _) ?_; rfl; rfl)
    rw [setRow_zero]
    have hlt2 := HR2.out.lt
    have HG3 : Hid ((w2.alloc (.cells (markC b0) 44)).heap[w2.heap.size]? = some (.cells (markC b0) 44 (0, 0))) := alloc_blk _ _
    have H3 : Hid ((w2.alloc (.cells (markC b0) 44)).heap[w.heap.size]? = some (.cells (markC (fun _ => 0)) 44 (0, 0))) := alloc_blk_old H2.out _
    have HR3 : Hid (RdR (w2.alloc (.cells (markC b0) 44)) (w.heap.size + 1) L2 er2) := HR2.out.same (fun q hq => (below_alloc _ _).block q (by omega))
    have HW3 : Hid (Below w.heap.size w (w2.alloc (.cells (markC b0) 44))) := HW2.out.alloc (by omega) _
    generalize w2.alloc (.cells (markC b0) 44) = w3 at *
    obtain ⟨g, hg⟩ : ∃ g, w2.heap.size = g := ⟨_, rfl⟩
    rw [hg] at HG3 hlt2
    simp only [hg]
    clear hg HR2 H2 HW2 hcb
    go_wp2_with fail
    refine (rrNum_str (w.heap.size + 1) L2 er2 w3 HR3.out).mono ?_
    rintro e u3 ⟨⟨a1, rfl, ia1, -, L3, er3, hr, ht, -⟩, hk⟩
    have hlt3 := HR3.out.lt
    have HGU : Hid (u3.heap[g]? = some (.cells (markC b0) 44 (0, 0))) := (hk.block _ (lt_blk HG3.out) (by omega)).trans HG3.out
    have HU0 : Hid (u3.heap[w.heap.size]? = some (.cells (markC (fun _ => 0)) 44 (0, 0))) := (hk.block _ (lt_blk H3.out) (by omega)).trans H3.out
    have HWU : Hid (Below w.heap.size w u3) := HW3.out.trans (hk.below (by omega) (by omega))
    have HT4 : Hid (TookN L2 L3 [a1] er2 er3) := ht
    have hcc : u3.cell? ⟨g, 1, none⟩ = some (.int .i64 (b0 1)) := (cell_blk HGU.out _).trans rfl
    have hff : u3.frozen? ⟨g, 1, none⟩ = false := frozen_blk HGU.out _
    obtain ⟨b1, Hb1⟩ : ∃ b1 : Nat → Int, Hid (b1 = put b0 1 a1) := ⟨_, rfl⟩
    have HG4 : Hid ((u3.setCell ⟨g, 1, none⟩ (.int .i64 a1)).heap[g]? = some (.cells (markC b1) 44 (0, 0))) := by rw [Hb1.out]; exact set_mark HGU.out 1 a1 (by decide)
    have H4 : Hid ((u3.setCell ⟨g, 1, none⟩ (.int .i64 a1)).heap[w.heap.size]? = some (.cells (markC (fun _ => 0)) 44 (0, 0))) := (Below.heap_setCell _ _ _ _ (by simp; omega)).trans HU0.out
    have HR4 : Hid (RdR (u3.setCell ⟨g, 1, none⟩ (.int .i64 a1)) (w.heap.size + 1) L3 er3) := hr.same (fun q hq => Below.heap_setCell _ _ _ _ (by simp; omega))
    have HW4 : Hid (Below w.heap.size w (u3.setCell ⟨g, 1, none⟩ (.int .i64 a1))) := HWU.out.setCell (p := ⟨g, 1, none⟩) (by simp; omega) _
    clear hr ht hk HGU HU0 HWU HR3 HG3 H3 HW3 hlt3
    go_upto_region 6 with fail
    generalize u3.setCell ⟨g, 1, none⟩ (.int .i64 a1) = w4 at *
    clear hcc hff
    go_wp2_with fail
    refine (rrNum_str (w.heap.size + 1) L3 er3 w4 HR4.out).mono ?_
    rintro e u4 ⟨⟨a2, rfl, ia2, -, L4, er4, hr, ht, -⟩, hk⟩
    have hlt4 := HR4.out.lt
    have HGU : Hid (u4.heap[g]? = some (.cells (markC b1) 44 (0, 0))) := (hk.block _ (lt_blk HG4.out) (by omega)).trans HG4.out
    have HU0 : Hid (u4.heap[w.heap.size]? = some (.cells (markC (fun _ => 0)) 44 (0, 0))) := (hk.block _ (lt_blk H4.out) (by omega)).trans H4.out
    have HWU : Hid (Below w.heap.size w u4) := HW4.out.trans (hk.below (by omega) (by omega))
    have HT5 : Hid (TookN L3 L4 [a2] er3 er4) := ht
    have hcc : u4.cell? ⟨g, 2, none⟩ = some (.int .i64 (b1 2)) := (cell_blk HGU.out _).trans rfl
    have hff : u4.frozen? ⟨g, 2, none⟩ = false := frozen_blk HGU.out _
    obtain ⟨b2, Hb2⟩ : ∃ b2 : Nat → Int, Hid (b2 = put b1 2 a2) := ⟨_, rfl⟩
    have HG5 : Hid ((u4.setCell ⟨g, 2, none⟩ (.int .i64 a2)).heap[g]? = some (.cells (markC b2) 44 (0, 0))) := by rw [Hb2.out]; exact set_mark HGU.out 2 a2 (by decide)
    have H5 : Hid ((u4.setCell ⟨g, 2, none⟩ (.int .i64 a2)).heap[w.heap.size]? = some (.cells (markC (fun _ => 0)) 44 (0, 0))) := (Below.heap_setCell _ _ _ _ (by simp; omega)).trans HU0.out
    have HR5 : Hid (RdR (u4.setCell ⟨g, 2, none⟩ (.int .i64 a2)) (w.heap.size + 1) L4 er4) := hr.same (fun q hq => Below.heap_setCell _ _ _ _ (by simp; omega))
    have HW5 : Hid (Below w.heap.size w (u4.setCell ⟨g, 2, none⟩ (.int .i64 a2))) := HWU.out.setCell (p := ⟨g, 2, none⟩) (by simp; omega) _
    clear hr ht hk HGU HU0 HWU HR4 HG4 H4 HW4 hlt4
    go_upto_region 7 with fail
    generalize u4.setCell ⟨g, 2, none⟩ (.int .i64 a2) = w5 at *
    clear hcc hff
    go_wp2_with fail
    refine (rrNum_str (w.heap.size + 1) L4 er4 w5 HR5.out).mono ?_
    rintro e u5 ⟨⟨a3, rfl, ia3, -, L5, er5, hr, ht, -⟩, hk⟩
    have hlt5 := HR5.out.lt
    have HGU : Hid (u5.heap[g]? = some (.cells (markC b2) 44 (0, 0))) := (hk.block _ (lt_blk HG5.out) (by omega)).trans HG5.out
    have HU0 : Hid (u5.heap[w.heap.size]? = some (.cells (markC (fun _ => 0)) 44 (0, 0))) := (hk.block _ (lt_blk H5.out) (by omega)).trans H5.out
    have HWU : Hid (Below w.heap.size w u5) := HW5.out.trans (hk.below (by omega) (by omega))
    have HT6 : Hid (TookN L4 L5 [a3] er4 er5) := ht
    have hcc : u5.cell? ⟨g, 3, none⟩ = some (.int .i64 (b2 3)) := (cell_blk HGU.out _).trans rfl
    have hff : u5.frozen? ⟨g, 3, none⟩ = false := frozen_blk HGU.out _
    obtain ⟨b3, Hb3⟩ : ∃ b3 : Nat → Int, Hid (b3 = put b2 3 a3) := ⟨_, rfl⟩
    have HG6 : Hid ((u5.setCell ⟨g, 3, none⟩ (.int .i64 a3)).heap[g]? = some (.cells (markC b3) 44 (0, 0))) := by rw [Hb3.out]; exact set_mark HGU.out 3 a3 (by decide)
    have H6 : Hid ((u5.setCell ⟨g, 3, none⟩ (.int .i64 a3)).heap[w.heap.size]? = some (.cells (markC (fun _ => 0)) 44 (0, 0))) := (Below.heap_setCell _ _ _ _ (by simp; omega)).trans HU0.out
    have HR6 : Hid (RdR (u5.setCell ⟨g, 3, none⟩ (.int .i64 a3)) (w.heap.size + 1) L5 er5) := hr.same (fun q hq => Below.heap_setCell _ _ _ _ (by simp; omega))
    have HW6 : Hid (Below w.heap.size w (u5.setCell ⟨g, 3, none⟩ (.int .i64 a3))) := HWU.out.setCell (p := ⟨g, 3, none⟩) (by simp; omega) _
    clear hr ht hk HGU HU0 HWU HR5 HG5 H5 HW5 hlt5
    go_upto_region 8 with fail
    generalize u5.setCell ⟨g, 3, none⟩ (.int .i64 a3) = w6 at *
    clear hcc hff
    have HAA : Hid (b3 0 = a0 ∧ b3 1 = a1 ∧ b3 2 = a2 ∧ b3 3 = a3) := by rw [Hb3.out, Hb2.out, Hb1.out, HB0.out]; exact ⟨rfl, rfl, rfl, rfl⟩
    have HAI : Hid (inI (b3 0) ∧ inI (b3 1) ∧ inI (b3 2) ∧ inI (b3 3)) := by obtain ⟨q0, q1, q2, q3⟩ := HAA.out; rw [q0, q1, q2, q3]; exact ⟨i0, ia1, ia2, ia3⟩
    have HTT : Hid (∀ k p e t, markB k p e t = true → encMark k p e t = B → b3 0 = k ∧ b3 1 = p ∧ b3 2 = e ∧ b3 3 = t ∧ L5 = [] ∧ er5 = false) := fun k p e t ho hE => by
      obtain ⟨c1, c2⟩ := HSX.out k p e t ho hE
      obtain ⟨m1, m2, m3, m4⟩ := markB_nums ho
      obtain ⟨d1, d2, d3⟩ := (((HT2.out.append HT4.out).append HT5.out).append HT6.out) [k, p, e, t] [] (numOk_cons m1 (numOk_cons m2 (numOk_cons m3 (numOk_cons m4 numOk_nil)))) rfl c1
      obtain ⟨q0, q1, q2, q3⟩ := HAA.out
      simp only [List.cons_append, List.nil_append, List.cons.injEq, and_true] at d1
      exact ⟨q0.trans d1.1, q1.trans d1.2.1, q2.trans d1.2.2.1, q3.trans d1.2.2.2, d2, d3.trans c2⟩
    clear HSX HT2 HT4 HT5 HT6 HAA HB0 Hb1 Hb2 Hb3
    go_wp2_with (refine wpList_load_mark rfl _ rfl g b3 44 (0, 0) ?_ ?_ ?_; rfl; exact HG6.out)
    refine (rEncodeMark_any (b3 0) (b3 1) (b3 2) (b3 3) w6 HAI.out.1 HAI.out.2.1 HAI.out.2.2.1 HAI.out.2.2.2).mono ?_
    rintro x w7 ⟨v7, rfl, hO7, hB7⟩
    have HG7 : Hid (w7.heap[g]? = some (.cells (markC b3) 44 (0, 0))) := (hB7.block _ (lt_blk HG6.out)).trans HG6.out
    have H7 : Hid (w7.heap[w.heap.size]? = some (.cells (markC (fun _ => 0)) 44 (0, 0))) := (hB7.block _ (lt_blk H6.out)).trans H6.out
    have HR7 : Hid (RdR w7 (w.heap.size + 1) L5 er5) := HR6.out.same (fun q hq => hB7.block _ (by have := HR6.out.lt; omega))
    have HW7 : Hid (Below w.heap.size w w7) := HW6.out.trans (hB7.mono (by have := lt_blk H6.out; omega))
    obtain ⟨ok, HOK⟩ : ∃ ok, Hid (markB (b3 0) (b3 1) (b3 2) (b3 3) = ok) := ⟨_, rfl⟩
    rw [HOK.out] at hO7 ⊢
    obtain ⟨ao7, c7, rfl, -, hR7, -⟩ := OwnB.form2r hO7
    have HC7 : Hid (Rowed w7 ao7 (if ok = true then encMark (b3 0) (b3 1) (b3 2) (b3 3) else []) c7) := hR7
    clear hO7 hB7 hR7 HG6 H6 HR6 HW6
    obtain ⟨n7, HN7⟩ : ∃ n7, Hid ((if ok = true then encMark (b3 0) (b3 1) (b3 2) (b3 3) else []).length = n7) := ⟨_, rfl⟩
    rw [HN7.out]
    obtain ⟨fe, HFE⟩ : ∃ fe : Int, Hid ((if ok = true then (0 : Int) else 1) = fe) := ⟨_, rfl⟩
    rw [HFE.out]
    go_wp2_with fail
    refine (rrWhole_str (w.heap.size + 1) L5 er5 w7 HR7.out).mono ?_
    rintro x w8 ⟨rfl, rfl⟩
    obtain ⟨wh, HWH⟩ : ∃ wh, Hid ((!er5 && decide (L5 = [])) = wh) := ⟨_, rfl⟩
    rw [HWH.out]
    cases wh
    case false =>
      have HD : Hid (DecMark B (.returned (.tuple #[.agg (markC (fun _ => 0)), .int .i64 2]))) := rkNone HTT.out (.inl (fun h1 h2 => by have := HWH.out; rw [h1, h2] at this; simp at this))
      go_upto_region 10 with fail
      go_wp2_with (refine wpList_store_mark rfl _ _ rfl w.heap.size (fun _ => 0) (fun _ => 0) ?_ ?_ H7.out ?_; rfl; rfl)
      have HC8 : Hid ((w8.setRow w.heap.size (markC (fun _ => 0))).heap[w.heap.size]? = some (.cells (markC (fun _ => 0)) 44 (0, 0))) := setRow_blk H7.out _
      have hW8 : Below w.heap.size w (w8.setRow w.heap.size (markC (fun _ => 0))) := HW7.out.trans ((keeps_setRow w8 _ _).below (Nat.le_refl _) (by have := lt_blk H7.out; omega))
      refine bodyPost_ret (v := .tuple #[.agg (markC (fun _ => 0)), .int .i64 2]) ?_ rfl ⟨HD.out, hW8⟩
      exact results_cell_tmp (p := 2) (q := 3) rfl _ _ w.heap.size _ _ rfl rfl (load_mark_cell _ _ _ _ _ HC8.out)
    case true =>
      cases ok
      case false =>
        obtain rfl : fe = 1 := HFE.out.symm
        have HD : Hid (DecMark B (.returned (.tuple #[.agg (markC (fun _ => 0)), .int .i64 2]))) := rkNone HTT.out (.inr (.inl HOK.out))
        go_upto_region 10 with fail
        go_wp2_with (refine wpList_store_mark rfl _ _ rfl w.heap.size (fun _ => 0) (fun _ => 0) ?_ ?_ H7.out ?_; rfl; rfl)
        have HC8 : Hid ((w8.setRow w.heap.size (markC (fun _ => 0))).heap[w.heap.size]? = some (.cells (markC (fun _ => 0)) 44 (0, 0))) := setRow_blk H7.out _
        have hW8 : Below w.heap.size w (w8.setRow w.heap.size (markC (fun _ => 0))) := HW7.out.trans ((keeps_setRow w8 _ _).below (Nat.le_refl _) (by have := lt_blk H7.out; omega))
        refine bodyPost_ret (v := .tuple #[.agg (markC (fun _ => 0)), .int .i64 2]) ?_ rfl ⟨HD.out, hW8⟩
        exact results_cell_tmp (p := 2) (q := 3) rfl _ _ w.heap.size _ _ rfl rfl (load_mark_cell _ _ _ _ _ HC8.out)
      case true =>
        obtain rfl : fe = 0 := HFE.out.symm
        simp only [if_true] at HC7 HN7
        have hcv1 := conv_str (w := w8) HC7.out HN7.out.symm
        have hcv2 := conv_str (w := w8) (HR.out.below HW7.out (Nat.le_refl _)) HN.out.symm
        obtain ⟨sA, HSA⟩ : ∃ sA, Hid (strOf (encMark (b3 0) (b3 1) (b3 2) (b3 3)) = sA) := ⟨_, rfl⟩
        obtain ⟨sB, HSB⟩ : ∃ sB, Hid (strOf B = sB) := ⟨_, rfl⟩
        rw [HSA.out] at hcv1
        rw [HSB.out] at hcv2
        by_cases hs : sA = sB
        case neg =>
          have hs1 : (sA.toList == sB.toList) = false := beq_false_of_ne (fun h => hs (ByteArray.ext (Array.toList_inj.1 (by rw [← ByteArray.toList_eq, ← ByteArray.toList_eq]; exact h))))
          have HD : Hid (DecMark B (.returned (.tuple #[.agg (markC (fun _ => 0)), .int .i64 2]))) := rkNone HTT.out (.inr (.inr (fun h => hs (HSA.out.symm.trans ((congrArg strOf h).trans HSB.out)))))
          go_upto_region 10 with fail
          go_wp2_with (refine wpList_store_mark rfl _ _ rfl w.heap.size (fun _ => 0) (fun _ => 0) ?_ ?_ H7.out ?_; rfl; rfl)
          have HC8 : Hid ((w8.setRow w.heap.size (markC (fun _ => 0))).heap[w.heap.size]? = some (.cells (markC (fun _ => 0)) 44 (0, 0))) := setRow_blk H7.out _
          have hW8 : Below w.heap.size w (w8.setRow w.heap.size (markC (fun _ => 0))) := HW7.out.trans ((keeps_setRow w8 _ _).below (Nat.le_refl _) (by have := lt_blk H7.out; omega))
          refine bodyPost_ret (v := .tuple #[.agg (markC (fun _ => 0)), .int .i64 2]) ?_ rfl ⟨HD.out, hW8⟩
          exact results_cell_tmp (p := 2) (q := 3) rfl _ _ w.heap.size _ _ rfl rfl (load_mark_cell _ _ _ _ _ HC8.out)
        case pos =>
          subst hs
          have HEQ : Hid (encMark (b3 0) (b3 1) (b3 2) (b3 3) = B) := strOf_inj (nums_bytes _) HY.out (HSA.out.trans HSB.out.symm)
          go_wp2_with (first | (refine wpList_load_mark rfl _ rfl g b3 44 (0, 0) ?_ ?_ ?_; rfl; exact HG7.out) | (refine wpList_store_mark rfl _ _ rfl w.heap.size b3 (fun _ => 0) ?_ ?_ H7.out ?_; rfl; rfl))
          have HC8 : Hid ((w8.setRow w.heap.size (markC b3)).heap[w.heap.size]? = some (.cells (markC b3) 44 (0, 0))) := setRow_blk H7.out _
          have hW8 : Below w.heap.size w (w8.setRow w.heap.size (markC b3)) := HW7.out.trans ((keeps_setRow w8 _ _).below (Nat.le_refl _) (by have := lt_blk H7.out; omega))
          refine bodyPost_ret (v := .tuple #[.agg (markC b3), .int .i64 0]) ?_ rfl ⟨⟨b3, 0, rfl, .inl ⟨rfl, HOK.out, HEQ.out⟩⟩, hW8⟩
          exact results_cell_tmp (p := 2) (q := 3) rfl _ _ w.heap.size _ _ rfl rfl (load_mark_cell _ _ _ _ _ HC8.out)
end Go.Proofs.Ytkjocpadmlobgaa
