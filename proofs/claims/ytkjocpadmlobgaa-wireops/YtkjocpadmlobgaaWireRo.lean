/- The document's operations out of bytes. For rows of up to 2^30 bytes. -/
import Derived.Test.YtkjocpadmlobgaaWireRk
import Derived.Test.YtkjocpadmlobgaaWireRe2
import Derived.Test.YtkjocpadmlobgaaWireDo
namespace Go.Proofs.Ytkjocpadmlobgaa
open Go.RowKit Go.Dig Go.Inv Go.Oct
set_option linter.unusedVariables false

theorem op_sep {B : List Int} {k1 c1 s1 : Int} {n1 : ByteArray} {p1 e1 t1 q1 : Int} {b1 : Bool} (hE : encOp k1 c1 s1 n1 p1 e1 t1 q1 b1 = B) : B = num 2 ++ (nums [k1, c1, s1] ++ (num ((byL n1).length : Int) ++ (byL n1 ++ (nums [p1, e1, t1, q1, if b1 = true then 1 else 0] ++ [])))) := by
  rw [← hE, byL_length]
  unfold encOp
  simp only [nums_cons, nums_nil, List.append_nil, List.append_assoc]
theorem roNone {B L : List Int} {er : Bool} {k c s : Int} {n : ByteArray} {p e t q : Int} {b : Bool} (h : ∀ k1 c1 s1 n1 p1 e1 t1 q1 b1, opB k1 c1 s1 n1 p1 e1 t1 q1 b1 = true → encOp k1 c1 s1 n1 p1 e1 t1 q1 b1 = B → opC k c s n p e t q b = opC k1 c1 s1 n1 p1 e1 t1 q1 b1 ∧ L = [] ∧ er = false)
    (hn : (L = [] → er = false → False) ∨ opB k c s n p e t q b = false ∨ ¬ encOp k c s n p e t q b = B) : DecOp B (.returned (.tuple #[.agg (opC 0 0 0 eN 0 0 0 0 false), .int .i64 2])) :=
  ⟨0, 0, 0, eN, 0, 0, 0, 0, false, 2, rfl, .inr ⟨rfl, rfl, fun k1 c1 s1 n1 p1 e1 t1 q1 b1 ho hE => by
    obtain ⟨h0, h4, h5⟩ := h _ _ _ _ _ _ _ _ _ ho hE
    obtain ⟨rfl, rfl, rfl, rfl, rfl, rfl, rfl, rfl, rfl⟩ := opC_inj h0
    rcases hn with hn | hn | hn
    · exact hn h4 h5
    · rw [ho] at hn; cases hn
    · exact hn hE⟩⟩
set_option maxRecDepth 10000 in
set_option maxHeartbeats 8000000 in
theorem rdOp_str (B : List Int) (ao : Option Addr) (cap : Nat) (w : World) (hR : Rowed w ao B cap) (hy : ∀ x ∈ B, 0 ≤ x ∧ x < 256) (hl : B.length < 1073741824) (hc : B.length ≤ cap) :
    Calls Try.prog 20 #[.slice ao B.length cap] w fun e w' => DecOp B e ∧ Below w.heap.size w w' := by
  have HR : Hid (Rowed w ao B cap) := hR
  have HY : Hid (ByteL B) := hy
  have HB2 : Hid (Below w.heap.size w ((w.alloc (.cells (opC 0 0 0 eN 0 0 0 0 false) 42)).alloc (.cells #[.slice ao B.length cap, .bool false] 86))) := ((Below.refl _ _).alloc (Nat.le_refl _) _).alloc (by simp) _
  have H0 : Hid (((w.alloc (.cells (opC 0 0 0 eN 0 0 0 0 false) 42)).alloc (.cells #[.slice ao B.length cap, .bool false] 86)).heap[w.heap.size]? = some (.cells (opC 0 0 0 eN 0 0 0 0 false) 42 (0, 0))) := alloc_blk_old (alloc_blk _ _) _
  have HRR : Hid (RdR ((w.alloc (.cells (opC 0 0 0 eN 0 0 0 0 false) 42)).alloc (.cells #[.slice ao B.length cap, .bool false] 86)) (w.heap.size + 1) B false) := by
    have h1 : (w.alloc (.cells (opC 0 0 0 eN 0 0 0 0 false) 42)).heap.size = w.heap.size + 1 := by simp
    have hb := alloc_blk (w.alloc (.cells (opC 0 0 0 eN 0 0 0 0 false) 42)) (.cells #[.slice ao B.length cap, .bool false] 86)
    rw [h1] at hb
    refine ⟨ao, cap, hb, hR.below HB2.out (Nat.le_refl _), hc, hy, by omega, fun ad e hne => ?_, (fun e => by cases e)⟩
    obtain ⟨gb, go, e1, hcl⟩ := hR.at hne
    rw [e1] at e
    cases e
    have := World.block_lt_of_cell? w _ (hcl 0 (List.length_pos_iff.2 hne))
    exact ⟨by simp at this ⊢; omega, rfl⟩
  obtain ⟨n, HN⟩ : ∃ n, Hid (B.length = n) := ⟨_, rfl⟩
  rw [HN.out] at HB2 H0 HRR ⊢
  clear hR hy hc
  go_enter Try.func20, Try.ntmps20
  go_wp2_with fail
  change Calls _ _ _ ((w.alloc (.cells (opC 0 0 0 eN 0 0 0 0 false) 42)).alloc (.cells #[.slice ao n cap, .bool false] 86)) _
  generalize (w.alloc (.cells (opC 0 0 0 eN 0 0 0 0 false) 42)).alloc (.cells #[.slice ao n cap, .bool false] 86) = w0 at *
  refine (rrNum_str (w.heap.size + 1) B false w0 HRR.out).mono ?_
  rintro e w1 ⟨⟨z, rfl, -, -, L1, er1, hr1, ht1, hl1⟩, hk1⟩
  have hlt0 := HRR.out.lt
  have H1 : Hid (w1.heap[w.heap.size]? = some (.cells (opC 0 0 0 eN 0 0 0 0 false) 42 (0, 0))) := (hk1.block _ (by omega) (by omega)).trans H0.out
  have HW1 : Hid (Below w.heap.size w w1) := HB2.out.trans (hk1.below (by omega) (by omega))
  by_cases hz : z = 2
  · subst hz
    have HRX : Hid (RdR w1 (w.heap.size + 1) L1 er1) := hr1
    have HLX : Hid (L1.length ≤ B.length) := hl1
    have HSX : Hid (∀ k1 c1 s1 n1 p1 e1 t1 q1 b1, opB k1 c1 s1 n1 p1 e1 t1 q1 b1 = true → encOp k1 c1 s1 n1 p1 e1 t1 q1 b1 = B → L1 = nums [k1, c1, s1] ++ (num ((byL n1).length : Int) ++ (byL n1 ++ (nums [p1, e1, t1, q1, if b1 = true then 1 else 0] ++ []))) ∧ er1 = false) := fun k1 c1 s1 n1 p1 e1 t1 q1 b1 _ hE => (ht1.one ⟨by decide, by decide⟩ (op_sep hE)).2
    clear hr1 ht1 hl1 hk1 HB2 H0 HRR hlt0
    go_wp2_with fail
    refine (rrNum_str (w.heap.size + 1) L1 er1 w1 HRX.out).mono ?_
    rintro e w2 ⟨⟨k, rfl, ik, -, L2, er2, hr2, ht2, hl2⟩, hk2⟩
    have hlt1 := HRX.out.lt
    have H2 : Hid (w2.heap[w.heap.size]? = some (.cells (opC 0 0 0 eN 0 0 0 0 false) 42 (0, 0))) := (hk2.block _ (by omega) (by omega)).trans H1.out
    have HW2 : Hid (Below w.heap.size w w2) := HW1.out.trans (hk2.below (by omega) (by omega))
    have HR2 : Hid (RdR w2 (w.heap.size + 1) L2 er2) := hr2
    have HT2 : Hid (TookN L1 L2 [k] er1 er2 ∧ L2.length ≤ B.length) := ⟨ht2, Nat.le_trans hl2 HLX.out⟩
    clear hr2 ht2 hl2 hk2 HRX H1 HW1 hlt1
    go_upto_region 5 with (refine wpList_store_op rfl _ _ rfl w2.heap.size k 0 0 eN 0 0 0 0 false (opC 0 0 0 eN 0 0 0 0 false) ?_ ?_ (alloc_blk _ _) ?_ ?_; rfl; rfl; rfl)
    rw [setRow_new]
    have hlt2 := HR2.out.lt
    have HG3 : Hid ((w2.alloc (.cells (opC k 0 0 eN 0 0 0 0 false) 42)).heap[w2.heap.size]? = some (.cells (opC k 0 0 eN 0 0 0 0 false) 42 (0, 0))) := alloc_blk _ _
    have H3 : Hid ((w2.alloc (.cells (opC k 0 0 eN 0 0 0 0 false) 42)).heap[w.heap.size]? = some (.cells (opC 0 0 0 eN 0 0 0 0 false) 42 (0, 0))) := alloc_blk_old H2.out _
    have HR3 : Hid (RdR (w2.alloc (.cells (opC k 0 0 eN 0 0 0 0 false) 42)) (w.heap.size + 1) L2 er2) := HR2.out.same (fun q hq => (below_alloc _ _).block q (by omega))
    have HW3 : Hid (Below w.heap.size w (w2.alloc (.cells (opC k 0 0 eN 0 0 0 0 false) 42))) := HW2.out.alloc (by omega) _
    generalize w2.alloc (.cells (opC k 0 0 eN 0 0 0 0 false) 42) = w3 at *
    obtain ⟨g, hg⟩ : ∃ g, w2.heap.size = g := ⟨_, rfl⟩
    rw [hg] at HG3 hlt2
    simp only [hg]
    clear hg HR2 H2 HW2
    go_wp2_with fail
    refine (rrNum_str (w.heap.size + 1) L2 er2 w3 HR3.out).mono ?_
    rintro e u3 ⟨⟨c, rfl, ic, -, L3, er3, hr, ht, hl⟩, hk⟩
    have hlt3 := HR3.out.lt
    have HGU : Hid (u3.heap[g]? = some (.cells (opC k 0 0 eN 0 0 0 0 false) 42 (0, 0))) := (hk.block _ (lt_blk HG3.out) (by omega)).trans HG3.out
    have HU0 : Hid (u3.heap[w.heap.size]? = some (.cells (opC 0 0 0 eN 0 0 0 0 false) 42 (0, 0))) := (hk.block _ (lt_blk H3.out) (by omega)).trans H3.out
    have HWU : Hid (Below w.heap.size w u3) := HW3.out.trans (hk.below (by omega) (by omega))
    have HT4 : Hid (TookN L2 L3 [c] er2 er3 ∧ L3.length ≤ B.length) := ⟨ht, Nat.le_trans hl HT2.out.2⟩
    have hcc : u3.cell? ⟨g, 1, none⟩ = some (.int .i64 0) := (cell_blk HGU.out _).trans rfl
    have hff : u3.frozen? ⟨g, 1, none⟩ = false := frozen_blk HGU.out _
    have HG4 : Hid ((u3.setCell ⟨g, 1, none⟩ (.int .i64 c)).heap[g]? = some (.cells (opC k c 0 eN 0 0 0 0 false) 42 (0, 0))) := (set_blk HGU.out _ _).trans rfl
    have H4 : Hid ((u3.setCell ⟨g, 1, none⟩ (.int .i64 c)).heap[w.heap.size]? = some (.cells (opC 0 0 0 eN 0 0 0 0 false) 42 (0, 0))) := (Below.heap_setCell _ _ _ _ (by simp; omega)).trans HU0.out
    have HR4 : Hid (RdR (u3.setCell ⟨g, 1, none⟩ (.int .i64 c)) (w.heap.size + 1) L3 er3) := hr.same (fun q hq => Below.heap_setCell _ _ _ _ (by simp; omega))
    have HW4 : Hid (Below w.heap.size w (u3.setCell ⟨g, 1, none⟩ (.int .i64 c))) := HWU.out.setCell (p := ⟨g, 1, none⟩) (by simp; omega) _
    clear hr ht hl hk HGU HU0 HWU HR3 HG3 H3 HW3 hlt3
    go_upto_region 6 with fail
    generalize u3.setCell ⟨g, 1, none⟩ (.int .i64 c) = w4 at *
    clear hcc hff
    go_wp2_with fail
    refine (rrNum_str (w.heap.size + 1) L3 er3 w4 HR4.out).mono ?_
    rintro e u4 ⟨⟨s, rfl, is, -, L4, er4, hr, ht, hl⟩, hk⟩
    have hlt4 := HR4.out.lt
    have HGU : Hid (u4.heap[g]? = some (.cells (opC k c 0 eN 0 0 0 0 false) 42 (0, 0))) := (hk.block _ (lt_blk HG4.out) (by omega)).trans HG4.out
    have HU0 : Hid (u4.heap[w.heap.size]? = some (.cells (opC 0 0 0 eN 0 0 0 0 false) 42 (0, 0))) := (hk.block _ (lt_blk H4.out) (by omega)).trans H4.out
    have HWU : Hid (Below w.heap.size w u4) := HW4.out.trans (hk.below (by omega) (by omega))
    have HT5 : Hid (TookN L3 L4 [s] er3 er4 ∧ L4.length ≤ B.length) := ⟨ht, Nat.le_trans hl HT4.out.2⟩
    have hcc : u4.cell? ⟨g, 2, none⟩ = some (.int .i64 0) := (cell_blk HGU.out _).trans rfl
    have hff : u4.frozen? ⟨g, 2, none⟩ = false := frozen_blk HGU.out _
    have HG5 : Hid ((u4.setCell ⟨g, 2, none⟩ (.int .i64 s)).heap[g]? = some (.cells (opC k c s eN 0 0 0 0 false) 42 (0, 0))) := (set_blk HGU.out _ _).trans rfl
    have H5 : Hid ((u4.setCell ⟨g, 2, none⟩ (.int .i64 s)).heap[w.heap.size]? = some (.cells (opC 0 0 0 eN 0 0 0 0 false) 42 (0, 0))) := (Below.heap_setCell _ _ _ _ (by simp; omega)).trans HU0.out
    have HR5 : Hid (RdR (u4.setCell ⟨g, 2, none⟩ (.int .i64 s)) (w.heap.size + 1) L4 er4) := hr.same (fun q hq => Below.heap_setCell _ _ _ _ (by simp; omega))
    have HW5 : Hid (Below w.heap.size w (u4.setCell ⟨g, 2, none⟩ (.int .i64 s))) := HWU.out.setCell (p := ⟨g, 2, none⟩) (by simp; omega) _
    clear hr ht hl hk HGU HU0 HWU HR4 HG4 H4 HW4 hlt4
    go_upto_region 7 with fail
    generalize u4.setCell ⟨g, 2, none⟩ (.int .i64 s) = w5 at *
    clear hcc hff
    go_wp2_with fail
    refine (rrBytes_str (w.heap.size + 1) L4 er4 w5 HR5.out).mono ?_
    rintro e u5 ⟨vn, rfl, D, hO, hDl, hDb, hk, L5, er5, hr, hl, ht⟩
    have hlt5 := HR5.out.lt
    have HGU : Hid (u5.heap[g]? = some (.cells (opC k c s eN 0 0 0 0 false) 42 (0, 0))) := (hk.block _ (lt_blk HG5.out) (by omega)).trans HG5.out
    have HU0 : Hid (u5.heap[w.heap.size]? = some (.cells (opC 0 0 0 eN 0 0 0 0 false) 42 (0, 0))) := (hk.block _ (lt_blk H5.out) (by omega)).trans H5.out
    have HWU : Hid (Below w.heap.size w u5) := HW5.out.trans (hk.below (by omega) (by omega))
    have HT6 : Hid ((∀ D' R, NumOk (D'.length : Int) → L4 = num (D'.length : Int) ++ (D' ++ R) → D = D' ∧ L5 = R ∧ er5 = er4) ∧ L5.length ≤ B.length) := ⟨ht, Nat.le_trans hl HT5.out.2⟩
    obtain ⟨aon, cpn, rfl, -, hRn, -⟩ := OwnB.form2r hO
    have hcv := conv_str (w := u5) hRn rfl
    obtain ⟨n1, HN1⟩ : ∃ n1, Hid (strOf D = n1) := ⟨_, rfl⟩
    have HNS : Hid (n1.size ≤ B.length) := by
      show _ ≤ _
      rw [← HN1.out, strOf_size]
      exact Nat.le_trans hDl HT5.out.2
    rw [HN1.out] at hcv
    obtain ⟨dl, hdl⟩ : ∃ dl, D.length = dl := ⟨_, rfl⟩
    rw [hdl] at hcv ⊢
    clear hdl hO hDl hDb hRn
    have hcc : u5.cell? ⟨g, 3, none⟩ = some (.string eN) := (cell_blk HGU.out _).trans rfl
    have hff : u5.frozen? ⟨g, 3, none⟩ = false := frozen_blk HGU.out _
    have HG6 : Hid ((u5.setCell ⟨g, 3, none⟩ (.string n1)).heap[g]? = some (.cells (opC k c s n1 0 0 0 0 false) 42 (0, 0))) := (set_blk HGU.out _ _).trans rfl
    have H6 : Hid ((u5.setCell ⟨g, 3, none⟩ (.string n1)).heap[w.heap.size]? = some (.cells (opC 0 0 0 eN 0 0 0 0 false) 42 (0, 0))) := (Below.heap_setCell _ _ _ _ (by simp; omega)).trans HU0.out
    have HR6 : Hid (RdR (u5.setCell ⟨g, 3, none⟩ (.string n1)) (w.heap.size + 1) L5 er5) := hr.same (fun q hq => Below.heap_setCell _ _ _ _ (by simp; omega))
    have HW6 : Hid (Below w.heap.size w (u5.setCell ⟨g, 3, none⟩ (.string n1))) := HWU.out.setCell (p := ⟨g, 3, none⟩) (by simp; omega) _
    clear hr ht hl hk HGU HU0 HWU HR5 HG5 H5 HW5 hlt5
    go_upto_region 8 with fail
    generalize u5.setCell ⟨g, 3, none⟩ (.string n1) = w6 at *
    clear hcc hff hcv
    go_wp2_with fail
    refine (rrNum_str (w.heap.size + 1) L5 er5 w6 HR6.out).mono ?_
    rintro e u6 ⟨⟨p, rfl, ip, -, L6, er6, hr, ht, hl⟩, hk⟩
    have hlt6 := HR6.out.lt
    have HGU : Hid (u6.heap[g]? = some (.cells (opC k c s n1 0 0 0 0 false) 42 (0, 0))) := (hk.block _ (lt_blk HG6.out) (by omega)).trans HG6.out
    have HU0 : Hid (u6.heap[w.heap.size]? = some (.cells (opC 0 0 0 eN 0 0 0 0 false) 42 (0, 0))) := (hk.block _ (lt_blk H6.out) (by omega)).trans H6.out
    have HWU : Hid (Below w.heap.size w u6) := HW6.out.trans (hk.below (by omega) (by omega))
    have HT7 : Hid (TookN L5 L6 [p] er5 er6 ∧ L6.length ≤ B.length) := ⟨ht, Nat.le_trans hl HT6.out.2⟩
    have hcc : u6.cell? ⟨g, 4, none⟩ = some (.int .i64 0) := (cell_blk HGU.out _).trans rfl
    have hff : u6.frozen? ⟨g, 4, none⟩ = false := frozen_blk HGU.out _
    have HG7 : Hid ((u6.setCell ⟨g, 4, none⟩ (.int .i64 p)).heap[g]? = some (.cells (opC k c s n1 p 0 0 0 false) 42 (0, 0))) := (set_blk HGU.out _ _).trans rfl
    have H7 : Hid ((u6.setCell ⟨g, 4, none⟩ (.int .i64 p)).heap[w.heap.size]? = some (.cells (opC 0 0 0 eN 0 0 0 0 false) 42 (0, 0))) := (Below.heap_setCell _ _ _ _ (by simp; omega)).trans HU0.out
    have HR7 : Hid (RdR (u6.setCell ⟨g, 4, none⟩ (.int .i64 p)) (w.heap.size + 1) L6 er6) := hr.same (fun q hq => Below.heap_setCell _ _ _ _ (by simp; omega))
    have HW7 : Hid (Below w.heap.size w (u6.setCell ⟨g, 4, none⟩ (.int .i64 p))) := HWU.out.setCell (p := ⟨g, 4, none⟩) (by simp; omega) _
    clear hr ht hl hk HGU HU0 HWU HR6 HG6 H6 HW6 hlt6
    go_upto_region 9 with fail
    generalize u6.setCell ⟨g, 4, none⟩ (.int .i64 p) = w7 at *
    clear hcc hff
    go_wp2_with fail
    refine (rrNum_str (w.heap.size + 1) L6 er6 w7 HR7.out).mono ?_
    rintro e u7 ⟨⟨e', rfl, ie', -, L7, er7, hr, ht, hl⟩, hk⟩
    have hlt7 := HR7.out.lt
    have HGU : Hid (u7.heap[g]? = some (.cells (opC k c s n1 p 0 0 0 false) 42 (0, 0))) := (hk.block _ (lt_blk HG7.out) (by omega)).trans HG7.out
    have HU0 : Hid (u7.heap[w.heap.size]? = some (.cells (opC 0 0 0 eN 0 0 0 0 false) 42 (0, 0))) := (hk.block _ (lt_blk H7.out) (by omega)).trans H7.out
    have HWU : Hid (Below w.heap.size w u7) := HW7.out.trans (hk.below (by omega) (by omega))
    have HT8 : Hid (TookN L6 L7 [e'] er6 er7 ∧ L7.length ≤ B.length) := ⟨ht, Nat.le_trans hl HT7.out.2⟩
    have hcc : u7.cell? ⟨g, 5, none⟩ = some (.int .i64 0) := (cell_blk HGU.out _).trans rfl
    have hff : u7.frozen? ⟨g, 5, none⟩ = false := frozen_blk HGU.out _
    have HG8 : Hid ((u7.setCell ⟨g, 5, none⟩ (.int .i64 e')).heap[g]? = some (.cells (opC k c s n1 p e' 0 0 false) 42 (0, 0))) := (set_blk HGU.out _ _).trans rfl
    have H8 : Hid ((u7.setCell ⟨g, 5, none⟩ (.int .i64 e')).heap[w.heap.size]? = some (.cells (opC 0 0 0 eN 0 0 0 0 false) 42 (0, 0))) := (Below.heap_setCell _ _ _ _ (by simp; omega)).trans HU0.out
    have HR8 : Hid (RdR (u7.setCell ⟨g, 5, none⟩ (.int .i64 e')) (w.heap.size + 1) L7 er7) := hr.same (fun q hq => Below.heap_setCell _ _ _ _ (by simp; omega))
    have HW8 : Hid (Below w.heap.size w (u7.setCell ⟨g, 5, none⟩ (.int .i64 e'))) := HWU.out.setCell (p := ⟨g, 5, none⟩) (by simp; omega) _
    clear hr ht hl hk HGU HU0 HWU HR7 HG7 H7 HW7 hlt7
    go_upto_region 10 with fail
    generalize u7.setCell ⟨g, 5, none⟩ (.int .i64 e') = w8 at *
    clear hcc hff
    go_wp2_with fail
    refine (rrNum_str (w.heap.size + 1) L7 er7 w8 HR8.out).mono ?_
    rintro e u8 ⟨⟨t, rfl, it, -, L8, er8, hr, ht, hl⟩, hk⟩
    have hlt8 := HR8.out.lt
    have HGU : Hid (u8.heap[g]? = some (.cells (opC k c s n1 p e' 0 0 false) 42 (0, 0))) := (hk.block _ (lt_blk HG8.out) (by omega)).trans HG8.out
    have HU0 : Hid (u8.heap[w.heap.size]? = some (.cells (opC 0 0 0 eN 0 0 0 0 false) 42 (0, 0))) := (hk.block _ (lt_blk H8.out) (by omega)).trans H8.out
    have HWU : Hid (Below w.heap.size w u8) := HW8.out.trans (hk.below (by omega) (by omega))
    have HT9 : Hid (TookN L7 L8 [t] er7 er8 ∧ L8.length ≤ B.length) := ⟨ht, Nat.le_trans hl HT8.out.2⟩
    have hcc : u8.cell? ⟨g, 6, none⟩ = some (.int .i64 0) := (cell_blk HGU.out _).trans rfl
    have hff : u8.frozen? ⟨g, 6, none⟩ = false := frozen_blk HGU.out _
    have HG9 : Hid ((u8.setCell ⟨g, 6, none⟩ (.int .i64 t)).heap[g]? = some (.cells (opC k c s n1 p e' t 0 false) 42 (0, 0))) := (set_blk HGU.out _ _).trans rfl
    have H9 : Hid ((u8.setCell ⟨g, 6, none⟩ (.int .i64 t)).heap[w.heap.size]? = some (.cells (opC 0 0 0 eN 0 0 0 0 false) 42 (0, 0))) := (Below.heap_setCell _ _ _ _ (by simp; omega)).trans HU0.out
    have HR9 : Hid (RdR (u8.setCell ⟨g, 6, none⟩ (.int .i64 t)) (w.heap.size + 1) L8 er8) := hr.same (fun q hq => Below.heap_setCell _ _ _ _ (by simp; omega))
    have HW9 : Hid (Below w.heap.size w (u8.setCell ⟨g, 6, none⟩ (.int .i64 t))) := HWU.out.setCell (p := ⟨g, 6, none⟩) (by simp; omega) _
    clear hr ht hl hk HGU HU0 HWU HR8 HG8 H8 HW8 hlt8
    go_upto_region 11 with fail
    generalize u8.setCell ⟨g, 6, none⟩ (.int .i64 t) = w9 at *
    clear hcc hff
    go_wp2_with fail
    refine (rrNum_str (w.heap.size + 1) L8 er8 w9 HR9.out).mono ?_
    rintro e u9 ⟨⟨q, rfl, iq, -, L9, er9, hr, ht, hl⟩, hk⟩
    have hlt9 := HR9.out.lt
    have HGU : Hid (u9.heap[g]? = some (.cells (opC k c s n1 p e' t 0 false) 42 (0, 0))) := (hk.block _ (lt_blk HG9.out) (by omega)).trans HG9.out
    have HU0 : Hid (u9.heap[w.heap.size]? = some (.cells (opC 0 0 0 eN 0 0 0 0 false) 42 (0, 0))) := (hk.block _ (lt_blk H9.out) (by omega)).trans H9.out
    have HWU : Hid (Below w.heap.size w u9) := HW9.out.trans (hk.below (by omega) (by omega))
    have HT10 : Hid (TookN L8 L9 [q] er8 er9 ∧ L9.length ≤ B.length) := ⟨ht, Nat.le_trans hl HT9.out.2⟩
    have hcc : u9.cell? ⟨g, 7, none⟩ = some (.int .i64 0) := (cell_blk HGU.out _).trans rfl
    have hff : u9.frozen? ⟨g, 7, none⟩ = false := frozen_blk HGU.out _
    have HG10 : Hid ((u9.setCell ⟨g, 7, none⟩ (.int .i64 q)).heap[g]? = some (.cells (opC k c s n1 p e' t q false) 42 (0, 0))) := (set_blk HGU.out _ _).trans rfl
    have H10 : Hid ((u9.setCell ⟨g, 7, none⟩ (.int .i64 q)).heap[w.heap.size]? = some (.cells (opC 0 0 0 eN 0 0 0 0 false) 42 (0, 0))) := (Below.heap_setCell _ _ _ _ (by simp; omega)).trans HU0.out
    have HR10 : Hid (RdR (u9.setCell ⟨g, 7, none⟩ (.int .i64 q)) (w.heap.size + 1) L9 er9) := hr.same (fun q hq => Below.heap_setCell _ _ _ _ (by simp; omega))
    have HW10 : Hid (Below w.heap.size w (u9.setCell ⟨g, 7, none⟩ (.int .i64 q))) := HWU.out.setCell (p := ⟨g, 7, none⟩) (by simp; omega) _
    clear hr ht hl hk HGU HU0 HWU HR9 HG9 H9 HW9 hlt9
    go_upto_region 12 with fail
    generalize u9.setCell ⟨g, 7, none⟩ (.int .i64 q) = w10 at *
    clear hcc hff
    go_wp2_with fail
    refine (rrNum_str (w.heap.size + 1) L9 er9 w10 HR10.out).mono ?_
    rintro e u10 ⟨⟨y, rfl, iy, -, L10, er10, hr, ht, hl⟩, hk⟩
    have hlt10 := HR10.out.lt
    have HGU : Hid (u10.heap[g]? = some (.cells (opC k c s n1 p e' t q false) 42 (0, 0))) := (hk.block _ (lt_blk HG10.out) (by omega)).trans HG10.out
    have HU0 : Hid (u10.heap[w.heap.size]? = some (.cells (opC 0 0 0 eN 0 0 0 0 false) 42 (0, 0))) := (hk.block _ (lt_blk H10.out) (by omega)).trans H10.out
    have HWU : Hid (Below w.heap.size w u10) := HW10.out.trans (hk.below (by omega) (by omega))
    have HT11 : Hid (TookN L9 L10 [y] er9 er10 ∧ L10.length ≤ B.length) := ⟨ht, Nat.le_trans hl HT10.out.2⟩
    obtain ⟨bb, hbb⟩ : ∃ bb, (y == 1) = bb := ⟨_, rfl⟩
    have HBB : Hid ((y == 1) = bb) := hbb
    have hcc : u10.cell? ⟨g, 8, none⟩ = some (.bool false) := (cell_blk HGU.out _).trans rfl
    have hff : u10.frozen? ⟨g, 8, none⟩ = false := frozen_blk HGU.out _
    have HG11 : Hid ((u10.setCell ⟨g, 8, none⟩ (.bool bb)).heap[g]? = some (.cells (opC k c s n1 p e' t q bb) 42 (0, 0))) := (set_blk HGU.out _ _).trans rfl
    have H11 : Hid ((u10.setCell ⟨g, 8, none⟩ (.bool bb)).heap[w.heap.size]? = some (.cells (opC 0 0 0 eN 0 0 0 0 false) 42 (0, 0))) := (Below.heap_setCell _ _ _ _ (by simp; omega)).trans HU0.out
    have HR11 : Hid (RdR (u10.setCell ⟨g, 8, none⟩ (.bool bb)) (w.heap.size + 1) L10 er10) := hr.same (fun q hq => Below.heap_setCell _ _ _ _ (by simp; omega))
    have HW11 : Hid (Below w.heap.size w (u10.setCell ⟨g, 8, none⟩ (.bool bb))) := HWU.out.setCell (p := ⟨g, 8, none⟩) (by simp; omega) _
    clear hr ht hl hk HGU HU0 HWU HR10 HG10 H10 HW10 hlt10
    go_upto_region 13 with fail
    generalize u10.setCell ⟨g, 8, none⟩ (.bool bb) = w11 at *
    clear hcc hff hbb
    have HTT : Hid (∀ k1 c1 s1 n1' p1 e1 t1 q1 b1, opB k1 c1 s1 n1' p1 e1 t1 q1 b1 = true → encOp k1 c1 s1 n1' p1 e1 t1 q1 b1 = B → opC k c s n1 p e' t q bb = opC k1 c1 s1 n1' p1 e1 t1 q1 b1 ∧ L10 = [] ∧ er10 = false) := fun k1 c1 s1 n1' p1 e1 t1 q1 b1 ho hE => by
      obtain ⟨d1, d2⟩ := HSX.out k1 c1 s1 n1' p1 e1 t1 q1 b1 ho hE
      obtain ⟨m1, m2, m3, m4, m5, m6, m7, m8⟩ := opB_nums ho
      obtain ⟨x1, x2, x3⟩ := ((HT2.out.1.append HT4.out.1).append HT5.out.1) [k1, c1, s1] _ (numOk_cons m1 (numOk_cons m2 (numOk_cons m3 numOk_nil))) rfl d1
      obtain ⟨x4, x5, x6⟩ := HT6.out.1 (byL n1') _ m4 x2
      have hb : NumOk (if b1 = true then 1 else 0) := by cases b1 <;> exact ⟨by decide, by decide⟩
      obtain ⟨x7, x8, x9⟩ := ((((HT7.out.1.append HT8.out.1).append HT9.out.1).append HT10.out.1).append HT11.out.1) [p1, e1, t1, q1, if b1 = true then 1 else 0] [] (numOk_cons m5 (numOk_cons m6 (numOk_cons m7 (numOk_cons m8 (numOk_cons hb numOk_nil))))) rfl x5
      simp only [List.cons_append, List.nil_append, List.cons.injEq, and_true] at x1 x7
      refine ⟨?_, x8, x9.trans (x6.trans (x3.trans d2))⟩
      rw [x1.1, x1.2.1, x1.2.2, x7.1, x7.2.1, x7.2.2.1, x7.2.2.2.1, ← HN1.out, x4, strOf_byL, ← HBB.out, x7.2.2.2.2]
      cases b1 <;> rfl
    have hnsz : n1.size < 1073741824 := by have := HNS.out; omega
    clear HSX HT2 HT4 HT5 HT6 HT7 HT8 HT9 HT10 HT11 HN1 HBB
    go_wp2_with (refine wpList_load_op rfl _ rfl g k c s n1 p e' t q bb 42 (0, 0) ?_ ?_ ?_; rfl; exact HG11.out)
    refine (rEncodeOp_any k c s n1 p e' t q bb w11 ik ic is ip ie' it iq hnsz).mono ?_
    rintro x w7 ⟨v7, rfl, hO7, hB7⟩
    have HG7 : Hid (w7.heap[g]? = some (.cells (opC k c s n1 p e' t q bb) 42 (0, 0))) := (hB7.block _ (lt_blk HG11.out)).trans HG11.out
    have H7 : Hid (w7.heap[w.heap.size]? = some (.cells (opC 0 0 0 eN 0 0 0 0 false) 42 (0, 0))) := (hB7.block _ (lt_blk H11.out)).trans H11.out
    have HR7 : Hid (RdR w7 (w.heap.size + 1) L10 er10) := HR11.out.same (fun q hq => hB7.block _ (by have := HR11.out.lt; omega))
    have HW7 : Hid (Below w.heap.size w w7) := HW11.out.trans (hB7.mono (by have := lt_blk H11.out; omega))
    obtain ⟨ok, HOK⟩ : ∃ ok, Hid (opB k c s n1 p e' t q bb = ok) := ⟨_, rfl⟩
    rw [HOK.out] at hO7 ⊢
    obtain ⟨ao7, c7, rfl, -, hR7, -⟩ := OwnB.form2r hO7
    have HC7 : Hid (Rowed w7 ao7 (if ok = true then encOp k c s n1 p e' t q bb else []) c7) := hR7
    clear hO7 hB7 hR7 HG11 H11 HR11 HW11
    obtain ⟨n7, HN7⟩ : ∃ n7, Hid ((if ok = true then encOp k c s n1 p e' t q bb else []).length = n7) := ⟨_, rfl⟩
    rw [HN7.out]
    obtain ⟨fe, HFE⟩ : ∃ fe : Int, Hid ((if ok = true then (0 : Int) else 1) = fe) := ⟨_, rfl⟩
    rw [HFE.out]
    go_wp2_with fail
    refine (rrWhole_str (w.heap.size + 1) L10 er10 w7 HR7.out).mono ?_
    rintro x w8 ⟨rfl, rfl⟩
    obtain ⟨wh, HWH⟩ : ∃ wh, Hid ((!er10 && decide (L10 = [])) = wh) := ⟨_, rfl⟩
    rw [HWH.out]
    cases wh
    case false =>
      have HD : Hid (DecOp B (.returned (.tuple #[.agg (opC 0 0 0 eN 0 0 0 0 false), .int .i64 2]))) := roNone HTT.out (.inl (fun h1 h2 => by have := HWH.out; rw [h1, h2] at this; simp at this))
      go_upto_region 15 with fail
      go_wp2_with (refine wpList_store_op rfl _ _ rfl w.heap.size 0 0 0 eN 0 0 0 0 false (opC 0 0 0 eN 0 0 0 0 false) ?_ ?_ ?_ ?_ ?_; rfl; rfl; exact H7.out; rfl)
      have HC8 : Hid ((w8.setRow w.heap.size (opC 0 0 0 eN 0 0 0 0 false)).heap[w.heap.size]? = some (.cells (opC 0 0 0 eN 0 0 0 0 false) 42 (0, 0))) := setRow_blk H7.out _
      have hW8 : Below w.heap.size w (w8.setRow w.heap.size (opC 0 0 0 eN 0 0 0 0 false)) := HW7.out.trans ((keeps_setRow w8 _ _).below (Nat.le_refl _) (by have := lt_blk H7.out; omega))
      refine bodyPost_ret (v := .tuple #[.agg (opC 0 0 0 eN 0 0 0 0 false), .int .i64 2]) ?_ rfl ⟨HD.out, hW8⟩
      exact results_cell_tmp (p := 2) (q := 3) rfl _ _ w.heap.size _ _ rfl rfl (load_op_cell _ _ _ _ _ _ _ _ _ _ _ _ _ HC8.out)
    case true =>
      cases ok
      case false =>
        obtain rfl : fe = 1 := HFE.out.symm
        have HD : Hid (DecOp B (.returned (.tuple #[.agg (opC 0 0 0 eN 0 0 0 0 false), .int .i64 2]))) := roNone HTT.out (.inr (.inl HOK.out))
        go_upto_region 15 with fail
        go_wp2_with (refine wpList_store_op rfl _ _ rfl w.heap.size 0 0 0 eN 0 0 0 0 false (opC 0 0 0 eN 0 0 0 0 false) ?_ ?_ ?_ ?_ ?_; rfl; rfl; exact H7.out; rfl)
        have HC8 : Hid ((w8.setRow w.heap.size (opC 0 0 0 eN 0 0 0 0 false)).heap[w.heap.size]? = some (.cells (opC 0 0 0 eN 0 0 0 0 false) 42 (0, 0))) := setRow_blk H7.out _
        have hW8 : Below w.heap.size w (w8.setRow w.heap.size (opC 0 0 0 eN 0 0 0 0 false)) := HW7.out.trans ((keeps_setRow w8 _ _).below (Nat.le_refl _) (by have := lt_blk H7.out; omega))
        refine bodyPost_ret (v := .tuple #[.agg (opC 0 0 0 eN 0 0 0 0 false), .int .i64 2]) ?_ rfl ⟨HD.out, hW8⟩
        exact results_cell_tmp (p := 2) (q := 3) rfl _ _ w.heap.size _ _ rfl rfl (load_op_cell _ _ _ _ _ _ _ _ _ _ _ _ _ HC8.out)
      case true =>
        obtain rfl : fe = 0 := HFE.out.symm
        simp only [if_true] at HC7 HN7
        have hcv1 := conv_str (w := w8) HC7.out HN7.out.symm
        have hcv2 := conv_str (w := w8) (HR.out.below HW7.out (Nat.le_refl _)) HN.out.symm
        obtain ⟨sA, HSA⟩ : ∃ sA, Hid (strOf (encOp k c s n1 p e' t q bb) = sA) := ⟨_, rfl⟩
        obtain ⟨sB, HSB⟩ : ∃ sB, Hid (strOf B = sB) := ⟨_, rfl⟩
        rw [HSA.out] at hcv1
        rw [HSB.out] at hcv2
        by_cases hs : sA = sB
        case neg =>
          have hs1 : (sA.toList == sB.toList) = false := beq_false_of_ne (fun h => hs (ByteArray.ext (Array.toList_inj.1 (by rw [← ByteArray.toList_eq, ← ByteArray.toList_eq]; exact h))))
          have HD : Hid (DecOp B (.returned (.tuple #[.agg (opC 0 0 0 eN 0 0 0 0 false), .int .i64 2]))) := roNone HTT.out (.inr (.inr (fun h => hs (HSA.out.symm.trans ((congrArg strOf h).trans HSB.out)))))
          go_upto_region 15 with fail
          go_wp2_with (refine wpList_store_op rfl _ _ rfl w.heap.size 0 0 0 eN 0 0 0 0 false (opC 0 0 0 eN 0 0 0 0 false) ?_ ?_ ?_ ?_ ?_; rfl; rfl; exact H7.out; rfl)
          have HC8 : Hid ((w8.setRow w.heap.size (opC 0 0 0 eN 0 0 0 0 false)).heap[w.heap.size]? = some (.cells (opC 0 0 0 eN 0 0 0 0 false) 42 (0, 0))) := setRow_blk H7.out _
          have hW8 : Below w.heap.size w (w8.setRow w.heap.size (opC 0 0 0 eN 0 0 0 0 false)) := HW7.out.trans ((keeps_setRow w8 _ _).below (Nat.le_refl _) (by have := lt_blk H7.out; omega))
          refine bodyPost_ret (v := .tuple #[.agg (opC 0 0 0 eN 0 0 0 0 false), .int .i64 2]) ?_ rfl ⟨HD.out, hW8⟩
          exact results_cell_tmp (p := 2) (q := 3) rfl _ _ w.heap.size _ _ rfl rfl (load_op_cell _ _ _ _ _ _ _ _ _ _ _ _ _ HC8.out)
        case pos =>
          subst hs
          have HEQ : Hid (encOp k c s n1 p e' t q bb = B) := strOf_inj (encOp_bytes _ _ _ _ _ _ _ _ _) HY.out (HSA.out.trans HSB.out.symm)
          go_wp2_with (first | (refine wpList_load_op rfl _ rfl g k c s n1 p e' t q bb 42 (0, 0) ?_ ?_ ?_; rfl; exact HG7.out) | (refine wpList_store_op rfl _ _ rfl w.heap.size k c s n1 p e' t q bb (opC 0 0 0 eN 0 0 0 0 false) ?_ ?_ ?_ ?_ ?_; rfl; rfl; exact H7.out; rfl))
          have HC8 : Hid ((w8.setRow w.heap.size (opC k c s n1 p e' t q bb)).heap[w.heap.size]? = some (.cells (opC k c s n1 p e' t q bb) 42 (0, 0))) := setRow_blk H7.out _
          have hW8 : Below w.heap.size w (w8.setRow w.heap.size (opC k c s n1 p e' t q bb)) := HW7.out.trans ((keeps_setRow w8 _ _).below (Nat.le_refl _) (by have := lt_blk H7.out; omega))
          refine bodyPost_ret (v := .tuple #[.agg (opC k c s n1 p e' t q bb), .int .i64 0]) ?_ rfl ⟨⟨k, c, s, n1, p, e', t, q, bb, 0, rfl, .inl ⟨rfl, HOK.out, HEQ.out⟩⟩, hW8⟩
          exact results_cell_tmp (p := 2) (q := 3) rfl _ _ w.heap.size _ _ rfl rfl (load_op_cell _ _ _ _ _ _ _ _ _ _ _ _ _ HC8.out)
  · have HT1 : Hid (∀ k1 c1 s1 n1 p1 e1 t1 q1 b1, opB k1 c1 s1 n1 p1 e1 t1 q1 b1 = true → encOp k1 c1 s1 n1 p1 e1 t1 q1 b1 = B → False) := fun k1 c1 s1 n1 p1 e1 t1 q1 b1 _ hE => hz (ht1.one ⟨by decide, by decide⟩ (op_sep hE)).1
    have HR1 : Hid (RdR w1 (w.heap.size + 1) L1 er1) := hr1
    clear hr1 ht1 hl1 hk1 HB2 H0 HRR
    go_wp2_with fail
    refine (rrBad_str (w.heap.size + 1) L1 er1 w1 HR1.out).mono ?_
    rintro e w1' ⟨rfl, hr2, hk2, -⟩
    have hlt1 := HR1.out.lt
    have H1' : Hid (w1'.heap[w.heap.size]? = some (.cells (opC 0 0 0 eN 0 0 0 0 false) 42 (0, 0))) := (hk2.block _ (by omega) (by omega)).trans H1.out
    have HW1' : Hid (Below w.heap.size w w1') := HW1.out.trans (hk2.below (by omega) (by omega))
    have HRX : Hid (RdR w1' (w.heap.size + 1) [] true) := hr2
    have HLX : Hid (([] : List Int).length ≤ B.length) := Nat.zero_le _
    have HSX : Hid (∀ k1 c1 s1 n1 p1 e1 t1 q1 b1, opB k1 c1 s1 n1 p1 e1 t1 q1 b1 = true → encOp k1 c1 s1 n1 p1 e1 t1 q1 b1 = B → ([] : List Int) = nums [k1, c1, s1] ++ (num ((byL n1).length : Int) ++ (byL n1 ++ (nums [p1, e1, t1, q1, if b1 = true then 1 else 0] ++ []))) ∧ true = false) := fun k1 c1 s1 n1 p1 e1 t1 q1 b1 ho hE => (HT1.out k1 c1 s1 n1 p1 e1 t1 q1 b1 ho hE).elim
    clear hr2 hk2 HR1 HT1 H1 HW1 hlt1
    go_wp2_with fail
    refine (rrNum_str (w.heap.size + 1) ([] : List Int) true w1' HRX.out).mono ?_
    rintro e w2 ⟨⟨k, rfl, ik, -, L2, er2, hr2, ht2, hl2⟩, hk2⟩
    have hlt1 := HRX.out.lt
    have H2 : Hid (w2.heap[w.heap.size]? = some (.cells (opC 0 0 0 eN 0 0 0 0 false) 42 (0, 0))) := (hk2.block _ (by omega) (by omega)).trans H1'.out
    have HW2 : Hid (Below w.heap.size w w2) := HW1'.out.trans (hk2.below (by omega) (by omega))
    have HR2 : Hid (RdR w2 (w.heap.size + 1) L2 er2) := hr2
    have HT2 : Hid (TookN ([] : List Int) L2 [k] true er2 ∧ L2.length ≤ B.length) := ⟨ht2, Nat.le_trans hl2 HLX.out⟩
    clear hr2 ht2 hl2 hk2 HRX H1' HW1' hlt1
    go_upto_region 5 with (refine wpList_store_op rfl _ _ rfl w2.heap.size k 0 0 eN 0 0 0 0 false (opC 0 0 0 eN 0 0 0 0 false) ?_ ?_ (alloc_blk _ _) ?_ ?_; rfl; rfl; rfl)
    rw [setRow_new]
    have hlt2 := HR2.out.lt
    have HG3 : Hid ((w2.alloc (.cells (opC k 0 0 eN 0 0 0 0 false) 42)).heap[w2.heap.size]? = some (.cells (opC k 0 0 eN 0 0 0 0 false) 42 (0, 0))) := alloc_blk _ _
    have H3 : Hid ((w2.alloc (.cells (opC k 0 0 eN 0 0 0 0 false) 42)).heap[w.heap.size]? = some (.cells (opC 0 0 0 eN 0 0 0 0 false) 42 (0, 0))) := alloc_blk_old H2.out _
    have HR3 : Hid (RdR (w2.alloc (.cells (opC k 0 0 eN 0 0 0 0 false) 42)) (w.heap.size + 1) L2 er2) := HR2.out.same (fun q hq => (below_alloc _ _).block q (by omega))
    have HW3 : Hid (Below w.heap.size w (w2.alloc (.cells (opC k 0 0 eN 0 0 0 0 false) 42))) := HW2.out.alloc (by omega) _
    generalize w2.alloc (.cells (opC k 0 0 eN 0 0 0 0 false) 42) = w3 at *
    obtain ⟨g, hg⟩ : ∃ g, w2.heap.size = g := ⟨_, rfl⟩
    rw [hg] at HG3 hlt2
    simp only [hg]
    clear hg HR2 H2 HW2
    go_wp2_with fail
    refine (rrNum_str (w.heap.size + 1) L2 er2 w3 HR3.out).mono ?_
    rintro e u3 ⟨⟨c, rfl, ic, -, L3, er3, hr, ht, hl⟩, hk⟩
    have hlt3 := HR3.out.lt
    have HGU : Hid (u3.heap[g]? = some (.cells (opC k 0 0 eN 0 0 0 0 false) 42 (0, 0))) := (hk.block _ (lt_blk HG3.out) (by omega)).trans HG3.out
    have HU0 : Hid (u3.heap[w.heap.size]? = some (.cells (opC 0 0 0 eN 0 0 0 0 false) 42 (0, 0))) := (hk.block _ (lt_blk H3.out) (by omega)).trans H3.out
    have HWU : Hid (Below w.heap.size w u3) := HW3.out.trans (hk.below (by omega) (by omega))
    have HT4 : Hid (TookN L2 L3 [c] er2 er3 ∧ L3.length ≤ B.length) := ⟨ht, Nat.le_trans hl HT2.out.2⟩
    have hcc : u3.cell? ⟨g, 1, none⟩ = some (.int .i64 0) := (cell_blk HGU.out _).trans rfl
    have hff : u3.frozen? ⟨g, 1, none⟩ = false := frozen_blk HGU.out _
    have HG4 : Hid ((u3.setCell ⟨g, 1, none⟩ (.int .i64 c)).heap[g]? = some (.cells (opC k c 0 eN 0 0 0 0 false) 42 (0, 0))) := (set_blk HGU.out _ _).trans rfl
    have H4 : Hid ((u3.setCell ⟨g, 1, none⟩ (.int .i64 c)).heap[w.heap.size]? = some (.cells (opC 0 0 0 eN 0 0 0 0 false) 42 (0, 0))) := (Below.heap_setCell _ _ _ _ (by simp; omega)).trans HU0.out
    have HR4 : Hid (RdR (u3.setCell ⟨g, 1, none⟩ (.int .i64 c)) (w.heap.size + 1) L3 er3) := hr.same (fun q hq => Below.heap_setCell _ _ _ _ (by simp; omega))
    have HW4 : Hid (Below w.heap.size w (u3.setCell ⟨g, 1, none⟩ (.int .i64 c))) := HWU.out.setCell (p := ⟨g, 1, none⟩) (by simp; omega) _
    clear hr ht hl hk HGU HU0 HWU HR3 HG3 H3 HW3 hlt3
    go_upto_region 6 with fail
    generalize u3.setCell ⟨g, 1, none⟩ (.int .i64 c) = w4 at *
    clear hcc hff
    go_wp2_with fail
    refine (rrNum_str (w.heap.size + 1) L3 er3 w4 HR4.out).mono ?_
    rintro e u4 ⟨⟨s, rfl, is, -, L4, er4, hr, ht, hl⟩, hk⟩
    have hlt4 := HR4.out.lt
    have HGU : Hid (u4.heap[g]? = some (.cells (opC k c 0 eN 0 0 0 0 false) 42 (0, 0))) := (hk.block _ (lt_blk HG4.out) (by omega)).trans HG4.out
    have HU0 : Hid (u4.heap[w.heap.size]? = some (.cells (opC 0 0 0 eN 0 0 0 0 false) 42 (0, 0))) := (hk.block _ (lt_blk H4.out) (by omega)).trans H4.out
    have HWU : Hid (Below w.heap.size w u4) := HW4.out.trans (hk.below (by omega) (by omega))
    have HT5 : Hid (TookN L3 L4 [s] er3 er4 ∧ L4.length ≤ B.length) := ⟨ht, Nat.le_trans hl HT4.out.2⟩
    have hcc : u4.cell? ⟨g, 2, none⟩ = some (.int .i64 0) := (cell_blk HGU.out _).trans rfl
    have hff : u4.frozen? ⟨g, 2, none⟩ = false := frozen_blk HGU.out _
    have HG5 : Hid ((u4.setCell ⟨g, 2, none⟩ (.int .i64 s)).heap[g]? = some (.cells (opC k c s eN 0 0 0 0 false) 42 (0, 0))) := (set_blk HGU.out _ _).trans rfl
    have H5 : Hid ((u4.setCell ⟨g, 2, none⟩ (.int .i64 s)).heap[w.heap.size]? = some (.cells (opC 0 0 0 eN 0 0 0 0 false) 42 (0, 0))) := (Below.heap_setCell _ _ _ _ (by simp; omega)).trans HU0.out
    have HR5 : Hid (RdR (u4.setCell ⟨g, 2, none⟩ (.int .i64 s)) (w.heap.size + 1) L4 er4) := hr.same (fun q hq => Below.heap_setCell _ _ _ _ (by simp; omega))
    have HW5 : Hid (Below w.heap.size w (u4.setCell ⟨g, 2, none⟩ (.int .i64 s))) := HWU.out.setCell (p := ⟨g, 2, none⟩) (by simp; omega) _
    clear hr ht hl hk HGU HU0 HWU HR4 HG4 H4 HW4 hlt4
    go_upto_region 7 with fail
    generalize u4.setCell ⟨g, 2, none⟩ (.int .i64 s) = w5 at *
    clear hcc hff
    go_wp2_with fail
    refine (rrBytes_str (w.heap.size + 1) L4 er4 w5 HR5.out).mono ?_
    rintro e u5 ⟨vn, rfl, D, hO, hDl, hDb, hk, L5, er5, hr, hl, ht⟩
    have hlt5 := HR5.out.lt
    have HGU : Hid (u5.heap[g]? = some (.cells (opC k c s eN 0 0 0 0 false) 42 (0, 0))) := (hk.block _ (lt_blk HG5.out) (by omega)).trans HG5.out
    have HU0 : Hid (u5.heap[w.heap.size]? = some (.cells (opC 0 0 0 eN 0 0 0 0 false) 42 (0, 0))) := (hk.block _ (lt_blk H5.out) (by omega)).trans H5.out
    have HWU : Hid (Below w.heap.size w u5) := HW5.out.trans (hk.below (by omega) (by omega))
    have HT6 : Hid ((∀ D' R, NumOk (D'.length : Int) → L4 = num (D'.length : Int) ++ (D' ++ R) → D = D' ∧ L5 = R ∧ er5 = er4) ∧ L5.length ≤ B.length) := ⟨ht, Nat.le_trans hl HT5.out.2⟩
    obtain ⟨aon, cpn, rfl, -, hRn, -⟩ := OwnB.form2r hO
    have hcv := conv_str (w := u5) hRn rfl
    obtain ⟨n1, HN1⟩ : ∃ n1, Hid (strOf D = n1) := ⟨_, rfl⟩
    have HNS : Hid (n1.size ≤ B.length) := by
      show _ ≤ _
      rw [← HN1.out, strOf_size]
      exact Nat.le_trans hDl HT5.out.2
    rw [HN1.out] at hcv
    obtain ⟨dl, hdl⟩ : ∃ dl, D.length = dl := ⟨_, rfl⟩
    rw [hdl] at hcv ⊢
    clear hdl hO hDl hDb hRn
    have hcc : u5.cell? ⟨g, 3, none⟩ = some (.string eN) := (cell_blk HGU.out _).trans rfl
    have hff : u5.frozen? ⟨g, 3, none⟩ = false := frozen_blk HGU.out _
    have HG6 : Hid ((u5.setCell ⟨g, 3, none⟩ (.string n1)).heap[g]? = some (.cells (opC k c s n1 0 0 0 0 false) 42 (0, 0))) := (set_blk HGU.out _ _).trans rfl
    have H6 : Hid ((u5.setCell ⟨g, 3, none⟩ (.string n1)).heap[w.heap.size]? = some (.cells (opC 0 0 0 eN 0 0 0 0 false) 42 (0, 0))) := (Below.heap_setCell _ _ _ _ (by simp; omega)).trans HU0.out
    have HR6 : Hid (RdR (u5.setCell ⟨g, 3, none⟩ (.string n1)) (w.heap.size + 1) L5 er5) := hr.same (fun q hq => Below.heap_setCell _ _ _ _ (by simp; omega))
    have HW6 : Hid (Below w.heap.size w (u5.setCell ⟨g, 3, none⟩ (.string n1))) := HWU.out.setCell (p := ⟨g, 3, none⟩) (by simp; omega) _
    clear hr ht hl hk HGU HU0 HWU HR5 HG5 H5 HW5 hlt5
    go_upto_region 8 with fail
    generalize u5.setCell ⟨g, 3, none⟩ (.string n1) = w6 at *
    clear hcc hff hcv
    go_wp2_with fail
    refine (rrNum_str (w.heap.size + 1) L5 er5 w6 HR6.out).mono ?_
    rintro e u6 ⟨⟨p, rfl, ip, -, L6, er6, hr, ht, hl⟩, hk⟩
    have hlt6 := HR6.out.lt
    have HGU : Hid (u6.heap[g]? = some (.cells (opC k c s n1 0 0 0 0 false) 42 (0, 0))) := (hk.block _ (lt_blk HG6.out) (by omega)).trans HG6.out
    have HU0 : Hid (u6.heap[w.heap.size]? = some (.cells (opC 0 0 0 eN 0 0 0 0 false) 42 (0, 0))) := (hk.block _ (lt_blk H6.out) (by omega)).trans H6.out
    have HWU : Hid (Below w.heap.size w u6) := HW6.out.trans (hk.below (by omega) (by omega))
    have HT7 : Hid (TookN L5 L6 [p] er5 er6 ∧ L6.length ≤ B.length) := ⟨ht, Nat.le_trans hl HT6.out.2⟩
    have hcc : u6.cell? ⟨g, 4, none⟩ = some (.int .i64 0) := (cell_blk HGU.out _).trans rfl
    have hff : u6.frozen? ⟨g, 4, none⟩ = false := frozen_blk HGU.out _
    have HG7 : Hid ((u6.setCell ⟨g, 4, none⟩ (.int .i64 p)).heap[g]? = some (.cells (opC k c s n1 p 0 0 0 false) 42 (0, 0))) := (set_blk HGU.out _ _).trans rfl
    have H7 : Hid ((u6.setCell ⟨g, 4, none⟩ (.int .i64 p)).heap[w.heap.size]? = some (.cells (opC 0 0 0 eN 0 0 0 0 false) 42 (0, 0))) := (Below.heap_setCell _ _ _ _ (by simp; omega)).trans HU0.out
    have HR7 : Hid (RdR (u6.setCell ⟨g, 4, none⟩ (.int .i64 p)) (w.heap.size + 1) L6 er6) := hr.same (fun q hq => Below.heap_setCell _ _ _ _ (by simp; omega))
    have HW7 : Hid (Below w.heap.size w (u6.setCell ⟨g, 4, none⟩ (.int .i64 p))) := HWU.out.setCell (p := ⟨g, 4, none⟩) (by simp; omega) _
    clear hr ht hl hk HGU HU0 HWU HR6 HG6 H6 HW6 hlt6
    go_upto_region 9 with fail
    generalize u6.setCell ⟨g, 4, none⟩ (.int .i64 p) = w7 at *
    clear hcc hff
    go_wp2_with fail
    refine (rrNum_str (w.heap.size + 1) L6 er6 w7 HR7.out).mono ?_
    rintro e u7 ⟨⟨e', rfl, ie', -, L7, er7, hr, ht, hl⟩, hk⟩
    have hlt7 := HR7.out.lt
    have HGU : Hid (u7.heap[g]? = some (.cells (opC k c s n1 p 0 0 0 false) 42 (0, 0))) := (hk.block _ (lt_blk HG7.out) (by omega)).trans HG7.out
    have HU0 : Hid (u7.heap[w.heap.size]? = some (.cells (opC 0 0 0 eN 0 0 0 0 false) 42 (0, 0))) := (hk.block _ (lt_blk H7.out) (by omega)).trans H7.out
    have HWU : Hid (Below w.heap.size w u7) := HW7.out.trans (hk.below (by omega) (by omega))
    have HT8 : Hid (TookN L6 L7 [e'] er6 er7 ∧ L7.length ≤ B.length) := ⟨ht, Nat.le_trans hl HT7.out.2⟩
    have hcc : u7.cell? ⟨g, 5, none⟩ = some (.int .i64 0) := (cell_blk HGU.out _).trans rfl
    have hff : u7.frozen? ⟨g, 5, none⟩ = false := frozen_blk HGU.out _
    have HG8 : Hid ((u7.setCell ⟨g, 5, none⟩ (.int .i64 e')).heap[g]? = some (.cells (opC k c s n1 p e' 0 0 false) 42 (0, 0))) := (set_blk HGU.out _ _).trans rfl
    have H8 : Hid ((u7.setCell ⟨g, 5, none⟩ (.int .i64 e')).heap[w.heap.size]? = some (.cells (opC 0 0 0 eN 0 0 0 0 false) 42 (0, 0))) := (Below.heap_setCell _ _ _ _ (by simp; omega)).trans HU0.out
    have HR8 : Hid (RdR (u7.setCell ⟨g, 5, none⟩ (.int .i64 e')) (w.heap.size + 1) L7 er7) := hr.same (fun q hq => Below.heap_setCell _ _ _ _ (by simp; omega))
    have HW8 : Hid (Below w.heap.size w (u7.setCell ⟨g, 5, none⟩ (.int .i64 e'))) := HWU.out.setCell (p := ⟨g, 5, none⟩) (by simp; omega) _
    clear hr ht hl hk HGU HU0 HWU HR7 HG7 H7 HW7 hlt7
    go_upto_region 10 with fail
    generalize u7.setCell ⟨g, 5, none⟩ (.int .i64 e') = w8 at *
    clear hcc hff
    go_wp2_with fail
    refine (rrNum_str (w.heap.size + 1) L7 er7 w8 HR8.out).mono ?_
    rintro e u8 ⟨⟨t, rfl, it, -, L8, er8, hr, ht, hl⟩, hk⟩
    have hlt8 := HR8.out.lt
    have HGU : Hid (u8.heap[g]? = some (.cells (opC k c s n1 p e' 0 0 false) 42 (0, 0))) := (hk.block _ (lt_blk HG8.out) (by omega)).trans HG8.out
    have HU0 : Hid (u8.heap[w.heap.size]? = some (.cells (opC 0 0 0 eN 0 0 0 0 false) 42 (0, 0))) := (hk.block _ (lt_blk H8.out) (by omega)).trans H8.out
    have HWU : Hid (Below w.heap.size w u8) := HW8.out.trans (hk.below (by omega) (by omega))
    have HT9 : Hid (TookN L7 L8 [t] er7 er8 ∧ L8.length ≤ B.length) := ⟨ht, Nat.le_trans hl HT8.out.2⟩
    have hcc : u8.cell? ⟨g, 6, none⟩ = some (.int .i64 0) := (cell_blk HGU.out _).trans rfl
    have hff : u8.frozen? ⟨g, 6, none⟩ = false := frozen_blk HGU.out _
    have HG9 : Hid ((u8.setCell ⟨g, 6, none⟩ (.int .i64 t)).heap[g]? = some (.cells (opC k c s n1 p e' t 0 false) 42 (0, 0))) := (set_blk HGU.out _ _).trans rfl
    have H9 : Hid ((u8.setCell ⟨g, 6, none⟩ (.int .i64 t)).heap[w.heap.size]? = some (.cells (opC 0 0 0 eN 0 0 0 0 false) 42 (0, 0))) := (Below.heap_setCell _ _ _ _ (by simp; omega)).trans HU0.out
    have HR9 : Hid (RdR (u8.setCell ⟨g, 6, none⟩ (.int .i64 t)) (w.heap.size + 1) L8 er8) := hr.same (fun q hq => Below.heap_setCell _ _ _ _ (by simp; omega))
    have HW9 : Hid (Below w.heap.size w (u8.setCell ⟨g, 6, none⟩ (.int .i64 t))) := HWU.out.setCell (p := ⟨g, 6, none⟩) (by simp; omega) _
    clear hr ht hl hk HGU HU0 HWU HR8 HG8 H8 HW8 hlt8
    go_upto_region 11 with fail
    generalize u8.setCell ⟨g, 6, none⟩ (.int .i64 t) = w9 at *
    clear hcc hff
    go_wp2_with fail
    refine (rrNum_str (w.heap.size + 1) L8 er8 w9 HR9.out).mono ?_
    rintro e u9 ⟨⟨q, rfl, iq, -, L9, er9, hr, ht, hl⟩, hk⟩
    have hlt9 := HR9.out.lt
    have HGU : Hid (u9.heap[g]? = some (.cells (opC k c s n1 p e' t 0 false) 42 (0, 0))) := (hk.block _ (lt_blk HG9.out) (by omega)).trans HG9.out
    have HU0 : Hid (u9.heap[w.heap.size]? = some (.cells (opC 0 0 0 eN 0 0 0 0 false) 42 (0, 0))) := (hk.block _ (lt_blk H9.out) (by omega)).trans H9.out
    have HWU : Hid (Below w.heap.size w u9) := HW9.out.trans (hk.below (by omega) (by omega))
    have HT10 : Hid (TookN L8 L9 [q] er8 er9 ∧ L9.length ≤ B.length) := ⟨ht, Nat.le_trans hl HT9.out.2⟩
    have hcc : u9.cell? ⟨g, 7, none⟩ = some (.int .i64 0) := (cell_blk HGU.out _).trans rfl
    have hff : u9.frozen? ⟨g, 7, none⟩ = false := frozen_blk HGU.out _
    have HG10 : Hid ((u9.setCell ⟨g, 7, none⟩ (.int .i64 q)).heap[g]? = some (.cells (opC k c s n1 p e' t q false) 42 (0, 0))) := (set_blk HGU.out _ _).trans rfl
    have H10 : Hid ((u9.setCell ⟨g, 7, none⟩ (.int .i64 q)).heap[w.heap.size]? = some (.cells (opC 0 0 0 eN 0 0 0 0 false) 42 (0, 0))) := (Below.heap_setCell _ _ _ _ (by simp; omega)).trans HU0.out
    have HR10 : Hid (RdR (u9.setCell ⟨g, 7, none⟩ (.int .i64 q)) (w.heap.size + 1) L9 er9) := hr.same (fun q hq => Below.heap_setCell _ _ _ _ (by simp; omega))
    have HW10 : Hid (Below w.heap.size w (u9.setCell ⟨g, 7, none⟩ (.int .i64 q))) := HWU.out.setCell (p := ⟨g, 7, none⟩) (by simp; omega) _
    clear hr ht hl hk HGU HU0 HWU HR9 HG9 H9 HW9 hlt9
    go_upto_region 12 with fail
    generalize u9.setCell ⟨g, 7, none⟩ (.int .i64 q) = w10 at *
    clear hcc hff
    go_wp2_with fail
    refine (rrNum_str (w.heap.size + 1) L9 er9 w10 HR10.out).mono ?_
    rintro e u10 ⟨⟨y, rfl, iy, -, L10, er10, hr, ht, hl⟩, hk⟩
    have hlt10 := HR10.out.lt
    have HGU : Hid (u10.heap[g]? = some (.cells (opC k c s n1 p e' t q false) 42 (0, 0))) := (hk.block _ (lt_blk HG10.out) (by omega)).trans HG10.out
    have HU0 : Hid (u10.heap[w.heap.size]? = some (.cells (opC 0 0 0 eN 0 0 0 0 false) 42 (0, 0))) := (hk.block _ (lt_blk H10.out) (by omega)).trans H10.out
    have HWU : Hid (Below w.heap.size w u10) := HW10.out.trans (hk.below (by omega) (by omega))
    have HT11 : Hid (TookN L9 L10 [y] er9 er10 ∧ L10.length ≤ B.length) := ⟨ht, Nat.le_trans hl HT10.out.2⟩
    obtain ⟨bb, hbb⟩ : ∃ bb, (y == 1) = bb := ⟨_, rfl⟩
    have HBB : Hid ((y == 1) = bb) := hbb
    have hcc : u10.cell? ⟨g, 8, none⟩ = some (.bool false) := (cell_blk HGU.out _).trans rfl
    have hff : u10.frozen? ⟨g, 8, none⟩ = false := frozen_blk HGU.out _
    have HG11 : Hid ((u10.setCell ⟨g, 8, none⟩ (.bool bb)).heap[g]? = some (.cells (opC k c s n1 p e' t q bb) 42 (0, 0))) := (set_blk HGU.out _ _).trans rfl
    have H11 : Hid ((u10.setCell ⟨g, 8, none⟩ (.bool bb)).heap[w.heap.size]? = some (.cells (opC 0 0 0 eN 0 0 0 0 false) 42 (0, 0))) := (Below.heap_setCell _ _ _ _ (by simp; omega)).trans HU0.out
    have HR11 : Hid (RdR (u10.setCell ⟨g, 8, none⟩ (.bool bb)) (w.heap.size + 1) L10 er10) := hr.same (fun q hq => Below.heap_setCell _ _ _ _ (by simp; omega))
    have HW11 : Hid (Below w.heap.size w (u10.setCell ⟨g, 8, none⟩ (.bool bb))) := HWU.out.setCell (p := ⟨g, 8, none⟩) (by simp; omega) _
    clear hr ht hl hk HGU HU0 HWU HR10 HG10 H10 HW10 hlt10
    go_upto_region 13 with fail
    generalize u10.setCell ⟨g, 8, none⟩ (.bool bb) = w11 at *
    clear hcc hff hbb
    have HTT : Hid (∀ k1 c1 s1 n1' p1 e1 t1 q1 b1, opB k1 c1 s1 n1' p1 e1 t1 q1 b1 = true → encOp k1 c1 s1 n1' p1 e1 t1 q1 b1 = B → opC k c s n1 p e' t q bb = opC k1 c1 s1 n1' p1 e1 t1 q1 b1 ∧ L10 = [] ∧ er10 = false) := fun k1 c1 s1 n1' p1 e1 t1 q1 b1 ho hE => by
      obtain ⟨d1, d2⟩ := HSX.out k1 c1 s1 n1' p1 e1 t1 q1 b1 ho hE
      obtain ⟨m1, m2, m3, m4, m5, m6, m7, m8⟩ := opB_nums ho
      obtain ⟨x1, x2, x3⟩ := ((HT2.out.1.append HT4.out.1).append HT5.out.1) [k1, c1, s1] _ (numOk_cons m1 (numOk_cons m2 (numOk_cons m3 numOk_nil))) rfl d1
      obtain ⟨x4, x5, x6⟩ := HT6.out.1 (byL n1') _ m4 x2
      have hb : NumOk (if b1 = true then 1 else 0) := by cases b1 <;> exact ⟨by decide, by decide⟩
      obtain ⟨x7, x8, x9⟩ := ((((HT7.out.1.append HT8.out.1).append HT9.out.1).append HT10.out.1).append HT11.out.1) [p1, e1, t1, q1, if b1 = true then 1 else 0] [] (numOk_cons m5 (numOk_cons m6 (numOk_cons m7 (numOk_cons m8 (numOk_cons hb numOk_nil))))) rfl x5
      simp only [List.cons_append, List.nil_append, List.cons.injEq, and_true] at x1 x7
      refine ⟨?_, x8, x9.trans (x6.trans (x3.trans d2))⟩
      rw [x1.1, x1.2.1, x1.2.2, x7.1, x7.2.1, x7.2.2.1, x7.2.2.2.1, ← HN1.out, x4, strOf_byL, ← HBB.out, x7.2.2.2.2]
      cases b1 <;> rfl
    have hnsz : n1.size < 1073741824 := by have := HNS.out; omega
    clear HSX HT2 HT4 HT5 HT6 HT7 HT8 HT9 HT10 HT11 HN1 HBB
    go_wp2_with (refine wpList_load_op rfl _ rfl g k c s n1 p e' t q bb 42 (0, 0) ?_ ?_ ?_; rfl; exact HG11.out)
    refine (rEncodeOp_any k c s n1 p e' t q bb w11 ik ic is ip ie' it iq hnsz).mono ?_
    rintro x w7 ⟨v7, rfl, hO7, hB7⟩
    have HG7 : Hid (w7.heap[g]? = some (.cells (opC k c s n1 p e' t q bb) 42 (0, 0))) := (hB7.block _ (lt_blk HG11.out)).trans HG11.out
    have H7 : Hid (w7.heap[w.heap.size]? = some (.cells (opC 0 0 0 eN 0 0 0 0 false) 42 (0, 0))) := (hB7.block _ (lt_blk H11.out)).trans H11.out
    have HR7 : Hid (RdR w7 (w.heap.size + 1) L10 er10) := HR11.out.same (fun q hq => hB7.block _ (by have := HR11.out.lt; omega))
    have HW7 : Hid (Below w.heap.size w w7) := HW11.out.trans (hB7.mono (by have := lt_blk H11.out; omega))
    obtain ⟨ok, HOK⟩ : ∃ ok, Hid (opB k c s n1 p e' t q bb = ok) := ⟨_, rfl⟩
    rw [HOK.out] at hO7 ⊢
    obtain ⟨ao7, c7, rfl, -, hR7, -⟩ := OwnB.form2r hO7
    have HC7 : Hid (Rowed w7 ao7 (if ok = true then encOp k c s n1 p e' t q bb else []) c7) := hR7
    clear hO7 hB7 hR7 HG11 H11 HR11 HW11
    obtain ⟨n7, HN7⟩ : ∃ n7, Hid ((if ok = true then encOp k c s n1 p e' t q bb else []).length = n7) := ⟨_, rfl⟩
    rw [HN7.out]
    obtain ⟨fe, HFE⟩ : ∃ fe : Int, Hid ((if ok = true then (0 : Int) else 1) = fe) := ⟨_, rfl⟩
    rw [HFE.out]
    go_wp2_with fail
    refine (rrWhole_str (w.heap.size + 1) L10 er10 w7 HR7.out).mono ?_
    rintro x w8 ⟨rfl, rfl⟩
    obtain ⟨wh, HWH⟩ : ∃ wh, Hid ((!er10 && decide (L10 = [])) = wh) := ⟨_, rfl⟩
    rw [HWH.out]
    cases wh
    case false =>
      have HD : Hid (DecOp B (.returned (.tuple #[.agg (opC 0 0 0 eN 0 0 0 0 false), .int .i64 2]))) := roNone HTT.out (.inl (fun h1 h2 => by have := HWH.out; rw [h1, h2] at this; simp at this))
      go_upto_region 15 with fail
      go_wp2_with (refine wpList_store_op rfl _ _ rfl w.heap.size 0 0 0 eN 0 0 0 0 false (opC 0 0 0 eN 0 0 0 0 false) ?_ ?_ ?_ ?_ ?_; rfl; rfl; exact H7.out; rfl)
      have HC8 : Hid ((w8.setRow w.heap.size (opC 0 0 0 eN 0 0 0 0 false)).heap[w.heap.size]? = some (.cells (opC 0 0 0 eN 0 0 0 0 false) 42 (0, 0))) := setRow_blk H7.out _
      have hW8 : Below w.heap.size w (w8.setRow w.heap.size (opC 0 0 0 eN 0 0 0 0 false)) := HW7.out.trans ((keeps_setRow w8 _ _).below (Nat.le_refl _) (by have := lt_blk H7.out; omega))
      refine bodyPost_ret (v := .tuple #[.agg (opC 0 0 0 eN 0 0 0 0 false), .int .i64 2]) ?_ rfl ⟨HD.out, hW8⟩
      exact results_cell_tmp (p := 2) (q := 3) rfl _ _ w.heap.size _ _ rfl rfl (load_op_cell _ _ _ _ _ _ _ _ _ _ _ _ _ HC8.out)
    case true =>
      cases ok
      case false =>
        obtain rfl : fe = 1 := HFE.out.symm
        have HD : Hid (DecOp B (.returned (.tuple #[.agg (opC 0 0 0 eN 0 0 0 0 false), .int .i64 2]))) := roNone HTT.out (.inr (.inl HOK.out))
        go_upto_region 15 with fail
        go_wp2_with (refine wpList_store_op rfl _ _ rfl w.heap.size 0 0 0 eN 0 0 0 0 false (opC 0 0 0 eN 0 0 0 0 false) ?_ ?_ ?_ ?_ ?_; rfl; rfl; exact H7.out; rfl)
        have HC8 : Hid ((w8.setRow w.heap.size (opC 0 0 0 eN 0 0 0 0 false)).heap[w.heap.size]? = some (.cells (opC 0 0 0 eN 0 0 0 0 false) 42 (0, 0))) := setRow_blk H7.out _
        have hW8 : Below w.heap.size w (w8.setRow w.heap.size (opC 0 0 0 eN 0 0 0 0 false)) := HW7.out.trans ((keeps_setRow w8 _ _).below (Nat.le_refl _) (by have := lt_blk H7.out; omega))
        refine bodyPost_ret (v := .tuple #[.agg (opC 0 0 0 eN 0 0 0 0 false), .int .i64 2]) ?_ rfl ⟨HD.out, hW8⟩
        exact results_cell_tmp (p := 2) (q := 3) rfl _ _ w.heap.size _ _ rfl rfl (load_op_cell _ _ _ _ _ _ _ _ _ _ _ _ _ HC8.out)
      case true =>
        obtain rfl : fe = 0 := HFE.out.symm
        simp only [if_true] at HC7 HN7
        have hcv1 := conv_str (w := w8) HC7.out HN7.out.symm
        have hcv2 := conv_str (w := w8) (HR.out.below HW7.out (Nat.le_refl _)) HN.out.symm
        obtain ⟨sA, HSA⟩ : ∃ sA, Hid (strOf (encOp k c s n1 p e' t q bb) = sA) := ⟨_, rfl⟩
        obtain ⟨sB, HSB⟩ : ∃ sB, Hid (strOf B = sB) := ⟨_, rfl⟩
        rw [HSA.out] at hcv1
        rw [HSB.out] at hcv2
        by_cases hs : sA = sB
        case neg =>
          have hs1 : (sA.toList == sB.toList) = false := beq_false_of_ne (fun h => hs (ByteArray.ext (Array.toList_inj.1 (by rw [← ByteArray.toList_eq, ← ByteArray.toList_eq]; exact h))))
          have HD : Hid (DecOp B (.returned (.tuple #[.agg (opC 0 0 0 eN 0 0 0 0 false), .int .i64 2]))) := roNone HTT.out (.inr (.inr (fun h => hs (HSA.out.symm.trans ((congrArg strOf h).trans HSB.out)))))
          go_upto_region 15 with fail
          go_wp2_with (refine wpList_store_op rfl _ _ rfl w.heap.size 0 0 0 eN 0 0 0 0 false (opC 0 0 0 eN 0 0 0 0 false) ?_ ?_ ?_ ?_ ?_; rfl; rfl; exact H7.out; rfl)
          have HC8 : Hid ((w8.setRow w.heap.size (opC 0 0 0 eN 0 0 0 0 false)).heap[w.heap.size]? = some (.cells (opC 0 0 0 eN 0 0 0 0 false) 42 (0, 0))) := setRow_blk H7.out _
          have hW8 : Below w.heap.size w (w8.setRow w.heap.size (opC 0 0 0 eN 0 0 0 0 false)) := HW7.out.trans ((keeps_setRow w8 _ _).below (Nat.le_refl _) (by have := lt_blk H7.out; omega))
          refine bodyPost_ret (v := .tuple #[.agg (opC 0 0 0 eN 0 0 0 0 false), .int .i64 2]) ?_ rfl ⟨HD.out, hW8⟩
          exact results_cell_tmp (p := 2) (q := 3) rfl _ _ w.heap.size _ _ rfl rfl (load_op_cell _ _ _ _ _ _ _ _ _ _ _ _ _ HC8.out)
        case pos =>
          subst hs
          have HEQ : Hid (encOp k c s n1 p e' t q bb = B) := strOf_inj (encOp_bytes _ _ _ _ _ _ _ _ _) HY.out (HSA.out.trans HSB.out.symm)
          go_wp2_with (first | (refine wpList_load_op rfl _ rfl g k c s n1 p e' t q bb 42 (0, 0) ?_ ?_ ?_; rfl; exact HG7.out) | (refine wpList_store_op rfl _ _ rfl w.heap.size k c s n1 p e' t q bb (opC 0 0 0 eN 0 0 0 0 false) ?_ ?_ ?_ ?_ ?_; rfl; rfl; exact H7.out; rfl))
          have HC8 : Hid ((w8.setRow w.heap.size (opC k c s n1 p e' t q bb)).heap[w.heap.size]? = some (.cells (opC k c s n1 p e' t q bb) 42 (0, 0))) := setRow_blk H7.out _
          have hW8 : Below w.heap.size w (w8.setRow w.heap.size (opC k c s n1 p e' t q bb)) := HW7.out.trans ((keeps_setRow w8 _ _).below (Nat.le_refl _) (by have := lt_blk H7.out; omega))
          refine bodyPost_ret (v := .tuple #[.agg (opC k c s n1 p e' t q bb), .int .i64 0]) ?_ rfl ⟨⟨k, c, s, n1, p, e', t, q, bb, 0, rfl, .inl ⟨rfl, HOK.out, HEQ.out⟩⟩, hW8⟩
          exact results_cell_tmp (p := 2) (q := 3) rfl _ _ w.heap.size _ _ rfl rfl (load_op_cell _ _ _ _ _ _ _ _ _ _ _ _ _ HC8.out)
end Go.Proofs.Ytkjocpadmlobgaa
