/- WireOps' walk: any operation and mark as bytes, or refused; any bytes as these, or refused. No condition. -/
import Derived.Test.YtkjocpadmlobgaaWireRo
import Derived.Test.YtkjocpadmlobgaaWireRk
import Derived.Test.YtkjocpadmlobgaaWireTu
import Derived.Test.YtkjocpadmlobgaaOLaw
namespace Go.Proofs.Ytkjocpadmlobgaa
open Go.RowKit Go.Dig Go.Inv Go.Oct
set_option linter.unusedVariables false

theorem encOp_inj2 {k c s : Int} {n : ByteArray} {p e t q : Int} {b : Bool} {k1 c1 s1 : Int} {n1 : ByteArray} {p1 e1 t1 q1 : Int} {b1 : Bool} (ho : opB k c s n p e t q b = true) (h1 : opB k1 c1 s1 n1 p1 e1 t1 q1 b1 = true) (h : encOp k c s n p e t q b = encOp k1 c1 s1 n1 p1 e1 t1 q1 b1) : opC k c s n p e t q b = opC k1 c1 s1 n1 p1 e1 t1 q1 b1 := by
  obtain ⟨a1, a2, a3, a4, a5, a6, a7, a8⟩ := opB_nums ho
  obtain ⟨d1, d2, d3, d4, d5, d6, d7, d8⟩ := opB_nums h1
  rw [← List.append_nil (encOp k c s n p e t q b), ← List.append_nil (encOp k1 c1 s1 n1 p1 e1 t1 q1 b1)] at h
  unfold encOp at h
  simp only [List.append_assoc] at h
  have h2 : NumOk 2 := ⟨by decide, by decide⟩
  obtain ⟨x1, x2⟩ := nums_inj [2, k, c, s] [2, k1, c1, s1] _ _ rfl (numOk_cons h2 (numOk_cons a1 (numOk_cons a2 (numOk_cons a3 numOk_nil)))) (numOk_cons h2 (numOk_cons d1 (numOk_cons d2 (numOk_cons d3 numOk_nil)))) h
  rw [byL_length] at a4 d4
  obtain ⟨x3, x4⟩ := num_inj a4 d4 x2
  obtain ⟨x5, x6⟩ := List.append_inj x4 (by rw [byL_length, byL_length]; omega)
  have hb : ∀ b : Bool, NumOk (if b = true then 1 else 0) := fun b => by cases b <;> exact ⟨by decide, by decide⟩
  obtain ⟨x7, -⟩ := nums_inj [p, e, t, q, if b = true then 1 else 0] [p1, e1, t1, q1, if b1 = true then 1 else 0] _ _ rfl (numOk_cons a5 (numOk_cons a6 (numOk_cons a7 (numOk_cons a8 (numOk_cons (hb b) numOk_nil))))) (numOk_cons d5 (numOk_cons d6 (numOk_cons d7 (numOk_cons d8 (numOk_cons (hb b1) numOk_nil))))) x6
  simp only [List.cons.injEq, and_true, true_and] at x1 x7
  obtain ⟨y1, y2, y3⟩ := x1
  obtain ⟨y4, y5, y6, y7, y8⟩ := x7
  have hbb : b = b1 := by cases b <;> cases b1 <;> simp_all
  have hnn : n = n1 := by rw [← strOf_byL n, ← strOf_byL n1, x5]
  rw [y1, y2, y3, y4, y5, y6, y7, hbb, hnn]
theorem encMark_injB {k p e t k1 p1 e1 t1 : Int} (ho : markB k p e t = true) (h1 : markB k1 p1 e1 t1 = true) (h : encMark k p e t = encMark k1 p1 e1 t1) : k = k1 ∧ p = p1 ∧ e = e1 ∧ t = t1 := by
  obtain ⟨a1, a2, a3, a4⟩ := markB_nums ho
  obtain ⟨d1, d2, d3, d4⟩ := markB_nums h1
  rw [← List.append_nil (encMark k p e t), ← List.append_nil (encMark k1 p1 e1 t1)] at h
  unfold encMark at h
  have h3 : NumOk 3 := ⟨by decide, by decide⟩
  obtain ⟨x1, -⟩ := nums_inj [3, k, p, e, t] [3, k1, p1, e1, t1] _ _ rfl (numOk_cons h3 (numOk_cons a1 (numOk_cons a2 (numOk_cons a3 (numOk_cons a4 numOk_nil))))) (numOk_cons h3 (numOk_cons d1 (numOk_cons d2 (numOk_cons d3 (numOk_cons d4 numOk_nil))))) h
  simp only [List.cons.injEq, and_true, true_and] at x1
  exact x1
theorem self_op (n : ByteArray) (p e t q : Int) (b : Bool) : (n == n && (p == p && (e == e && (t == t && (q == q && (b == b)))))) = true := by
  have hb : (n == n) = true := by rw [beq_toListBytes]; simp
  simp [hb]
theorem self_mark (a : Nat → Int) : (a 0 == a 0 && (a 1 == a 1 && (a 2 == a 2 && a 3 == a 3))) = true := by simp
/-- what is decoded of bytes is one -/
theorem DecOp.det {B : List Int} {x : Ending} (h : DecOp B x) : ∃ (k c s : Int) (n : ByteArray) (p e t q : Int) (b : Bool) (f : Int), (∀ y, DecOp B y → y = .returned (.tuple #[.agg (opC k c s n p e t q b), .int .i64 f])) ∧ (f = 0 ∨ f = 2) := by
  obtain ⟨k, c, s, n, p, e, t, q, b, f, he, hd⟩ := h
  refine ⟨k, c, s, n, p, e, t, q, b, f, fun y hy => ?_, hd.elim (fun h => .inl h.1) (fun h => .inr h.1)⟩
  obtain ⟨k1, c1, s1, n1, p1, e1, t1, q1, b1, f1, he1, hd1⟩ := hy
  rw [he1]
  rcases hd with ⟨rfl, ho, hE⟩ | ⟨rfl, hz, hn⟩
  · rcases hd1 with ⟨rfl, ho1, hE1⟩ | ⟨rfl, hz1, hn1⟩
    · rw [encOp_inj2 ho1 ho (hE1.trans hE.symm)]
    · exact absurd hE (hn1 _ _ _ _ _ _ _ _ _ ho)
  · rcases hd1 with ⟨rfl, ho1, hE1⟩ | ⟨rfl, hz1, hn1⟩
    · exact absurd hE1 (hn _ _ _ _ _ _ _ _ _ ho1)
    · rw [hz, hz1]
theorem DecMark.det {B : List Int} {x : Ending} (h : DecMark B x) : ∃ (a : Nat → Int) (f : Int), (∀ y, DecMark B y → y = .returned (.tuple #[.agg (markC a), .int .i64 f])) ∧ (f = 0 ∨ f = 2) := by
  obtain ⟨a, f, he, hd⟩ := h
  refine ⟨a, f, fun y hy => ?_, hd.elim (fun h => .inl h.1) (fun h => .inr h.1)⟩
  obtain ⟨a1, f1, he1, hd1⟩ := hy
  rw [he1]
  rcases hd with ⟨rfl, ho, hE⟩ | ⟨rfl, hz, hn⟩
  · rcases hd1 with ⟨rfl, ho1, hE1⟩ | ⟨rfl, hz1, hn1⟩
    · obtain ⟨e0, e1, e2, e3⟩ := encMark_injB ho1 ho (hE1.trans hE.symm)
      unfold markC
      rw [e0, e1, e2, e3]
    · exact absurd hE (hn1 _ _ _ _ ho)
  · rcases hd1 with ⟨rfl, ho1, hE1⟩ | ⟨rfl, hz1, hn1⟩
    · exact absurd hE1 (hn _ _ _ _ ho1)
    · rw [hz, hz1]
/-- the world of WireOps' walk: its arguments lie there -/
structure OqW (w : World) (oc : Array Value) (a : Nat → Int) (ao : Option Addr) (P : List Int) (cap : Nat) (W : World) : Prop where
  bel : Below w.heap.size w W
  op : W.heap[w.heap.size]? = some (.cells oc 42 (0, 0))
  mark : W.heap[w.heap.size + 1]? = some (.cells (markC a) 44 (0, 0))
  row : Rowed W ao P cap
theorem OqW.size {w W : World} {oc : Array Value} {a : Nat → Int} {ao : Option Addr} {P : List Int} {cap : Nat} (h : OqW w oc a ao P cap W) : w.heap.size + 2 ≤ W.heap.size := by have := lt_blk h.mark; omega
theorem OqW.next {w W W' : World} {oc : Array Value} {a : Nat → Int} {ao : Option Addr} {P : List Int} {cap : Nat} (h : OqW w oc a ao P cap W) {B : Nat} (hB : Below B W W') (hb : W.heap.size ≤ B) : OqW w oc a ao P cap W' := by
  have hs := h.size
  exact ⟨h.bel.trans (hB.mono (by omega)), (hB.block _ (by omega)).trans h.op, (hB.block _ (by omega)).trans h.mark, h.row.below hB hb⟩
theorem ownB_emptyQ (w : World) : OwnB (w.alloc (.cells #[] 5)) w.heap.size (.slice (some ⟨w.heap.size, 0, none⟩) 0 0) [] :=
  ⟨rfl, .inr ⟨w.heap.size, 0, #[], rfl, Nat.le_refl _, alloc_blk _ _, Nat.le_refl _, Nat.zero_le _, rfl, rfl⟩⟩
set_option maxRecDepth 10000 in
set_option maxHeartbeats 16000000 in
theorem wireOps_any (k c s : Int) (n : ByteArray) (p e t q : Int) (b : Bool) (mk mp me mt : Int) (ao : Option Addr) (cap : Nat) (P : List Int) (w : World) (ik : inI k) (ic : inI c) (is : inI s) (hn : n.size ≤ maxLen) (ip : inI p) (ie : inI e) (it : inI t) (iq : inI q) (jk : inI mk) (jp : inI mp) (je : inI me) (jt : inI mt) (hP : Rowed w ao P cap) (hPy : ∀ x ∈ P, 0 ≤ x ∧ x < 256) (hPc : P.length ≤ cap) :
    Calls Try.prog 4 #[.agg (opC k c s n p e t q b), .agg #[.int .i64 mk, .int .i64 mp, .int .i64 me, .int .i64 mt], .slice ao P.length cap] w fun x w' => x = .returned (.bool true) ∧ Below w.heap.size w w' := by
  have hn' : n.size < 9223372036854775808 := by unfold maxLen at hn; omega
  clear hn
  rw [← mf_c]
  have HW1 : Hid (OqW w (opC k c s n p e t q b) (mf mk mp me mt) ao P cap ((w.alloc (.cells (opC k c s n p e t q b) 42)).alloc (.cells (markC (mf mk mp me mt)) 44))) := by
    have hB : Below w.heap.size w ((w.alloc (.cells (opC k c s n p e t q b) 42)).alloc (.cells (markC (mf mk mp me mt)) 44)) := ((Below.refl _ _).alloc (Nat.le_refl _) _).alloc (by simp) _
    have h1 : (w.alloc (.cells (opC k c s n p e t q b) 42)).heap.size = w.heap.size + 1 := by simp
    refine ⟨hB, alloc_blk_old (alloc_blk _ _) _, ?_, hP.below hB (Nat.le_refl _)⟩
    have := alloc_blk (w.alloc (.cells (opC k c s n p e t q b) 42)) (.cells (markC (mf mk mp me mt)) 44)
    rw [h1] at this
    exact this
  have HPY : Hid (ByteL P ∧ P.length ≤ cap) := ⟨hPy, hPc⟩
  obtain ⟨ma, HMA⟩ : ∃ ma, Hid (mf mk mp me mt = ma) := ⟨_, rfl⟩
  have HMI : Hid (inI (ma 0) ∧ inI (ma 1) ∧ inI (ma 2) ∧ inI (ma 3)) := by rw [← HMA.out]; exact ⟨jk, jp, je, jt⟩
  rw [HMA.out] at HW1 ⊢
  have HEM : Hid (∀ w, Calls Try.prog 21 #[.agg (markC ma)] w fun x w' => Enc (markB (ma 0) (ma 1) (ma 2) (ma 3)) (encMark (ma 0) (ma 1) (ma 2) (ma 3)) w w' x) := fun w => encodeMark_any (ma 0) (ma 1) (ma 2) (ma 3) w HMI.out.1 HMI.out.2.1 HMI.out.2.2.1 HMI.out.2.2.2
  have HER : Hid (∀ w, Calls Try.prog 22 #[.agg (markC ma)] w fun x w' => Enc (markB (ma 0) (ma 1) (ma 2) (ma 3)) (encMark (ma 0) (ma 1) (ma 2) (ma 3)) w w' x) := fun w => rEncodeMark_any (ma 0) (ma 1) (ma 2) (ma 3) w HMI.out.1 HMI.out.2.1 HMI.out.2.2.1 HMI.out.2.2.2
  obtain ⟨pl, HPL⟩ : ∃ pl, Hid (P.length = pl) := ⟨_, rfl⟩
  rw [HPL.out]
  clear hP hPy hPc
  go_enter Try.func4, Try.ntmps4
  go_upto_region 1 with (first | (refine wpList_box_row rfl 42 _ rfl _ rfl ?_) | (refine wpList_box_row rfl 44 _ rfl _ rfl ?_))
  generalize (w.alloc (.cells (opC k c s n p e t q b) 42)).alloc (.cells (markC ma) 44) = w1 at *
  have hc3 : w1.cell? ⟨w.heap.size, 3, none⟩ = some (.string n) := (cell_blk HW1.out.op _).trans rfl
  by_cases h100 : 100 < n.size
  · have hW := HW1.out.bel
    have h100' : 100 < (n.size : Int) := by omega
    go_wp2_with fail
    go_ret
    exact ⟨rfl, hW⟩
  have h100' : ¬ 100 < (n.size : Int) := by omega
  by_cases h500 : 500 < pl
  · have hW := HW1.out.bel
    have h500' : 500 < (pl : Int) := by omega
    go_wp2_with fail
    go_ret
    exact ⟨rfl, hW⟩
  have h500' : ¬ 500 < (pl : Int) := by omega
  obtain ⟨M1, HM1⟩ : ∃ M1, Hid ((if opB k c s n p e t q b = true then encOp k c s n p e t q b else []) = M1) := ⟨_, rfl⟩
  obtain ⟨f1, Hf1⟩ : ∃ f1 : Int, Hid ((if opB k c s n p e t q b = true then (0 : Int) else 1) = f1) := ⟨_, rfl⟩
  obtain ⟨lM1, HLM1⟩ : ∃ l, Hid (M1.length = l) := ⟨_, rfl⟩
  go_wp2_with (refine wpList_load_op rfl _ rfl w.heap.size k c s n p e t q b 42 (0, 0) ?_ ?_ ?_; rfl; exact HW1.out.op)
  refine (encodeOp_any k c s n p e t q b w1 ik ic is ip ie it iq (by omega)).mono ?_
  rintro x w2 ⟨v1, rfl, hO, hB⟩
  have HW2 : Hid (OqW w (opC k c s n p e t q b) ma ao P cap w2) := HW1.out.next hB (Nat.le_refl _)
  rw [HM1.out] at hO
  rw [Hf1.out]
  obtain ⟨a1, cp1, rfl, -, hR, -⟩ := OwnB.form2r hO
  have HR1 : Hid (Rowed w2 a1 M1 cp1) := hR
  rw [HLM1.out]
  clear hO hB hR HW1 hc3
  go_wp2_with (refine wpList_load_op rfl _ rfl w.heap.size k c s n p e t q b 42 (0, 0) ?_ ?_ ?_; rfl; exact HW2.out.op)
  refine (rEncodeOp_any k c s n p e t q b w2 ik ic is ip ie it iq (by omega)).mono ?_
  rintro x w3 ⟨v2, rfl, hO, hB⟩
  have HW3 : Hid (OqW w (opC k c s n p e t q b) ma ao P cap w3) := HW2.out.next hB (Nat.le_refl _)
  have HR1 : Hid (Rowed w3 a1 M1 cp1) := HR1.out.below hB (Nat.le_refl _)
  rw [HM1.out] at hO
  rw [Hf1.out]
  obtain ⟨a2, cp2, rfl, -, hR, -⟩ := OwnB.form2r hO
  have HR2 : Hid (Rowed w3 a2 M1 cp2) := hR
  rw [HLM1.out]
  clear hO hB hR HW2
  have HE0 : Hid (OwnB (w3.alloc (.cells #[] 5)) w3.heap.size (.slice (some ⟨w3.heap.size, 0, none⟩) 0 0) []) := ownB_emptyQ w3
  have HRP : Hid (Rowed (w3.alloc (.cells #[] 5)) ao P cap) := HW3.out.row.below (below_alloc _ _) (Nat.le_refl _)
  have hse : (w3.alloc (.cells #[] 5)).heap.size = w3.heap.size + 1 := by simp
  go_wp2_with (at_builtin; refine wpList_app rfl _ _ rfl w3.heap.size (.slice (some ⟨w3.heap.size, 0, none⟩) 0 0) [] ?_ HE0.out ao pl cap P ?_ HPL.out.symm HRP.out ?_ ?_ ?_; rfl; rfl)
  case refine_3 => simp; omega
  case refine_4 => rw [hse]; omega
  intro v5 w4 HO HG
  have HB : Hid (Below w3.heap.size w3 w4) := (below_alloc _ _).trans (HG.out.below (by rw [hse]; omega) (fun k hk => by simp [Value.ownBlock] at hk; omega))
  have HW4 : Hid (OqW w (opC k c s n p e t q b) ma ao P cap w4) := HW3.out.next HB.out (Nat.le_refl _)
  have HR1 : Hid (Rowed w4 a1 M1 cp1) := HR1.out.below HB.out (Nat.le_refl _)
  have HR2 : Hid (Rowed w4 a2 M1 cp2) := HR2.out.below HB.out (Nat.le_refl _)
  obtain ⟨a5, c5, rfl, -, hR, -⟩ := OwnB.form2r HO.out
  have HR5 : Hid (Rowed w4 a5 P c5) := hR
  rw [HPL.out]
  clear HE0 HRP hse HO HG HB hR HW3
  have HD : Hid (Calls Try.prog 19 #[.slice a5 pl c5] w4 fun e w' => DecOp P e ∧ Below w4.heap.size w4 w') := by rw [← HPL.out]; exact dOp_str P a5 c5 w4 HR5.out HPY.out.1 (by have := HPL.out; omega)
  go_wp2_with fail
  refine HD.out.mono ?_
  rintro x w5 ⟨hd, hB⟩
  obtain ⟨k1, c1, s1, n1, p1, e1, t1, q1, b1, g1, hdet, -⟩ := hd.det
  have HDO : Hid (∀ y, DecOp P y → y = .returned (.tuple #[.agg (opC k1 c1 s1 n1 p1 e1 t1 q1 b1), .int .i64 g1])) := hdet
  clear hdet
  obtain rfl := HDO.out _ hd
  have HW5 : Hid (OqW w (opC k c s n p e t q b) ma ao P cap w5) := HW4.out.next hB (Nat.le_refl _)
  have HR1 : Hid (Rowed w5 a1 M1 cp1) := HR1.out.below hB (Nat.le_refl _)
  have HR2 : Hid (Rowed w5 a2 M1 cp2) := HR2.out.below hB (Nat.le_refl _)
  clear hd hB HD HW4 HR5
  go_upto_region 6 with (refine wpList_store_op rfl _ _ rfl w5.heap.size k1 c1 s1 n1 p1 e1 t1 q1 b1 (opC 0 0 0 eN 0 0 0 0 false) ?_ ?_ (alloc_blk _ _) ?_ ?_; rfl; rfl; rfl)
  rw [setRow_new]
  have HW6 : Hid (OqW w (opC k c s n p e t q b) ma ao P cap (w5.alloc (.cells (opC k1 c1 s1 n1 p1 e1 t1 q1 b1) 42))) := HW5.out.next (below_alloc _ _) (Nat.le_refl _)
  have HR1 : Hid (Rowed (w5.alloc (.cells (opC k1 c1 s1 n1 p1 e1 t1 q1 b1) 42)) a1 M1 cp1) := HR1.out.below (below_alloc _ _) (Nat.le_refl _)
  have HR2 : Hid (Rowed (w5.alloc (.cells (opC k1 c1 s1 n1 p1 e1 t1 q1 b1) 42)) a2 M1 cp2) := HR2.out.below (below_alloc _ _) (Nat.le_refl _)
  have HGga : Hid ((w5.alloc (.cells (opC k1 c1 s1 n1 p1 e1 t1 q1 b1) 42)).heap[w5.heap.size]? = some (.cells (opC k1 c1 s1 n1 p1 e1 t1 q1 b1) 42 (0, 0))) := alloc_blk _ _
  generalize w5.alloc (.cells (opC k1 c1 s1 n1 p1 e1 t1 q1 b1) 42) = w6 at *
  obtain ⟨ga, hga⟩ : ∃ ga, w5.heap.size = ga := ⟨_, rfl⟩
  rw [hga] at HGga
  simp only [hga]
  clear hga HW5
  have HD : Hid (Calls Try.prog 20 #[.slice ao pl cap] w6 fun e w' => DecOp P e ∧ Below w6.heap.size w6 w') := by rw [← HPL.out]; exact rdOp_str P ao cap w6 HW6.out.row HPY.out.1 (by have := HPL.out; omega) HPY.out.2
  go_wp2_with fail
  refine HD.out.mono ?_
  rintro x w7 ⟨hd, hB⟩
  obtain rfl := HDO.out _ hd
  have HW7 : Hid (OqW w (opC k c s n p e t q b) ma ao P cap w7) := HW6.out.next hB (Nat.le_refl _)
  have HR1 : Hid (Rowed w7 a1 M1 cp1) := HR1.out.below hB (Nat.le_refl _)
  have HR2 : Hid (Rowed w7 a2 M1 cp2) := HR2.out.below hB (Nat.le_refl _)
  have HGga : Hid (w7.heap[ga]? = some (.cells (opC k1 c1 s1 n1 p1 e1 t1 q1 b1) 42 (0, 0))) := (hB.block _ (lt_blk HGga.out)).trans HGga.out
  clear hd hB HD HW6
  go_upto_region 7 with (refine wpList_store_op rfl _ _ rfl w7.heap.size k1 c1 s1 n1 p1 e1 t1 q1 b1 (opC 0 0 0 eN 0 0 0 0 false) ?_ ?_ (alloc_blk _ _) ?_ ?_; rfl; rfl; rfl)
  rw [setRow_new]
  have HW8 : Hid (OqW w (opC k c s n p e t q b) ma ao P cap (w7.alloc (.cells (opC k1 c1 s1 n1 p1 e1 t1 q1 b1) 42))) := HW7.out.next (below_alloc _ _) (Nat.le_refl _)
  have HR1 : Hid (Rowed (w7.alloc (.cells (opC k1 c1 s1 n1 p1 e1 t1 q1 b1) 42)) a1 M1 cp1) := HR1.out.below (below_alloc _ _) (Nat.le_refl _)
  have HR2 : Hid (Rowed (w7.alloc (.cells (opC k1 c1 s1 n1 p1 e1 t1 q1 b1) 42)) a2 M1 cp2) := HR2.out.below (below_alloc _ _) (Nat.le_refl _)
  have HGga : Hid ((w7.alloc (.cells (opC k1 c1 s1 n1 p1 e1 t1 q1 b1) 42)).heap[ga]? = some (.cells (opC k1 c1 s1 n1 p1 e1 t1 q1 b1) 42 (0, 0))) := alloc_blk_old HGga.out _
  have HGgb : Hid ((w7.alloc (.cells (opC k1 c1 s1 n1 p1 e1 t1 q1 b1) 42)).heap[w7.heap.size]? = some (.cells (opC k1 c1 s1 n1 p1 e1 t1 q1 b1) 42 (0, 0))) := alloc_blk _ _
  generalize w7.alloc (.cells (opC k1 c1 s1 n1 p1 e1 t1 q1 b1) 42) = w8 at *
  obtain ⟨gb, hgb⟩ : ∃ gb, w7.heap.size = gb := ⟨_, rfl⟩
  rw [hgb] at HGgb
  simp only [hgb]
  clear hgb HW7
  obtain ⟨M2, HM2⟩ : ∃ M2, Hid ((if markB (ma 0) (ma 1) (ma 2) (ma 3) = true then encMark (ma 0) (ma 1) (ma 2) (ma 3) else []) = M2) := ⟨_, rfl⟩
  obtain ⟨f2, Hf2⟩ : ∃ f2 : Int, Hid ((if markB (ma 0) (ma 1) (ma 2) (ma 3) = true then (0 : Int) else 1) = f2) := ⟨_, rfl⟩
  obtain ⟨lM2, HLM2⟩ : ∃ l, Hid (M2.length = l) := ⟨_, rfl⟩
  go_wp2_with (refine wpList_load_mark rfl _ rfl (w.heap.size + 1) ma 44 (0, 0) ?_ ?_ ?_; rfl; exact HW8.out.mark)
  refine (HEM.out w8).mono ?_
  rintro x w9 ⟨v3, rfl, hO, hB⟩
  have HW9 : Hid (OqW w (opC k c s n p e t q b) ma ao P cap w9) := HW8.out.next hB (Nat.le_refl _)
  have HR1 : Hid (Rowed w9 a1 M1 cp1) := HR1.out.below hB (Nat.le_refl _)
  have HR2 : Hid (Rowed w9 a2 M1 cp2) := HR2.out.below hB (Nat.le_refl _)
  have HGga : Hid (w9.heap[ga]? = some (.cells (opC k1 c1 s1 n1 p1 e1 t1 q1 b1) 42 (0, 0))) := (hB.block _ (lt_blk HGga.out)).trans HGga.out
  have HGgb : Hid (w9.heap[gb]? = some (.cells (opC k1 c1 s1 n1 p1 e1 t1 q1 b1) 42 (0, 0))) := (hB.block _ (lt_blk HGgb.out)).trans HGgb.out
  rw [HM2.out] at hO
  rw [Hf2.out]
  obtain ⟨a3, cp3, rfl, -, hR, -⟩ := OwnB.form2r hO
  have HR3 : Hid (Rowed w9 a3 M2 cp3) := hR
  rw [HLM2.out]
  clear hO hB hR HW8
  go_wp2_with (refine wpList_load_mark rfl _ rfl (w.heap.size + 1) ma 44 (0, 0) ?_ ?_ ?_; rfl; exact HW9.out.mark)
  refine (HER.out w9).mono ?_
  rintro x w10 ⟨v4, rfl, hO, hB⟩
  have HW10 : Hid (OqW w (opC k c s n p e t q b) ma ao P cap w10) := HW9.out.next hB (Nat.le_refl _)
  have HR1 : Hid (Rowed w10 a1 M1 cp1) := HR1.out.below hB (Nat.le_refl _)
  have HR2 : Hid (Rowed w10 a2 M1 cp2) := HR2.out.below hB (Nat.le_refl _)
  have HR3 : Hid (Rowed w10 a3 M2 cp3) := HR3.out.below hB (Nat.le_refl _)
  have HGga : Hid (w10.heap[ga]? = some (.cells (opC k1 c1 s1 n1 p1 e1 t1 q1 b1) 42 (0, 0))) := (hB.block _ (lt_blk HGga.out)).trans HGga.out
  have HGgb : Hid (w10.heap[gb]? = some (.cells (opC k1 c1 s1 n1 p1 e1 t1 q1 b1) 42 (0, 0))) := (hB.block _ (lt_blk HGgb.out)).trans HGgb.out
  rw [HM2.out] at hO
  rw [Hf2.out]
  obtain ⟨a4, cp4, rfl, -, hR, -⟩ := OwnB.form2r hO
  have HR4 : Hid (Rowed w10 a4 M2 cp4) := hR
  rw [HLM2.out]
  clear hO hB hR HW9
  have HE0 : Hid (OwnB (w10.alloc (.cells #[] 5)) w10.heap.size (.slice (some ⟨w10.heap.size, 0, none⟩) 0 0) []) := ownB_emptyQ w10
  have HRP : Hid (Rowed (w10.alloc (.cells #[] 5)) ao P cap) := HW10.out.row.below (below_alloc _ _) (Nat.le_refl _)
  have hse : (w10.alloc (.cells #[] 5)).heap.size = w10.heap.size + 1 := by simp
  go_wp2_with (at_builtin; refine wpList_app rfl _ _ rfl w10.heap.size (.slice (some ⟨w10.heap.size, 0, none⟩) 0 0) [] ?_ HE0.out ao pl cap P ?_ HPL.out.symm HRP.out ?_ ?_ ?_; rfl; rfl)
  case refine_3 => simp; omega
  case refine_4 => rw [hse]; omega
  intro v6 w11 HO HG
  have HB : Hid (Below w10.heap.size w10 w11) := (below_alloc _ _).trans (HG.out.below (by rw [hse]; omega) (fun k hk => by simp [Value.ownBlock] at hk; omega))
  have HW11 : Hid (OqW w (opC k c s n p e t q b) ma ao P cap w11) := HW10.out.next HB.out (Nat.le_refl _)
  have HR1 : Hid (Rowed w11 a1 M1 cp1) := HR1.out.below HB.out (Nat.le_refl _)
  have HR2 : Hid (Rowed w11 a2 M1 cp2) := HR2.out.below HB.out (Nat.le_refl _)
  have HR3 : Hid (Rowed w11 a3 M2 cp3) := HR3.out.below HB.out (Nat.le_refl _)
  have HR4 : Hid (Rowed w11 a4 M2 cp4) := HR4.out.below HB.out (Nat.le_refl _)
  have HGga : Hid (w11.heap[ga]? = some (.cells (opC k1 c1 s1 n1 p1 e1 t1 q1 b1) 42 (0, 0))) := (HB.out.block _ (lt_blk HGga.out)).trans HGga.out
  have HGgb : Hid (w11.heap[gb]? = some (.cells (opC k1 c1 s1 n1 p1 e1 t1 q1 b1) 42 (0, 0))) := (HB.out.block _ (lt_blk HGgb.out)).trans HGgb.out
  obtain ⟨a6, c6, rfl, -, hR, -⟩ := OwnB.form2r HO.out
  have HR6 : Hid (Rowed w11 a6 P c6) := hR
  rw [HPL.out]
  clear HE0 HRP hse HO HG HB hR HW10
  have HD : Hid (Calls Try.prog 23 #[.slice a6 pl c6] w11 fun e w' => DecMark P e ∧ Below w11.heap.size w11 w') := by rw [← HPL.out]; exact dMark_str P a6 c6 w11 HR6.out HPY.out.1 (by have := HPL.out; omega)
  go_wp2_with fail
  refine HD.out.mono ?_
  rintro x w12 ⟨hd, hB⟩
  obtain ⟨m1, g2, hdet, -⟩ := hd.det
  have HDM : Hid (∀ y, DecMark P y → y = .returned (.tuple #[.agg (markC m1), .int .i64 g2])) := hdet
  clear hdet
  obtain rfl := HDM.out _ hd
  have HW12 : Hid (OqW w (opC k c s n p e t q b) ma ao P cap w12) := HW11.out.next hB (Nat.le_refl _)
  have HR1 : Hid (Rowed w12 a1 M1 cp1) := HR1.out.below hB (Nat.le_refl _)
  have HR2 : Hid (Rowed w12 a2 M1 cp2) := HR2.out.below hB (Nat.le_refl _)
  have HR3 : Hid (Rowed w12 a3 M2 cp3) := HR3.out.below hB (Nat.le_refl _)
  have HR4 : Hid (Rowed w12 a4 M2 cp4) := HR4.out.below hB (Nat.le_refl _)
  have HGga : Hid (w12.heap[ga]? = some (.cells (opC k1 c1 s1 n1 p1 e1 t1 q1 b1) 42 (0, 0))) := (hB.block _ (lt_blk HGga.out)).trans HGga.out
  have HGgb : Hid (w12.heap[gb]? = some (.cells (opC k1 c1 s1 n1 p1 e1 t1 q1 b1) 42 (0, 0))) := (hB.block _ (lt_blk HGgb.out)).trans HGgb.out
  clear hd hB HD HW11 HR6
  go_upto_region 10 with (refine wpList_store_mark rfl _ _ rfl w12.heap.size m1 (fun _ => 0) ?_ ?_ (alloc_blk _ _) ?_; rfl; rfl)
  rw [setRow_zero]
  have HW13 : Hid (OqW w (opC k c s n p e t q b) ma ao P cap (w12.alloc (.cells (markC m1) 44))) := HW12.out.next (below_alloc _ _) (Nat.le_refl _)
  have HR1 : Hid (Rowed (w12.alloc (.cells (markC m1) 44)) a1 M1 cp1) := HR1.out.below (below_alloc _ _) (Nat.le_refl _)
  have HR2 : Hid (Rowed (w12.alloc (.cells (markC m1) 44)) a2 M1 cp2) := HR2.out.below (below_alloc _ _) (Nat.le_refl _)
  have HR3 : Hid (Rowed (w12.alloc (.cells (markC m1) 44)) a3 M2 cp3) := HR3.out.below (below_alloc _ _) (Nat.le_refl _)
  have HR4 : Hid (Rowed (w12.alloc (.cells (markC m1) 44)) a4 M2 cp4) := HR4.out.below (below_alloc _ _) (Nat.le_refl _)
  have HGga : Hid ((w12.alloc (.cells (markC m1) 44)).heap[ga]? = some (.cells (opC k1 c1 s1 n1 p1 e1 t1 q1 b1) 42 (0, 0))) := alloc_blk_old HGga.out _
  have HGgb : Hid ((w12.alloc (.cells (markC m1) 44)).heap[gb]? = some (.cells (opC k1 c1 s1 n1 p1 e1 t1 q1 b1) 42 (0, 0))) := alloc_blk_old HGgb.out _
  have HGgc : Hid ((w12.alloc (.cells (markC m1) 44)).heap[w12.heap.size]? = some (.cells (markC m1) 44 (0, 0))) := alloc_blk _ _
  generalize w12.alloc (.cells (markC m1) 44) = w13 at *
  obtain ⟨gc, hgc⟩ : ∃ gc, w12.heap.size = gc := ⟨_, rfl⟩
  rw [hgc] at HGgc
  simp only [hgc]
  clear hgc HW12
  have HD : Hid (Calls Try.prog 24 #[.slice ao pl cap] w13 fun e w' => DecMark P e ∧ Below w13.heap.size w13 w') := by rw [← HPL.out]; exact rdMark_str P ao cap w13 HW13.out.row HPY.out.1 (by have := HPL.out; omega) HPY.out.2
  go_wp2_with fail
  refine HD.out.mono ?_
  rintro x w14 ⟨hd, hB⟩
  obtain rfl := HDM.out _ hd
  have HW14 : Hid (OqW w (opC k c s n p e t q b) ma ao P cap w14) := HW13.out.next hB (Nat.le_refl _)
  have HR1 : Hid (Rowed w14 a1 M1 cp1) := HR1.out.below hB (Nat.le_refl _)
  have HR2 : Hid (Rowed w14 a2 M1 cp2) := HR2.out.below hB (Nat.le_refl _)
  have HR3 : Hid (Rowed w14 a3 M2 cp3) := HR3.out.below hB (Nat.le_refl _)
  have HR4 : Hid (Rowed w14 a4 M2 cp4) := HR4.out.below hB (Nat.le_refl _)
  have HGga : Hid (w14.heap[ga]? = some (.cells (opC k1 c1 s1 n1 p1 e1 t1 q1 b1) 42 (0, 0))) := (hB.block _ (lt_blk HGga.out)).trans HGga.out
  have HGgb : Hid (w14.heap[gb]? = some (.cells (opC k1 c1 s1 n1 p1 e1 t1 q1 b1) 42 (0, 0))) := (hB.block _ (lt_blk HGgb.out)).trans HGgb.out
  have HGgc : Hid (w14.heap[gc]? = some (.cells (markC m1) 44 (0, 0))) := (hB.block _ (lt_blk HGgc.out)).trans HGgc.out
  clear hd hB HD HW13
  go_upto_region 11 with (refine wpList_store_mark rfl _ _ rfl w14.heap.size m1 (fun _ => 0) ?_ ?_ (alloc_blk _ _) ?_; rfl; rfl)
  rw [setRow_zero]
  have HW15 : Hid (OqW w (opC k c s n p e t q b) ma ao P cap (w14.alloc (.cells (markC m1) 44))) := HW14.out.next (below_alloc _ _) (Nat.le_refl _)
  have HR1 : Hid (Rowed (w14.alloc (.cells (markC m1) 44)) a1 M1 cp1) := HR1.out.below (below_alloc _ _) (Nat.le_refl _)
  have HR2 : Hid (Rowed (w14.alloc (.cells (markC m1) 44)) a2 M1 cp2) := HR2.out.below (below_alloc _ _) (Nat.le_refl _)
  have HR3 : Hid (Rowed (w14.alloc (.cells (markC m1) 44)) a3 M2 cp3) := HR3.out.below (below_alloc _ _) (Nat.le_refl _)
  have HR4 : Hid (Rowed (w14.alloc (.cells (markC m1) 44)) a4 M2 cp4) := HR4.out.below (below_alloc _ _) (Nat.le_refl _)
  have HGga : Hid ((w14.alloc (.cells (markC m1) 44)).heap[ga]? = some (.cells (opC k1 c1 s1 n1 p1 e1 t1 q1 b1) 42 (0, 0))) := alloc_blk_old HGga.out _
  have HGgb : Hid ((w14.alloc (.cells (markC m1) 44)).heap[gb]? = some (.cells (opC k1 c1 s1 n1 p1 e1 t1 q1 b1) 42 (0, 0))) := alloc_blk_old HGgb.out _
  have HGgc : Hid ((w14.alloc (.cells (markC m1) 44)).heap[gc]? = some (.cells (markC m1) 44 (0, 0))) := alloc_blk_old HGgc.out _
  have HGgd : Hid ((w14.alloc (.cells (markC m1) 44)).heap[w14.heap.size]? = some (.cells (markC m1) 44 (0, 0))) := alloc_blk _ _
  generalize w14.alloc (.cells (markC m1) 44) = w15 at *
  obtain ⟨gd, hgd⟩ : ∃ gd, w14.heap.size = gd := ⟨_, rfl⟩
  rw [hgd] at HGgd
  simp only [hgd]
  clear hgd HW14
  have hcv1 := conv_str (w := w15) HR1.out HLM1.out.symm
  have hcv2 := conv_str (w := w15) HR2.out HLM1.out.symm
  have hcv3 := conv_str (w := w15) HR3.out HLM2.out.symm
  have hcv4 := conv_str (w := w15) HR4.out HLM2.out.symm
  obtain ⟨S1, HS1⟩ : ∃ S1, Hid (strOf M1 = S1) := ⟨_, rfl⟩
  obtain ⟨S2, HS2⟩ : ∃ S2, Hid (strOf M2 = S2) := ⟨_, rfl⟩
  rw [HS1.out] at hcv1 hcv2
  rw [HS2.out] at hcv3 hcv4
  have hEQ1 := fun w => (equal_ops k1 c1 s1 n1 n1 p1 e1 t1 q1 p1 e1 t1 q1 b1 b1 w).trans (by rw [self_op])
  have hEQ2 := fun w => (equal_marks m1 m1 w).trans (by rw [self_mark])
  have hs1 : (S1 == S1) = true := by rw [beq_toListBytes]; simp
  have hs2 : (S2 == S2) = true := by rw [beq_toListBytes]; simp
  go_wp2_with (first | (refine wpList_load_opG rfl rfl _ rfl ga k1 c1 s1 n1 p1 e1 t1 q1 b1 42 (0, 0) ?_ ?_ ?_; rfl; exact HGga.out) | (refine wpList_load_opG rfl rfl _ rfl gb k1 c1 s1 n1 p1 e1 t1 q1 b1 42 (0, 0) ?_ ?_ ?_; rfl; exact HGgb.out) | (refine wpList_load_markG rfl rfl _ rfl gc m1 44 (0, 0) ?_ ?_ ?_; rfl; exact HGgc.out) | (refine wpList_load_markG rfl rfl _ rfl gd m1 44 (0, 0) ?_ ?_ ?_; rfl; exact HGgd.out))
  refine (known5_any w15).mono ?_
  rintro x w16 ⟨rfl, hB16⟩
  have hW16 : Below w.heap.size w w16 := (HW15.out.next hB16 (Nat.le_refl _)).bel
  clear hcv1 hcv2 hcv3 hcv4 hEQ1 hEQ2
  go_wp2_with fail
  go_ret
  exact ⟨rfl, hW16⟩
end Go.Proofs.Ytkjocpadmlobgaa
