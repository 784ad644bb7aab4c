/- An operation out of bytes: decode. For rows of up to 2^30 bytes. -/
import Derived.Test.YtkjocpadmlobgaaWireOt
import Derived.Test.YtkjocpadmlobgaaWireDk
import Derived.Test.YtkjocpadmlobgaaWireJ
import Derived.Test.YtkjocpadmlobgaaWireO
namespace Go.Proofs.Ytkjocpadmlobgaa
open Go.RowKit Go.Dig Go.Inv Go.Oct
set_option linter.unusedVariables false

theorem byL_bytes (n : ByteArray) : ByteL (byL n) := fun x hx => by
  obtain ⟨b, _, rfl⟩ := List.mem_map.1 hx
  have := b.toNat_lt
  omega
theorem strOf_byL (n : ByteArray) : strOf (byL n) = n := by
  rw [strOf_data]
  apply ByteArray.ext
  apply Array.toList_inj.1
  simp only [byL, List.map_map]
  conv => rhs; rw [← List.map_id n.data.toList]
  refine List.map_congr_left fun b _ => ?_
  simp
theorem encOp_bytes (k c s : Int) (n : ByteArray) (p e t q : Int) (b : Bool) : ByteL (encOp k c s n p e t q b) := (((nums_bytes _).append (num_bytes _)).append (byL_bytes n)).append (nums_bytes _)
/-- what is decoded of bytes: an operation whose bytes they are, or none -/
def DecOp (B : List Int) (e : Ending) : Prop := ∃ (k c s : Int) (n : ByteArray) (p e' t q : Int) (b : Bool) (f : Int), e = .returned (.tuple #[.agg (opC k c s n p e' t q b), .int .i64 f]) ∧
  ((f = 0 ∧ opB k c s n p e' t q b = true ∧ encOp k c s n p e' t q b = B) ∨ (f = 2 ∧ opC k c s n p e' t q b = opC 0 0 0 eN 0 0 0 0 false ∧ ∀ k1 c1 s1 n1 p1 e1 t1 q1 b1, opB k1 c1 s1 n1 p1 e1 t1 q1 b1 = true → ¬ encOp k1 c1 s1 n1 p1 e1 t1 q1 b1 = B))
theorem DecOp.form {B : List Int} {e : Ending} (h : DecOp B e) : ∃ (k c s : Int) (n : ByteArray) (p e' t q : Int) (b : Bool) (f : Int), e = .returned (.tuple #[.agg (opC k c s n p e' t q b), .int .i64 f]) := by
  obtain ⟨k, c, s, n, p, e', t, q, b, f, he, _⟩ := h
  exact ⟨k, c, s, n, p, e', t, q, b, f, he⟩
theorem opC_inj {k c s : Int} {n : ByteArray} {p e t q : Int} {b : Bool} {k1 c1 s1 : Int} {n1 : ByteArray} {p1 e1 t1 q1 : Int} {b1 : Bool} (h : opC k c s n p e t q b = opC k1 c1 s1 n1 p1 e1 t1 q1 b1) : k = k1 ∧ c = c1 ∧ s = s1 ∧ n = n1 ∧ p = p1 ∧ e = e1 ∧ t = t1 ∧ q = q1 ∧ b = b1 := by
  simpa [opC] using h
theorem decOp_none {B : List Int} {k c s : Int} {n : ByteArray} {p e t q : Int} {b : Bool} (h : ∀ k1 c1 s1 n1 p1 e1 t1 q1 b1, opB k1 c1 s1 n1 p1 e1 t1 q1 b1 = true → encOp k1 c1 s1 n1 p1 e1 t1 q1 b1 = B → opC k c s n p e t q b = opC k1 c1 s1 n1 p1 e1 t1 q1 b1)
    (hn : opB k c s n p e t q b = false ∨ ¬ encOp k c s n p e t q b = B) : DecOp B (.returned (.tuple #[.agg (opC 0 0 0 eN 0 0 0 0 false), .int .i64 2])) :=
  ⟨0, 0, 0, eN, 0, 0, 0, 0, false, 2, rfl, .inr ⟨rfl, rfl, fun k1 c1 s1 n1 p1 e1 t1 q1 b1 ho hE => by
    obtain ⟨rfl, rfl, rfl, rfl, rfl, rfl, rfl, rfl, rfl⟩ := opC_inj (h _ _ _ _ _ _ _ _ _ ho hE)
    rcases hn with hn | hn
    · rw [ho] at hn; cases hn
    · exact hn hE⟩⟩
theorem opB_nums {k c s : Int} {n : ByteArray} {p e t q : Int} {b : Bool} (h : opB k c s n p e t q b = true) : NumOk k ∧ NumOk c ∧ NumOk s ∧ NumOk ((byL n).length : Int) ∧ NumOk p ∧ NumOk e ∧ NumOk t ∧ NumOk q := by
  obtain ⟨h1, h2, h3, h4, h5⟩ := opB_bounds h
  simp only [opB, Bool.and_eq_true, inB_iff] at h
  obtain ⟨⟨⟨⟨⟨⟨hk, hc⟩, hs⟩, -⟩, -⟩, -⟩, -⟩ := h
  rw [byL_length]
  unfold NumOk
  omega
theorem op_back {B L1 : List Int} {z k c s : Int} {n : ByteArray} {p e t q : Int} {b : Bool} (hT : Took B L1 [z])
    (h : ∀ k1 c1 s1 D p1 e1 t1 q1 b1 R, NumOk k1 → NumOk c1 → NumOk s1 → NumOk (D.length : Int) → NumOk p1 → NumOk e1 → NumOk t1 → NumOk q1 → L1 = nums [k1, c1, s1] ++ (num (D.length : Int) ++ (D ++ (nums [p1, e1, t1, q1, if b1 = true then 1 else 0] ++ R))) → opC k c s n p e t q b = opC k1 c1 s1 (strOf D) p1 e1 t1 q1 b1) :
    ∀ k1 c1 s1 n1 p1 e1 t1 q1 b1, opB k1 c1 s1 n1 p1 e1 t1 q1 b1 = true → encOp k1 c1 s1 n1 p1 e1 t1 q1 b1 = B → opC k c s n p e t q b = opC k1 c1 s1 n1 p1 e1 t1 q1 b1 := fun k1 c1 s1 n1 p1 e1 t1 q1 b1 ho hE => by
  obtain ⟨m1, m2, m3, m4, m5, m6, m7, m8⟩ := opB_nums ho
  have hB : B = num 2 ++ (nums [k1, c1, s1] ++ (num ((byL n1).length : Int) ++ (byL n1 ++ (nums [p1, e1, t1, q1, if b1 = true then 1 else 0] ++ [])))) := by
    rw [← hE, byL_length]
    unfold encOp
    simp only [nums_cons, nums_nil, List.append_nil, List.append_assoc]
  have := h k1 c1 s1 (byL n1) p1 e1 t1 q1 b1 [] m1 m2 m3 m4 m5 m6 m7 m8 (hT.one ⟨by decide, by decide⟩ hB).2
  rwa [strOf_byL] at this
theorem load_op_cell (w : World) (g : Nat) (k c s : Int) (n : ByteArray) (p e t q : Int) (b : Bool) (ty : TypeId) (fr : Nat × Nat) (hg : w.heap[g]? = some (.cells (opC k c s n p e t q b) ty fr)) : (loadVar 42 ⟨g, 0, none⟩).run Try.prog w = .ok (.agg (opC k c s n p e t q b)) w := by
  obtain ⟨d, hd1, hd2⟩ := op_row
  exact run_loadVar_row w g ty 42 (opC k c s n p e t q b) fr d hg hd1 (by cases d <;> simp_all [TypeDesc.isRow]) (op_info k c s n p e t q b)

set_option maxRecDepth 10000 in
set_option maxHeartbeats 4000000 in
theorem decodeOp_str (B : List Int) (ao : Option Addr) (cap : Nat) (w : World) (hR : Rowed w ao B cap) (hy : ∀ x ∈ B, 0 ≤ x ∧ x < 256) (hl : B.length < 1073741824) :
    Calls Try.prog 56 #[.slice ao B.length cap, .func (.func 57) #[] #[], .func (.func 17) #[] #[]] w fun e w' => DecOp B e ∧ Below w.heap.size w w' := by
  have HB0 : Hid (Below w.heap.size w (w.alloc (.cells (opC 0 0 0 eN 0 0 0 0 false) 42))) := below_alloc _ _
  have H0 : Hid ((w.alloc (.cells (opC 0 0 0 eN 0 0 0 0 false) 42)).heap[w.heap.size]? = some (.cells (opC 0 0 0 eN 0 0 0 0 false) 42)) := alloc_blk _ _
  have HR : Hid (Rowed w ao B cap) := hR
  have HY : Hid (∀ x ∈ B, 0 ≤ x ∧ x < 256) := hy
  have HBL : Hid (B.length < 1073741824) := hl
  have hNR := newReader_str B ao cap (w.alloc (.cells (opC 0 0 0 eN 0 0 0 0 false) 42)) (hR.below HB0.out (Nat.le_refl _)) hy (by omega)
  obtain ⟨n, HN⟩ : ∃ n, Hid (B.length = n) := ⟨_, rfl⟩
  rw [HN.out] at hNR hl ⊢
  have HNR : Hid (Calls Try.prog 71 #[.slice ao n cap] (w.alloc (.cells (opC 0 0 0 eN 0 0 0 0 false) 42)) fun e w' => ∃ r, e = .returned (.pointer (some ⟨r, 0, none⟩)) ∧ RdL w' r B ∧ (w.alloc (.cells (opC 0 0 0 eN 0 0 0 0 false) 42)).heap.size ≤ r ∧ Below (w.alloc (.cells (opC 0 0 0 eN 0 0 0 0 false) 42)).heap.size (w.alloc (.cells (opC 0 0 0 eN 0 0 0 0 false) 42)) w') := hNR
  have hs0 : (w.alloc (.cells (opC 0 0 0 eN 0 0 0 0 false) 42)).heap.size = w.heap.size + 1 := by simp
  clear hNR hR hy
  go_enter Try.func56, Try.ntmps56
  go_upto_region 1 with fail
  change Code.wp _ _ _ _ (w.alloc (.cells (opC 0 0 0 eN 0 0 0 0 false) 42))
  generalize w.alloc (.cells (opC 0 0 0 eN 0 0 0 0 false) 42) = w0 at *
  go_wp2_with fail
  refine HNR.out.mono ?_
  rintro e w1 ⟨r, rfl, hr1, hr0, hB1⟩
  rw [hs0] at hr0 hB1
  have HR1 : Hid (RdL w1 r B) := hr1
  clear hr1 HNR
  go_wp2_with fail
  refine (rdNum_str r B w1 HR1.out).mono ?_
  rintro e w2 ⟨⟨z, rfl, -, -, L1, hr2, ht2, hl2⟩, hk2, -⟩
  have hrw1 := HR1.out.lt
  have HR2 : Hid (RdL w2 r L1) := hr2
  have HT2 : Hid (Took B L1 [z] ∧ L1.length ≤ B.length) := ⟨ht2, hl2⟩
  have hB2 : Below (w.heap.size + 1) w0 w2 := hB1.trans (hk2.below hr0 (by omega))
  clear hr2 hk2 hB1 HR1 ht2 hl2
  go_wp2_with fail
  refine (takeOp_str r L1 w2 HR2.out).mono ?_
  rintro e w3 ⟨⟨k, c, s, nm, p, e', t, q, b, rfl, ik, ic, is, ip, ie, it, iq, hns, hcm⟩, hB3'⟩
  have HCM : Hid (∀ k1 c1 s1 n1 p1 e1 t1 q1 b1, opB k1 c1 s1 n1 p1 e1 t1 q1 b1 = true → encOp k1 c1 s1 n1 p1 e1 t1 q1 b1 = B → opC k c s nm p e' t q b = opC k1 c1 s1 n1 p1 e1 t1 q1 b1) := op_back HT2.out.1 hcm
  have hnsz : nm.size < 1073741824 := by have := HT2.out.2; have := HBL.out; omega
  clear hcm hns
  have hB3 : Below (w.heap.size + 1) w0 w3 := hB2.trans (hB3'.mono hr0)
  have hz3 : w.heap.size + 1 ≤ w3.heap.size := by have := hB3.size; omega
  clear hB3' hB2 HR2 HT2
  go_upto_region 4 with ((refine wpList_store_op rfl _ _ rfl w3.heap.size k c s nm p e' t q b (opC 0 0 0 eN 0 0 0 0 false) ?_ ?_ ?_ ?_ ?_; rfl; rfl; exact (alloc_blk _ _); rfl))
  rw [setRow_new]
  have HG4 : Hid ((w3.alloc (.cells (opC k c s nm p e' t q b) 42)).heap[w3.heap.size]? = some (.cells (opC k c s nm p e' t q b) 42 (0, 0))) := alloc_blk _ _
  have hB4 : Below (w.heap.size + 1) w0 (w3.alloc (.cells (opC k c s nm p e' t q b) 42)) := hB3.alloc hz3 _
  have hs4 : (w3.alloc (.cells (opC k c s nm p e' t q b) 42)).heap.size = w3.heap.size + 1 := by simp

  generalize w3.alloc (.cells (opC k c s nm p e' t q b) 42) = w4 at *
  obtain ⟨g, hg⟩ : ∃ g, w3.heap.size = g := ⟨_, rfl⟩
  rw [hg] at HG4 hs4 hz3
  simp only [hg]
  clear hg hB3
  go_wp2_with ((refine wpList_load_op rfl _ rfl g k c s nm p e' t q b 42 (0, 0) ?_ ?_ ?_; rfl; exact HG4.out))
  refine (encodeOp_any k c s nm p e' t q b w4 ik ic is ip ie it iq hnsz).mono ?_
  rintro e w5 ⟨v5, rfl, hO5, hB5'⟩
  have hB5 : Below (w.heap.size + 1) w0 w5 := hB4.trans (hB5'.mono (by omega))
  have HG5 : Hid (w5.heap[g]? = some (.cells (opC k c s nm p e' t q b) 42 (0, 0))) := (hB5'.block g (by omega)).trans HG4.out
  have H05 : Hid (w5.heap[w.heap.size]? = some (.cells (opC 0 0 0 eN 0 0 0 0 false) 42 (0, 0))) := (hB5.block _ (Nat.lt_succ_self _)).trans H0.out
  have HR5 : Hid (Rowed w5 ao B cap) := HR.out.below (HB0.out.trans (hB5.mono (Nat.le_succ _))) (Nat.le_refl _)
  have hW5 : Below w.heap.size w w5 := HB0.out.trans (hB5.mono (Nat.le_succ _))
  have hz5 : w.heap.size < w5.heap.size := lt_blk H05.out

  clear hB5' hB4 HG4 hB5
  obtain ⟨ok, HOK⟩ : ∃ ok, Hid (opB k c s nm p e' t q b = ok) := ⟨_, rfl⟩
  rw [HOK.out] at hO5 ⊢
  cases ok
  · simp only [Bool.false_eq_true, if_false] at hO5 ⊢
    clear hO5
    have HD : Hid (DecOp B (.returned (.tuple #[.agg (opC 0 0 0 eN 0 0 0 0 false), .int .i64 2]))) := decOp_none HCM.out (.inl HOK.out)
    have HA6 : Hid ((w5.alloc (.cells (opC 0 0 0 eN 0 0 0 0 false) 42)).heap[w5.heap.size]? = some (.cells (opC 0 0 0 eN 0 0 0 0 false) 42)) := alloc_blk _ _
    have H06 : Hid ((w5.alloc (.cells (opC 0 0 0 eN 0 0 0 0 false) 42)).heap[w.heap.size]? = some (.cells (opC 0 0 0 eN 0 0 0 0 false) 42 (0, 0))) := alloc_blk_old H05.out _
    have hW6 : Below w.heap.size w (w5.alloc (.cells (opC 0 0 0 eN 0 0 0 0 false) 42)) := hW5.alloc (by omega) _
    go_upto_region 7 with fail
    change Code.wp _ _ _ _ (w5.alloc (.cells (opC 0 0 0 eN 0 0 0 0 false) 42))
    obtain ⟨g7, hg7⟩ : ∃ g7, w5.heap.size = g7 := ⟨_, rfl⟩
    rw [hg7] at HA6
    simp only [hg7]
    generalize w5.alloc (.cells (opC 0 0 0 eN 0 0 0 0 false) 42) = w7 at *
    have hz7 : w.heap.size < w7.heap.size := lt_blk H06.out
    go_wp2_with (first | ((refine wpList_load_op rfl _ rfl g7 0 0 0 eN 0 0 0 0 false 42 (0, 0) ?_ ?_ ?_; rfl; exact HA6.out)) | ((refine wpList_store_op rfl _ _ rfl w.heap.size 0 0 0 eN 0 0 0 0 false (opC 0 0 0 eN 0 0 0 0 false) ?_ ?_ ?_ ?_ ?_; rfl; rfl; exact H06.out; rfl)))
    have HC8 : Hid ((w7.setRow w.heap.size (opC 0 0 0 eN 0 0 0 0 false)).heap[w.heap.size]? = some (.cells (opC 0 0 0 eN 0 0 0 0 false) 42 (0, 0))) := setRow_blk H06.out _
    have hW8 : Below w.heap.size w (w7.setRow w.heap.size (opC 0 0 0 eN 0 0 0 0 false)) := hW6.trans ((keeps_setRow w7 _ _).below (Nat.le_refl _) (by omega))
    refine bodyPost_ret (v := .tuple #[.agg (opC 0 0 0 eN 0 0 0 0 false), .int .i64 2]) ?_ rfl ⟨HD.out, hW8⟩
    exact results_cell_tmp (p := 6) (q := 7) rfl _ _ w.heap.size _ _ rfl rfl (load_op_cell _ _ _ _ _ _ _ _ _ _ _ _ _ HC8.out)
  · simp only [if_true] at hO5 ⊢
    obtain ⟨ao5, n5, c5, rfl, HF5⟩ := hO5.form
    clear hO5
    go_wp2_with fail
    refine (bytesEqual_any (encOp k c s nm p e' t q b) B ao5 ao n5 n c5 cap w5 HF5.out.2.2 HR5.out HF5.out.1 HN.out.symm).mono ?_
    rintro e w6 ⟨rfl, rfl⟩
    obtain ⟨eb, HEB⟩ : ∃ eb, Hid (((strOf (encOp k c s nm p e' t q b)).toList == (strOf B).toList) = eb) := ⟨_, rfl⟩
    rw [HEB.out]
    cases eb
    · have HD : Hid (DecOp B (.returned (.tuple #[.agg (opC 0 0 0 eN 0 0 0 0 false), .int .i64 2]))) := decOp_none HCM.out (.inr (fun h => by have h2 := HEB.out; rw [h] at h2; simp at h2))
      have HA6 : Hid ((w6.alloc (.cells (opC 0 0 0 eN 0 0 0 0 false) 42)).heap[w6.heap.size]? = some (.cells (opC 0 0 0 eN 0 0 0 0 false) 42)) := alloc_blk _ _
      have H06 : Hid ((w6.alloc (.cells (opC 0 0 0 eN 0 0 0 0 false) 42)).heap[w.heap.size]? = some (.cells (opC 0 0 0 eN 0 0 0 0 false) 42 (0, 0))) := alloc_blk_old H05.out _
      have hW6 : Below w.heap.size w (w6.alloc (.cells (opC 0 0 0 eN 0 0 0 0 false) 42)) := hW5.alloc (by omega) _
      go_upto_region 7 with fail
      change Code.wp _ _ _ _ (w6.alloc (.cells (opC 0 0 0 eN 0 0 0 0 false) 42))
      obtain ⟨g7, hg7⟩ : ∃ g7, w6.heap.size = g7 := ⟨_, rfl⟩
      rw [hg7] at HA6
      simp only [hg7]
      generalize w6.alloc (.cells (opC 0 0 0 eN 0 0 0 0 false) 42) = w7 at *
      have hz7 : w.heap.size < w7.heap.size := lt_blk H06.out
      go_wp2_with (first | ((refine wpList_load_op rfl _ rfl g7 0 0 0 eN 0 0 0 0 false 42 (0, 0) ?_ ?_ ?_; rfl; exact HA6.out)) | ((refine wpList_store_op rfl _ _ rfl w.heap.size 0 0 0 eN 0 0 0 0 false (opC 0 0 0 eN 0 0 0 0 false) ?_ ?_ ?_ ?_ ?_; rfl; rfl; exact H06.out; rfl)))
      have HC8 : Hid ((w7.setRow w.heap.size (opC 0 0 0 eN 0 0 0 0 false)).heap[w.heap.size]? = some (.cells (opC 0 0 0 eN 0 0 0 0 false) 42 (0, 0))) := setRow_blk H06.out _
      have hW8 : Below w.heap.size w (w7.setRow w.heap.size (opC 0 0 0 eN 0 0 0 0 false)) := hW6.trans ((keeps_setRow w7 _ _).below (Nat.le_refl _) (by omega))
      refine bodyPost_ret (v := .tuple #[.agg (opC 0 0 0 eN 0 0 0 0 false), .int .i64 2]) ?_ rfl ⟨HD.out, hW8⟩
      exact results_cell_tmp (p := 6) (q := 7) rfl _ _ w.heap.size _ _ rfl rfl (load_op_cell _ _ _ _ _ _ _ _ _ _ _ _ _ HC8.out)
    · have HEQ : Hid (encOp k c s nm p e' t q b = B) := by
        have h1 := HEB.out
        rw [← beq_toListBytes] at h1
        exact strOf_inj (encOp_bytes _ _ _ _ _ _ _ _ _) HY.out (ByteArray.ext (eq_of_beq (show ((strOf (encOp k c s nm p e' t q b)).data == (strOf B).data) = true from h1)))
      go_wp2_with (first | ((refine wpList_load_op rfl _ rfl g k c s nm p e' t q b 42 (0, 0) ?_ ?_ ?_; rfl; exact HG5.out)) | ((refine wpList_store_op rfl _ _ rfl w.heap.size k c s nm p e' t q b (opC 0 0 0 eN 0 0 0 0 false) ?_ ?_ ?_ ?_ ?_; rfl; rfl; exact H05.out; rfl)))
      have HC6 : Hid ((w6.setRow w.heap.size (opC k c s nm p e' t q b)).heap[w.heap.size]? = some (.cells (opC k c s nm p e' t q b) 42 (0, 0))) := setRow_blk H05.out _
      have hW6 : Below w.heap.size w (w6.setRow w.heap.size (opC k c s nm p e' t q b)) := hW5.trans ((keeps_setRow w6 _ _).below (Nat.le_refl _) (by omega))
      refine bodyPost_ret (v := .tuple #[.agg (opC k c s nm p e' t q b), .int .i64 0]) ?_ rfl ⟨⟨k, c, s, nm, p, e', t, q, b, 0, rfl, .inl ⟨rfl, HOK.out, HEQ.out⟩⟩, hW6⟩
      exact results_cell_tmp (p := 6) (q := 7) rfl _ _ w.heap.size _ _ rfl rfl (load_op_cell _ _ _ _ _ _ _ _ _ _ _ _ _ HC6.out)
set_option maxRecDepth 10000 in
set_option maxHeartbeats 1000000 in
theorem dOp_str (B : List Int) (ao : Option Addr) (cap : Nat) (w : World) (hR : Rowed w ao B cap) (hy : ∀ x ∈ B, 0 ≤ x ∧ x < 256) (hl : B.length < 1073741824) :
    Calls Try.prog 19 #[.slice ao B.length cap] w fun e w' => DecOp B e ∧ Below w.heap.size w w' := by
  have HB0 : Hid (Below w.heap.size w (w.alloc (.cells (opC 0 0 0 eN 0 0 0 0 false) 42))) := below_alloc _ _
  have H0 : Hid ((w.alloc (.cells (opC 0 0 0 eN 0 0 0 0 false) 42)).heap[w.heap.size]? = some (.cells (opC 0 0 0 eN 0 0 0 0 false) 42)) := alloc_blk _ _
  have hD := decodeOp_str B ao cap (w.alloc (.cells (opC 0 0 0 eN 0 0 0 0 false) 42)) (hR.below HB0.out (Nat.le_refl _)) hy hl
  obtain ⟨n, HN⟩ : ∃ n, Hid (B.length = n) := ⟨_, rfl⟩
  rw [HN.out] at hD ⊢
  have HD : Hid (Calls Try.prog 56 #[.slice ao n cap, .func (.func 57) #[] #[], .func (.func 17) #[] #[]] (w.alloc (.cells (opC 0 0 0 eN 0 0 0 0 false) 42)) fun e w' => DecOp B e ∧ Below (w.alloc (.cells (opC 0 0 0 eN 0 0 0 0 false) 42)).heap.size (w.alloc (.cells (opC 0 0 0 eN 0 0 0 0 false) 42)) w') := hD
  have hs0 : (w.alloc (.cells (opC 0 0 0 eN 0 0 0 0 false) 42)).heap.size = w.heap.size + 1 := by simp
  clear hD hR hy hl
  go_enter Try.func19, Try.ntmps19
  go_upto_region 1 with fail
  change Code.wp _ _ _ _ (w.alloc (.cells (opC 0 0 0 eN 0 0 0 0 false) 42))
  generalize w.alloc (.cells (opC 0 0 0 eN 0 0 0 0 false) 42) = w0 at *
  go_wp2_with fail
  refine HD.out.mono ?_
  rintro e w1 ⟨hd, hB1⟩
  rw [hs0] at hB1
  obtain ⟨k, c, s, nm, p, e', t, q, b, f, rfl⟩ := hd.form
  have HF : Hid (DecOp B (.returned (.tuple #[.agg (opC k c s nm p e' t q b), .int .i64 f]))) := hd
  have H01 : Hid (w1.heap[w.heap.size]? = some (.cells (opC 0 0 0 eN 0 0 0 0 false) 42 (0, 0))) := (hB1.block _ (Nat.lt_succ_self _)).trans H0.out
  have hW1 : Below w.heap.size w w1 := HB0.out.trans (hB1.mono (Nat.le_succ _))
  have hz1 : w.heap.size < w1.heap.size := lt_blk H01.out
  clear hd hB1 HD
  go_wp2_with ((refine wpList_store_op rfl _ _ rfl w.heap.size k c s nm p e' t q b (opC 0 0 0 eN 0 0 0 0 false) ?_ ?_ ?_ ?_ ?_; rfl; rfl; exact H01.out; rfl))
  have HC2 : Hid ((w1.setRow w.heap.size (opC k c s nm p e' t q b)).heap[w.heap.size]? = some (.cells (opC k c s nm p e' t q b) 42 (0, 0))) := setRow_blk H01.out _
  have hW2 : Below w.heap.size w (w1.setRow w.heap.size (opC k c s nm p e' t q b)) := hW1.trans ((keeps_setRow w1 _ _).below (Nat.le_refl _) (by omega))
  refine bodyPost_ret (v := .tuple #[.agg (opC k c s nm p e' t q b), .int .i64 f]) ?_ rfl ⟨HF.out, hW2⟩
  exact results_cell_tmp (p := 2) (q := 3) rfl _ _ w.heap.size _ _ rfl rfl (load_op_cell _ _ _ _ _ _ _ _ _ _ _ _ _ HC2.out)
end Go.Proofs.Ytkjocpadmlobgaa
