/- A mark out of bytes, weakly: whatever is decoded as OK encodes to the very bytes. For rows of up to 2^30 bytes. -/
import Derived.Test.YtkjocpadmlobgaaWireTk
import Derived.Test.YtkjocpadmlobgaaWireP
import Derived.Deep.CutRange
namespace Go.Oct
def ByteL (L : List Int) : Prop := ∀ x ∈ L, 0 ≤ x ∧ x < 256
theorem ByteL.append {a b : List Int} (h : ByteL a) (k : ByteL b) : ByteL (a ++ b) := fun x hx => (List.mem_append.1 hx).elim (h x) (k x)
theorem numA_bytes : ∀ f n, n < 128 ^ (f + 1) → ByteL (numA f n)
  | 0, n, h => fun x hx => by
    simp [numA] at hx
    simp at h
    omega
  | f + 1, n, h => fun x hx => by
    unfold numA at hx
    split at hx
    · simp at hx; omega
    · rcases List.mem_cons.1 hx with rfl | hx
      · omega
      · exact numA_bytes f _ (Nat.div_lt_of_lt_mul (by rw [Nat.mul_comm, ← Nat.pow_succ]; exact h)) x hx
theorem num_bytes (z : Int) : ByteL (num z) := numA_bytes 8 _ (cutN_lt z)
theorem nums_bytes (l : List Int) : ByteL (nums l) := fun x hx => by
  obtain ⟨z, _, hz⟩ := List.mem_flatMap.1 hx
  exact num_bytes z x hz
end Go.Oct
namespace Go.Proofs.Ytkjocpadmlobgaa
open Go.RowKit Go.Dig Go.Inv Go.Oct

theorem strOf_data (L : List Int) : strOf L = ⟨(L.map fun n => UInt8.ofNat n.toNat).toArray⟩ := by
  have key : ∀ (L : List Int) (r : ByteArray), L.foldl (fun r n => r.push (UInt8.ofNat n.toNat)) r = ⟨r.data ++ (L.map fun n => UInt8.ofNat n.toNat).toArray⟩ := by
    intro L
    induction L with
    | nil => intro r; simp
    | cons x t ih => intro r; rw [List.foldl_cons, ih]; simp [ByteArray.push]
  have := key L ByteArray.empty
  unfold strOf
  rw [this]
  simp
theorem strOf_inj {P Q : List Int} (hP : ∀ x ∈ P, 0 ≤ x ∧ x < 256) (hQ : ∀ x ∈ Q, 0 ≤ x ∧ x < 256) (h : strOf P = strOf Q) : P = Q := by
  rw [strOf_data, strOf_data] at h
  injection h with h
  have h2 : (P.map fun n => UInt8.ofNat n.toNat) = Q.map fun n => UInt8.ofNat n.toNat := by simpa using h
  have key : ∀ (P Q : List Int), (∀ x ∈ P, 0 ≤ x ∧ x < 256) → (∀ x ∈ Q, 0 ≤ x ∧ x < 256) → (P.map fun n => UInt8.ofNat n.toNat) = (Q.map fun n => UInt8.ofNat n.toNat) → P = Q := by
    intro P
    induction P with
    | nil => intro Q _ _ h; cases Q with | nil => rfl | cons => simp at h
    | cons x P ih =>
      intro Q h1 h2 h
      cases Q with
      | nil => simp at h
      | cons y Q =>
        simp only [List.map_cons, List.cons.injEq] at h
        have hx := h1 x (by simp)
        have hy := h2 y (by simp)
        have e := congrArg UInt8.toNat h.1
        simp only [UInt8.toNat_ofNat'] at e
        rw [ih Q (fun z hz => h1 z (by simp [hz])) (fun z hz => h2 z (by simp [hz])) h.2]
        congr 1
        omega
  exact key P Q hP hQ h2
theorem setRow_zero (w : World) (a : Nat → Int) : (w.alloc (.cells #[.int .i64 0, .int .i64 0, .int .i64 0, .int .i64 0] 44)).setRow w.heap.size (markC a) = w.alloc (.cells (markC a) 44) := setRow_new _ _ _ _
set_option linter.unusedVariables false
set_option maxRecDepth 10000 in
set_option maxHeartbeats 4000000 in
theorem decodeMark_any (B : List Int) (ao : Option Addr) (cap : Nat) (w : World) (hR : Rowed w ao B cap) (hy : ∀ x ∈ B, 0 ≤ x ∧ x < 256) (hl : B.length < 1073741824) :
    Calls Try.prog 59 #[.slice ao B.length cap, .func (.func 60) #[] #[], .func (.func 21) #[] #[]] w fun e w' => (∃ (a : Nat → Int) (f : Int), e = .returned (.tuple #[.agg (markC a), .int .i64 f]) ∧ (f = 0 → encMark (a 0) (a 1) (a 2) (a 3) = B)) ∧ Below w.heap.size w w' := by
  have HB0 : Hid (Below w.heap.size w (w.alloc (.cells (markC (fun _ => 0)) 44))) := below_alloc _ _
  have H0 : Hid ((w.alloc (.cells (markC (fun _ => 0)) 44)).heap[w.heap.size]? = some (.cells (markC (fun _ => 0)) 44)) := alloc_blk _ _
  have HR : Hid (Rowed w ao B cap) := hR
  have HY : Hid (∀ x ∈ B, 0 ≤ x ∧ x < 256) := hy
  have hNR := newReader_any B ao cap (w.alloc (.cells (markC (fun _ => 0)) 44)) (hR.below HB0.out (Nat.le_refl _)) hy (by omega)
  obtain ⟨n, HN⟩ : ∃ n, Hid (B.length = n) := ⟨_, rfl⟩
  rw [HN.out] at hNR hl ⊢
  have HNR : Hid (Calls Try.prog 71 #[.slice ao n cap] (w.alloc (.cells (markC (fun _ => 0)) 44)) fun e w' => ∃ r, e = .returned (.pointer (some ⟨r, 0, none⟩)) ∧ Rd w' r ∧ (w.alloc (.cells (markC (fun _ => 0)) 44)).heap.size ≤ r ∧ Below (w.alloc (.cells (markC (fun _ => 0)) 44)).heap.size (w.alloc (.cells (markC (fun _ => 0)) 44)) w') := hNR
  have hs0 : (w.alloc (.cells (markC (fun _ => 0)) 44)).heap.size = w.heap.size + 1 := by simp
  clear hNR hR hy
  go_enter Try.func59, Try.ntmps59
  go_upto_region 1 with fail
  change Code.wp _ _ _ _ (w.alloc (.cells (markC (fun _ => 0)) 44))
  generalize w.alloc (.cells (markC (fun _ => 0)) 44) = w0 at *
  go_wp2_with fail
  refine HNR.out.mono ?_
  rintro e w1 ⟨r, rfl, hr1, hr0, hB1⟩
  rw [hs0] at hr0 hB1
  have HR1 : Hid (Rd w1 r) := hr1
  clear hr1 HNR
  go_wp2_with fail
  refine (rdNum_any r w1 HR1.out).mono ?_
  rintro e w2 ⟨⟨z, rfl, -⟩, hr2, hk2⟩
  have hrw1 := HR1.out.lt
  have HR2 : Hid (Rd w2 r) := hr2
  have hB2 : Below (w.heap.size + 1) w0 w2 := hB1.trans (hk2.below hr0 (by omega))
  clear hr2 hk2 hB1 HR1
  go_wp2_with fail
  refine (takeMark_any r w2 HR2.out).mono ?_
  rintro e w3 ⟨⟨a, rfl, ha⟩, hB3'⟩
  have hB3 : Below (w.heap.size + 1) w0 w3 := hB2.trans (hB3'.mono hr0)
  have hz3 : w.heap.size + 1 ≤ w3.heap.size := by have := hB3.size; omega
  clear hB3' hB2 HR2
  go_upto_region 4 with (refine wpList_store_mark rfl _ _ rfl w3.heap.size a (fun _ => 0) ?_ ?_ (alloc_blk _ _) ?_; rfl; rfl)
  rw [setRow_zero]
  have HG4 : Hid ((w3.alloc (.cells (markC a) 44)).heap[w3.heap.size]? = some (.cells (markC a) 44 (0, 0))) := alloc_blk _ _
  have hB4 : Below (w.heap.size + 1) w0 (w3.alloc (.cells (markC a) 44)) := hB3.alloc hz3 _
  have hs4 : (w3.alloc (.cells (markC a) 44)).heap.size = w3.heap.size + 1 := by simp
  generalize w3.alloc (.cells (markC a) 44) = w4 at *
  obtain ⟨g, hg⟩ : ∃ g, w3.heap.size = g := ⟨_, rfl⟩
  rw [hg] at HG4 hs4 hz3
  simp only [hg]
  clear hg hB3
  go_wp2_with (refine wpList_load_mark rfl _ rfl g a 44 (0, 0) ?_ ?_ ?_; rfl; exact HG4.out)
  refine (encodeMark_any (a 0) (a 1) (a 2) (a 3) w4 (ha 0) (ha 1) (ha 2) (ha 3)).mono ?_
  rintro e w5 ⟨v5, rfl, hO5, hB5'⟩
  have hB5 : Below (w.heap.size + 1) w0 w5 := hB4.trans (hB5'.mono (by omega))
  have HG5 : Hid (w5.heap[g]? = some (.cells (markC a) 44 (0, 0))) := (hB5'.block g (by omega)).trans HG4.out
  have H05 : Hid (w5.heap[w.heap.size]? = some (.cells (markC (fun _ => 0)) 44 (0, 0))) := (hB5.block _ (Nat.lt_succ_self _)).trans H0.out
  have HR5 : Hid (Rowed w5 ao B cap) := HR.out.below (HB0.out.trans (hB5.mono (Nat.le_succ _))) (Nat.le_refl _)
  have hW5 : Below w.heap.size w w5 := HB0.out.trans (hB5.mono (Nat.le_succ _))
  have hz5 : w.heap.size < w5.heap.size := lt_blk H05.out
  clear hB5' hB4 HG4 hB5
  obtain ⟨ok, HOK⟩ : ∃ ok, Hid (markB (a 0) (a 1) (a 2) (a 3) = ok) := ⟨_, rfl⟩
  rw [HOK.out] at hO5 ⊢
  cases ok
  · simp only [Bool.false_eq_true, if_false] at hO5 ⊢
    clear hO5
    have HA6 : Hid ((w5.alloc (.cells (markC (fun _ => 0)) 44)).heap[w5.heap.size]? = some (.cells (markC (fun _ => 0)) 44)) := alloc_blk _ _
    have H06 : Hid ((w5.alloc (.cells (markC (fun _ => 0)) 44)).heap[w.heap.size]? = some (.cells (markC (fun _ => 0)) 44 (0, 0))) := alloc_blk_old H05.out _
    have hW6 : Below w.heap.size w (w5.alloc (.cells (markC (fun _ => 0)) 44)) := hW5.alloc (by omega) _
    go_upto_region 7 with fail
    change Code.wp _ _ _ _ (w5.alloc (.cells (markC (fun _ => 0)) 44))
    obtain ⟨g7, hg7⟩ : ∃ g7, w5.heap.size = g7 := ⟨_, rfl⟩
    rw [hg7] at HA6
    simp only [hg7]
    generalize w5.alloc (.cells (markC (fun _ => 0)) 44) = w7 at *
    have hz7 : w.heap.size < w7.heap.size := lt_blk H06.out
    go_wp2_with (first | (refine wpList_load_mark rfl _ rfl g7 (fun _ => 0) 44 (0, 0) ?_ ?_ ?_; rfl; exact HA6.out) | (refine wpList_store_mark rfl _ _ rfl w.heap.size (fun _ => 0) (fun _ => 0) ?_ ?_ H06.out ?_; rfl; rfl))
    have HC8 : Hid ((w7.setRow w.heap.size (markC (fun _ => 0))).heap[w.heap.size]? = some (.cells (markC (fun _ => 0)) 44 (0, 0))) := setRow_blk H06.out _
    have hW8 : Below w.heap.size w (w7.setRow w.heap.size (markC (fun _ => 0))) := hW6.trans ((keeps_setRow w7 _ _).below (Nat.le_refl _) (by omega))
    refine bodyPost_ret (v := .tuple #[.agg (markC (fun _ => 0)), .int .i64 2]) ?_ rfl ⟨⟨fun _ => 0, 2, rfl, fun h => by cases h⟩, hW8⟩
    exact results_cell_tmp (p := 6) (q := 7) rfl _ _ w.heap.size _ _ rfl rfl (load_mark_cell _ _ _ _ _ HC8.out)
  · simp only [if_true] at hO5 ⊢
    obtain ⟨ao5, n5, c5, rfl, HF5⟩ := hO5.form
    clear hO5
    go_wp2_with fail
    refine (bytesEqual_any (encMark (a 0) (a 1) (a 2) (a 3)) B ao5 ao n5 n c5 cap w5 HF5.out.2.2 HR5.out HF5.out.1 HN.out.symm).mono ?_
    rintro e w6 ⟨rfl, rfl⟩
    obtain ⟨eb, HEB⟩ : ∃ eb, Hid (((strOf (encMark (a 0) (a 1) (a 2) (a 3))).toList == (strOf B).toList) = eb) := ⟨_, rfl⟩
    rw [HEB.out]
    cases eb
    · have HA6 : Hid ((w6.alloc (.cells (markC (fun _ => 0)) 44)).heap[w6.heap.size]? = some (.cells (markC (fun _ => 0)) 44)) := alloc_blk _ _
      have H06 : Hid ((w6.alloc (.cells (markC (fun _ => 0)) 44)).heap[w.heap.size]? = some (.cells (markC (fun _ => 0)) 44 (0, 0))) := alloc_blk_old H05.out _
      have hW6 : Below w.heap.size w (w6.alloc (.cells (markC (fun _ => 0)) 44)) := hW5.alloc (by omega) _
      go_upto_region 7 with fail
      change Code.wp _ _ _ _ (w6.alloc (.cells (markC (fun _ => 0)) 44))
      obtain ⟨g7, hg7⟩ : ∃ g7, w6.heap.size = g7 := ⟨_, rfl⟩
      rw [hg7] at HA6
      simp only [hg7]
      generalize w6.alloc (.cells (markC (fun _ => 0)) 44) = w7 at *
      have hz7 : w.heap.size < w7.heap.size := lt_blk H06.out
      go_wp2_with (first | (refine wpList_load_mark rfl _ rfl g7 (fun _ => 0) 44 (0, 0) ?_ ?_ ?_; rfl; exact HA6.out) | (refine wpList_store_mark rfl _ _ rfl w.heap.size (fun _ => 0) (fun _ => 0) ?_ ?_ H06.out ?_; rfl; rfl))
      have HC8 : Hid ((w7.setRow w.heap.size (markC (fun _ => 0))).heap[w.heap.size]? = some (.cells (markC (fun _ => 0)) 44 (0, 0))) := setRow_blk H06.out _
      have hW8 : Below w.heap.size w (w7.setRow w.heap.size (markC (fun _ => 0))) := hW6.trans ((keeps_setRow w7 _ _).below (Nat.le_refl _) (by omega))
      refine bodyPost_ret (v := .tuple #[.agg (markC (fun _ => 0)), .int .i64 2]) ?_ rfl ⟨⟨fun _ => 0, 2, rfl, fun h => by cases h⟩, hW8⟩
      exact results_cell_tmp (p := 6) (q := 7) rfl _ _ w.heap.size _ _ rfl rfl (load_mark_cell _ _ _ _ _ HC8.out)
    · have HEQ : Hid (encMark (a 0) (a 1) (a 2) (a 3) = B) := by
        have h1 := HEB.out
        rw [← beq_toListBytes] at h1
        exact strOf_inj (nums_bytes _) HY.out (ByteArray.ext (eq_of_beq (show ((strOf (encMark (a 0) (a 1) (a 2) (a 3))).data == (strOf B).data) = true from h1)))
      go_wp2_with (first | (refine wpList_load_mark rfl _ rfl g a 44 (0, 0) ?_ ?_ ?_; rfl; exact HG5.out) | (refine wpList_store_mark rfl _ _ rfl w.heap.size a (fun _ => 0) ?_ ?_ H05.out ?_; rfl; rfl))
      have HC6 : Hid ((w6.setRow w.heap.size (markC a)).heap[w.heap.size]? = some (.cells (markC a) 44 (0, 0))) := setRow_blk H05.out _
      have hW6 : Below w.heap.size w (w6.setRow w.heap.size (markC a)) := hW5.trans ((keeps_setRow w6 _ _).below (Nat.le_refl _) (by omega))
      refine bodyPost_ret (v := .tuple #[.agg (markC a), .int .i64 0]) ?_ rfl ⟨⟨a, 0, rfl, fun _ => HEQ.out⟩, hW6⟩
      exact results_cell_tmp (p := 6) (q := 7) rfl _ _ w.heap.size _ _ rfl rfl (load_mark_cell _ _ _ _ _ HC6.out)
set_option maxRecDepth 10000 in
set_option maxHeartbeats 1000000 in
theorem dMark_any (B : List Int) (ao : Option Addr) (cap : Nat) (w : World) (hR : Rowed w ao B cap) (hy : ∀ x ∈ B, 0 ≤ x ∧ x < 256) (hl : B.length < 1073741824) :
    Calls Try.prog 23 #[.slice ao B.length cap] w fun e w' => (∃ (a : Nat → Int) (f : Int), e = .returned (.tuple #[.agg (markC a), .int .i64 f]) ∧ (f = 0 → encMark (a 0) (a 1) (a 2) (a 3) = B)) ∧ Below w.heap.size w w' := by
  have HB0 : Hid (Below w.heap.size w (w.alloc (.cells (markC (fun _ => 0)) 44))) := below_alloc _ _
  have H0 : Hid ((w.alloc (.cells (markC (fun _ => 0)) 44)).heap[w.heap.size]? = some (.cells (markC (fun _ => 0)) 44)) := alloc_blk _ _
  have hD := decodeMark_any B ao cap (w.alloc (.cells (markC (fun _ => 0)) 44)) (hR.below HB0.out (Nat.le_refl _)) hy hl
  obtain ⟨n, HN⟩ : ∃ n, Hid (B.length = n) := ⟨_, rfl⟩
  rw [HN.out] at hD ⊢
  have HD : Hid (Calls Try.prog 59 #[.slice ao n cap, .func (.func 60) #[] #[], .func (.func 21) #[] #[]] (w.alloc (.cells (markC (fun _ => 0)) 44)) fun e w' => (∃ (a : Nat → Int) (f : Int), e = .returned (.tuple #[.agg (markC a), .int .i64 f]) ∧ (f = 0 → encMark (a 0) (a 1) (a 2) (a 3) = B)) ∧ Below (w.alloc (.cells (markC (fun _ => 0)) 44)).heap.size (w.alloc (.cells (markC (fun _ => 0)) 44)) w') := hD
  have hs0 : (w.alloc (.cells (markC (fun _ => 0)) 44)).heap.size = w.heap.size + 1 := by simp
  clear hD hR hy hl
  go_enter Try.func23, Try.ntmps23
  go_upto_region 1 with fail
  change Code.wp _ _ _ _ (w.alloc (.cells (markC (fun _ => 0)) 44))
  generalize w.alloc (.cells (markC (fun _ => 0)) 44) = w0 at *
  go_wp2_with fail
  refine HD.out.mono ?_
  rintro e w1 ⟨⟨a, f, rfl, hf⟩, hB1⟩
  rw [hs0] at hB1
  have HF : Hid (f = 0 → encMark (a 0) (a 1) (a 2) (a 3) = B) := hf
  have H01 : Hid (w1.heap[w.heap.size]? = some (.cells (markC (fun _ => 0)) 44 (0, 0))) := (hB1.block _ (Nat.lt_succ_self _)).trans H0.out
  have hW1 : Below w.heap.size w w1 := HB0.out.trans (hB1.mono (Nat.le_succ _))
  have hz1 : w.heap.size < w1.heap.size := lt_blk H01.out
  clear hf hB1 HD
  go_wp2_with (refine wpList_store_mark rfl _ _ rfl w.heap.size a (fun _ => 0) ?_ ?_ H01.out ?_; rfl; rfl)
  have HC2 : Hid ((w1.setRow w.heap.size (markC a)).heap[w.heap.size]? = some (.cells (markC a) 44 (0, 0))) := setRow_blk H01.out _
  have hW2 : Below w.heap.size w (w1.setRow w.heap.size (markC a)) := hW1.trans ((keeps_setRow w1 _ _).below (Nat.le_refl _) (by omega))
  refine bodyPost_ret (v := .tuple #[.agg (markC a), .int .i64 f]) ?_ rfl ⟨⟨a, f, rfl, HF.out⟩, hW2⟩
  exact results_cell_tmp (p := 2) (q := 3) rfl _ _ w.heap.size _ _ rfl rfl (load_mark_cell _ _ _ _ _ HC2.out)
end Go.Proofs.Ytkjocpadmlobgaa
