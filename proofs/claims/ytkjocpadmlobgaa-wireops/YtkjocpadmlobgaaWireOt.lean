/- An operation out of bytes: takeOp. For rows of up to 2^38 bytes. -/
import Derived.Test.YtkjocpadmlobgaaWireNw
import Derived.Test.YtkjocpadmlobgaaWireI
import Derived.Test.YtkjocpadmlobgaaWireDk
namespace Go.Proofs.Ytkjocpadmlobgaa
open Go.RowKit Go.Dig Go.Inv Go.Oct
set_option linter.unusedVariables false

theorem strOf_size (L : List Int) : (strOf L).size = L.length := by
  rw [strOf_data]
  simp [ByteArray.size]
set_option maxRecDepth 10000 in
set_option maxHeartbeats 2000000 in
theorem takeOp_str (r : Nat) (L : List Int) (w : World) (h : RdL w r L) : Calls Try.prog 57 #[.pointer (some ⟨r, 0, none⟩)] w fun e w' => (∃ (k c s : Int) (n : ByteArray) (p e' t q : Int) (b : Bool), e = .returned (.agg (opC k c s n p e' t q b)) ∧ inI k ∧ inI c ∧ inI s ∧ inI p ∧ inI e' ∧ inI t ∧ inI q ∧ n.size ≤ L.length ∧
      ∀ k1 c1 s1 D p1 e1 t1 q1 b1 R, NumOk k1 → NumOk c1 → NumOk s1 → NumOk (D.length : Int) → NumOk p1 → NumOk e1 → NumOk t1 → NumOk q1 → L = nums [k1, c1, s1] ++ (num (D.length : Int) ++ (D ++ (nums [p1, e1, t1, q1, if b1 = true then 1 else 0] ++ R))) → opC k c s n p e' t q b = opC k1 c1 s1 (strOf D) p1 e1 t1 q1 b1) ∧ Below r w w' := by
  have hrw := h.lt
  have HLL : Hid (L.length < 274877906944) := h.len
  have hs1 : (w.alloc (.cells (opC 0 0 0 eN 0 0 0 0 false) 42)).heap.size = w.heap.size + 1 := by simp
  have hs2 : ((w.alloc (.cells (opC 0 0 0 eN 0 0 0 0 false) 42)).alloc (.cells (opC 0 0 0 eN 0 0 0 0 false) 42)).heap.size = w.heap.size + 2 := by simp
  have HS3 : Hid ((((w.alloc (.cells (opC 0 0 0 eN 0 0 0 0 false) 42)).alloc (.cells (opC 0 0 0 eN 0 0 0 0 false) 42)).alloc (.cells #[.pointer (some ⟨w.heap.size + 1, 0, none⟩), .pointer (some ⟨w.heap.size + 1, 1, none⟩), .pointer (some ⟨w.heap.size + 1, 2, none⟩)] 107)).heap.size = w.heap.size + 3) := by show _ = _; simp
  have HB3 : Hid (Below w.heap.size w (((w.alloc (.cells (opC 0 0 0 eN 0 0 0 0 false) 42)).alloc (.cells (opC 0 0 0 eN 0 0 0 0 false) 42)).alloc (.cells #[.pointer (some ⟨w.heap.size + 1, 0, none⟩), .pointer (some ⟨w.heap.size + 1, 1, none⟩), .pointer (some ⟨w.heap.size + 1, 2, none⟩)] 107))) := (((Below.refl _ _).alloc (Nat.le_refl _) _).alloc (by simp) _).alloc (by simp; omega) _
  have HR : Hid (RdL (((w.alloc (.cells (opC 0 0 0 eN 0 0 0 0 false) 42)).alloc (.cells (opC 0 0 0 eN 0 0 0 0 false) 42)).alloc (.cells #[.pointer (some ⟨w.heap.size + 1, 0, none⟩), .pointer (some ⟨w.heap.size + 1, 1, none⟩), .pointer (some ⟨w.heap.size + 1, 2, none⟩)] 107)) r L) := h.same (fun k hk => HB3.out.block k (by omega))
  have HG : Hid ((((w.alloc (.cells (opC 0 0 0 eN 0 0 0 0 false) 42)).alloc (.cells (opC 0 0 0 eN 0 0 0 0 false) 42)).alloc (.cells #[.pointer (some ⟨w.heap.size + 1, 0, none⟩), .pointer (some ⟨w.heap.size + 1, 1, none⟩), .pointer (some ⟨w.heap.size + 1, 2, none⟩)] 107)).heap[w.heap.size + 1]? = some (.cells (opC 0 0 0 eN 0 0 0 0 false) 42 (0, 0))) := by
    have := alloc_blk_old (alloc_blk (w.alloc (.cells (opC 0 0 0 eN 0 0 0 0 false) 42)) (.cells (opC 0 0 0 eN 0 0 0 0 false) 42)) (.cells #[.pointer (some ⟨w.heap.size + 1, 0, none⟩), .pointer (some ⟨w.heap.size + 1, 1, none⟩), .pointer (some ⟨w.heap.size + 1, 2, none⟩)] 107)
    rw [hs1] at this
    exact this
  have H0 : Hid ((((w.alloc (.cells (opC 0 0 0 eN 0 0 0 0 false) 42)).alloc (.cells (opC 0 0 0 eN 0 0 0 0 false) 42)).alloc (.cells #[.pointer (some ⟨w.heap.size + 1, 0, none⟩), .pointer (some ⟨w.heap.size + 1, 1, none⟩), .pointer (some ⟨w.heap.size + 1, 2, none⟩)] 107)).heap[w.heap.size]? = some (.cells (opC 0 0 0 eN 0 0 0 0 false) 42 (0, 0))) := alloc_blk_old (alloc_blk_old (alloc_blk _ _) _) _
  have HPB : Hid ((((w.alloc (.cells (opC 0 0 0 eN 0 0 0 0 false) 42)).alloc (.cells (opC 0 0 0 eN 0 0 0 0 false) 42)).alloc (.cells #[.pointer (some ⟨w.heap.size + 1, 0, none⟩), .pointer (some ⟨w.heap.size + 1, 1, none⟩), .pointer (some ⟨w.heap.size + 1, 2, none⟩)] 107)).heap[w.heap.size + 2]? = some (.cells #[.pointer (some ⟨w.heap.size + 1, 0, none⟩), .pointer (some ⟨w.heap.size + 1, 1, none⟩), .pointer (some ⟨w.heap.size + 1, 2, none⟩)] 107 (0, 0))) := by
    have := alloc_blk ((w.alloc (.cells (opC 0 0 0 eN 0 0 0 0 false) 42)).alloc (.cells (opC 0 0 0 eN 0 0 0 0 false) 42)) (.cells #[.pointer (some ⟨w.heap.size + 1, 0, none⟩), .pointer (some ⟨w.heap.size + 1, 1, none⟩), .pointer (some ⟨w.heap.size + 1, 2, none⟩)] 107)
    rw [hs2] at this
    exact this
  clear h hs1 hs2
  go_enter Try.func57, Try.ntmps57
  go_wp2_with fail
  change Calls _ _ _ (((w.alloc (.cells (opC 0 0 0 eN 0 0 0 0 false) 42)).alloc (.cells (opC 0 0 0 eN 0 0 0 0 false) 42)).alloc (.cells #[.pointer (some ⟨w.heap.size + 1, 0, none⟩), .pointer (some ⟨w.heap.size + 1, 1, none⟩), .pointer (some ⟨w.heap.size + 1, 2, none⟩)] 107)) _
  generalize (((w.alloc (.cells (opC 0 0 0 eN 0 0 0 0 false) 42)).alloc (.cells (opC 0 0 0 eN 0 0 0 0 false) 42)).alloc (.cells #[.pointer (some ⟨w.heap.size + 1, 0, none⟩), .pointer (some ⟨w.heap.size + 1, 1, none⟩), .pointer (some ⟨w.heap.size + 1, 2, none⟩)] 107)) = w3 at *
  refine (rdNums_str r (w.heap.size + 2) [(w.heap.size + 1, 0), (w.heap.size + 1, 1), (w.heap.size + 1, 2)] L w3 HR.out (fun j p hp => ?_) (fun p hp => ?_) (by omega) (by show 3 < 1000; decide)).mono ?_
  · rw [cell_blk HPB.out]
    match j, hp with
    | 0, hp => cases hp; rfl
    | 1, hp => cases hp; rfl
    | 2, hp => cases hp; rfl
    | j + 3, hp => cases hp
  · simp only [List.mem_cons, List.not_mem_nil, or_false] at hp
    rcases hp with rfl | rfl | rfl <;> exact ⟨⟨_, _, _, HG.out, rfl⟩, by simp; omega, by simp⟩
  rintro e w4 ⟨rfl, zs, L4, hzl, hzi, hr4, ht4, hl4, hk4, hs4⟩
  obtain ⟨k, c, s, rfl⟩ : ∃ k c s, zs = [k, c, s] := by
    match zs, hzl with
    | [k, c, s], _ => exact ⟨k, c, s, rfl⟩
  have hg4 := ((set_blk ((set_blk ((set_blk HG.out 0 (.int .i64 k)).trans rfl) 1 (.int .i64 c)).trans rfl) 2 (.int .i64 s)).trans rfl : ((((w3.setCell ⟨w.heap.size + 1, 0, none⟩ (.int .i64 k)).setCell ⟨w.heap.size + 1, 1, none⟩ (.int .i64 c)).setCell ⟨w.heap.size + 1, 2, none⟩ (.int .i64 s)).heap[w.heap.size + 1]? = some (.cells (opC k c s eN 0 0 0 0 false) 42 (0, 0))))
  have hn4 : ∀ q, q ≠ w.heap.size + 1 → (setN w3 [(w.heap.size + 1, 0), (w.heap.size + 1, 1), (w.heap.size + 1, 2)] [k, c, s]).heap[q]? = w3.heap[q]? := fun q hq => by
    show (((w3.setCell _ _).setCell _ _).setCell _ _).heap[q]? = _
    rw [Below.heap_setCell _ _ _ _ hq, Below.heap_setCell _ _ _ _ hq, Below.heap_setCell _ _ _ _ hq]
  have hz4 : (setN w3 [(w.heap.size + 1, 0), (w.heap.size + 1, 1), (w.heap.size + 1, 2)] [k, c, s]).heap.size = w3.heap.size := by simp [setN, World.setCell]
  have HG4 : Hid (w4.heap[w.heap.size + 1]? = some (.cells (opC k c s eN 0 0 0 0 false) 42 (0, 0))) := (hk4.block _ (by rw [hz4, HS3.out]; omega) (by omega)).trans hg4
  have H04 : Hid (w4.heap[w.heap.size]? = some (.cells (opC 0 0 0 eN 0 0 0 0 false) 42 (0, 0))) := ((hk4.block _ (by rw [hz4, HS3.out]; omega) (by omega)).trans (hn4 _ (by omega))).trans H0.out
  have HW4 : Hid (Below r w w4) := (HB3.out.mono (by omega)).trans ⟨hk4.os, hk4.tape, hk4.output, by rw [hs4]; exact Nat.le_refl _, fun q hq => (hk4.block q (by rw [hz4, HS3.out]; omega) (by omega)).trans (hn4 q (by omega))⟩
  have HX4 : Hid (RdL w4 r L4 ∧ Took L L4 [k, c, s] ∧ L4.length ≤ L.length ∧ inI k ∧ inI c ∧ inI s ∧ w4.heap.size = w.heap.size + 3) := ⟨hr4, ht4, hl4, hzi k (by simp), hzi c (by simp), hzi s (by simp), by rw [hs4, HS3.out]⟩
  clear hzl hzi hr4 ht4 hl4 hk4 hs4 hg4 hn4 hz4 HG H0 HR HB3 HS3 HPB
  go_wp2_with fail
  refine (rdBytes_str r L4 w4 HX4.out.1).mono ?_
  rintro e w5 ⟨v5, rfl, D, hO, hDl, hDb, hk5, L5, hr5, ht5, hl5⟩
  have hz4 := HX4.out.2.2.2.2.2.2
  have HG5 : Hid (w5.heap[w.heap.size + 1]? = some (.cells (opC k c s eN 0 0 0 0 false) 42 (0, 0))) := (hk5.block _ (by omega) (by omega)).trans HG4.out
  have H05 : Hid (w5.heap[w.heap.size]? = some (.cells (opC 0 0 0 eN 0 0 0 0 false) 42 (0, 0))) := (hk5.block _ (by omega) (by omega)).trans H04.out
  have HW5 : Hid (Below r w w5) := HW4.out.trans (hk5.below (Nat.le_refl _) (by omega))
  obtain ⟨ao, n5, c5, rfl, HF⟩ := hO.form
  have hc5 := conv_str (w := w5) HF.out.2.2 HF.out.1
  have hs5 : w.heap.size + 3 ≤ w5.heap.size := by have := hk5.size; omega
  have HX5 : Hid (RdL w5 r L5 ∧ (∀ D' R, NumOk (D'.length : Int) → L4 = num (D'.length : Int) ++ (D' ++ R) → D = D' ∧ L5 = R) ∧ D.length ≤ L.length) := ⟨hr5, ht5, by have := HX4.out.2.2.1; omega⟩
  obtain ⟨nm, HNM⟩ : ∃ nm, Hid (strOf D = nm) := ⟨_, rfl⟩
  rw [HNM.out] at hc5
  have cg : w5.cell? ⟨w.heap.size + 1, 3, none⟩ = some (.string eN) := (cell_blk HG5.out _).trans rfl
  have fg : w5.frozen? ⟨w.heap.size + 1, 3, none⟩ = false := frozen_blk HG5.out _
  clear hO hDl hDb hk5 hr5 ht5 hl5 HG4 H04 HW4 HF
  have hs6 : (w5.setCell ⟨w.heap.size + 1, 3, none⟩ (.string nm)).heap.size = w5.heap.size := by simp [World.setCell]
  have hs7 : ((w5.setCell ⟨w.heap.size + 1, 3, none⟩ (.string nm)).alloc (.cells #[.int .i64 0] 3)).heap.size = w5.heap.size + 1 := by rw [← hs6]; simp
  have HS8 : Hid ((((w5.setCell ⟨w.heap.size + 1, 3, none⟩ (.string nm)).alloc (.cells #[.int .i64 0] 3)).alloc (.cells #[.pointer (some ⟨w.heap.size + 1, 4, none⟩), .pointer (some ⟨w.heap.size + 1, 5, none⟩), .pointer (some ⟨w.heap.size + 1, 6, none⟩), .pointer (some ⟨w.heap.size + 1, 7, none⟩), .pointer (some ⟨w5.heap.size, 0, none⟩)] 107)).heap.size = w5.heap.size + 2) := by show _ = _; rw [← hs6]; simp
  have HG6 : Hid ((w5.setCell ⟨w.heap.size + 1, 3, none⟩ (.string nm)).heap[w.heap.size + 1]? = some (.cells (opC k c s nm 0 0 0 0 false) 42 (0, 0))) := (set_blk HG5.out _ _).trans rfl
  have hB6 : Below w5.heap.size (w5.setCell ⟨w.heap.size + 1, 3, none⟩ (.string nm)) (((w5.setCell ⟨w.heap.size + 1, 3, none⟩ (.string nm)).alloc (.cells #[.int .i64 0] 3)).alloc (.cells #[.pointer (some ⟨w.heap.size + 1, 4, none⟩), .pointer (some ⟨w.heap.size + 1, 5, none⟩), .pointer (some ⟨w.heap.size + 1, 6, none⟩), .pointer (some ⟨w.heap.size + 1, 7, none⟩), .pointer (some ⟨w5.heap.size, 0, none⟩)] 107)) := by
    have h0 : Below (w5.setCell ⟨w.heap.size + 1, 3, none⟩ (.string nm)).heap.size (w5.setCell ⟨w.heap.size + 1, 3, none⟩ (.string nm)) (((w5.setCell ⟨w.heap.size + 1, 3, none⟩ (.string nm)).alloc (.cells #[.int .i64 0] 3)).alloc (.cells #[.pointer (some ⟨w.heap.size + 1, 4, none⟩), .pointer (some ⟨w.heap.size + 1, 5, none⟩), .pointer (some ⟨w.heap.size + 1, 6, none⟩), .pointer (some ⟨w.heap.size + 1, 7, none⟩), .pointer (some ⟨w5.heap.size, 0, none⟩)] 107)) := ((Below.refl _ _).alloc (Nat.le_refl _) _).alloc (by simp) _
    rwa [hs6] at h0
  have hN6 : ∀ q, q ≠ w.heap.size + 1 → q < w5.heap.size → (((w5.setCell ⟨w.heap.size + 1, 3, none⟩ (.string nm)).alloc (.cells #[.int .i64 0] 3)).alloc (.cells #[.pointer (some ⟨w.heap.size + 1, 4, none⟩), .pointer (some ⟨w.heap.size + 1, 5, none⟩), .pointer (some ⟨w.heap.size + 1, 6, none⟩), .pointer (some ⟨w.heap.size + 1, 7, none⟩), .pointer (some ⟨w5.heap.size, 0, none⟩)] 107)).heap[q]? = w5.heap[q]? := fun q hq hl => (hB6.block q hl).trans (Below.heap_setCell _ _ _ _ hq)
  have HR8 : Hid (RdL (((w5.setCell ⟨w.heap.size + 1, 3, none⟩ (.string nm)).alloc (.cells #[.int .i64 0] 3)).alloc (.cells #[.pointer (some ⟨w.heap.size + 1, 4, none⟩), .pointer (some ⟨w.heap.size + 1, 5, none⟩), .pointer (some ⟨w.heap.size + 1, 6, none⟩), .pointer (some ⟨w.heap.size + 1, 7, none⟩), .pointer (some ⟨w5.heap.size, 0, none⟩)] 107)) r L5) := HX5.out.1.same (fun q hq => hN6 q (by omega) (by omega))
  have HG8 : Hid ((((w5.setCell ⟨w.heap.size + 1, 3, none⟩ (.string nm)).alloc (.cells #[.int .i64 0] 3)).alloc (.cells #[.pointer (some ⟨w.heap.size + 1, 4, none⟩), .pointer (some ⟨w.heap.size + 1, 5, none⟩), .pointer (some ⟨w.heap.size + 1, 6, none⟩), .pointer (some ⟨w.heap.size + 1, 7, none⟩), .pointer (some ⟨w5.heap.size, 0, none⟩)] 107)).heap[w.heap.size + 1]? = some (.cells (opC k c s nm 0 0 0 0 false) 42 (0, 0))) := (hB6.block _ (by omega)).trans HG6.out
  have H08 : Hid ((((w5.setCell ⟨w.heap.size + 1, 3, none⟩ (.string nm)).alloc (.cells #[.int .i64 0] 3)).alloc (.cells #[.pointer (some ⟨w.heap.size + 1, 4, none⟩), .pointer (some ⟨w.heap.size + 1, 5, none⟩), .pointer (some ⟨w.heap.size + 1, 6, none⟩), .pointer (some ⟨w.heap.size + 1, 7, none⟩), .pointer (some ⟨w5.heap.size, 0, none⟩)] 107)).heap[w.heap.size]? = some (.cells (opC 0 0 0 eN 0 0 0 0 false) 42 (0, 0))) := (hN6 _ (by omega) (by omega)).trans H05.out
  have HC8 : Hid ((((w5.setCell ⟨w.heap.size + 1, 3, none⟩ (.string nm)).alloc (.cells #[.int .i64 0] 3)).alloc (.cells #[.pointer (some ⟨w.heap.size + 1, 4, none⟩), .pointer (some ⟨w.heap.size + 1, 5, none⟩), .pointer (some ⟨w.heap.size + 1, 6, none⟩), .pointer (some ⟨w.heap.size + 1, 7, none⟩), .pointer (some ⟨w5.heap.size, 0, none⟩)] 107)).heap[w5.heap.size]? = some (.cells #[.int .i64 0] 3 (0, 0))) := by
    have := alloc_blk_old (alloc_blk (w5.setCell ⟨w.heap.size + 1, 3, none⟩ (.string nm)) (.cells #[.int .i64 0] 3)) (.cells #[.pointer (some ⟨w.heap.size + 1, 4, none⟩), .pointer (some ⟨w.heap.size + 1, 5, none⟩), .pointer (some ⟨w.heap.size + 1, 6, none⟩), .pointer (some ⟨w.heap.size + 1, 7, none⟩), .pointer (some ⟨w5.heap.size, 0, none⟩)] 107)
    rw [hs6] at this
    exact this
  have HPB : Hid ((((w5.setCell ⟨w.heap.size + 1, 3, none⟩ (.string nm)).alloc (.cells #[.int .i64 0] 3)).alloc (.cells #[.pointer (some ⟨w.heap.size + 1, 4, none⟩), .pointer (some ⟨w.heap.size + 1, 5, none⟩), .pointer (some ⟨w.heap.size + 1, 6, none⟩), .pointer (some ⟨w.heap.size + 1, 7, none⟩), .pointer (some ⟨w5.heap.size, 0, none⟩)] 107)).heap[w5.heap.size + 1]? = some (.cells #[.pointer (some ⟨w.heap.size + 1, 4, none⟩), .pointer (some ⟨w.heap.size + 1, 5, none⟩), .pointer (some ⟨w.heap.size + 1, 6, none⟩), .pointer (some ⟨w.heap.size + 1, 7, none⟩), .pointer (some ⟨w5.heap.size, 0, none⟩)] 107 (0, 0))) := by
    have := alloc_blk ((w5.setCell ⟨w.heap.size + 1, 3, none⟩ (.string nm)).alloc (.cells #[.int .i64 0] 3)) (.cells #[.pointer (some ⟨w.heap.size + 1, 4, none⟩), .pointer (some ⟨w.heap.size + 1, 5, none⟩), .pointer (some ⟨w.heap.size + 1, 6, none⟩), .pointer (some ⟨w.heap.size + 1, 7, none⟩), .pointer (some ⟨w5.heap.size, 0, none⟩)] 107)
    rw [hs7] at this
    exact this
  have HW8 : Hid (Below r w (((w5.setCell ⟨w.heap.size + 1, 3, none⟩ (.string nm)).alloc (.cells #[.int .i64 0] 3)).alloc (.cells #[.pointer (some ⟨w.heap.size + 1, 4, none⟩), .pointer (some ⟨w.heap.size + 1, 5, none⟩), .pointer (some ⟨w.heap.size + 1, 6, none⟩), .pointer (some ⟨w.heap.size + 1, 7, none⟩), .pointer (some ⟨w5.heap.size, 0, none⟩)] 107))) := ⟨HW5.out.os, HW5.out.tape, HW5.out.output, by rw [HS8.out]; have := HW5.out.size; omega, fun q hq => (hN6 q (by omega) (by have := HW5.out.size; omega)).trans (HW5.out.block q hq)⟩
  have HNS : Hid (nm.size ≤ L.length) := by
    show _ ≤ _
    rw [← HNM.out, strOf_size]
    exact HX5.out.2.2
  clear hs6 hs7 hB6 hN6 HG6 HG5 H05 HW5
  go_wp2_with fail
  change Calls _ _ _ (((w5.setCell ⟨w.heap.size + 1, 3, none⟩ (.string nm)).alloc (.cells #[.int .i64 0] 3)).alloc (.cells #[.pointer (some ⟨w.heap.size + 1, 4, none⟩), .pointer (some ⟨w.heap.size + 1, 5, none⟩), .pointer (some ⟨w.heap.size + 1, 6, none⟩), .pointer (some ⟨w.heap.size + 1, 7, none⟩), .pointer (some ⟨w5.heap.size, 0, none⟩)] 107)) _
  generalize (((w5.setCell ⟨w.heap.size + 1, 3, none⟩ (.string nm)).alloc (.cells #[.int .i64 0] 3)).alloc (.cells #[.pointer (some ⟨w.heap.size + 1, 4, none⟩), .pointer (some ⟨w.heap.size + 1, 5, none⟩), .pointer (some ⟨w.heap.size + 1, 6, none⟩), .pointer (some ⟨w.heap.size + 1, 7, none⟩), .pointer (some ⟨w5.heap.size, 0, none⟩)] 107)) = w8 at *
  obtain ⟨cb, hcb⟩ : ∃ cb, w5.heap.size = cb := ⟨_, rfl⟩
  rw [hcb] at hs5 HS8 HC8 HPB
  simp only [hcb]
  refine (rdNums_str r (cb + 1) [(w.heap.size + 1, 4), (w.heap.size + 1, 5), (w.heap.size + 1, 6), (w.heap.size + 1, 7), (cb, 0)] L5 w8 HR8.out (fun j p hp => ?_) (fun p hp => ?_) (by omega) (by show 5 < 1000; decide)).mono ?_
  · rw [cell_blk HPB.out]
    match j, hp with
    | 0, hp => cases hp; rfl
    | 1, hp => cases hp; rfl
    | 2, hp => cases hp; rfl
    | 3, hp => cases hp; rfl
    | 4, hp => cases hp; rfl
    | j + 5, hp => cases hp
  · simp only [List.mem_cons, List.not_mem_nil, or_false] at hp
    rcases hp with rfl | rfl | rfl | rfl | rfl
    · exact ⟨⟨_, _, _, HG8.out, rfl⟩, by simp; omega, by simp; omega⟩
    · exact ⟨⟨_, _, _, HG8.out, rfl⟩, by simp; omega, by simp; omega⟩
    · exact ⟨⟨_, _, _, HG8.out, rfl⟩, by simp; omega, by simp; omega⟩
    · exact ⟨⟨_, _, _, HG8.out, rfl⟩, by simp; omega, by simp; omega⟩
    · exact ⟨⟨_, _, _, HC8.out, rfl⟩, by simp; omega, by simp⟩
  rintro e w9 ⟨rfl, zs, L9, hzl, hzi, hr9, ht9, hl9, hk9, hs9⟩
  obtain ⟨p, e', t, q, y, rfl⟩ : ∃ p e' t q y, zs = [p, e', t, q, y] := by
    match zs, hzl with
    | [p, e', t, q, y], _ => exact ⟨p, e', t, q, y, rfl⟩
  have hgc : w.heap.size + 1 ≠ cb := by omega
  have hg9 := ((Below.heap_setCell _ ⟨cb, 0, none⟩ (.int .i64 y) _ hgc).trans (((set_blk ((set_blk ((set_blk ((set_blk HG8.out 4 (.int .i64 p)).trans rfl) 5 (.int .i64 e')).trans rfl) 6 (.int .i64 t)).trans rfl) 7 (.int .i64 q)).trans rfl : (((((w8.setCell ⟨w.heap.size + 1, 4, none⟩ (.int .i64 p)).setCell ⟨w.heap.size + 1, 5, none⟩ (.int .i64 e')).setCell ⟨w.heap.size + 1, 6, none⟩ (.int .i64 t)).setCell ⟨w.heap.size + 1, 7, none⟩ (.int .i64 q)).heap[w.heap.size + 1]? = some (.cells (opC k c s nm p e' t q false) 42 (0, 0))))))
  have hn9 : ∀ j, j ≠ w.heap.size + 1 → j ≠ cb → (setN w8 [(w.heap.size + 1, 4), (w.heap.size + 1, 5), (w.heap.size + 1, 6), (w.heap.size + 1, 7), (cb, 0)] [p, e', t, q, y]).heap[j]? = w8.heap[j]? := fun j hj hj2 => by
    show (((((w8.setCell _ _).setCell _ _).setCell _ _).setCell _ _).setCell _ _).heap[j]? = _
    rw [Below.heap_setCell _ _ _ _ hj2, Below.heap_setCell _ _ _ _ hj, Below.heap_setCell _ _ _ _ hj, Below.heap_setCell _ _ _ _ hj, Below.heap_setCell _ _ _ _ hj]
  have hc9' : (setN w8 [(w.heap.size + 1, 4), (w.heap.size + 1, 5), (w.heap.size + 1, 6), (w.heap.size + 1, 7), (cb, 0)] [p, e', t, q, y]).heap[cb]? = some (.cells #[.int .i64 y] 3 (0, 0)) := by
    refine (set_blk (g := cb) (cs := #[.int .i64 0]) (t := 3) (fr := (0, 0)) ?_ 0 (.int .i64 y)).trans rfl
    rw [Below.heap_setCell _ _ _ _ hgc.symm, Below.heap_setCell _ _ _ _ hgc.symm, Below.heap_setCell _ _ _ _ hgc.symm, Below.heap_setCell _ _ _ _ hgc.symm]
    exact HC8.out
  have hz9 : (setN w8 [(w.heap.size + 1, 4), (w.heap.size + 1, 5), (w.heap.size + 1, 6), (w.heap.size + 1, 7), (cb, 0)] [p, e', t, q, y]).heap.size = w8.heap.size := by simp [setN, World.setCell]
  have HG9 : Hid (w9.heap[w.heap.size + 1]? = some (.cells (opC k c s nm p e' t q false) 42 (0, 0))) := (hk9.block _ (by rw [hz9, HS8.out]; omega) (by omega)).trans hg9
  have H09 : Hid (w9.heap[w.heap.size]? = some (.cells (opC 0 0 0 eN 0 0 0 0 false) 42 (0, 0))) := ((hk9.block _ (by rw [hz9, HS8.out]; omega) (by omega)).trans (hn9 _ (by omega) (by omega))).trans H08.out
  have HC9 : Hid (w9.heap[cb]? = some (.cells #[.int .i64 y] 3 (0, 0))) := (hk9.block _ (by rw [hz9, HS8.out]; omega) (by omega)).trans hc9'
  have HW9 : Hid (Below r w w9) := HW8.out.trans ⟨hk9.os, hk9.tape, hk9.output, by rw [hs9]; exact Nat.le_refl _, fun j hj => (hk9.block j (by rw [hz9, HS8.out]; omega) (by omega)).trans (hn9 j (by omega) (by omega))⟩
  have HX9 : Hid (Took L5 L9 [p, e', t, q, y] ∧ inI p ∧ inI e' ∧ inI t ∧ inI q) := ⟨ht9, hzi p (by simp), hzi e' (by simp), hzi t (by simp), hzi q (by simp)⟩
  have hcc : w9.cell? ⟨cb, 0, none⟩ = some (.int .i64 y) := (cell_blk HC9.out _).trans rfl
  have hc8 : w9.cell? ⟨w.heap.size + 1, 8, none⟩ = some (.bool false) := (cell_blk HG9.out _).trans rfl
  have hf8 : w9.frozen? ⟨w.heap.size + 1, 8, none⟩ = false := frozen_blk HG9.out _
  clear hzl hzi hr9 ht9 hl9 hk9 hs9 hg9 hn9 hc9' hz9 HG8 H08 HC8 HPB HR8 HW8 HS8
  obtain ⟨b, hb⟩ : ∃ b, (y != 0) = b := ⟨_, rfl⟩
  have HBY : Hid ((y != 0) = b) := hb
  have HG10 : Hid ((w9.setCell ⟨w.heap.size + 1, 8, none⟩ (.bool b)).heap[w.heap.size + 1]? = some (.cells (opC k c s nm p e' t q b) 42 (0, 0))) := (set_blk HG9.out _ _).trans rfl
  have H10 : Hid ((w9.setCell ⟨w.heap.size + 1, 8, none⟩ (.bool b)).heap[w.heap.size]? = some (.cells (opC 0 0 0 eN 0 0 0 0 false) 42 (0, 0))) := (Below.heap_setCell _ _ _ _ (by simp)).trans H09.out
  have HW10 : Hid (Below r w (w9.setCell ⟨w.heap.size + 1, 8, none⟩ (.bool b))) := HW9.out.setCell (p := ⟨w.heap.size + 1, 8, none⟩) (by simp; omega) _
  have HFIN : Hid (inI k ∧ inI c ∧ inI s ∧ inI p ∧ inI e' ∧ inI t ∧ inI q ∧ nm.size ≤ L.length ∧
      ∀ k1 c1 s1 D p1 e1 t1 q1 b1 R, NumOk k1 → NumOk c1 → NumOk s1 → NumOk (D.length : Int) → NumOk p1 → NumOk e1 → NumOk t1 → NumOk q1 → L = nums [k1, c1, s1] ++ (num (D.length : Int) ++ (D ++ (nums [p1, e1, t1, q1, if b1 = true then 1 else 0] ++ R))) → opC k c s nm p e' t q b = opC k1 c1 s1 (strOf D) p1 e1 t1 q1 b1) := by
    obtain ⟨-, hT4, -, hik, hic, his, -⟩ := HX4.out
    obtain ⟨-, hT5, -⟩ := HX5.out
    obtain ⟨hT9, hip, hie, hit, hiq⟩ := HX9.out
    refine ⟨hik, hic, his, hip, hie, hit, hiq, HNS.out, fun k1 c1 s1 D1 p1 e1 t1 q1 b1 R n1 n2 n3 n4 n5 n6 n7 n8 e => ?_⟩
    obtain ⟨a1, a2⟩ := hT4 [k1, c1, s1] _ (fun v hv => by simp at hv; rcases hv with rfl | rfl | rfl <;> assumption) rfl e
    obtain ⟨a3, a4⟩ := hT5 D1 _ n4 a2
    obtain ⟨a5, a6⟩ := hT9 [p1, e1, t1, q1, if b1 = true then 1 else 0] R (fun v hv => by
      simp only [List.mem_cons, List.not_mem_nil, or_false] at hv
      rcases hv with rfl | rfl | rfl | rfl | rfl <;> first | assumption | (unfold NumOk; cases b1 <;> simp)) rfl a4
    injection a1 with x1 y1; injection y1 with x2 y2; injection y2 with x3 y3
    injection a5 with x4 y4; injection y4 with x5 y5; injection y5 with x6 y6; injection y6 with x7 y7; injection y7 with x8 y8
    rw [x1, x2, x3, x4, x5, x6, x7, ← HNM.out, a3, ← HBY.out, x8]
    cases b1 <;> rfl
  clear HX4 HX5 HX9 HNS HBY HW9 H09 HC9 hc5 cg fg HNM
  go_wp2_with (first | (refine wpList_load_op rfl _ rfl (w.heap.size + 1) k c s nm p e' t q b 42 (0, 0) ?_ ?_ ?_; rfl; exact HG10.out) | (refine wpList_store_op rfl _ _ rfl w.heap.size k c s nm p e' t q b (opC 0 0 0 eN 0 0 0 0 false) ?_ ?_ ?_ ?_ ?_; rfl; rfl; exact H10.out; rfl))
  generalize w9.setCell ⟨w.heap.size + 1, 8, none⟩ (.bool b) = w10 at *
  have HE : Hid ((w10.setRow w.heap.size (opC k c s nm p e' t q b)).heap[w.heap.size]? = some (.cells (opC k c s nm p e' t q b) 42 (0, 0))) := setRow_blk H10.out _
  have hWE : Below r w (w10.setRow w.heap.size (opC k c s nm p e' t q b)) := HW10.out.trans ((keeps_setRow w10 _ _).below (by omega) (by have := lt_blk H10.out; omega))
  obtain ⟨d, hd1, hd2⟩ := op_row
  refine bodyPost_ret (v := .agg (opC k c s nm p e' t q b)) ?_ rfl ⟨⟨k, c, s, nm, p, e', t, q, b, rfl, HFIN.out⟩, hWE⟩
  exact results_cell_row rfl _ _ w.heap.size _ _ _ d rfl HE.out hd1 (by cases d <;> simp_all [TypeDesc.isRow]) (op_info k c s nm p e' t q b)
end Go.Proofs.Ytkjocpadmlobgaa
