/- octet's Reader is made; a mark is taken as it was laid. For rows of up to 2^38 bytes. -/
import Derived.Test.YtkjocpadmlobgaaWireNq
import Derived.Test.YtkjocpadmlobgaaWireTk
namespace Go.Proofs.Ytkjocpadmlobgaa
open Go.RowKit Go.Dig Go.Inv Go.Oct
set_option linter.unusedVariables false

set_option maxRecDepth 10000 in
set_option maxHeartbeats 2000000 in
theorem newReader_str (L : List Int) (ao : Option Addr) (cap : Nat) (w : World) (hR : Rowed w ao L cap) (hy : ∀ x ∈ L, 0 ≤ x ∧ x < 256) (hl : L.length < 274877906944) : Calls Try.prog 71 #[.slice ao L.length cap] w fun e w' => ∃ r, e = .returned (.pointer (some ⟨r, 0, none⟩)) ∧ RdL w' r L ∧ w.heap.size ≤ r ∧ Below w.heap.size w w' := by
  obtain ⟨n, HN⟩ : ∃ n, Hid (n = L.length) := ⟨_, rfl⟩
  have HB0 : Hid (Below w.heap.size w (w.alloc (.cells #[.slice ao n cap] 22))) := below_alloc _ _
  have hJ := join_any w.heap.size ao n cap 1 L (w.alloc (.cells #[.slice ao n cap] 22)) ((cell_blk (alloc_blk _ _) _).trans rfl) HN.out (hR.below HB0.out (Nat.le_refl _)) (by omega)
  have HJ : Hid (Calls Try.prog 70 #[.slice (some ⟨w.heap.size, 0, none⟩) 1 1] (w.alloc (.cells #[.slice ao n cap] 22)) fun e w' => ∃ v', e = .returned v' ∧ OwnB w' (w.alloc (.cells #[.slice ao n cap] 22)).heap.size v' L ∧ Below (w.alloc (.cells #[.slice ao n cap] 22)).heap.size (w.alloc (.cells #[.slice ao n cap] 22)) w') := hJ
  rw [← HN.out]
  clear hJ hR
  go_enter Try.func71, Try.ntmps71
  go_wp2_with fail
  refine HJ.out.mono ?_
  rintro e w2 ⟨v2, rfl, hO2, hB2⟩
  obtain ⟨ao2, n2, c2, rfl, HF⟩ := hO2.form
  have hW2 : Below w.heap.size w w2 := HB0.out.trans (hB2.mono (by simp))
  have HBL : Hid (∀ ad, ao2 = some ad → ad.block < w2.heap.size ∧ ad.spot = none) := fun ad e => by
    subst e
    rcases hO2.2 with ⟨e1, _⟩ | ⟨g, cp, cur, e1, _, hgg, _⟩
    · cases e1
    · injection e1 with e1
      injection e1 with e1
      rw [e1]
      exact ⟨lt_blk hgg, rfl⟩
  have HR2 : Hid (Rowed w2 ao2 L c2 ∧ L.length ≤ c2 ∧ n2 = L.length) := ⟨HF.out.2.2, HF.out.2.1, HF.out.1⟩
  clear HF hO2 hB2 HJ HB0
  go_wp2_with fail
  go_ret
  obtain ⟨hr, hc, hn⟩ := HR2.out
  exact ⟨w2.heap.size, rfl, ⟨ao2, c2, false, by rw [← hn]; exact alloc_blk _ _, hr.below (below_alloc _ _) (Nat.le_refl _), hc, hy, hl, fun ad e => HBL.out ad e⟩, hW2.size, hW2.alloc hW2.size _⟩
set_option maxRecDepth 10000 in
set_option maxHeartbeats 2000000 in
theorem takeMark_str (r : Nat) (L : List Int) (w : World) (h : RdL w r L) : Calls Try.prog 60 #[.pointer (some ⟨r, 0, none⟩)] w fun e w' => (∃ a : Nat → Int, e = .returned (.agg (markC a)) ∧ (∀ j, inI (a j)) ∧ ∀ k p e t R, NumOk k → NumOk p → NumOk e → NumOk t → L = nums [k, p, e, t] ++ R → a 0 = k ∧ a 1 = p ∧ a 2 = e ∧ a 3 = t) ∧ Below r w w' := by
  have hrw := h.lt
  have hs2 : ((w.alloc (.cells #[.int .i64 0, .int .i64 0, .int .i64 0, .int .i64 0] 44)).alloc (.cells #[.int .i64 0, .int .i64 0, .int .i64 0, .int .i64 0] 44)).heap.size = w.heap.size + 2 := by simp
  have hB3 : Below w.heap.size w (((w.alloc (.cells #[.int .i64 0, .int .i64 0, .int .i64 0, .int .i64 0] 44)).alloc (.cells #[.int .i64 0, .int .i64 0, .int .i64 0, .int .i64 0] 44)).alloc (.cells #[.pointer (some ⟨w.heap.size + 1, 0, none⟩), .pointer (some ⟨w.heap.size + 1, 1, none⟩), .pointer (some ⟨w.heap.size + 1, 2, none⟩), .pointer (some ⟨w.heap.size + 1, 3, none⟩)] 107)) := (((Below.refl _ _).alloc (Nat.le_refl _) _).alloc (by simp) _).alloc (by simp; omega) _
  have HR : Hid (RdL (((w.alloc (.cells #[.int .i64 0, .int .i64 0, .int .i64 0, .int .i64 0] 44)).alloc (.cells #[.int .i64 0, .int .i64 0, .int .i64 0, .int .i64 0] 44)).alloc (.cells #[.pointer (some ⟨w.heap.size + 1, 0, none⟩), .pointer (some ⟨w.heap.size + 1, 1, none⟩), .pointer (some ⟨w.heap.size + 1, 2, none⟩), .pointer (some ⟨w.heap.size + 1, 3, none⟩)] 107)) r L) := h.same (fun k hk => hB3.block k (by omega))
  have HP : Hid (PtrsAt (((w.alloc (.cells #[.int .i64 0, .int .i64 0, .int .i64 0, .int .i64 0] 44)).alloc (.cells #[.int .i64 0, .int .i64 0, .int .i64 0, .int .i64 0] 44)).alloc (.cells #[.pointer (some ⟨w.heap.size + 1, 0, none⟩), .pointer (some ⟨w.heap.size + 1, 1, none⟩), .pointer (some ⟨w.heap.size + 1, 2, none⟩), .pointer (some ⟨w.heap.size + 1, 3, none⟩)] 107)) (w.heap.size + 2) (w.heap.size + 1)) := fun j hj => by
    have hb := alloc_blk ((w.alloc (.cells #[.int .i64 0, .int .i64 0, .int .i64 0, .int .i64 0] 44)).alloc (.cells #[.int .i64 0, .int .i64 0, .int .i64 0, .int .i64 0] 44)) (.cells #[.pointer (some ⟨w.heap.size + 1, 0, none⟩), .pointer (some ⟨w.heap.size + 1, 1, none⟩), .pointer (some ⟨w.heap.size + 1, 2, none⟩), .pointer (some ⟨w.heap.size + 1, 3, none⟩)] 107)
    rw [hs2] at hb
    rw [cell_blk hb]
    match j, hj with
    | 0, _ => rfl
    | 1, _ => rfl
    | 2, _ => rfl
    | 3, _ => rfl
  have HG : Hid ((((w.alloc (.cells #[.int .i64 0, .int .i64 0, .int .i64 0, .int .i64 0] 44)).alloc (.cells #[.int .i64 0, .int .i64 0, .int .i64 0, .int .i64 0] 44)).alloc (.cells #[.pointer (some ⟨w.heap.size + 1, 0, none⟩), .pointer (some ⟨w.heap.size + 1, 1, none⟩), .pointer (some ⟨w.heap.size + 1, 2, none⟩), .pointer (some ⟨w.heap.size + 1, 3, none⟩)] 107)).heap[w.heap.size + 1]? = some (.cells (row .i64 4 (fun _ => 0)) 44 (0, 0))) := by
    have := alloc_blk_old (alloc_blk (w.alloc (.cells #[.int .i64 0, .int .i64 0, .int .i64 0, .int .i64 0] 44)) (.cells #[.int .i64 0, .int .i64 0, .int .i64 0, .int .i64 0] 44)) (.cells #[.pointer (some ⟨w.heap.size + 1, 0, none⟩), .pointer (some ⟨w.heap.size + 1, 1, none⟩), .pointer (some ⟨w.heap.size + 1, 2, none⟩), .pointer (some ⟨w.heap.size + 1, 3, none⟩)] 107)
    have hs1 : (w.alloc (.cells #[.int .i64 0, .int .i64 0, .int .i64 0, .int .i64 0] 44)).heap.size = w.heap.size + 1 := by simp
    rw [hs1] at this
    exact this
  have H0 : Hid ((((w.alloc (.cells #[.int .i64 0, .int .i64 0, .int .i64 0, .int .i64 0] 44)).alloc (.cells #[.int .i64 0, .int .i64 0, .int .i64 0, .int .i64 0] 44)).alloc (.cells #[.pointer (some ⟨w.heap.size + 1, 0, none⟩), .pointer (some ⟨w.heap.size + 1, 1, none⟩), .pointer (some ⟨w.heap.size + 1, 2, none⟩), .pointer (some ⟨w.heap.size + 1, 3, none⟩)] 107)).heap[w.heap.size]? = some (.cells (markC (fun _ => 0)) 44 (0, 0))) := alloc_blk_old (alloc_blk_old (alloc_blk _ _) _) _
  have HB3 : Hid (Below w.heap.size w (((w.alloc (.cells #[.int .i64 0, .int .i64 0, .int .i64 0, .int .i64 0] 44)).alloc (.cells #[.int .i64 0, .int .i64 0, .int .i64 0, .int .i64 0] 44)).alloc (.cells #[.pointer (some ⟨w.heap.size + 1, 0, none⟩), .pointer (some ⟨w.heap.size + 1, 1, none⟩), .pointer (some ⟨w.heap.size + 1, 2, none⟩), .pointer (some ⟨w.heap.size + 1, 3, none⟩)] 107))) := hB3
  have HS3 : Hid ((((w.alloc (.cells #[.int .i64 0, .int .i64 0, .int .i64 0, .int .i64 0] 44)).alloc (.cells #[.int .i64 0, .int .i64 0, .int .i64 0, .int .i64 0] 44)).alloc (.cells #[.pointer (some ⟨w.heap.size + 1, 0, none⟩), .pointer (some ⟨w.heap.size + 1, 1, none⟩), .pointer (some ⟨w.heap.size + 1, 2, none⟩), .pointer (some ⟨w.heap.size + 1, 3, none⟩)] 107)).heap.size = w.heap.size + 3) := by show _ = _; simp
  clear h hs2 hB3
  go_enter Try.func60, Try.ntmps60
  go_wp2_with fail
  generalize (((w.alloc (.cells #[.int .i64 0, .int .i64 0, .int .i64 0, .int .i64 0] 44)).alloc (.cells #[.int .i64 0, .int .i64 0, .int .i64 0, .int .i64 0] 44)).alloc (.cells #[.pointer (some ⟨w.heap.size + 1, 0, none⟩), .pointer (some ⟨w.heap.size + 1, 1, none⟩), .pointer (some ⟨w.heap.size + 1, 2, none⟩), .pointer (some ⟨w.heap.size + 1, 3, none⟩)] 107)) = w3 at *
  refine (rdNums_str r (w.heap.size + 2) [(w.heap.size + 1, 0), (w.heap.size + 1, 1), (w.heap.size + 1, 2), (w.heap.size + 1, 3)] L w3 HR.out (fun j p hp => ?_) (fun p hp => ?_) (by omega) (by show 4 < 1000; decide)).mono ?_
  · match j, hp with
    | 0, hp => cases hp; exact HP.out 0 (by decide)
    | 1, hp => cases hp; exact HP.out 1 (by decide)
    | 2, hp => cases hp; exact HP.out 2 (by decide)
    | 3, hp => cases hp; exact HP.out 3 (by decide)
    | j + 4, hp => cases hp
  · simp only [List.mem_cons, List.not_mem_nil, or_false] at hp
    rcases hp with rfl | rfl | rfl | rfl <;> exact ⟨⟨_, _, _, HG.out, rfl⟩, by simp; omega, by simp⟩
  rintro e w4 ⟨rfl, zs, L4, hzl, hzi, hr4, ht4, hl4, hk4, hs4⟩
  obtain ⟨z0, z1, z2, z3, rfl⟩ : ∃ z0 z1 z2 z3, zs = [z0, z1, z2, z3] := by
    match zs, hzl with
    | [z0, z1, z2, z3], _ => exact ⟨z0, z1, z2, z3, rfl⟩
  obtain ⟨a, HA⟩ : ∃ a : Nat → Int, Hid (a = fun j => if j = 0 then z0 else if j = 1 then z1 else if j = 2 then z2 else z3) := ⟨_, rfl⟩
  have hg4 := ((set_blk ((set_blk ((set_blk ((set_blk HG.out 0 (.int .i64 z0)).trans rfl) 1 (.int .i64 z1)).trans rfl) 2 (.int .i64 z2)).trans rfl) 3 (.int .i64 z3)).trans (by rw [HA.out]; rfl) : (((((w3.setCell ⟨w.heap.size + 1, 0, none⟩ (.int .i64 z0)).setCell ⟨w.heap.size + 1, 1, none⟩ (.int .i64 z1)).setCell ⟨w.heap.size + 1, 2, none⟩ (.int .i64 z2)).setCell ⟨w.heap.size + 1, 3, none⟩ (.int .i64 z3)).heap[w.heap.size + 1]? = some (.cells (markC a) 44 (0, 0))))
  have hn4 : ∀ q, q ≠ w.heap.size + 1 → (setN w3 [(w.heap.size + 1, 0), (w.heap.size + 1, 1), (w.heap.size + 1, 2), (w.heap.size + 1, 3)] [z0, z1, z2, z3]).heap[q]? = w3.heap[q]? := fun q hq => by
    show ((((w3.setCell _ _).setCell _ _).setCell _ _).setCell _ _).heap[q]? = _
    rw [Below.heap_setCell _ _ _ _ hq, Below.heap_setCell _ _ _ _ hq, Below.heap_setCell _ _ _ _ hq, Below.heap_setCell _ _ _ _ hq]
  have hz4 : (setN w3 [(w.heap.size + 1, 0), (w.heap.size + 1, 1), (w.heap.size + 1, 2), (w.heap.size + 1, 3)] [z0, z1, z2, z3]).heap.size = w3.heap.size := by simp [setN, World.setCell]
  have HG4 : Hid (w4.heap[w.heap.size + 1]? = some (.cells (markC a) 44 (0, 0))) := (hk4.block _ (by rw [hz4, HS3.out]; omega) (by omega)).trans hg4
  have H04 : Hid (w4.heap[w.heap.size]? = some (.cells (markC (fun _ => 0)) 44 (0, 0))) := ((hk4.block _ (by rw [hz4, HS3.out]; omega) (by omega)).trans (hn4 _ (by omega))).trans H0.out
  have hW4 : Below r w w4 := (HB3.out.mono (by omega)).trans ⟨hk4.os, hk4.tape, hk4.output, by rw [hs4]; exact Nat.le_refl _, fun q hq => (hk4.block q (by rw [hz4, HS3.out]; omega) (by omega)).trans (hn4 q (by omega))⟩
  have HFA : Hid ((∀ j, inI (a j)) ∧ ∀ k p e t R, NumOk k → NumOk p → NumOk e → NumOk t → L = nums [k, p, e, t] ++ R → a 0 = k ∧ a 1 = p ∧ a 2 = e ∧ a 3 = t) := by
    refine ⟨fun j => ?_, fun k p e t R n1 n2 n3 n4 e1 => ?_⟩
    · rw [HA.out]
      show inI (if j = 0 then z0 else if j = 1 then z1 else if j = 2 then z2 else z3)
      repeat' split
      all_goals exact hzi _ (by simp)
    · obtain ⟨a1, -⟩ := ht4 [k, p, e, t] R (fun v hv => by simp at hv; rcases hv with rfl | rfl | rfl | rfl <;> assumption) rfl e1
      injection a1 with x1 y1; injection y1 with x2 y2; injection y2 with x3 y3; injection y3 with x4 y4
      rw [HA.out]
      exact ⟨x1, x2, x3, x4⟩
  clear hzl hzi hr4 ht4 hl4 hk4 hs4 hg4 hn4 hz4 HA HG HP HR H0
  go_wp2_with (first | (refine wpList_load_mark rfl _ rfl (w.heap.size + 1) a 44 (0, 0) ?_ ?_ ?_; rfl; exact HG4.out) | (refine wpList_store_mark rfl _ _ rfl w.heap.size a (fun _ => 0) ?_ ?_ H04.out ?_; rfl; rfl))
  have HC5 : Hid ((w4.setRow w.heap.size (markC a)).heap[w.heap.size]? = some (.cells (markC a) 44 (0, 0))) := setRow_blk H04.out _
  have hW5 : Below r w (w4.setRow w.heap.size (markC a)) := hW4.trans ((keeps_setRow w4 _ _).below (by omega) (by have := lt_blk H04.out; omega))
  refine bodyPost_ret (v := .agg (markC a)) ?_ rfl ⟨⟨a, rfl, HFA.out⟩, hW5⟩
  obtain ⟨d, hd1, hd2⟩ := mark_desc
  exact results_cell_row rfl _ _ w.heap.size _ _ _ d rfl HC5.out hd1 (by cases d <;> simp_all [TypeDesc.isRow]) (mark_info a)
end Go.Proofs.Ytkjocpadmlobgaa
