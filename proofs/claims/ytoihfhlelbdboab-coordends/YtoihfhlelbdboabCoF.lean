/- Small calls of the coordinator: plain, key, mayBe; strings.Clone. For names of fewer than 2^30 bytes. -/
import Derived.Test.YtoihfhlelbdboabCoE
import Derived.Test.YtoihfhlelbdboabWireJ
import Derived.Shelf.Strconv.Clone
namespace Go.Proofs.Ytoihfhlelbdboab
open Go.Shelf Go.RowKit Go.Dig Go.Inv Go.Oct Go.Hold
set_option linter.unusedVariables false
set_option linter.unusedSimpArgs false

def cren : Go.Shelf.Ren := ⟨fun | 316 => 71 | n => n, fun | 0 => 0 | 3 => 3 | 4 => 4 | 5 => 5 | 9 => 9 | 37 => 67 | 127 => 141 | n => n, fun n => n⟩
theorem lays316 : LaysM.n316 Try.prog cren := {
  mixed := by kernel_rfl,
  f316 := Try.func71.trans (congrArg some (by kernel_rfl)),
  t0 := Try.underlying0, a0 := Try.isAgg0, z0 := Try.sizeOf0, v0 := Try.zeroValue0,
  t3 := Try.underlying3, a3 := Try.isAgg3, z3 := Try.sizeOf3, v3 := Try.zeroValue3,
  t4 := Try.underlying4, a4 := Try.isAgg4, z4 := Try.sizeOf4, v4 := Try.zeroValue4,
  t5 := Try.underlying5, a5 := Try.isAgg5, z5 := Try.sizeOf5, v5 := Try.zeroValue5,
  t9 := Try.underlying9, a9 := Try.isAgg9, z9 := Try.sizeOf9, v9 := Try.zeroValue9,
  t37 := Try.underlying67, a37 := Try.isAgg67, z37 := Try.sizeOf67, v37 := Try.zeroValue67,
  t127 := Try.underlying141, a127 := Try.isAgg141, z127 := Try.sizeOf141, v127 := Try.zeroValue141,
  i0 := by kernel_rfl, i3 := by kernel_rfl, i4 := by kernel_rfl, i5 := by kernel_rfl, i9 := by kernel_rfl, i37 := by kernel_rfl, i127 := by kernel_rfl }
set_option maxHeartbeats 400000 in
theorem sClone_any (s : ByteArray) (w : World) (h : s.size ≤ 281474976710656) : Calls Try.prog 50 #[.string s] w fun e w' => e = .returned (.string s) ∧ Below w.heap.size w w' := by
  go_enter Try.func50, Try.ntmps50
  go_wp2_with (go_at_call 71; refine (Any.stringslite_Clone lays316 s _ h).mono ?_; rintro e w' ⟨rfl, hB⟩)
  go_ret
  exact ⟨rfl, hB⟩
set_option maxRecDepth 10000 in
set_option maxHeartbeats 400000 in
theorem plain_any (z : Int) (w : World) : Calls Try.prog 18 #[.int .i64 z] w fun e w' => e = .returned (.agg (rpC (err z))) ∧ Below w.heap.size w w' := by
  have hB := below_alloc w (.cells (rpC (err 0)) 27)
  have hb : (w.alloc (.cells (rpC (err 0)) 27)).heap[w.heap.size]? = some (.cells (rpC (err 0)) 27 (0, 0)) := alloc_blk _ _
  go_enter Try.func18, Try.ntmps18
  go_wp2_with (first | (refine wpList_alloc_row rfl 27 rfl (rpC (err 0)) (by kernel_rfl) ?_) | (refine wpList_build_to rfl 27 _ rfl (rpC (err z)) (by kernel_rfl) ?_) | (refine wpList_store_whole rfl 27 _ _ rfl w.heap.size (rpC (err z)) (rpC (err 0)) ?_ ?_ 27 hb (by kernel_rfl) (rpC_all _) rfl ?_; rfl; rfl))
  intro w' h1 h2
  go_wp2_with fail
  exact bodyPost_ret (results_agg rfl _ _ w.heap.size (rpC (err z)) 27 (0, 0) rfl (by kernel_rfl) h1 (by kernel_rfl)) rfl ⟨rfl, hB.trans (h2.below (Nat.le_refl _) hB.size)⟩
/-- an operation's cells -/
def OpF.cells (o : OpF) : Array Value := opC o.k o.c o.s o.n o.p o.e o.t o.r o.b
def OpF.ok (o : OpF) : Bool := opB o.k o.c o.s o.n o.p o.e o.t o.r o.b
structure OpF.In (o : OpF) : Prop where
  k : inI o.k
  c : inI o.c
  s : inI o.s
  p : inI o.p
  e : inI o.e
  t : inI o.t
  r : inI o.r
  n : o.n.size < 1073741824
set_option maxRecDepth 10000 in
set_option maxHeartbeats 400000 in
theorem mayBe_any (o : OpF) (h : o.In) (w : World) : Calls Try.prog 17 #[.agg o.cells] w fun e w' => e = .returned (.bool o.ok) ∧ Below w.heap.size w w' := by
  have hB := below_alloc w (.cells o.cells 32)
  have hb : (w.alloc (.cells o.cells 32)).heap[w.heap.size]? = some (.cells o.cells 32 (0, 0)) := alloc_blk _ _
  go_enter Try.func17, Try.ntmps17
  go_wp2_with (first | (refine wpList_box_row rfl 32 _ rfl o.cells ?_ ?_; rfl) | (refine wpList_load_agg rfl 32 (by kernel_rfl) _ rfl w.heap.size o.cells 32 (0, 0) ?_ hb (by kernel_rfl) ?_; rfl))
  refine (encodeOp_any o.k o.c o.s o.n o.p o.e o.t o.r o.b _ h.k h.c h.s h.p h.e h.t h.r h.n).mono ?_
  rintro x w1 ⟨v, rfl, hO, hB1⟩
  have hB2 := hB.trans (hB1.mono hB.size)
  obtain ⟨ao, n, c, rfl, -⟩ := hO.form
  clear hO hB1
  cases hok : opB o.k o.c o.s o.n o.p o.e o.t o.r o.b
  · go_wp2_with fail
    go_ret
    exact ⟨by rw [show o.ok = _ from hok]; rfl, hB2⟩
  · go_wp2_with fail
    go_ret
    exact ⟨by rw [show o.ok = _ from hok]; rfl, hB2⟩
/-- an operation as it comes in: its name of any size -/
structure OpF.Wide (o : OpF) : Prop where
  k : inI o.k
  c : inI o.c
  s : inI o.s
  p : inI o.p
  e : inI o.e
  t : inI o.t
  r : inI o.r
  n : o.n.size < 9223372036854775808
theorem OpF.In.wide {o : OpF} (h : o.In) : o.Wide := ⟨h.k, h.c, h.s, h.p, h.e, h.t, h.r, Nat.lt_trans h.n (by decide)⟩
theorem eN_size {n : ByteArray} (h : (n == eN) = true) : n.size ≤ 8 := by
  have e : n = eN := ByteArray.ext (eq_of_beq (show (n.data == eN.data) = true from h))
  rw [e]
  decide
/-- the name of one that may be is short -/
theorem OpF.ok_small {o : OpF} (h : o.ok = true) : o.n.size ≤ 8 := by
  unfold OpF.ok opB at h
  simp only [Bool.and_eq_true] at h
  obtain ⟨⟨⟨⟨⟨⟨hk, -⟩, -⟩, hs⟩, hn⟩, -⟩, -⟩ := h
  unfold sameB at hs
  by_cases h1 : o.k = 1
  · simp [h1, nameB] at hn
    exact hn.1.2
  · rw [if_neg h1] at hs
    split at hs
    · simp only [Bool.and_eq_true] at hs; exact eN_size hs.1
    · split at hs
      · simp only [Bool.and_eq_true] at hs; exact eN_size hs.1
      · simp only [Bool.and_eq_true] at hs; exact eN_size hs.1
theorem OpF.Wide.small {o : OpF} (h : o.Wide) (hb : o.ok = true) : o.In := ⟨h.k, h.c, h.s, h.p, h.e, h.t, h.r, by have := OpF.ok_small hb; omega⟩
set_option maxRecDepth 10000 in
set_option maxHeartbeats 400000 in
theorem mayBe_bad (o : OpF) (hn : o.n.size < 9223372036854775808) (hbad : o.ok = false) (w : World) : Calls Try.prog 17 #[.agg o.cells] w fun e w' => e = .returned (.bool o.ok) ∧ Below w.heap.size w w' := by
  have hB := below_alloc w (.cells o.cells 32)
  have hb : (w.alloc (.cells o.cells 32)).heap[w.heap.size]? = some (.cells o.cells 32 (0, 0)) := alloc_blk _ _
  have hok : opB o.k o.c o.s o.n o.p o.e o.t o.r o.b = false := hbad
  go_enter Try.func17, Try.ntmps17
  go_wp2_with (first | (refine wpList_box_row rfl 32 _ rfl o.cells ?_ ?_; rfl) | (refine wpList_load_agg rfl 32 (by kernel_rfl) _ rfl w.heap.size o.cells 32 (0, 0) ?_ hb (by kernel_rfl) ?_; rfl))
  refine (encodeOp_bad o.k o.c o.s o.n o.p o.e o.t o.r o.b _ hn hok).mono ?_
  rintro x w1 ⟨v, rfl, hO, hB1⟩
  have hB2 := hB.trans (hB1.mono hB.size)
  obtain ⟨ao, n, c, rfl, -⟩ := hO.form
  clear hO hB1
  rw [hok]
  go_wp2_with fail
  go_ret
  exact ⟨by rw [hbad]; rfl, hB2⟩
set_option maxRecDepth 10000 in
set_option maxHeartbeats 400000 in
theorem key_any (o : OpF) (hc : 0 ≤ o.c ∧ o.c ≤ 15) (hs : 0 ≤ o.s ∧ o.s ≤ 1048576) (w : World) : Calls Try.prog 20 #[.agg o.cells] w fun e w' => e = .returned (.int .i64 o.key) ∧ Below w.heap.size w w' := by
  have hB := below_alloc w (.cells o.cells 32)
  have hb : (w.alloc (.cells o.cells 32)).heap[w.heap.size]? = some (.cells o.cells 32 (0, 0)) := alloc_blk _ _
  have c1 : (w.alloc (.cells o.cells 32)).cell? ⟨w.heap.size, 1, none⟩ = some (.int .i64 o.c) := cell_blk hb 1
  have c2 : (w.alloc (.cells o.cells 32)).cell? ⟨w.heap.size, 2, none⟩ = some (.int .i64 o.s) := cell_blk hb 2
  go_enter Try.func20, Try.ntmps20
  go_wp2_with (first | (refine wpList_box_row rfl 32 _ rfl o.cells ?_ ?_; rfl))
  go_ret
  exact ⟨rfl, hB⟩
end Go.Proofs.Ytoihfhlelbdboab
