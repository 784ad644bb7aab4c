/- WireBodies, for every message that comes in. -/
import Derived.Test.YtkjocpadmlobgaaWireL
import Derived.Test.YtkjocpadmlobgaaWLaw
namespace Go.Proofs.Ytkjocpadmlobgaa
open Go.RowKit Go.Dig Go.Inv Go.Oct

set_option maxRecDepth 10000 in
set_option maxHeartbeats 2000000 in
theorem wireBodies_any (m : MsgR) (v : VoteR) (tn : Int) (tag : Nat → Int) (P : List Int) (ys : List VoteR) (w : World) (h : MsgIn w m P ys) (hv : v.wf) (ito : inI tn) :
    Calls Try.prog 6 #[.agg m.cells, .agg v.cells, .int .i64 tn, .agg (row .u8 32 tag)] w fun e w' => e = .returned (.bool true) ∧ Below w.heap.size w w' := by
  cases hl : longM m with
  | false =>
    refine wireBodies_in m v tn tag P ys w (h.at ?_ ?_) hv ito hl
    · simp [longM] at hl; omega
    · simp [longM] at hl; omega
  | true =>
    have hBa := below_alloc w (.cells m.cells 27)
    have hBb := below_alloc (w.alloc (.cells m.cells 27)) (.cells v.cells 62)
    have hBc := below_alloc ((w.alloc (.cells m.cells 27)).alloc (.cells v.cells 62)) (.cells (row .u8 32 tag) 25)
    have hB1 : Below w.heap.size w (((w.alloc (.cells m.cells 27)).alloc (.cells v.cells 62)).alloc (.cells (row .u8 32 tag) 25)) := (hBa.trans (hBb.mono (by simp))).trans (hBc.mono (by simp; omega))
    have HB : Hid ((((w.alloc (.cells m.cells 27)).alloc (.cells v.cells 62)).alloc (.cells (row .u8 32 tag) 25)).heap[w.heap.size]? = some (.cells m.cells 27 (0, 0))) := alloc_blk_old (alloc_blk_old (alloc_blk _ _) _) _
    clear hBa hBb hBc h
    go_enter Try.func6, Try.ntmps6
    go_upto_region 1 with (first | (refine wpList_box_row rfl 27 _ rfl _ ?_ ?_; rfl) | (refine wpList_box_row rfl 62 _ rfl _ ?_ ?_; rfl) | (refine wpList_box_row rfl 25 _ rfl _ ?_ ?_; rfl))
    generalize (((w.alloc (.cells m.cells 27)).alloc (.cells v.cells 62)).alloc (.cells (row .u8 32 tag) 25)) = w1 at *
    go_wp2_with (first | (refine wpList_load_msg rfl _ rfl w.heap.size m 27 (0, 0) ?_ ?_ ?_; rfl; exact HB.out))
    refine (long5_any m w1).mono ?_
    rintro e w2 ⟨rfl, hB2⟩
    rw [hl]
    go_wp2_with fail
    go_ret
    exact ⟨rfl, hB1.trans (hB2.mono hB1.size)⟩
end Go.Proofs.Ytkjocpadmlobgaa
