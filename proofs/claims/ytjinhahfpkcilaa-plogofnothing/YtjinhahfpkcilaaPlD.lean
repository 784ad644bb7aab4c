/- Whether a record may be; its key; whether a writer may write; a value is copied; two are compared. -/
import Derived.Test.YtjinhahfpkcilaaPlL
namespace Go.Proofs.Ytjinhahfpkcilaa
open Go.RowKit Go.Dig Go.Inv
set_option linter.unusedVariables false
set_option linter.unusedSimpArgs false

theorem wanted_do {ops : Array Oper} {rest : List Oper} {o : Oper} {a : Act} {w : World} {Q : Exit → Act → World → Prop} (hw : Region.wanted o (yielded ops a.tmps) = true) (h : ∀ K : Act → World → Prop, (∀ a w, wpList Try.prog ops Q rest a w → K a w) → o.wp Try.prog a w K Q) : wpList Try.prog ops Q (o :: rest) a w :=
  wpList_step fun K hK => by rw [hw]; exact h K hK
theorem Rc.ok_eq (r : Rc) : r.ok = (okW r.p r.e && okT r.t && inB r.s 0 1048576 && decide (r.v.length ≤ 200)) := by simp [Rc.ok, inB, Bool.decide_and]
set_option maxHeartbeats 1000000 in
theorem mayBe_any (r : Rc) (ao : Option Addr) (cap : Nat) (w : World) : Calls Try.prog 36 #[.agg (rrC (r, .slice ao r.v.length cap))] w fun x w' => x = .returned (.bool r.ok) ∧ Below w.heap.size w w' := by
  have hb0 := alloc_blk w (.cells (rrC (r, .slice ao r.v.length cap)) 32)
  have hB0 := below_alloc w (.cells (rrC (r, .slice ao r.v.length cap)) 32)
  obtain ⟨W0, HW0⟩ : ∃ W0, Hid (w.alloc (.cells (rrC (r, .slice ao r.v.length cap)) 32) = W0) := ⟨_, rfl⟩
  rw [HW0.out] at hb0 hB0
  have c0 : W0.cell? ⟨w.heap.size, 0, none⟩ = some (.int .i64 r.p) := cell_blk hb0 0
  have c1 : W0.cell? ⟨w.heap.size, 1, none⟩ = some (.int .i64 r.e) := cell_blk hb0 1
  have c2 : W0.cell? ⟨w.heap.size, 2, none⟩ = some (.int .i64 r.t) := cell_blk hb0 2
  have c3 : W0.cell? ⟨w.heap.size, 3, none⟩ = some (.int .i64 r.s) := cell_blk hb0 3
  have c4 : W0.cell? ⟨w.heap.size, 4, none⟩ = some (.slice ao r.v.length cap) := cell_blk hb0 4
  have hw := mayWrite_any r.p r.e W0
  have hn := mayNumber_any r.t W0
  have hs := lwithin_any r.s 0 1048576 W0
  have hE : r.ok = (okW r.p r.e && okT r.t && inB r.s 0 1048576 && decide (r.v.length ≤ 200)) := r.ok_eq
  rw [hE]
  clear hE hb0
  cases h1 : okW r.p r.e
  · rw [h1] at hw
    go_enter Try.func36, Try.ntmps36
    go_wp2_with (first | (refine wpList_box_row rfl 32 _ rfl (rrC (r, .slice ao r.v.length cap)) rfl ?_; rw [HW0.out]) | (go_at_call 42; refine hw.mono ?_; rintro e w1 ⟨rfl, rfl⟩))
    go_ret
    exact ⟨rfl, hB0⟩
  · cases h2 : okT r.t
    · rw [h1] at hw
      rw [h2] at hn
      go_enter Try.func36, Try.ntmps36
      go_wp2_with (first | (refine wpList_box_row rfl 32 _ rfl (rrC (r, .slice ao r.v.length cap)) rfl ?_; rw [HW0.out]) | (go_at_call 42; refine hw.mono ?_; rintro e w1 ⟨rfl, rfl⟩) | (go_at_call 43; refine hn.mono ?_; rintro e w1 ⟨rfl, rfl⟩))
      go_ret
      exact ⟨rfl, hB0⟩
    · cases h3 : inB r.s 0 1048576
      · rw [h1] at hw
        rw [h2] at hn
        rw [h3] at hs
        go_enter Try.func36, Try.ntmps36
        go_wp2_with (first | (refine wpList_box_row rfl 32 _ rfl (rrC (r, .slice ao r.v.length cap)) rfl ?_; rw [HW0.out]) | (go_at_call 42; refine hw.mono ?_; rintro e w1 ⟨rfl, rfl⟩) | (go_at_call 43; refine hn.mono ?_; rintro e w1 ⟨rfl, rfl⟩) | (go_at_call 41; refine hs.mono ?_; rintro e w1 ⟨rfl, rfl⟩))
        go_ret
        exact ⟨rfl, hB0⟩
      · rw [h1] at hw
        rw [h2] at hn
        rw [h3] at hs
        go_enter Try.func36, Try.ntmps36
        go_wp2_with (first | (refine wpList_box_row rfl 32 _ rfl (rrC (r, .slice ao r.v.length cap)) rfl ?_; rw [HW0.out]) | (go_at_call 42; refine hw.mono ?_; rintro e w1 ⟨rfl, rfl⟩) | (go_at_call 43; refine hn.mono ?_; rintro e w1 ⟨rfl, rfl⟩) | (go_at_call 41; refine hs.mono ?_; rintro e w1 ⟨rfl, rfl⟩))
        go_ret
        exact ⟨by simp; omega, hB0⟩
set_option maxHeartbeats 1000000 in
theorem of_any (r : Rc) (u : Value) (w : World) : Calls Try.prog 32 #[.agg (rrC (r, u))] w fun x w' => x = .returned (.agg (kyC r.key)) ∧ Below w.heap.size w w' := by
  have hb0 := alloc_blk_old (alloc_blk w (.cells (rrC (r, u)) 32)) (.cells (kyC (0, 0, 0)) 76)
  have hk0 := alloc_blk (w.alloc (.cells (rrC (r, u)) 32)) (.cells (kyC (0, 0, 0)) 76)
  have hB0 := (below_alloc w (.cells (rrC (r, u)) 32)).alloc (by simp) (.cells (kyC (0, 0, 0)) 76)
  rw [show (w.alloc (.cells (rrC (r, u)) 32)).heap.size = w.heap.size + 1 by simp] at hk0
  go_enter Try.func32, Try.ntmps32
  go_upto_region 1 with (first | (refine wpList_box_row rfl 32 _ rfl (rrC (r, u)) rfl ?_) | (refine wpList_alloc_row rfl 76 rfl (kyC (0, 0, 0)) (by kernel_rfl) ?_))
  obtain ⟨W0, HW0⟩ : ∃ W0, Hid ((w.alloc (.cells (rrC (r, u)) 32)).alloc (.cells (kyC (0, 0, 0)) 76) = W0) := ⟨_, rfl⟩
  rw [HW0.out] at hb0 hk0 hB0 ⊢
  have c0 : W0.cell? ⟨w.heap.size, 0, none⟩ = some (.int .i64 r.p) := cell_blk hb0 0
  have c1 : W0.cell? ⟨w.heap.size, 1, none⟩ = some (.int .i64 r.e) := cell_blk hb0 1
  have c2 : W0.cell? ⟨w.heap.size, 2, none⟩ = some (.int .i64 r.t) := cell_blk hb0 2
  have HK0 : Hid (W0.heap[w.heap.size + 1]? = some (.cells (kyC (0, 0, 0)) 76 (0, 0))) := hk0
  clear hb0 hk0 HW0
  go_wp2_with (first | (refine wpList_build_to rfl 76 _ rfl (kyC r.key) (by kernel_rfl) ?_) | (refine wpList_store_whole rfl 76 _ _ rfl (w.heap.size + 1) (kyC r.key) (kyC (0, 0, 0)) ?_ ?_ 76 HK0.out (by kernel_rfl) (kyC_all _) rfl ?_; rfl; rfl; intro w3 h3 hK3))
  have hB3 := hB0.trans (hK3.below (by omega) hB0.size)
  refine bodyPost_ret (results_agg rfl _ _ (w.heap.size + 1) (kyC r.key) 76 (0, 0) rfl (by kernel_rfl) h3 (by kernel_rfl)) rfl ⟨rfl, hB3⟩
/-- whether a writer may write in that epoch -/
def letsI (t : Option Wt) (e : Int) : Int := match t with | none => 4 | some t => if e < t.ep then 5 else if t.ep < e then 6 else 0
set_option maxHeartbeats 400000 in
theorem lets_any (own : Own) (w : World) (i : Nat) (b : Option Nat) (t : Option Wt) (e : Int) (h : WrAt own w i b t) : Calls Try.prog 37 #[.pointer (b.map fun k => ⟨k, 0, none⟩), .int .i64 e] w fun x w' => x = .returned (.int .i64 (letsI t e)) ∧ w' = w := by
  match b, t, h with
  | none, none, _ =>
    go_enter Try.func37, Try.ntmps37
    go_wp2
    go_ret
    exact ⟨rfl, rfl⟩
  | some k, some t, ⟨v, h1, _, _, _⟩ =>
    have c0 : w.cell? ⟨k, 0, none⟩ = some (.int .i64 t.ep) := cell_blk h1 0
    clear h1
    unfold letsI
    dsimp only
    by_cases h5 : e < t.ep
    · rw [if_pos h5]
      go_enter Try.func37, Try.ntmps37
      go_wp2
      go_ret
      exact ⟨rfl, rfl⟩
    · rw [if_neg h5]
      by_cases h6 : t.ep < e
      · rw [if_pos h6]
        go_enter Try.func37, Try.ntmps37
        go_wp2
        go_ret
        exact ⟨rfl, rfl⟩
      · rw [if_neg h6]
        go_enter Try.func37, Try.ntmps37
        go_wp2
        go_ret
        exact ⟨rfl, rfl⟩
  | none, some _, h => exact h.elim
  | some _, none, h => exact h.elim
end Go.Proofs.Ytjinhahfpkcilaa
