/- A nil log: what it tells. -/
import Derived.Test.YtjinhahfpkcilaaPlV
namespace Go.Proofs.Ytjinhahfpkcilaa
open Go.RowKit Go.Dig Go.Inv Go.Oct
attribute [local go_sem] Oper.semAt_some
set_option linter.unusedVariables false
set_option linter.unusedSimpArgs false

def NlI (W0 : World) (pre : List (Off [])) (W : World) : Prop := Below W0.heap.size W0 W
set_option maxRecDepth 100000 in
set_option maxHeartbeats 4000000 in
theorem Stable_nil (w : World) : Calls Try.prog 16 #[.pointer none] w fun e w' => e = .returned (.int .i64 0) ∧ Below w.heap.size w w' := by
  have hB1 : Below w.heap.size w ((w.alloc (.cells #[.pointer none] 24)).alloc (.cells #[.int .i64 0] 3)) := ((Below.refl _ w).alloc (Nat.le_refl _) _).alloc (by simp) _
  have b3 := (Boxed.new w 24 (.pointer none)).alloc (.cells #[.int .i64 0] 3)
  have b4 := Boxed.new (w.alloc (.cells #[.pointer none] 24)) 3 (.int .i64 0)
  rw [World.size_alloc] at b4
  have c3 := b3.cell
  have hsz1 : ((w.alloc (.cells #[.pointer none] 24)).alloc (.cells #[.int .i64 0] 3)).heap.size = w.heap.size + 2 := by simp
  refine (callsIn_wide (n := 9)).1 ?_
  refine callsIn_of_wp_marks Try.func16 rfl trivial ?_ rfl
  simp only [Try.ntmps16, List.size_toArray, List.length_cons, List.length_nil, Nat.reduceAdd, Nat.reduceSub, Array.replicate_succ, Array.replicate_zero, List.push_toArray, List.append_toArray, List.nil_append, List.cons_append]
  gi_wp2_with fail
  refine ⟨trivial, ?_⟩
  refine (callsIn_wide.2 (kept_nil _ 0)).mono ?_
  rintro e w2 ⟨rfl, rfl⟩
  obtain ⟨W0, hW0⟩ : ∃ W0, (((w.alloc (.cells #[.pointer none] 24)).alloc (.cells #[.int .i64 0] 3)).alloc (.cells #[.int .i64 0] 3)).alloc (.cells #[.slice none 0 0] 40) = W0 := ⟨_, rfl⟩
  have bT := (Boxed.new ((w.alloc (.cells #[.pointer none] 24)).alloc (.cells #[.int .i64 0] 3)) 3 (.int .i64 0)).alloc (.cells #[.slice none 0 0] 40)
  have bF := Boxed.new (((w.alloc (.cells #[.pointer none] 24)).alloc (.cells #[.int .i64 0] 3)).alloc (.cells #[.int .i64 0] 3)) 40 (.slice none 0 0)
  rw [World.size_alloc] at bF
  rw [hsz1] at bT bF ⊢
  have b3 := (b3.alloc (.cells #[.int .i64 0] 3)).alloc (.cells #[.slice none 0 0] 40)
  have b4 := (b4.alloc (.cells #[.int .i64 0] 3)).alloc (.cells #[.slice none 0 0] 40)
  have hsz0 : ((((w.alloc (.cells #[.pointer none] 24)).alloc (.cells #[.int .i64 0] 3)).alloc (.cells #[.int .i64 0] 3)).alloc (.cells #[.slice none 0 0] 40)).heap.size = w.heap.size + 4 := by simp
  have hB0 : Below w.heap.size w ((((w.alloc (.cells #[.pointer none] 24)).alloc (.cells #[.int .i64 0] 3)).alloc (.cells #[.int .i64 0] 3)).alloc (.cells #[.slice none 0 0] 40)) := (hB1.alloc (by omega) _).alloc (by simp; omega) _
  rw [hW0] at bT bF b3 b4 hsz0 hB0 ⊢
  clear hW0 hB1 hsz1 c3
  have HQ : Hid _ := kept_stops_nil 0 W0 8 (by decide) (w.heap.size + 2) (w.heap.size + 3) (fun b => b < W0.heap.size ∧ b ≠ w.heap.size + 1) (fun b hb => hb.1) bT bF ⟨by omega, by omega⟩ ⟨by omega, by omega⟩
  have HX3 : Hid (Boxed W0 w.heap.size 24 (.pointer none)) := b3
  have HX4 : Hid (Boxed W0 (w.heap.size + 1) 3 (.int .i64 0)) := b4
  have HB0 : Hid (Below w.heap.size w W0) := hB0
  have HS0 : Hid (W0.heap.size = w.heap.size + 4) := hsz0
  have hrun : ∀ W, Sem.run Try.prog (binOp BinOp.eql 44 (Value.func (Fn.func 50) #[] #[.pointer (some ⟨w.heap.size + 2, 0, none⟩), .pointer (some ⟨w.heap.size + 3, 0, none⟩)]) Value.nilFunc) W = .ok (.bool false) W := fun _ => rfl
  clear bT bF b3 b4 hsz0 hB0
  gi_wp2_with fail
  refine wpIn_rangeFunc_ownH rfl (by decide) (gf := 50) (lb := #[.pointer (some ⟨w.heap.size + 2, 0, none⟩), .pointer (some ⟨w.heap.size + 3, 0, none⟩)]) rfl trivial (enters_of Try.func50 (by kernel_rfl) rfl) HQ.out (fun h k => Kept.trans h k)
    (fun W l o o' hl _ _ _ b hb => World.putObj_heap_other (by have := hb.1; omega)) (Below.refl _ _) (fun _ => rfl)
    (NlI W0) (fun _ _ _ => False)
    (fun s A B row hs hg hr => hs.trans ⟨hg.os, hg.tape, hg.output, hg.size, fun k hk => hg.block k (by have := hs.size; omega) (fun e => by have := (hr k e.symm).1; omega)⟩)
    (fun c s A B row hs hg hr => hs)
    (Below.refl _ _)
    (fun x' a' W => False)
    (fun x' a' s A B row hs hg hr => hs) ?assign ?body ?done ?stop
  case assign =>
    rintro l pre ⟨j, hj⟩ W K hB hK
    exact absurd hj (by simp)
  case body =>
    rintro l pre x' a' W hl _ _ h
    exact h.elim
  case stop =>
    rintro D c pre W hD hpre h hK
    exact h.elim
  case done =>
    rintro D ys W hD rfl hB hK
    have hs0 := HS0.out
    have hx3 : Boxed W w.heap.size 24 (.pointer none) := (Below.block hB _ (by omega)).trans HX3.out
    have hx4 : Boxed W (w.heap.size + 1) 3 (.int .i64 0) := (Below.block hB _ (by omega)).trans HX4.out
    have c3 := hx3.cell
    have c4 := hx4.cell
    have f4 := hx4.frozen
    have HX : Hid (Boxed W (w.heap.size + 1) 3 (.int .i64 0)) := hx4
    have HBW : Hid (Below w.heap.size w W) := HB0.out.trans (Below.mono hB HB0.out.size)
    clear hs0 hx4 hx3 hB
    gi_wp2_with fail
    refine ⟨trivial, ?_⟩
    refine (callsIn_wide.2 (Len_nil W)).mono ?_
    rintro e W2 ⟨rfl, rfl⟩
    gi_wp2_with fail
    have hb2 := HX.out.set (.int .i64 0)
    have hKs : (W2.setCell ⟨w.heap.size + 1, 0, none⟩ (.int .i64 0)).heap[D]? = some (.deferred (some [])) := (set_blk_other _ _ (by have := HS0.out; omega)).trans hK
    have hBs : Below w.heap.size w (W2.setCell ⟨w.heap.size + 1, 0, none⟩ (.int .i64 0)) := HBW.out.setCell (p := ⟨w.heap.size + 1, 0, none⟩) (by simp) _
    refine ⟨by simp, .inl ⟨_, _, rfl, run_takeDeferred hKs, ?_⟩⟩
    refine ⟨_, results_int rfl _ _ (w.heap.size + 1) (.int .i64 0) rfl ?_, rfl, hBs.trans (belowK_b (w := w) (Nat.le_refl _) _ D _ _ (by have := HS0.out; omega) hKs rfl rfl)⟩
    rw [World.cell?_of_block (a := ⟨w.heap.size + 1, 0, none⟩) (World.putObj_heap_other (by show w.heap.size + 1 ≠ D; have := HS0.out; omega))]
    exact hb2.cell
theorem Spans_nil (w : World) : Calls Try.prog 17 #[.pointer none] w fun e w' => e = .returned (.slice none 0 0) ∧ w' = w := by
  go_enter Try.func17, Try.ntmps17
  go_wp2
  go_ret
  exact ⟨rfl, rfl⟩
end Go.Proofs.Ytjinhahfpkcilaa
