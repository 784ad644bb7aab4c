/- What a nil log's Records tell. -/
import Derived.Test.YtjinhahfpkcilaaPlZ
namespace Go.Proofs.Ytjinhahfpkcilaa
open Go.RowKit Go.Dig Go.Inv Go.Oct
attribute [local go_sem] Oper.semAt_some
set_option linter.unusedVariables false
set_option linter.unusedSimpArgs false

theorem results_told {fn : Func} {p q : Tmp} (h : fn.results = #[.cell p 40, .cell q 4]) (tmps : Array Value) (w : World) (g k : Nat) (v u : Value) (hp : tmps.getD p undef = .pointer (some ⟨g, 0, none⟩)) (hg : w.cell? ⟨g, 0, none⟩ = some v) (hq : tmps.getD q undef = .pointer (some ⟨k, 0, none⟩)) (hk : w.cell? ⟨k, 0, none⟩ = some u) : (results fn tmps).run Try.prog w = .ok (.tuple #[v, u]) w := by
  have hp' : tmps[p]?.getD undef = .pointer (some ⟨g, 0, none⟩) := by simpa using hp
  have hq' : tmps[q]?.getD undef = .pointer (some ⟨k, 0, none⟩) := by simpa using hq
  simp [results, h, hp', hq', asAddr, go_sem, hg, hk]
set_option maxRecDepth 100000 in
set_option maxHeartbeats 4000000 in
theorem told_nil (w : World) (B0 B1 B2 : Nat) (h0 : Boxed w B0 3 (.int .i64 0)) (h1 : Boxed w B1 40 (.slice none 0 0)) (h2 : Boxed w B2 44 (.func (.func 50) #[] #[.pointer (some ⟨B0, 0, none⟩), .pointer (some ⟨B1, 0, none⟩)])) :
    Calls Try.prog 18 #[.func (.func 34) #[] #[.pointer (some ⟨B2, 0, none⟩)], .int .i64 0] w fun e w' => e = .returned (.tuple #[.slice none 0 0, .bool true]) ∧ Below w.heap.size w w' := by
  have hrun : ∀ W, Sem.run Try.prog (binOp BinOp.eql 44 (Value.func (Fn.func 34) #[] #[.pointer (some ⟨B2, 0, none⟩)]) Value.nilFunc) W = .ok (.bool false) W := fun _ => rfl
  refine (callsIn_wide (n := 9)).1 ?_
  refine callsIn_of_wp_marks Try.func18 rfl trivial ?_ rfl
  simp only [Try.ntmps18, List.size_toArray, List.length_cons, List.length_nil, Nat.reduceAdd, Nat.reduceSub, Array.replicate_succ, Array.replicate_zero, List.push_toArray, List.append_toArray, List.nil_append, List.cons_append]
  gi_wp2_with fail
  obtain ⟨W0, hW0⟩ : ∃ W0, (((w.alloc (.cells #[.int .i64 0] 3)).alloc (.cells #[.slice none 0 0] 40)).alloc (.cells #[.bool false] 4)).alloc (.cells #[.slice none 0 0] 40) = W0 := ⟨_, rfl⟩
  have e1 := ((Boxed.new (w.alloc (.cells #[.int .i64 0] 3)) 40 (.slice none 0 0)).alloc (.cells #[.bool false] 4)).alloc (.cells #[.slice none 0 0] 40)
  have e2 := (Boxed.new ((w.alloc (.cells #[.int .i64 0] 3)).alloc (.cells #[.slice none 0 0] 40)) 4 (.bool false)).alloc (.cells #[.slice none 0 0] 40)
  have e3 := Boxed.new (((w.alloc (.cells #[.int .i64 0] 3)).alloc (.cells #[.slice none 0 0] 40)).alloc (.cells #[.bool false] 4)) 40 (.slice none 0 0)
  have hB0 : Below w.heap.size w W0 := by rw [← hW0]; exact ((((Below.refl _ w).alloc (Nat.le_refl _) _).alloc (by simp) _).alloc (by simp; omega) _).alloc (by simp; omega) _
  have hsz : W0.heap.size = w.heap.size + 4 := by rw [← hW0]; simp
  simp only [World.size_alloc, Nat.add_assoc, Nat.reduceAdd] at e1 e2 e3 ⊢
  rw [hW0] at e1 e2 e3 ⊢
  clear hW0
  have k0 : Boxed W0 B0 3 (.int .i64 0) := (hB0.block _ h0.lt).trans h0
  have k1 : Boxed W0 B1 40 (.slice none 0 0) := (hB0.block _ h1.lt).trans h1
  have k2 : Boxed W0 B2 44 (.func (.func 50) #[] #[.pointer (some ⟨B0, 0, none⟩), .pointer (some ⟨B1, 0, none⟩)]) := (hB0.block _ h2.lt).trans h2
  have HQ : Hid _ := Records1_seq (fun b => b < w.heap.size) 0 0 (by simp) (.slice none 0 0) [] (by simp) B0 B1 B2 W0 (fun b hb => by show b < W0.heap.size; have : b < w.heap.size := hb; omega)
    ⟨k0.cell, k1.cell, h0.lt, h1.lt, ⟨none, 0, rfl⟩, fun h => absurd h (by simp)⟩ k2 h2.lt (fun j => absurd j.2 (by simp)) 8 (by decide)
  have HE : Hid _ := And.intro e1 (And.intro e2 e3)
  have HB0 : Hid (Below w.heap.size w W0) := hB0
  have HS0 : Hid (W0.heap.size = w.heap.size + 4) := hsz
  clear k0 k1 k2 e1 e2 e3 hB0 hsz h0 h1 h2
  refine rangeV rfl (by decide) (gf := 34) (lb := #[.pointer (some ⟨B2, 0, none⟩)]) rfl trivial (enters_of Try.func34 (by kernel_rfl) rfl) HQ.out (fun h k => KpR.trans h k)
    (fun W o o' h1 h2 => KpR.put o' (fun b hb => by have : b < w.heap.size := hb; have := HS0.out; omega) h1 h2 (by omega)) (fun _ => rfl)
    (fun _ W => Below W0.heap.size W0 W) (fun _ _ _ => False)
    (fun s A B hs hl => hs.trans ⟨hl.os, hl.tape, hl.output, hl.size, fun k hk => hl.low k hk (by have := hs.size; omega)⟩)
    (fun c s A B hs hl => hs)
    (Below.refl _ _)
    (fun pre x' a' W => False)
    (fun pre x' a' s A B hs hl => hs) ?assign ?body ?done ?stop
  case assign =>
    rintro l pre ⟨⟨j, hj⟩, u⟩ W K hB hv hK
    exact absurd hj (by simp)
  case body =>
    rintro l pre x' a' W _ h
    exact h.elim
  case stop =>
    rintro D c pre W hD hpre h hK
    exact h.elim
  case done =>
    rintro D ys W hD - hB hK
    have hs0 := HS0.out
    obtain ⟨e1, e2, e3⟩ := HE.out
    have x1 : Boxed W (w.heap.size + 1) 40 (.slice none 0 0) := (Below.block hB _ (by omega)).trans e1
    have x2 : Boxed W (w.heap.size + 2) 4 (.bool false) := (Below.block hB _ (by omega)).trans e2
    have x3 : Boxed W (w.heap.size + 3) 40 (.slice none 0 0) := (Below.block hB _ (by omega)).trans e3
    have c1 := x1.cell
    have f1 := x1.frozen
    have x1' := x1.set (.slice none 0 0)
    have x2' : Boxed (W.setCell ⟨w.heap.size + 1, 0, none⟩ (.slice none 0 0)) (w.heap.size + 2) 4 (.bool false) := (set_blk_other _ _ (by omega)).trans x2
    have c2 := x2'.cell
    have f2 := x2'.frozen
    have c3 := x3.cell
    have HX1 : Hid (Boxed ((W.setCell ⟨w.heap.size + 1, 0, none⟩ (.slice none 0 0)).setCell ⟨w.heap.size + 2, 0, none⟩ (.bool true)) (w.heap.size + 1) 40 (.slice none 0 0)) := (set_blk_other _ _ (by omega)).trans x1'
    have HX2 : Hid (Boxed ((W.setCell ⟨w.heap.size + 1, 0, none⟩ (.slice none 0 0)).setCell ⟨w.heap.size + 2, 0, none⟩ (.bool true)) (w.heap.size + 2) 4 (.bool true)) := x2'.set _
    have HBW : Hid (Below w.heap.size w W) := HB0.out.trans (Below.mono hB HB0.out.size)
    clear hs0 e1 e2 e3 x1 x2 x3 x1' x2' hB
    gi_wp2_with fail
    have hKs : ((W.setCell ⟨w.heap.size + 1, 0, none⟩ (.slice none 0 0)).setCell ⟨w.heap.size + 2, 0, none⟩ (.bool true)).heap[D]? = some (.deferred (some [])) := (set_blk_other _ _ (by have := HS0.out; omega)).trans ((set_blk_other _ _ (by have := HS0.out; omega)).trans hK)
    have hBs : Below w.heap.size w ((W.setCell ⟨w.heap.size + 1, 0, none⟩ (.slice none 0 0)).setCell ⟨w.heap.size + 2, 0, none⟩ (.bool true)) := (HBW.out.setCell (p := ⟨w.heap.size + 1, 0, none⟩) (by simp) _).setCell (p := ⟨w.heap.size + 2, 0, none⟩) (by simp) _
    refine ⟨by simp, .inl ⟨_, _, rfl, run_takeDeferred hKs, ?_⟩⟩
    refine ⟨_, results_told rfl _ _ (w.heap.size + 1) (w.heap.size + 2) (.slice none 0 0) (.bool true) rfl ?_ rfl ?_, rfl, hBs.trans (belowK_b (w := w) (Nat.le_refl _) _ D _ _ (by have := HS0.out; omega) hKs rfl rfl)⟩
    · rw [World.cell?_of_block (a := ⟨w.heap.size + 1, 0, none⟩) (World.putObj_heap_other (by show w.heap.size + 1 ≠ D; have := HS0.out; omega))]
      exact HX1.out.cell
    · rw [World.cell?_of_block (a := ⟨w.heap.size + 2, 0, none⟩) (World.putObj_heap_other (by show w.heap.size + 2 ≠ D; have := HS0.out; omega))]
      exact HX2.out.cell
end Go.Proofs.Ytjinhahfpkcilaa
