/- digest's Mac, for keys of up to sixty-four bytes and up to 2^38 bytes. -/
import Derived.Test.YticpkpphjpgdbaaDigG
import Derived.Test.YticpkpphjpgdbaaInv
namespace Go.Proofs.Yticpkpphjpgdbaa
open Go.RowKit Go.Dig Go.Sha Go.Inv

theorem wp_alloc_row {P : Program} {o : Oper} {a : Act} {w : World} {K : Act → World → Prop} {Q : Exit → Act → World → Prop} (ty : TypeId) (ho : o.op = .alloc ty) (z : Array Value) (hi : (P.info? ty).map (·.zero) = some (some (.agg z)))
    (h : K (a.put o.dst (.pointer (some ⟨w.heap.size, 0, none⟩))) (w.alloc (.cells z ty))) : o.wp P a w K Q := by
  cases hq : P.info? ty with
  | none => simp [hq] at hi
  | some i =>
    simp [hq] at hi
    unfold Oper.wp execOp
    simp [ho, Instr.alloc, zeroValue, typeInfo, hq, hi, newVar, newRow, Value.cells]
    exact h
/-- what holds while the two keys are made, in whatever order -/
structure MacI (w0 : World) (f fa fb : Nat → Int) (li : Nat → Bool) (xs : Nat → Value) (W : World) : Prop where
  bel : Below w0.heap.size w0 W
  d0 : li 0 = true → xs 0 = .agg (row .u8 64 f)
  d1 : li 1 = true → xs 1 = .agg (row .u8 64 fa)
  d2 : li 2 = true → xs 2 = .agg (row .u8 64 f)
  d3 : li 3 = true → xs 3 = .agg (row .u8 64 fb)
  a4 : li 4 = true → ∃ g f4, xs 4 = .pointer (some ⟨g, 0, none⟩) ∧ w0.heap.size ≤ g ∧ W.heap[g]? = some (.cells (row .u8 64 f4) 92 (0, 0)) ∧ (li 6 = true → f4 = fa)
  a5 : li 5 = true → ∃ g f5, xs 5 = .pointer (some ⟨g, 0, none⟩) ∧ w0.heap.size ≤ g ∧ W.heap[g]? = some (.cells (row .u8 64 f5) 92 (0, 0)) ∧ (li 7 = true → f5 = fb)
  ne : li 4 = true → li 5 = true → xs 4 ≠ xs 5
  l6 : li 6 = true → li 4 = true
  l7 : li 7 = true → li 5 = true
section
variable {w0 : World} {f fa fb : Nat → Int} {li : Nat → Bool} {xs : Nat → Value} {W : World}
theorem MacI.grow (h : MacI w0 f fa fb li xs W) {W' : World} (hB : Below W.heap.size W W') : MacI w0 f fa fb li xs W' :=
  ⟨h.bel.trans (hB.mono h.bel.size), h.d0, h.d1, h.d2, h.d3,
   fun e => by obtain ⟨g, f4, a, b, c, d⟩ := h.a4 e; exact ⟨g, f4, a, b, Below.blk hB (lt_blk c) c, d⟩,
   fun e => by obtain ⟨g, f4, a, b, c, d⟩ := h.a5 e; exact ⟨g, f4, a, b, Below.blk hB (lt_blk c) c, d⟩, h.ne, h.l6, h.l7⟩
theorem MacI.start (hB : Below w0.heap.size w0 W) : MacI w0 f fa fb (fun _ => false) xs W := ⟨hB, (fun e => by cases e), (fun e => by cases e), (fun e => by cases e), (fun e => by cases e), (fun e => by cases e), (fun e => by cases e), (fun e => by cases e), (fun e => by cases e), (fun e => by cases e)⟩
theorem MacI.s0 (h : MacI w0 f fa fb li xs W) : MacI w0 f fa fb (upd li 0 true) (upd xs 0 (.agg (row .u8 64 f))) W := ⟨h.bel, fun _ => rfl, h.d1, h.d2, h.d3, h.a4, h.a5, h.ne, h.l6, h.l7⟩
theorem MacI.s1 (h : MacI w0 f fa fb li xs W) : MacI w0 f fa fb (upd li 1 true) (upd xs 1 (.agg (row .u8 64 fa))) W := ⟨h.bel, h.d0, fun _ => rfl, h.d2, h.d3, h.a4, h.a5, h.ne, h.l6, h.l7⟩
theorem MacI.s2 (h : MacI w0 f fa fb li xs W) : MacI w0 f fa fb (upd li 2 true) (upd xs 2 (.agg (row .u8 64 f))) W := ⟨h.bel, h.d0, h.d1, fun _ => rfl, h.d3, h.a4, h.a5, h.ne, h.l6, h.l7⟩
theorem MacI.s3 (h : MacI w0 f fa fb li xs W) : MacI w0 f fa fb (upd li 3 true) (upd xs 3 (.agg (row .u8 64 fb))) W := ⟨h.bel, h.d0, h.d1, h.d2, fun _ => rfl, h.a4, h.a5, h.ne, h.l6, h.l7⟩
theorem MacI.s4 (h : MacI w0 f fa fb li xs W) (h4 : li 4 = false) : MacI w0 f fa fb (upd li 4 true) (upd xs 4 (.pointer (some ⟨W.heap.size, 0, none⟩))) (W.alloc (.cells (row .u8 64 (fun _ => 0)) 92)) := by
  have hg := h.grow (below_alloc W (.cells (row .u8 64 (fun _ => 0)) 92))
  exact ⟨hg.bel, h.d0, h.d1, h.d2, h.d3, fun _ => ⟨W.heap.size, _, rfl, h.bel.size, alloc_blk _ _, fun e => (by have := h.l6 e; rw [h4] at this; cases this)⟩, hg.a5,
    fun _ e5 => by
      obtain ⟨g, f5, a, b, c, d⟩ := h.a5 e5
      show Value.pointer _ ≠ xs 5
      rw [a]; intro e; have := lt_blk c; simp at e <;> omega, fun _ => rfl, h.l7⟩
theorem MacI.s5 (h : MacI w0 f fa fb li xs W) (h5 : li 5 = false) : MacI w0 f fa fb (upd li 5 true) (upd xs 5 (.pointer (some ⟨W.heap.size, 0, none⟩))) (W.alloc (.cells (row .u8 64 (fun _ => 0)) 92)) := by
  have hg := h.grow (below_alloc W (.cells (row .u8 64 (fun _ => 0)) 92))
  exact ⟨hg.bel, h.d0, h.d1, h.d2, h.d3, hg.a4, fun _ => ⟨W.heap.size, _, rfl, h.bel.size, alloc_blk _ _, fun e => (by have := h.l7 e; rw [h5] at this; cases this)⟩,
    fun e4 _ => by
      obtain ⟨g, f5, a, b, c, d⟩ := h.a4 e4
      show xs 4 ≠ Value.pointer _
      rw [a]; intro e; have := lt_blk c; simp at e <;> omega, h.l6, fun _ => rfl⟩
theorem heap_setRow_other (w : World) {g k : Nat} (c : Array Value) (h : k ≠ g) : (w.setRow g c).heap[k]? = w.heap[k]? := by
  simp only [World.setRow, Array.getElem?_modify]; rw [if_neg (Ne.symm h)]
theorem MacI.s6 (h : MacI w0 f fa fb li xs W) {g : Nat} (h4 : li 4 = true) (h5 : li 5 = true) (e4 : xs 4 = .pointer (some ⟨g, 0, none⟩)) : MacI w0 f fa fb (upd li 6 true) (upd xs 6 undef) (W.setRow g (row .u8 64 fa)) := by
  obtain ⟨g', f4, a, b, c, d⟩ := h.a4 h4
  obtain ⟨q, f5, a5, b5, c5, d5⟩ := h.a5 h5
  have hne := h.ne h4 h5
  rw [a] at e4
  obtain rfl : g' = g := by simpa using e4
  have hq : q ≠ g' := fun e => hne (by rw [a, a5, e])
  exact ⟨below_setRow h.bel b _, h.d0, h.d1, h.d2, h.d3, fun _ => ⟨g', fa, a, b, setRow_at c _, fun _ => rfl⟩, fun _ => ⟨q, f5, a5, b5, (heap_setRow_other _ _ hq).trans c5, d5⟩, h.ne, fun _ => h4, h.l7⟩
theorem MacI.s7 (h : MacI w0 f fa fb li xs W) {g : Nat} (h4 : li 4 = true) (h5 : li 5 = true) (e5 : xs 5 = .pointer (some ⟨g, 0, none⟩)) : MacI w0 f fa fb (upd li 7 true) (upd xs 7 undef) (W.setRow g (row .u8 64 fb)) := by
  obtain ⟨q, f4, a, b, c, d⟩ := h.a4 h4
  obtain ⟨g', f5, a5, b5, c5, d5⟩ := h.a5 h5
  have hne := h.ne h4 h5
  rw [a5] at e5
  obtain rfl : g' = g := by simpa using e5
  have hq : q ≠ g' := fun e => hne (by rw [a, a5, e])
  exact ⟨below_setRow h.bel b5 _, h.d0, h.d1, h.d2, h.d3, fun _ => ⟨q, f4, a, b, (heap_setRow_other _ _ hq).trans c, d⟩, fun _ => ⟨g', fb, a5, b5, setRow_at c5 _, fun _ => rfl⟩, h.ne, h.l6, fun _ => h5⟩
end

theorem mac_eq {K P : List Int} (h : K.length ≤ 64) : mac K P = sha (ofF 64 (xorB (keyF K) 92) ++ ofF 32 (sha (ofF 64 (xorB (keyF K) 54) ++ P))) := by
  have hk : keyB K = keyF K := by funext j; unfold keyB keyF; rw [if_neg (by omega)]
  have hp : ∀ x, padK K x = ofF 64 (xorB (keyF K) x) := fun x => by unfold padK ofF xorB; rw [hk]
  unfold mac
  rw [hp, hp]; rfl
/-- what holds at the last statement, in whatever order -/
structure EndI (w w0 : World) (r gb g8 : Nat) (fin : Nat → Int) (li : Nat → Bool) (xs : Nat → Value) (W : World) : Prop where
  pre : li 4 = false → Below w0.heap.size w0 W
  d0 : li 0 = true → xs 0 = .slice (some ⟨gb, 0, none⟩) 64 64
  d1 : li 1 = true → xs 1 = .slice (some ⟨g8, 0, none⟩) 32 32
  d2 : li 2 = true → ∃ rb, xs 2 = .slice (some ⟨rb, 0, none⟩) 2 2 ∧ (li 4 = false → W.heap[rb]? = some (.cells #[.slice (some ⟨gb, 0, none⟩) 64 64, .slice (some ⟨g8, 0, none⟩) 32 32] 22 (0, 0)))
  d3 : li 3 = true → xs 3 = .agg (row .u8 32 fin)
  d4 : li 4 = true → W.heap[r]? = some (.cells (row .u8 32 fin) 30 (0, 0)) ∧ Below w.heap.size w W
  late : li 4 = true → ∀ i, i < 4 → li i = true
section
variable {w w0 : World} {r gb g8 : Nat} {fin : Nat → Int} {li : Nat → Bool} {xs : Nat → Value} {W : World}
theorem EndI.no (h : EndI w w0 r gb g8 fin li xs W) {i : Nat} (hi : i < 4) (e : li i = false) : li 4 = false := by
  cases h4 : li 4 with
  | false => rfl
  | true => rw [h.late h4 i hi] at e; cases e
theorem EndI.start (hB : Below w0.heap.size w0 W) : EndI w w0 r gb g8 fin (fun _ => false) xs W := ⟨fun _ => hB, (fun e => by cases e), (fun e => by cases e), (fun e => by cases e), (fun e => by cases e), (fun e => by cases e), (fun e => by cases e)⟩
theorem EndI.lateS (h : EndI w w0 r gb g8 fin li xs W) (k : Nat) (hk : k < 4) : upd li k true 4 = true → ∀ i, i < 4 → upd li k true i = true := fun e i hi => by
  rw [upd_other _ _ (by omega)] at e
  by_cases hik : i = k
  · subst hik; rw [upd_same]
  · rw [upd_other _ _ hik]; exact h.late e i hi
theorem EndI.s0 (h : EndI w w0 r gb g8 fin li xs W) : EndI w w0 r gb g8 fin (upd li 0 true) (upd xs 0 (.slice (some ⟨gb, 0, none⟩) 64 64)) W := ⟨h.pre, fun _ => rfl, h.d1, h.d2, h.d3, h.d4, h.lateS 0 (by omega)⟩
theorem EndI.s1 (h : EndI w w0 r gb g8 fin li xs W) : EndI w w0 r gb g8 fin (upd li 1 true) (upd xs 1 (.slice (some ⟨g8, 0, none⟩) 32 32)) W := ⟨h.pre, h.d0, fun _ => rfl, h.d2, h.d3, h.d4, h.lateS 1 (by omega)⟩
theorem EndI.s2 (h : EndI w w0 r gb g8 fin li xs W) (e : li 2 = false) : EndI w w0 r gb g8 fin (upd li 2 true) (upd xs 2 (.slice (some ⟨W.heap.size, 0, none⟩) 2 2)) (W.alloc (.cells #[.slice (some ⟨gb, 0, none⟩) 64 64, .slice (some ⟨g8, 0, none⟩) 32 32] 22)) := by
  have h4 := h.no (by omega) e
  exact ⟨fun _ => (h.pre h4).alloc (h.pre h4).size _, h.d0, h.d1, fun _ => ⟨W.heap.size, rfl, fun _ => alloc_blk _ _⟩, h.d3, fun e => (by have e : li 4 = true := e; rw [h4] at e; cases e), h.lateS 2 (by omega)⟩
theorem EndI.s3 (h : EndI w w0 r gb g8 fin li xs W) (e : li 3 = false) {W' : World} (hB : Below W.heap.size W W') : EndI w w0 r gb g8 fin (upd li 3 true) (upd xs 3 (.agg (row .u8 32 fin))) W' := by
  have h4 := h.no (by omega) e
  exact ⟨fun _ => (h.pre h4).trans (hB.mono (h.pre h4).size), h.d0, h.d1, fun e2 => by obtain ⟨rb, a, b⟩ := h.d2 e2; exact ⟨rb, a, fun _ => Below.blk hB (lt_blk (b h4)) (b h4)⟩, fun _ => rfl, fun e => (by have e : li 4 = true := e; rw [h4] at e; cases e), h.lateS 3 (by omega)⟩
theorem EndI.s4 (h : EndI w w0 r gb g8 fin li xs W) (l : ∀ i, i < 4 → li i = true) {W' : World} (hr : W'.heap[r]? = some (.cells (row .u8 32 fin) 30 (0, 0))) (hB : Below w.heap.size w W') : EndI w w0 r gb g8 fin (upd li 4 true) (upd xs 4 undef) W' :=
  ⟨(fun e => by rw [upd_same] at e; cases e), h.d0, h.d1, (fun e2 => by obtain ⟨rb, a, _⟩ := h.d2 e2; exact ⟨rb, a, (fun e => by rw [upd_same] at e; cases e)⟩), h.d3, fun _ => ⟨hr, hB⟩, fun _ i hi => (upd_other li true (show i ≠ 4 by omega)).trans (l i hi)⟩
end

set_option maxRecDepth 10000 in
set_option maxHeartbeats 1000000 in
theorem mac_any (K P : List Int) (b o kc : Nat) (ao : Option Addr) (cap : Nat) (w : World) (hk : ∀ j, j < K.length → w.cell? ⟨b, o + j, none⟩ = some (.int .u8 (K.getD j 0))) (hb : b < w.heap.size) (h64 : K.length ≤ 64) (hl : Lies w ao P) (hc : P.length ≤ cap) (hz : P.length < 274877906944) :
    Calls Try.prog 82 #[.slice (some ⟨b, o, none⟩) K.length kc, .slice ao P.length cap] w fun e w' => e = .returned (.agg (row .u8 32 (mac K P))) ∧ Below w.heap.size w w' := by
  have HZ : Hid ((Try.prog.info? 30).map (·.zero) = some (some (.agg (row .u8 32 (fun _ => 0))))) := zero_hash
  have HZ2 : Hid ((Try.prog.info? 92).map (·.zero) = some (some (.agg (row .u8 64 (fun _ => 0))))) := zero_a64b
  have HL : Hid (Lies w ao P) := hl
  clear hl
  have hsl := slice_hash
  have hsl2 := slice_block
  go_enter Try.func82, Try.ntmps82
  go_wp2_with (first | refine wpList_alloc_row rfl 30 rfl _ HZ.out ?_ | fail)
  refine (fullKey_any K b o kc _ (fun j hj => (World.cell?_alloc_lt _ _ _ hb).trans (hk j hj)) h64 (by simp; omega)).mono ?_
  rintro e w1 ⟨rfl, hB1⟩
  have hBw1 : Below w.heap.size w w1 := (below_alloc _ _).trans (hB1.mono (by simp))
  have hR1 : w1.heap[w.heap.size]? = some (.cells (row .u8 32 (fun _ => 0)) 30 (0, 0)) := Below.blk hB1 (by simp) (alloc_blk _ _)
  go_wp2_with (first | refine wpList_alloc_row rfl 92 rfl _ HZ2.out ?_ | refine wpList_store_blk rfl 92 _ _ rfl w1.heap.size _ rfl rfl _ _ (alloc_blk _ _) (row_info size_a64b _) (by rw [row_size, row_size]) (row_all _ _ _) ?_)
  rw [setRow_new]
  have hR2 : (w1.alloc (.cells (row .u8 64 (keyF K)) 92)).heap[w.heap.size]? = some (.cells (row .u8 32 (fun _ => 0)) 30 (0, 0)) := alloc_blk_old hR1 _
  have hk2 : (w1.alloc (.cells (row .u8 64 (keyF K)) 92)).heap[w1.heap.size]? = some (.cells (row .u8 64 (keyF K)) 92 (0, 0)) := alloc_blk _ _
  have hBw2 : Below w.heap.size w (w1.alloc (.cells (row .u8 64 (keyF K)) 92)) := hBw1.alloc hBw1.size _
  generalize w1.heap.size = q at *
  generalize w1.alloc (.cells (row .u8 64 (keyF K)) 92) = w2 at *
  have Hk2 : Hid (w2.heap[q]? = some (.cells (row .u8 64 (keyF K)) 92 (0, 0))) := hk2
  have HR2 : Hid (w2.heap[w.heap.size]? = some (.cells (row .u8 32 (fun _ => 0)) 30 (0, 0))) := hR2
  clear hk2 hR2 hR1 hB1 hBw1 hk
  simp only [Act.put, List.setIfInBounds_toArray, List.set_cons_succ, List.set_cons_zero]
  refine wp_region_steps (by kernel_rfl) (by kernel_rfl) (fun xs => { tmps := (.slice (some ⟨b, o, none⟩) K.length kc :: .slice ao P.length cap :: undef :: undef :: .pointer (some ⟨w.heap.size, 0, none⟩) :: .pointer (some ⟨q, 0, none⟩) :: xs 4 :: xs 5 :: undef :: .slice (some ⟨b, o, none⟩) K.length kc :: .agg (row .u8 64 (keyF K)) :: xs 0 :: xs 1 :: xs 2 :: xs 3 :: undef :: undef :: undef :: undef :: undef :: undef :: undef :: undef :: []).toArray, defers := [] })
    (MacI w2 (keyF K) (xorB (keyF K) 54) (xorB (keyF K) 92)) (fun _ => undef) (by repeat (first | exact trivial | refine ⟨fun _ _ => rfl, ?_⟩))
    (MacI.start (Below.refl _ _).drew)
    ⟨?_, ?_, ?_, ?_, ?_, ?_, ?_, ?_, trivial⟩ ?_
  · intro li xs W hI hli hp K' hK
    rw [if_pos (wanted_none rfl _)]
    exact wp_load_row _ _ rfl q rfl 92 _ (0, 0) (.array 64 5) (Below.blk hI.bel (lt_blk Hk2.out) Hk2.out) (by kernel_rfl) rfl (row_info size_a64b _) (hK _ _ hI.s0)
  · intro li xs W hI hli hp K' hK
    have h0 : xs 0 = _ := hI.d0 (hp.1 rfl)
    rw [if_pos (wanted_none rfl _)]
    simp only [h0] at hK ⊢
    go_simp
    refine (padKey_any (keyF K) 54 W).mono ?_
    rintro e w' ⟨rfl, hB'⟩
    exact hK _ _ ((hI.grow hB').s1)
  · intro li xs W hI hli hp K' hK
    rw [if_pos (wanted_none rfl _)]
    exact wp_load_row _ _ rfl q rfl 92 _ (0, 0) (.array 64 5) (Below.blk hI.bel (lt_blk Hk2.out) Hk2.out) (by kernel_rfl) rfl (row_info size_a64b _) (hK _ _ hI.s2)
  · intro li xs W hI hli hp K' hK
    have h0 : xs 2 = _ := hI.d2 (hp.1 rfl)
    rw [if_pos (wanted_none rfl _)]
    simp only [h0] at hK ⊢
    go_simp
    refine (padKey_any (keyF K) 92 W).mono ?_
    rintro e w' ⟨rfl, hB'⟩
    exact hK _ _ ((hI.grow hB').s3)
  · intro li xs W hI hli hp K' hK
    rw [if_pos (wanted_none rfl _)]
    exact wp_alloc_row _ rfl _ HZ2.out (hK _ _ (hI.s4 hli))
  · intro li xs W hI hli hp K' hK
    rw [if_pos (wanted_none rfl _)]
    exact wp_alloc_row _ rfl _ HZ2.out (hK _ _ (hI.s5 hli))
  · intro li xs W hI hli hp K' hK
    have l4 : li 4 = true := hp.1 rfl
    have l5 : li 5 = true := hp.2.2.2.2.2.2.2.2.1 rfl
    have h1 : xs 1 = _ := hI.d1 (hp.2.1 rfl)
    obtain ⟨g, f4, h4, hg, hbk, _⟩ := hI.a4 l4
    rw [if_pos (wanted_none rfl _)]
    exact wp_store_row _ _ _ rfl g (row .u8 64 (xorB (keyF K) 54)) h4 h1 _ _ hbk (row_info size_a64b _) (by rw [row_size, row_size]) (row_all _ _ _) (hK _ _ (hI.s6 l4 l5 h4))
  · intro li xs W hI hli hp K' hK
    have l5 : li 5 = true := hp.1 rfl
    have l4 : li 4 = true := hp.2.2.2.2.2.2.2.1 rfl
    have h3 : xs 3 = _ := hI.d3 (hp.2.1 rfl)
    obtain ⟨g, f5, h5, hg, hbk, _⟩ := hI.a5 l5
    rw [if_pos (wanted_none rfl _)]
    exact wp_store_row _ _ _ rfl g (row .u8 64 (xorB (keyF K) 92)) h5 h3 _ _ hbk (row_info size_a64b _) (by rw [row_size, row_size]) (row_all _ _ _) (hK _ _ (hI.s7 l4 l5 h5))
  · intro li xs W hI hall
    obtain ⟨ga, fa, h4, hga, hba, ea⟩ := hI.a4 (hall 4 (by simp))
    obtain ⟨gb, fb, h5, hgb, hbb, eb⟩ := hI.a5 (hall 5 (by simp))
    obtain rfl := ea (hall 6 (by simp))
    obtain rfl := eb (hall 7 (by simp))
    have h0 := hI.d0 (hall 0 (by simp))
    have h1 := hI.d1 (hall 1 (by simp))
    have h2 := hI.d2 (hall 2 (by simp))
    have h3 := hI.d3 (hall 3 (by simp))
    have hBW := hBw2.trans (hI.bel.mono hBw2.size)
    have HRW : Hid (W.heap[w.heap.size]? = some (.cells (row .u8 32 (fun _ => 0)) 30 (0, 0))) := Below.blk hI.bel (lt_blk HR2.out) HR2.out
    have HA : Hid (W.heap[ga]? = some (.cells (row .u8 64 (xorB (keyF K) 54)) 92 (0, 0))) := hba
    have HB : Hid (W.heap[gb]? = some (.cells (row .u8 64 (xorB (keyF K) 92)) 92 (0, 0))) := hbb
    simp only [h0, h1, h2, h3, h4, h5]
    clear h0 h1 h2 h3 h4 h5 hI hall hba hbb Hk2 HR2
    go_wp2_with fail
    refine (sumRows_two (some ⟨ga, 0, none⟩) ao 64 P.length 64 cap (ofF 64 (xorB (keyF K) 54)) P (ofF_length _ _).symm rfl _ _ _ _ _ (alloc_blk _ _) (lies_row (alloc_blk_old HA.out _)) (HL.out.below (hBW.alloc hBW.size _) (Nat.le_refl _)) (Nat.le_refl _) hc (by rw [ofF_length]; omega)).mono ?_
    rintro e w3 ⟨rfl, hB3⟩
    have hB3' : Below W.heap.size W w3 := (below_alloc _ _).trans (hB3.mono (by simp))
    have HR3 : Hid (w3.heap[w.heap.size]? = some (.cells (row .u8 32 (fun _ => 0)) 30 (0, 0))) := Below.blk hB3' (lt_blk HRW.out) HRW.out
    have HB3 : Hid (w3.heap[gb]? = some (.cells (row .u8 64 (xorB (keyF K) 92)) 92 (0, 0))) := Below.blk hB3' (lt_blk HB.out) HB.out
    have hBw3 : Below w.heap.size w w3 := hBW.trans (hB3'.mono hBW.size)
    obtain ⟨hsh, Hsh⟩ : ∃ h, Hid (h = sha (ofF 64 (xorB (keyF K) 54) ++ P)) := ⟨_, rfl⟩
    rw [show sha (ofF 64 (xorB (keyF K) 54) ++ P) = hsh from Hsh.out.symm]
    clear hB3 hB3' hBW HRW HA HB
    go_wp2_with (first | refine wpList_alloc_row rfl 30 rfl _ HZ.out ?_ | refine wpList_store_blk rfl 30 _ _ rfl w3.heap.size _ rfl rfl _ _ (alloc_blk _ _) (row_info size_hash _) (by rw [row_size, row_size]) (row_all _ _ _) ?_)
    rw [setRow_new]
    have hR4 : (w3.alloc (.cells (row .u8 32 hsh) 30)).heap[w.heap.size]? = some (.cells (row .u8 32 (fun _ => 0)) 30 (0, 0)) := alloc_blk_old HR3.out _
    have h84 : (w3.alloc (.cells (row .u8 32 hsh) 30)).heap[w3.heap.size]? = some (.cells (row .u8 32 hsh) 30 (0, 0)) := alloc_blk _ _
    have hb4 : (w3.alloc (.cells (row .u8 32 hsh) 30)).heap[gb]? = some (.cells (row .u8 64 (xorB (keyF K) 92)) 92 (0, 0)) := alloc_blk_old HB3.out _
    have hBw4 : Below w.heap.size w (w3.alloc (.cells (row .u8 32 hsh) 30)) := hBw3.alloc hBw3.size _
    generalize w3.heap.size = g8 at *
    generalize w3.alloc (.cells (row .u8 32 hsh) 30) = w4 at *
    have HR4 : Hid (w4.heap[w.heap.size]? = some (.cells (row .u8 32 (fun _ => 0)) 30 (0, 0))) := hR4
    have H84 : Hid (w4.heap[g8]? = some (.cells (row .u8 32 hsh) 30 (0, 0))) := h84
    have HB4 : Hid (w4.heap[gb]? = some (.cells (row .u8 64 (xorB (keyF K) 92)) 92 (0, 0))) := hb4
    clear hR4 h84 hb4 HR3 HB3 hBw3
    simp only [Act.put, List.setIfInBounds_toArray, List.set_cons_succ, List.set_cons_zero]
    obtain ⟨fin, Hfin⟩ : ∃ h, Hid (h = sha (ofF 64 (xorB (keyF K) 92) ++ ofF 32 hsh)) := ⟨_, rfl⟩
    refine wp_region_steps (by kernel_rfl) (by kernel_rfl) (fun xs => { tmps := (.slice (some ⟨b, o, none⟩) K.length kc :: .slice ao P.length cap :: undef :: undef :: .pointer (some ⟨w.heap.size, 0, none⟩) :: .pointer (some ⟨q, 0, none⟩) :: .pointer (some ⟨ga, 0, none⟩) :: .pointer (some ⟨gb, 0, none⟩) :: .pointer (some ⟨g8, 0, none⟩) :: .slice (some ⟨b, o, none⟩) K.length kc :: .agg (row .u8 64 (keyF K)) :: .agg (row .u8 64 (keyF K)) :: .agg (row .u8 64 (xorB (keyF K) 54)) :: .agg (row .u8 64 (keyF K)) :: .agg (row .u8 64 (xorB (keyF K) 92)) :: .slice (some ⟨ga, 0, none⟩) 64 64 :: .slice ao P.length cap :: .slice (some ⟨W.heap.size, 0, none⟩) 2 2 :: .agg (row .u8 32 hsh) :: xs 0 :: xs 1 :: xs 2 :: xs 3 :: []).toArray, defers := [] })
      (EndI w w4 w.heap.size gb g8 fin) (fun _ => undef) (by repeat (first | exact trivial | refine ⟨fun _ _ => rfl, ?_⟩)) (EndI.start (Below.refl _ _).drew) ⟨?_, ?_, ?_, ?_, ?_, trivial⟩ ?_
    · intro li xs W hI hli hp K' hK
      rw [if_pos (wanted_none rfl _)]
      go_simp
      exact hK _ _ hI.s0
    · intro li xs W hI hli hp K' hK
      rw [if_pos (wanted_none rfl _)]
      go_simp
      exact hK _ _ hI.s1
    · intro li xs W hI hli hp K' hK
      have h0 : xs 0 = _ := hI.d0 (hp.1 rfl)
      have h1 : xs 1 = _ := hI.d1 (hp.2.1 rfl)
      rw [if_pos (wanted_none rfl _)]
      simp only [h0, h1] at hK ⊢
      go_simp
      exact hK _ _ (hI.s2 hli)
    · intro li xs W hI hli hp K' hK
      obtain ⟨rb, h2, hb2⟩ := hI.d2 (hp.1 rfl)
      have h4 := hI.no (by omega) hli
      have hBx := hI.pre h4
      have hb2' := hb2 h4
      rw [if_pos (wanted_none rfl _)]
      simp only [h2] at hK ⊢
      clear hb2
      go_simp
      refine (sumRows_two (some ⟨gb, 0, none⟩) (some ⟨g8, 0, none⟩) 64 32 64 32 (ofF 64 (xorB (keyF K) 92)) (ofF 32 hsh) (ofF_length _ _).symm (ofF_length _ _).symm rb 2 W _ _ hb2' (lies_row (Below.blk hBx (lt_blk HB4.out) HB4.out)) (lies_row (Below.blk hBx (lt_blk H84.out) H84.out)) (Nat.le_refl _) (Nat.le_refl _) (by rw [ofF_length, ofF_length]; omega)).mono ?_
      rintro e w' ⟨rfl, hB'⟩
      rw [show sha (ofF 64 (xorB (keyF K) 92) ++ ofF 32 hsh) = fin from Hfin.out.symm]
      exact hK _ _ (hI.s3 hli hB')
    · intro li xs W hI hli hp K' hK
      have l3 : li 3 = true := hp.1 rfl
      have l0 : li 0 = true := hp.2.2.1 rfl
      have l1 : li 1 = true := hp.2.2.2.1 rfl
      have l2 : li 2 = true := hp.2.2.2.2.1 rfl
      have h3 : xs 3 = _ := hI.d3 l3
      have hBx := hI.pre hli
      have hrr := Below.blk hBx (lt_blk HR4.out) HR4.out
      rw [if_pos (wanted_none rfl _)]
      refine wp_store_row _ _ _ rfl w.heap.size (row .u8 32 fin) rfl h3 _ _ hrr (row_info size_hash _) (by rw [row_size, row_size]) (row_all _ _ _) (hK _ _ (hI.s4 (fun i hi => ?_) (setRow_at hrr _) (below_setRow (hBw4.trans (hBx.mono hBw4.size)) (Nat.le_refl _) _)))
      match i, hi with
      | 0, _ => exact l0
      | 1, _ => exact l1
      | 2, _ => exact l2
      | 3, _ => exact l3
    · intro li xs W hI hall
      obtain ⟨hfr, hfB⟩ := hI.d4 (hall 4 (by simp))
      have HF : Hid (W.heap[w.heap.size]? = some (.cells (row .u8 32 fin) 30 (0, 0))) := hfr
      clear hfr hI hall
      go_wp2_with fail
      refine bodyPost_ret (v := .agg (row .u8 32 (mac K P))) ?_ rfl ⟨rfl, hfB⟩
      rw [mac_eq h64, ← Hsh.out, ← Hfin.out]
      exact results_cell_row rfl _ _ w.heap.size _ _ _ (.array 32 5) rfl HF.out (by kernel_rfl) rfl (row_info size_hash _)
end Go.Proofs.Yticpkpphjpgdbaa
