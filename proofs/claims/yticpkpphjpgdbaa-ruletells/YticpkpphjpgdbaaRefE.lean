/- The reference's New. For every number of nodes and every seed. -/
import Derived.Test.YticpkpphjpgdbaaWireC
import Derived.Test.YticpkpphjpgdbaaRefD
import Derived.Test.YticpkpphjpgdbaaSealB
namespace Go.Proofs.Yticpkpphjpgdbaa
open Go.RowKit Go.Dig Go.Sha Go.Inv
set_option linter.unusedVariables false

/-- the first n keys, as cells -/
def keyCells (seed : Nat → Int) (n : Nat) : List Value := (ofF (32 * n) (keysF seed)).map (Value.int .u8)
theorem keyCells_succ (seed : Nat → Int) (k : Nat) : keyCells seed (k + 1) = keyCells seed k ++ (ofF 32 (keyAt seed k)).map (Value.int .u8) := by
  unfold keyCells
  rw [← List.map_append]
  congr 1
  unfold ofF
  apply List.ext_getElem?
  intro j
  by_cases h0 : j < 32 * k
  · rw [List.getElem?_append_left (by simp; omega)]
    simp [h0, show j < 32 * (k + 1) by omega]
  · rw [List.getElem?_append_right (by simp; omega)]
    by_cases h1 : j < 32 * (k + 1)
    · have h2 : j - 32 * k < 32 := by omega
      simp only [List.length_map, List.length_range, List.getElem?_map, List.getElem?_range h1, List.getElem?_range h2, Option.map_some]
      unfold keysF
      rw [show j / 32 = k by omega, show j % 32 = j - 32 * k by omega]
    · rw [List.getElem?_eq_none (by simp; omega), List.getElem?_eq_none (by simp; omega)]
/-- the reference's ring of n nodes lies at rg -/
def RRing (w : World) (rg : Nat) (seed : Nat → Int) (n : Nat) : Prop :=
  ∃ g cap, w.heap[rg]? = some (.cells #[.slice (some ⟨g, 0, none⟩) n cap] 62 (0, 0)) ∧ (∀ j, j < 32 * n → w.cell? ⟨g, j, none⟩ = some (.int .u8 (keysF seed j))) ∧ 0 < n ∧ n ≤ 10 ∧ g < w.heap.size
theorem RRing.below {w w' : World} {rg n : Nat} {seed : Nat → Int} (h : RRing w rg seed n) (hB : Below w.heap.size w w') : RRing w' rg seed n := by
  obtain ⟨g, cap, a, b, c, d, e⟩ := h
  exact ⟨g, cap, Below.blk hB (lt_blk a) a, fun j hj => (hB.cell e).trans (b j hj), c, d, Nat.lt_of_lt_of_le e hB.size⟩

/-- what holds while a key is added, in whatever order -/
structure NewI (w0 : World) (base rg : Nat) (seed : Nat → Int) (k : Nat) (v : Value) (D : Nat → Value → Prop) (li : Nat → Bool) (xs : Nat → Value) (W : World) : Prop where
  det : ∀ i, li i = true → D i (xs i)
  pre : li 11 = false → Below w0.heap.size w0 W
  s8 : li 8 = true → ∃ g, xs 8 = .slice (some ⟨g, 0, none⟩) 1 1 ∧ (li 11 = false → W.heap[g]? = some (.cells #[.int .u8 (k : Int)] 5 (0, 0)))
  s10 : li 10 = true → ∃ g, xs 10 = .slice (some ⟨g, 0, none⟩) 1 1 ∧ (li 11 = false → W.heap[g]? = some (.cells (row .u8 32 (keyAt seed k)) 30 (0, 0)))
  post : li 11 = true → li 14 = false → W.ownsRow base 30 32 (xs 11) (k + 1) (keyCells seed (k + 1)) ∧ Below base w0 W
  fin : li 14 = true → ∃ v', W.heap[rg]? = some (.cells #[v'] 62 (0, 0)) ∧ W.ownsRow base 30 32 v' (k + 1) (keyCells seed (k + 1)) ∧ Below rg w0 W
  c9 : li 9 = true → li 5 = true ∧ li 8 = true
  l11 : li 11 = true → li 4 = true ∧ li 9 = true ∧ li 10 = true
  l14 : li 14 = true → li 8 = true ∧ li 9 = true ∧ li 10 = true ∧ li 11 = true
section
variable {w0 : World} {base rg : Nat} {seed : Nat → Int} {k : Nat} {v : Value} {D : Nat → Value → Prop} {li : Nat → Bool} {xs : Nat → Value} {W : World}
theorem NewI.n14 (h : NewI w0 base rg seed k v D li xs W) (e : li 8 = false ∨ li 9 = false ∨ li 10 = false ∨ li 11 = false) : li 14 = false := by
  cases h4 : li 14 with
  | false => rfl
  | true => obtain ⟨a, b, c, d⟩ := h.l14 h4; rw [a, b, c, d] at e; simp at e
theorem NewI.n11 (h : NewI w0 base rg seed k v D li xs W) (e : li 4 = false ∨ li 5 = false ∨ li 8 = false ∨ li 9 = false ∨ li 10 = false) : li 11 = false := by
  cases h4 : li 11 with
  | false => rfl
  | true => obtain ⟨a, b, c⟩ := h.l11 h4; obtain ⟨d, f⟩ := h.c9 b; rw [a, b, c, d, f] at e; simp at e
theorem NewI.start (hB : Below w0.heap.size w0 W) : NewI w0 base rg seed k v D (fun _ => false) xs W := ⟨(fun _ e => by cases e), fun _ => hB, (fun e => by cases e), (fun e => by cases e), (fun e => by cases e), (fun e => by cases e), (fun e => by cases e), (fun e => by cases e), (fun e => by cases e)⟩
theorem NewI.detS (h : NewI w0 base rg seed k v D li xs W) (i : Nat) (x : Value) (hf : D i x) : ∀ j, upd li i true j = true → D j (upd xs i x j) := fun j hl => by
  by_cases hji : j = i
  · subst hji; rw [upd_same]; exact hf
  · rw [upd_other _ _ hji] at hl ⊢; exact h.det j hl
theorem upd_mono {li : Nat → Bool} {i j : Nat} (h : li j = true) : upd li i true j = true := by
  by_cases e : j = i
  · subst e; rw [upd_same]
  · rw [upd_other _ _ e]; exact h
theorem NewI.c9S (h : NewI w0 base rg seed k v D li xs W) (i : Nat) (hi : i ≠ 9) : upd li i true 9 = true → upd li i true 5 = true ∧ upd li i true 8 = true := fun e => by
  rw [upd_other _ _ (Ne.symm hi)] at e
  exact ⟨upd_mono (h.c9 e).1, upd_mono (h.c9 e).2⟩
theorem NewI.l11S (h : NewI w0 base rg seed k v D li xs W) (i : Nat) (hi : i ≠ 11) : upd li i true 11 = true → upd li i true 4 = true ∧ upd li i true 9 = true ∧ upd li i true 10 = true := fun e => by
  rw [upd_other _ _ (Ne.symm hi)] at e
  exact ⟨upd_mono (h.l11 e).1, upd_mono (h.l11 e).2.1, upd_mono (h.l11 e).2.2⟩
theorem NewI.l14S (h : NewI w0 base rg seed k v D li xs W) (i : Nat) (hi : i ≠ 14) : upd li i true 14 = true → upd li i true 8 = true ∧ upd li i true 9 = true ∧ upd li i true 10 = true ∧ upd li i true 11 = true := fun e => by
  rw [upd_other _ _ (Ne.symm hi)] at e
  exact ⟨upd_mono (h.l14 e).1, upd_mono (h.l14 e).2.1, upd_mono (h.l14 e).2.2.1, upd_mono (h.l14 e).2.2.2⟩
theorem NewI.mark (h : NewI w0 base rg seed k v D li xs W) (i : Nat) (x : Value) (hf : D i x) (hi : i ≠ 8 ∧ i ≠ 10 ∧ i ≠ 11 ∧ i ≠ 14) (h9 : i = 9 → li 5 = true ∧ li 8 = true) : NewI w0 base rg seed k v D (upd li i true) (upd xs i x) W := by
  have e8 : upd li i true 8 = li 8 := upd_other _ _ (Ne.symm hi.1)
  have e10 : upd li i true 10 = li 10 := upd_other _ _ (Ne.symm hi.2.1)
  have e11 : upd li i true 11 = li 11 := upd_other _ _ (Ne.symm hi.2.2.1)
  have e14 : upd li i true 14 = li 14 := upd_other _ _ (Ne.symm hi.2.2.2)
  have f8 : upd xs i x 8 = xs 8 := upd_other _ _ (Ne.symm hi.1)
  have f10 : upd xs i x 10 = xs 10 := upd_other _ _ (Ne.symm hi.2.1)
  have f11 : upd xs i x 11 = xs 11 := upd_other _ _ (Ne.symm hi.2.2.1)
  exact ⟨h.detS i x hf, by rw [e11]; exact h.pre, by rw [e8, e11, f8]; exact h.s8, by rw [e10, e11, f10]; exact h.s10, by rw [e11, e14, f11]; exact h.post, by rw [e14]; exact h.fin, (fun e => by
    by_cases e9 : i = 9
    · exact ⟨upd_mono (h9 e9).1, upd_mono (h9 e9).2⟩
    · exact h.c9S i e9 e), h.l11S i hi.2.2.1, h.l14S i hi.2.2.2⟩
theorem NewI.grow (h : NewI w0 base rg seed k v D li xs W) (h11 : li 11 = false) (h14 : li 14 = false) {W' : World} (hB : Below W.heap.size W W') : NewI w0 base rg seed k v D li xs W' :=
  ⟨h.det, fun _ => (h.pre h11).trans (hB.mono (h.pre h11).size), (fun e => by obtain ⟨g, a, b⟩ := h.s8 e; exact ⟨g, a, fun _ => Below.blk hB (lt_blk (b h11)) (b h11)⟩), (fun e => by obtain ⟨g, a, b⟩ := h.s10 e; exact ⟨g, a, fun _ => Below.blk hB (lt_blk (b h11)) (b h11)⟩), (fun e => by rw [h11] at e; cases e), (fun e => by rw [h14] at e; cases e), h.c9, h.l11, h.l14⟩
theorem NewI.m8 (h : NewI w0 base rg seed k v D li xs W) (h8 : li 8 = false) (hf : ∀ x, D 8 x) : NewI w0 base rg seed k v D (upd li 8 true) (upd xs 8 (.slice (some ⟨W.heap.size, 0, none⟩) 1 1)) (W.alloc (.cells #[.int .u8 (k : Int)] 5)) := by
  have h11 := h.n11 (by simp [h8])
  have h14 := h.n14 (by simp [h8])
  have g := h.grow h11 h14 (below_alloc W (.cells #[.int .u8 (k : Int)] 5))
  exact ⟨h.detS 8 _ (hf _), g.pre, fun _ => ⟨W.heap.size, rfl, fun _ => alloc_blk _ _⟩, g.s10, g.post, g.fin, h.c9S 8 (by omega), h.l11S 8 (by omega), h.l14S 8 (by omega)⟩
theorem NewI.m10 (h : NewI w0 base rg seed k v D li xs W) (h10 : li 10 = false) (hf : ∀ x, D 10 x) : NewI w0 base rg seed k v D (upd li 10 true) (upd xs 10 (.slice (some ⟨W.heap.size, 0, none⟩) 1 1)) (W.alloc (.cells (row .u8 32 (keyAt seed k)) 30)) := by
  have h11 := h.n11 (by simp [h10])
  have h14 := h.n14 (by simp [h10])
  have g := h.grow h11 h14 (below_alloc W (.cells (row .u8 32 (keyAt seed k)) 30))
  exact ⟨h.detS 10 _ (hf _), g.pre, g.s8, fun _ => ⟨W.heap.size, rfl, fun _ => alloc_blk _ _⟩, g.post, g.fin, h.c9S 10 (by omega), h.l11S 10 (by omega), h.l14S 10 (by omega)⟩
theorem NewI.m11 (h : NewI w0 base rg seed k v D li xs W) (h11 : li 11 = false) (hall : li 4 = true ∧ li 9 = true ∧ li 10 = true) (hf : ∀ x, D 11 x) {v' : Value} {W' : World} (hown : W'.ownsRow base 30 32 v' (k + 1) (keyCells seed (k + 1))) (hB : Below base w0 W') : NewI w0 base rg seed k v D (upd li 11 true) (upd xs 11 v') W' := by
  have h14 := h.n14 (by simp [h11])
  exact ⟨h.detS 11 _ (hf _), (fun e => by rw [upd_same] at e; cases e), (fun e => by obtain ⟨g, a, b⟩ := h.s8 e; exact ⟨g, a, (fun e => by rw [upd_same] at e; cases e)⟩), (fun e => by obtain ⟨g, a, b⟩ := h.s10 e; exact ⟨g, a, (fun e => by rw [upd_same] at e; cases e)⟩), fun _ _ => ⟨hown, hB⟩, (fun e => by have e : li 14 = true := e; rw [h14] at e; cases e), h.c9S 11 (by omega), fun _ => ⟨upd_mono hall.1, upd_mono hall.2.1, upd_mono hall.2.2⟩, (fun e => by have e : li 14 = true := e; rw [h14] at e; cases e)⟩
theorem NewI.m14 (h : NewI w0 base rg seed k v D li xs W) (hall : li 8 = true ∧ li 9 = true ∧ li 10 = true ∧ li 11 = true) (hf : ∀ x, D 14 x) {W' : World} (hfin : ∃ v', W'.heap[rg]? = some (.cells #[v'] 62 (0, 0)) ∧ W'.ownsRow base 30 32 v' (k + 1) (keyCells seed (k + 1)) ∧ Below rg w0 W') (x : Value) : NewI w0 base rg seed k v D (upd li 14 true) (upd xs 14 x) W' := by
  have h11 := hall.2.2.2
  exact ⟨h.detS 14 _ (hf _), (fun e => by have e : li 11 = false := e; rw [h11] at e; cases e), (fun e => by obtain ⟨g, a, b⟩ := h.s8 e; exact ⟨g, a, (fun e => by have e : li 11 = false := e; rw [h11] at e; cases e)⟩), (fun e => by obtain ⟨g, a, b⟩ := h.s10 e; exact ⟨g, a, (fun e => by have e : li 11 = false := e; rw [h11] at e; cases e)⟩), (fun _ e => by rw [upd_same] at e; cases e), fun _ => hfin, h.c9S 14 (by omega), h.l11S 14 (by omega), fun _ => ⟨upd_mono hall.1, upd_mono hall.2.1, upd_mono hall.2.2.1, upd_mono hall.2.2.2⟩⟩
end
theorem run_buildOne (f : Nat → Int) (w : World) : (Instr.buildSlice 57 1 #[(0, .agg (row .u8 32 f))]).run Try.prog w = .ok (.slice (some ⟨w.heap.size, 0, none⟩) 1 1) (w.alloc (.cells (row .u8 32 f) 30)) := by kernel_rfl
theorem wp_buildOne {o : Oper} {a : Act} {w : World} {K : Act → World → Prop} {Q : Exit → Act → World → Prop} (x : Operand) (ho : o.op = .buildSlice 57 1 #[(0, x)]) (f : Nat → Int) (hx : a.eval x = .agg (row .u8 32 f))
    (h : K (a.put o.dst (.slice (some ⟨w.heap.size, 0, none⟩) 1 1)) (w.alloc (.cells (row .u8 32 f) 30))) : o.wp Try.prog a w K Q := by
  unfold Oper.wp execOp
  simp [ho, hx, run_buildOne, Result.andThen]
  exact h
theorem wrap8 (k : Nat) (h : k ≤ 10) : IntKind.u8.wrap (k : Int) = (k : Int) := by rw [IntKind.wrap_u8']; omega
theorem own_below {w w' : World} {base : Nat} {e : TypeId} {v : Value} {n : Nat} {xs : List Value} (h : w.ownsRow base e 32 v n xs) (hB : Below w.heap.size w w') : w'.ownsRow base e 32 v n xs :=
  World.ownsRow.kept h (row := none) ⟨hB.os, hB.tape, hB.output, hB.size, fun k hk _ => hB.block k hk⟩ (by
    cases hv : v.ownBlock with
    | none => exact .inl rfl
    | some q => exact .inr (by simp))

theorem own_form32 {w : World} {base : Nat} {e : TypeId} {v : Value} {n : Nat} {xs : List Value} (h : w.ownsRow base e 32 v n xs) (hn : 0 < n) : ∃ g cap, v = .slice (some ⟨g, 0, none⟩) n cap ∧ base ≤ g ∧ n ≤ cap ∧ g < w.heap.size := by
  rcases h.2 with ⟨_, h0⟩ | ⟨g, cap, cur, hv, hb, hh, hc, _⟩
  · omega
  · exact ⟨g, cap, hv, hb, hc, lt_blk hh⟩
set_option maxRecDepth 10000 in
set_option maxHeartbeats 2000000 in
theorem rNew_few (nodes : Int) (seed : Nat → Int) (n : Nat) (w : World) (h0 : -9223372036854775808 ≤ nodes) (h1 : nodes ≤ 9223372036854775807) (hq : nodes < 1) :
    Calls Try.prog 11 #[.int .i64 nodes, .agg (row .u8 32 seed)] w fun e w' => ∃ rg, e = .returned (.pointer (some ⟨rg, 0, none⟩)) ∧ w.heap.size ≤ rg ∧ RRing w' rg seed (1) ∧ Below w.heap.size w w' := by
  have hA : ((w.alloc (.cells (row .u8 32 seed) 30)).alloc (.cells #[.slice none 0 0] 62)).heap[w.heap.size]? = some (.cells (row .u8 32 seed) 30 (0, 0)) := alloc_blk_old (alloc_blk _ _) _
  have hR : ((w.alloc (.cells (row .u8 32 seed) 30)).alloc (.cells #[.slice none 0 0] 62)).heap[w.heap.size + 1]? = some (.cells #[.slice none 0 0] 62 (0, 0)) := by
    have := alloc_blk (w.alloc (.cells (row .u8 32 seed) 30)) (.cells #[.slice none 0 0] 62)
    rw [World.size_alloc] at this; exact this
  have hB0 : Below w.heap.size w ((w.alloc (.cells (row .u8 32 seed) 30)).alloc (.cells #[.slice none 0 0] 62)) := (below_alloc _ _).alloc (by simp) _
  have hs0 : w.heap.size + 2 ≤ ((w.alloc (.cells (row .u8 32 seed) 30)).alloc (.cells #[.slice none 0 0] 62)).heap.size := by simp
  have HA : Hid (((w.alloc (.cells (row .u8 32 seed) 30)).alloc (.cells #[.slice none 0 0] 62)).heap[w.heap.size]? = some (.cells (row .u8 32 seed) 30 (0, 0))) := hA
  have HR : Hid (((w.alloc (.cells (row .u8 32 seed) 30)).alloc (.cells #[.slice none 0 0] 62)).heap[w.heap.size + 1]? = some (.cells #[.slice none 0 0] 62 (0, 0))) := hR
  clear hA hR
  obtain ⟨i2, hi2, hy0, hy1, hy2⟩ := info_parts info_hash
  have HI : Hid (Try.prog.info? 30 = some i2) := hi2
  clear hi2
  go_enter Try.func11, Try.ntmps11
  go_wp2_with (refine wpList_box_row rfl 30 _ rfl _ rfl ?_)
  generalize (w.alloc (.cells (row .u8 32 seed) 30)).alloc (.cells #[.slice none 0 0] 62) = w1 at *
  go_loopw [6] (fun i wr => ∃ (k : Nat) (v : Value), k ≤ 1 ∧ i = .int .i64 (k : Int) ∧ Below w.heap.size w wr ∧ Hid (wr.heap[w.heap.size]? = some (.cells (row .u8 32 seed) 30 (0, 0))) ∧ Hid (wr.heap[w.heap.size + 1]? = some (.cells #[v] 62 (0, 0))) ∧ Hid (wr.ownsRow (w.heap.size + 2) 30 32 v k (keyCells seed k)) ∧ w.heap.size + 2 ≤ wr.heap.size) (fun i _ => 1 - (intOf i).toNat)
  case atStart => exact ⟨0, _, by omega, rfl, hB0, HA, HR, World.ownsRow_nil _ _ _ _, hs0⟩
  case round =>
    clear hB0 HA HR hs0
    obtain ⟨k, v, hk, rfl, hB, HA, HR, HO, hs⟩ := hrel
    by_cases hlt : k < 1
    · go_wp2_with fail
      generalize Value.bool (decide ((k : Int) < 1)) = dk
      refine wp_region_steps (by kernel_rfl) (by kernel_rfl) (fun xs => { tmps := (.int .i64 nodes :: .agg (row .u8 32 seed) :: undef :: .pointer (some ⟨w.heap.size, 0, none⟩) :: .pointer none :: .pointer (some ⟨w.heap.size + 1, 0, none⟩) :: .int .i64 (k : Int) :: .agg #[.slice none 0 0] :: .pointer (some ⟨w.heap.size + 1, 0, none⟩) :: .int .i64 (k : Int) :: .int .i64 nodes :: .int .i64 1 :: .int .i64 1 :: dk :: u14 :: u15 :: xs 0 :: xs 1 :: xs 2 :: xs 3 :: xs 4 :: xs 5 :: xs 6 :: xs 7 :: xs 8 :: xs 9 :: xs 10 :: xs 11 :: xs 12 :: xs 13 :: undef :: []).toArray, defers := [] })
        (NewI wr (w.heap.size + 2) (w.heap.size + 1) seed k v (fun ii xx => match ii with | 0 => xx = .pointer (some ⟨w.heap.size + 1, 0, none⟩) | 1 => xx = .pointer (some ⟨w.heap.size + 1, 0, none⟩) | 2 => xx = .pointer (some ⟨w.heap.size + 1, 0, none⟩) | 3 => xx = .pointer (some ⟨w.heap.size + 1, 0, none⟩) | 4 => xx = v | 5 => xx = .agg (row .u8 32 seed) | 6 => xx = .int .i64 (k : Int) | 7 => xx = .int .u8 (k : Int) | 9 => xx = .agg (row .u8 32 (keyAt seed k)) | 12 => xx = .pointer (some ⟨w.heap.size + 1, 0, none⟩) | 13 => xx = .pointer (some ⟨w.heap.size + 1, 0, none⟩) | _ => True)) (fun | 0 => u16 | 1 => u17 | 2 => u18 | 3 => u19 | 4 => u20 | 5 => u21 | 6 => u22 | 7 => u23 | 8 => u24 | 9 => u25 | 10 => u26 | 11 => u27 | 12 => u28 | 13 => u29 | _ => undef) (by repeat (first | exact trivial | refine ⟨fun _ _ => rfl, ?_⟩)) (NewI.start (Below.refl _ _).drew) ⟨?_, ?_, ?_, ?_, ?_, ?_, ?_, ?_, ?_, ?_, ?_, ?_, ?_, ?_, ?_, trivial⟩ ?_
      · intro li xs Wl hI hli hp K' hK
        clear hp
        rw [if_pos (wanted_none rfl _)]
        go_simp
        exact hK _ _ (hI.mark 0 _ rfl (by decide) (by omega))
      · intro li xs Wl hI hli hp K' hK
        clear hp
        rw [if_pos (wanted_none rfl _)]
        go_simp
        exact hK _ _ (hI.mark 1 _ rfl (by decide) (by omega))
      · intro li xs Wl hI hli hp K' hK
        have h1 : xs 1 = .pointer (some ⟨w.heap.size + 1, 0, none⟩) := hI.det 1 (hp.1 rfl)
        clear hp
        rw [if_pos (wanted_none rfl _)]
        simp only [h1] at hK ⊢
        clear h1
        go_simp
        exact hK _ _ (hI.mark 2 _ rfl (by decide) (by omega))
      · intro li xs Wl hI hli hp K' hK
        have h2 : xs 2 = .pointer (some ⟨w.heap.size + 1, 0, none⟩) := hI.det 2 (hp.1 rfl)
        clear hp
        rw [if_pos (wanted_none rfl _)]
        simp only [h2] at hK ⊢
        clear h2
        go_simp
        exact hK _ _ (hI.mark 3 _ rfl (by decide) (by omega))
      · intro li xs Wl hI hli hp K' hK
        have h3 : xs 3 = .pointer (some ⟨w.heap.size + 1, 0, none⟩) := hI.det 3 (hp.1 rfl)
        have cc : Wl.cell? ⟨w.heap.size + 1, 0, none⟩ = some v := (cell_blk (Below.blk (hI.pre (hI.n11 (by simp [hli]))) (lt_blk HR.out) HR.out) 0)
        clear hp
        rw [if_pos (wanted_none rfl _)]
        simp only [h3] at hK ⊢
        clear h3
        go_simp
        exact hK _ _ (hI.mark 4 _ rfl (by decide) (by omega))
      · intro li xs Wl hI hli hp K' hK
        rw [if_pos (wanted_none rfl _)]
        exact wp_load_row _ _ rfl w.heap.size rfl 30 _ (0, 0) (.array 32 5) (Below.blk (hI.pre (hI.n11 (by simp [hli]))) (lt_blk HA.out) HA.out) (by kernel_rfl) rfl (row_info size_hash _) (hK _ _ (hI.mark 5 _ rfl (by decide) (by omega)))
      · intro li xs Wl hI hli hp K' hK
        clear hp
        rw [if_pos (wanted_none rfl _)]
        go_simp
        exact hK _ _ (hI.mark 6 _ rfl (by decide) (by omega))
      · intro li xs Wl hI hli hp K' hK
        have h6 : xs 6 = .int .i64 (k : Int) := hI.det 6 (hp.1 rfl)
        clear hp
        rw [if_pos (wanted_none rfl _)]
        simp only [h6] at hK ⊢
        clear h6
        go_simp
        exact hK _ _ (hI.mark 7 _ (show Value.int _ _ = _ by rw [wrap8 k (by omega)]) (by decide) (by omega))
      · intro li xs Wl hI hli hp K' hK
        have h7 : xs 7 = .int .u8 (k : Int) := hI.det 7 (hp.1 rfl)
        clear hp
        rw [if_pos (wanted_none rfl _)]
        simp only [h7] at hK ⊢
        clear h7
        go_simp
        exact hK _ _ (hI.m8 hli (fun _ => trivial))
      · intro li xs Wl hI hli hp K' hK
        have h5 : xs 5 = .agg (row .u8 32 seed) := hI.det 5 (hp.1 rfl)
        have l8 : li 8 = true := hp.2.1 rfl
        have l5 : li 5 = true := hp.1 rfl
        obtain ⟨g8, e8, c8⟩ := hI.s8 l8
        have h11 := hI.n11 (by simp [hli])
        have h14 := hI.n14 (by simp [hli])
        have c8' := c8 h11
        clear hp c8
        rw [if_pos (wanted_none rfl _)]
        simp only [h5, e8] at hK ⊢
        clear h5 e8
        have C8 : Hid (Wl.heap[g8]? = some (.cells #[.int .u8 (k : Int)] 5 (0, 0))) := c8'
        clear c8'
        go_simp
        refine (rLink_any seed [(k : Int)] (some ⟨g8, 0, none⟩) 1 Wl (.inr ⟨⟨g8, 0, none⟩, rfl, fun j hj => ?_⟩) (by simp)).mono ?_
        · obtain rfl : j = 0 := by simp at hj; exact hj
          rw [addr_add, cell_blk C8.out]; rfl
        · rintro e w' ⟨rfl, hB'⟩
          rw [show sha (ofF 32 seed ++ [(k : Int)]) = keyAt seed k from rfl]
          exact hK _ _ ((hI.grow h11 h14 hB').mark 9 _ rfl (by decide) (fun _ => ⟨l5, l8⟩))
      · intro li xs Wl hI hli hp K' hK
        have h9 : xs 9 = .agg (row .u8 32 (keyAt seed k)) := hI.det 9 (hp.1 rfl)
        clear hp
        rw [if_pos (wanted_none rfl _)]
        simp only [h9] at hK ⊢
        clear h9
        exact wp_buildOne _ rfl (keyAt seed k) rfl (hK _ _ (hI.m10 hli (fun _ => trivial)))
      · intro li xs Wl hI hli hp K' hK
        have h4 : xs 4 = v := hI.det 4 (hp.1 rfl)
        obtain ⟨g10, e10, c10'⟩ := hI.s10 (hp.2.1 rfl)
        have l9 : li 9 = true := hp.2.2.1 rfl
        have c10 := c10' hli
        have hpr := hI.pre hli
        clear c10'
        have hall : li 4 = true ∧ li 9 = true ∧ li 10 = true := ⟨hp.1 rfl, l9, hp.2.1 rfl⟩
        rw [if_pos (wanted_none rfl _)]
        refine wp_append_own Wl _ _ 57 rfl (w.heap.size + 2) 30 i2 (.agg (row .u8 32 (fun _ => 0))) 32 32 (by kernel_rfl) HI.out hy0 hy1 hy2 (by simp [Value.cells, row_size]) (by omega) v k _ h4 (own_below HO.out hpr) ⟨g10, 0, none⟩ 1 1 (row .u8 32 (keyAt seed k)).toList e10 (by simp [row_size]) (fun j u hu => ?_) (fun u hu => (Array.all_eq_true_iff_forall_mem.1 (row_all .u8 32 (keyAt seed k))) u (by simpa using hu)) (by unfold maxLen; omega) (by omega) (Nat.le_trans hs hpr.size) (fun v' w' g1 g2 _ => hK _ _ (hI.m11 hli hall (fun _ => trivial) (by rw [keyCells_succ, ← row_ofF]; exact g1) ((hpr.mono (by omega)).trans ((Below.refl _ _).grown g2 (Nat.le_trans hs hpr.size) (fun q hq => ((own_below HO.out hpr).lt q hq).1)))))
        rw [addr_add, Nat.zero_add, cell_blk c10]; simpa using hu
      · intro li xs Wl hI hli hp K' hK
        have h0 : xs 0 = .pointer (some ⟨w.heap.size + 1, 0, none⟩) := hI.det 0 (hp.1 rfl)
        clear hp
        rw [if_pos (wanted_none rfl _)]
        simp only [h0] at hK ⊢
        clear h0
        go_simp
        exact hK _ _ (hI.mark 12 _ rfl (by decide) (by omega))
      · intro li xs Wl hI hli hp K' hK
        have h12 : xs 12 = .pointer (some ⟨w.heap.size + 1, 0, none⟩) := hI.det 12 (hp.1 rfl)
        clear hp
        rw [if_pos (wanted_none rfl _)]
        simp only [h12] at hK ⊢
        clear h12
        go_simp
        exact hK _ _ (hI.mark 13 _ rfl (by decide) (by omega))
      · intro li xs Wl hI hli hp K' hK
        have h13 : xs 13 = .pointer (some ⟨w.heap.size + 1, 0, none⟩) := hI.det 13 (hp.1 rfl)
        have l11 : li 11 = true := hp.2.1 rfl
        have hall : li 8 = true ∧ li 9 = true ∧ li 10 = true ∧ li 11 = true := ⟨hp.2.2.2.2.2.2.2.2.2.2.2.1 rfl, hp.2.2.2.2.2.2.2.2.2.2.2.2.1 rfl, hp.2.2.2.2.2.2.2.2.2.2.2.2.2.1 rfl, l11⟩
        obtain ⟨hown, hpB⟩ := hI.post l11 hli
        have hrg := Below.blk hpB (by omega) HR.out
        have HRG : Hid (Wl.heap[w.heap.size + 1]? = some (.cells #[v] 62 (0, 0))) := hrg
        obtain ⟨g, cap, hx11, hg, _, _⟩ := own_form32 hown (by omega)
        rw [hx11] at hown
        have cc : Wl.cell? ⟨w.heap.size + 1, 0, none⟩ = some v := cell_blk hrg 0
        have ff := frozen_blk hrg 0
        have HOW : Hid (Wl.ownsRow (w.heap.size + 2) 30 32 (.slice (some ⟨g, 0, none⟩) (k + 1) cap) (k + 1) (keyCells seed (k + 1))) := hown
        clear hp hown hrg
        rw [if_pos (wanted_none rfl _)]
        simp only [h13, hx11] at hK ⊢
        clear h13 hx11
        go_simp
        refine hK undef _ (hI.m14 hall (fun _ => trivial) ⟨_, set_blk HRG.out 0 _, ?_, ?_⟩ undef)
        · exact World.ownsRow.kept HOW.out (row := some (w.heap.size + 1)) ⟨rfl, rfl, rfl, by simp [World.setCell], fun q _ hq => Below.heap_setCell _ _ _ _ (fun e => hq (by rw [e]))⟩ (.inr (by simp [Value.ownBlock]; omega))
        · exact (hpB.mono (show w.heap.size + 1 ≤ w.heap.size + 2 by omega)).setCell (p := ⟨w.heap.size + 1, 0, none⟩) (Nat.le_refl _) _
      · intro li xs Wl hI hall
        obtain ⟨v2, g1, g2, g3⟩ := hI.fin (hall 14 (by simp))
        have HR2 : Hid (Wl.heap[w.heap.size + 1]? = some (.cells #[v2] 62 (0, 0))) := g1
        have HO2 : Hid (Wl.ownsRow (w.heap.size + 2) 30 32 v2 (k + 1) (keyCells seed (k + 1))) := g2
        have HA2 : Hid (Wl.heap[w.heap.size]? = some (.cells (row .u8 32 seed) 30 (0, 0))) := Below.blk g3 (by omega) HA.out
        have hB2 : Below w.heap.size w Wl := hB.trans (g3.mono (by omega))
        have hs2 : w.heap.size + 2 ≤ Wl.heap.size := Nat.le_trans hs g3.size
        clear g1 g2 g3 hI hall
        go_wp2_with fail
        exact ⟨⟨k + 1, v2, by omega, by go_num, hB2, HA2, HR2, HO2, hs2⟩, by simp only [intOf]; omega⟩
    · obtain rfl : k = 1 := by omega
      go_wp2_with fail
      go_ret
      obtain ⟨g, cap, rfl, hg, hcap, hgl⟩ := own_form32 HO.out (by omega)
      refine ⟨w.heap.size + 1, rfl, by omega, ⟨g, cap, HR.out, fun j hj => ?_, by omega, by omega, hgl⟩, hB⟩
      rw [World.ownsRow.cellAt HO.out j (by omega)]
      unfold keyCells
      rw [List.getElem?_map, show (ofF (32 * 1) (keysF seed))[j]? = some (keysF seed j) by unfold ofF; simp [hj]]
      rfl
set_option maxRecDepth 10000 in
set_option maxHeartbeats 2000000 in
theorem rNew_many (nodes : Int) (seed : Nat → Int) (n : Nat) (w : World) (h0 : -9223372036854775808 ≤ nodes) (h1 : nodes ≤ 9223372036854775807) (hq : 10 < nodes) :
    Calls Try.prog 11 #[.int .i64 nodes, .agg (row .u8 32 seed)] w fun e w' => ∃ rg, e = .returned (.pointer (some ⟨rg, 0, none⟩)) ∧ w.heap.size ≤ rg ∧ RRing w' rg seed (10) ∧ Below w.heap.size w w' := by
  have hA : ((w.alloc (.cells (row .u8 32 seed) 30)).alloc (.cells #[.slice none 0 0] 62)).heap[w.heap.size]? = some (.cells (row .u8 32 seed) 30 (0, 0)) := alloc_blk_old (alloc_blk _ _) _
  have hR : ((w.alloc (.cells (row .u8 32 seed) 30)).alloc (.cells #[.slice none 0 0] 62)).heap[w.heap.size + 1]? = some (.cells #[.slice none 0 0] 62 (0, 0)) := by
    have := alloc_blk (w.alloc (.cells (row .u8 32 seed) 30)) (.cells #[.slice none 0 0] 62)
    rw [World.size_alloc] at this; exact this
  have hB0 : Below w.heap.size w ((w.alloc (.cells (row .u8 32 seed) 30)).alloc (.cells #[.slice none 0 0] 62)) := (below_alloc _ _).alloc (by simp) _
  have hs0 : w.heap.size + 2 ≤ ((w.alloc (.cells (row .u8 32 seed) 30)).alloc (.cells #[.slice none 0 0] 62)).heap.size := by simp
  have HA : Hid (((w.alloc (.cells (row .u8 32 seed) 30)).alloc (.cells #[.slice none 0 0] 62)).heap[w.heap.size]? = some (.cells (row .u8 32 seed) 30 (0, 0))) := hA
  have HR : Hid (((w.alloc (.cells (row .u8 32 seed) 30)).alloc (.cells #[.slice none 0 0] 62)).heap[w.heap.size + 1]? = some (.cells #[.slice none 0 0] 62 (0, 0))) := hR
  clear hA hR
  obtain ⟨i2, hi2, hy0, hy1, hy2⟩ := info_parts info_hash
  have HI : Hid (Try.prog.info? 30 = some i2) := hi2
  clear hi2
  go_enter Try.func11, Try.ntmps11
  go_wp2_with (refine wpList_box_row rfl 30 _ rfl _ rfl ?_)
  generalize (w.alloc (.cells (row .u8 32 seed) 30)).alloc (.cells #[.slice none 0 0] 62) = w1 at *
  go_loopw [6] (fun i wr => ∃ (k : Nat) (v : Value), k ≤ 10 ∧ i = .int .i64 (k : Int) ∧ Below w.heap.size w wr ∧ Hid (wr.heap[w.heap.size]? = some (.cells (row .u8 32 seed) 30 (0, 0))) ∧ Hid (wr.heap[w.heap.size + 1]? = some (.cells #[v] 62 (0, 0))) ∧ Hid (wr.ownsRow (w.heap.size + 2) 30 32 v k (keyCells seed k)) ∧ w.heap.size + 2 ≤ wr.heap.size) (fun i _ => 10 - (intOf i).toNat)
  case atStart => exact ⟨0, _, by omega, rfl, hB0, HA, HR, World.ownsRow_nil _ _ _ _, hs0⟩
  case round =>
    clear hB0 HA HR hs0
    obtain ⟨k, v, hk, rfl, hB, HA, HR, HO, hs⟩ := hrel
    by_cases hlt : k < 10
    · go_wp2_with fail
      generalize Value.bool (decide ((k : Int) < 10)) = dk
      refine wp_region_steps (by kernel_rfl) (by kernel_rfl) (fun xs => { tmps := (.int .i64 nodes :: .agg (row .u8 32 seed) :: undef :: .pointer (some ⟨w.heap.size, 0, none⟩) :: .pointer none :: .pointer (some ⟨w.heap.size + 1, 0, none⟩) :: .int .i64 (k : Int) :: .agg #[.slice none 0 0] :: .pointer (some ⟨w.heap.size + 1, 0, none⟩) :: .int .i64 (k : Int) :: .int .i64 nodes :: .int .i64 nodes :: .int .i64 10 :: dk :: u14 :: u15 :: xs 0 :: xs 1 :: xs 2 :: xs 3 :: xs 4 :: xs 5 :: xs 6 :: xs 7 :: xs 8 :: xs 9 :: xs 10 :: xs 11 :: xs 12 :: xs 13 :: undef :: []).toArray, defers := [] })
        (NewI wr (w.heap.size + 2) (w.heap.size + 1) seed k v (fun ii xx => match ii with | 0 => xx = .pointer (some ⟨w.heap.size + 1, 0, none⟩) | 1 => xx = .pointer (some ⟨w.heap.size + 1, 0, none⟩) | 2 => xx = .pointer (some ⟨w.heap.size + 1, 0, none⟩) | 3 => xx = .pointer (some ⟨w.heap.size + 1, 0, none⟩) | 4 => xx = v | 5 => xx = .agg (row .u8 32 seed) | 6 => xx = .int .i64 (k : Int) | 7 => xx = .int .u8 (k : Int) | 9 => xx = .agg (row .u8 32 (keyAt seed k)) | 12 => xx = .pointer (some ⟨w.heap.size + 1, 0, none⟩) | 13 => xx = .pointer (some ⟨w.heap.size + 1, 0, none⟩) | _ => True)) (fun | 0 => u16 | 1 => u17 | 2 => u18 | 3 => u19 | 4 => u20 | 5 => u21 | 6 => u22 | 7 => u23 | 8 => u24 | 9 => u25 | 10 => u26 | 11 => u27 | 12 => u28 | 13 => u29 | _ => undef) (by repeat (first | exact trivial | refine ⟨fun _ _ => rfl, ?_⟩)) (NewI.start (Below.refl _ _).drew) ⟨?_, ?_, ?_, ?_, ?_, ?_, ?_, ?_, ?_, ?_, ?_, ?_, ?_, ?_, ?_, trivial⟩ ?_
      · intro li xs Wl hI hli hp K' hK
        clear hp
        rw [if_pos (wanted_none rfl _)]
        go_simp
        exact hK _ _ (hI.mark 0 _ rfl (by decide) (by omega))
      · intro li xs Wl hI hli hp K' hK
        clear hp
        rw [if_pos (wanted_none rfl _)]
        go_simp
        exact hK _ _ (hI.mark 1 _ rfl (by decide) (by omega))
      · intro li xs Wl hI hli hp K' hK
        have h1 : xs 1 = .pointer (some ⟨w.heap.size + 1, 0, none⟩) := hI.det 1 (hp.1 rfl)
        clear hp
        rw [if_pos (wanted_none rfl _)]
        simp only [h1] at hK ⊢
        clear h1
        go_simp
        exact hK _ _ (hI.mark 2 _ rfl (by decide) (by omega))
      · intro li xs Wl hI hli hp K' hK
        have h2 : xs 2 = .pointer (some ⟨w.heap.size + 1, 0, none⟩) := hI.det 2 (hp.1 rfl)
        clear hp
        rw [if_pos (wanted_none rfl _)]
        simp only [h2] at hK ⊢
        clear h2
        go_simp
        exact hK _ _ (hI.mark 3 _ rfl (by decide) (by omega))
      · intro li xs Wl hI hli hp K' hK
        have h3 : xs 3 = .pointer (some ⟨w.heap.size + 1, 0, none⟩) := hI.det 3 (hp.1 rfl)
        have cc : Wl.cell? ⟨w.heap.size + 1, 0, none⟩ = some v := (cell_blk (Below.blk (hI.pre (hI.n11 (by simp [hli]))) (lt_blk HR.out) HR.out) 0)
        clear hp
        rw [if_pos (wanted_none rfl _)]
        simp only [h3] at hK ⊢
        clear h3
        go_simp
        exact hK _ _ (hI.mark 4 _ rfl (by decide) (by omega))
      · intro li xs Wl hI hli hp K' hK
        rw [if_pos (wanted_none rfl _)]
        exact wp_load_row _ _ rfl w.heap.size rfl 30 _ (0, 0) (.array 32 5) (Below.blk (hI.pre (hI.n11 (by simp [hli]))) (lt_blk HA.out) HA.out) (by kernel_rfl) rfl (row_info size_hash _) (hK _ _ (hI.mark 5 _ rfl (by decide) (by omega)))
      · intro li xs Wl hI hli hp K' hK
        clear hp
        rw [if_pos (wanted_none rfl _)]
        go_simp
        exact hK _ _ (hI.mark 6 _ rfl (by decide) (by omega))
      · intro li xs Wl hI hli hp K' hK
        have h6 : xs 6 = .int .i64 (k : Int) := hI.det 6 (hp.1 rfl)
        clear hp
        rw [if_pos (wanted_none rfl _)]
        simp only [h6] at hK ⊢
        clear h6
        go_simp
        exact hK _ _ (hI.mark 7 _ (show Value.int _ _ = _ by rw [wrap8 k (by omega)]) (by decide) (by omega))
      · intro li xs Wl hI hli hp K' hK
        have h7 : xs 7 = .int .u8 (k : Int) := hI.det 7 (hp.1 rfl)
        clear hp
        rw [if_pos (wanted_none rfl _)]
        simp only [h7] at hK ⊢
        clear h7
        go_simp
        exact hK _ _ (hI.m8 hli (fun _ => trivial))
      · intro li xs Wl hI hli hp K' hK
        have h5 : xs 5 = .agg (row .u8 32 seed) := hI.det 5 (hp.1 rfl)
        have l8 : li 8 = true := hp.2.1 rfl
        have l5 : li 5 = true := hp.1 rfl
        obtain ⟨g8, e8, c8⟩ := hI.s8 l8
        have h11 := hI.n11 (by simp [hli])
        have h14 := hI.n14 (by simp [hli])
        have c8' := c8 h11
        clear hp c8
        rw [if_pos (wanted_none rfl _)]
        simp only [h5, e8] at hK ⊢
        clear h5 e8
        have C8 : Hid (Wl.heap[g8]? = some (.cells #[.int .u8 (k : Int)] 5 (0, 0))) := c8'
        clear c8'
        go_simp
        refine (rLink_any seed [(k : Int)] (some ⟨g8, 0, none⟩) 1 Wl (.inr ⟨⟨g8, 0, none⟩, rfl, fun j hj => ?_⟩) (by simp)).mono ?_
        · obtain rfl : j = 0 := by simp at hj; exact hj
          rw [addr_add, cell_blk C8.out]; rfl
        · rintro e w' ⟨rfl, hB'⟩
          rw [show sha (ofF 32 seed ++ [(k : Int)]) = keyAt seed k from rfl]
          exact hK _ _ ((hI.grow h11 h14 hB').mark 9 _ rfl (by decide) (fun _ => ⟨l5, l8⟩))
      · intro li xs Wl hI hli hp K' hK
        have h9 : xs 9 = .agg (row .u8 32 (keyAt seed k)) := hI.det 9 (hp.1 rfl)
        clear hp
        rw [if_pos (wanted_none rfl _)]
        simp only [h9] at hK ⊢
        clear h9
        exact wp_buildOne _ rfl (keyAt seed k) rfl (hK _ _ (hI.m10 hli (fun _ => trivial)))
      · intro li xs Wl hI hli hp K' hK
        have h4 : xs 4 = v := hI.det 4 (hp.1 rfl)
        obtain ⟨g10, e10, c10'⟩ := hI.s10 (hp.2.1 rfl)
        have l9 : li 9 = true := hp.2.2.1 rfl
        have c10 := c10' hli
        have hpr := hI.pre hli
        clear c10'
        have hall : li 4 = true ∧ li 9 = true ∧ li 10 = true := ⟨hp.1 rfl, l9, hp.2.1 rfl⟩
        rw [if_pos (wanted_none rfl _)]
        refine wp_append_own Wl _ _ 57 rfl (w.heap.size + 2) 30 i2 (.agg (row .u8 32 (fun _ => 0))) 32 32 (by kernel_rfl) HI.out hy0 hy1 hy2 (by simp [Value.cells, row_size]) (by omega) v k _ h4 (own_below HO.out hpr) ⟨g10, 0, none⟩ 1 1 (row .u8 32 (keyAt seed k)).toList e10 (by simp [row_size]) (fun j u hu => ?_) (fun u hu => (Array.all_eq_true_iff_forall_mem.1 (row_all .u8 32 (keyAt seed k))) u (by simpa using hu)) (by unfold maxLen; omega) (by omega) (Nat.le_trans hs hpr.size) (fun v' w' g1 g2 _ => hK _ _ (hI.m11 hli hall (fun _ => trivial) (by rw [keyCells_succ, ← row_ofF]; exact g1) ((hpr.mono (by omega)).trans ((Below.refl _ _).grown g2 (Nat.le_trans hs hpr.size) (fun q hq => ((own_below HO.out hpr).lt q hq).1)))))
        rw [addr_add, Nat.zero_add, cell_blk c10]; simpa using hu
      · intro li xs Wl hI hli hp K' hK
        have h0 : xs 0 = .pointer (some ⟨w.heap.size + 1, 0, none⟩) := hI.det 0 (hp.1 rfl)
        clear hp
        rw [if_pos (wanted_none rfl _)]
        simp only [h0] at hK ⊢
        clear h0
        go_simp
        exact hK _ _ (hI.mark 12 _ rfl (by decide) (by omega))
      · intro li xs Wl hI hli hp K' hK
        have h12 : xs 12 = .pointer (some ⟨w.heap.size + 1, 0, none⟩) := hI.det 12 (hp.1 rfl)
        clear hp
        rw [if_pos (wanted_none rfl _)]
        simp only [h12] at hK ⊢
        clear h12
        go_simp
        exact hK _ _ (hI.mark 13 _ rfl (by decide) (by omega))
      · intro li xs Wl hI hli hp K' hK
        have h13 : xs 13 = .pointer (some ⟨w.heap.size + 1, 0, none⟩) := hI.det 13 (hp.1 rfl)
        have l11 : li 11 = true := hp.2.1 rfl
        have hall : li 8 = true ∧ li 9 = true ∧ li 10 = true ∧ li 11 = true := ⟨hp.2.2.2.2.2.2.2.2.2.2.2.1 rfl, hp.2.2.2.2.2.2.2.2.2.2.2.2.1 rfl, hp.2.2.2.2.2.2.2.2.2.2.2.2.2.1 rfl, l11⟩
        obtain ⟨hown, hpB⟩ := hI.post l11 hli
        have hrg := Below.blk hpB (by omega) HR.out
        have HRG : Hid (Wl.heap[w.heap.size + 1]? = some (.cells #[v] 62 (0, 0))) := hrg
        obtain ⟨g, cap, hx11, hg, _, _⟩ := own_form32 hown (by omega)
        rw [hx11] at hown
        have cc : Wl.cell? ⟨w.heap.size + 1, 0, none⟩ = some v := cell_blk hrg 0
        have ff := frozen_blk hrg 0
        have HOW : Hid (Wl.ownsRow (w.heap.size + 2) 30 32 (.slice (some ⟨g, 0, none⟩) (k + 1) cap) (k + 1) (keyCells seed (k + 1))) := hown
        clear hp hown hrg
        rw [if_pos (wanted_none rfl _)]
        simp only [h13, hx11] at hK ⊢
        clear h13 hx11
        go_simp
        refine hK undef _ (hI.m14 hall (fun _ => trivial) ⟨_, set_blk HRG.out 0 _, ?_, ?_⟩ undef)
        · exact World.ownsRow.kept HOW.out (row := some (w.heap.size + 1)) ⟨rfl, rfl, rfl, by simp [World.setCell], fun q _ hq => Below.heap_setCell _ _ _ _ (fun e => hq (by rw [e]))⟩ (.inr (by simp [Value.ownBlock]; omega))
        · exact (hpB.mono (show w.heap.size + 1 ≤ w.heap.size + 2 by omega)).setCell (p := ⟨w.heap.size + 1, 0, none⟩) (Nat.le_refl _) _
      · intro li xs Wl hI hall
        obtain ⟨v2, g1, g2, g3⟩ := hI.fin (hall 14 (by simp))
        have HR2 : Hid (Wl.heap[w.heap.size + 1]? = some (.cells #[v2] 62 (0, 0))) := g1
        have HO2 : Hid (Wl.ownsRow (w.heap.size + 2) 30 32 v2 (k + 1) (keyCells seed (k + 1))) := g2
        have HA2 : Hid (Wl.heap[w.heap.size]? = some (.cells (row .u8 32 seed) 30 (0, 0))) := Below.blk g3 (by omega) HA.out
        have hB2 : Below w.heap.size w Wl := hB.trans (g3.mono (by omega))
        have hs2 : w.heap.size + 2 ≤ Wl.heap.size := Nat.le_trans hs g3.size
        clear g1 g2 g3 hI hall
        go_wp2_with fail
        exact ⟨⟨k + 1, v2, by omega, by go_num, hB2, HA2, HR2, HO2, hs2⟩, by simp only [intOf]; omega⟩
    · obtain rfl : k = 10 := by omega
      go_wp2_with fail
      go_ret
      obtain ⟨g, cap, rfl, hg, hcap, hgl⟩ := own_form32 HO.out (by omega)
      refine ⟨w.heap.size + 1, rfl, by omega, ⟨g, cap, HR.out, fun j hj => ?_, by omega, by omega, hgl⟩, hB⟩
      rw [World.ownsRow.cellAt HO.out j (by omega)]
      unfold keyCells
      rw [List.getElem?_map, show (ofF (32 * 10) (keysF seed))[j]? = some (keysF seed j) by unfold ofF; simp [hj]]
      rfl
set_option maxRecDepth 10000 in
set_option maxHeartbeats 2000000 in
theorem rNew_mid (nodes : Int) (seed : Nat → Int) (n : Nat) (w : World) (h0 : -9223372036854775808 ≤ nodes) (h1 : nodes ≤ 9223372036854775807) (hq : nodes = (n : Int)) (hn0 : 1 ≤ n) (hn1 : n ≤ 10) :
    Calls Try.prog 11 #[.int .i64 nodes, .agg (row .u8 32 seed)] w fun e w' => ∃ rg, e = .returned (.pointer (some ⟨rg, 0, none⟩)) ∧ w.heap.size ≤ rg ∧ RRing w' rg seed (n) ∧ Below w.heap.size w w' := by
  subst hq
  have hA : ((w.alloc (.cells (row .u8 32 seed) 30)).alloc (.cells #[.slice none 0 0] 62)).heap[w.heap.size]? = some (.cells (row .u8 32 seed) 30 (0, 0)) := alloc_blk_old (alloc_blk _ _) _
  have hR : ((w.alloc (.cells (row .u8 32 seed) 30)).alloc (.cells #[.slice none 0 0] 62)).heap[w.heap.size + 1]? = some (.cells #[.slice none 0 0] 62 (0, 0)) := by
    have := alloc_blk (w.alloc (.cells (row .u8 32 seed) 30)) (.cells #[.slice none 0 0] 62)
    rw [World.size_alloc] at this; exact this
  have hB0 : Below w.heap.size w ((w.alloc (.cells (row .u8 32 seed) 30)).alloc (.cells #[.slice none 0 0] 62)) := (below_alloc _ _).alloc (by simp) _
  have hs0 : w.heap.size + 2 ≤ ((w.alloc (.cells (row .u8 32 seed) 30)).alloc (.cells #[.slice none 0 0] 62)).heap.size := by simp
  have HA : Hid (((w.alloc (.cells (row .u8 32 seed) 30)).alloc (.cells #[.slice none 0 0] 62)).heap[w.heap.size]? = some (.cells (row .u8 32 seed) 30 (0, 0))) := hA
  have HR : Hid (((w.alloc (.cells (row .u8 32 seed) 30)).alloc (.cells #[.slice none 0 0] 62)).heap[w.heap.size + 1]? = some (.cells #[.slice none 0 0] 62 (0, 0))) := hR
  clear hA hR
  obtain ⟨i2, hi2, hy0, hy1, hy2⟩ := info_parts info_hash
  have HI : Hid (Try.prog.info? 30 = some i2) := hi2
  clear hi2
  go_enter Try.func11, Try.ntmps11
  go_wp2_with (refine wpList_box_row rfl 30 _ rfl _ rfl ?_)
  generalize (w.alloc (.cells (row .u8 32 seed) 30)).alloc (.cells #[.slice none 0 0] 62) = w1 at *
  go_loopw [6] (fun i wr => ∃ (k : Nat) (v : Value), k ≤ n ∧ i = .int .i64 (k : Int) ∧ Below w.heap.size w wr ∧ Hid (wr.heap[w.heap.size]? = some (.cells (row .u8 32 seed) 30 (0, 0))) ∧ Hid (wr.heap[w.heap.size + 1]? = some (.cells #[v] 62 (0, 0))) ∧ Hid (wr.ownsRow (w.heap.size + 2) 30 32 v k (keyCells seed k)) ∧ w.heap.size + 2 ≤ wr.heap.size) (fun i _ => n - (intOf i).toNat)
  case atStart => exact ⟨0, _, by omega, rfl, hB0, HA, HR, World.ownsRow_nil _ _ _ _, hs0⟩
  case round =>
    clear hB0 HA HR hs0
    obtain ⟨k, v, hk, rfl, hB, HA, HR, HO, hs⟩ := hrel
    by_cases hlt : k < n
    · go_wp2_with fail
      generalize Value.bool true = dk
      refine wp_region_steps (by kernel_rfl) (by kernel_rfl) (fun xs => { tmps := (.int .i64 (n : Int) :: .agg (row .u8 32 seed) :: undef :: .pointer (some ⟨w.heap.size, 0, none⟩) :: .pointer none :: .pointer (some ⟨w.heap.size + 1, 0, none⟩) :: .int .i64 (k : Int) :: .agg #[.slice none 0 0] :: .pointer (some ⟨w.heap.size + 1, 0, none⟩) :: .int .i64 (k : Int) :: .int .i64 (n : Int) :: .int .i64 (n : Int) :: .int .i64 (n : Int) :: dk :: u14 :: u15 :: xs 0 :: xs 1 :: xs 2 :: xs 3 :: xs 4 :: xs 5 :: xs 6 :: xs 7 :: xs 8 :: xs 9 :: xs 10 :: xs 11 :: xs 12 :: xs 13 :: undef :: []).toArray, defers := [] })
        (NewI wr (w.heap.size + 2) (w.heap.size + 1) seed k v (fun ii xx => match ii with | 0 => xx = .pointer (some ⟨w.heap.size + 1, 0, none⟩) | 1 => xx = .pointer (some ⟨w.heap.size + 1, 0, none⟩) | 2 => xx = .pointer (some ⟨w.heap.size + 1, 0, none⟩) | 3 => xx = .pointer (some ⟨w.heap.size + 1, 0, none⟩) | 4 => xx = v | 5 => xx = .agg (row .u8 32 seed) | 6 => xx = .int .i64 (k : Int) | 7 => xx = .int .u8 (k : Int) | 9 => xx = .agg (row .u8 32 (keyAt seed k)) | 12 => xx = .pointer (some ⟨w.heap.size + 1, 0, none⟩) | 13 => xx = .pointer (some ⟨w.heap.size + 1, 0, none⟩) | _ => True)) (fun | 0 => u16 | 1 => u17 | 2 => u18 | 3 => u19 | 4 => u20 | 5 => u21 | 6 => u22 | 7 => u23 | 8 => u24 | 9 => u25 | 10 => u26 | 11 => u27 | 12 => u28 | 13 => u29 | _ => undef) (by repeat (first | exact trivial | refine ⟨fun _ _ => rfl, ?_⟩)) (NewI.start (Below.refl _ _).drew) ⟨?_, ?_, ?_, ?_, ?_, ?_, ?_, ?_, ?_, ?_, ?_, ?_, ?_, ?_, ?_, trivial⟩ ?_
      · intro li xs Wl hI hli hp K' hK
        clear hp
        rw [if_pos (wanted_none rfl _)]
        go_simp
        exact hK _ _ (hI.mark 0 _ rfl (by decide) (by omega))
      · intro li xs Wl hI hli hp K' hK
        clear hp
        rw [if_pos (wanted_none rfl _)]
        go_simp
        exact hK _ _ (hI.mark 1 _ rfl (by decide) (by omega))
      · intro li xs Wl hI hli hp K' hK
        have h1 : xs 1 = .pointer (some ⟨w.heap.size + 1, 0, none⟩) := hI.det 1 (hp.1 rfl)
        clear hp
        rw [if_pos (wanted_none rfl _)]
        simp only [h1] at hK ⊢
        clear h1
        go_simp
        exact hK _ _ (hI.mark 2 _ rfl (by decide) (by omega))
      · intro li xs Wl hI hli hp K' hK
        have h2 : xs 2 = .pointer (some ⟨w.heap.size + 1, 0, none⟩) := hI.det 2 (hp.1 rfl)
        clear hp
        rw [if_pos (wanted_none rfl _)]
        simp only [h2] at hK ⊢
        clear h2
        go_simp
        exact hK _ _ (hI.mark 3 _ rfl (by decide) (by omega))
      · intro li xs Wl hI hli hp K' hK
        have h3 : xs 3 = .pointer (some ⟨w.heap.size + 1, 0, none⟩) := hI.det 3 (hp.1 rfl)
        have cc : Wl.cell? ⟨w.heap.size + 1, 0, none⟩ = some v := (cell_blk (Below.blk (hI.pre (hI.n11 (by simp [hli]))) (lt_blk HR.out) HR.out) 0)
        clear hp
        rw [if_pos (wanted_none rfl _)]
        simp only [h3] at hK ⊢
        clear h3
        go_simp
        exact hK _ _ (hI.mark 4 _ rfl (by decide) (by omega))
      · intro li xs Wl hI hli hp K' hK
        rw [if_pos (wanted_none rfl _)]
        exact wp_load_row _ _ rfl w.heap.size rfl 30 _ (0, 0) (.array 32 5) (Below.blk (hI.pre (hI.n11 (by simp [hli]))) (lt_blk HA.out) HA.out) (by kernel_rfl) rfl (row_info size_hash _) (hK _ _ (hI.mark 5 _ rfl (by decide) (by omega)))
      · intro li xs Wl hI hli hp K' hK
        clear hp
        rw [if_pos (wanted_none rfl _)]
        go_simp
        exact hK _ _ (hI.mark 6 _ rfl (by decide) (by omega))
      · intro li xs Wl hI hli hp K' hK
        have h6 : xs 6 = .int .i64 (k : Int) := hI.det 6 (hp.1 rfl)
        clear hp
        rw [if_pos (wanted_none rfl _)]
        simp only [h6] at hK ⊢
        clear h6
        go_simp
        exact hK _ _ (hI.mark 7 _ (show Value.int _ _ = _ by rw [wrap8 k (by omega)]) (by decide) (by omega))
      · intro li xs Wl hI hli hp K' hK
        have h7 : xs 7 = .int .u8 (k : Int) := hI.det 7 (hp.1 rfl)
        clear hp
        rw [if_pos (wanted_none rfl _)]
        simp only [h7] at hK ⊢
        clear h7
        go_simp
        exact hK _ _ (hI.m8 hli (fun _ => trivial))
      · intro li xs Wl hI hli hp K' hK
        have h5 : xs 5 = .agg (row .u8 32 seed) := hI.det 5 (hp.1 rfl)
        have l8 : li 8 = true := hp.2.1 rfl
        have l5 : li 5 = true := hp.1 rfl
        obtain ⟨g8, e8, c8⟩ := hI.s8 l8
        have h11 := hI.n11 (by simp [hli])
        have h14 := hI.n14 (by simp [hli])
        have c8' := c8 h11
        clear hp c8
        rw [if_pos (wanted_none rfl _)]
        simp only [h5, e8] at hK ⊢
        clear h5 e8
        have C8 : Hid (Wl.heap[g8]? = some (.cells #[.int .u8 (k : Int)] 5 (0, 0))) := c8'
        clear c8'
        go_simp
        refine (rLink_any seed [(k : Int)] (some ⟨g8, 0, none⟩) 1 Wl (.inr ⟨⟨g8, 0, none⟩, rfl, fun j hj => ?_⟩) (by simp)).mono ?_
        · obtain rfl : j = 0 := by simp at hj; exact hj
          rw [addr_add, cell_blk C8.out]; rfl
        · rintro e w' ⟨rfl, hB'⟩
          rw [show sha (ofF 32 seed ++ [(k : Int)]) = keyAt seed k from rfl]
          exact hK _ _ ((hI.grow h11 h14 hB').mark 9 _ rfl (by decide) (fun _ => ⟨l5, l8⟩))
      · intro li xs Wl hI hli hp K' hK
        have h9 : xs 9 = .agg (row .u8 32 (keyAt seed k)) := hI.det 9 (hp.1 rfl)
        clear hp
        rw [if_pos (wanted_none rfl _)]
        simp only [h9] at hK ⊢
        clear h9
        exact wp_buildOne _ rfl (keyAt seed k) rfl (hK _ _ (hI.m10 hli (fun _ => trivial)))
      · intro li xs Wl hI hli hp K' hK
        have h4 : xs 4 = v := hI.det 4 (hp.1 rfl)
        obtain ⟨g10, e10, c10'⟩ := hI.s10 (hp.2.1 rfl)
        have l9 : li 9 = true := hp.2.2.1 rfl
        have c10 := c10' hli
        have hpr := hI.pre hli
        clear c10'
        have hall : li 4 = true ∧ li 9 = true ∧ li 10 = true := ⟨hp.1 rfl, l9, hp.2.1 rfl⟩
        rw [if_pos (wanted_none rfl _)]
        refine wp_append_own Wl _ _ 57 rfl (w.heap.size + 2) 30 i2 (.agg (row .u8 32 (fun _ => 0))) 32 32 (by kernel_rfl) HI.out hy0 hy1 hy2 (by simp [Value.cells, row_size]) (by omega) v k _ h4 (own_below HO.out hpr) ⟨g10, 0, none⟩ 1 1 (row .u8 32 (keyAt seed k)).toList e10 (by simp [row_size]) (fun j u hu => ?_) (fun u hu => (Array.all_eq_true_iff_forall_mem.1 (row_all .u8 32 (keyAt seed k))) u (by simpa using hu)) (by unfold maxLen; omega) (by omega) (Nat.le_trans hs hpr.size) (fun v' w' g1 g2 _ => hK _ _ (hI.m11 hli hall (fun _ => trivial) (by rw [keyCells_succ, ← row_ofF]; exact g1) ((hpr.mono (by omega)).trans ((Below.refl _ _).grown g2 (Nat.le_trans hs hpr.size) (fun q hq => ((own_below HO.out hpr).lt q hq).1)))))
        rw [addr_add, Nat.zero_add, cell_blk c10]; simpa using hu
      · intro li xs Wl hI hli hp K' hK
        have h0 : xs 0 = .pointer (some ⟨w.heap.size + 1, 0, none⟩) := hI.det 0 (hp.1 rfl)
        clear hp
        rw [if_pos (wanted_none rfl _)]
        simp only [h0] at hK ⊢
        clear h0
        go_simp
        exact hK _ _ (hI.mark 12 _ rfl (by decide) (by omega))
      · intro li xs Wl hI hli hp K' hK
        have h12 : xs 12 = .pointer (some ⟨w.heap.size + 1, 0, none⟩) := hI.det 12 (hp.1 rfl)
        clear hp
        rw [if_pos (wanted_none rfl _)]
        simp only [h12] at hK ⊢
        clear h12
        go_simp
        exact hK _ _ (hI.mark 13 _ rfl (by decide) (by omega))
      · intro li xs Wl hI hli hp K' hK
        have h13 : xs 13 = .pointer (some ⟨w.heap.size + 1, 0, none⟩) := hI.det 13 (hp.1 rfl)
        have l11 : li 11 = true := hp.2.1 rfl
        have hall : li 8 = true ∧ li 9 = true ∧ li 10 = true ∧ li 11 = true := ⟨hp.2.2.2.2.2.2.2.2.2.2.2.1 rfl, hp.2.2.2.2.2.2.2.2.2.2.2.2.1 rfl, hp.2.2.2.2.2.2.2.2.2.2.2.2.2.1 rfl, l11⟩
        obtain ⟨hown, hpB⟩ := hI.post l11 hli
        have hrg := Below.blk hpB (by omega) HR.out
        have HRG : Hid (Wl.heap[w.heap.size + 1]? = some (.cells #[v] 62 (0, 0))) := hrg
        obtain ⟨g, cap, hx11, hg, _, _⟩ := own_form32 hown (by omega)
        rw [hx11] at hown
        have cc : Wl.cell? ⟨w.heap.size + 1, 0, none⟩ = some v := cell_blk hrg 0
        have ff := frozen_blk hrg 0
        have HOW : Hid (Wl.ownsRow (w.heap.size + 2) 30 32 (.slice (some ⟨g, 0, none⟩) (k + 1) cap) (k + 1) (keyCells seed (k + 1))) := hown
        clear hp hown hrg
        rw [if_pos (wanted_none rfl _)]
        simp only [h13, hx11] at hK ⊢
        clear h13 hx11
        go_simp
        refine hK undef _ (hI.m14 hall (fun _ => trivial) ⟨_, set_blk HRG.out 0 _, ?_, ?_⟩ undef)
        · exact World.ownsRow.kept HOW.out (row := some (w.heap.size + 1)) ⟨rfl, rfl, rfl, by simp [World.setCell], fun q _ hq => Below.heap_setCell _ _ _ _ (fun e => hq (by rw [e]))⟩ (.inr (by simp [Value.ownBlock]; omega))
        · exact (hpB.mono (show w.heap.size + 1 ≤ w.heap.size + 2 by omega)).setCell (p := ⟨w.heap.size + 1, 0, none⟩) (Nat.le_refl _) _
      · intro li xs Wl hI hall
        obtain ⟨v2, g1, g2, g3⟩ := hI.fin (hall 14 (by simp))
        have HR2 : Hid (Wl.heap[w.heap.size + 1]? = some (.cells #[v2] 62 (0, 0))) := g1
        have HO2 : Hid (Wl.ownsRow (w.heap.size + 2) 30 32 v2 (k + 1) (keyCells seed (k + 1))) := g2
        have HA2 : Hid (Wl.heap[w.heap.size]? = some (.cells (row .u8 32 seed) 30 (0, 0))) := Below.blk g3 (by omega) HA.out
        have hB2 : Below w.heap.size w Wl := hB.trans (g3.mono (by omega))
        have hs2 : w.heap.size + 2 ≤ Wl.heap.size := Nat.le_trans hs g3.size
        clear g1 g2 g3 hI hall
        go_wp2_with fail
        exact ⟨⟨k + 1, v2, by omega, by go_num, hB2, HA2, HR2, HO2, hs2⟩, by simp only [intOf]; omega⟩
    · obtain rfl : k = n := by omega
      go_wp2_with fail
      go_ret
      obtain ⟨g, cap, rfl, hg, hcap, hgl⟩ := own_form32 HO.out (by omega)
      refine ⟨w.heap.size + 1, rfl, by omega, ⟨g, cap, HR.out, fun j hj => ?_, by omega, by omega, hgl⟩, hB⟩
      rw [World.ownsRow.cellAt HO.out j (by omega)]
      unfold keyCells
      rw [List.getElem?_map, show (ofF (32 * k) (keysF seed))[j]? = some (keysF seed j) by unfold ofF; simp [hj]]
      rfl
theorem rNew_any (nodes : Int) (seed : Nat → Int) (w : World) (h0 : -9223372036854775808 ≤ nodes) (h1 : nodes ≤ 9223372036854775807) :
    Calls Try.prog 11 #[.int .i64 nodes, .agg (row .u8 32 seed)] w fun e w' => ∃ rg, e = .returned (.pointer (some ⟨rg, 0, none⟩)) ∧ w.heap.size ≤ rg ∧ RRing w' rg seed (nodesOf nodes) ∧ Below w.heap.size w w' := by
  by_cases q0 : nodes < 1
  · rw [show nodesOf nodes = 1 by unfold nodesOf; omega]
    exact rNew_few nodes seed 0 w h0 h1 q0
  · by_cases q1 : 10 < nodes
    · rw [show nodesOf nodes = 10 by unfold nodesOf; omega]
      exact rNew_many nodes seed 0 w h0 h1 q1
    · exact rNew_mid nodes seed (nodesOf nodes) w h0 h1 (by unfold nodesOf; omega) (by unfold nodesOf; omega) (by unfold nodesOf; omega)
end Go.Proofs.Yticpkpphjpgdbaa
