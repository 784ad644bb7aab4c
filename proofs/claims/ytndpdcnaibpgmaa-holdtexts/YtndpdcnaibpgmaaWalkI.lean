/- Keys; the sequences that From and All hand back; rows. For tables of up to 100000 entries. -/
import Derived.Test.YtndpdcnaibpgmaaWalkH
namespace Go.Proofs.Ytndpdcnaibpgmaa
open Go.RowKit Go.Hold Go.Inv Go.Shelf

attribute [local go_sem] Oper.semAt_some

theorem TabP.open {w : World} {p : Option Addr} {ls : List (Int × Int)} (h : TabP w p ls) : ∃ q t, Root w p q ∧ T w q t ∧ t.toL = ls ∧ Rises ls ∧ Lo ls := by
  rcases h with ⟨rfl, rfl⟩ | ⟨bt, rfl, q, t, hb, hT, hl, hr⟩
  · exact ⟨none, .nil, .inl ⟨rfl, rfl⟩, rfl, rfl, Rises.nil, fun _ h => (by cases h)⟩
  · exact ⟨q, t, .inr ⟨bt, rfl, hb⟩, hT, hl, hr⟩

theorem from_stopsT (P : Nat → Prop) (p q : Option Addr) (t : BT Int) (f : Int) (Bt Bf : Nat) (w : World) (hroot : Root w p q) (hT : InT P w q t) (hr : Rises t.toL) (bT : Boxed w Bt 43 (.pointer p)) (bF : Boxed w Bf 3 (.int .i64 f))
    (hPw : ∀ b, P b → b < w.heap.size) (n : Nat) :
    SeqStopsK Fence.wide n Try.prog 32 #[.pointer (some ⟨Bt, 0, none⟩), .pointer (some ⟨Bf, 0, none⟩)] (fun x : Int × Int => #[Value.int .i64 x.1, Value.int .i64 x.2]) (Kept P) (fun ys => ys = fromL f t.toL) (fun pre => pre <+: fromL f t.toL) (fromL f t.toL).length w := by
  rw [← tellT_eq f t hr]
  exact fun l J Jx W hW hJ _ hY h0 => from1_in n l _ P J Jx f p q t Bt Bf hY (fun pre W h => hJ pre W W.drew none h ⟨rfl, rfl, rfl, Nat.le_refl _, fun _ _ _ => rfl⟩ (fun r e => (by cases e))) W (bT.grow hW).cell (bF.grow hW).cell (hroot.grow hW)
    (InT.kept (kept_of_below hPw hW) hT) (Nat.le_refl _) h0

theorem from_stops (P : Nat → Prop) (p : Option Addr) (ls : List (Int × Int)) (f : Int) (Bt Bf : Nat) (w : World) (hTab : TabP w p ls) (bT : Boxed w Bt 43 (.pointer p)) (bF : Boxed w Bf 3 (.int .i64 f))
    (hP : ∀ b, b < w.heap.size → w.cell? ⟨b, 4, none⟩ ≠ none → P b) (hPw : ∀ b, P b → b < w.heap.size) (n : Nat) :
    SeqStopsK Fence.wide n Try.prog 32 #[.pointer (some ⟨Bt, 0, none⟩), .pointer (some ⟨Bf, 0, none⟩)] (fun x : Int × Int => #[Value.int .i64 x.1, Value.int .i64 x.2]) (Kept P) (fun ys => ys = fromL f ls) (fun pre => pre <+: fromL f ls) (fromL f ls).length w := by
  obtain ⟨q, t, hroot, hT, hl, hr, _⟩ := hTab.open
  rw [← hl] at hr ⊢
  exact from_stopsT P p q t f Bt Bf w hroot (InT.of_T hP hT) hr bT bF hPw n

/-- behind From(k) -/
theorem from_seq (p : Option Addr) (ls : List (Int × Int)) (f : Int) (w : World) (hTab : TabP w p ls) (n : Nat) :
    SeqStopsK Fence.wide n Try.prog 32 #[.pointer (some ⟨w.heap.size, 0, none⟩), .pointer (some ⟨w.heap.size + 1, 0, none⟩)] (fun x : Int × Int => #[Value.int .i64 x.1, Value.int .i64 x.2]) (Kept (fun b => b < ((w.alloc (.cells #[.pointer p] 43)).alloc (.cells #[.int .i64 f] 3)).heap.size)) (fun ys => ys = fromL f ls) (fun pre => pre <+: fromL f ls) (fromL f ls).length
      ((w.alloc (.cells #[.pointer p] 43)).alloc (.cells #[.int .i64 f] 3)) := by
  have hB : Below w.heap.size w ((w.alloc (.cells #[.pointer p] 43)).alloc (.cells #[.int .i64 f] 3)) := ((Below.refl _ w).alloc (Nat.le_refl _) _).alloc (by simp) _
  have bT := (Boxed.new w 43 (.pointer p)).alloc (.cells #[.int .i64 f] 3)
  have bF := Boxed.new (w.alloc (.cells #[.pointer p] 43)) 3 (.int .i64 f)
  rw [World.size_alloc] at bF
  exact from_stops _ p ls f _ _ _ (hTab.grow hB) bT bF (fun b hb _ => hb) (fun b hb => hb) n

theorem fromL_lo {ls : List (Int × Int)} (h : Lo ls) : fromL (-9223372036854775808) ls = ls := fromL_all (fun x hx => by have := h x hx; omega)
theorem TabP.lo {w : World} {p : Option Addr} {ls : List (Int × Int)} (h : TabP w p ls) : Lo ls := by obtain ⟨_, _, _, _, _, _, h⟩ := h.open; exact h
theorem TabP.rises {w : World} {p : Option Addr} {ls : List (Int × Int)} (h : TabP w p ls) : Rises ls := by obtain ⟨_, _, _, _, _, h, _⟩ := h.open; exact h

set_option maxRecDepth 100000 in
set_option maxHeartbeats 4000000 in
theorem Keys_any (p : Option Addr) (ls : List (Int × Int)) (w : World) (hTab : TabP w p ls) (hL : ls.length ≤ 100000) :
    Calls Try.prog 15 #[.pointer p] w fun e w' => ∃ v, e = .returned v ∧ w'.ownsRow w.heap.size 3 1 v ls.length (ints1 ls) ∧ Below w.heap.size w w' := by
  obtain ⟨i0, hi, hz0, hz1, hz2⟩ := info_parts info_int
  refine (callsIn_wide (n := 9)).1 ?_
  refine callsIn_of_wp_marks Try.func15 rfl trivial ?_ rfl
  simp only [Try.ntmps15, List.size_toArray, List.length_cons, List.length_nil, Nat.reduceAdd, Nat.reduceSub, Array.replicate_succ, Array.replicate_zero, List.push_toArray, List.append_toArray, List.nil_append, List.cons_append]
  gi_wp2_with fail
  refine ⟨trivial, ?_⟩
  refine (callsIn_wide.2 (Len_any p ls w hTab)).mono ?_
  rintro e w' ⟨rfl, rfl⟩
  gi_wp2_with (gi_at_make; refine wpListIn_make_own _ rfl _ _ 22 rfl w'.heap.size 3 i0 (.int .i64 0) 1 Try.underlying22 hi hz0 hz1 .i64 .i64 _ ls.length rfl rfl rfl (by rw [hz2]; omega) (by unfold maxLen; omega) (Nat.le_refl _) ?_; intro w1 hown1 hgrow1)
  refine ⟨trivial, ?_⟩
  refine (callsIn_wide.2 (All_any p _)).mono ?_
  rintro e w2 ⟨rfl, rfl⟩
  have bK := ((Boxed.new w1 22 (.slice (some ⟨w'.heap.size, 0, none⟩) 0 ls.length)).alloc (.cells #[.pointer p] 43)).alloc (.cells #[.int .i64 (-9223372036854775808)] 3)
  have hown2 := ((hown1.alloc (.cells #[.slice (some ⟨w'.heap.size, 0, none⟩) 0 ls.length] 22)).alloc (.cells #[.pointer p] 43)).alloc (.cells #[.int .i64 (-9223372036854775808)] 3)
  have hs1 : w'.heap.size + 1 ≤ w1.heap.size := by have := (hown1.lt w'.heap.size rfl).2; omega
  have hB1 : Below w'.heap.size w' w1 := (Below.refl _ w').grown hgrow1 (Nat.le_refl _) (fun k e => (by cases e))
  have hB2 : Below w'.heap.size w' (w1.alloc (.cells #[.slice (some ⟨w'.heap.size, 0, none⟩) 0 ls.length] 22)) := hB1.alloc (by omega) _
  have hB3 := (hB2.alloc (by simp; omega) (.cells #[.pointer p] 43)).alloc (by simp; omega) (.cells #[.int .i64 (-9223372036854775808)] 3)
  have bT := (Boxed.new (w1.alloc (.cells #[.slice (some ⟨w'.heap.size, 0, none⟩) 0 ls.length] 22)) 43 (.pointer p)).alloc (.cells #[.int .i64 (-9223372036854775808)] 3)
  have bF := Boxed.new ((w1.alloc (.cells #[.slice (some ⟨w'.heap.size, 0, none⟩) 0 ls.length] 22)).alloc (.cells #[.pointer p] 43)) 3 (.int .i64 (-9223372036854775808))
  rw [World.size_alloc, World.size_alloc] at bF
  rw [World.size_alloc] at bT
  have hsz : (((w1.alloc (.cells #[.slice (some ⟨w'.heap.size, 0, none⟩) 0 ls.length] 22)).alloc (.cells #[.pointer p] 43)).alloc (.cells #[.int .i64 (-9223372036854775808)] 3)).heap.size = w1.heap.size + 3 := by simp
  obtain ⟨q, t, hroot, hT, hl, hr, hlo⟩ := hTab.open
  have hseq := from_stopsT (fun b => b < w'.heap.size) p q t (-9223372036854775808) _ _ _ (hroot.grow hB3) (InT.kept (fun b hb => hB3.block b hb) (InT.of_T (P := fun b => b < w'.heap.size) (fun b hb _ => hb) hT)) (by rw [hl]; exact hr) bT bF (fun b hb => by rw [hsz]; omega)
  rw [hl, fromL_lo hlo] at hseq
  clear hroot hT hl hr hlo bT bF
  rw [World.size_alloc]
  obtain ⟨W0, hW0⟩ : ∃ W0, ((w1.alloc (.cells #[.slice (some ⟨w'.heap.size, 0, none⟩) 0 ls.length] 22)).alloc (.cells #[.pointer p] 43)).alloc (.cells #[.int .i64 (-9223372036854775808)] 3) = W0 := ⟨_, rfl⟩
  rw [hW0] at bK hown2 hB3 hsz hseq ⊢
  clear hW0
  gi_wp2_with fail
  refine wpIn_rangeFunc_ownG rfl (by decide) (gf := 32) (lb := #[.pointer (some ⟨w1.heap.size + 1, 0, none⟩), .pointer (some ⟨w1.heap.size + 1 + 1, 0, none⟩)]) rfl trivial (enters_of Try.func32 (by kernel_rfl) rfl) (hseq _) (fun h k => Kept.trans h k)
    (fun W l o o' hl ho _ _ b hb => World.putObj_heap_other (by rw [hsz] at hl; omega)) (Below.refl _ _) (fun _ => rfl)
    (fun pre W => (∃ v, Boxed W w1.heap.size 22 v ∧ W.ownsRow w'.heap.size 3 1 v pre.length (ints1 pre) ∧ True) ∧ Below w'.heap.size w' W)
    (fun _ _ _ => False)
    (OwnFrom.and (Own.from (holdsRow_own w'.heap.size w1.heap.size 22 3 1 (fun pre => pre.length) (fun pre => ints1 pre) (fun _ _ => True)) _) (ownFrom_below (Nat.le_refl _) (by rw [hsz]; omega)))
    (fun _ _ _ _ _ hs _ _ => hs)
    ⟨⟨_, bK, hown2, trivial⟩, hB3⟩
    (fun x => { tmps := (Value.pointer p :: undef :: Value.slice none 0 0 :: Value.pointer (some (⟨w1.heap.size, 0, none⟩ : Addr)) :: Value.int IntKind.i64 x.1 :: Value.pointer p :: Value.int IntKind.i64 (ls.length : Int) :: Value.slice (some (⟨w'.heap.size, 0, none⟩ : Addr)) 0 ls.length :: Value.pointer p :: Value.func (Fn.func 32) #[] #[Value.pointer (some (⟨w1.heap.size + 1, 0, none⟩ : Addr)), Value.pointer (some (⟨w1.heap.size + 1 + 1, 0, none⟩ : Addr))] :: Value.int IntKind.i64 x.1 :: Value.int IntKind.i64 x.2 :: undef :: undef :: undef :: undef :: undef :: []).toArray, defers := [] }) ?assign ?body ?done ?stop
  case assign =>
    intro l x W K hK
    gi_wp2
    exact hK
  case body =>
    rintro l pre x W ⟨⟨v, hv, hrow, _⟩, hB⟩ hlt
    have hc := hv.cell
    gi_wp2_with (gi_at_builtin; refine wpListIn_append_own _ rfl _ _ 22 rfl w'.heap.size 3 i0 (.int .i64 0) 1 8 Try.underlying22 hi hz0 hz1 hz2 rfl (by decide) _ _ _ rfl (hrow.alloc _) ⟨W.heap.size, 0, none⟩ 1 1 [.int .i64 x.1] rfl rfl (cell_one_new _ _ _) (by simp [Value.oneCell']) (by unfold maxLen; omega) (by omega) (by have := hB.size; simp; omega) ?_; intro v' w3 hown' hgrow _; obtain ⟨g', cap', rfl⟩ := ownsRow_succ hown'; obtain ⟨hv1, hv2, hr2, hk2, hb2⟩ := hv.appended (by decide) hrow hB.size (by omega) hown' hgrow; have hc1 := hv1.cell; have hf1 := hv1.frozen)
    exact ⟨hk2.from _, kept_of_below (fun b hb => hb) hb2, ⟨_, hv2, by rw [ints1_snoc, List.length_append]; exact hr2, trivial⟩, hB.trans hb2⟩
  case done =>
    rintro D ys W hD rfl ⟨⟨v, hv, hrow, _⟩, hB⟩ hK
    have hc := hv.cell
    gi_wp2
    refine ⟨by simp, .inl ⟨_, _, rfl, run_takeDeferred hK, ?_⟩⟩
    exact ⟨_, results_tmp rfl _ _ _, v, rfl, ownsRow_putObj hrow _ hK rfl, hB.trans (belowK_b (w := w') (Nat.le_refl _) W D _ _ (by omega) hK rfl rfl)⟩
  case stop =>
    rintro D c pre W _ _ h _
    exact h.elim


/-- v is a slice of the numbers xs -/
def Sl (W : World) (v : Value) (xs : List Int) : Prop := (v = .slice none 0 0 ∧ xs = []) ∨ ∃ g off cap, v = .slice (some ⟨g, off, none⟩) xs.length cap ∧ xs.length ≤ cap ∧ ∀ i x, xs[i]? = some x → W.cell? ⟨g, off + i, none⟩ = some (.int .i64 x)
theorem Sl.grow {A B : World} {v : Value} {xs : List Int} (h : Sl A v xs) (hB : Below A.heap.size A B) : Sl B v xs := by
  rcases h with h | ⟨g, off, cap, hv, hcap, hc⟩
  · exact .inl h
  · refine .inr ⟨g, off, cap, hv, hcap, fun i x hx => ?_⟩
    have := hc i x hx
    exact (hB.cell (p := ⟨g, off + i, none⟩) (block_lt_of_cell this)).trans this
theorem Sl.of_row {W : World} {b e : Nat} {v : Value} {xs : List Int} (h : W.ownsRow b e 1 v xs.length (xs.map (Value.int .i64))) : Sl W v xs := by
  rcases h.2 with ⟨rfl, h0⟩ | ⟨g, cap, cur, rfl, hb, hg, h1, h2, h3, h4⟩
  · exact .inl ⟨rfl, List.eq_nil_of_length_eq_zero h0⟩
  · refine .inr ⟨g, 0, cap, rfl, h1, fun i x hx => ?_⟩
    have := h.cells (g := g) rfl i (.int .i64 x) (by rw [List.getElem?_map, hx]; rfl)
    rwa [Addr.add_lit] at this
theorem Sl.form {W : World} {v : Value} {xs : List Int} (h : Sl W v xs) : ∃ a cap, v = .slice a xs.length cap ∧ ∀ i x, xs[i]? = some x → ∃ g off, a = some ⟨g, off, none⟩ ∧ W.cell? ⟨g, off + i, none⟩ = some (.int .i64 x) := by
  rcases h with ⟨rfl, rfl⟩ | ⟨g, off, cap, rfl, _, hc⟩
  · exact ⟨none, 0, rfl, fun i x hx => by simp at hx⟩
  · exact ⟨_, cap, rfl, fun i x hx => ⟨g, off, rfl, hc i x hx⟩⟩

theorem take_succ_eq {xs ys : List Int} {k : Nat} (h : xs.take k = ys.take k) {x : Int} (hx : xs[k]? = some x) (hy : ys[k]? = some x) : xs.take (k + 1) = ys.take (k + 1) := by
  rw [List.take_add_one, List.take_add_one, h, hx, hy]

theorem frm_below {b : Nat} {w w' : World} (h : Frm (· = b) w w') {B : Nat} (hB : B ≤ w.heap.size) (hb : B ≤ b) : Below B w w' := h.below hB (fun k hk e => by omega)

set_option maxHeartbeats 1000000 in
theorem known_any (w : World) : Calls Try.prog 8 #[] w fun e w' => e = .returned (.bool true) ∧ Below w.heap.size w w' := by
  go_enter Try.func8, Try.ntmps8
  go_wp2_with fail
  refine (New_any w).mono ?_
  rintro e w1 ⟨rfl, hT1, hB1⟩
  go_wp2_with fail
  refine (Set_any w.heap.size [] 5 1 w1 hT1 (by unfold big; decide) (by decide)).mono ?_
  rintro e w2 ⟨⟨x, rfl⟩, hT2, hF2⟩
  have hB2 : Below w.heap.size w w2 := hB1.trans (frm_below hF2 hB1.size (Nat.le_refl _))
  go_wp2_with fail
  refine (Set_any w.heap.size [(5, 1)] 2 7 w2 hT2 (by unfold big; decide) (by decide)).mono ?_
  rintro e w3 ⟨⟨x', rfl⟩, hT3, hF3⟩
  have hB3 : Below w.heap.size w w3 := hB2.trans (frm_below hF3 hB2.size (Nat.le_refl _))
  clear hT1 hT2 hF2 hF3 hB1 hB2
  go_wp2_with fail
  refine (Keys_any _ [(2, 7), (5, 1)] w3 (.inr ⟨_, rfl, hT3⟩) (by decide)).mono ?_
  rintro e w4 ⟨v, rfl, hrow, hB4⟩
  obtain ⟨g, cap, rfl, _, _⟩ := hrow.form (by decide)
  have hc0 : w4.cell? ⟨g, 0, none⟩ = some (.int .i64 2) := hrow.cellAt 0 (by decide)
  have hc1 : w4.cell? ⟨g, 1, none⟩ = some (.int .i64 5) := hrow.cellAt 1 (by decide)
  clear hrow hT3
  go_wp2
  go_ret
  exact ⟨rfl, hB3.trans (hB4.mono hB3.size)⟩

theorem row_form {W : World} {b e size : Nat} {v : Value} {k : Nat} {ys : List Value} (h : W.ownsRow b e size v k ys) : ∃ a c, v = .slice a k c := by
  rcases h.2 with ⟨rfl, rfl⟩ | ⟨g, cap, cur, rfl, _⟩
  · exact ⟨_, _, rfl⟩
  · exact ⟨_, _, rfl⟩
theorem two_new (w : World) (a b : Obj) : Below w.heap.size w ((w.alloc a).alloc b) := ((Below.refl _ w).alloc (Nat.le_refl _) _).alloc (by simp) _

end Go.Proofs.Ytndpdcnaibpgmaa
