/- Keys; the sequences that From and All hand back; rows. For tables of up to 100000 entries. -/
import Derived.Test.YtgafmckiomhceaaWalkH
namespace Go.Proofs.Ytgafmckiomhceaa
open Go.RowKit Go.Hold Go.Inv Go.Shelf

attribute [local go_sem] Oper.semAt_some

theorem TabP.open {w : World} {p : Option Addr} {ls : List (Int × Int)} (h : TabP w p ls) : ∃ q t, Root w p q ∧ T w q t ∧ t.toL = ls ∧ Rises ls ∧ Lo ls := by
  rcases h with ⟨rfl, rfl⟩ | ⟨bt, rfl, q, t, hb, hT, hl, hr⟩
  · exact ⟨none, .nil, .inl ⟨rfl, rfl⟩, rfl, rfl, Rises.nil, fun _ h => (by cases h)⟩
  · exact ⟨q, t, .inr ⟨bt, rfl, hb⟩, hT, hl, hr⟩

theorem from_stopsT (P : Nat → Prop) (p q : Option Addr) (t : BT Int) (f : Int) (Bt Bf : Nat) (w : World) (hroot : Root w p q) (hT : InT P w q t) (hr : Rises t.toL) (bT : Boxed w Bt 23 (.pointer p)) (bF : Boxed w Bf 3 (.int .i64 f))
    (hPw : ∀ b, P b → b < w.heap.size) (n : Nat) :
    SeqStopsK Fence.wide n Try.prog 38 #[.pointer (some ⟨Bt, 0, none⟩), .pointer (some ⟨Bf, 0, none⟩)] (fun x : Int × Int => #[Value.int .i64 x.1, Value.int .i64 x.2]) (Kept P) (fun ys => ys = fromL f t.toL) (fun pre => pre <+: fromL f t.toL) (fromL f t.toL).length w := by
  rw [← tellT_eq f t hr]
  exact fun l J Jx W hW hJ _ hY h0 => from1_in n l _ P J Jx f p q t Bt Bf hY (fun pre W h => hJ pre W W.drew none h ⟨rfl, rfl, rfl, Nat.le_refl _, fun _ _ _ => rfl⟩ (fun r e => (by cases e))) W (bT.grow hW).cell (bF.grow hW).cell (hroot.grow hW)
    (InT.kept (kept_of_below hPw hW) hT) (Nat.le_refl _) h0

theorem from_stops (P : Nat → Prop) (p : Option Addr) (ls : List (Int × Int)) (f : Int) (Bt Bf : Nat) (w : World) (hTab : TabP w p ls) (bT : Boxed w Bt 23 (.pointer p)) (bF : Boxed w Bf 3 (.int .i64 f))
    (hP : ∀ b, b < w.heap.size → w.cell? ⟨b, 4, none⟩ ≠ none → P b) (hPw : ∀ b, P b → b < w.heap.size) (n : Nat) :
    SeqStopsK Fence.wide n Try.prog 38 #[.pointer (some ⟨Bt, 0, none⟩), .pointer (some ⟨Bf, 0, none⟩)] (fun x : Int × Int => #[Value.int .i64 x.1, Value.int .i64 x.2]) (Kept P) (fun ys => ys = fromL f ls) (fun pre => pre <+: fromL f ls) (fromL f ls).length w := by
  obtain ⟨q, t, hroot, hT, hl, hr, _⟩ := hTab.open
  rw [← hl] at hr ⊢
  exact from_stopsT P p q t f Bt Bf w hroot (InT.of_T hP hT) hr bT bF hPw n

/-- behind From(k) -/
theorem from_seq (p : Option Addr) (ls : List (Int × Int)) (f : Int) (w : World) (hTab : TabP w p ls) (n : Nat) :
    SeqStopsK Fence.wide n Try.prog 38 #[.pointer (some ⟨w.heap.size, 0, none⟩), .pointer (some ⟨w.heap.size + 1, 0, none⟩)] (fun x : Int × Int => #[Value.int .i64 x.1, Value.int .i64 x.2]) (Kept (fun b => b < ((w.alloc (.cells #[.pointer p] 23)).alloc (.cells #[.int .i64 f] 3)).heap.size)) (fun ys => ys = fromL f ls) (fun pre => pre <+: fromL f ls) (fromL f ls).length
      ((w.alloc (.cells #[.pointer p] 23)).alloc (.cells #[.int .i64 f] 3)) := by
  have hB : Below w.heap.size w ((w.alloc (.cells #[.pointer p] 23)).alloc (.cells #[.int .i64 f] 3)) := ((Below.refl _ w).alloc (Nat.le_refl _) _).alloc (by simp) _
  have bT := (Boxed.new w 23 (.pointer p)).alloc (.cells #[.int .i64 f] 3)
  have bF := Boxed.new (w.alloc (.cells #[.pointer p] 23)) 3 (.int .i64 f)
  rw [World.size_alloc] at bF
  exact from_stops _ p ls f _ _ _ (hTab.grow hB) bT bF (fun b hb _ => hb) (fun b hb => hb) n

theorem fromL_lo {ls : List (Int × Int)} (h : Lo ls) : fromL (-9223372036854775808) ls = ls := fromL_all (fun x hx => by have := h x hx; omega)
theorem TabP.lo {w : World} {p : Option Addr} {ls : List (Int × Int)} (h : TabP w p ls) : Lo ls := by obtain ⟨_, _, _, _, _, _, h⟩ := h.open; exact h
theorem TabP.rises {w : World} {p : Option Addr} {ls : List (Int × Int)} (h : TabP w p ls) : Rises ls := by obtain ⟨_, _, _, _, _, h, _⟩ := h.open; exact h

set_option maxRecDepth 100000 in
set_option maxHeartbeats 4000000 in
theorem Keys_any (p : Option Addr) (ls : List (Int × Int)) (w : World) (hTab : TabP w p ls) (hL : ls.length ≤ 100000) :
    Calls Try.prog 13 #[.pointer p] w fun e w' => ∃ v, e = .returned v ∧ w'.ownsRow w.heap.size 3 1 v ls.length (ints1 ls) ∧ Below w.heap.size w w' := by
  obtain ⟨i0, hi, hz0, hz1, hz2⟩ := info_parts info_int
  refine (callsIn_wide (n := 9)).1 ?_
  refine callsIn_of_wp_marks Try.func13 rfl trivial ?_ rfl
  simp only [Try.ntmps13, List.size_toArray, List.length_cons, List.length_nil, Nat.reduceAdd, Nat.reduceSub, Array.replicate_succ, Array.replicate_zero, List.push_toArray, List.append_toArray, List.nil_append, List.cons_append]
  gi_wp2_with fail
  refine ⟨trivial, ?_⟩
  refine (callsIn_wide.2 (Len_any p ls w hTab)).mono ?_
  rintro e w' ⟨rfl, rfl⟩
  gi_wp2_with (gi_at_make; refine wpListIn_make_own _ rfl _ _ 26 rfl w'.heap.size 3 i0 (.int .i64 0) 1 Try.underlying26 hi hz0 hz1 .i64 .i64 _ ls.length rfl rfl rfl (by rw [hz2]; omega) (by unfold maxLen; omega) (Nat.le_refl _) ?_; intro w1 hown1 hgrow1)
  refine ⟨trivial, ?_⟩
  refine (callsIn_wide.2 (All_any p _)).mono ?_
  rintro e w2 ⟨rfl, rfl⟩
  have bK := ((Boxed.new w1 26 (.slice (some ⟨w'.heap.size, 0, none⟩) 0 ls.length)).alloc (.cells #[.pointer p] 23)).alloc (.cells #[.int .i64 (-9223372036854775808)] 3)
  have hown2 := ((hown1.alloc (.cells #[.slice (some ⟨w'.heap.size, 0, none⟩) 0 ls.length] 26)).alloc (.cells #[.pointer p] 23)).alloc (.cells #[.int .i64 (-9223372036854775808)] 3)
  have hs1 : w'.heap.size + 1 ≤ w1.heap.size := by have := (hown1.lt w'.heap.size rfl).2; omega
  have hB1 : Below w'.heap.size w' w1 := (Below.refl _ w').grown hgrow1 (Nat.le_refl _) (fun k e => (by cases e))
  have hB2 : Below w'.heap.size w' (w1.alloc (.cells #[.slice (some ⟨w'.heap.size, 0, none⟩) 0 ls.length] 26)) := hB1.alloc (by omega) _
  have hB3 := (hB2.alloc (by simp; omega) (.cells #[.pointer p] 23)).alloc (by simp; omega) (.cells #[.int .i64 (-9223372036854775808)] 3)
  have bT := (Boxed.new (w1.alloc (.cells #[.slice (some ⟨w'.heap.size, 0, none⟩) 0 ls.length] 26)) 23 (.pointer p)).alloc (.cells #[.int .i64 (-9223372036854775808)] 3)
  have bF := Boxed.new ((w1.alloc (.cells #[.slice (some ⟨w'.heap.size, 0, none⟩) 0 ls.length] 26)).alloc (.cells #[.pointer p] 23)) 3 (.int .i64 (-9223372036854775808))
  rw [World.size_alloc, World.size_alloc] at bF
  rw [World.size_alloc] at bT
  have hsz : (((w1.alloc (.cells #[.slice (some ⟨w'.heap.size, 0, none⟩) 0 ls.length] 26)).alloc (.cells #[.pointer p] 23)).alloc (.cells #[.int .i64 (-9223372036854775808)] 3)).heap.size = w1.heap.size + 3 := by simp
  obtain ⟨q, t, hroot, hT, hl, hr, hlo⟩ := hTab.open
  have hseq := from_stopsT (fun b => b < w'.heap.size) p q t (-9223372036854775808) _ _ _ (hroot.grow hB3) (InT.kept (fun b hb => hB3.block b hb) (InT.of_T (P := fun b => b < w'.heap.size) (fun b hb _ => hb) hT)) (by rw [hl]; exact hr) bT bF (fun b hb => by rw [hsz]; omega)
  rw [hl, fromL_lo hlo] at hseq
  clear hroot hT hl hr hlo bT bF
  rw [World.size_alloc]
  obtain ⟨W0, hW0⟩ : ∃ W0, ((w1.alloc (.cells #[.slice (some ⟨w'.heap.size, 0, none⟩) 0 ls.length] 26)).alloc (.cells #[.pointer p] 23)).alloc (.cells #[.int .i64 (-9223372036854775808)] 3) = W0 := ⟨_, rfl⟩
  rw [hW0] at bK hown2 hB3 hsz hseq ⊢
  clear hW0
  gi_wp2_with fail
  refine wpIn_rangeFunc_ownG rfl (by decide) (gf := 38) (lb := #[.pointer (some ⟨w1.heap.size + 1, 0, none⟩), .pointer (some ⟨w1.heap.size + 1 + 1, 0, none⟩)]) rfl trivial (enters_of Try.func38 (by kernel_rfl) rfl) (hseq _) (fun h k => Kept.trans h k)
    (fun W l o o' hl ho _ _ b hb => World.putObj_heap_other (by rw [hsz] at hl; omega)) (Below.refl _ _) (fun _ => rfl)
    (fun pre W => (∃ v, Boxed W w1.heap.size 26 v ∧ W.ownsRow w'.heap.size 3 1 v pre.length (ints1 pre) ∧ True) ∧ Below w'.heap.size w' W)
    (fun _ _ _ => False)
    (OwnFrom.and (Own.from (holdsRow_own w'.heap.size w1.heap.size 26 3 1 (fun pre => pre.length) (fun pre => ints1 pre) (fun _ _ => True)) _) (ownFrom_below (Nat.le_refl _) (by rw [hsz]; omega)))
    (fun _ _ _ _ _ hs _ _ => hs)
    ⟨⟨_, bK, hown2, trivial⟩, hB3⟩
    (fun x => { tmps := (Value.pointer p :: undef :: Value.slice none 0 0 :: Value.pointer (some (⟨w1.heap.size, 0, none⟩ : Addr)) :: Value.int IntKind.i64 x.1 :: Value.pointer p :: Value.int IntKind.i64 (ls.length : Int) :: Value.slice (some (⟨w'.heap.size, 0, none⟩ : Addr)) 0 ls.length :: Value.pointer p :: Value.func (Fn.func 38) #[] #[Value.pointer (some (⟨w1.heap.size + 1, 0, none⟩ : Addr)), Value.pointer (some (⟨w1.heap.size + 1 + 1, 0, none⟩ : Addr))] :: Value.int IntKind.i64 x.1 :: Value.int IntKind.i64 x.2 :: undef :: undef :: undef :: undef :: undef :: []).toArray, defers := [] }) ?assign ?body ?done ?stop
  case assign =>
    intro l x W K hK
    gi_wp2
    exact hK
  case body =>
    rintro l pre x W ⟨⟨v, hv, hrow, _⟩, hB⟩ hlt
    have hc := hv.cell
    gi_wp2_with (gi_at_builtin; refine wpListIn_append_own _ rfl _ _ 26 rfl w'.heap.size 3 i0 (.int .i64 0) 1 8 Try.underlying26 hi hz0 hz1 hz2 rfl (by decide) _ _ _ rfl (hrow.alloc _) ⟨W.heap.size, 0, none⟩ 1 1 [.int .i64 x.1] rfl rfl (cell_one_new _ _ _) (by simp [Value.oneCell']) (by unfold maxLen; omega) (by omega) (by have := hB.size; simp; omega) ?_; intro v' w3 hown' hgrow _; obtain ⟨g', cap', rfl⟩ := ownsRow_succ hown'; obtain ⟨hv1, hv2, hr2, hk2, hb2⟩ := hv.appended (by decide) hrow hB.size (by omega) hown' hgrow; have hc1 := hv1.cell; have hf1 := hv1.frozen)
    exact ⟨hk2.from _, kept_of_below (fun b hb => hb) hb2, ⟨_, hv2, by rw [ints1_snoc, List.length_append]; exact hr2, trivial⟩, hB.trans hb2⟩
  case done =>
    rintro D ys W hD rfl ⟨⟨v, hv, hrow, _⟩, hB⟩ hK
    have hc := hv.cell
    gi_wp2
    refine ⟨by simp, .inl ⟨_, _, rfl, run_takeDeferred hK, ?_⟩⟩
    exact ⟨_, results_tmp rfl _ _ _, v, rfl, ownsRow_putObj hrow _ hK rfl, hB.trans (belowK_b (w := w') (Nat.le_refl _) W D _ _ (by omega) hK rfl rfl)⟩
  case stop =>
    rintro D c pre W _ _ h _
    exact h.elim

/-- v is a slice of the numbers xs -/
def Sl (W : World) (v : Value) (xs : List Int) : Prop := (v = .slice none 0 0 ∧ xs = []) ∨ ∃ g off cap, v = .slice (some ⟨g, off, none⟩) xs.length cap ∧ xs.length ≤ cap ∧ ∀ i x, xs[i]? = some x → W.cell? ⟨g, off + i, none⟩ = some (.int .i64 x)
theorem Sl.grow {A B : World} {v : Value} {xs : List Int} (h : Sl A v xs) (hB : Below A.heap.size A B) : Sl B v xs := by
  rcases h with h | ⟨g, off, cap, hv, hcap, hc⟩
  · exact .inl h
  · refine .inr ⟨g, off, cap, hv, hcap, fun i x hx => ?_⟩
    have := hc i x hx
    exact (hB.cell (p := ⟨g, off + i, none⟩) (block_lt_of_cell this)).trans this
theorem Sl.of_row {W : World} {b e : Nat} {v : Value} {xs : List Int} (h : W.ownsRow b e 1 v xs.length (xs.map (Value.int .i64))) : Sl W v xs := by
  rcases h.2 with ⟨rfl, h0⟩ | ⟨g, cap, cur, rfl, hb, hg, h1, h2, h3, h4⟩
  · exact .inl ⟨rfl, List.eq_nil_of_length_eq_zero h0⟩
  · refine .inr ⟨g, 0, cap, rfl, h1, fun i x hx => ?_⟩
    have := h.cells (g := g) rfl i (.int .i64 x) (by rw [List.getElem?_map, hx]; rfl)
    rwa [Addr.add_lit] at this
theorem Sl.form {W : World} {v : Value} {xs : List Int} (h : Sl W v xs) : ∃ a cap, v = .slice a xs.length cap ∧ ∀ i x, xs[i]? = some x → ∃ g off, a = some ⟨g, off, none⟩ ∧ W.cell? ⟨g, off + i, none⟩ = some (.int .i64 x) := by
  rcases h with ⟨rfl, rfl⟩ | ⟨g, off, cap, rfl, _, hc⟩
  · exact ⟨none, 0, rfl, fun i x hx => by simp at hx⟩
  · exact ⟨_, cap, rfl, fun i x hx => ⟨g, off, rfl, hc i x hx⟩⟩

theorem take_succ_eq {xs ys : List Int} {k : Nat} (h : xs.take k = ys.take k) {x : Int} (hx : xs[k]? = some x) (hy : ys[k]? = some x) : xs.take (k + 1) = ys.take (k + 1) := by
  rw [List.take_add_one, List.take_add_one, h, hx, hy]

set_option maxHeartbeats 1000000 in
theorem rows_any (v u : Value) (xs ys : List Int) (w : World) (hv : Sl w v xs) (hu : Sl w u ys) (hx : xs.length ≤ 1000000) :
    Calls Try.prog 12 #[v, u] w fun e w' => e = .returned (.bool (decide (xs = ys))) ∧ ∃ m, w' = w.drewN m := by
  obtain ⟨av, cv, rfl, hcv⟩ := hv.form
  obtain ⟨au, cu, rfl, hcu⟩ := hu.form
  have HV : Hid (∀ i x, xs[i]? = some x → ∃ g off, av = some ⟨g, off, none⟩ ∧ w.cell? ⟨g, off + i, none⟩ = some (.int .i64 x)) := hcv
  have HU : Hid (∀ i x, ys[i]? = some x → ∃ g off, au = some ⟨g, off, none⟩ ∧ w.cell? ⟨g, off + i, none⟩ = some (.int .i64 x)) := hcu
  clear hv hu hcv hcu
  by_cases hne : xs.length = ys.length
  · have HN : Hid (xs.length = ys.length) := hne
    have hb : ((xs.length : Int) != (ys.length : Int)) = false := by simp [hne]
    have hlen : ys.length ≤ xs.length ∧ xs.length ≤ ys.length := ⟨by omega, by omega⟩
    clear hne
    go_enter Try.func12, Try.ntmps12
    go_wp2
    go_loopw [5] (fun i wr => ∃ k : Nat, i = .int .i64 k ∧ k ≤ xs.length ∧ xs.take k = ys.take k ∧ ∃ m, wr = w.drewN m) (fun i _ => xs.length - (intOf i).toNat)
    case atStart => exact ⟨0, rfl, Nat.zero_le _, rfl, 0, rfl⟩
    case round =>
      obtain ⟨k, rfl, hk, htk, m, rfl⟩ := hrel
      have HT : Hid (xs.take k = ys.take k) := htk
      clear htk
      by_cases hlt : k < xs.length
      · obtain ⟨x, hxk⟩ : ∃ x, xs[k]? = some x := ⟨xs[k], List.getElem?_eq_getElem hlt⟩
        obtain ⟨y, hyk⟩ : ∃ y, ys[k]? = some y := ⟨ys[k]'(by omega), List.getElem?_eq_getElem (by omega)⟩
        obtain ⟨g1, o1, rfl, c1⟩ := HV.out k x hxk
        obtain ⟨g2, o2, rfl, c2⟩ := HU.out k y hyk
        have HX : Hid (xs[k]? = some x) := hxk
        have HY : Hid (ys[k]? = some y) := hyk
        clear hxk hyk
        have hly : (k : Int) < (ys.length : Int) := by omega
        by_cases hxy : x = y
        · have hb2 : (x != y) = false := by simp [hxy]
          go_wp2
          go_quiet (fail)
          go_wp2
          go_roundw
          case rel => exact ⟨k + 1, by go_num, by omega, take_succ_eq HT.out HX.out (by rw [hxy]; exact HY.out), _, rfl⟩
          case measure => simp [intOf]; omega
        · have hb2 : (x != y) = true := by simp [hxy]
          have HR : Hid (decide (xs = ys) = false) := by
            show _ = _
            rw [decide_eq_false_iff_not]
            intro e
            have h1 := HX.out
            have h2 := HY.out
            rw [e, h2] at h1
            exact hxy (by simpa using h1.symm)
          clear hxy
          go_wp2
          go_quiet (fail)
          go_wp2
          go_ret
          exact ⟨by show Ending.returned (.bool false) = _; rw [HR.out], m + nq, by rw [World.drewN_drewN]⟩
      · have HR : Hid (decide (xs = ys) = true) := by
          show _ = _
          rw [decide_eq_true_iff]
          have h := HT.out
          rwa [List.take_of_length_le (by omega), List.take_of_length_le (by omega)] at h
        go_wp2
        go_ret
        exact ⟨by show Ending.returned (.bool true) = _; rw [HR.out], _, rfl⟩
  · have HR : Hid (decide (xs = ys) = false) := by
      show _ = _
      rw [decide_eq_false_iff_not]
      intro e
      exact hne (by rw [e])
    have hb : ((xs.length : Int) != (ys.length : Int)) = true := by simp; omega
    clear hne
    go_enter Try.func12, Try.ntmps12
    go_wp2
    go_ret
    exact ⟨by show Ending.returned (.bool false) = _; rw [HR.out], 0, rfl⟩

theorem frm_below {b : Nat} {w w' : World} (h : Frm (· = b) w w') {B : Nat} (hB : B ≤ w.heap.size) (hb : B ≤ b) : Below B w w' := h.below hB (fun k hk e => by omega)

set_option maxHeartbeats 1000000 in
theorem known_any (w : World) : Calls Try.prog 16 #[] w fun e w' => e = .returned (.bool true) ∧ Below w.heap.size w w' := by
  go_enter Try.func16, Try.ntmps16
  go_wp2_with fail
  refine (New_any w).mono ?_
  rintro e w1 ⟨rfl, hT1, hB1⟩
  go_wp2_with fail
  refine (Set_any w.heap.size [] 5 1 w1 hT1 (by unfold big; decide) (by decide)).mono ?_
  rintro e w2 ⟨⟨x, rfl⟩, hT2, hF2⟩
  have hB2 : Below w.heap.size w w2 := hB1.trans (frm_below hF2 hB1.size (Nat.le_refl _))
  go_wp2_with fail
  refine (Set_any w.heap.size [(5, 1)] 2 7 w2 hT2 (by unfold big; decide) (by decide)).mono ?_
  rintro e w3 ⟨⟨x', rfl⟩, hT3, hF3⟩
  have hB3 : Below w.heap.size w w3 := hB2.trans (frm_below hF3 hB2.size (Nat.le_refl _))
  clear hT1 hT2 hF2 hF3 hB1 hB2
  go_wp2_with fail
  refine (Keys_any _ [(2, 7), (5, 1)] w3 (.inr ⟨_, rfl, hT3⟩) (by decide)).mono ?_
  rintro e w4 ⟨v, rfl, hrow, hB4⟩
  obtain ⟨g, cap, rfl, _, _⟩ := hrow.form (by decide)
  have hc0 : w4.cell? ⟨g, 0, none⟩ = some (.int .i64 2) := hrow.cellAt 0 (by decide)
  have hc1 : w4.cell? ⟨g, 1, none⟩ = some (.int .i64 5) := hrow.cellAt 1 (by decide)
  clear hrow hT3
  go_wp2
  go_ret
  exact ⟨rfl, hB3.trans (hB4.mono hB3.size)⟩

theorem row_form {W : World} {b e size : Nat} {v : Value} {k : Nat} {ys : List Value} (h : W.ownsRow b e size v k ys) : ∃ a c, v = .slice a k c := by
  rcases h.2 with ⟨rfl, rfl⟩ | ⟨g, cap, cur, rfl, _⟩
  · exact ⟨_, _, rfl⟩
  · exact ⟨_, _, rfl⟩
theorem two_new (w : World) (a b : Obj) : Below w.heap.size w ((w.alloc a).alloc b) := ((Below.refl _ w).alloc (Nat.le_refl _) _).alloc (by simp) _

/-- told(t.From(f), most), behind From -/
theorem toldFrom_any (p : Option Addr) (ls : List (Int × Int)) (f most : Int) (w : World) (hTab : TabP w p ls) (hL : ls.length ≤ 100000) (hm : 0 < most) (hm2 : most < 4611686018427387904) :
    Calls Try.prog 14 #[.func (.func 38) #[] #[.pointer (some ⟨w.heap.size, 0, none⟩), .pointer (some ⟨w.heap.size + 1, 0, none⟩)], .int .i64 most] ((w.alloc (.cells #[.pointer p] 23)).alloc (.cells #[.int .i64 f] 3)) fun e w' => ∃ vk vv, e = .returned (.tuple #[vk, vv]) ∧
      w'.ownsRow w.heap.size 3 1 vk ((fromL f ls).take most.toNat).length (ints1 ((fromL f ls).take most.toNat)) ∧ w'.ownsRow w.heap.size 3 1 vv ((fromL f ls).take most.toNat).length (ints2 ((fromL f ls).take most.toNat)) ∧ Below w.heap.size w w' := by
  have hB := two_new w (.cells #[.pointer p] 23) (.cells #[.int .i64 f] 3)
  have hle : (fromL f ls).length ≤ ls.length := List.length_filter_le _ _
  refine (told_any _ _ (fromL f ls) most _ _ (from_seq p ls f w hTab) (fun b hb => hb) hm hm2 (by omega)).mono ?_
  rintro e w' ⟨vk, vv, rfl, h1, h2, h3⟩
  exact ⟨vk, vv, rfl, rowBase h1 hB.size, rowBase h2 hB.size, hB.trans (h3.mono hB.size)⟩

set_option maxHeartbeats 2000000 in
theorem ofNothing_any (k v : Int) (w : World) : Calls Try.prog 7 #[.int .i64 k, .int .i64 v] w fun e w' => e = .returned (.bool true) ∧ Below w.heap.size w w' := by
  have hTab : ∀ W, TabP W none [] := fun W => .inl ⟨rfl, rfl⟩
  go_enter Try.func7, Try.ntmps7
  go_wp2_with fail
  refine (Set_nil k v w).mono ?_
  rintro e w1 ⟨rfl, x, rfl⟩
  go_wp2_with fail
  refine (Get_any none [] k w1 (hTab _)).mono ?_
  rintro e w2 ⟨rfl, rfl⟩
  simp only [lookL, Option.getD_none, Option.isSome_none]
  go_wp2_with fail
  refine (All_any none w2).mono ?_
  rintro e w3 ⟨rfl, rfl⟩
  go_wp2_with fail
  refine (toldFrom_any none [] _ 5 w2 (hTab _) (by decide) (by decide) (by decide)).mono ?_
  rintro e w4 ⟨va, va2, rfl, ha, ha2, hB4⟩
  obtain ⟨a1, c1, rfl⟩ := row_form ha
  obtain ⟨a2, c2, rfl⟩ := row_form ha2
  clear ha ha2
  simp only [fromL, List.filter_nil, List.take_nil, List.length_nil]
  go_wp2_with fail
  refine (From_any none k w4).mono ?_
  rintro e w5 ⟨rfl, rfl⟩
  go_wp2_with fail
  refine (toldFrom_any none [] _ 5 w4 (hTab _) (by decide) (by decide) (by decide)).mono ?_
  rintro e w6 ⟨vb, vb2, rfl, hb, hb2, hB6⟩
  obtain ⟨b1, d1, rfl⟩ := row_form hb
  obtain ⟨b2, d2, rfl⟩ := row_form hb2
  clear hb hb2
  simp only [fromL, List.filter_nil, List.take_nil, List.length_nil]
  have hB : Below w2.heap.size w2 w6 := hB4.trans (hB6.mono hB4.size)
  clear hB4 hB6
  go_wp2_with fail
  refine (Del_nil k w6).mono ?_
  rintro e w7 ⟨rfl, rfl⟩
  go_wp2_with fail
  refine (Len_any none [] w7 (hTab _)).mono ?_
  rintro e w8 ⟨rfl, rfl⟩
  go_wp2_with fail
  refine (Keys_any none [] w8 (hTab _) (by decide)).mono ?_
  rintro e w9 ⟨vk, rfl, hkrow, hB9⟩
  obtain ⟨e1, f1, rfl⟩ := row_form hkrow
  clear hkrow
  simp only [List.length_nil]
  go_wp2_with fail
  refine (known_any w9).mono ?_
  rintro e w10 ⟨rfl, hB10⟩
  go_wp2
  go_ret
  have h9 := hB.trans (hB9.mono hB.size)
  exact ⟨rfl, h9.trans (hB10.mono h9.size)⟩

end Go.Proofs.Ytgafmckiomhceaa
