/- Stable. -/
import Derived.Test.YtjinhahfpkcilaaPlU
namespace Go.Proofs.Ytjinhahfpkcilaa
open Go.RowKit Go.Dig Go.Inv Go.Oct
attribute [local go_sem] Oper.semAt_some
set_option linter.unusedVariables false
set_option linter.unusedSimpArgs false

def StI (W0 : World) (x : Pl) (L : List (Rc × Value)) (pre : List (Off L)) (W : World) : Prop := Below W0.heap.size W0 W ∧ ∀ j ∈ pre, x.ended (L[j.1]).1.key = true
def StX (w : World) (x : Pl) (L : List (Rc × Value)) (c : Code) (pre : List (Off L)) (W : World) : Prop := c = .ret ∧ Below w.heap.size w W ∧ ∃ pre' j, pre = pre' ++ [j] ∧ (∀ k ∈ pre', x.ended (L[k.1]).1.key = true) ∧ x.ended (L[j.1]).1.key = false ∧ Boxed W (w.heap.size + 1) 3 (.int .i64 (j.1 : Int))
set_option maxRecDepth 100000 in
set_option maxHeartbeats 4000000 in
theorem Stable_at (own : Own) (w : World) (lb : Nat) (x : Pl) (h : LogAt own w lb x) (hok : x.Ok) (hsl : x.sp.length ≤ 90000) :
    Calls Try.prog 16 #[.pointer (some ⟨lb, 0, none⟩)] w fun e w' => e = .returned (.int .i64 x.stable) ∧ Below w.heap.size w w' := by
  obtain ⟨q, rv, sv, mb, us, h⟩ := h
  have HS : Hid (LgS own w lb x q rv sv mb us) := h
  have hB1 : Below w.heap.size w ((w.alloc (.cells #[.pointer (some ⟨lb, 0, none⟩)] 24)).alloc (.cells #[.int .i64 0] 3)) := ((Below.refl _ w).alloc (Nat.le_refl _) _).alloc (by simp) _
  have b3 := (Boxed.new w 24 (.pointer (some ⟨lb, 0, none⟩))).alloc (.cells #[.int .i64 0] 3)
  have b4 := Boxed.new (w.alloc (.cells #[.pointer (some ⟨lb, 0, none⟩)] 24)) 3 (.int .i64 0)
  rw [World.size_alloc] at b4
  have c3 := b3.cell
  have hsz1 : ((w.alloc (.cells #[.pointer (some ⟨lb, 0, none⟩)] 24)).alloc (.cells #[.int .i64 0] 3)).heap.size = w.heap.size + 2 := by simp
  have h1 := h.below hB1
  refine (callsIn_wide (n := 9)).1 ?_
  refine callsIn_of_wp_marks Try.func16 rfl trivial ?_ rfl
  simp only [Try.ntmps16, List.size_toArray, List.length_cons, List.length_nil, Nat.reduceAdd, Nat.reduceSub, Array.replicate_succ, Array.replicate_zero, List.push_toArray, List.append_toArray, List.nil_append, List.cons_append]
  gi_wp2_with fail
  refine ⟨trivial, ?_⟩
  refine (callsIn_wide.2 (kept_at own _ lb x q rv sv mb us h1 0)).mono ?_
  rintro e w2 ⟨rfl, rfl⟩
  obtain ⟨W0, hW0⟩ : ∃ W0, (((w.alloc (.cells #[.pointer (some ⟨lb, 0, none⟩)] 24)).alloc (.cells #[.int .i64 0] 3)).alloc (.cells #[.int .i64 0] 3)).alloc (.cells #[rv] 40) = W0 := ⟨_, rfl⟩
  have bT := (Boxed.new ((w.alloc (.cells #[.pointer (some ⟨lb, 0, none⟩)] 24)).alloc (.cells #[.int .i64 0] 3)) 3 (.int .i64 0)).alloc (.cells #[rv] 40)
  have bF := Boxed.new (((w.alloc (.cells #[.pointer (some ⟨lb, 0, none⟩)] 24)).alloc (.cells #[.int .i64 0] 3)).alloc (.cells #[.int .i64 0] 3)) 40 rv
  rw [World.size_alloc] at bF
  rw [hsz1] at bT bF ⊢
  have b3 := (b3.alloc (.cells #[.int .i64 0] 3)).alloc (.cells #[rv] 40)
  have b4 := (b4.alloc (.cells #[.int .i64 0] 3)).alloc (.cells #[rv] 40)
  have hsz0 : ((((w.alloc (.cells #[.pointer (some ⟨lb, 0, none⟩)] 24)).alloc (.cells #[.int .i64 0] 3)).alloc (.cells #[.int .i64 0] 3)).alloc (.cells #[rv] 40)).heap.size = w.heap.size + 4 := by simp
  have hB0 : Below w.heap.size w ((((w.alloc (.cells #[.pointer (some ⟨lb, 0, none⟩)] 24)).alloc (.cells #[.int .i64 0] 3)).alloc (.cells #[.int .i64 0] 3)).alloc (.cells #[rv] 40)) := (hB1.alloc (by omega) _).alloc (by simp; omega) _
  rw [hW0] at bT bF b3 b4 hsz0 hB0 ⊢
  clear hW0 hB1 h1 hsz1 c3
  have hLl : (x.rs.zip us).length = x.rs.length := zip_len h.ul
  have hL1 : ∀ (j : Nat) (r : Rc) (u : Value), (x.rs.zip us)[j]? = some (r, u) → x.rs[j]? = some r ∧ u.oneCell' = true := fun j r u hj => by
    rw [List.getElem?_zip_eq_some] at hj
    obtain ⟨ao, cap, rfl, _⟩ := h.vl j r u hj.1 hj.2
    exact ⟨hj.1, rfl⟩
  have hro := h.rs.form
  have hra : 0 < (x.rs.zip us).length → ∃ g c, rv = .slice (some ⟨g, 0, none⟩) (x.rs.zip us).length c ∧ (g < W0.heap.size ∧ g ≠ w.heap.size + 1) ∧ ∀ (j : Nat) (m : Rc × Value), (x.rs.zip us)[j]? = some m → ∀ i u, (rrC m)[i]? = some u → W0.cell? ⟨g, j * 5 + i, none⟩ = some u := fun hn => by
    obtain ⟨g, c, ev, _, hg, hc⟩ := h.rs.at hn
    exact ⟨g, c, ev, ⟨by omega, by omega⟩, fun j m hj i u hu => (hB0.cell (p := ⟨g, _, none⟩) hg).trans (hc j m hj i u hu)⟩
  obtain ⟨L, hL⟩ : ∃ L, x.rs.zip us = L := ⟨_, rfl⟩
  rw [hL] at hLl hL1 hro hra
  have hLk : L.length ≤ 100000 := by have := hok.rs.1; omega
  have hP : ∀ b, (fun b => b < W0.heap.size ∧ b ≠ w.heap.size + 1) b → b < W0.heap.size := fun b hb => hb.1
  have hon : KeptAt (fun b => b < W0.heap.size ∧ b ≠ w.heap.size + 1) W0 0 rv L (w.heap.size + 2) (w.heap.size + 3) :=
    ⟨bT.cell, bF.cell, ⟨by omega, by omega⟩, ⟨by omega, by omega⟩, hro, hra⟩
  have HQ : Hid _ := kept_stops _ 0 0 (by simp) rv L hLk _ _ W0 hP hon
  have HX3 : Hid (Boxed W0 w.heap.size 24 (.pointer (some ⟨lb, 0, none⟩))) := b3
  have HX4 : Hid (Boxed W0 (w.heap.size + 1) 3 (.int .i64 0)) := b4
  have HB0 : Hid (Below w.heap.size w W0) := hB0
  have HS0 : Hid (W0.heap.size = w.heap.size + 4) := hsz0
  have HL1 : Hid _ := hL1
  have HLl : Hid (L.length = x.rs.length) := hLl
  have hrun : ∀ W, Sem.run Try.prog (binOp BinOp.eql 44 (Value.func (Fn.func 50) #[] #[.pointer (some ⟨w.heap.size + 2, 0, none⟩), .pointer (some ⟨w.heap.size + 3, 0, none⟩)]) Value.nilFunc) W = .ok (.bool false) W := fun _ => rfl
  clear hro hra hL hLl hL1 hP hon bT bF b3 b4 hsz0 hB0 h
  gi_wp2_with fail
  refine wpIn_rangeFunc_ownH rfl (by decide) (gf := 50) (lb := #[.pointer (some ⟨w.heap.size + 2, 0, none⟩), .pointer (some ⟨w.heap.size + 3, 0, none⟩)]) rfl trivial (enters_of Try.func50 (by kernel_rfl) rfl) (HQ.out _ (by decide)) (fun h k => Kept.trans h k)
    (fun W l o o' hl _ _ _ b hb => World.putObj_heap_other (by have := hb.1; omega)) (Below.refl _ _) (fun _ => rfl)
    (StI W0 x L) (StX w x L)
    (fun s A B row hs hg hr => ⟨hs.1.trans ⟨hg.os, hg.tape, hg.output, hg.size, fun k hk => hg.block k (by have := hs.1.size; omega) (fun e => by have := (hr k e.symm).1; omega)⟩, hs.2⟩)
    (fun c s A B row hs hg hr => by
      have hs0 := HS0.out
      obtain ⟨h1, h2, pre', e, h3, h4, h5, h6⟩ := hs
      exact ⟨h1, h2.trans ⟨hg.os, hg.tape, hg.output, hg.size, fun k hk => hg.block k (by have := h2.size; omega) (fun e => by have := (hr k e.symm).1; omega)⟩, pre', e, h3, h4, h5, (hg.block _ h6.lt (fun e => by have := (hr _ e.symm).1; omega)).trans h6⟩)
    ⟨Below.refl _ _, fun e he => by cases he⟩
    (fun x' a' W => ∃ Bx, W0.heap.size ≤ Bx ∧ W.heap[Bx]? = some (.cells (rrC L[x'.1]) 32 (0, 0)) ∧ a' = { tmps := (Value.pointer (some (⟨lb, 0, none⟩ : Addr)) :: Value.pointer (some (⟨w.heap.size, 0, none⟩ : Addr)) :: Value.pointer (some (⟨w.heap.size + 1, 0, none⟩ : Addr)) :: Value.int .i64 (x'.1 : Int) :: Value.pointer (some (⟨Bx, 0, none⟩ : Addr)) :: Value.pointer (some (⟨lb, 0, none⟩ : Addr)) :: Value.func (Fn.func 50) #[] #[Value.pointer (some (⟨w.heap.size + 2, 0, none⟩ : Addr)), Value.pointer (some (⟨w.heap.size + 2 + 1, 0, none⟩ : Addr))] :: Value.int .i64 (x'.1 : Int) :: Value.agg (rrC L[x'.1]) :: undef :: undef :: undef :: undef :: undef :: undef :: undef :: undef :: []).toArray, defers := [] })
    (fun x' a' s A B row hs hg hr => by
      obtain ⟨Bx, h1, h2, h3⟩ := hs
      exact ⟨Bx, h1, blk_turn h2 hg (fun r e => (hr r e).2), h3⟩) ?assign ?body ?done ?stop
  case assign =>
    rintro l pre x' W K ⟨hB, hno⟩ hK
    have hs0 := HS0.out
    have ho1 : (L[x'.1]).2.oneCell' = true := (HL1.out x'.1 _ _ (List.getElem?_eq_getElem x'.2)).2
    simp only [offC, List.zip_toArray, List.zip_cons_cons, List.zip_nil_right, List.foldl_toArray', List.size_toArray, List.length_cons, List.length_nil, List.foldl_cons, List.foldl_nil, List.setIfInBounds_toArray, List.set_cons_succ, List.set_cons_zero]
    obtain ⟨r, hr⟩ : ∃ r, L[x'.1] = r := ⟨_, rfl⟩
    rw [hr] at ho1 ⊢
    gi_wp2_with (first | (refine wpListIn_allocRr rfl rfl ?_) | (refine wpListIn_storeRr rfl _ _ rfl W r ho1 ?_ ?_ ?_ ?_; rfl; rfl; rfl))
    have hBa := below_alloc W (.cells (rrC r) 32)
    have hKa : Kept (fun b => b < W0.heap.size ∧ b ≠ w.heap.size + 1) W (W.alloc (.cells (rrC r) 32)) := kept_below (fun b hb => Nat.lt_of_lt_of_le hb.1 hB.size) hBa
    exact hK _ _ ((KeepsOthers.alloc _ _).from _) hKa ⟨hB.trans (hBa.mono hB.size), hno⟩ ⟨W.heap.size, hB.size, by rw [hr]; exact alloc_blk _ _, by rw [hr]⟩
  case body =>
    rintro l pre ⟨j, hj⟩ a' W hl ⟨_, _⟩ ⟨hB, hno⟩ ⟨Bx, hBx, hx, rfl⟩ hlt
    dsimp only at hx ⊢
    have hs0 := HS0.out
    obtain ⟨r, hr⟩ : ∃ r, L[j] = r := ⟨_, rfl⟩
    rw [hr] at hx ⊢
    have hxr : x.rs[j]? = some r.1 := (HL1.out j r.1 r.2 (by rw [List.getElem?_eq_getElem hj, hr])).1
    have hki : r.1.key.In := key_in (hok.rs.2 r.1 (List.mem_of_getElem? hxr))
    have hx3 : Boxed W w.heap.size 24 (.pointer (some ⟨lb, 0, none⟩)) := (hB.block _ (by omega)).trans HX3.out
    have hx4 : Boxed W (w.heap.size + 1) 3 (.int .i64 0) := (hB.block _ (by omega)).trans HX4.out
    have HL : Hid (LgS own W lb x q rv sv mb us) := HS.out.below (HB0.out.trans (hB.mono (by omega)))
    have hwl : w.heap.size < W.heap.size := hx3.lt
    have hbl : Bx < W.heap.size := lt_blk hx
    have HX : Hid (W.heap[Bx]? = some (.cells (rrC r) 32 (0, 0))) := hx
    have HY3 : Hid (Boxed W w.heap.size 24 (.pointer (some ⟨lb, 0, none⟩))) := hx3
    have HY4 : Hid (Boxed W (w.heap.size + 1) 3 (.int .i64 0)) := hx4
    have HB : Hid (Below W0.heap.size W0 W) := hB
    have HR : Hid (L[j] = r) := hr
    have HKI : Hid r.1.key.In := hki
    clear hx hx3 hx4 hB hr hxr hki hs0
    gi_wp2_with fail
    refine wpIn_region_growG (by kernel_rfl) (by kernel_rfl) (fun xS => { tmps := (Value.pointer (some (⟨lb, 0, none⟩ : Addr)) :: Value.pointer (some (⟨w.heap.size, 0, none⟩ : Addr)) :: Value.pointer (some (⟨w.heap.size + 1, 0, none⟩ : Addr)) :: Value.int .i64 (j : Int) :: Value.pointer (some (⟨Bx, 0, none⟩ : Addr)) :: Value.pointer (some (⟨lb, 0, none⟩ : Addr)) :: Value.func (Fn.func 50) #[] #[Value.pointer (some (⟨w.heap.size + 2, 0, none⟩ : Addr)), Value.pointer (some (⟨w.heap.size + 2 + 1, 0, none⟩ : Addr))] :: Value.int .i64 (j : Int) :: Value.agg (rrC r) :: xS 0 :: xS 1 :: xS 2 :: xS 3 :: xS 4 :: undef :: undef :: undef :: []).toArray, defers := [] })
      (fun ii xx WW => match ii with | 0 => xx = .pointer (some ⟨lb, 0, none⟩) | 1 => xx = .agg (rrC r) | 2 => xx = .agg (kyC r.1.key) | 3 => xx = .bool (x.ended r.1.key) | 4 => xx = .bool (!x.ended r.1.key) | _ => True) (fun | 0 => undef | 1 => undef | 2 => undef | 3 => undef | 4 => undef | _ => undef) (by repeat (first | exact trivial | refine ⟨fun _ _ => rfl, ?_⟩)) (fun _ _ _ _ _ h => h) ⟨?_, ?_, ?_, ?_, ?_, trivial⟩ ?_
    · intro xS W3 hB hp K hK
      rw [if_pos (wanted_none rfl _)]
      clear hp
      have hbx : Boxed W3 w.heap.size 24 (.pointer (some ⟨lb, 0, none⟩)) := (hB.block _ hwl).trans HY3.out
      have hc := hbx.cell
      go_simp
      exact hK _ _ (Below.refl _ _) rfl
    · intro xS W3 hB hp K hK
      rw [if_pos (wanted_none rfl _)]
      clear hp
      refine wpIn_loadRr _ rfl Bx 0 r rfl (fun i u hu => ?_) (hK _ _ (Below.refl _ _) rfl)
      rw [Nat.zero_add, cell_blk ((hB.block _ hbl).trans HX.out)]
      exact hu
    · intro xS W3 hB hp K hK
      rw [if_pos (wanted_none rfl _)]
      have h1 : xS 1 = .agg (rrC r) := hp.1 rfl
      clear hp
      simp only [h1] at hK ⊢
      clear h1
      go_simp
      refine ⟨trivial, ?_⟩
      refine (CallsIn.inRound l (callsIn_wide.2 (of_any r.1 r.2 W3))).mono ?_
      rintro e W4 ⟨rfl, hB4⟩
      exact hK _ _ hB4 rfl
    · intro xS W3 hB hp K hK
      rw [if_pos (wanted_none rfl _)]
      have h0 : xS 0 = .pointer (some ⟨lb, 0, none⟩) := hp.1 rfl
      have h2 : xS 2 = .agg (kyC r.1.key) := hp.2.1 rfl
      clear hp
      simp only [h0, h2] at hK ⊢
      clear h0 h2
      go_simp
      refine ⟨trivial, ?_⟩
      refine (CallsIn.inRound l (callsIn_wide.2 (ended_at own W3 lb x q rv sv mb us (HL.out.below hB) r.1.key HKI.out hsl))).mono ?_
      rintro e W4 ⟨rfl, hB4⟩
      exact hK _ _ hB4 rfl
    · intro xS W3 hB hp K hK
      rw [if_pos (wanted_none rfl _)]
      have h3 : xS 3 = .bool (x.ended r.1.key) := hp.1 rfl
      clear hp
      simp only [h3] at hK ⊢
      clear h3
      go_simp
      exact hK _ _ (Below.refl _ _) rfl
    intro xS W3 hB3 hs
    have h4 : xS 4 = .bool (!x.ended r.1.key) := hs 4 (by simp)
    clear hs
    simp only [h4]
    have HB3 : Hid (Below W0.heap.size W0 W3) := HB.out.trans (hB3.mono HB.out.size)
    have hx5 : Boxed W3 (w.heap.size + 1) 3 (.int .i64 0) := (hB3.block _ HY4.out.lt).trans HY4.out
    have hkf : KeepsFrom W0.heap.size W W3 := ⟨hB3.size, fun k o _ h _ => (hB3.block k (Array.getElem?_eq_some_iff.1 h).1).trans h⟩
    have hkp : Kept (fun b => b < W0.heap.size ∧ b ≠ w.heap.size + 1) W W3 := kept_below (fun b hb => Nat.lt_of_lt_of_le hb.1 HB.out.size) hB3
    have c5 := hx5.cell
    have f5 := hx5.frozen
    have HX5 : Hid (Boxed W3 (w.heap.size + 1) 3 (.int .i64 0)) := hx5
    have HKF : Hid _ := hkf
    have HKP : Hid _ := hkp
    clear hx5 hkf hkp h4
    cases hc : x.ended r.1.key
    · gi_wp2_with fail
      have hs0 := HS0.out
      have hsz : W.heap.size ≤ (W3.setCell ⟨w.heap.size + 1, 0, none⟩ (.int .i64 (j : Int))).heap.size := by simp [World.setCell]; exact HKF.out.size
      refine ⟨⟨hsz, fun k o hk h1 h2 => (set_blk_other _ _ (by omega)).trans (HKF.out.same k o hk h1 h2)⟩, rfl, (HB0.out.trans (HB3.out.mono HB0.out.size)).setCell (p := ⟨w.heap.size + 1, 0, none⟩) (by simp) _, pre, ⟨j, hj⟩, rfl, hno, ?_, HX5.out.set _⟩
      show x.ended (L[j]).1.key = false
      rw [HR.out]; exact hc
    · gi_wp2_with fail
      refine ⟨HKF.out, HKP.out, HB3.out, fun k hk => ?_⟩
      rcases List.mem_append.1 hk with hk | hk
      · exact hno k hk
      · obtain rfl := List.mem_singleton.1 hk
        show x.ended (L[j]).1.key = true
        rw [HR.out]; exact hc
  case done =>
    rintro D ys W hD rfl ⟨hB, hno⟩ hK
    have hs0 := HS0.out
    have hx3 : Boxed W w.heap.size 24 (.pointer (some ⟨lb, 0, none⟩)) := (hB.block _ (by omega)).trans HX3.out
    have hx4 : Boxed W (w.heap.size + 1) 3 (.int .i64 0) := (hB.block _ (by omega)).trans HX4.out
    have c3 := hx3.cell
    have c4 := hx4.cell
    have f4 := hx4.frozen
    have HN : Hid (x.stable = (x.rs.length : Int)) := by
      show x.stable = (x.rs.length : Int)
      unfold Pl.stable
      suffices hall : ∀ r ∈ x.rs, x.ended r.key = true by rw [stab_all hall, Nat.zero_add]
      intro r hr
      obtain ⟨j, hj⟩ := List.mem_iff_getElem?.1 hr
      have hjl : j < L.length := by rw [HLl.out]; exact (List.getElem?_eq_some_iff.1 hj).1
      have h1 := hno ⟨j, hjl⟩ (List.mem_of_getElem? (i := j) (by rw [toldK_at L 0 j (by omega)]; simp))
      have h2 := (HL1.out j L[j].1 L[j].2 (List.getElem?_eq_getElem hjl)).1
      rw [Option.some.inj (hj.symm.trans h2)]
      exact h1
    have HX : Hid (Boxed W (w.heap.size + 1) 3 (.int .i64 0)) := hx4
    have HBW : Hid (Below w.heap.size w W) := HB0.out.trans (hB.mono HB0.out.size)
    have HLG : Hid (LogAt own W lb x) := ⟨q, rv, sv, mb, us, HS.out.below HBW.out⟩
    clear hs0 hx4 hx3 hB hno
    gi_wp2_with fail
    refine ⟨trivial, ?_⟩
    refine (callsIn_wide.2 (Len_at own W lb x HLG.out)).mono ?_
    rintro e W2 ⟨rfl, rfl⟩
    gi_wp2_with fail
    have hb2 := HX.out.set (.int .i64 (x.rs.length : Int))
    have hKs : (W2.setCell ⟨w.heap.size + 1, 0, none⟩ (.int .i64 (x.rs.length : Int))).heap[D]? = some (.deferred (some [])) := (set_blk_other _ _ (by have := HS0.out; omega)).trans hK
    have hBs : Below w.heap.size w (W2.setCell ⟨w.heap.size + 1, 0, none⟩ (.int .i64 (x.rs.length : Int))) := HBW.out.setCell (p := ⟨w.heap.size + 1, 0, none⟩) (by simp) _
    refine ⟨by simp, .inl ⟨_, _, rfl, run_takeDeferred hKs, ?_⟩⟩
    rw [HN.out]
    refine ⟨_, results_int rfl _ _ (w.heap.size + 1) (.int .i64 (x.rs.length : Int)) rfl ?_, rfl, hBs.trans (belowK_b (w := w) (Nat.le_refl _) _ D _ _ (by have := HS0.out; omega) hKs rfl rfl)⟩
    rw [World.cell?_of_block (a := ⟨w.heap.size + 1, 0, none⟩) (World.putObj_heap_other (by show w.heap.size + 1 ≠ D; have := HS0.out; omega))]
    exact hb2.cell
  case stop =>
    rintro D c pre W hD hpre ⟨rfl, hB, pre', e, rfl, hno, hhit, hbox⟩ hK
    gi_wp2_with fail
    refine ⟨by simp, .inl ⟨_, _, rfl, run_takeDeferred hK, ?_⟩⟩
    have hlen : pre'.length < (pre' ++ [e]).length := by simp
    have he := told_at hpre hlen
    rw [List.getElem_append_right (Nat.le_refl _)] at he
    simp at he
    obtain ⟨ev, eh⟩ := e
    dsimp only at he hhit hbox
    subst he
    have hf : x.stable = ((0 + pre'.length : Nat) : Int) := by
      have h2 := (HL1.out pre'.length L[pre'.length].1 L[pre'.length].2 (List.getElem?_eq_getElem eh)).1
      refine stab_at h2 hhit fun j r' hj hr' => ?_
      have hje := told_at hpre (j := j) (by simp; omega)
      rw [List.getElem_append_left hj, Nat.zero_add] at hje
      have h3 := (HL1.out (pre'[j]).1 L[(pre'[j]).1].1 L[(pre'[j]).1].2 (List.getElem?_eq_getElem (pre'[j]).2)).1
      have h5 : x.rs[(pre'[j]).1]? = some r' := by rw [hje]; exact hr'
      have h4 := hno (pre'[j]) (List.getElem_mem hj)
      rw [Option.some.inj (h5.symm.trans h3)]
      exact h4
    rw [hf, Nat.zero_add]
    refine ⟨_, results_int rfl _ _ (w.heap.size + 1) (.int .i64 (pre'.length : Int)) rfl ?_, rfl, hB.trans (belowK_b (w := w) (Nat.le_refl _) _ D _ _ (by have := HS0.out; omega) hK rfl rfl)⟩
    rw [World.cell?_of_block (a := ⟨w.heap.size + 1, 0, none⟩) (World.putObj_heap_other (by show w.heap.size + 1 ≠ D; have := HS0.out; omega))]
    exact hbox.cell
theorem kept_stops_nil (f : Nat) (w : World) (n : Nat) (hn : 1 ≤ n) (B0 B1 : Nat) (P : Nat → Prop) (hP : ∀ b, P b → b < w.heap.size) (h0 : Boxed w B0 3 (.int .i64 (f : Int))) (h1 : Boxed w B1 40 (.slice none 0 0)) (p0 : P B0) (p1 : P B1) :
    SeqStopsK Fence.wide n Try.prog 50 #[.pointer (some ⟨B0, 0, none⟩), .pointer (some ⟨B1, 0, none⟩)] (offC []) (Kept P) (fun xs => xs = toldK [] f) (fun pre => pre <+: toldK [] f) 100000 w :=
  kept_stops P f f (by omega) (.slice none 0 0) [] (by simp) B0 B1 w hP ⟨h0.cell, h1.cell, p0, p1, ⟨none, 0, rfl⟩, fun h => absurd h (by simp)⟩ n hn
end Go.Proofs.Ytjinhahfpkcilaa
