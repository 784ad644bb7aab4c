/- Append. -/
import Derived.Test.YtjinhahfpkcilaaPlO
namespace Go.Proofs.Ytjinhahfpkcilaa
open Go.RowKit Go.Dig Go.Inv Go.Oct
set_option linter.unusedVariables false
set_option linter.unusedSimpArgs false

theorem Append_nil (r : Rc) (u : Value) (w : World) : Calls Try.prog 20 #[.pointer none, .agg (rrC (r, u))] w fun e w' => e = .returned (.tuple #[.int .i64 0, .int .i64 1]) ∧ Below w.heap.size w w' := by
  have hB0 := below_alloc w (.cells (rrC (r, u)) 32)
  go_enter Try.func20, Try.ntmps20
  go_wp2_with (first | (refine wpList_box_row rfl 32 _ rfl (rrC (r, u)) rfl ?_) | (refine wanted_do rfl fun _ _ => ?_))
  exact bodyPost_ret (v := .tuple #[.int .i64 0, .int .i64 1]) (by simp [results, Try.results20, go_sem]) rfl ⟨rfl, hB0⟩
theorem Pl.append_lets {x : Pl} {r : Rc} {n : Nat} {t : Option Wt} (hok : r.ok = true) (hp : r.p = (n : Int)) (ht : x.ws[n]? = some t) (hne : letsI t r.e ≠ 0) : x.append r = (0, letsI t r.e, x) := by
  unfold Pl.append
  rw [if_pos hok, hp, Pl.wr_at ht]
  cases t with
  | none => rfl
  | some t =>
    dsimp only [letsI] at hne ⊢
    split
    · rfl
    · split
      · rfl
      · rename_i h1 h2
        rw [if_neg h1, if_neg h2] at hne
        exact absurd rfl hne
theorem letsI_some {t : Option Wt} {e : Int} (h : letsI t e = 0) : ∃ wt, t = some wt ∧ ¬ e < wt.ep ∧ ¬ wt.ep < e := by
  cases t with
  | none => simp [letsI] at h
  | some t =>
    refine ⟨t, rfl, ?_⟩
    dsimp only [letsI] at h
    split at h
    · simp at h
    · split at h
      · simp at h
      · rename_i h1 h2; exact ⟨h1, h2⟩
theorem Pl.append_again {x : Pl} {r q : Rc} {n o : Nat} {wt : Wt} (hok : r.ok = true) (hp : r.p = (n : Int)) (ht : x.ws[n]? = some (some wt)) (h1 : wt.ep ≤ r.e) (h2 : r.e ≤ wt.ep) (hs : r.s < (wt.of.length : Int)) (ho : wt.of[r.s.toNat]? = some (o : Int)) (hq : x.rs[o]? = some q) : x.append r = ((againI q r o).1, (againI q r o).2, x) := by
  unfold Pl.append
  rw [if_pos hok, hp, Pl.wr_at ht]
  dsimp only
  rw [if_neg (by omega), if_neg (by omega), if_pos hs, ho]
  dsimp only
  rw [Int.toNat_natCast, hq]
  dsimp only
  unfold againI
  split <;> rfl
theorem Pl.append_takes {x : Pl} {r : Rc} {n : Nat} {wt : Wt} (hok : r.ok = true) (hp : r.p = (n : Int)) (ht : x.ws[n]? = some (some wt)) (h1 : wt.ep ≤ r.e) (h2 : r.e ≤ wt.ep) (hs : ¬ r.s < (wt.of.length : Int)) : x.append r = if x.takes wt r = 0 then ((x.rs.length : Int), 0, x.lay wt r) else (0, x.takes wt r, x) := by
  unfold Pl.append
  rw [if_pos hok, hp, Pl.wr_at ht]
  dsimp only
  rw [if_neg (by omega), if_neg (by omega), if_neg hs]
set_option maxRecDepth 10000 in
set_option maxHeartbeats 8000000 in
theorem Append_at (own : Own) (w : World) (lb : Nat) (x : Pl) (h : LogAt own w lb x) (r : Rc) (ao : Option Addr) (cap : Nat) (hr : RcIn w r ao cap) (hok : x.Ok) (hby : ∀ q ∈ x.rs, BytesL q.v) (hl : x.sp.length ≤ 80000) :
    Calls Try.prog 20 #[.pointer (some ⟨lb, 0, none⟩), .agg (rrC (r, .slice ao r.v.length cap))] w fun e w' => e = .returned (.tuple #[.int .i64 (x.append r).1, .int .i64 (x.append r).2.1]) ∧ ∃ own', LogAt own' w' lb (x.append r).2.2 ∧ Stp (fun _ => True) own own' w w' := by
  obtain ⟨q, rv, sv, mb, us, h⟩ := h
  have hb0 := alloc_blk w (.cells (rrC (r, .slice ao r.v.length cap)) 32)
  have hB0 := below_alloc w (.cells (rrC (r, .slice ao r.v.length cap)) 32)
  have h0 := h.below hB0
  have hr0 := hr.below hB0
  have hst0 : Stp (fun _ => True) own own w (w.alloc (.cells (rrC (r, .slice ao r.v.length cap)) 32)) := Stp.of_below hB0 h.owned
  obtain ⟨W0, HW0⟩ : ∃ W0, Hid (w.alloc (.cells (rrC (r, .slice ao r.v.length cap)) 32) = W0) := ⟨_, rfl⟩
  rw [HW0.out] at hb0 hB0 h0 hr0 hst0
  have HL0 : Hid (LgS own W0 lb x q rv sv mb us ∧ RcIn W0 r ao cap) := ⟨h0, hr0⟩
  have HST0 : Hid (Stp (fun _ => True) own own w W0) := hst0
  have HK0 : Hid (W0.heap[w.heap.size]? = some (.cells (rrC (r, .slice ao r.v.length cap)) 32 (0, 0))) := hb0
  have HOK : Hid (x.Ok ∧ ∀ q ∈ x.rs, BytesL q.v) := ⟨hok, hby⟩
  obtain ⟨kb, Hkb⟩ : ∃ p, Hid (w.heap.size = p) := ⟨_, rfl⟩
  have hmb := mayBe_any r ao cap W0
  go_enter Try.func20, Try.ntmps20
  go_upto_region 1 with (refine wpList_box_row rfl 32 _ rfl (rrC (r, .slice ao r.v.length cap)) rfl ?_; rw [HW0.out])
  rw [Hkb.out] at HK0 ⊢
  clear hb0 h0 h hB0 hst0 hr0 hr hok hby HW0
  cases hro : r.ok
  · rw [hro] at hmb
    have HE : Hid (x.append r = (0, 1, x)) := by show x.append r = _; unfold Pl.append; rw [hro]; rfl
    go_wp2_with (first | (refine wpList_load_agg_g rfl 32 (by kernel_rfl) _ rfl kb (rrC (r, .slice ao r.v.length cap)) 32 (0, 0) ?_ HK0.out (by kernel_rfl) ?_; rfl) | (go_at_call 36; refine hmb.mono ?_; rintro e w1 ⟨rfl, hB1⟩) | (refine wanted_do rfl fun _ _ => ?_))
    refine bodyPost_ret (v := .tuple #[.int .i64 0, .int .i64 1]) (by simp [results, Try.results20, go_sem]) rfl ⟨by rw [HE.out], own, by rw [HE.out]; exact ⟨_, _, _, _, _, HL0.out.1.below hB1⟩, HST0.out.trans (Stp.of_below hB1 HL0.out.1.owned)⟩
  · rw [hro] at hmb
    have hpe := hro
    simp [Rc.ok, okW, okT] at hpe
    obtain ⟨n, hn⟩ : ∃ n : Nat, r.p = (n : Int) := ⟨r.p.toNat, by omega⟩
    go_upto_region 3 with (first | (refine wpList_load_agg_g rfl 32 (by kernel_rfl) _ rfl kb (rrC (r, .slice ao r.v.length cap)) 32 (0, 0) ?_ HK0.out (by kernel_rfl) ?_; rfl) | (go_at_call 36; refine hmb.mono ?_; rintro e w1 ⟨rfl, hB1⟩) | (refine wanted_do rfl fun _ _ => ?_))
    have hn8 : (n : Int) < 8 := by omega
    have hL1 := HL0.out.1.below hB1
    obtain ⟨b, t, hq, ht, hc, hW⟩ := hL1.c (n := n) (by omega)
    have hs0 : 0 ≤ r.s := by omega
    have hk1 := (hB1.block kb (lt_blk HK0.out)).trans HK0.out
    have k0 : w1.cell? ⟨kb, 0, none⟩ = some (.int .i64 (n : Int)) := by rw [← hn]; exact cell_blk hk1 0
    have hlt := lt_blk hL1.blk
    have hkt := lt_blk hk1
    have HL1 : Hid (LgS own w1 lb x q rv sv mb us ∧ RcIn w1 r ao cap) := ⟨hL1, HL0.out.2.below hB1⟩
    have HST1 : Hid (Stp (fun _ => True) own own w w1) := HST0.out.trans (Stp.of_below hB1 HL0.out.1.owned)
    have HK1 : Hid (w1.heap[kb]? = some (.cells (rrC (r, .slice ao r.v.length cap)) 32 (0, 0))) := hk1
    have HN : Hid (r.ok = true ∧ r.p = (n : Int) ∧ x.ws[n]? = some t ∧ q[n]? = some b) := ⟨hro, hn, ht, hq⟩
    have HW1 : Hid (WrAt own w1 n b t) := hW
    clear hL1 hk1 HL0 HST0 HK0 hpe hro hn hq ht hW hmb hB1
    refine wp_region_growG (by kernel_rfl) (by kernel_rfl) (fun xs3 => { tmps := (Value.pointer (some (⟨lb, 0, none⟩ : Addr)) :: Value.agg (rrC (r, Value.slice ao r.v.length cap)) :: undef :: Value.pointer (some (⟨kb, 0, none⟩ : Addr)) :: Value.int IntKind.i64 0 :: Value.int IntKind.i64 0 :: xs3 7 :: undef :: undef :: Value.pointer (some (⟨lb, 0, none⟩ : Addr)) :: Value.bool false :: Value.bool false :: Value.agg (rrC (r, Value.slice ao r.v.length cap)) :: Value.bool true :: Value.bool false :: Value.bool false :: xs3 0 :: xs3 1 :: xs3 2 :: xs3 3 :: xs3 4 :: xs3 5 :: xs3 6 :: undef :: undef :: undef :: undef :: undef :: undef :: undef :: undef :: undef :: undef :: undef :: undef :: undef :: undef :: undef :: undef :: undef :: undef :: undef :: undef :: undef :: undef :: undef :: undef :: undef :: undef :: undef :: undef :: undef :: undef :: undef :: undef :: undef :: undef :: undef :: undef :: undef :: undef :: undef :: []).toArray, defers := [] })
      (fun ii xx WW => match ii with | 0 => xx = Value.pointer (some (⟨lb, 0, none⟩ : Addr)) | 1 => xx = .pointer (some ⟨kb, 0, none⟩) | 2 => xx = .int .i64 (n : Int) | 3 => xx = Value.pointer (some (⟨lb, 0, none⟩ : Addr)) | 4 => xx = .pointer (some ⟨lb, 0, none⟩) | 5 => xx = .pointer (some ⟨lb, n, none⟩) | 6 => xx = .pointer (b.map fun k => ⟨k, 0, none⟩) | 7 => xx = .pointer (b.map fun k => ⟨k, 0, none⟩) | _ => True) (fun | 0 => undef | 1 => undef | 2 => undef | 3 => undef | 4 => undef | 5 => undef | 6 => undef | 7 => undef | _ => undef) (by repeat (first | exact trivial | refine ⟨fun _ _ => rfl, ?_⟩)) (fun _ _ _ _ _ h => h) ⟨?_, ?_, ?_, ?_, ?_, ?_, ?_, ?_, trivial⟩ ?_
    · intro xs3 W hB hp K hK
      rw [if_pos (wanted_none rfl _)]
      clear hp
      go_simp
      exact hK _ _ (Below.refl _ _) rfl
    · intro xs3 W hB hp K hK
      rw [if_pos (wanted_none rfl _)]
      clear hp
      go_simp
      exact hK _ _ (Below.refl _ _) rfl
    · intro xs3 W hB hp K hK
      rw [if_pos (wanted_none rfl _)]
      have h1 : xs3 1 = .pointer (some ⟨kb, 0, none⟩) := hp.1 rfl
      clear hp
      have hc := (hB.cell (p := ⟨kb, 0, none⟩) hkt).trans k0
      simp only [h1] at hK ⊢
      clear h1
      go_simp
      exact hK _ _ (Below.refl _ _) rfl
    · intro xs3 W hB hp K hK
      rw [if_pos (wanted_none rfl _)]
      have h0 : xs3 0 = Value.pointer (some (⟨lb, 0, none⟩ : Addr)) := hp.1 rfl
      clear hp
      simp only [h0] at hK ⊢
      clear h0
      go_simp
      exact hK _ _ (Below.refl _ _) rfl
    · intro xs3 W hB hp K hK
      rw [if_pos (wanted_none rfl _)]
      have h3 : xs3 3 = Value.pointer (some (⟨lb, 0, none⟩ : Addr)) := hp.1 rfl
      clear hp
      simp only [h3] at hK ⊢
      clear h3
      go_simp
      exact hK _ _ (Below.refl _ _) rfl
    · intro xs3 W hB hp K hK
      rw [if_pos (wanted_none rfl _)]
      have h2 : xs3 2 = .int .i64 (n : Int) := hp.2.1 rfl
      have h4 : xs3 4 = .pointer (some ⟨lb, 0, none⟩) := hp.1 rfl
      clear hp
      simp only [h2, h4] at hK ⊢
      clear h2 h4
      go_simp
      exact hK _ _ (Below.refl _ _) rfl
    · intro xs3 W hB hp K hK
      rw [if_pos (wanted_none rfl _)]
      have h5 : xs3 5 = .pointer (some ⟨lb, n, none⟩) := hp.1 rfl
      clear hp
      have hcc := (hB.cell (p := ⟨lb, n, none⟩) hlt).trans hc
      simp only [h5] at hK ⊢
      clear h5
      go_simp
      exact hK _ _ (Below.refl _ _) rfl
    · intro xs3 W hB hp K hK
      rw [if_pos (wanted_none rfl _)]
      have h6 : xs3 6 = .pointer (b.map fun k => ⟨k, 0, none⟩) := hp.1 rfl
      clear hp
      simp only [h6] at hK ⊢
      clear h6
      go_simp
      exact hK _ _ (Below.refl _ _) rfl
    intro xs3 W3 hB3 hs
    have h7 : xs3 7 = .pointer (b.map fun k => ⟨k, 0, none⟩) := hs 7 (by simp)
    clear hs
    simp only [h7]
    have hL3 := HL1.out.1.below hB3
    have HL3 : Hid (LgS own W3 lb x q rv sv mb us ∧ RcIn W3 r ao cap) := ⟨hL3, HL1.out.2.below hB3⟩
    have HST3 : Hid (Stp (fun _ => True) own own w W3) := HST1.out.trans (Stp.of_below hB3 HL1.out.1.owned)
    have hk3 := (hB3.block kb hkt).trans HK1.out
    have HK3 : Hid (W3.heap[kb]? = some (.cells (rrC (r, .slice ao r.v.length cap)) 32 (0, 0))) := hk3
    have HW3 : Hid (WrAt own W3 n b t) := HW1.out.keep (Ext.refl _) fun k hk => hk.elim (fun e => hB3.block k (HL1.out.1.owned k _ e)) (fun e => hB3.block k (HL1.out.1.owned k _ e))
    have ke : W3.cell? ⟨kb, 1, none⟩ = some (.int .i64 r.e) := cell_blk hk3 1
    have k3 : W3.cell? ⟨kb, 3, none⟩ = some (.int .i64 r.s) := cell_blk hk3 3
    have hkt3 := lt_blk hk3
    have HLE : Hid (Calls Try.prog 37 #[.pointer (b.map fun k => ⟨k, 0, none⟩), .int .i64 r.e] W3 fun x w' => x = .returned (.int .i64 (letsI t r.e)) ∧ w' = W3) := lets_any own W3 n b t r.e HW3.out
    clear hL3 hk3 hB3 HL1 HST1 HK1 HW1 h7 k0 hc
    by_cases hle : letsI t r.e = 0
    · obtain ⟨wt, rfl, hn1, hn2⟩ := letsI_some hle
      rw [hle] at HLE
      have HNE : Hid (wt.ep ≤ r.e ∧ r.e ≤ wt.ep) := ⟨by omega, by omega⟩
      obtain ⟨wb, rfl⟩ : ∃ k, b = some k := by
        cases b with
        | none => exact HW3.out.elim
        | some k => exact ⟨k, rfl⟩
      obtain ⟨v, hwb, hwl, hof, -⟩ := HW3.out
      obtain ⟨oa, oc, rfl⟩ := hof.form
      have c1 : W3.cell? ⟨wb, 1, none⟩ = some (.slice oa wt.of.length oc) := cell_blk hwb 1
      have hwlt := lt_blk hwb
      have hoff := HOK.out.1.off n wt HN.out.2.2.1
      have HOF : Hid ((∀ o ∈ wt.of, 0 ≤ o ∧ o < (x.rs.length : Int)) ∧ wt.of.length ≤ 1000) := ⟨hoff.1, by have := hoff.2.1; have := HOK.out.1.rs.1; omega⟩
      have hol := HOF.out.2
      clear hle hn1 hn2 hwl hof hoff hwb
      go_upto_region 7 with (first | (go_at_call 37; refine HLE.out.mono ?_; rintro e w4 ⟨rfl, rfl⟩))
      by_cases hsl : r.s < (wt.of.length : Int)
      · skip
        refine wp_region_growG (by kernel_rfl) (by kernel_rfl) (fun xs7 => { tmps := (Value.pointer (some (⟨lb, 0, none⟩ : Addr)) :: Value.agg (rrC (r, Value.slice ao r.v.length cap)) :: undef :: Value.pointer (some (⟨kb, 0, none⟩ : Addr)) :: Value.int IntKind.i64 0 :: Value.int IntKind.i64 0 :: Value.pointer (some (⟨wb, 0, none⟩ : Addr)) :: Value.int IntKind.i64 0 :: undef :: Value.pointer (some (⟨lb, 0, none⟩ : Addr)) :: Value.bool false :: Value.bool false :: Value.agg (rrC (r, Value.slice ao r.v.length cap)) :: Value.bool true :: Value.bool false :: Value.bool false :: xs3 0 :: xs3 1 :: xs3 2 :: xs3 3 :: xs3 4 :: xs3 5 :: xs3 6 :: Value.pointer (some (⟨wb, 0, none⟩ : Addr)) :: Value.pointer (some (⟨kb, 1, none⟩ : Addr)) :: Value.int IntKind.i64 r.e :: Value.int IntKind.i64 0 :: Value.int IntKind.i64 0 :: Value.bool false :: undef :: xs7 0 :: xs7 1 :: xs7 2 :: xs7 3 :: xs7 4 :: xs7 5 :: xs7 6 :: xs7 7 :: undef :: undef :: undef :: undef :: undef :: undef :: undef :: undef :: undef :: undef :: undef :: undef :: undef :: undef :: undef :: undef :: undef :: undef :: undef :: undef :: undef :: undef :: undef :: undef :: []).toArray, defers := [] })
          (fun ii xx WW => match ii with | 0 => xx = .pointer (some ⟨kb, 3, none⟩) | 1 => xx = .int .i64 r.s | 2 => xx = Value.pointer (some (⟨wb, 0, none⟩ : Addr)) | 3 => xx = Value.pointer (some (⟨wb, 0, none⟩ : Addr)) | 4 => xx = .pointer (some ⟨wb, 1, none⟩) | 5 => xx = .slice oa wt.of.length oc | 6 => xx = .int .i64 (wt.of.length : Int) | 7 => xx = .bool true | _ => True) (fun | 0 => undef | 1 => undef | 2 => undef | 3 => undef | 4 => undef | 5 => undef | 6 => undef | 7 => undef | _ => undef) (by repeat (first | exact trivial | refine ⟨fun _ _ => rfl, ?_⟩)) (fun _ _ _ _ _ h => h) ⟨?_, ?_, ?_, ?_, ?_, ?_, ?_, ?_, trivial⟩ ?_
        · intro xs7 W hB hp K hK
          rw [if_pos (wanted_none rfl _)]
          clear hp
          go_simp
          exact hK _ _ (Below.refl _ _) rfl
        · intro xs7 W hB hp K hK
          rw [if_pos (wanted_none rfl _)]
          have h0 : xs7 0 = .pointer (some ⟨kb, 3, none⟩) := hp.1 rfl
          clear hp
          have hc := (hB.cell (p := ⟨kb, 3, none⟩) hkt3).trans k3
          simp only [h0] at hK ⊢
          clear h0
          go_simp
          exact hK _ _ (Below.refl _ _) rfl
        · intro xs7 W hB hp K hK
          rw [if_pos (wanted_none rfl _)]
          clear hp
          go_simp
          exact hK _ _ (Below.refl _ _) rfl
        · intro xs7 W hB hp K hK
          rw [if_pos (wanted_none rfl _)]
          have h2 : xs7 2 = Value.pointer (some (⟨wb, 0, none⟩ : Addr)) := hp.1 rfl
          clear hp
          simp only [h2] at hK ⊢
          clear h2
          go_simp
          exact hK _ _ (Below.refl _ _) rfl
        · intro xs7 W hB hp K hK
          rw [if_pos (wanted_none rfl _)]
          have h3 : xs7 3 = Value.pointer (some (⟨wb, 0, none⟩ : Addr)) := hp.1 rfl
          clear hp
          simp only [h3] at hK ⊢
          clear h3
          go_simp
          exact hK _ _ (Below.refl _ _) rfl
        · intro xs7 W hB hp K hK
          rw [if_pos (wanted_none rfl _)]
          have h4 : xs7 4 = .pointer (some ⟨wb, 1, none⟩) := hp.1 rfl
          clear hp
          have hc := (hB.cell (p := ⟨wb, 1, none⟩) hwlt).trans c1
          simp only [h4] at hK ⊢
          clear h4
          go_simp
          exact hK _ _ (Below.refl _ _) rfl
        · intro xs7 W hB hp K hK
          rw [if_pos (wanted_none rfl _)]
          have h5 : xs7 5 = .slice oa wt.of.length oc := hp.1 rfl
          clear hp
          simp only [h5] at hK ⊢
          clear h5
          go_simp
          exact hK _ _ (Below.refl _ _) rfl
        · intro xs7 W hB hp K hK
          rw [if_pos (wanted_none rfl _)]
          have h1 : xs7 1 = .int .i64 r.s := hp.1 rfl
          have h6 : xs7 6 = .int .i64 (wt.of.length : Int) := hp.2.1 rfl
          clear hp
          simp only [h1, h6] at hK ⊢
          clear h1 h6
          go_simp
          exact hK _ _ (Below.refl _ _) rfl
        intro xs7 W4 hB4 hs
        have h7 : xs7 7 = .bool true := hs 7 (by simp)
        clear hs
        simp only [h7]
        obtain ⟨s, hs⟩ : ∃ s : Nat, r.s = (s : Int) := ⟨r.s.toNat, by omega⟩
        have hsn : s < wt.of.length := by omega
        have HW4 : Hid (WrAt own W4 n (some wb) (some wt)) := HW3.out.keep (Ext.refl _) fun k hk => hk.elim (fun e => hB4.block k (HL3.out.1.owned k _ e)) (fun e => hB4.block k (HL3.out.1.owned k _ e))
        obtain ⟨v4, hwb4, -, hof4, -⟩ := HW4.out
        obtain ⟨og, oc4, ev4, -, hog, hoc⟩ := hof4.at (by omega)
        subst ev4
        obtain ⟨oz, hoz⟩ : ∃ z, wt.of[s]? = some z := ⟨wt.of[s], List.getElem?_eq_getElem hsn⟩
        obtain ⟨hz0, hz1⟩ := HOF.out.1 oz (List.mem_of_getElem? hoz)
        obtain ⟨o, rfl⟩ : ∃ o : Nat, oz = (o : Int) := ⟨oz.toNat, by omega⟩
        have hco : W4.cell? ⟨og, s, none⟩ = some (.int .i64 (o : Int)) := by have := hoc s _ hoz 0 _ rfl; rwa [Nat.mul_one, Nat.add_zero] at this
        obtain ⟨qr, hqr⟩ : ∃ z, x.rs[o]? = some z := ⟨x.rs[o]'(by omega), List.getElem?_eq_getElem _⟩
        have HX : Hid (x.append r = ((againI qr r o).1, (againI qr r o).2, x)) := Pl.append_again HN.out.1 HN.out.2.1 HN.out.2.2.1 HNE.out.1 HNE.out.2 hsl (by rw [hs, Int.toNat_natCast]; exact hoz) hqr
        have HQR : Hid (x.rs[o]? = some qr ∧ BytesL qr.v) := ⟨hqr, HOK.out.2 qr (List.mem_of_getElem? hqr)⟩
        have HL4 : Hid (LgS own W4 lb x q rv sv mb us ∧ RcIn W4 r ao cap) := ⟨HL3.out.1.below hB4, HL3.out.2.below hB4⟩
        have HST4 : Hid (Stp (fun _ => True) own own w W4) := HST3.out.trans (Stp.of_below hB4 HL3.out.1.owned)
        have HK4 : Hid (W4.heap[kb]? = some (.cells (rrC (r, .slice ao r.v.length cap)) 32 (0, 0))) := (hB4.block kb hkt3).trans HK3.out
        clear c1 k3
        have c1 : W4.cell? ⟨wb, 1, none⟩ = some (.slice (some ⟨og, 0, none⟩) wt.of.length oc4) := cell_blk hwb4 1
        have k3 : W4.cell? ⟨kb, 3, none⟩ = some (.int .i64 (s : Int)) := by rw [← hs]; exact cell_blk HK4.out 3
        have hwlt4 := lt_blk hwb4
        have hkt4 := lt_blk HK4.out
        have hss : (s : Int) < (wt.of.length : Int) := by omega
        have hs9 : (s : Int) < 1001 := by omega
        clear hB4 HL3 HST3 HK3 HW3 ke h7 hsl HLE hwb4 hof4 hoc hoz hz0 hz1 hqr hs
        skip
        go_upto_region 8 with fail
        refine wp_region_growG (by kernel_rfl) (by kernel_rfl) (fun xs8 => { tmps := (Value.pointer (some (⟨lb, 0, none⟩ : Addr)) :: Value.agg (rrC (r, Value.slice ao r.v.length cap)) :: undef :: Value.pointer (some (⟨kb, 0, none⟩ : Addr)) :: xs8 13 :: xs8 14 :: Value.pointer (some (⟨wb, 0, none⟩ : Addr)) :: Value.int IntKind.i64 0 :: undef :: Value.pointer (some (⟨lb, 0, none⟩ : Addr)) :: Value.bool false :: Value.bool false :: Value.agg (rrC (r, Value.slice ao r.v.length cap)) :: Value.bool true :: Value.bool false :: Value.bool false :: xs3 0 :: xs3 1 :: xs3 2 :: xs3 3 :: xs3 4 :: xs3 5 :: xs3 6 :: Value.pointer (some (⟨wb, 0, none⟩ : Addr)) :: Value.pointer (some (⟨kb, 1, none⟩ : Addr)) :: Value.int IntKind.i64 r.e :: Value.int IntKind.i64 0 :: Value.int IntKind.i64 0 :: Value.bool false :: undef :: xs7 0 :: xs7 1 :: xs7 2 :: xs7 3 :: xs7 4 :: xs7 5 :: xs7 6 :: Value.bool true :: xs8 0 :: xs8 1 :: xs8 2 :: xs8 3 :: xs8 4 :: xs8 5 :: xs8 6 :: xs8 7 :: xs8 8 :: xs8 9 :: xs8 10 :: xs8 11 :: xs8 12 :: undef :: undef :: undef :: undef :: undef :: undef :: undef :: undef :: undef :: undef :: undef :: []).toArray, defers := [] })
          (fun ii xx WW => match ii with | 0 => xx = Value.pointer (some (⟨lb, 0, none⟩ : Addr)) | 1 => xx = Value.pointer (some (⟨wb, 0, none⟩ : Addr)) | 2 => xx = Value.pointer (some (⟨wb, 0, none⟩ : Addr)) | 3 => xx = .pointer (some ⟨wb, 1, none⟩) | 4 => xx = .slice (some ⟨og, 0, none⟩) wt.of.length oc4 | 5 => xx = .pointer (some ⟨kb, 3, none⟩) | 6 => xx = .int .i64 (s : Int) | 7 => xx = .pointer (some ⟨og, s, none⟩) | 8 => xx = .int .i64 (o : Int) | 9 => xx = .agg (rrC (r, .slice ao r.v.length cap)) | 10 => xx = .tuple #[.int .i64 (againI qr r o).1, .int .i64 (againI qr r o).2] | 11 => xx = .int .i64 (againI qr r o).1 | 12 => xx = .int .i64 (againI qr r o).2 | 13 => xx = .int .i64 (againI qr r o).1 | 14 => xx = .int .i64 (againI qr r o).2 | _ => True) (fun | 0 => undef | 1 => undef | 2 => undef | 3 => undef | 4 => undef | 5 => undef | 6 => undef | 7 => undef | 8 => undef | 9 => undef | 10 => undef | 11 => undef | 12 => undef | 13 => Value.int IntKind.i64 0 | 14 => Value.int IntKind.i64 0 | _ => undef) (by repeat (first | exact trivial | refine ⟨fun _ _ => rfl, ?_⟩)) (fun _ _ _ _ _ h => h) ⟨?_, ?_, ?_, ?_, ?_, ?_, ?_, ?_, ?_, ?_, ?_, ?_, ?_, ?_, ?_, trivial⟩ ?_
        · intro xs8 W hB hp K hK
          rw [if_pos (wanted_none rfl _)]
          clear hp
          go_simp
          exact hK _ _ (Below.refl _ _) rfl
        · intro xs8 W hB hp K hK
          rw [if_pos (wanted_none rfl _)]
          clear hp
          go_simp
          exact hK _ _ (Below.refl _ _) rfl
        · intro xs8 W hB hp K hK
          rw [if_pos (wanted_none rfl _)]
          have h1 : xs8 1 = Value.pointer (some (⟨wb, 0, none⟩ : Addr)) := hp.1 rfl
          clear hp
          simp only [h1] at hK ⊢
          clear h1
          go_simp
          exact hK _ _ (Below.refl _ _) rfl
        · intro xs8 W hB hp K hK
          rw [if_pos (wanted_none rfl _)]
          have h2 : xs8 2 = Value.pointer (some (⟨wb, 0, none⟩ : Addr)) := hp.1 rfl
          clear hp
          simp only [h2] at hK ⊢
          clear h2
          go_simp
          exact hK _ _ (Below.refl _ _) rfl
        · intro xs8 W hB hp K hK
          rw [if_pos (wanted_none rfl _)]
          have h3 : xs8 3 = .pointer (some ⟨wb, 1, none⟩) := hp.1 rfl
          clear hp
          have hc := (hB.cell (p := ⟨wb, 1, none⟩) hwlt4).trans c1
          simp only [h3] at hK ⊢
          clear h3
          go_simp
          exact hK _ _ (Below.refl _ _) rfl
        · intro xs8 W hB hp K hK
          rw [if_pos (wanted_none rfl _)]
          clear hp
          go_simp
          exact hK _ _ (Below.refl _ _) rfl
        · intro xs8 W hB hp K hK
          rw [if_pos (wanted_none rfl _)]
          have h5 : xs8 5 = .pointer (some ⟨kb, 3, none⟩) := hp.1 rfl
          clear hp
          have hc := (hB.cell (p := ⟨kb, 3, none⟩) hkt4).trans k3
          simp only [h5] at hK ⊢
          clear h5
          go_simp
          exact hK _ _ (Below.refl _ _) rfl
        · intro xs8 W hB hp K hK
          rw [if_pos (wanted_none rfl _)]
          have h4 : xs8 4 = .slice (some ⟨og, 0, none⟩) wt.of.length oc4 := hp.1 rfl
          have h6 : xs8 6 = .int .i64 (s : Int) := hp.2.1 rfl
          clear hp
          have hss := hss
          simp only [h4, h6] at hK ⊢
          clear h4 h6
          go_simp
          exact hK _ _ (Below.refl _ _) rfl
        · intro xs8 W hB hp K hK
          rw [if_pos (wanted_none rfl _)]
          have h7 : xs8 7 = .pointer (some ⟨og, s, none⟩) := hp.1 rfl
          clear hp
          have hcc := (hB.cell (p := ⟨og, s, none⟩) hog).trans hco
          simp only [h7] at hK ⊢
          clear h7
          go_simp
          exact hK _ _ (Below.refl _ _) rfl
        · intro xs8 W hB hp K hK
          rw [if_pos (wanted_none rfl _)]
          clear hp
          refine wp_load_agg 32 (by kernel_rfl) _ rfl kb (rrC (r, .slice ao r.v.length cap)) 32 (0, 0) ?_ ((hB.block kb hkt4).trans HK4.out) (by kernel_rfl) ?_
          · rfl
          exact hK _ _ (Below.refl _ _) rfl
        · intro xs8 W hB hp K hK
          rw [if_pos (wanted_none rfl _)]
          have h0 : xs8 0 = Value.pointer (some (⟨lb, 0, none⟩ : Addr)) := hp.1 rfl
          have h8 : xs8 8 = .int .i64 (o : Int) := hp.2.1 rfl
          have h9 : xs8 9 = .agg (rrC (r, .slice ao r.v.length cap)) := hp.2.2.1 rfl
          clear hp
          simp only [h0, h8, h9] at hK ⊢
          clear h0 h8 h9
          go_simp
          refine (again_at own _ lb x ⟨_, _, _, _, _, HL4.out.1.below hB⟩ o qr r HQR.out.1 HQR.out.2 ao cap (HL4.out.2.below hB) (by have := HOK.out.1.rs.1; omega)).mono ?_
          rintro e w' ⟨rfl, hB'⟩
          exact hK _ _ hB' rfl
        · intro xs8 W hB hp K hK
          rw [if_pos (wanted_none rfl _)]
          have h10 : xs8 10 = .tuple #[.int .i64 (againI qr r o).1, .int .i64 (againI qr r o).2] := hp.1 rfl
          clear hp
          simp only [h10] at hK ⊢
          clear h10
          go_simp
          exact hK _ _ (Below.refl _ _) rfl
        · intro xs8 W hB hp K hK
          rw [if_pos (wanted_none rfl _)]
          have h10 : xs8 10 = .tuple #[.int .i64 (againI qr r o).1, .int .i64 (againI qr r o).2] := hp.1 rfl
          clear hp
          simp only [h10] at hK ⊢
          clear h10
          go_simp
          exact hK _ _ (Below.refl _ _) rfl
        · intro xs8 W hB hp K hK
          rw [if_pos (wanted_none rfl _)]
          have h11 : xs8 11 = .int .i64 (againI qr r o).1 := hp.1 rfl
          clear hp
          simp only [h11] at hK ⊢
          clear h11
          go_simp
          exact hK _ _ (Below.refl _ _) rfl
        · intro xs8 W hB hp K hK
          rw [if_pos (wanted_none rfl _)]
          have h12 : xs8 12 = .int .i64 (againI qr r o).2 := hp.1 rfl
          clear hp
          simp only [h12] at hK ⊢
          clear h12
          go_simp
          exact hK _ _ (Below.refl _ _) rfl
        intro xs8 W5 hB5 hs
        have h13 : xs8 13 = .int .i64 (againI qr r o).1 := hs 13 (by simp)
        have h14 : xs8 14 = .int .i64 (againI qr r o).2 := hs 14 (by simp)
        clear hs
        simp only [h13, h14]
        go_wp2_with fail
        refine bodyPost_ret (v := .tuple #[.int .i64 (againI qr r o).1, .int .i64 (againI qr r o).2]) (by simp [results, Try.results20, go_sem]) rfl ⟨by rw [HX.out], own, by rw [HX.out]; exact ⟨_, _, _, _, _, HL4.out.1.below hB5⟩, HST4.out.trans (Stp.of_below hB5 HL4.out.1.owned)⟩
      · skip
        refine wp_region_growG (by kernel_rfl) (by kernel_rfl) (fun xs7 => { tmps := (Value.pointer (some (⟨lb, 0, none⟩ : Addr)) :: Value.agg (rrC (r, Value.slice ao r.v.length cap)) :: undef :: Value.pointer (some (⟨kb, 0, none⟩ : Addr)) :: Value.int IntKind.i64 0 :: Value.int IntKind.i64 0 :: Value.pointer (some (⟨wb, 0, none⟩ : Addr)) :: Value.int IntKind.i64 0 :: undef :: Value.pointer (some (⟨lb, 0, none⟩ : Addr)) :: Value.bool false :: Value.bool false :: Value.agg (rrC (r, Value.slice ao r.v.length cap)) :: Value.bool true :: Value.bool false :: Value.bool false :: xs3 0 :: xs3 1 :: xs3 2 :: xs3 3 :: xs3 4 :: xs3 5 :: xs3 6 :: Value.pointer (some (⟨wb, 0, none⟩ : Addr)) :: Value.pointer (some (⟨kb, 1, none⟩ : Addr)) :: Value.int IntKind.i64 r.e :: Value.int IntKind.i64 0 :: Value.int IntKind.i64 0 :: Value.bool false :: undef :: xs7 0 :: xs7 1 :: xs7 2 :: xs7 3 :: xs7 4 :: xs7 5 :: xs7 6 :: xs7 7 :: undef :: undef :: undef :: undef :: undef :: undef :: undef :: undef :: undef :: undef :: undef :: undef :: undef :: undef :: undef :: undef :: undef :: undef :: undef :: undef :: undef :: undef :: undef :: undef :: []).toArray, defers := [] })
          (fun ii xx WW => match ii with | 0 => xx = .pointer (some ⟨kb, 3, none⟩) | 1 => xx = .int .i64 r.s | 2 => xx = Value.pointer (some (⟨wb, 0, none⟩ : Addr)) | 3 => xx = Value.pointer (some (⟨wb, 0, none⟩ : Addr)) | 4 => xx = .pointer (some ⟨wb, 1, none⟩) | 5 => xx = .slice oa wt.of.length oc | 6 => xx = .int .i64 (wt.of.length : Int) | 7 => xx = .bool false | _ => True) (fun | 0 => undef | 1 => undef | 2 => undef | 3 => undef | 4 => undef | 5 => undef | 6 => undef | 7 => undef | _ => undef) (by repeat (first | exact trivial | refine ⟨fun _ _ => rfl, ?_⟩)) (fun _ _ _ _ _ h => h) ⟨?_, ?_, ?_, ?_, ?_, ?_, ?_, ?_, trivial⟩ ?_
        · intro xs7 W hB hp K hK
          rw [if_pos (wanted_none rfl _)]
          clear hp
          go_simp
          exact hK _ _ (Below.refl _ _) rfl
        · intro xs7 W hB hp K hK
          rw [if_pos (wanted_none rfl _)]
          have h0 : xs7 0 = .pointer (some ⟨kb, 3, none⟩) := hp.1 rfl
          clear hp
          have hc := (hB.cell (p := ⟨kb, 3, none⟩) hkt3).trans k3
          simp only [h0] at hK ⊢
          clear h0
          go_simp
          exact hK _ _ (Below.refl _ _) rfl
        · intro xs7 W hB hp K hK
          rw [if_pos (wanted_none rfl _)]
          clear hp
          go_simp
          exact hK _ _ (Below.refl _ _) rfl
        · intro xs7 W hB hp K hK
          rw [if_pos (wanted_none rfl _)]
          have h2 : xs7 2 = Value.pointer (some (⟨wb, 0, none⟩ : Addr)) := hp.1 rfl
          clear hp
          simp only [h2] at hK ⊢
          clear h2
          go_simp
          exact hK _ _ (Below.refl _ _) rfl
        · intro xs7 W hB hp K hK
          rw [if_pos (wanted_none rfl _)]
          have h3 : xs7 3 = Value.pointer (some (⟨wb, 0, none⟩ : Addr)) := hp.1 rfl
          clear hp
          simp only [h3] at hK ⊢
          clear h3
          go_simp
          exact hK _ _ (Below.refl _ _) rfl
        · intro xs7 W hB hp K hK
          rw [if_pos (wanted_none rfl _)]
          have h4 : xs7 4 = .pointer (some ⟨wb, 1, none⟩) := hp.1 rfl
          clear hp
          have hc := (hB.cell (p := ⟨wb, 1, none⟩) hwlt).trans c1
          simp only [h4] at hK ⊢
          clear h4
          go_simp
          exact hK _ _ (Below.refl _ _) rfl
        · intro xs7 W hB hp K hK
          rw [if_pos (wanted_none rfl _)]
          have h5 : xs7 5 = .slice oa wt.of.length oc := hp.1 rfl
          clear hp
          simp only [h5] at hK ⊢
          clear h5
          go_simp
          exact hK _ _ (Below.refl _ _) rfl
        · intro xs7 W hB hp K hK
          rw [if_pos (wanted_none rfl _)]
          have h1 : xs7 1 = .int .i64 r.s := hp.1 rfl
          have h6 : xs7 6 = .int .i64 (wt.of.length : Int) := hp.2.1 rfl
          clear hp
          simp only [h1, h6] at hK ⊢
          clear h1 h6
          go_simp
          exact hK _ _ (Below.refl _ _) rfl
        intro xs7 W4 hB4 hs
        have h7 : xs7 7 = .bool false := hs 7 (by simp)
        clear hs
        simp only [h7]
        have HX : Hid (x.append r = if x.takes wt r = 0 then ((x.rs.length : Int), 0, x.lay wt r) else (0, x.takes wt r, x)) := Pl.append_takes HN.out.1 HN.out.2.1 HN.out.2.2.1 HNE.out.1 HNE.out.2 hsl
        have HL4 : Hid (LgS own W4 lb x q rv sv mb us ∧ RcIn W4 r ao cap) := ⟨HL3.out.1.below hB4, HL3.out.2.below hB4⟩
        have HST4 : Hid (Stp (fun _ => True) own own w W4) := HST3.out.trans (Stp.of_below hB4 HL3.out.1.owned)
        have HK4 : Hid (W4.heap[kb]? = some (.cells (rrC (r, .slice ao r.v.length cap)) 32 (0, 0))) := (hB4.block kb hkt3).trans HK3.out
        have HW4 : Hid (WrAt own W4 n (some wb) (some wt)) := HW3.out.keep (Ext.refl _) fun k hk => hk.elim (fun e => hB4.block k (HL3.out.1.owned k _ e)) (fun e => hB4.block k (HL3.out.1.owned k _ e))
        have HTK : Hid (Calls Try.prog 39 #[.pointer (some ⟨lb, 0, none⟩), .pointer (some ⟨wb, 0, none⟩), .agg (rrC (r, .slice ao r.v.length cap))] W4 fun e w' => e = .returned (.int .i64 (x.takes wt r)) ∧ Below W4.heap.size W4 w') := takes_at own W4 lb x q rv sv mb us HL4.out.1 n wb wt HW4.out r _ HOK.out.1 HOF.out (by omega) HN.out.1
        clear hB4 HL3 HST3 HK3 HW3 k3 ke c1 h7 hsl HLE
        generalize x.takes wt r = z at *
        by_cases hz : z = 0
        · rw [if_pos hz] at HX
          subst hz
          go_wp2_with (first | (refine wpList_load_agg rfl 32 (by kernel_rfl) _ rfl kb (rrC (r, .slice ao r.v.length cap)) 32 (0, 0) ?_ HK4.out (by kernel_rfl) ?_; rfl) | (go_at_call 39; refine HTK.out.mono ?_; rintro e w5 ⟨rfl, hB5⟩; have hk5 := (hB5.block kb (lt_blk HK4.out)).trans HK4.out; clear HTK HK4) | (refine wpList_load_agg rfl 32 (by kernel_rfl) _ rfl kb (rrC (r, .slice ao r.v.length cap)) 32 (0, 0) ?_ hk5 (by kernel_rfl) ?_; rfl) | (go_at_call 40; refine (lay_at own w5 lb x q rv sv mb us (HL4.out.1.below hB5) n wb wt HN.out.2.2.2 HN.out.2.2.1 r HN.out.2.1 ao cap (HL4.out.2.below hB5) HN.out.1 (by omega) (by have := HOK.out.1.rs.1; omega) HOF.out.2).mono ?_; rintro e w6 ⟨rfl, own6, hL6, hS6⟩))
          refine bodyPost_ret (v := .tuple #[.int .i64 (x.rs.length : Int), .int .i64 0]) (by simp [results, Try.results20, go_sem]) rfl ⟨by rw [HX.out], own6, by rw [HX.out]; exact hL6, (HST4.out.trans (Stp.of_below hB5 HL4.out.1.owned)).trans hS6⟩
        · rw [if_neg hz] at HX
          go_wp2_with (first | (refine wpList_load_agg rfl 32 (by kernel_rfl) _ rfl kb (rrC (r, .slice ao r.v.length cap)) 32 (0, 0) ?_ HK4.out (by kernel_rfl) ?_; rfl) | (go_at_call 39; refine HTK.out.mono ?_; rintro e w5 ⟨rfl, hB5⟩; clear HTK HK4))
          refine bodyPost_ret (v := .tuple #[.int .i64 0, .int .i64 z]) (by simp [results, Try.results20, go_sem]) rfl ⟨by rw [HX.out], own, by rw [HX.out]; exact ⟨_, _, _, _, _, HL4.out.1.below hB5⟩, HST4.out.trans (Stp.of_below hB5 HL4.out.1.owned)⟩
    · have HE : Hid (x.append r = (0, letsI t r.e, x)) := Pl.append_lets HN.out.1 HN.out.2.1 HN.out.2.2.1 hle
      generalize letsI t r.e = z at *
      go_wp2_with (first | (go_at_call 37; refine HLE.out.mono ?_; rintro e w4 ⟨rfl, rfl⟩))
      refine bodyPost_ret (v := .tuple #[.int .i64 0, .int .i64 z]) (by simp [results, Try.results20, go_sem]) rfl ⟨by rw [HE.out], own, by rw [HE.out]; exact ⟨_, _, _, _, _, HL3.out.1⟩, HST3.out⟩
end Go.Proofs.Ytjinhahfpkcilaa
