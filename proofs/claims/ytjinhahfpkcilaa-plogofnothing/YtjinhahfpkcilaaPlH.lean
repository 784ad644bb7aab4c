/- Whether a record is taken. -/
import Derived.Test.YtjinhahfpkcilaaPlG
namespace Go.Proofs.Ytjinhahfpkcilaa
open Go.RowKit Go.Dig Go.Inv Go.Oct
set_option linter.unusedVariables false
set_option linter.unusedSimpArgs false

theorem Pl.takes_eq (x : Pl) (wt : Wt) (r : Rc) : x.takes wt r = if (r.s != (wt.of.length : Int)) = true then 8 else if x.ended r.key = true then 6 else if x.busy wt r.t = true then 6 else if 128 ≤ (x.rs.length : Int) then 3 else 0 := by
  unfold Pl.takes
  by_cases h : r.s = (wt.of.length : Int)
  · simp only [h, ne_eq, not_true_eq_false, if_false, bne_self_eq_false, Bool.false_eq_true]
    cases x.ended r.key <;> cases x.busy wt r.t <;> simp <;> (try (split <;> split <;> omega))
  · simp [h]
set_option maxRecDepth 10000 in
set_option maxHeartbeats 2000000 in
theorem takes_at (own : Own) (w : World) (lb : Nat) (x : Pl) (q : List (Option Nat)) (rv sv : Value) (mb : Option Nat) (us : List Value) (h : LgS own w lb x q rv sv mb us) (i wb : Nat) (wt : Wt) (hW : WrAt own w i (some wb) (some wt)) (r : Rc) (u : Value) (hok : x.Ok) (hwo : (∀ o ∈ wt.of, 0 ≤ o ∧ o < (x.rs.length : Int)) ∧ wt.of.length ≤ 1000) (hl : x.sp.length ≤ 90000) (hr : r.ok = true) :
    Calls Try.prog 39 #[.pointer (some ⟨lb, 0, none⟩), .pointer (some ⟨wb, 0, none⟩), .agg (rrC (r, u))] w fun e w' => e = .returned (.int .i64 (x.takes wt r)) ∧ Below w.heap.size w w' := by
  have HT : Hid (x.takes wt r = if (r.s != (wt.of.length : Int)) = true then 8 else if x.ended r.key = true then 6 else if x.busy wt r.t = true then 6 else if 128 ≤ (x.rs.length : Int) then 3 else 0) := x.takes_eq wt r
  have hb0 := alloc_blk w (.cells (rrC (r, u)) 32)
  have hB0 := below_alloc w (.cells (rrC (r, u)) 32)
  have h0 := h.below hB0
  have hW0 : WrAt own (w.alloc (.cells (rrC (r, u)) 32)) i (some wb) (some wt) := hW.keep (Ext.refl _) fun k hk => hk.elim (fun e => hB0.block k (h.owned k _ e)) (fun e => hB0.block k (h.owned k _ e))
  obtain ⟨W0, HW0⟩ : ∃ W0, Hid (w.alloc (.cells (rrC (r, u)) 32) = W0) := ⟨_, rfl⟩
  rw [HW0.out] at hb0 hB0 h0 hW0
  have HWr : Hid (WrAt own W0 i (some wb) (some wt)) := hW0
  obtain ⟨v, hwb, -, hof, -⟩ := hW0
  have c1 : W0.cell? ⟨wb, 1, none⟩ = some v := cell_blk hwb 1
  have hwlt := lt_blk hwb
  obtain ⟨oa, oc, rfl⟩ := hof.form
  have hlt := lt_blk h0.blk
  have HS : Hid (LgS own W0 lb x q rv sv mb us) := h0
  have HB0 : Hid (Below w.heap.size w W0) := hB0
  have HR : Hid (W0.heap[w.heap.size]? = some (.cells (rrC (r, u)) 32 (0, 0))) := hb0
  have HKI : Hid r.key.In := key_in hr
  have hkt := lt_blk hb0
  have k3 : W0.cell? ⟨w.heap.size, 3, none⟩ = some (.int .i64 r.s) := cell_blk hb0 3
  have k2 : W0.cell? ⟨w.heap.size, 2, none⟩ = some (.int .i64 r.t) := cell_blk hb0 2
  obtain ⟨kb, Hkb⟩ : ∃ p, Hid (w.heap.size = p) := ⟨_, rfl⟩
  have hwol := hwo.2
  have HWO : Hid ((∀ o ∈ wt.of, 0 ≤ o ∧ o < (x.rs.length : Int)) ∧ wt.of.length ≤ 1000) := hwo
  have hrl := hok.rs.1
  have HOK : Hid x.Ok := hok
  go_enter Try.func39, Try.ntmps39
  go_upto_region 1 with (refine wpList_box_row rfl 32 _ rfl (rrC (r, u)) rfl ?_; rw [HW0.out])
  rw [Hkb.out] at HR hkt k3 k2 ⊢
  clear hb0 h0 h hB0 HW0 hW hof hwb hr hwo hok
  cases hsb : (r.s != (wt.of.length : Int))
  · rw [hsb] at HT
    refine wp_region_growG (by kernel_rfl) (by kernel_rfl) (fun xS => { tmps := (Value.pointer (some (⟨lb, 0, none⟩ : Addr)) :: Value.pointer (some (⟨wb, 0, none⟩ : Addr)) :: Value.agg (rrC (r, u)) :: undef :: undef :: Value.pointer (some (⟨kb, 0, none⟩ : Addr)) :: Value.int IntKind.i64 0 :: xS 8 :: xS 0 :: xS 1 :: xS 2 :: xS 3 :: xS 4 :: xS 5 :: xS 6 :: xS 7 :: undef :: undef :: undef :: undef :: undef :: undef :: undef :: undef :: undef :: undef :: undef :: undef :: undef :: undef :: undef :: undef :: undef :: undef :: undef :: []).toArray, defers := [] })
      (fun ii xx WW => match ii with | 0 => xx = .pointer (some ⟨kb, 3, none⟩) | 1 => xx = .int .i64 r.s | 2 => xx = Value.pointer (some (⟨wb, 0, none⟩ : Addr)) | 3 => xx = Value.pointer (some (⟨wb, 0, none⟩ : Addr)) | 4 => xx = .pointer (some ⟨wb, 1, none⟩) | 5 => xx = .slice oa wt.of.length oc | 6 => xx = .int .i64 (wt.of.length : Int) | 7 => xx = .bool false | 8 => xx = .bool false | _ => True) (fun | 0 => undef | 1 => undef | 2 => undef | 3 => undef | 4 => undef | 5 => undef | 6 => undef | 7 => undef | 8 => undef | _ => undef) (by repeat (first | exact trivial | refine ⟨fun _ _ => rfl, ?_⟩)) (fun _ _ _ _ _ h => h) ⟨?_, ?_, ?_, ?_, ?_, ?_, ?_, ?_, ?_, trivial⟩ ?_
    · intro xS W hB hp K hK
      rw [if_pos (wanted_none rfl _)]
      clear hp
      go_simp
      exact hK _ _ (Below.refl _ _) rfl
    · intro xS W hB hp K hK
      rw [if_pos (wanted_none rfl _)]
      have h0 : xS 0 = .pointer (some ⟨kb, 3, none⟩) := hp.1 rfl
      clear hp
      have hc := (hB.cell (p := ⟨kb, 3, none⟩) hkt).trans k3
      simp only [h0] at hK ⊢
      clear h0
      go_simp
      exact hK _ _ (Below.refl _ _) rfl
    · intro xS W hB hp K hK
      rw [if_pos (wanted_none rfl _)]
      clear hp
      go_simp
      exact hK _ _ (Below.refl _ _) rfl
    · intro xS W hB hp K hK
      rw [if_pos (wanted_none rfl _)]
      have h2 : xS 2 = Value.pointer (some (⟨wb, 0, none⟩ : Addr)) := hp.1 rfl
      clear hp
      simp only [h2] at hK ⊢
      clear h2
      go_simp
      exact hK _ _ (Below.refl _ _) rfl
    · intro xS W hB hp K hK
      rw [if_pos (wanted_none rfl _)]
      have h3 : xS 3 = Value.pointer (some (⟨wb, 0, none⟩ : Addr)) := hp.1 rfl
      clear hp
      simp only [h3] at hK ⊢
      clear h3
      go_simp
      exact hK _ _ (Below.refl _ _) rfl
    · intro xS W hB hp K hK
      rw [if_pos (wanted_none rfl _)]
      have h4 : xS 4 = .pointer (some ⟨wb, 1, none⟩) := hp.1 rfl
      clear hp
      have hc := (hB.cell (p := ⟨wb, 1, none⟩) hwlt).trans c1
      simp only [h4] at hK ⊢
      clear h4
      go_simp
      exact hK _ _ (Below.refl _ _) rfl
    · intro xS W hB hp K hK
      rw [if_pos (wanted_none rfl _)]
      have h5 : xS 5 = .slice oa wt.of.length oc := hp.1 rfl
      clear hp
      simp only [h5] at hK ⊢
      clear h5
      go_simp
      exact hK _ _ (Below.refl _ _) rfl
    · intro xS W hB hp K hK
      rw [if_pos (wanted_none rfl _)]
      have h1 : xS 1 = .int .i64 r.s := hp.1 rfl
      have h6 : xS 6 = .int .i64 (wt.of.length : Int) := hp.2.1 rfl
      clear hp
      simp only [h1, h6] at hK ⊢
      clear h1 h6
      go_simp
      exact hK _ _ (Below.refl _ _) rfl
    · intro xS W hB hp K hK
      rw [if_pos (wanted_none rfl _)]
      have h7 : xS 7 = .bool false := hp.1 rfl
      clear hp
      simp only [h7] at hK ⊢
      clear h7
      go_simp
      exact hK _ _ (Below.refl _ _) rfl
    intro xS W3 hB3 hs
    have h8 : xS 8 = .bool false := hs 8 (by simp)
    clear hs
    simp only [h8]
    have hHS3 : LgS own W3 lb x q rv sv mb us := HS.out.below hB3
    have HS3 : Hid (LgS own W3 lb x q rv sv mb us) := hHS3
    have HW3 : Hid (WrAt own W3 i (some wb) (some wt)) := HWr.out.keep (Ext.refl _) fun k hk => hk.elim (fun e => hB3.block k (HS.out.owned k _ e)) (fun e => hB3.block k (HS.out.owned k _ e))
    have HR3 : Hid (W3.heap[kb]? = some (.cells (rrC (r, u)) 32 (0, 0))) := (hB3.block kb hkt).trans HR.out
    have HB3 : Hid (Below w.heap.size w W3) := HB0.out.trans (hB3.mono HB0.out.size)
    have hkb3 := lt_blk HR3.out
    have hlb3 := lt_blk hHS3.blk
    obtain ⟨ra, rc, hrv⟩ := hHS3.rs.form
    rw [zip_len hHS3.ul] at hrv
    have c8 := hHS3.c8.1
    rw [hrv] at c8
    have HE : Hid (∀ W, Below W3.heap.size W3 W → Calls Try.prog 31 #[.pointer (some ⟨lb, 0, none⟩), .agg (kyC r.key)] W fun e w' => e = .returned (.bool (x.ended r.key)) ∧ Below W.heap.size W w') := fun W hB => ended_at own W lb x q _ sv mb us (HS3.out.below hB) r.key HKI.out hl
    have HBU : Hid (∀ W, Below W3.heap.size W3 W → Calls Try.prog 52 #[.pointer (some ⟨lb, 0, none⟩), .pointer (some ⟨wb, 0, none⟩), .int .i64 r.t] W fun e w' => e = .returned (.bool (x.busy wt r.t)) ∧ Below W.heap.size W w') := fun W hB => busy_at own W lb x q _ sv mb us (HS3.out.below hB) i wb wt (HW3.out.keep (Ext.refl _) fun k hk => hk.elim (fun e => hB.block k (HS3.out.owned k _ e)) (fun e => hB.block k (HS3.out.owned k _ e))) r.t HOK.out HWO.out hl
    clear hHS3 hrv hB3 k2 k3 c1 HWr HS
    cases he : x.ended r.key with
    | true =>
      rw [he] at HT HE
      go_wp2_with (first | (refine wpList_load_agg rfl 32 (by kernel_rfl) _ rfl kb (rrC (r, u)) 32 (0, 0) ?_ HR3.out (by kernel_rfl) ?_; rfl) | (go_at_call 32; refine (of_any r u _).mono ?_; rintro e w3 ⟨rfl, hB4⟩) | (go_at_call 31; refine (HE.out _ hB4).mono ?_; rintro e w4 ⟨rfl, hB5⟩) | (refine wanted_do rfl fun _ _ => ?_))
      go_ret
      exact ⟨by rw [HT.out]; rfl, HB3.out.trans ((hB4.trans (hB5.mono hB4.size)).mono HB3.out.size)⟩
    | false =>
      rw [he] at HT HE
      cases hbz : x.busy wt r.t with
      | true =>
        rw [hbz] at HT HBU
        go_wp2_with (first | (refine wpList_load_agg rfl 32 (by kernel_rfl) _ rfl kb (rrC (r, u)) 32 (0, 0) ?_ HR3.out (by kernel_rfl) ?_; rfl) | (go_at_call 32; refine (of_any r u _).mono ?_; rintro e w3 ⟨rfl, hB4⟩) | (go_at_call 31; refine (HE.out _ hB4).mono ?_; rintro e w4 ⟨rfl, hB5'⟩; have hB5 := hB4.trans (hB5'.mono hB4.size); have k2 : w4.cell? ⟨kb, 2, none⟩ = some (.int .i64 r.t) := (hB5.cell (p := ⟨kb, 2, none⟩) hkb3).trans (cell_blk HR3.out 2); have c8' := (hB5.cell (p := ⟨lb, 8, none⟩) hlb3).trans c8; clear hB4 hB5') | (go_at_call 52; refine (HBU.out _ hB5).mono ?_; rintro e w5 ⟨rfl, hB6'⟩; have hB6 := hB5.trans (hB6'.mono hB5.size); have c8'' := (hB6.cell (p := ⟨lb, 8, none⟩) hlb3).trans c8) | (refine wanted_do rfl fun _ _ => ?_))
        go_ret
        exact ⟨by rw [HT.out]; rfl, HB3.out.trans (hB6.mono HB3.out.size)⟩
      | false =>
        rw [hbz] at HT HBU
        by_cases h128 : 128 ≤ (x.rs.length : Int)
        · rw [if_pos h128] at HT
          go_wp2_with (first | (refine wpList_load_agg rfl 32 (by kernel_rfl) _ rfl kb (rrC (r, u)) 32 (0, 0) ?_ HR3.out (by kernel_rfl) ?_; rfl) | (go_at_call 32; refine (of_any r u _).mono ?_; rintro e w3 ⟨rfl, hB4⟩) | (go_at_call 31; refine (HE.out _ hB4).mono ?_; rintro e w4 ⟨rfl, hB5'⟩; have hB5 := hB4.trans (hB5'.mono hB4.size); have k2 : w4.cell? ⟨kb, 2, none⟩ = some (.int .i64 r.t) := (hB5.cell (p := ⟨kb, 2, none⟩) hkb3).trans (cell_blk HR3.out 2); have c8' := (hB5.cell (p := ⟨lb, 8, none⟩) hlb3).trans c8; clear hB4 hB5') | (go_at_call 52; refine (HBU.out _ hB5).mono ?_; rintro e w5 ⟨rfl, hB6'⟩; have hB6 := hB5.trans (hB6'.mono hB5.size); have c8'' := (hB6.cell (p := ⟨lb, 8, none⟩) hlb3).trans c8) | (refine wanted_do rfl fun _ _ => ?_))
          go_ret
          exact ⟨by rw [HT.out]; rfl, HB3.out.trans (hB6.mono HB3.out.size)⟩
        · rw [if_neg h128] at HT
          go_wp2_with (first | (refine wpList_load_agg rfl 32 (by kernel_rfl) _ rfl kb (rrC (r, u)) 32 (0, 0) ?_ HR3.out (by kernel_rfl) ?_; rfl) | (go_at_call 32; refine (of_any r u _).mono ?_; rintro e w3 ⟨rfl, hB4⟩) | (go_at_call 31; refine (HE.out _ hB4).mono ?_; rintro e w4 ⟨rfl, hB5'⟩; have hB5 := hB4.trans (hB5'.mono hB4.size); have k2 : w4.cell? ⟨kb, 2, none⟩ = some (.int .i64 r.t) := (hB5.cell (p := ⟨kb, 2, none⟩) hkb3).trans (cell_blk HR3.out 2); have c8' := (hB5.cell (p := ⟨lb, 8, none⟩) hlb3).trans c8; clear hB4 hB5') | (go_at_call 52; refine (HBU.out _ hB5).mono ?_; rintro e w5 ⟨rfl, hB6'⟩; have hB6 := hB5.trans (hB6'.mono hB5.size); have c8'' := (hB6.cell (p := ⟨lb, 8, none⟩) hlb3).trans c8) | (refine wanted_do rfl fun _ _ => ?_))
          go_ret
          exact ⟨by rw [HT.out]; rfl, HB3.out.trans (hB6.mono HB3.out.size)⟩
  · rw [hsb] at HT
    refine wp_region_growG (by kernel_rfl) (by kernel_rfl) (fun xS => { tmps := (Value.pointer (some (⟨lb, 0, none⟩ : Addr)) :: Value.pointer (some (⟨wb, 0, none⟩ : Addr)) :: Value.agg (rrC (r, u)) :: undef :: undef :: Value.pointer (some (⟨kb, 0, none⟩ : Addr)) :: Value.int IntKind.i64 0 :: xS 8 :: xS 0 :: xS 1 :: xS 2 :: xS 3 :: xS 4 :: xS 5 :: xS 6 :: xS 7 :: undef :: undef :: undef :: undef :: undef :: undef :: undef :: undef :: undef :: undef :: undef :: undef :: undef :: undef :: undef :: undef :: undef :: undef :: undef :: []).toArray, defers := [] })
      (fun ii xx WW => match ii with | 0 => xx = .pointer (some ⟨kb, 3, none⟩) | 1 => xx = .int .i64 r.s | 2 => xx = Value.pointer (some (⟨wb, 0, none⟩ : Addr)) | 3 => xx = Value.pointer (some (⟨wb, 0, none⟩ : Addr)) | 4 => xx = .pointer (some ⟨wb, 1, none⟩) | 5 => xx = .slice oa wt.of.length oc | 6 => xx = .int .i64 (wt.of.length : Int) | 7 => xx = .bool true | 8 => xx = .bool true | _ => True) (fun | 0 => undef | 1 => undef | 2 => undef | 3 => undef | 4 => undef | 5 => undef | 6 => undef | 7 => undef | 8 => undef | _ => undef) (by repeat (first | exact trivial | refine ⟨fun _ _ => rfl, ?_⟩)) (fun _ _ _ _ _ h => h) ⟨?_, ?_, ?_, ?_, ?_, ?_, ?_, ?_, ?_, trivial⟩ ?_
    · intro xS W hB hp K hK
      rw [if_pos (wanted_none rfl _)]
      clear hp
      go_simp
      exact hK _ _ (Below.refl _ _) rfl
    · intro xS W hB hp K hK
      rw [if_pos (wanted_none rfl _)]
      have h0 : xS 0 = .pointer (some ⟨kb, 3, none⟩) := hp.1 rfl
      clear hp
      have hc := (hB.cell (p := ⟨kb, 3, none⟩) hkt).trans k3
      simp only [h0] at hK ⊢
      clear h0
      go_simp
      exact hK _ _ (Below.refl _ _) rfl
    · intro xS W hB hp K hK
      rw [if_pos (wanted_none rfl _)]
      clear hp
      go_simp
      exact hK _ _ (Below.refl _ _) rfl
    · intro xS W hB hp K hK
      rw [if_pos (wanted_none rfl _)]
      have h2 : xS 2 = Value.pointer (some (⟨wb, 0, none⟩ : Addr)) := hp.1 rfl
      clear hp
      simp only [h2] at hK ⊢
      clear h2
      go_simp
      exact hK _ _ (Below.refl _ _) rfl
    · intro xS W hB hp K hK
      rw [if_pos (wanted_none rfl _)]
      have h3 : xS 3 = Value.pointer (some (⟨wb, 0, none⟩ : Addr)) := hp.1 rfl
      clear hp
      simp only [h3] at hK ⊢
      clear h3
      go_simp
      exact hK _ _ (Below.refl _ _) rfl
    · intro xS W hB hp K hK
      rw [if_pos (wanted_none rfl _)]
      have h4 : xS 4 = .pointer (some ⟨wb, 1, none⟩) := hp.1 rfl
      clear hp
      have hc := (hB.cell (p := ⟨wb, 1, none⟩) hwlt).trans c1
      simp only [h4] at hK ⊢
      clear h4
      go_simp
      exact hK _ _ (Below.refl _ _) rfl
    · intro xS W hB hp K hK
      rw [if_pos (wanted_none rfl _)]
      have h5 : xS 5 = .slice oa wt.of.length oc := hp.1 rfl
      clear hp
      simp only [h5] at hK ⊢
      clear h5
      go_simp
      exact hK _ _ (Below.refl _ _) rfl
    · intro xS W hB hp K hK
      rw [if_pos (wanted_none rfl _)]
      have h1 : xS 1 = .int .i64 r.s := hp.1 rfl
      have h6 : xS 6 = .int .i64 (wt.of.length : Int) := hp.2.1 rfl
      clear hp
      simp only [h1, h6] at hK ⊢
      clear h1 h6
      go_simp
      exact hK _ _ (Below.refl _ _) rfl
    · intro xS W hB hp K hK
      rw [if_pos (wanted_none rfl _)]
      have h7 : xS 7 = .bool true := hp.1 rfl
      clear hp
      simp only [h7] at hK ⊢
      clear h7
      go_simp
      exact hK _ _ (Below.refl _ _) rfl
    intro xS W3 hB3 hs
    have h8 : xS 8 = .bool true := hs 8 (by simp)
    clear hs
    simp only [h8]
    have HB3 : Hid (Below w.heap.size w W3) := HB0.out.trans (hB3.mono HB0.out.size)
    clear hB3 k2 k3 c1
    go_wp2_with fail
    go_ret
    exact ⟨by rw [HT.out]; rfl, HB3.out⟩
end Go.Proofs.Ytjinhahfpkcilaa
