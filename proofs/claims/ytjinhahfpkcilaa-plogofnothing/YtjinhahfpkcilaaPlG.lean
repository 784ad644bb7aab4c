/- Whether another transaction is open; whether a record is taken. -/
import Derived.Test.YtjinhahfpkcilaaPlF
namespace Go.Proofs.Ytjinhahfpkcilaa
open Go.RowKit Go.Dig Go.Inv Go.Oct
set_option linter.unusedVariables false
set_option linter.unusedSimpArgs false

section
variable {ops : Array Oper} {rest : List Oper} {o : Oper} {a : Act} {w : World} {Q : Exit → Act → World → Prop}
/-- a whole struct is read, under a guard that lets -/
theorem wpList_load_agg_g (hw : Region.wanted o (yielded ops a.tmps) = true) (ty : TypeId) (hr : (Try.prog.underlying ty).map (·.isRow) = some true) (x : Operand) (ho : o.op = .load ty x) (g : Nat) (c : Array Value) (t : TypeId) (fr : Nat × Nat) (hx : a.eval x = .pointer (some ⟨g, 0, none⟩)) (hg : w.heap[g]? = some (.cells c t fr))
    (hi : (Try.prog.info? ty).map (·.size) = some c.size) (h : wpList Try.prog ops Q rest (a.put o.dst (.agg c)) w) : wpList Try.prog ops Q (o :: rest) a w :=
  wanted_do hw fun K hK => wp_load_agg ty hr x ho g c t fr hx hg hi (hK _ _ h)
end
def rr0 : Rc × Value := (⟨0, 0, 0, 0, []⟩, .slice none 0 0)
theorem key_in {r : Rc} (h : r.ok = true) : r.key.In := by
  simp [Rc.ok, okW, okT] at h
  exact ⟨by show 0 ≤ r.p ∧ r.p ≤ 200; omega, by show 0 ≤ r.e ∧ r.e ≤ 200; omega, by show 0 ≤ r.t ∧ r.t ≤ 200; omega⟩
set_option maxRecDepth 10000 in
set_option maxHeartbeats 2000000 in
theorem busy_at (own : Own) (w : World) (lb : Nat) (x : Pl) (q : List (Option Nat)) (rv sv : Value) (mb : Option Nat) (us : List Value) (h : LgS own w lb x q rv sv mb us) (i wb : Nat) (wt : Wt) (hW : WrAt own w i (some wb) (some wt)) (t : Int) (hok : x.Ok) (hwo : (∀ o ∈ wt.of, 0 ≤ o ∧ o < (x.rs.length : Int)) ∧ wt.of.length ≤ 1000) (hl : x.sp.length ≤ 90000) :
    Calls Try.prog 52 #[.pointer (some ⟨lb, 0, none⟩), .pointer (some ⟨wb, 0, none⟩), .int .i64 t] w fun e w' => e = .returned (.bool (x.busy wt t)) ∧ Below w.heap.size w w' := by
  obtain ⟨v, hwb, hwl, hof, -⟩ := hW
  have c1 : w.cell? ⟨wb, 1, none⟩ = some v := cell_blk hwb 1
  have hwlt := lt_blk hwb
  obtain ⟨n, hn⟩ : ∃ n, wt.of.length = n := ⟨_, rfl⟩
  cases n with
  | zero =>
    have e0 : wt.of = [] := List.eq_nil_of_length_eq_zero hn
    have HE : Hid (x.busy wt t = false) := by show x.busy wt t = false; unfold Pl.busy; rw [e0]; rfl
    obtain ⟨oa, oc, rfl⟩ := hof.form
    rw [hn] at c1
    clear hof hn e0 h hwb
    go_enter Try.func52, Try.ntmps52
    go_wp2_with fail
    go_ret
    exact ⟨by rw [HE.out]; rfl, Below.refl _ _⟩
  | succ n =>
    obtain ⟨og, oc, rfl, -, hog, hoc⟩ := hof.at (by omega)
    rw [hn] at c1
    obtain ⟨oz, hoz⟩ : ∃ z, wt.of[n]? = some z := ⟨wt.of[n]'(by omega), List.getElem?_eq_getElem _⟩
    have hcz : w.cell? ⟨og, n, none⟩ = some (.int .i64 oz) := by have := hoc n oz hoz 0 _ rfl; rwa [Nat.mul_one, Nat.add_zero] at this
    obtain ⟨hz0, hz1⟩ := hwo.1 oz (List.mem_of_getElem? hoz)
    obtain ⟨o, rfl⟩ : ∃ o : Nat, oz = (o : Int) := ⟨oz.toNat, by omega⟩
    obtain ⟨lr, hlr⟩ : ∃ r, x.rs[o]? = some r := ⟨x.rs[o]'(by omega), List.getElem?_eq_getElem _⟩
    have hul := h.ul
    obtain ⟨u, hu⟩ : ∃ u, us[o]? = some u := ⟨us[o]'(by omega), List.getElem?_eq_getElem _⟩
    obtain ⟨ua, uc, rfl, -, -, -⟩ := h.vl o lr u hlr hu
    have hz : (x.rs.zip us)[o]? = some (lr, .slice ua lr.v.length uc) := by rw [List.getElem?_zip_eq_some]; exact ⟨hlr, hu⟩
    obtain ⟨g, gc, erv, -, hg, hgc⟩ := h.rs.at (by rw [zip_len hul]; omega)
    subst erv
    have c8 := h.c8.1
    rw [zip_len hul] at c8
    have HC : Hid (∀ i u, (rrC (lr, .slice ua lr.v.length uc))[i]? = some u → w.cell? ⟨g, o * 5 + i, none⟩ = some u) := hgc o _ hz
    have HE : Hid (x.busy wt t = (!decide (lr.t = t) && !x.ended lr.key)) := by
      show x.busy wt t = _
      unfold Pl.busy
      rw [List.getLast?_eq_getElem?, hn, Nat.add_sub_cancel, hoz]
      dsimp only
      rw [Int.toNat_natCast, hlr]
    have HS : Hid (LgS own w lb x q (.slice (some ⟨g, 0, none⟩) (x.rs.zip us).length gc) sv mb us) := h
    have HKI : Hid lr.key.In := key_in (hok.rs.2 lr (List.mem_of_getElem? hlr))
    have ho' : (o : Int) < (x.rs.length : Int) := hz1
    have hrl := hok.rs.1
    have ho9 : (o : Int) < 1000 := by omega
    have hn9 : (n : Int) < 1000 := by omega
    have hlt := lt_blk h.blk
    clear hof hoc hoz hlr hu hz hgc h hwb hwl hz0 hz1 hul
    go_enter Try.func52, Try.ntmps52
    go_upto_region 3 with fail
    refine wp_region_pivot (by kernel_rfl) (by kernel_rfl) 19 (by decide) (by kernel_rfl) (by kernel_rfl) (fun xS => { tmps := (Value.pointer (some (⟨lb, 0, none⟩ : Addr)) :: Value.pointer (some (⟨wb, 0, none⟩ : Addr)) :: Value.int IntKind.i64 t :: undef :: undef :: undef :: Value.bool false :: xS 18 :: Value.pointer (some (⟨wb, 0, none⟩ : Addr)) :: Value.pointer (some (⟨wb, 0, none⟩ : Addr)) :: Value.pointer (some (⟨wb, 1, none⟩ : Addr)) :: Value.slice (some (⟨og, 0, none⟩ : Addr)) (n + 1) oc :: Value.int IntKind.i64 ((n : Int) + 1) :: Value.bool ((n : Int) + 1 == 0) :: xS 0 :: xS 1 :: xS 2 :: xS 3 :: xS 4 :: xS 5 :: xS 6 :: xS 7 :: xS 8 :: xS 9 :: xS 10 :: xS 11 :: xS 12 :: xS 13 :: xS 14 :: xS 15 :: xS 16 :: xS 17 :: undef :: undef :: undef :: undef :: undef :: undef :: undef :: undef :: undef :: undef :: undef :: []).toArray, defers := [] })
      (fun ii xx WW => match ii with | 0 => xx = Value.pointer (some (⟨lb, 0, none⟩ : Addr)) | 1 => xx = Value.pointer (some (⟨lb, 0, none⟩ : Addr)) | 2 => xx = .pointer (some ⟨lb, 8, none⟩) | 3 => xx = .slice (some ⟨g, 0, none⟩) x.rs.length gc | 4 => xx = Value.pointer (some (⟨wb, 0, none⟩ : Addr)) | 5 => xx = Value.pointer (some (⟨wb, 0, none⟩ : Addr)) | 6 => xx = .pointer (some ⟨wb, 1, none⟩) | 7 => xx = .slice (some ⟨og, 0, none⟩) (n + 1) oc | 8 => xx = Value.pointer (some (⟨wb, 0, none⟩ : Addr)) | 9 => xx = Value.pointer (some (⟨wb, 0, none⟩ : Addr)) | 10 => xx = .pointer (some ⟨wb, 1, none⟩) | 11 => xx = .slice (some ⟨og, 0, none⟩) (n + 1) oc | 12 => xx = .int .i64 ((n : Int) + 1) | 13 => xx = .int .i64 (n : Int) | 14 => xx = .pointer (some ⟨og, n, none⟩) | 15 => xx = .int .i64 (o : Int) | 16 => xx = .pointer (some ⟨g, o * 5, none⟩) | 17 => xx = .agg (rrC (lr, .slice ua lr.v.length uc)) | 18 => ∃ g, xx = .pointer (some ⟨g, 0, none⟩) ∧ w.heap.size ≤ g ∧ WW.heap[g]? = some (.cells (rrC rr0) 32 (0, 0)) | _ => True) (fun li xS W => ∃ g, xS 18 = .pointer (some ⟨g, 0, none⟩) ∧ w.heap.size ≤ g ∧ W.heap[g]? = some (.cells (rrC (lr, .slice ua lr.v.length uc)) 32 (0, 0)) ∧ Below w.heap.size w W) (fun | 0 => undef | 1 => undef | 2 => undef | 3 => undef | 4 => undef | 5 => undef | 6 => undef | 7 => undef | 8 => undef | 9 => undef | 10 => undef | 11 => undef | 12 => undef | 13 => undef | 14 => undef | 15 => undef | 16 => undef | 17 => undef | 18 => undef | _ => undef) (by repeat (first | exact trivial | refine ⟨fun _ _ => rfl, ?_⟩)) (by intro i x w w' h hs; (try dsimp only at hs ⊢); split at hs <;> first | exact hs | exact trivial | (obtain ⟨g, h1, h2, h3⟩ := hs; exact ⟨g, h1, h2, (h.block g (lt_blk h3)).trans h3⟩)) ⟨?_, ?_, ?_, ?_, ?_, ?_, ?_, ?_, ?_, ?_, ?_, ?_, ?_, ?_, ?_, ?_, ?_, ?_, ?_, ⟨rfl, ?_⟩, trivial⟩ ?_
    · intro xS W hB hp K hK
      rw [if_pos (wanted_none rfl _)]
      clear hp
      go_simp
      exact hK _ _ (Below.refl _ _) rfl
    · intro xS W hB hp K hK
      rw [if_pos (wanted_none rfl _)]
      have h0 : xS 0 = Value.pointer (some (⟨lb, 0, none⟩ : Addr)) := hp.1 rfl
      clear hp
      simp only [h0] at hK ⊢
      clear h0
      go_simp
      exact hK _ _ (Below.refl _ _) rfl
    · intro xS W hB hp K hK
      rw [if_pos (wanted_none rfl _)]
      have h1 : xS 1 = Value.pointer (some (⟨lb, 0, none⟩ : Addr)) := hp.1 rfl
      clear hp
      simp only [h1] at hK ⊢
      clear h1
      go_simp
      exact hK _ _ (Below.refl _ _) rfl
    · intro xS W hB hp K hK
      rw [if_pos (wanted_none rfl _)]
      have h2 : xS 2 = .pointer (some ⟨lb, 8, none⟩) := hp.1 rfl
      clear hp
      have hc := (hB.cell (p := ⟨lb, 8, none⟩) hlt).trans c8
      simp only [h2] at hK ⊢
      clear h2
      go_simp
      exact hK _ _ (Below.refl _ _) rfl
    · intro xS W hB hp K hK
      rw [if_pos (wanted_none rfl _)]
      clear hp
      go_simp
      exact hK _ _ (Below.refl _ _) rfl
    · intro xS W hB hp K hK
      rw [if_pos (wanted_none rfl _)]
      have h4 : xS 4 = Value.pointer (some (⟨wb, 0, none⟩ : Addr)) := hp.1 rfl
      clear hp
      simp only [h4] at hK ⊢
      clear h4
      go_simp
      exact hK _ _ (Below.refl _ _) rfl
    · intro xS W hB hp K hK
      rw [if_pos (wanted_none rfl _)]
      have h5 : xS 5 = Value.pointer (some (⟨wb, 0, none⟩ : Addr)) := hp.1 rfl
      clear hp
      simp only [h5] at hK ⊢
      clear h5
      go_simp
      exact hK _ _ (Below.refl _ _) rfl
    · intro xS W hB hp K hK
      rw [if_pos (wanted_none rfl _)]
      have h6 : xS 6 = .pointer (some ⟨wb, 1, none⟩) := hp.1 rfl
      clear hp
      have hc := (hB.cell (p := ⟨wb, 1, none⟩) hwlt).trans c1
      simp only [h6] at hK ⊢
      clear h6
      go_simp
      exact hK _ _ (Below.refl _ _) rfl
    · intro xS W hB hp K hK
      rw [if_pos (wanted_none rfl _)]
      clear hp
      go_simp
      exact hK _ _ (Below.refl _ _) rfl
    · intro xS W hB hp K hK
      rw [if_pos (wanted_none rfl _)]
      have h8 : xS 8 = Value.pointer (some (⟨wb, 0, none⟩ : Addr)) := hp.1 rfl
      clear hp
      simp only [h8] at hK ⊢
      clear h8
      go_simp
      exact hK _ _ (Below.refl _ _) rfl
    · intro xS W hB hp K hK
      rw [if_pos (wanted_none rfl _)]
      have h9 : xS 9 = Value.pointer (some (⟨wb, 0, none⟩ : Addr)) := hp.1 rfl
      clear hp
      simp only [h9] at hK ⊢
      clear h9
      go_simp
      exact hK _ _ (Below.refl _ _) rfl
    · intro xS W hB hp K hK
      rw [if_pos (wanted_none rfl _)]
      have h10 : xS 10 = .pointer (some ⟨wb, 1, none⟩) := hp.1 rfl
      clear hp
      have hc := (hB.cell (p := ⟨wb, 1, none⟩) hwlt).trans c1
      simp only [h10] at hK ⊢
      clear h10
      go_simp
      exact hK _ _ (Below.refl _ _) rfl
    · intro xS W hB hp K hK
      rw [if_pos (wanted_none rfl _)]
      have h11 : xS 11 = .slice (some ⟨og, 0, none⟩) (n + 1) oc := hp.1 rfl
      clear hp
      simp only [h11] at hK ⊢
      clear h11
      go_simp
      exact hK _ _ (Below.refl _ _) rfl
    · intro xS W hB hp K hK
      rw [if_pos (wanted_none rfl _)]
      have h12 : xS 12 = .int .i64 ((n : Int) + 1) := hp.1 rfl
      clear hp
      simp only [h12] at hK ⊢
      clear h12
      go_simp
      rw [show IntKind.i64.wrap (n : Int) = (n : Int) by rw [IntKind.wrap_i64]; omega]
      exact hK _ _ (Below.refl _ _) rfl
    · intro xS W hB hp K hK
      rw [if_pos (wanted_none rfl _)]
      have h7 : xS 7 = .slice (some ⟨og, 0, none⟩) (n + 1) oc := hp.1 rfl
      have h13 : xS 13 = .int .i64 (n : Int) := hp.2.1 rfl
      clear hp
      have hnn : (n : Int) < (n : Int) + 1 := by omega
      simp only [h7, h13] at hK ⊢
      clear h7 h13
      go_simp
      exact hK _ _ (Below.refl _ _) rfl
    · intro xS W hB hp K hK
      rw [if_pos (wanted_none rfl _)]
      have h14 : xS 14 = .pointer (some ⟨og, n, none⟩) := hp.1 rfl
      clear hp
      have hc := (hB.cell (p := ⟨og, n, none⟩) hog).trans hcz
      simp only [h14] at hK ⊢
      clear h14
      go_simp
      exact hK _ _ (Below.refl _ _) rfl
    · intro xS W hB hp K hK
      rw [if_pos (wanted_none rfl _)]
      have h3 : xS 3 = .slice (some ⟨g, 0, none⟩) x.rs.length gc := hp.1 rfl
      have h15 : xS 15 = .int .i64 (o : Int) := hp.2.1 rfl
      clear hp
      simp only [h3, h15] at hK ⊢
      clear h3 h15
      go_simp
      exact hK _ _ (Below.refl _ _) rfl
    · intro xS W hB hp K hK
      rw [if_pos (wanted_none rfl _)]
      have h16 : xS 16 = .pointer (some ⟨g, o * 5, none⟩) := hp.1 rfl
      clear hp
      refine wp_loadRrAt _ rfl g (o * 5) (lr, .slice ua lr.v.length uc) ?_ (fun i u hu => (hB.cell (p := ⟨g, o * 5 + i, none⟩) hg).trans (HC.out i u hu)) ?_
      · exact h16
      exact hK _ _ (Below.refl _ _) rfl
    · intro xS W hB hp K hK
      rw [if_pos (wanted_none rfl _)]
      clear hp
      exact wp_alloc_row 32 rfl _ (by kernel_rfl) (hK _ _ (below_alloc _ _) ⟨_, rfl, hB.size, alloc_blk _ _⟩)
    · intro li xS W hB hs hno K hK
      have h17 : xS 17 = .agg (rrC (lr, .slice ua lr.v.length uc)) := hs 17 (by decide)
      have h18 : ∃ g, (xS 18) = .pointer (some ⟨g, 0, none⟩) ∧ w.heap.size ≤ g ∧ W.heap[g]? = some (.cells (rrC rr0) 32 (0, 0)) := hs 18 (by decide)
      clear hs
      obtain ⟨g, h18, hgl, hgc⟩ := h18
      refine wp_store_whole 32 _ _ rfl g _ _ h18 h17 32 hgc (by kernel_rfl) (rrC_all rfl) rfl ?_
      intro w' h1 h2
      exact hK undef w' ⟨g, by rw [upd_other _ _ (by decide)]; exact h18, hgl, h1, hB.trans (h2.below hgl hB.size)⟩
    rintro li xs0 w2 ⟨gb, h18, hgl, hgc, hB2⟩ -
    simp only [h18]
    have d2 : w2.cell? ⟨gb, 2, none⟩ = some (.int .i64 lr.t) := cell_blk hgc 2
    have HG : Hid (w2.heap[gb]? = some (.cells (rrC (lr, .slice ua lr.v.length uc)) 32 (0, 0))) := hgc
    have HS2 : Hid (LgS own w2 lb x q (.slice (some ⟨g, 0, none⟩) (x.rs.zip us).length gc) sv mb us) := HS.out.below hB2
    have HB2 : Hid (Below w.heap.size w w2) := hB2
    clear hgc hB2 hcz c1 c8 HC HS
    by_cases ht : lr.t = t
    · rw [ht] at d2
      go_wp2_with (refine wanted_do rfl fun _ _ => ?_)
      go_ret
      exact ⟨by rw [HE.out]; simp [ht], HB2.out⟩
    · have hne : (lr.t != t) = true := by simpa using ht
      cases he : x.ended lr.key with
      | true =>
        have HA : Hid (∀ W, Below w2.heap.size w2 W → Calls Try.prog 31 #[.pointer (some ⟨lb, 0, none⟩), .agg (kyC lr.key)] W fun e w' => e = .returned (.bool true) ∧ Below W.heap.size W w') := fun W hB => by
          have := ended_at own W lb x q _ sv mb us (HS2.out.below hB) lr.key HKI.out hl
          rwa [he] at this
        go_wp2_with (first | (refine wpList_load_agg_g rfl 32 (by kernel_rfl) _ rfl gb (rrC (lr, .slice ua lr.v.length uc)) 32 (0, 0) ?_ HG.out (by kernel_rfl) ?_; rfl) | (go_at_call 32; refine (of_any lr (.slice ua lr.v.length uc) _).mono ?_; rintro e w3 ⟨rfl, hB3⟩) | (go_at_call 31; refine (HA.out _ hB3).mono ?_; rintro e w4 ⟨rfl, hB4⟩) | (refine wanted_do rfl fun _ _ => ?_))
        go_ret
        exact ⟨by rw [HE.out]; simp [ht, he], HB2.out.trans ((hB3.trans (hB4.mono hB3.size)).mono HB2.out.size)⟩
      | false =>
        have HA : Hid (∀ W, Below w2.heap.size w2 W → Calls Try.prog 31 #[.pointer (some ⟨lb, 0, none⟩), .agg (kyC lr.key)] W fun e w' => e = .returned (.bool false) ∧ Below W.heap.size W w') := fun W hB => by
          have := ended_at own W lb x q _ sv mb us (HS2.out.below hB) lr.key HKI.out hl
          rwa [he] at this
        go_wp2_with (first | (refine wpList_load_agg_g rfl 32 (by kernel_rfl) _ rfl gb (rrC (lr, .slice ua lr.v.length uc)) 32 (0, 0) ?_ HG.out (by kernel_rfl) ?_; rfl) | (go_at_call 32; refine (of_any lr (.slice ua lr.v.length uc) _).mono ?_; rintro e w3 ⟨rfl, hB3⟩) | (go_at_call 31; refine (HA.out _ hB3).mono ?_; rintro e w4 ⟨rfl, hB4⟩) | (refine wanted_do rfl fun _ _ => ?_))
        go_ret
        exact ⟨by rw [HE.out]; simp [ht, he], HB2.out.trans ((hB3.trans (hB4.mono hB3.size)).mono HB2.out.size)⟩
end Go.Proofs.Ytjinhahfpkcilaa
