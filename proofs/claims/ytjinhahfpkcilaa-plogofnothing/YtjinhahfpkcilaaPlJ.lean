/- A transaction's span. -/
import Derived.Test.YtjinhahfpkcilaaPlI
namespace Go.Proofs.Ytjinhahfpkcilaa
open Go.RowKit Go.Dig Go.Inv Go.Oct
set_option linter.unusedVariables false
set_option linter.unusedSimpArgs false

def Pl.spI (x : Pl) (k : Ky) : Nat := (x.place k).getD x.sp.length
def Pl.spn (x : Pl) (k : Ky) (f : Int) : Pl := ⟨x.ws, x.rs, match x.place k with | some _ => x.sp | .none => x.sp ++ [newS k f]⟩
theorem Pl.spn_at (x : Pl) (k : Ky) (f : Int) : ∃ s, (x.spn k f).sp[x.spI k]? = some s ∧ s.key = k := by
  unfold Pl.spn Pl.spI
  cases h : x.place k with
  | none => exact ⟨newS k f, by simp, rfl⟩
  | some i =>
    obtain ⟨s, h1, h2⟩ := Pl.place_at h
    exact ⟨s, by simpa using h1, h2⟩
set_option maxRecDepth 10000 in
set_option maxHeartbeats 2000000 in
theorem span_at (own : Own) (w : World) (lb : Nat) (x : Pl) (q : List (Option Nat)) (rv sv : Value) (mb : Option Nat) (us : List Value) (h : LgS own w lb x q rv sv mb us) (k : Ky) (hk : k.In) (f : Int) (hl : x.sp.length ≤ 90000) :
    Calls Try.prog 44 #[.pointer (some ⟨lb, 0, none⟩), .agg (kyC k), .int .i64 f] w fun e w' => ∃ own' sv' mb' g c, e = .returned (.pointer (some ⟨g, x.spI k * 5, none⟩)) ∧ sv' = .slice (some ⟨g, 0, none⟩) (x.spn k f).sp.length c ∧
      LgS own' w' lb (x.spn k f) q rv sv' mb' us ∧ Stp BgP own own' w w' := by
  have hb0 := alloc_blk w (.cells (kyC k) 76)
  have hB0 := below_alloc w (.cells (kyC k) 76)
  have h0 := h.below hB0
  have hst0 : Stp BgP own own w (w.alloc (.cells (kyC k) 76)) := Stp.of_below hB0 h.owned
  obtain ⟨W0, HW0⟩ : ∃ W0, Hid (w.alloc (.cells (kyC k) 76) = W0) := ⟨_, rfl⟩
  rw [HW0.out] at hb0 hB0 h0 hst0
  have c10 : W0.cell? ⟨lb, 10, none⟩ = some (.map mb) := h0.c8.2.2
  have hlt := lt_blk h0.blk
  have hkt := lt_blk hb0
  have HS0 : Hid (LgS own W0 lb x q rv sv mb us) := h0
  have HST0 : Hid (Stp BgP own own w W0) := hst0
  have HK0 : Hid (W0.heap[w.heap.size]? = some (.cells (kyC k) 76 (0, 0))) := hb0
  have HKI : Hid k.In := hk
  obtain ⟨kb, Hkb⟩ : ∃ p, Hid (w.heap.size = p) := ⟨_, rfl⟩
  have HMO : Hid (∀ W : World, Below W0.heap.size W0 W → MpAt own W (x.sp.map Sp.key) mb) := fun W hB => HS0.out.mp.keep (Ext.refl _) fun b hb => hB.block b (HS0.out.owned b _ hb)
  obtain ⟨P, HP⟩ : ∃ P, Hid (x.place k = P) := ⟨_, rfl⟩
  go_enter Try.func44, Try.ntmps44
  go_upto_region 1 with (refine wpList_box_row rfl 76 _ rfl (kyC k) rfl ?_; rw [HW0.out])
  rw [Hkb.out] at HK0 hkt ⊢
  clear hb0 h0 h hk hB0 HW0 hst0
  refine wp_region_growG (by kernel_rfl) (by kernel_rfl) (fun xS => { tmps := (Value.pointer (some (⟨lb, 0, none⟩ : Addr)) :: Value.agg (kyC k) :: Value.int IntKind.i64 f :: undef :: Value.pointer (some (⟨kb, 0, none⟩ : Addr)) :: undef :: Value.pointer none :: xS 9 :: xS 10 :: xS 6 :: xS 0 :: xS 1 :: xS 2 :: xS 3 :: xS 4 :: xS 5 :: xS 7 :: xS 8 :: undef :: undef :: undef :: undef :: undef :: undef :: undef :: undef :: undef :: undef :: undef :: undef :: []).toArray, defers := [] })
    (fun ii xx WW => match ii with | 0 => xx = Value.pointer (some (⟨lb, 0, none⟩ : Addr)) | 1 => xx = Value.pointer (some (⟨lb, 0, none⟩ : Addr)) | 2 => xx = .pointer (some ⟨lb, 10, none⟩) | 3 => xx = .map mb | 4 => xx = .agg (kyC k) | 5 => xx = .tuple #[.int .i64 ((P.getD 0 : Nat) : Int), .bool P.isSome] | 6 => xx = .tuple #[.int .i64 ((P.getD 0 : Nat) : Int), .bool P.isSome] | 7 => xx = .int .i64 ((P.getD 0 : Nat) : Int) | 8 => xx = .bool P.isSome | 9 => xx = .int .i64 ((P.getD 0 : Nat) : Int) | 10 => xx = .bool P.isSome | _ => True) (fun | 0 => undef | 1 => undef | 2 => undef | 3 => undef | 4 => undef | 5 => undef | 6 => undef | 7 => undef | 8 => undef | 9 => undef | 10 => undef | _ => undef) (by repeat (first | exact trivial | refine ⟨fun _ _ => rfl, ?_⟩)) (fun _ _ _ _ _ h => h) ⟨?_, ?_, ?_, ?_, ?_, ?_, ?_, ?_, ?_, ?_, ?_, trivial⟩ ?_
  · intro xS W hB hp K hK
    rw [if_pos (wanted_none rfl _)]
    clear hp
    go_simp
    exact hK _ _ (Below.refl _ _) rfl
  · intro xS W hB hp K hK
    rw [if_pos (wanted_none rfl _)]
    have h0 : xS 0 = Value.pointer (some (⟨lb, 0, none⟩ : Addr)) := hp.1 rfl
    clear hp
    simp only [h0] at hK ⊢
    clear h0
    go_simp
    exact hK _ _ (Below.refl _ _) rfl
  · intro xS W hB hp K hK
    rw [if_pos (wanted_none rfl _)]
    have h1 : xS 1 = Value.pointer (some (⟨lb, 0, none⟩ : Addr)) := hp.1 rfl
    clear hp
    simp only [h1] at hK ⊢
    clear h1
    go_simp
    exact hK _ _ (Below.refl _ _) rfl
  · intro xS W hB hp K hK
    rw [if_pos (wanted_none rfl _)]
    have h2 : xS 2 = .pointer (some ⟨lb, 10, none⟩) := hp.1 rfl
    clear hp
    have hc := (hB.cell (p := ⟨lb, 10, none⟩) hlt).trans c10
    simp only [h2] at hK ⊢
    clear h2
    go_simp
    exact hK _ _ (Below.refl _ _) rfl
  · intro xS W hB hp K hK
    rw [if_pos (wanted_none rfl _)]
    clear hp
    refine wp_load_agg 76 (by kernel_rfl) _ rfl kb (kyC k) 76 (0, 0) ?_ ((hB.block kb hkt).trans HK0.out) (by kernel_rfl) ?_
    · rfl
    exact hK _ _ (Below.refl _ _) rfl
  · intro xS W hB hp K hK
    rw [if_pos (wanted_none rfl _)]
    have h3 : xS 3 = .map mb := hp.1 rfl
    have h4 : xS 4 = .agg (kyC k) := hp.2.1 rfl
    clear hp
    have hlk := look_any (HMO.out W hB) HKI.out
    rw [show idxK k (x.sp.map Sp.key) = P from HP.out] at hlk
    simp only [h3, h4] at hK ⊢
    clear h3 h4
    go_simp
    exact hK _ _ (Below.refl _ _) rfl
  · intro xS W hB hp K hK
    rw [if_pos (wanted_none rfl _)]
    have h5 : xS 5 = .tuple #[.int .i64 ((P.getD 0 : Nat) : Int), .bool P.isSome] := hp.1 rfl
    clear hp
    simp only [h5] at hK ⊢
    clear h5
    go_simp
    exact hK _ _ (Below.refl _ _) rfl
  · intro xS W hB hp K hK
    rw [if_pos (wanted_none rfl _)]
    have h6 : xS 6 = .tuple #[.int .i64 ((P.getD 0 : Nat) : Int), .bool P.isSome] := hp.1 rfl
    clear hp
    simp only [h6] at hK ⊢
    clear h6
    go_simp
    exact hK _ _ (Below.refl _ _) rfl
  · intro xS W hB hp K hK
    rw [if_pos (wanted_none rfl _)]
    have h6 : xS 6 = .tuple #[.int .i64 ((P.getD 0 : Nat) : Int), .bool P.isSome] := hp.1 rfl
    clear hp
    simp only [h6] at hK ⊢
    clear h6
    go_simp
    exact hK _ _ (Below.refl _ _) rfl
  · intro xS W hB hp K hK
    rw [if_pos (wanted_none rfl _)]
    have h7 : xS 7 = .int .i64 ((P.getD 0 : Nat) : Int) := hp.1 rfl
    clear hp
    simp only [h7] at hK ⊢
    clear h7
    go_simp
    exact hK _ _ (Below.refl _ _) rfl
  · intro xS W hB hp K hK
    rw [if_pos (wanted_none rfl _)]
    have h8 : xS 8 = .bool P.isSome := hp.1 rfl
    clear hp
    simp only [h8] at hK ⊢
    clear h8
    go_simp
    exact hK _ _ (Below.refl _ _) rfl
  intro xS W3 hB3 hs
  have h9 : xS 9 = .int .i64 ((P.getD 0 : Nat) : Int) := hs 9 (by simp)
  have h10 : xS 10 = .bool P.isSome := hs 10 (by simp)
  clear hs
  simp only [h9, h10]
  have HS3 : Hid (LgS own W3 lb x q rv sv mb us) := HS0.out.below hB3
  have HK3 : Hid (W3.heap[kb]? = some (.cells (kyC k) 76 (0, 0))) := (hB3.block kb hkt).trans HK0.out
  have HST3 : Hid (Stp BgP own own w W3) := HST0.out.trans (Stp.of_below hB3 HS0.out.owned)
  clear hB3 HMO c10 h9 h10 HS0 HST0 HK0 hkt hlt
  cases P with
  | none =>
    simp only [Option.getD_none, Option.isSome_none]
    have e1 : x.spI k = x.sp.length := by unfold Pl.spI; rw [HP.out]; rfl
    have e2 : x.spn k f = ⟨x.ws, x.rs, x.sp ++ [newS k f]⟩ := by unfold Pl.spn; rw [HP.out]
    have HE : Hid (x.spI k = x.sp.length ∧ x.spn k f = ⟨x.ws, x.rs, x.sp ++ [newS k f]⟩) := ⟨e1, e2⟩
    clear e1 e2
    go_upto_region 4 with (first | (refine wpList_load_agg rfl 76 (by kernel_rfl) _ rfl kb (kyC k) 76 (0, 0) ?_ HK3.out (by kernel_rfl) ?_; rfl) | (go_at_call 53; refine (begin_at own W3 lb x q rv sv mb us HS3.out k HKI.out f HP.out hl).mono ?_; rintro e w4 ⟨rfl, own4, sv4, mb4, hL4, hS4⟩))
    obtain ⟨g, gc, e, -, hg, hgc⟩ := hL4.sp.at (by simp)
    subst e
    have c9 := hL4.c8.2.1
    have HL4 : Hid (LgS own4 w4 lb ⟨x.ws, x.rs, x.sp ++ [newS k f]⟩ q rv (.slice (some ⟨g, 0, none⟩) (x.sp ++ [newS k f]).length gc) mb4 us) := hL4
    have HS4 : Hid (Stp BgP own4 own4 w4 w4) := Stp.refl hL4.owned
    have HST4 : Hid (Stp BgP own own4 w w4) := HST3.out.trans hS4
    have hll : (x.sp ++ [newS k f]).length = x.sp.length + 1 := by simp
    have HLL : Hid ((x.sp ++ [newS k f]).length = x.sp.length + 1) := hll
    have hin : (x.sp.length : Int) < (x.sp.length : Int) + 1 := by omega
    have hi9 : (x.sp.length : Int) < 90001 := by omega
    dsimp only at c9
    rw [hll] at c9
    clear hL4 hS4 hgc hll
    go_wp2_with fail
    go_ret
    exact ⟨own4, _, mb4, g, gc, by rw [HE.out.1]; rfl, rfl, by rw [HE.out.2]; exact HL4.out, HST4.out⟩
  | some i =>
    simp only [Option.getD_some, Option.isSome_some]
    have e1 : x.spI k = i := by unfold Pl.spI; rw [HP.out]; rfl
    have e2 : x.spn k f = x := by unfold Pl.spn; rw [HP.out]
    have HE : Hid (x.spI k = i ∧ x.spn k f = x) := ⟨e1, e2⟩
    obtain ⟨s, hs, -⟩ := Pl.place_at HP.out
    have hi := (List.getElem?_eq_some_iff.1 hs).1
    obtain ⟨g, gc, e, -, hg, hgc⟩ := HS3.out.sp.at (by omega)
    subst e
    have c9 : W3.cell? ⟨lb, 9, none⟩ = some (.slice (some ⟨g, 0, none⟩) x.sp.length gc) := HS3.out.c8.2.1
    have hi' : (i : Int) < (x.sp.length : Int) := by omega
    have hi9 : (i : Int) < 90001 := by omega
    clear e1 e2 hs hi hgc hg
    go_wp2_with fail
    go_ret
    exact ⟨own, _, mb, g, gc, by rw [HE.out.1]; rfl, by rw [HE.out.2], by rw [HE.out.2]; exact HS3.out, HST3.out⟩
end Go.Proofs.Ytjinhahfpkcilaa
