/- Whether a transaction is ended. -/
import Derived.Test.YtjinhahfpkcilaaPlD
import Derived.WalkKit
import Derived.WalkSpells
namespace Go.Proofs.Ytjinhahfpkcilaa
open Go.RowKit Go.Dig Go.Inv
set_option linter.unusedVariables false
set_option linter.unusedSimpArgs false

theorem look_any {own : Own} {w : World} {K : List Ky} {mb : Option Nat} (h : MpAt own w K mb) {k : Ky} (hk : k.In) : (Instr.lookup 66 (.map mb) (.agg (kyC k)) true).run Try.prog w = .ok (.tuple #[.int .i64 (((idxK k K).getD 0 : Nat) : Int), .bool (idxK k K).isSome]) w := by
  cases mb with
  | none =>
    have : K = [] := h
    subst this
    exact look_none w hk
  | some b => exact h.1.look hk
theorem Pl.ended_some {x : Pl} {k : Ky} {i : Nat} {s : Sp} (h : x.place k = some i) (hs : x.sp[i]? = some s) : x.ended k = !decide (s.k = 0) := by unfold Pl.ended; rw [h]; dsimp only; rw [hs]
theorem Pl.ended_none {x : Pl} {k : Ky} (h : x.place k = Option.none) : x.ended k = false := by unfold Pl.ended; rw [h]
theorem Pl.place_at {x : Pl} {k : Ky} {i : Nat} (h : x.place k = some i) : ∃ s, x.sp[i]? = some s ∧ s.key = k := by
  have := idxK_some h
  rw [List.getElem?_map] at this
  cases hs : x.sp[i]? with
  | none => rw [hs] at this; cases this
  | some s => rw [hs] at this; exact ⟨s, rfl, by simpa using this⟩
set_option maxRecDepth 10000 in
set_option maxHeartbeats 1000000 in
theorem ended_at (own : Own) (w : World) (lb : Nat) (x : Pl) (q : List (Option Nat)) (rv sv : Value) (mb : Option Nat) (us : List Value) (h : LgS own w lb x q rv sv mb us) (k : Ky) (hk : k.In) (hl : x.sp.length ≤ 90000) :
    Calls Try.prog 31 #[.pointer (some ⟨lb, 0, none⟩), .agg (kyC k)] w fun e w' => e = .returned (.bool (x.ended k)) ∧ Below w.heap.size w w' := by
  have hb0 := alloc_blk w (.cells (kyC k) 76)
  have hB0 := below_alloc w (.cells (kyC k) 76)
  have h0 := h.below hB0
  obtain ⟨W0, HW0⟩ : ∃ W0, Hid (w.alloc (.cells (kyC k) 76) = W0) := ⟨_, rfl⟩
  rw [HW0.out] at hb0 hB0 h0
  have HB0 : Hid (Below w.heap.size w W0) := hB0
  have c10 : W0.cell? ⟨lb, 10, none⟩ = some (.map mb) := h0.c8.2.2
  have c9 : W0.cell? ⟨lb, 9, none⟩ = some sv := h0.c8.2.1
  have hlt := lt_blk h0.blk
  have hkt := lt_blk hb0
  have HM : Hid (MpAt own W0 (x.sp.map Sp.key) mb) := h0.mp
  have HK0 : Hid (W0.heap[w.heap.size]? = some (.cells (kyC k) 76 (0, 0))) := hb0
  have HS : Hid (OwnSs W0 0 sv x.sp) := h0.sp
  have HKI : Hid k.In := hk
  obtain ⟨kb, Hkb⟩ : ∃ p, Hid (w.heap.size = p) := ⟨_, rfl⟩
  have HMO : Hid (∀ W : World, Below W0.heap.size W0 W → MpAt own W (x.sp.map Sp.key) mb) := fun W hB => HM.out.keep (Ext.refl _) fun b hb => hB.block b (h0.owned b _ hb)
  obtain ⟨P, HP⟩ : ∃ P, Hid (x.place k = P) := ⟨_, rfl⟩
  go_enter Try.func31, Try.ntmps31
  go_upto_region 1 with (refine wpList_box_row rfl 76 _ rfl (kyC k) rfl ?_; rw [HW0.out])
  rw [Hkb.out] at HK0 hkt ⊢
  clear hb0 h0 h hk hB0 HW0
  refine wp_region_growG (by kernel_rfl) (by kernel_rfl) (fun xS => { tmps := (Value.pointer (some (⟨lb, 0, none⟩ : Addr)) :: Value.agg (kyC k) :: undef :: Value.pointer (some (⟨kb, 0, none⟩ : Addr)) :: Value.bool false :: xS 9 :: xS 10 :: xS 6 :: xS 0 :: xS 1 :: xS 2 :: xS 3 :: xS 4 :: xS 5 :: xS 7 :: xS 8 :: undef :: undef :: undef :: undef :: undef :: undef :: undef :: undef :: undef :: undef :: undef :: undef :: []).toArray, defers := [] })
    (fun ii xx WW => match ii with | 0 => xx = Value.pointer (some (⟨lb, 0, none⟩ : Addr)) | 1 => xx = Value.pointer (some (⟨lb, 0, none⟩ : Addr)) | 2 => xx = .pointer (some ⟨lb, 10, none⟩) | 3 => xx = .map mb | 4 => xx = .agg (kyC k) | 5 => xx = .tuple #[.int .i64 ((P.getD 0 : Nat) : Int), .bool P.isSome] | 6 => xx = .tuple #[.int .i64 ((P.getD 0 : Nat) : Int), .bool P.isSome] | 7 => xx = .int .i64 ((P.getD 0 : Nat) : Int) | 8 => xx = .bool P.isSome | 9 => xx = .int .i64 ((P.getD 0 : Nat) : Int) | 10 => xx = .bool P.isSome | _ => True) (fun | 0 => undef | 1 => undef | 2 => undef | 3 => undef | 4 => undef | 5 => undef | 6 => undef | 7 => undef | 8 => undef | 9 => undef | 10 => undef | _ => undef) (by repeat (first | exact trivial | refine ⟨fun _ _ => rfl, ?_⟩)) (fun _ _ _ _ _ h => h) ⟨?_, ?_, ?_, ?_, ?_, ?_, ?_, ?_, ?_, ?_, ?_, trivial⟩ ?_
  · intro xS W hB hp K hK
    rw [if_pos (wanted_none rfl _)]
    clear hp
    go_simp
    exact hK _ _ (Below.refl _ _) rfl
  · intro xS W hB hp K hK
    rw [if_pos (wanted_none rfl _)]
    have h0 : xS 0 = Value.pointer (some (⟨lb, 0, none⟩ : Addr)) := hp.1 rfl
    clear hp
    simp only [h0] at hK ⊢
    clear h0
    go_simp
    exact hK _ _ (Below.refl _ _) rfl
  · intro xS W hB hp K hK
    rw [if_pos (wanted_none rfl _)]
    have h1 : xS 1 = Value.pointer (some (⟨lb, 0, none⟩ : Addr)) := hp.1 rfl
    clear hp
    simp only [h1] at hK ⊢
    clear h1
    go_simp
    exact hK _ _ (Below.refl _ _) rfl
  · intro xS W hB hp K hK
    rw [if_pos (wanted_none rfl _)]
    have h2 : xS 2 = .pointer (some ⟨lb, 10, none⟩) := hp.1 rfl
    clear hp
    have hc := (hB.cell (p := ⟨lb, 10, none⟩) hlt).trans c10
    simp only [h2] at hK ⊢
    clear h2
    go_simp
    exact hK _ _ (Below.refl _ _) rfl
  · intro xS W hB hp K hK
    rw [if_pos (wanted_none rfl _)]
    clear hp
    refine wp_load_agg 76 (by kernel_rfl) _ rfl kb (kyC k) 76 (0, 0) ?_ ((hB.block kb hkt).trans HK0.out) (by kernel_rfl) ?_
    · rfl
    exact hK _ _ (Below.refl _ _) rfl
  · intro xS W hB hp K hK
    rw [if_pos (wanted_none rfl _)]
    have h3 : xS 3 = .map mb := hp.1 rfl
    have h4 : xS 4 = .agg (kyC k) := hp.2.1 rfl
    clear hp
    have hlk := look_any (HMO.out W hB) HKI.out
    rw [show idxK k (x.sp.map Sp.key) = P from HP.out] at hlk
    simp only [h3, h4] at hK ⊢
    clear h3 h4
    go_simp
    exact hK _ _ (Below.refl _ _) rfl
  · intro xS W hB hp K hK
    rw [if_pos (wanted_none rfl _)]
    have h5 : xS 5 = .tuple #[.int .i64 ((P.getD 0 : Nat) : Int), .bool P.isSome] := hp.1 rfl
    clear hp
    simp only [h5] at hK ⊢
    clear h5
    go_simp
    exact hK _ _ (Below.refl _ _) rfl
  · intro xS W hB hp K hK
    rw [if_pos (wanted_none rfl _)]
    have h6 : xS 6 = .tuple #[.int .i64 ((P.getD 0 : Nat) : Int), .bool P.isSome] := hp.1 rfl
    clear hp
    simp only [h6] at hK ⊢
    clear h6
    go_simp
    exact hK _ _ (Below.refl _ _) rfl
  · intro xS W hB hp K hK
    rw [if_pos (wanted_none rfl _)]
    have h6 : xS 6 = .tuple #[.int .i64 ((P.getD 0 : Nat) : Int), .bool P.isSome] := hp.1 rfl
    clear hp
    simp only [h6] at hK ⊢
    clear h6
    go_simp
    exact hK _ _ (Below.refl _ _) rfl
  · intro xS W hB hp K hK
    rw [if_pos (wanted_none rfl _)]
    have h7 : xS 7 = .int .i64 ((P.getD 0 : Nat) : Int) := hp.1 rfl
    clear hp
    simp only [h7] at hK ⊢
    clear h7
    go_simp
    exact hK _ _ (Below.refl _ _) rfl
  · intro xS W hB hp K hK
    rw [if_pos (wanted_none rfl _)]
    have h8 : xS 8 = .bool P.isSome := hp.1 rfl
    clear hp
    simp only [h8] at hK ⊢
    clear h8
    go_simp
    exact hK _ _ (Below.refl _ _) rfl
  intro xS W3 hB3 hs
  have h9 : xS 9 = .int .i64 ((P.getD 0 : Nat) : Int) := hs 9 (by simp)
  have h10 : xS 10 = .bool P.isSome := hs 10 (by simp)
  clear hs
  simp only [h9, h10]
  have d9 : W3.cell? ⟨lb, 9, none⟩ = some sv := (hB3.cell (p := ⟨lb, 9, none⟩) hlt).trans c9
  have HB3 : Hid (Below w.heap.size w W3) := HB0.out.trans (hB3.mono HB0.out.size)
  have HS3 : Hid (OwnSs W3 0 sv x.sp) := HS.out.below hB3
  clear hB3 c9 c10 HMO HM
  cases P with
  | none =>
    have HE : Hid (x.ended k = false) := Pl.ended_none HP.out
    simp only [Option.getD_none, Option.isSome_none]
    go_wp2_with fail
    go_ret
    exact ⟨by rw [HE.out]; rfl, HB3.out⟩
  | some i =>
    obtain ⟨s, hs, -⟩ := Pl.place_at HP.out
    have HE : Hid (x.ended k = !decide (s.k = 0)) := Pl.ended_some HP.out hs
    have hi := (List.getElem?_eq_some_iff.1 hs).1
    obtain ⟨g, c, e, -, hg, hc⟩ := HS3.out.at (by omega)
    subst e
    have cs : W3.cell? ⟨g, i * 5 + 4, none⟩ = some (.int .i64 s.k) := hc i s hs 4 _ rfl
    have hi' : (i : Int) < (x.sp.length : Int) := by omega
    have hi9 : (i : Int) < 90000 := by omega
    clear hc hg hi hl HS3 HS hs HP
    simp only [Option.getD_some, Option.isSome_some]
    go_wp2_with fail
    go_ret
    exact ⟨by rw [HE.out]; simp; by_cases h : s.k = 0 <;> simp [h], HB3.out⟩
end Go.Proofs.Ytjinhahfpkcilaa
