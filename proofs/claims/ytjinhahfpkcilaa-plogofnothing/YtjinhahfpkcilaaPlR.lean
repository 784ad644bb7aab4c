/- End. -/
import Derived.Test.YtjinhahfpkcilaaPlQ
namespace Go.Proofs.Ytjinhahfpkcilaa
open Go.RowKit Go.Dig Go.Inv Go.Oct
set_option linter.unusedVariables false
set_option linter.unusedSimpArgs false

theorem SsC_set (z : Int) : ∀ {L : List Sp} {i : Nat} {s : Sp}, L[i]? = some s → (SsC L).set (i * 5 + 4) (.int .i64 z) = SsC (L.set i ⟨s.p, s.e, s.t, s.f, z⟩)
  | [], i, s, h => by simp at h
  | a :: r, 0, s, h => by
    simp at h
    subst h
    rfl
  | a :: r, i + 1, s, h => by
    simp at h
    have ih := SsC_set z h
    rw [show (i + 1) * 5 + 4 = (i * 5 + 4) + 5 by omega]
    show (ssC a).toList ++ (SsC r).set (i * 5 + 4) (.int .i64 z) = (ssC a).toList ++ SsC (r.set i ⟨s.p, s.e, s.t, s.f, z⟩)
    rw [ih]
theorem OwnSs.set {w : World} {g n c : Nat} {L : List Sp} (h : OwnSs w 0 (.slice (some ⟨g, 0, none⟩) n c) L) {i : Nat} {s : Sp} (hs : L[i]? = some s) (z : Int) :
    OwnSs (w.setCell ⟨g, i * 5 + 4, none⟩ (.int .i64 z)) 0 (.slice (some ⟨g, 0, none⟩) n c) (L.set i ⟨s.p, s.e, s.t, s.f, z⟩) ∧ w.frozen? ⟨g, i * 5 + 4, none⟩ = false := by
  obtain ⟨h0, h⟩ := h
  rcases h with ⟨e, _⟩ | ⟨g', cap, cur, ev, hb, hg, h1, h2, h3, h4⟩
  · cases e
  · cases ev
    refine ⟨⟨?_, .inr ⟨g, c, cur.setIfInBounds (i * 5 + 4) (.int .i64 z), ?_, hb, set_blk hg _ _, ?_, h2, ?_, ?_⟩⟩, frozen_blk hg _⟩
    · rw [SsC_length]
    · rw [List.length_set]
    · rw [List.length_set]; exact h1
    · rw [Array.size_setIfInBounds]; exact h3
    · rw [List.length_set, Array.toList_setIfInBounds, List.take_set, h4, SsC_set z hs]
theorem map_set_same {L : List Sp} {i : Nat} {s s' : Sp} (hs : L[i]? = some s) (hk : s'.key = s.key) : (L.set i s').map Sp.key = L.map Sp.key := by
  apply List.ext_getElem?
  intro j
  rw [List.getElem?_map, List.getElem?_map]
  by_cases hj : j = i
  · subst hj
    rw [List.getElem?_set_self (List.getElem?_eq_some_iff.1 hs).1, hs]
    simp [hk]
  · rw [List.getElem?_set_ne (Ne.symm hj)]
/-- one has ended -/
theorem LgS.finS {own : Own} {w : World} {lb g n c : Nat} {x : Pl} {q : List (Option Nat)} {rv : Value} {mb : Option Nat} {us : List Value} (h : LgS own w lb x q rv (.slice (some ⟨g, 0, none⟩) n c) mb us) {i : Nat} {s : Sp} (hs : x.sp[i]? = some s) (z : Int) :
    LgS own (w.setCell ⟨g, i * 5 + 4, none⟩ (.int .i64 z)) lb ⟨x.ws, x.rs, x.sp.set i ⟨s.p, s.e, s.t, s.f, z⟩⟩ q rv (.slice (some ⟨g, 0, none⟩) n c) mb us ∧ Stp (fun _ => True) own own w (w.setCell ⟨g, i * 5 + 4, none⟩ (.int .i64 z)) := by
  have hg := h.ls g rfl
  have hS : Stp (fun l => l = .sp) own own w (w.setCell ⟨g, i * 5 + 4, none⟩ (.int .i64 z)) := Stp.cell (l := .sp) _ _ hg rfl h.owned
  have hb : ∀ k l, own k = some l → l ≠ .sp → (w.setCell ⟨g, i * 5 + 4, none⟩ (.int .i64 z)).heap[k]? = w.heap[k]? := fun k l hk hl => hS.block k (h.owned k l hk) fun m hm hp => hl (by rw [hk] at hm; rw [← hp]; exact Option.some.inj hm)
  refine ⟨⟨hS.new, (hb lb _ h.ll (by simp)).trans h.blk, h.ll, h.ql, h.wl, fun i b t h1 h2 => (h.wr i b t h1 h2).keep (Ext.refl _) fun k hk => hk.elim (fun e => hb k _ e (by simp)) (fun e => hb k _ e (by simp)), h.rs.same fun k hk => hb k _ (h.lr k hk) (by simp), h.ul, h.lr,
    fun i r u h1 h2 => (h.vl i r u h1 h2).keep (Ext.refl _) fun k hk => hb k _ hk (by simp), (h.sp.set hs z).1, h.ls, ?_⟩, hS.mono fun _ _ => trivial⟩
  show MpAt own _ ((x.sp.set i ⟨s.p, s.e, s.t, s.f, z⟩).map Sp.key) mb
  rw [map_set_same hs (s' := ⟨s.p, s.e, s.t, s.f, z⟩) rfl]
  exact h.mp.keep (Ext.refl _) fun k hk => hb k _ hk (by simp)
theorem Pl.fin_eq {x : Pl} {p e t : Int} {c : Bool} (h1 : okW p e = true) (h2 : okT t = true) {s : Sp} (hs : (x.spn (p, e, t) (-1)).sp[x.spI (p, e, t)]? = some s) :
    x.fin p e t c = if s.k ≠ 0 ∧ s.k ≠ kindP c then (6, x.spn (p, e, t) (-1)) else (0, ⟨x.ws, x.rs, (x.spn (p, e, t) (-1)).sp.set (x.spI (p, e, t)) ⟨s.p, s.e, s.t, s.f, kindP c⟩⟩) := by
  unfold Pl.fin
  rw [h1, h2]
  unfold Pl.spn Pl.spI at hs ⊢
  cases hp : x.place (p, e, t) with
  | none =>
    rw [hp] at hs
    simp at hs
    subst hs
    simp [newS]
  | some i =>
    rw [hp] at hs
    simp at hs
    simp [hs]
theorem End_nil (p e t : Int) (c : Bool) (w : World) : Calls Try.prog 22 #[.pointer none, .int .i64 p, .int .i64 e, .int .i64 t, .bool c] w fun e w' => e = .returned (.int .i64 1) ∧ w' = w := by
  go_enter Try.func22, Try.ntmps22
  go_wp2_with (refine wanted_do rfl fun _ _ => ?_)
  go_ret
  exact ⟨rfl, rfl⟩
set_option maxRecDepth 10000 in
set_option maxHeartbeats 4000000 in
theorem End_at (own : Own) (w : World) (lb : Nat) (x : Pl) (h : LogAt own w lb x) (p e t : Int) (c : Bool) (hl : x.sp.length ≤ 80000) : Calls Try.prog 22 #[.pointer (some ⟨lb, 0, none⟩), .int .i64 p, .int .i64 e, .int .i64 t, .bool c] w fun r w' => r = .returned (.int .i64 (x.fin p e t c).1) ∧ ∃ own', LogAt own' w' lb (x.fin p e t c).2 ∧ Stp (fun _ => True) own own' w w' := by
  obtain ⟨q, rv, sv, mb, us, h⟩ := h
  have HL : Hid (LgS own w lb x q rv sv mb us) := h
  have hw := mayWrite_any p e w
  have hn := mayNumber_any t w
  clear h
  cases h1 : okW p e
  · rw [h1] at hw
    have HE : Hid (x.fin p e t c = (1, x)) := by show x.fin p e t c = _; unfold Pl.fin; rw [h1]; rfl
    clear h1
    go_enter Try.func22, Try.ntmps22
    go_wp2_with (first | (go_at_call 42; refine hw.mono ?_; rintro e w1 ⟨rfl, rfl⟩) | (refine wanted_do rfl fun _ _ => ?_))
    go_ret
    exact ⟨by rw [HE.out]; rfl, own, by rw [HE.out]; exact ⟨_, _, _, _, _, HL.out⟩, Stp.refl HL.out.owned⟩
  · cases h2 : okT t
    · rw [h1] at hw
      rw [h2] at hn
      have HE : Hid (x.fin p e t c = (1, x)) := by show x.fin p e t c = _; unfold Pl.fin; rw [h1, h2]; rfl
      clear h1 h2
      go_enter Try.func22, Try.ntmps22
      go_wp2_with (first | (go_at_call 42; refine hw.mono ?_; rintro e w1 ⟨rfl, rfl⟩) | (go_at_call 43; refine hn.mono ?_; rintro e w1 ⟨rfl, rfl⟩) | (refine wanted_do rfl fun _ _ => ?_))
      go_ret
      exact ⟨by rw [HE.out]; rfl, own, by rw [HE.out]; exact ⟨_, _, _, _, _, HL.out⟩, Stp.refl HL.out.owned⟩
    · rw [h1] at hw
      rw [h2] at hn
      have hki : Ky.In (p, e, t) := by
        have a := h1
        have b := h2
        simp [okW] at a
        simp [okT] at b
        exact ⟨by show 0 ≤ p ∧ p ≤ 200; omega, by show 0 ≤ e ∧ e ≤ 200; omega, by show 0 ≤ t ∧ t ≤ 200; omega⟩
      have HSP : Hid (Calls Try.prog 44 #[.pointer (some ⟨lb, 0, none⟩), .agg (kyC (p, e, t)), .int .i64 (-1)] w fun r w' => ∃ own' sv' mb' g c, r = .returned (.pointer (some ⟨g, x.spI (p, e, t) * 5, none⟩)) ∧ sv' = .slice (some ⟨g, 0, none⟩) (x.spn (p, e, t) (-1)).sp.length c ∧
        LgS own' w' lb (x.spn (p, e, t) (-1)) q rv sv' mb' us ∧ Stp BgP own own' w w') := span_at own w lb x q rv sv mb us HL.out (p, e, t) hki (-1) (by omega)
      obtain ⟨s, hs, -⟩ := x.spn_at (p, e, t) (-1)
      have HF : Hid (x.fin p e t c = if s.k ≠ 0 ∧ s.k ≠ kindP c then (6, x.spn (p, e, t) (-1)) else (0, ⟨x.ws, x.rs, (x.spn (p, e, t) (-1)).sp.set (x.spI (p, e, t)) ⟨s.p, s.e, s.t, s.f, kindP c⟩⟩)) := Pl.fin_eq h1 h2 hs
      have HS : Hid ((x.spn (p, e, t) (-1)).sp[x.spI (p, e, t)]? = some s) := hs
      clear h1 h2 hs hki
      go_enter Try.func22, Try.ntmps22
      cases c
      · skip
        go_upto_region 7 with (first | (go_at_call 42; refine hw.mono ?_; rintro e w1 ⟨rfl, rfl⟩) | (go_at_call 43; refine hn.mono ?_; rintro e w1 ⟨rfl, rfl⟩) | (refine wpList_build_to rfl 76 _ rfl (kyC (p, e, t)) (by kernel_rfl) ?_) | (go_at_call 44; refine HSP.out.mono ?_; rintro e w2 ⟨own2, sv2, mb2, g, gc, rfl, rfl, hL2, hS2⟩) | (refine wanted_do rfl fun _ _ => ?_))
        have hfin := hL2.finS HS.out 3
        have hfz := (hL2.sp.set HS.out 3).2
        have hi := (List.getElem?_eq_some_iff.1 HS.out).1
        have hcs : w2.cell? ⟨g, x.spI (p, e, t) * 5 + 4, none⟩ = some (.int .i64 s.k) := by
          obtain ⟨g', gc', eg, -, -, hgc⟩ := hL2.sp.at (by omega)
          have eg' : g = g' := by injection eg with eg; injection eg with eg; injection eg
          subst eg'
          exact hgc _ s HS.out 4 _ rfl
        have HFI : Hid (LgS own2 (w2.setCell ⟨g, x.spI (p, e, t) * 5 + 4, none⟩ (.int .i64 3)) lb ⟨(x.spn (p, e, t) (-1)).ws, (x.spn (p, e, t) (-1)).rs, (x.spn (p, e, t) (-1)).sp.set (x.spI (p, e, t)) ⟨s.p, s.e, s.t, s.f, 3⟩⟩ q rv (.slice (some ⟨g, 0, none⟩) (x.spn (p, e, t) (-1)).sp.length gc) mb2 us ∧ Stp (fun _ => True) own2 own2 w2 (w2.setCell ⟨g, x.spI (p, e, t) * 5 + 4, none⟩ (.int .i64 3))) := hfin
        have HL2 : Hid (LgS own2 w2 lb (x.spn (p, e, t) (-1)) q rv (.slice (some ⟨g, 0, none⟩) (x.spn (p, e, t) (-1)).sp.length gc) mb2 us ∧ Stp (fun _ => True) own own2 _ w2) := ⟨hL2, hS2.mono fun _ _ => trivial⟩
        clear hfin hL2 hS2 hi HSP
        by_cases hk0 : s.k = 0
        · have HE : Hid (x.fin p e t false = (0, ⟨x.ws, x.rs, (x.spn (p, e, t) (-1)).sp.set (x.spI (p, e, t)) ⟨s.p, s.e, s.t, s.f, 3⟩⟩)) := by
            show x.fin p e t false = _
            rw [HF.out, if_neg (fun h => h.1 hk0)]; rfl
          rw [hk0] at hcs
          clear hk0 HF
          go_wp2_with (refine wanted_do rfl fun _ _ => ?_)
          go_ret
          exact ⟨by rw [HE.out]; rfl, own2, by rw [HE.out]; exact ⟨_, _, _, _, _, HFI.out.1⟩, HL2.out.2.trans HFI.out.2⟩
        · by_cases hkk : s.k = 3
          · have HE : Hid (x.fin p e t false = (0, ⟨x.ws, x.rs, (x.spn (p, e, t) (-1)).sp.set (x.spI (p, e, t)) ⟨s.p, s.e, s.t, s.f, 3⟩⟩)) := by
              show x.fin p e t false = _
              rw [HF.out, if_neg (fun h => h.2 hkk)]; rfl
            rw [hkk] at hcs
            clear hk0 hkk HF
            go_wp2_with (refine wanted_do rfl fun _ _ => ?_)
            go_ret
            exact ⟨by rw [HE.out]; rfl, own2, by rw [HE.out]; exact ⟨_, _, _, _, _, HFI.out.1⟩, HL2.out.2.trans HFI.out.2⟩
          · have HE : Hid (x.fin p e t false = (6, x.spn (p, e, t) (-1))) := by
              show x.fin p e t false = _
              rw [HF.out, if_pos ⟨hk0, hkk⟩]
            have hb0 : (s.k != 0) = true := by simpa using hk0
            have hbk : (s.k != 3) = true := by simpa using hkk
            clear HF
            go_wp2_with (refine wanted_do rfl fun _ _ => ?_)
            go_ret
            exact ⟨by rw [HE.out]; rfl, own2, by rw [HE.out]; exact ⟨_, _, _, _, _, HL2.out.1⟩, HL2.out.2⟩
      · skip
        go_upto_region 7 with (first | (go_at_call 42; refine hw.mono ?_; rintro e w1 ⟨rfl, rfl⟩) | (go_at_call 43; refine hn.mono ?_; rintro e w1 ⟨rfl, rfl⟩) | (refine wpList_build_to rfl 76 _ rfl (kyC (p, e, t)) (by kernel_rfl) ?_) | (go_at_call 44; refine HSP.out.mono ?_; rintro e w2 ⟨own2, sv2, mb2, g, gc, rfl, rfl, hL2, hS2⟩) | (refine wanted_do rfl fun _ _ => ?_))
        have hfin := hL2.finS HS.out 2
        have hfz := (hL2.sp.set HS.out 2).2
        have hi := (List.getElem?_eq_some_iff.1 HS.out).1
        have hcs : w2.cell? ⟨g, x.spI (p, e, t) * 5 + 4, none⟩ = some (.int .i64 s.k) := by
          obtain ⟨g', gc', eg, -, -, hgc⟩ := hL2.sp.at (by omega)
          have eg' : g = g' := by injection eg with eg; injection eg with eg; injection eg
          subst eg'
          exact hgc _ s HS.out 4 _ rfl
        have HFI : Hid (LgS own2 (w2.setCell ⟨g, x.spI (p, e, t) * 5 + 4, none⟩ (.int .i64 2)) lb ⟨(x.spn (p, e, t) (-1)).ws, (x.spn (p, e, t) (-1)).rs, (x.spn (p, e, t) (-1)).sp.set (x.spI (p, e, t)) ⟨s.p, s.e, s.t, s.f, 2⟩⟩ q rv (.slice (some ⟨g, 0, none⟩) (x.spn (p, e, t) (-1)).sp.length gc) mb2 us ∧ Stp (fun _ => True) own2 own2 w2 (w2.setCell ⟨g, x.spI (p, e, t) * 5 + 4, none⟩ (.int .i64 2))) := hfin
        have HL2 : Hid (LgS own2 w2 lb (x.spn (p, e, t) (-1)) q rv (.slice (some ⟨g, 0, none⟩) (x.spn (p, e, t) (-1)).sp.length gc) mb2 us ∧ Stp (fun _ => True) own own2 _ w2) := ⟨hL2, hS2.mono fun _ _ => trivial⟩
        clear hfin hL2 hS2 hi HSP
        by_cases hk0 : s.k = 0
        · have HE : Hid (x.fin p e t true = (0, ⟨x.ws, x.rs, (x.spn (p, e, t) (-1)).sp.set (x.spI (p, e, t)) ⟨s.p, s.e, s.t, s.f, 2⟩⟩)) := by
            show x.fin p e t true = _
            rw [HF.out, if_neg (fun h => h.1 hk0)]; rfl
          rw [hk0] at hcs
          clear hk0 HF
          go_wp2_with (refine wanted_do rfl fun _ _ => ?_)
          go_ret
          exact ⟨by rw [HE.out]; rfl, own2, by rw [HE.out]; exact ⟨_, _, _, _, _, HFI.out.1⟩, HL2.out.2.trans HFI.out.2⟩
        · by_cases hkk : s.k = 2
          · have HE : Hid (x.fin p e t true = (0, ⟨x.ws, x.rs, (x.spn (p, e, t) (-1)).sp.set (x.spI (p, e, t)) ⟨s.p, s.e, s.t, s.f, 2⟩⟩)) := by
              show x.fin p e t true = _
              rw [HF.out, if_neg (fun h => h.2 hkk)]; rfl
            rw [hkk] at hcs
            clear hk0 hkk HF
            go_wp2_with (refine wanted_do rfl fun _ _ => ?_)
            go_ret
            exact ⟨by rw [HE.out]; rfl, own2, by rw [HE.out]; exact ⟨_, _, _, _, _, HFI.out.1⟩, HL2.out.2.trans HFI.out.2⟩
          · have HE : Hid (x.fin p e t true = (6, x.spn (p, e, t) (-1))) := by
              show x.fin p e t true = _
              rw [HF.out, if_pos ⟨hk0, hkk⟩]
            have hb0 : (s.k != 0) = true := by simpa using hk0
            have hbk : (s.k != 2) = true := by simpa using hkk
            clear HF
            go_wp2_with (refine wanted_do rfl fun _ _ => ?_)
            go_ret
            exact ⟨by rw [HE.out]; rfl, own2, by rw [HE.out]; exact ⟨_, _, _, _, _, HL2.out.1⟩, HL2.out.2⟩
end Go.Proofs.Ytjinhahfpkcilaa
