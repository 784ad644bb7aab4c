/- RuleProves' walk, within its sizes. -/
import Derived.Test.YticpkpphjpgdbaaRuleP
import Derived.Test.YticpkpphjpgdbaaRefLaw
namespace Go.Proofs.Yticpkpphjpgdbaa
open Go.RowKit Go.Dig Go.Sha Go.Inv Go.Oct

theorem bd_in {s v : Int} (h0 : 0 ≤ s) (h1 : s ≤ 1000) (h2 : 0 ≤ v) (h3 : v ≤ 1000) (k : Int) (h4 : 0 ≤ k) (h5 : k ≤ 10) : Bd k s v := ⟨⟨by omega, by omega⟩, ⟨by omega, by omega⟩, ⟨by omega, by omega⟩⟩
theorem pvL_mix (k k' s v : Int) (P : List Int) (b : Bd k s v) (b' : Bd k' s v) {m i : Nat} (hi : i < m) :
    ((pvL k' s v P b' m).take i ++ (pvL k s v P b m).drop i).set i (pv k' s v P b' i) = (pvL k' s v P b' m).take (i + 1) ++ (pvL k s v P b m).drop (i + 1) := by
  have h1 : ((pvL k' s v P b' m).take i).length = i := by rw [List.length_take, pvL_length]; omega
  have h2 : (pvL k s v P b m).drop i = pv k s v P b i :: (pvL k s v P b m).drop (i + 1) := by
    rw [List.drop_eq_getElem_cons (by rw [pvL_length]; exact hi)]
    simp [pvL]
  have h3 : (pvL k' s v P b' m).take (i + 1) = (pvL k' s v P b' m).take i ++ [pv k' s v P b' i] := by
    rw [List.take_add_one, List.getElem?_eq_getElem (by rw [pvL_length]; exact hi)]
    simp [pvL]
  rw [h2, List.set_append_right _ _ (by omega), h1, Nat.sub_self, List.set_cons_zero, h3, List.append_assoc, List.singleton_append]
set_option maxRecDepth 10000 in
set_option maxHeartbeats 8000000 in
theorem ruleProves_in (m : Nat) (slot view below : Int) (P : List Int) (ao : Option Addr) (cap : Nat) (commit : Bool) (w : World) (hm : m ≤ 4) (s0 : 0 ≤ slot) (s1 : slot ≤ 60) (v0 : 0 ≤ view) (v1 : view ≤ 8) (b0 : 0 ≤ below) (b1 : below ≤ 10) (hP : P.length ≤ 100) (hl : Lies w ao P) (hc : P.length ≤ cap) (hr : Rowed w ao P cap) :
    Calls Try.prog 7 #[.int .i64 (m : Int), .int .i64 slot, .int .i64 view, .int .i64 below, .slice ao P.length cap, .bool commit] w fun x w' => x = .returned (.bool true) ∧ Below w.heap.size w w' := by
  have hm0 : ¬ ((m : Int) < 0) := by omega
  have hm4 : ¬ ((4 : Int) < (m : Int)) := by omega
  have hs0 : ¬ (slot < 0) := by omega
  have hs1 : ¬ (60 < slot) := by omega
  have hv0 : ¬ (view < 0) := by omega
  have hv1 : ¬ (8 < view) := by omega
  have hb0 : ¬ (below < 0) := by omega
  have hb1 : ¬ (10 < below) := by omega
  have hP1 : ¬ ((100 : Int) < (P.length : Int)) := by omega
  have b : Bd 1 slot view := bd_in s0 (by omega) v0 (by omega) 1 (by decide) (by decide)
  have b2 : Bd 2 slot view := bd_in s0 (by omega) v0 (by omega) 2 (by decide) (by decide)
  have HL : Hid (Lies w ao P) := hl
  have HRw : Hid (Rowed w ao P cap) := hr
  clear hl hr
  go_enter Try.func7, Try.ntmps7
  go_wp2_with (refine wpList_build_to rfl 30 _ rfl (row .u8 32 (oneF 1)) (by kernel_rfl) ?_)
  refine (sNew_any 4 (oneF 1) _ (by decide) (by decide)).mono ?_
  rintro x w1 ⟨rg, rfl, hrg, hR, hB1⟩
  rw [show nodesOf 4 = 4 by decide] at hR
  have HR : Hid (RingV w1 (.pointer (some ⟨rg, 0, none⟩)) ring4) := ⟨rg, rfl, hR⟩
  clear hR
  go_wp2_with (refine wpList_build_to rfl 30 _ rfl (row .u8 32 (oneF 1)) (by kernel_rfl) ?_)
  refine (rNew_any 4 (oneF 1) w1 (by decide) (by decide)).mono ?_
  rintro x w2 ⟨xg, rfl, hxg, hX, hB2⟩
  rw [show nodesOf 4 = 4 by decide] at hX
  have HX : Hid (RRing w2 xg (oneF 1) 4) := hX
  have HR2 : Hid (RingV w2 (.pointer (some ⟨rg, 0, none⟩)) ring4) := HR.out.below hB2
  have hBw2 : Below w.heap.size w w2 := hB1.trans (hB2.mono hB1.size)
  clear hX HR hB1 hB2
  go_wp2_with fail
  refine (votes7_any xg (m : Int) slot view P ao cap w2 b HX.out (HRw.out.below hBw2 (Nat.le_refl _)) (by omega)).mono ?_
  rintro x w3 ⟨v, rfl, hO, hB3⟩
  rw [show (min (m : Int) 4).toNat = m by omega] at hO
  have hBw3 : Below w.heap.size w w3 := hBw2.trans (hB3.mono hBw2.size)
  have HR3 : Hid (RingV w3 (.pointer (some ⟨rg, 0, none⟩)) ring4) := HR2.out.below hB3
  have HX3 : Hid (RRing w3 xg (oneF 1) 4) := HX.out.below hB3
  obtain ⟨la, lc, rfl, hVin⟩ := hO.form
  have hll := pvL_length 1 slot view P b m
  cases commit
  · clear HR2 HX hB3 hBw2
    have HV : Hid (VotesIn w3 la lc (pvL 1 slot view P b m)) := hVin
    have HL3 : Hid (Lies w3 ao P) := HL.out.below hBw3 (Nat.le_refl _)
    have HP1 : Hid _ := proves_pvL slot view below P b hm v0
    have HP2 : Hid (provesR ring4 (pvL 1 slot view P b m) (slot + 1) below P = none) := proves_not view (slot + 1) below P P b m (fun e => by omega)
    clear hO hVin hll HX3
    generalize pvL 1 slot view P b m = ys at *
    go_wp2_with fail
    refine (proves_any _ ring4 la lc ys slot below P ao cap w3 HR3.out (by decide) HV.out HL3.out hc (by omega)).mono ?_
    rintro x w4 ⟨rfl, hB4⟩
    rw [HP1.out]
    have HR4 : Hid (RingV w4 (.pointer (some ⟨rg, 0, none⟩)) ring4) := HR3.out.below hB4
    have HV4 : Hid (VotesIn w4 la lc ys) := HV.out.below hB4
    have HL4 : Hid (Lies w4 ao P) := HL3.out.below hB4 (Nat.le_refl _)
    have hBw4 : Below w.heap.size w w4 := hBw3.trans (hB4.mono hBw3.size)
    clear hB4 HR3 HV HL3 hBw3 HP1
    have key : ∀ (o : Option Int), (if 3 ≤ m ∧ view < below then some view else none) = o → (o = some view ∧ 3 ≤ m ∧ view < below) ∨ (o = none ∧ ¬ 3 ≤ m) ∨ (o = none ∧ 3 ≤ m ∧ ¬ view < below) := fun o e => by
      by_cases q3 : 3 ≤ m
      · by_cases qb : view < below
        · rw [if_pos ⟨q3, qb⟩] at e; exact .inl ⟨e.symm, q3, qb⟩
        · rw [if_neg (fun h => qb h.2)] at e; exact .inr (.inr ⟨e.symm, q3, qb⟩)
      · rw [if_neg (fun h => q3 h.1)] at e; exact .inr (.inl ⟨e.symm, q3⟩)
    obtain ⟨o, ho⟩ : ∃ o, (if 3 ≤ m ∧ view < below then some view else none) = o := ⟨_, rfl⟩
    rw [ho]
    have hk := key o ho
    clear key ho
    rcases hk with ⟨rfl, q3, qb⟩ | ⟨rfl, q3⟩ | ⟨rfl, q3, qb⟩
    all_goals
      simp only [provedV, Option.getD_some, Option.isSome_some, Option.getD_none, Option.isSome_none]
      go_wp2_with fail
      refine (proves_any _ ring4 la lc ys (slot + 1) below P ao cap w4 HR4.out (by decide) HV4.out HL4.out hc (by omega)).mono ?_
      rintro x w5 ⟨rfl, hB5⟩
      rw [HP2.out]
      have hBw5 : Below w.heap.size w w5 := hBw4.trans (hB5.mono hBw4.size)
      clear hB5 hBw4 HR4 HV4 HL4
      simp only [provedV, Option.getD_none, Option.isSome_none]
      go_wp2_with fail
      refine (known7_any w5).mono ?_
      rintro x w6 ⟨rfl, hB6⟩
      have hBw6 : Below w.heap.size w w6 := hBw5.trans (hB6.mono hBw5.size)
      clear hB6 hBw5
      go_wp2_with fail
      go_ret
      exact ⟨rfl, hBw6⟩
  · rw [hll]
    rw [hll] at hO
    clear hVin hll
    have HO : Hid (OwnV w3 w2.heap.size (.slice la m lc) ((pvL 2 slot view P b2 m).take 0 ++ (pvL 1 slot view P b m).drop 0)) := hO
    clear hO
    go_wp2_with fail
    go_loopw [16] (fun iv wr => ∃ i : Nat, i ≤ m ∧ iv = .int .i64 (i : Int) ∧ Hid (OwnV wr w2.heap.size (.slice la m lc) ((pvL 2 slot view P b2 m).take i ++ (pvL 1 slot view P b m).drop i)) ∧ Hid (Below w3.heap.size w3 wr ∨ Below w2.heap.size w2 wr) ∧ Below w2.heap.size w2 wr ∧ w2.heap.size ≤ wr.heap.size) (fun iv _ => m - (intOf iv).toNat)
    case atStart => exact ⟨0, Nat.zero_le _, rfl, HO, .inl (Below.refl _ _), hB3, hB3.size⟩
    case round =>
      clear HO
      obtain ⟨i, hi, rfl, HO, -, hB, hz⟩ := hrel
      by_cases hlt : i < m
      · have hlen : ((pvL 2 slot view P b2 m).take i ++ (pvL 1 slot view P b m).drop i).length = m := by rw [List.length_append, List.length_take, List.length_drop, pvL_length, pvL_length]; omega
        obtain ⟨g, hg⟩ : ∃ g, la = some ⟨g, 0, none⟩ := by
          rcases HO.out.2 with ⟨_, h0⟩ | ⟨g, cap', cur, e, _⟩
          · omega
          · injection e with e1 e2 e3; exact ⟨g, e1⟩
        subst hg
        have hgb : w2.heap.size ≤ g := (HO.out.lt g rfl).1
        have hlt' : (i : Int) < (m : Int) := by omega
        have hi4 : i < 4 := by omega
        have HLN : Hid (i < ((pvL 2 slot view P b2 m).take i ++ (pvL 1 slot view P b m).drop i).length) := by show _ < _; omega
        have HMX := pvL_mix 1 2 slot view P b b2 hlt
        obtain ⟨zs, hzs⟩ : ∃ zs, (pvL 2 slot view P b2 m).take i ++ (pvL 1 slot view P b m).drop i = zs := ⟨_, rfl⟩
        rw [hzs] at HO HLN HMX
        have HM2 : Hid _ := HMX
        clear hzs HMX hlen
        have hBw : Below w.heap.size w wr := hBw2.trans (hB.mono hBw2.size)
        go_wp2_with fail
        refine (rValueSum_any P ao cap wr (HRw.out.below hBw (Nat.le_refl _)) (by omega)).mono ?_
        rintro e w4 ⟨rfl, hB4⟩
        have hB24 : Below w2.heap.size w2 w4 := hB.trans (hB4.mono hz)
        go_wp2_with fail
        refine (rCast_any xg 4 (oneF 1) 2 slot view (sha P) (i : Int) w4 (HX.out.below hB24) b2.1 b2.2.1 b2.2.2 (inI_small (by omega))).mono ?_
        rintro x w5 ⟨rfl, hB5⟩
        rw [show castR (some (oneF 1, 4)) 2 slot view (sha P) (i : Int) = (pv 2 slot view P b2 i).1 from by
          show _ = castR ring4 2 slot view (sha P) ((i % 4 : Nat) : Int)
          rw [Nat.mod_eq_of_lt hi4]]
        obtain ⟨z, hz'⟩ : ∃ z, pv 2 slot view P b2 i = z := ⟨_, rfl⟩
        rw [hz'] at HM2 ⊢
        have HO5 : Hid (OwnV w5 w2.heap.size (.slice (some ⟨g, 0, none⟩) m lc) zs) := (HO.out.below hB4).below hB5
        have hB25 : Below w2.heap.size w2 w5 := hB24.trans (hB5.mono hB24.size)
        clear hB4 hB5 hB24 HO hz' hB hBw
        go_wp2_with (refine wpList_setV rfl _ _ rfl w2.heap.size g lc m zs i HLN.out z ?_ ?_ HO5.out ?_; rfl; rfl)
        intro w6 hO6 hK6
        have HO6 : Hid (OwnV w6 w2.heap.size (.slice (some ⟨g, 0, none⟩) m lc) ((pvL 2 slot view P b2 m).take (i + 1) ++ (pvL 1 slot view P b m).drop (i + 1))) := by show OwnV _ _ _ _; rw [← HM2.out]; exact hO6
        have hB6 : Below w2.heap.size w2 w6 := hB25.trans (hK6.below hgb hB25.size)
        clear hO6 hK6 HO5 hB25 HM2 HLN
        go_wp2_with fail
        go_roundw
        case rel => exact ⟨i + 1, by omega, by go_num, HO6, .inr hB6, hB6, hB6.size⟩
        case measure => simp [intOf]; omega
      · obtain rfl : i = m := by omega
        have hO : OwnV wr w2.heap.size (.slice la i lc) (pvL 2 slot view P b2 i) := by
          have := HO.out
          rw [List.take_of_length_le (by rw [pvL_length]; exact Nat.le_refl _), List.drop_of_length_le (by rw [pvL_length]; exact Nat.le_refl _), List.append_nil] at this; exact this
        obtain ⟨la', lc', e, hVin⟩ := hO.form
        injection e with e1 e2 e3
        subst e1 e3
        have HV : Hid (VotesIn wr la lc (pvL 2 slot view P b2 i)) := hVin
        have hBw : Below w.heap.size w wr := hBw2.trans (hB.mono hBw2.size)
        have HL3 : Hid (Lies wr ao P) := HL.out.below hBw (Nat.le_refl _)
        have HR3 : Hid (RingV wr (.pointer (some ⟨rg, 0, none⟩)) ring4) := HR2.out.below hB
        have HP1 : Hid (provesR ring4 (pvL 2 slot view P b2 i) slot below P = none) := proves_not view slot below P P b2 i (fun e => by omega)
        have HP2 : Hid (provesR ring4 (pvL 2 slot view P b2 i) (slot + 1) below P = none) := proves_not view (slot + 1) below P P b2 i (fun e => by omega)
        clear hO HO hVin HX hB hlt hi HX3 HR2 hBw2 hB3 hBw3 hz
        generalize pvL 2 slot view P b2 i = ys at *
        subst e2
        go_wp2_with fail
        refine (proves_any _ ring4 la lc ys slot below P ao cap wr HR3.out (by decide) HV.out HL3.out hc (by omega)).mono ?_
        rintro x w4 ⟨rfl, hB4⟩
        rw [HP1.out]
        have HR4 : Hid (RingV w4 (.pointer (some ⟨rg, 0, none⟩)) ring4) := HR3.out.below hB4
        have HV4 : Hid (VotesIn w4 la lc ys) := HV.out.below hB4
        have HL4 : Hid (Lies w4 ao P) := HL3.out.below hB4 (Nat.le_refl _)
        have hBw4 : Below w.heap.size w w4 := hBw.trans (hB4.mono hBw.size)
        clear hB4 HR3 HV HL3 hBw HP1
        simp only [provedV, Option.getD_none, Option.isSome_none]
        go_wp2_with fail
        refine (proves_any _ ring4 la lc ys (slot + 1) below P ao cap w4 HR4.out (by decide) HV4.out HL4.out hc (by omega)).mono ?_
        rintro x w5 ⟨rfl, hB5⟩
        rw [HP2.out]
        have hBw5 : Below w.heap.size w w5 := hBw4.trans (hB5.mono hBw4.size)
        clear hB5 hBw4 HR4 HV4 HL4 HP2
        simp only [provedV, Option.getD_none, Option.isSome_none]
        have hc3 : (¬ 3 ≤ ys.length) ∨ (3 ≤ ys.length ∧ view < below) ∨ (3 ≤ ys.length ∧ ¬ view < below) := by omega
        rcases hc3 with q3 | ⟨q3, qb⟩ | ⟨q3, qb⟩
        all_goals
          go_wp2_with fail
          refine (known7_any w5).mono ?_
          rintro x w6 ⟨rfl, hB6⟩
          have hBw6 : Below w.heap.size w w6 := hBw5.trans (hB6.mono hBw5.size)
          clear hB6 hBw5
          go_wp2_with fail
          go_ret
          exact ⟨rfl, hBw6⟩
set_option maxRecDepth 10000 in
set_option maxHeartbeats 4000000 in
theorem ruleProves_any (n slot view below : Int) (P : List Int) (ao : Option Addr) (cap : Nat) (commit : Bool) (w : World) (hl : Lies w ao P) (hc : P.length ≤ cap) (hr : Rowed w ao P cap) :
    Calls Try.prog 7 #[.int .i64 n, .int .i64 slot, .int .i64 view, .int .i64 below, .slice ao P.length cap, .bool commit] w fun x w' => x = .returned (.bool true) ∧ Below w.heap.size w w' := by
  by_cases h : 0 ≤ n ∧ n ≤ 4 ∧ 0 ≤ slot ∧ slot ≤ 60 ∧ 0 ≤ view ∧ view ≤ 8 ∧ 0 ≤ below ∧ below ≤ 10 ∧ P.length ≤ 100
  · obtain ⟨m, rfl⟩ : ∃ m : Nat, n = (m : Int) := ⟨n.toNat, by omega⟩
    exact ruleProves_in m slot view below P ao cap commit w (by omega) h.2.2.1 h.2.2.2.1 h.2.2.2.2.1 h.2.2.2.2.2.1 h.2.2.2.2.2.2.1 h.2.2.2.2.2.2.2.1 h.2.2.2.2.2.2.2.2 hl hc hr
  · have h9 : n < 0 ∨ (¬ n < 0 ∧ 4 < n) ∨ (¬ n < 0 ∧ ¬ 4 < n ∧ slot < 0) ∨ (¬ n < 0 ∧ ¬ 4 < n ∧ ¬ slot < 0 ∧ 60 < slot) ∨ (¬ n < 0 ∧ ¬ 4 < n ∧ ¬ slot < 0 ∧ ¬ 60 < slot ∧ view < 0) ∨ (¬ n < 0 ∧ ¬ 4 < n ∧ ¬ slot < 0 ∧ ¬ 60 < slot ∧ ¬ view < 0 ∧ 8 < view)
        ∨ (¬ n < 0 ∧ ¬ 4 < n ∧ ¬ slot < 0 ∧ ¬ 60 < slot ∧ ¬ view < 0 ∧ ¬ 8 < view ∧ below < 0) ∨ (¬ n < 0 ∧ ¬ 4 < n ∧ ¬ slot < 0 ∧ ¬ 60 < slot ∧ ¬ view < 0 ∧ ¬ 8 < view ∧ ¬ below < 0 ∧ 10 < below) ∨ (¬ n < 0 ∧ ¬ 4 < n ∧ ¬ slot < 0 ∧ ¬ 60 < slot ∧ ¬ view < 0 ∧ ¬ 8 < view ∧ ¬ below < 0 ∧ ¬ 10 < below ∧ (100 : Int) < (P.length : Int)) := by omega
    clear h hl hr
    rcases h9 with h | ⟨h, h1⟩ | ⟨h, h1, h2⟩ | ⟨h, h1, h2, h3⟩ | ⟨h, h1, h2, h3, h4⟩ | ⟨h, h1, h2, h3, h4, h5⟩ | ⟨h, h1, h2, h3, h4, h5, h6⟩ | ⟨h, h1, h2, h3, h4, h5, h6, h7⟩ | ⟨h, h1, h2, h3, h4, h5, h6, h7, h8⟩
    all_goals
      go_enter Try.func7, Try.ntmps7
      go_wp2_with fail
      go_ret
      exact ⟨rfl, Below.refl _ _⟩
end Go.Proofs.Yticpkpphjpgdbaa
