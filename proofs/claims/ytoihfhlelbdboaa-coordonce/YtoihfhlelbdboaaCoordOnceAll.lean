/- coord: no transaction is decided twice, no epoch is marked twice; what is decided is never open. For every row of operations. -/
import Derived.Test.YtoihfhlelbdboaaOnceLow
namespace Go.Proofs.Ytoihfhlelbdboaa
open Go.RowKit Go.Dig Go.Inv Go.Oct Go.Hold
set_option linter.unusedVariables false
set_option linter.unusedSimpArgs false

theorem wanted_do {ops : Array Oper} {rest : List Oper} {o : Oper} {a : Act} {w : World} {Q : Exit → Act → World → Prop} (hw : Region.wanted o (yielded ops a.tmps) = true) (h : ∀ K : Act → World → Prop, (∀ a w, wpList Try.prog ops Q rest a w → K a w) → o.wp Try.prog a w K Q) : wpList Try.prog ops Q (o :: rest) a w :=
  wpList_step fun K hK => by rw [hw]; exact h K hK
theorem mkC_get : ∀ {L : List Mk} {j i : Nat} {m : Mk} {u : Value}, L[j]? = some m → i < 4 → m.cells[i]? = some u → (mkC L)[j * 4 + i]? = some u
  | [], j, i, m, u, h, _, _ => by simp at h
  | a :: r, 0, i, m, u, h, hi, hu => by
    simp at h
    subst h
    have e : mkC (a :: r) = a.cells.toList ++ mkC r := rfl
    rw [e, Nat.zero_mul, Nat.zero_add, List.getElem?_append_left (by simp [Mk.cells]; omega), Array.getElem?_toList]
    exact hu
  | a :: r, j + 1, i, m, u, h, hi, hu => by
    simp at h
    have e : mkC (a :: r) = a.cells.toList ++ mkC r := rfl
    have hl : a.cells.toList.length = 4 := by simp [Mk.cells]
    rw [e, List.getElem?_append_right (by omega), hl, show (j + 1) * 4 + i - 4 = j * 4 + i by omega]
    exact mkC_get h hi hu
/-- a row of marks has a block where it has a mark -/
theorem OwnM.at {w : World} {base : Nat} {v : Value} {L : List Mk} (h : OwnM w base v L) (hn : 0 < L.length) : ∃ g c, v = .slice (some ⟨g, 0, none⟩) L.length c ∧ base ≤ g ∧ g < w.heap.size ∧ ∀ (j : Nat) (m : Mk), L[j]? = some m → w.cell? ⟨g, j * 4, none⟩ = some (.int .i64 m.k) ∧ w.cell? ⟨g, j * 4 + 1, none⟩ = some (.int .i64 m.p) ∧ w.cell? ⟨g, j * 4 + 2, none⟩ = some (.int .i64 m.e) ∧ w.cell? ⟨g, j * 4 + 3, none⟩ = some (.int .i64 m.t) := by
  rcases h.1.2 with ⟨e, h0⟩ | ⟨g, cap, cur, e, hb, hg, _⟩
  · omega
  · subst e
    refine ⟨g, cap, rfl, hb, lt_blk hg, fun j m hm => ?_⟩
    have hc := h.cells.2
    have key : ∀ i u, (m.cells)[i]? = some u → w.cell? ⟨g, j * 4 + i, none⟩ = some u := fun i u hu => by
      have := hc (j * 4 + i) u ?_
      · rwa [addr_add, Nat.zero_add] at this
      · have hi : i < 4 := by
          have := (Array.getElem?_eq_some_iff.1 hu).1
          simpa [Mk.cells] using this
        exact mkC_get hm hi hu
    exact ⟨key 0 _ rfl, key 1 _ rfl, key 2 _ rfl, key 3 _ rfl⟩
theorem ends_le {p : Pr} {now : Int} (h : PrOk now p) : p.ends.length ≤ 1000 := by
  have := h.1
  omega
theorem OpsAt.keep' {w w' : World} {a : Option Addr} {L : List OpF} (h : OpsAt w a L) (hB : Below w.heap.size w w') : OpsAt w' a L := fun hn => by
  obtain ⟨b, o, rfl, hc⟩ := h hn
  refine ⟨b, o, rfl, fun j x hx i hi => ?_⟩
  have h1 := hc j x hx i hi
  obtain ⟨v, hv⟩ : ∃ v, x.cells[i]? = some v := ⟨x.cells[i]'(by simp [OpF.cells, opC]; omega), Array.getElem?_eq_getElem _⟩
  rw [hv] at h1 ⊢
  exact (hB.cell (World.block_lt_of_cell? w _ h1)).trans h1
/-- so many are applied -/
def OnI (w1 : World) (wr : World) (i : Nat) (own : Own) (x : Co) (n : Nat) : Prop :=
  CoAt own wr w1.heap.size x ∧ x.Inv n ∧ n ≤ i ∧ OnceI x ∧ Over w1.heap.size own ∧ Below w1.heap.size w1 wr
set_option maxRecDepth 100000 in
set_option maxHeartbeats 8000000 in
theorem Once_law (w : World) (a : Option Addr) (cap : Nat) (L : List OpF) (hL : OpsAt w a L) (hW : ∀ o ∈ L, o.Wide) : Calls Try.prog 3 #[.slice a L.length cap] w fun e w' => e = .returned (.bool true) ∧ Below w.heap.size w w' := by
  go_enter Try.func3, Try.ntmps3
  go_wp2_with fail
  refine (long_at w a cap L hL).mono ?_
  rintro e w1 ⟨⟨b, rfl⟩, rfl⟩
  have HL : Hid (OpsAt w1 a L) := hL
  have HW : Hid (∀ o ∈ L, o.Wide) := hW
  clear hL hW
  cases b
  · go_wp2_with (go_at_call 10; refine (New_at _).mono ?_; rintro e w2 ⟨own1, rfl, hN1, ho1, hB1⟩)
    go_loopw [4] (fun iv wr => ∃ (i : Nat) (own : Own) (x : Co) (n : Nat), i ≤ L.length ∧ i ≤ 80 ∧ iv = .int .i64 (i : Int) ∧ OnI w1 wr i own x n) (fun iv _ => 80 - (intOf iv).toNat)
    case atStart => exact ⟨0, own1, Co.none, 0, Nat.zero_le _, Nat.zero_le _, rfl, hN1, Co.inv_none, Nat.le_refl _, once_none, ho1, hB1⟩
    case round =>
      obtain ⟨i, own, x, n, hi, hi8, rfl, hC, hI, hn, hK, ho, hB⟩ := hrel
      by_cases hlt : i < L.length
      · by_cases hl8 : i < 80
        · obtain ⟨o, hox⟩ : ∃ o, L[i]? = some o := ⟨L[i], List.getElem?_eq_getElem hlt⟩
          obtain ⟨ob, oo, rfl, c0, c1, c2, c3, c4, c5, c6, c7, c8⟩ := (HL.out.keep' hB).get hox
          have hlt' : (i : Int) < (L.length : Int) := by omega
          have hl8' : (i : Int) < 80 := by omega
          have hwo := HW.out o (List.mem_of_getElem? hox)
          have hBs := hB.size
          have HH : Hid (n ≤ i ∧ i < L.length ∧ i < 80) := ⟨hn, hlt, hl8⟩
          have hk2 := hK.apply o.ok o
          have hi2 := hI.apply o.ok o
          clear hox hn hi hlt hi8 hl8
          go_wp2_with (go_at_call 11; refine (apply_at own _ _ x n hC o hwo hI (by have := HH.out; omega)).mono ?_; rintro e w4 ⟨v4, own4, rfl, hO4, hl4, hC4, hS4⟩; have ho4 := ho.step hS4 hBs; have hB4 := hB.trans (ho.below hS4 hBs); clear hS4 hC hO4 hl4)
          have hh := HH.out
          go_roundw
          case rel => exact ⟨i + 1, own4, _, n + 1, by omega, by omega, by go_num, hC4, hi2, by omega, hk2, ho4, hB4⟩
          case measure => simp [intOf]; omega
        · obtain rfl : i = 80 := by omega
          have hlt' : ((80 : Nat) : Int) < (L.length : Int) := by omega
          have HX : Hid (x.ms.length ≤ 50000 ∧ ∀ p ∈ x.ps, p.ends.length ≤ 1000) := ⟨by have := hI.ms; omega, fun p hp => ends_le (hI.ok.2 p hp).2.2⟩
          clear hn hi8 hI HL HW hl8 hlt hi
          go_wp2_with (go_at_call 12; refine (Marks_at own _ _ x hC HX.out.1).mono ?_; rintro e w6 ⟨v6, rfl, hO6, hB6⟩)
          have hC6 := hC.below hB6
          have hT6 := hB.trans (hB6.mono hB.size)
          obtain ⟨a6, c6, rfl⟩ := hO6.form
          have HO : Hid (OwnM w6 wr.heap.size (.slice a6 x.ms.length c6) x.ms) := hO6
          have HC : Hid (CoAt own w6 w1.heap.size x) := hC6
          have HK : Hid (OnceI x) := hK
          clear hO6 hC6 hC hB hB6 hK ho
          obtain ⟨z, HZ⟩ : ∃ z, Hid (x.ms.length = z) := ⟨_, rfl⟩
          rw [HZ.out] at HO HX ⊢
          go_wp2_with fail
          go_loopw [6] (fun iv wq => ∃ i : Nat, i ≤ z ∧ iv = .int .i64 (i : Int) ∧ Below w6.heap.size w6 wq) (fun iv _ => z - (intOf iv).toNat)
          case atStart => exact ⟨0, Nat.zero_le _, rfl, Below.refl _ _⟩
          case round =>
            obtain ⟨i, hi, rfl, hB⟩ := hrel
            by_cases hlt : i < z
            · obtain ⟨g, cg, e, -, hgl, hc⟩ := HO.out.at (by rw [HZ.out]; omega)
              obtain rfl : a6 = some ⟨g, 0, none⟩ := by injection e
              obtain ⟨m, hm⟩ : ∃ m, x.ms[i]? = some m := ⟨_, List.getElem?_eq_getElem (by rw [HZ.out]; exact hlt)⟩
              have HCG : Hid (∀ (j : Nat) (m : Mk), x.ms[j]? = some m → w6.cell? ⟨g, j * 4, none⟩ = some (.int .i64 m.k) ∧ w6.cell? ⟨g, j * 4 + 1, none⟩ = some (.int .i64 m.p) ∧ w6.cell? ⟨g, j * 4 + 2, none⟩ = some (.int .i64 m.e) ∧ w6.cell? ⟨g, j * 4 + 3, none⟩ = some (.int .i64 m.t)) := hc
              obtain ⟨-, e1, e2, e3⟩ := hc i m hm
              have d1 := (hB.cell (p := ⟨g, i * 4 + 1, none⟩) hgl).trans e1
              have d2 := (hB.cell (p := ⟨g, i * 4 + 2, none⟩) hgl).trans e2
              have d3 := (hB.cell (p := ⟨g, i * 4 + 3, none⟩) hgl).trans e3
              have HM : Hid (x.ms[i]? = some m) := hm
              have hlt' : (i : Int) < (z : Int) := by omega
              have hgw : g < wr.heap.size := Nat.lt_of_lt_of_le hgl hB.size
              have HGL : Hid (g < w6.heap.size) := hgl
              clear e e1 e2 e3 hc hm hgl
              go_wp2_with fail
              go_loopw [7] (fun kv wq => ∃ k : Nat, k ≤ i ∧ kv = .int .i64 (k : Int) ∧ Below wr.heap.size wr wq) (fun kv _ => i - (intOf kv).toNat)
              case atStart => exact ⟨0, Nat.zero_le _, rfl, Below.refl _ _⟩
              case round =>
                obtain ⟨k, hk, rfl, hBk⟩ := hrel
                have f1 := (hBk.cell (p := ⟨g, i * 4 + 1, none⟩) hgw).trans d1
                have f2 := (hBk.cell (p := ⟨g, i * 4 + 2, none⟩) hgw).trans d2
                have f3 := (hBk.cell (p := ⟨g, i * 4 + 3, none⟩) hgw).trans d3
                have hBw := hB.trans (hBk.mono hB.size)
                clear d1 d2 d3
                by_cases hki : k < i
                · obtain ⟨q, hq⟩ : ∃ q, x.ms[k]? = some q := ⟨_, List.getElem?_eq_getElem (by rw [HZ.out]; omega)⟩
                  obtain ⟨-, e1, e2, e3⟩ := HCG.out k q hq
                  have g1 := (hBw.cell (p := ⟨g, k * 4 + 1, none⟩) HGL.out).trans e1
                  have g2 := (hBw.cell (p := ⟨g, k * 4 + 2, none⟩) HGL.out).trans e2
                  have g3 := (hBw.cell (p := ⟨g, k * 4 + 3, none⟩) HGL.out).trans e3
                  have hap : MkApart q m := by
                    have h1 := List.pairwise_iff_getElem.1 HK.out.nd k i (by rw [HZ.out]; omega) (by rw [HZ.out]; omega) hki
                    rwa [(List.getElem?_eq_some_iff.1 hq).2, (List.getElem?_eq_some_iff.1 HM.out).2] at h1
                  have hki' : (k : Int) < (i : Int) := by omega
                  have hgq : g < wr.heap.size := Nat.lt_of_lt_of_le HGL.out hBw.size
                  have hkz : (k : Int) < (z : Int) := by omega
                  have hz5 := HX.out.1
                  have hk5 : (k : Int) < 50000 := by omega
                  have HKI : Hid (k < i ∧ i < z) := ⟨hki, hlt⟩
                  clear e1 e2 e3 hq
                  by_cases hp : m.p = q.p
                  · rw [← hp] at g1
                    by_cases he : m.e = q.e
                    · have ht : ¬ m.t = q.t := fun h => hap ⟨hp.symm, he.symm, h.symm⟩
                      rw [← he] at g2
                      have HBE : Hid ((m.t == q.t) = false) := by show (m.t == q.t) = false; simpa using ht
                      clear hp he hap ht
                      go_upto_region 17 with fail
                      refine wp_region_growG (by kernel_rfl) (by kernel_rfl) (fun xS => { tmps := (Value.slice a L.length cap :: undef :: u2 :: Value.pointer (some (⟨w1.heap.size, 0, none⟩ : Addr)) :: Value.int IntKind.i64 80 :: Value.slice (some (⟨g, 0, none⟩ : Addr)) z c6 :: Value.int IntKind.i64 (i : Int) :: Value.int IntKind.i64 (k : Int) :: u8 :: u9 :: u10 :: u11 :: u12 :: Value.slice a L.length cap :: Value.bool false :: Value.pointer (some (⟨w1.heap.size, 0, none⟩ : Addr)) :: Value.pointer (some (⟨w1.heap.size, 0, none⟩ : Addr)) :: Value.bool false :: Value.int IntKind.i64 80 :: Value.slice a L.length cap :: Value.int IntKind.i64 (L.length : Int) :: Value.bool true :: Value.bool true :: Value.int IntKind.i64 80 :: Value.bool false :: Value.bool false :: u26 :: u27 :: u28 :: u29 :: u30 :: u31 :: u32 :: u33 :: Value.pointer (some (⟨w1.heap.size, 0, none⟩ : Addr)) :: Value.slice (some (⟨g, 0, none⟩ : Addr)) z c6 :: Value.int IntKind.i64 (i : Int) :: Value.slice (some (⟨g, 0, none⟩ : Addr)) z c6 :: Value.int IntKind.i64 (z : Int) :: Value.bool true :: u40 :: u41 :: Value.int IntKind.i64 (k : Int) :: Value.int IntKind.i64 (i : Int) :: Value.bool true :: u45 :: u46 :: xS 0 :: xS 1 :: xS 2 :: xS 3 :: xS 4 :: xS 5 :: xS 6 :: xS 7 :: xS 8 :: xS 9 :: xS 10 :: xS 11 :: xS 12 :: xS 13 :: xS 14 :: xS 15 :: xS 16 :: xS 17 :: xS 18 :: xS 19 :: xS 20 :: xS 21 :: xS 22 :: xS 23 :: xS 24 :: xS 25 :: xS 26 :: xS 27 :: xS 28 :: xS 29 :: xS 30 :: xS 31 :: xS 32 :: xS 33 :: xS 34 :: xS 35 :: xS 36 :: u84 :: u85 :: u86 :: u87 :: u88 :: u89 :: u90 :: u91 :: u92 :: u93 :: u94 :: u95 :: u96 :: u97 :: u98 :: u99 :: u100 :: u101 :: u102 :: u103 :: u104 :: u105 :: u106 :: u107 :: u108 :: u109 :: u110 :: u111 :: u112 :: u113 :: u114 :: u115 :: u116 :: u117 :: u118 :: u119 :: u120 :: u121 :: u122 :: u123 :: u124 :: u125 :: u126 :: u127 :: u128 :: u129 :: u130 :: u131 :: u132 :: u133 :: u134 :: u135 :: u136 :: undef :: []).toArray, defers := [] })
                        (fun ii xx WW => match ii with | 0 => xx = Value.slice (some (⟨g, 0, none⟩ : Addr)) z c6 | 1 => xx = Value.int IntKind.i64 (i : Int) | 2 => xx = .pointer (some ⟨g, i * 4, none⟩) | 3 => xx = .pointer (some ⟨g, i * 4 + 1, none⟩) | 4 => xx = .int .i64 m.p | 5 => xx = Value.slice (some (⟨g, 0, none⟩ : Addr)) z c6 | 6 => xx = Value.int IntKind.i64 (k : Int) | 7 => xx = .pointer (some ⟨g, k * 4, none⟩) | 8 => xx = .pointer (some ⟨g, k * 4 + 1, none⟩) | 9 => xx = .int .i64 m.p | 10 => xx = .bool true | 11 => xx = .bool true | 12 => xx = Value.slice (some (⟨g, 0, none⟩ : Addr)) z c6 | 13 => xx = Value.int IntKind.i64 (i : Int) | 14 => xx = .pointer (some ⟨g, i * 4, none⟩) | 15 => xx = .pointer (some ⟨g, i * 4 + 2, none⟩) | 16 => xx = .int .i64 m.e | 17 => xx = Value.slice (some (⟨g, 0, none⟩ : Addr)) z c6 | 18 => xx = Value.int IntKind.i64 (k : Int) | 19 => xx = .pointer (some ⟨g, k * 4, none⟩) | 20 => xx = .pointer (some ⟨g, k * 4 + 2, none⟩) | 21 => xx = .int .i64 m.e | 22 => xx = .bool true | 23 => xx = .bool true | 24 => xx = .bool true | 25 => xx = Value.slice (some (⟨g, 0, none⟩ : Addr)) z c6 | 26 => xx = Value.int IntKind.i64 (i : Int) | 27 => xx = .pointer (some ⟨g, i * 4, none⟩) | 28 => xx = .pointer (some ⟨g, i * 4 + 3, none⟩) | 29 => xx = .int .i64 m.t | 30 => xx = Value.slice (some (⟨g, 0, none⟩ : Addr)) z c6 | 31 => xx = Value.int IntKind.i64 (k : Int) | 32 => xx = .pointer (some ⟨g, k * 4, none⟩) | 33 => xx = .pointer (some ⟨g, k * 4 + 3, none⟩) | 34 => xx = .int .i64 q.t | 35 => xx = .bool false | 36 => xx = .bool false | _ => True) (fun | 0 => u47 | 1 => u48 | 2 => u49 | 3 => u50 | 4 => u51 | 5 => u52 | 6 => u53 | 7 => u54 | 8 => u55 | 9 => u56 | 10 => u57 | 11 => u58 | 12 => u59 | 13 => u60 | 14 => u61 | 15 => u62 | 16 => u63 | 17 => u64 | 18 => u65 | 19 => u66 | 20 => u67 | 21 => u68 | 22 => u69 | 23 => u70 | 24 => u71 | 25 => u72 | 26 => u73 | 27 => u74 | 28 => u75 | 29 => u76 | 30 => u77 | 31 => u78 | 32 => u79 | 33 => u80 | 34 => u81 | 35 => u82 | 36 => u83 | _ => undef) (by repeat (first | exact trivial | refine ⟨fun _ _ => rfl, ?_⟩)) (fun _ _ _ _ _ h => h) ⟨?_, ?_, ?_, ?_, ?_, ?_, ?_, ?_, ?_, ?_, ?_, ?_, ?_, ?_, ?_, ?_, ?_, ?_, ?_, ?_, ?_, ?_, ?_, ?_, ?_, ?_, ?_, ?_, ?_, ?_, ?_, ?_, ?_, ?_, ?_, ?_, ?_, trivial⟩ ?_
                      · intro xS W hB hp K hK
                        rw [if_pos (wanted_none rfl _)]
                        clear hp
                        go_simp
                        exact hK _ _ (Below.refl _ _) rfl
                      · intro xS W hB hp K hK
                        rw [if_pos (wanted_none rfl _)]
                        clear hp
                        go_simp
                        exact hK _ _ (Below.refl _ _) rfl
                      · intro xS W hB hp K hK
                        rw [if_pos (wanted_none rfl _)]
                        have h0 : xS 0 = Value.slice (some (⟨g, 0, none⟩ : Addr)) z c6 := hp.1 rfl
                        have h1 : xS 1 = Value.int IntKind.i64 (i : Int) := hp.2.1 rfl
                        clear hp
                        simp only [h0, h1] at hK ⊢
                        clear h0 h1
                        go_simp
                        exact hK _ _ (Below.refl _ _) rfl
                      · intro xS W hB hp K hK
                        rw [if_pos (wanted_none rfl _)]
                        have h2 : xS 2 = .pointer (some ⟨g, i * 4, none⟩) := hp.1 rfl
                        clear hp
                        simp only [h2] at hK ⊢
                        clear h2
                        go_simp
                        exact hK _ _ (Below.refl _ _) rfl
                      · intro xS W hB hp K hK
                        rw [if_pos (wanted_none rfl _)]
                        have h3 : xS 3 = .pointer (some ⟨g, i * 4 + 1, none⟩) := hp.1 rfl
                        clear hp
                        have hc := (hB.cell (p := ⟨g, i * 4 + 1, none⟩) hgq).trans f1
                        simp only [h3] at hK ⊢
                        clear h3
                        go_simp
                        exact hK _ _ (Below.refl _ _) rfl
                      · intro xS W hB hp K hK
                        rw [if_pos (wanted_none rfl _)]
                        clear hp
                        go_simp
                        exact hK _ _ (Below.refl _ _) rfl
                      · intro xS W hB hp K hK
                        rw [if_pos (wanted_none rfl _)]
                        clear hp
                        go_simp
                        exact hK _ _ (Below.refl _ _) rfl
                      · intro xS W hB hp K hK
                        rw [if_pos (wanted_none rfl _)]
                        have h5 : xS 5 = Value.slice (some (⟨g, 0, none⟩ : Addr)) z c6 := hp.1 rfl
                        have h6 : xS 6 = Value.int IntKind.i64 (k : Int) := hp.2.1 rfl
                        clear hp
                        simp only [h5, h6] at hK ⊢
                        clear h5 h6
                        go_simp
                        exact hK _ _ (Below.refl _ _) rfl
                      · intro xS W hB hp K hK
                        rw [if_pos (wanted_none rfl _)]
                        have h7 : xS 7 = .pointer (some ⟨g, k * 4, none⟩) := hp.1 rfl
                        clear hp
                        simp only [h7] at hK ⊢
                        clear h7
                        go_simp
                        exact hK _ _ (Below.refl _ _) rfl
                      · intro xS W hB hp K hK
                        rw [if_pos (wanted_none rfl _)]
                        have h8 : xS 8 = .pointer (some ⟨g, k * 4 + 1, none⟩) := hp.1 rfl
                        clear hp
                        have hc := (hB.cell (p := ⟨g, k * 4 + 1, none⟩) hgq).trans g1
                        simp only [h8] at hK ⊢
                        clear h8
                        go_simp
                        exact hK _ _ (Below.refl _ _) rfl
                      · intro xS W hB hp K hK
                        rw [if_pos (wanted_none rfl _)]
                        have h4 : xS 4 = .int .i64 m.p := hp.1 rfl
                        have h9 : xS 9 = .int .i64 m.p := hp.2.1 rfl
                        clear hp
                        simp only [h4, h9] at hK ⊢
                        clear h4 h9
                        go_simp
                        exact hK _ _ (Below.refl _ _) rfl
                      · intro xS W hB hp K hK
                        rw [if_pos (wanted_none rfl _)]
                        have h10 : xS 10 = .bool true := hp.1 rfl
                        clear hp
                        simp only [h10] at hK ⊢
                        clear h10
                        go_simp
                        exact hK _ _ (Below.refl _ _) rfl
                      · intro xS W hB hp K hK
                        have hgd : xS 11 = .bool true := hp.1 rfl
                        rw [wanted_g (b := true) rfl (by show (match some (xS 11) with | some (.bool b) => some b | _ => none) = some true; rw [hgd])]
                        rw [if_pos (show (true == true) = true from rfl)]
                        clear hgd
                        clear hp
                        go_simp
                        exact hK _ _ (Below.refl _ _) rfl
                      · intro xS W hB hp K hK
                        have hgd : xS 11 = .bool true := hp.1 rfl
                        rw [wanted_g (b := true) rfl (by show (match some (xS 11) with | some (.bool b) => some b | _ => none) = some true; rw [hgd])]
                        rw [if_pos (show (true == true) = true from rfl)]
                        clear hgd
                        clear hp
                        go_simp
                        exact hK _ _ (Below.refl _ _) rfl
                      · intro xS W hB hp K hK
                        have hgd : xS 11 = .bool true := hp.2.2.1 rfl
                        rw [wanted_g (b := true) rfl (by show (match some (xS 11) with | some (.bool b) => some b | _ => none) = some true; rw [hgd])]
                        rw [if_pos (show (true == true) = true from rfl)]
                        clear hgd
                        have h12 : xS 12 = Value.slice (some (⟨g, 0, none⟩ : Addr)) z c6 := hp.1 rfl
                        have h13 : xS 13 = Value.int IntKind.i64 (i : Int) := hp.2.1 rfl
                        clear hp
                        simp only [h12, h13] at hK ⊢
                        clear h12 h13
                        go_simp
                        exact hK _ _ (Below.refl _ _) rfl
                      · intro xS W hB hp K hK
                        have hgd : xS 11 = .bool true := hp.2.1 rfl
                        rw [wanted_g (b := true) rfl (by show (match some (xS 11) with | some (.bool b) => some b | _ => none) = some true; rw [hgd])]
                        rw [if_pos (show (true == true) = true from rfl)]
                        clear hgd
                        have h14 : xS 14 = .pointer (some ⟨g, i * 4, none⟩) := hp.1 rfl
                        clear hp
                        simp only [h14] at hK ⊢
                        clear h14
                        go_simp
                        exact hK _ _ (Below.refl _ _) rfl
                      · intro xS W hB hp K hK
                        have hgd : xS 11 = .bool true := hp.2.1 rfl
                        rw [wanted_g (b := true) rfl (by show (match some (xS 11) with | some (.bool b) => some b | _ => none) = some true; rw [hgd])]
                        rw [if_pos (show (true == true) = true from rfl)]
                        clear hgd
                        have h15 : xS 15 = .pointer (some ⟨g, i * 4 + 2, none⟩) := hp.1 rfl
                        clear hp
                        have hc := (hB.cell (p := ⟨g, i * 4 + 2, none⟩) hgq).trans f2
                        simp only [h15] at hK ⊢
                        clear h15
                        go_simp
                        exact hK _ _ (Below.refl _ _) rfl
                      · intro xS W hB hp K hK
                        have hgd : xS 11 = .bool true := hp.1 rfl
                        rw [wanted_g (b := true) rfl (by show (match some (xS 11) with | some (.bool b) => some b | _ => none) = some true; rw [hgd])]
                        rw [if_pos (show (true == true) = true from rfl)]
                        clear hgd
                        clear hp
                        go_simp
                        exact hK _ _ (Below.refl _ _) rfl
                      · intro xS W hB hp K hK
                        have hgd : xS 11 = .bool true := hp.1 rfl
                        rw [wanted_g (b := true) rfl (by show (match some (xS 11) with | some (.bool b) => some b | _ => none) = some true; rw [hgd])]
                        rw [if_pos (show (true == true) = true from rfl)]
                        clear hgd
                        clear hp
                        go_simp
                        exact hK _ _ (Below.refl _ _) rfl
                      · intro xS W hB hp K hK
                        have hgd : xS 11 = .bool true := hp.2.2.1 rfl
                        rw [wanted_g (b := true) rfl (by show (match some (xS 11) with | some (.bool b) => some b | _ => none) = some true; rw [hgd])]
                        rw [if_pos (show (true == true) = true from rfl)]
                        clear hgd
                        have h17 : xS 17 = Value.slice (some (⟨g, 0, none⟩ : Addr)) z c6 := hp.1 rfl
                        have h18 : xS 18 = Value.int IntKind.i64 (k : Int) := hp.2.1 rfl
                        clear hp
                        simp only [h17, h18] at hK ⊢
                        clear h17 h18
                        go_simp
                        exact hK _ _ (Below.refl _ _) rfl
                      · intro xS W hB hp K hK
                        have hgd : xS 11 = .bool true := hp.2.1 rfl
                        rw [wanted_g (b := true) rfl (by show (match some (xS 11) with | some (.bool b) => some b | _ => none) = some true; rw [hgd])]
                        rw [if_pos (show (true == true) = true from rfl)]
                        clear hgd
                        have h19 : xS 19 = .pointer (some ⟨g, k * 4, none⟩) := hp.1 rfl
                        clear hp
                        simp only [h19] at hK ⊢
                        clear h19
                        go_simp
                        exact hK _ _ (Below.refl _ _) rfl
                      · intro xS W hB hp K hK
                        have hgd : xS 11 = .bool true := hp.2.1 rfl
                        rw [wanted_g (b := true) rfl (by show (match some (xS 11) with | some (.bool b) => some b | _ => none) = some true; rw [hgd])]
                        rw [if_pos (show (true == true) = true from rfl)]
                        clear hgd
                        have h20 : xS 20 = .pointer (some ⟨g, k * 4 + 2, none⟩) := hp.1 rfl
                        clear hp
                        have hc := (hB.cell (p := ⟨g, k * 4 + 2, none⟩) hgq).trans g2
                        simp only [h20] at hK ⊢
                        clear h20
                        go_simp
                        exact hK _ _ (Below.refl _ _) rfl
                      · intro xS W hB hp K hK
                        have hgd : xS 11 = .bool true := hp.2.2.1 rfl
                        rw [wanted_g (b := true) rfl (by show (match some (xS 11) with | some (.bool b) => some b | _ => none) = some true; rw [hgd])]
                        rw [if_pos (show (true == true) = true from rfl)]
                        clear hgd
                        have h16 : xS 16 = .int .i64 m.e := hp.1 rfl
                        have h21 : xS 21 = .int .i64 m.e := hp.2.1 rfl
                        clear hp
                        simp only [h16, h21] at hK ⊢
                        clear h16 h21
                        go_simp
                        exact hK _ _ (Below.refl _ _) rfl
                      · intro xS W hB hp K hK
                        rw [if_pos (wanted_none rfl _)]
                        have h11 : xS 11 = .bool true := hp.1 rfl
                        have h22 : xS 22 = .bool true := hp.2.1 rfl
                        clear hp
                        simp only [h11, h22] at hK ⊢
                        clear h11 h22
                        go_simp
                        exact hK _ _ (Below.refl _ _) rfl
                      · intro xS W hB hp K hK
                        rw [if_pos (wanted_none rfl _)]
                        have h23 : xS 23 = .bool true := hp.1 rfl
                        clear hp
                        simp only [h23] at hK ⊢
                        clear h23
                        go_simp
                        exact hK _ _ (Below.refl _ _) rfl
                      · intro xS W hB hp K hK
                        have hgd : xS 24 = .bool true := hp.1 rfl
                        rw [wanted_g (b := true) rfl (by show (match some (xS 24) with | some (.bool b) => some b | _ => none) = some true; rw [hgd])]
                        rw [if_pos (show (true == true) = true from rfl)]
                        clear hgd
                        clear hp
                        go_simp
                        exact hK _ _ (Below.refl _ _) rfl
                      · intro xS W hB hp K hK
                        have hgd : xS 24 = .bool true := hp.1 rfl
                        rw [wanted_g (b := true) rfl (by show (match some (xS 24) with | some (.bool b) => some b | _ => none) = some true; rw [hgd])]
                        rw [if_pos (show (true == true) = true from rfl)]
                        clear hgd
                        clear hp
                        go_simp
                        exact hK _ _ (Below.refl _ _) rfl
                      · intro xS W hB hp K hK
                        have hgd : xS 24 = .bool true := hp.2.2.1 rfl
                        rw [wanted_g (b := true) rfl (by show (match some (xS 24) with | some (.bool b) => some b | _ => none) = some true; rw [hgd])]
                        rw [if_pos (show (true == true) = true from rfl)]
                        clear hgd
                        have h25 : xS 25 = Value.slice (some (⟨g, 0, none⟩ : Addr)) z c6 := hp.1 rfl
                        have h26 : xS 26 = Value.int IntKind.i64 (i : Int) := hp.2.1 rfl
                        clear hp
                        simp only [h25, h26] at hK ⊢
                        clear h25 h26
                        go_simp
                        exact hK _ _ (Below.refl _ _) rfl
                      · intro xS W hB hp K hK
                        have hgd : xS 24 = .bool true := hp.2.1 rfl
                        rw [wanted_g (b := true) rfl (by show (match some (xS 24) with | some (.bool b) => some b | _ => none) = some true; rw [hgd])]
                        rw [if_pos (show (true == true) = true from rfl)]
                        clear hgd
                        have h27 : xS 27 = .pointer (some ⟨g, i * 4, none⟩) := hp.1 rfl
                        clear hp
                        simp only [h27] at hK ⊢
                        clear h27
                        go_simp
                        exact hK _ _ (Below.refl _ _) rfl
                      · intro xS W hB hp K hK
                        have hgd : xS 24 = .bool true := hp.2.1 rfl
                        rw [wanted_g (b := true) rfl (by show (match some (xS 24) with | some (.bool b) => some b | _ => none) = some true; rw [hgd])]
                        rw [if_pos (show (true == true) = true from rfl)]
                        clear hgd
                        have h28 : xS 28 = .pointer (some ⟨g, i * 4 + 3, none⟩) := hp.1 rfl
                        clear hp
                        have hc := (hB.cell (p := ⟨g, i * 4 + 3, none⟩) hgq).trans f3
                        simp only [h28] at hK ⊢
                        clear h28
                        go_simp
                        exact hK _ _ (Below.refl _ _) rfl
                      · intro xS W hB hp K hK
                        have hgd : xS 24 = .bool true := hp.1 rfl
                        rw [wanted_g (b := true) rfl (by show (match some (xS 24) with | some (.bool b) => some b | _ => none) = some true; rw [hgd])]
                        rw [if_pos (show (true == true) = true from rfl)]
                        clear hgd
                        clear hp
                        go_simp
                        exact hK _ _ (Below.refl _ _) rfl
                      · intro xS W hB hp K hK
                        have hgd : xS 24 = .bool true := hp.1 rfl
                        rw [wanted_g (b := true) rfl (by show (match some (xS 24) with | some (.bool b) => some b | _ => none) = some true; rw [hgd])]
                        rw [if_pos (show (true == true) = true from rfl)]
                        clear hgd
                        clear hp
                        go_simp
                        exact hK _ _ (Below.refl _ _) rfl
                      · intro xS W hB hp K hK
                        have hgd : xS 24 = .bool true := hp.2.2.1 rfl
                        rw [wanted_g (b := true) rfl (by show (match some (xS 24) with | some (.bool b) => some b | _ => none) = some true; rw [hgd])]
                        rw [if_pos (show (true == true) = true from rfl)]
                        clear hgd
                        have h30 : xS 30 = Value.slice (some (⟨g, 0, none⟩ : Addr)) z c6 := hp.1 rfl
                        have h31 : xS 31 = Value.int IntKind.i64 (k : Int) := hp.2.1 rfl
                        clear hp
                        simp only [h30, h31] at hK ⊢
                        clear h30 h31
                        go_simp
                        exact hK _ _ (Below.refl _ _) rfl
                      · intro xS W hB hp K hK
                        have hgd : xS 24 = .bool true := hp.2.1 rfl
                        rw [wanted_g (b := true) rfl (by show (match some (xS 24) with | some (.bool b) => some b | _ => none) = some true; rw [hgd])]
                        rw [if_pos (show (true == true) = true from rfl)]
                        clear hgd
                        have h32 : xS 32 = .pointer (some ⟨g, k * 4, none⟩) := hp.1 rfl
                        clear hp
                        simp only [h32] at hK ⊢
                        clear h32
                        go_simp
                        exact hK _ _ (Below.refl _ _) rfl
                      · intro xS W hB hp K hK
                        have hgd : xS 24 = .bool true := hp.2.1 rfl
                        rw [wanted_g (b := true) rfl (by show (match some (xS 24) with | some (.bool b) => some b | _ => none) = some true; rw [hgd])]
                        rw [if_pos (show (true == true) = true from rfl)]
                        clear hgd
                        have h33 : xS 33 = .pointer (some ⟨g, k * 4 + 3, none⟩) := hp.1 rfl
                        clear hp
                        have hc := (hB.cell (p := ⟨g, k * 4 + 3, none⟩) hgq).trans g3
                        simp only [h33] at hK ⊢
                        clear h33
                        go_simp
                        exact hK _ _ (Below.refl _ _) rfl
                      · intro xS W hB hp K hK
                        have hgd : xS 24 = .bool true := hp.2.2.1 rfl
                        rw [wanted_g (b := true) rfl (by show (match some (xS 24) with | some (.bool b) => some b | _ => none) = some true; rw [hgd])]
                        rw [if_pos (show (true == true) = true from rfl)]
                        clear hgd
                        have h29 : xS 29 = .int .i64 m.t := hp.1 rfl
                        have h34 : xS 34 = .int .i64 q.t := hp.2.1 rfl
                        clear hp
                        simp only [h29, h34] at hK ⊢
                        clear h29 h34
                        go_simp
                        rw [HBE.out]
                        exact hK _ _ (Below.refl _ _) rfl
                      · intro xS W hB hp K hK
                        rw [if_pos (wanted_none rfl _)]
                        have h24 : xS 24 = .bool true := hp.1 rfl
                        have h35 : xS 35 = .bool false := hp.2.1 rfl
                        clear hp
                        simp only [h24, h35] at hK ⊢
                        clear h24 h35
                        go_simp
                        exact hK _ _ (Below.refl _ _) rfl
                      intro xS W3 hB3 hs
                      have h36 : xS 36 = .bool false := hs 36 (by simp)
                      clear hs
                      simp only [h36]
                      clear f1 f2 f3 g1 g2 g3
                      go_wp2_with fail
                      have hkk := HKI.out
                      go_roundw
                      case rel => exact ⟨k + 1, by omega, by go_num, hBk.trans (hB3.mono hBk.size)⟩
                      case measure => simp [intOf]; omega
                    · have HBE : Hid ((m.e == q.e) = false) := by show (m.e == q.e) = false; simpa using he
                      clear hp hap he
                      go_upto_region 17 with fail
                      refine wp_region_growG (by kernel_rfl) (by kernel_rfl) (fun xS => { tmps := (Value.slice a L.length cap :: undef :: u2 :: Value.pointer (some (⟨w1.heap.size, 0, none⟩ : Addr)) :: Value.int IntKind.i64 80 :: Value.slice (some (⟨g, 0, none⟩ : Addr)) z c6 :: Value.int IntKind.i64 (i : Int) :: Value.int IntKind.i64 (k : Int) :: u8 :: u9 :: u10 :: u11 :: u12 :: Value.slice a L.length cap :: Value.bool false :: Value.pointer (some (⟨w1.heap.size, 0, none⟩ : Addr)) :: Value.pointer (some (⟨w1.heap.size, 0, none⟩ : Addr)) :: Value.bool false :: Value.int IntKind.i64 80 :: Value.slice a L.length cap :: Value.int IntKind.i64 (L.length : Int) :: Value.bool true :: Value.bool true :: Value.int IntKind.i64 80 :: Value.bool false :: Value.bool false :: u26 :: u27 :: u28 :: u29 :: u30 :: u31 :: u32 :: u33 :: Value.pointer (some (⟨w1.heap.size, 0, none⟩ : Addr)) :: Value.slice (some (⟨g, 0, none⟩ : Addr)) z c6 :: Value.int IntKind.i64 (i : Int) :: Value.slice (some (⟨g, 0, none⟩ : Addr)) z c6 :: Value.int IntKind.i64 (z : Int) :: Value.bool true :: u40 :: u41 :: Value.int IntKind.i64 (k : Int) :: Value.int IntKind.i64 (i : Int) :: Value.bool true :: u45 :: u46 :: xS 0 :: xS 1 :: xS 2 :: xS 3 :: xS 4 :: xS 5 :: xS 6 :: xS 7 :: xS 8 :: xS 9 :: xS 10 :: xS 11 :: xS 12 :: xS 13 :: xS 14 :: xS 15 :: xS 16 :: xS 17 :: xS 18 :: xS 19 :: xS 20 :: xS 21 :: xS 22 :: xS 23 :: xS 24 :: xS 25 :: xS 26 :: xS 27 :: xS 28 :: xS 29 :: xS 30 :: xS 31 :: xS 32 :: xS 33 :: xS 34 :: xS 35 :: xS 36 :: u84 :: u85 :: u86 :: u87 :: u88 :: u89 :: u90 :: u91 :: u92 :: u93 :: u94 :: u95 :: u96 :: u97 :: u98 :: u99 :: u100 :: u101 :: u102 :: u103 :: u104 :: u105 :: u106 :: u107 :: u108 :: u109 :: u110 :: u111 :: u112 :: u113 :: u114 :: u115 :: u116 :: u117 :: u118 :: u119 :: u120 :: u121 :: u122 :: u123 :: u124 :: u125 :: u126 :: u127 :: u128 :: u129 :: u130 :: u131 :: u132 :: u133 :: u134 :: u135 :: u136 :: undef :: []).toArray, defers := [] })
                        (fun ii xx WW => match ii with | 0 => xx = Value.slice (some (⟨g, 0, none⟩ : Addr)) z c6 | 1 => xx = Value.int IntKind.i64 (i : Int) | 2 => xx = .pointer (some ⟨g, i * 4, none⟩) | 3 => xx = .pointer (some ⟨g, i * 4 + 1, none⟩) | 4 => xx = .int .i64 m.p | 5 => xx = Value.slice (some (⟨g, 0, none⟩ : Addr)) z c6 | 6 => xx = Value.int IntKind.i64 (k : Int) | 7 => xx = .pointer (some ⟨g, k * 4, none⟩) | 8 => xx = .pointer (some ⟨g, k * 4 + 1, none⟩) | 9 => xx = .int .i64 m.p | 10 => xx = .bool true | 11 => xx = .bool true | 12 => xx = Value.slice (some (⟨g, 0, none⟩ : Addr)) z c6 | 13 => xx = Value.int IntKind.i64 (i : Int) | 14 => xx = .pointer (some ⟨g, i * 4, none⟩) | 15 => xx = .pointer (some ⟨g, i * 4 + 2, none⟩) | 16 => xx = .int .i64 m.e | 17 => xx = Value.slice (some (⟨g, 0, none⟩ : Addr)) z c6 | 18 => xx = Value.int IntKind.i64 (k : Int) | 19 => xx = .pointer (some ⟨g, k * 4, none⟩) | 20 => xx = .pointer (some ⟨g, k * 4 + 2, none⟩) | 21 => xx = .int .i64 q.e | 22 => xx = .bool false | 23 => xx = .bool false | 24 => xx = .bool false | 36 => xx = .bool false | _ => True) (fun | 0 => u47 | 1 => u48 | 2 => u49 | 3 => u50 | 4 => u51 | 5 => u52 | 6 => u53 | 7 => u54 | 8 => u55 | 9 => u56 | 10 => u57 | 11 => u58 | 12 => u59 | 13 => u60 | 14 => u61 | 15 => u62 | 16 => u63 | 17 => u64 | 18 => u65 | 19 => u66 | 20 => u67 | 21 => u68 | 22 => u69 | 23 => u70 | 24 => u71 | 25 => u72 | 26 => u73 | 27 => u74 | 28 => u75 | 29 => u76 | 30 => u77 | 31 => u78 | 32 => u79 | 33 => u80 | 34 => u81 | 35 => u82 | 36 => u83 | _ => undef) (by repeat (first | exact trivial | refine ⟨fun _ _ => rfl, ?_⟩)) (fun _ _ _ _ _ h => h) ⟨?_, ?_, ?_, ?_, ?_, ?_, ?_, ?_, ?_, ?_, ?_, ?_, ?_, ?_, ?_, ?_, ?_, ?_, ?_, ?_, ?_, ?_, ?_, ?_, ?_, ?_, ?_, ?_, ?_, ?_, ?_, ?_, ?_, ?_, ?_, ?_, ?_, trivial⟩ ?_
                      · intro xS W hB hp K hK
                        rw [if_pos (wanted_none rfl _)]
                        clear hp
                        go_simp
                        exact hK _ _ (Below.refl _ _) rfl
                      · intro xS W hB hp K hK
                        rw [if_pos (wanted_none rfl _)]
                        clear hp
                        go_simp
                        exact hK _ _ (Below.refl _ _) rfl
                      · intro xS W hB hp K hK
                        rw [if_pos (wanted_none rfl _)]
                        have h0 : xS 0 = Value.slice (some (⟨g, 0, none⟩ : Addr)) z c6 := hp.1 rfl
                        have h1 : xS 1 = Value.int IntKind.i64 (i : Int) := hp.2.1 rfl
                        clear hp
                        simp only [h0, h1] at hK ⊢
                        clear h0 h1
                        go_simp
                        exact hK _ _ (Below.refl _ _) rfl
                      · intro xS W hB hp K hK
                        rw [if_pos (wanted_none rfl _)]
                        have h2 : xS 2 = .pointer (some ⟨g, i * 4, none⟩) := hp.1 rfl
                        clear hp
                        simp only [h2] at hK ⊢
                        clear h2
                        go_simp
                        exact hK _ _ (Below.refl _ _) rfl
                      · intro xS W hB hp K hK
                        rw [if_pos (wanted_none rfl _)]
                        have h3 : xS 3 = .pointer (some ⟨g, i * 4 + 1, none⟩) := hp.1 rfl
                        clear hp
                        have hc := (hB.cell (p := ⟨g, i * 4 + 1, none⟩) hgq).trans f1
                        simp only [h3] at hK ⊢
                        clear h3
                        go_simp
                        exact hK _ _ (Below.refl _ _) rfl
                      · intro xS W hB hp K hK
                        rw [if_pos (wanted_none rfl _)]
                        clear hp
                        go_simp
                        exact hK _ _ (Below.refl _ _) rfl
                      · intro xS W hB hp K hK
                        rw [if_pos (wanted_none rfl _)]
                        clear hp
                        go_simp
                        exact hK _ _ (Below.refl _ _) rfl
                      · intro xS W hB hp K hK
                        rw [if_pos (wanted_none rfl _)]
                        have h5 : xS 5 = Value.slice (some (⟨g, 0, none⟩ : Addr)) z c6 := hp.1 rfl
                        have h6 : xS 6 = Value.int IntKind.i64 (k : Int) := hp.2.1 rfl
                        clear hp
                        simp only [h5, h6] at hK ⊢
                        clear h5 h6
                        go_simp
                        exact hK _ _ (Below.refl _ _) rfl
                      · intro xS W hB hp K hK
                        rw [if_pos (wanted_none rfl _)]
                        have h7 : xS 7 = .pointer (some ⟨g, k * 4, none⟩) := hp.1 rfl
                        clear hp
                        simp only [h7] at hK ⊢
                        clear h7
                        go_simp
                        exact hK _ _ (Below.refl _ _) rfl
                      · intro xS W hB hp K hK
                        rw [if_pos (wanted_none rfl _)]
                        have h8 : xS 8 = .pointer (some ⟨g, k * 4 + 1, none⟩) := hp.1 rfl
                        clear hp
                        have hc := (hB.cell (p := ⟨g, k * 4 + 1, none⟩) hgq).trans g1
                        simp only [h8] at hK ⊢
                        clear h8
                        go_simp
                        exact hK _ _ (Below.refl _ _) rfl
                      · intro xS W hB hp K hK
                        rw [if_pos (wanted_none rfl _)]
                        have h4 : xS 4 = .int .i64 m.p := hp.1 rfl
                        have h9 : xS 9 = .int .i64 m.p := hp.2.1 rfl
                        clear hp
                        simp only [h4, h9] at hK ⊢
                        clear h4 h9
                        go_simp
                        exact hK _ _ (Below.refl _ _) rfl
                      · intro xS W hB hp K hK
                        rw [if_pos (wanted_none rfl _)]
                        have h10 : xS 10 = .bool true := hp.1 rfl
                        clear hp
                        simp only [h10] at hK ⊢
                        clear h10
                        go_simp
                        exact hK _ _ (Below.refl _ _) rfl
                      · intro xS W hB hp K hK
                        have hgd : xS 11 = .bool true := hp.1 rfl
                        rw [wanted_g (b := true) rfl (by show (match some (xS 11) with | some (.bool b) => some b | _ => none) = some true; rw [hgd])]
                        rw [if_pos (show (true == true) = true from rfl)]
                        clear hgd
                        clear hp
                        go_simp
                        exact hK _ _ (Below.refl _ _) rfl
                      · intro xS W hB hp K hK
                        have hgd : xS 11 = .bool true := hp.1 rfl
                        rw [wanted_g (b := true) rfl (by show (match some (xS 11) with | some (.bool b) => some b | _ => none) = some true; rw [hgd])]
                        rw [if_pos (show (true == true) = true from rfl)]
                        clear hgd
                        clear hp
                        go_simp
                        exact hK _ _ (Below.refl _ _) rfl
                      · intro xS W hB hp K hK
                        have hgd : xS 11 = .bool true := hp.2.2.1 rfl
                        rw [wanted_g (b := true) rfl (by show (match some (xS 11) with | some (.bool b) => some b | _ => none) = some true; rw [hgd])]
                        rw [if_pos (show (true == true) = true from rfl)]
                        clear hgd
                        have h12 : xS 12 = Value.slice (some (⟨g, 0, none⟩ : Addr)) z c6 := hp.1 rfl
                        have h13 : xS 13 = Value.int IntKind.i64 (i : Int) := hp.2.1 rfl
                        clear hp
                        simp only [h12, h13] at hK ⊢
                        clear h12 h13
                        go_simp
                        exact hK _ _ (Below.refl _ _) rfl
                      · intro xS W hB hp K hK
                        have hgd : xS 11 = .bool true := hp.2.1 rfl
                        rw [wanted_g (b := true) rfl (by show (match some (xS 11) with | some (.bool b) => some b | _ => none) = some true; rw [hgd])]
                        rw [if_pos (show (true == true) = true from rfl)]
                        clear hgd
                        have h14 : xS 14 = .pointer (some ⟨g, i * 4, none⟩) := hp.1 rfl
                        clear hp
                        simp only [h14] at hK ⊢
                        clear h14
                        go_simp
                        exact hK _ _ (Below.refl _ _) rfl
                      · intro xS W hB hp K hK
                        have hgd : xS 11 = .bool true := hp.2.1 rfl
                        rw [wanted_g (b := true) rfl (by show (match some (xS 11) with | some (.bool b) => some b | _ => none) = some true; rw [hgd])]
                        rw [if_pos (show (true == true) = true from rfl)]
                        clear hgd
                        have h15 : xS 15 = .pointer (some ⟨g, i * 4 + 2, none⟩) := hp.1 rfl
                        clear hp
                        have hc := (hB.cell (p := ⟨g, i * 4 + 2, none⟩) hgq).trans f2
                        simp only [h15] at hK ⊢
                        clear h15
                        go_simp
                        exact hK _ _ (Below.refl _ _) rfl
                      · intro xS W hB hp K hK
                        have hgd : xS 11 = .bool true := hp.1 rfl
                        rw [wanted_g (b := true) rfl (by show (match some (xS 11) with | some (.bool b) => some b | _ => none) = some true; rw [hgd])]
                        rw [if_pos (show (true == true) = true from rfl)]
                        clear hgd
                        clear hp
                        go_simp
                        exact hK _ _ (Below.refl _ _) rfl
                      · intro xS W hB hp K hK
                        have hgd : xS 11 = .bool true := hp.1 rfl
                        rw [wanted_g (b := true) rfl (by show (match some (xS 11) with | some (.bool b) => some b | _ => none) = some true; rw [hgd])]
                        rw [if_pos (show (true == true) = true from rfl)]
                        clear hgd
                        clear hp
                        go_simp
                        exact hK _ _ (Below.refl _ _) rfl
                      · intro xS W hB hp K hK
                        have hgd : xS 11 = .bool true := hp.2.2.1 rfl
                        rw [wanted_g (b := true) rfl (by show (match some (xS 11) with | some (.bool b) => some b | _ => none) = some true; rw [hgd])]
                        rw [if_pos (show (true == true) = true from rfl)]
                        clear hgd
                        have h17 : xS 17 = Value.slice (some (⟨g, 0, none⟩ : Addr)) z c6 := hp.1 rfl
                        have h18 : xS 18 = Value.int IntKind.i64 (k : Int) := hp.2.1 rfl
                        clear hp
                        simp only [h17, h18] at hK ⊢
                        clear h17 h18
                        go_simp
                        exact hK _ _ (Below.refl _ _) rfl
                      · intro xS W hB hp K hK
                        have hgd : xS 11 = .bool true := hp.2.1 rfl
                        rw [wanted_g (b := true) rfl (by show (match some (xS 11) with | some (.bool b) => some b | _ => none) = some true; rw [hgd])]
                        rw [if_pos (show (true == true) = true from rfl)]
                        clear hgd
                        have h19 : xS 19 = .pointer (some ⟨g, k * 4, none⟩) := hp.1 rfl
                        clear hp
                        simp only [h19] at hK ⊢
                        clear h19
                        go_simp
                        exact hK _ _ (Below.refl _ _) rfl
                      · intro xS W hB hp K hK
                        have hgd : xS 11 = .bool true := hp.2.1 rfl
                        rw [wanted_g (b := true) rfl (by show (match some (xS 11) with | some (.bool b) => some b | _ => none) = some true; rw [hgd])]
                        rw [if_pos (show (true == true) = true from rfl)]
                        clear hgd
                        have h20 : xS 20 = .pointer (some ⟨g, k * 4 + 2, none⟩) := hp.1 rfl
                        clear hp
                        have hc := (hB.cell (p := ⟨g, k * 4 + 2, none⟩) hgq).trans g2
                        simp only [h20] at hK ⊢
                        clear h20
                        go_simp
                        exact hK _ _ (Below.refl _ _) rfl
                      · intro xS W hB hp K hK
                        have hgd : xS 11 = .bool true := hp.2.2.1 rfl
                        rw [wanted_g (b := true) rfl (by show (match some (xS 11) with | some (.bool b) => some b | _ => none) = some true; rw [hgd])]
                        rw [if_pos (show (true == true) = true from rfl)]
                        clear hgd
                        have h16 : xS 16 = .int .i64 m.e := hp.1 rfl
                        have h21 : xS 21 = .int .i64 q.e := hp.2.1 rfl
                        clear hp
                        simp only [h16, h21] at hK ⊢
                        clear h16 h21
                        go_simp
                        rw [HBE.out]
                        exact hK _ _ (Below.refl _ _) rfl
                      · intro xS W hB hp K hK
                        rw [if_pos (wanted_none rfl _)]
                        have h11 : xS 11 = .bool true := hp.1 rfl
                        have h22 : xS 22 = .bool false := hp.2.1 rfl
                        clear hp
                        simp only [h11, h22] at hK ⊢
                        clear h11 h22
                        go_simp
                        exact hK _ _ (Below.refl _ _) rfl
                      · intro xS W hB hp K hK
                        rw [if_pos (wanted_none rfl _)]
                        have h23 : xS 23 = .bool false := hp.1 rfl
                        clear hp
                        simp only [h23] at hK ⊢
                        clear h23
                        go_simp
                        exact hK _ _ (Below.refl _ _) rfl
                      · intro xS W hB hp K hK
                        have hgd : xS 24 = .bool false := hp.1 rfl
                        rw [wanted_g (b := false) rfl (by show (match some (xS 24) with | some (.bool b) => some b | _ => none) = some false; rw [hgd])]
                        exact hK _ _ (Below.refl _ _) trivial
                      · intro xS W hB hp K hK
                        have hgd : xS 24 = .bool false := hp.1 rfl
                        rw [wanted_g (b := false) rfl (by show (match some (xS 24) with | some (.bool b) => some b | _ => none) = some false; rw [hgd])]
                        exact hK _ _ (Below.refl _ _) trivial
                      · intro xS W hB hp K hK
                        have hgd : xS 24 = .bool false := hp.2.2.1 rfl
                        rw [wanted_g (b := false) rfl (by show (match some (xS 24) with | some (.bool b) => some b | _ => none) = some false; rw [hgd])]
                        exact hK _ _ (Below.refl _ _) trivial
                      · intro xS W hB hp K hK
                        have hgd : xS 24 = .bool false := hp.2.1 rfl
                        rw [wanted_g (b := false) rfl (by show (match some (xS 24) with | some (.bool b) => some b | _ => none) = some false; rw [hgd])]
                        exact hK _ _ (Below.refl _ _) trivial
                      · intro xS W hB hp K hK
                        have hgd : xS 24 = .bool false := hp.2.1 rfl
                        rw [wanted_g (b := false) rfl (by show (match some (xS 24) with | some (.bool b) => some b | _ => none) = some false; rw [hgd])]
                        exact hK _ _ (Below.refl _ _) trivial
                      · intro xS W hB hp K hK
                        have hgd : xS 24 = .bool false := hp.1 rfl
                        rw [wanted_g (b := false) rfl (by show (match some (xS 24) with | some (.bool b) => some b | _ => none) = some false; rw [hgd])]
                        exact hK _ _ (Below.refl _ _) trivial
                      · intro xS W hB hp K hK
                        have hgd : xS 24 = .bool false := hp.1 rfl
                        rw [wanted_g (b := false) rfl (by show (match some (xS 24) with | some (.bool b) => some b | _ => none) = some false; rw [hgd])]
                        exact hK _ _ (Below.refl _ _) trivial
                      · intro xS W hB hp K hK
                        have hgd : xS 24 = .bool false := hp.2.2.1 rfl
                        rw [wanted_g (b := false) rfl (by show (match some (xS 24) with | some (.bool b) => some b | _ => none) = some false; rw [hgd])]
                        exact hK _ _ (Below.refl _ _) trivial
                      · intro xS W hB hp K hK
                        have hgd : xS 24 = .bool false := hp.2.1 rfl
                        rw [wanted_g (b := false) rfl (by show (match some (xS 24) with | some (.bool b) => some b | _ => none) = some false; rw [hgd])]
                        exact hK _ _ (Below.refl _ _) trivial
                      · intro xS W hB hp K hK
                        have hgd : xS 24 = .bool false := hp.2.1 rfl
                        rw [wanted_g (b := false) rfl (by show (match some (xS 24) with | some (.bool b) => some b | _ => none) = some false; rw [hgd])]
                        exact hK _ _ (Below.refl _ _) trivial
                      · intro xS W hB hp K hK
                        have hgd : xS 24 = .bool false := hp.2.2.1 rfl
                        rw [wanted_g (b := false) rfl (by show (match some (xS 24) with | some (.bool b) => some b | _ => none) = some false; rw [hgd])]
                        exact hK _ _ (Below.refl _ _) trivial
                      · intro xS W hB hp K hK
                        rw [if_pos (wanted_none rfl _)]
                        have h24 : xS 24 = .bool false := hp.1 rfl
                        clear hp
                        simp only [h24] at hK ⊢
                        clear h24
                        go_simp
                        exact hK _ _ (Below.refl _ _) rfl
                      intro xS W3 hB3 hs
                      have h36 : xS 36 = .bool false := hs 36 (by simp)
                      clear hs
                      simp only [h36]
                      clear f1 f2 f3 g1 g2 g3
                      go_wp2_with fail
                      have hkk := HKI.out
                      go_roundw
                      case rel => exact ⟨k + 1, by omega, by go_num, hBk.trans (hB3.mono hBk.size)⟩
                      case measure => simp [intOf]; omega
                  · have HBE : Hid ((m.p == q.p) = false) := by show (m.p == q.p) = false; simpa using hp
                    clear hap hp
                    go_upto_region 17 with fail
                    refine wp_region_growG (by kernel_rfl) (by kernel_rfl) (fun xS => { tmps := (Value.slice a L.length cap :: undef :: u2 :: Value.pointer (some (⟨w1.heap.size, 0, none⟩ : Addr)) :: Value.int IntKind.i64 80 :: Value.slice (some (⟨g, 0, none⟩ : Addr)) z c6 :: Value.int IntKind.i64 (i : Int) :: Value.int IntKind.i64 (k : Int) :: u8 :: u9 :: u10 :: u11 :: u12 :: Value.slice a L.length cap :: Value.bool false :: Value.pointer (some (⟨w1.heap.size, 0, none⟩ : Addr)) :: Value.pointer (some (⟨w1.heap.size, 0, none⟩ : Addr)) :: Value.bool false :: Value.int IntKind.i64 80 :: Value.slice a L.length cap :: Value.int IntKind.i64 (L.length : Int) :: Value.bool true :: Value.bool true :: Value.int IntKind.i64 80 :: Value.bool false :: Value.bool false :: u26 :: u27 :: u28 :: u29 :: u30 :: u31 :: u32 :: u33 :: Value.pointer (some (⟨w1.heap.size, 0, none⟩ : Addr)) :: Value.slice (some (⟨g, 0, none⟩ : Addr)) z c6 :: Value.int IntKind.i64 (i : Int) :: Value.slice (some (⟨g, 0, none⟩ : Addr)) z c6 :: Value.int IntKind.i64 (z : Int) :: Value.bool true :: u40 :: u41 :: Value.int IntKind.i64 (k : Int) :: Value.int IntKind.i64 (i : Int) :: Value.bool true :: u45 :: u46 :: xS 0 :: xS 1 :: xS 2 :: xS 3 :: xS 4 :: xS 5 :: xS 6 :: xS 7 :: xS 8 :: xS 9 :: xS 10 :: xS 11 :: xS 12 :: xS 13 :: xS 14 :: xS 15 :: xS 16 :: xS 17 :: xS 18 :: xS 19 :: xS 20 :: xS 21 :: xS 22 :: xS 23 :: xS 24 :: xS 25 :: xS 26 :: xS 27 :: xS 28 :: xS 29 :: xS 30 :: xS 31 :: xS 32 :: xS 33 :: xS 34 :: xS 35 :: xS 36 :: u84 :: u85 :: u86 :: u87 :: u88 :: u89 :: u90 :: u91 :: u92 :: u93 :: u94 :: u95 :: u96 :: u97 :: u98 :: u99 :: u100 :: u101 :: u102 :: u103 :: u104 :: u105 :: u106 :: u107 :: u108 :: u109 :: u110 :: u111 :: u112 :: u113 :: u114 :: u115 :: u116 :: u117 :: u118 :: u119 :: u120 :: u121 :: u122 :: u123 :: u124 :: u125 :: u126 :: u127 :: u128 :: u129 :: u130 :: u131 :: u132 :: u133 :: u134 :: u135 :: u136 :: undef :: []).toArray, defers := [] })
                      (fun ii xx WW => match ii with | 0 => xx = Value.slice (some (⟨g, 0, none⟩ : Addr)) z c6 | 1 => xx = Value.int IntKind.i64 (i : Int) | 2 => xx = .pointer (some ⟨g, i * 4, none⟩) | 3 => xx = .pointer (some ⟨g, i * 4 + 1, none⟩) | 4 => xx = .int .i64 m.p | 5 => xx = Value.slice (some (⟨g, 0, none⟩ : Addr)) z c6 | 6 => xx = Value.int IntKind.i64 (k : Int) | 7 => xx = .pointer (some ⟨g, k * 4, none⟩) | 8 => xx = .pointer (some ⟨g, k * 4 + 1, none⟩) | 9 => xx = .int .i64 q.p | 10 => xx = .bool false | 11 => xx = .bool false | 23 => xx = .bool false | 24 => xx = .bool false | 36 => xx = .bool false | _ => True) (fun | 0 => u47 | 1 => u48 | 2 => u49 | 3 => u50 | 4 => u51 | 5 => u52 | 6 => u53 | 7 => u54 | 8 => u55 | 9 => u56 | 10 => u57 | 11 => u58 | 12 => u59 | 13 => u60 | 14 => u61 | 15 => u62 | 16 => u63 | 17 => u64 | 18 => u65 | 19 => u66 | 20 => u67 | 21 => u68 | 22 => u69 | 23 => u70 | 24 => u71 | 25 => u72 | 26 => u73 | 27 => u74 | 28 => u75 | 29 => u76 | 30 => u77 | 31 => u78 | 32 => u79 | 33 => u80 | 34 => u81 | 35 => u82 | 36 => u83 | _ => undef) (by repeat (first | exact trivial | refine ⟨fun _ _ => rfl, ?_⟩)) (fun _ _ _ _ _ h => h) ⟨?_, ?_, ?_, ?_, ?_, ?_, ?_, ?_, ?_, ?_, ?_, ?_, ?_, ?_, ?_, ?_, ?_, ?_, ?_, ?_, ?_, ?_, ?_, ?_, ?_, ?_, ?_, ?_, ?_, ?_, ?_, ?_, ?_, ?_, ?_, ?_, ?_, trivial⟩ ?_
                    · intro xS W hB hp K hK
                      rw [if_pos (wanted_none rfl _)]
                      clear hp
                      go_simp
                      exact hK _ _ (Below.refl _ _) rfl
                    · intro xS W hB hp K hK
                      rw [if_pos (wanted_none rfl _)]
                      clear hp
                      go_simp
                      exact hK _ _ (Below.refl _ _) rfl
                    · intro xS W hB hp K hK
                      rw [if_pos (wanted_none rfl _)]
                      have h0 : xS 0 = Value.slice (some (⟨g, 0, none⟩ : Addr)) z c6 := hp.1 rfl
                      have h1 : xS 1 = Value.int IntKind.i64 (i : Int) := hp.2.1 rfl
                      clear hp
                      simp only [h0, h1] at hK ⊢
                      clear h0 h1
                      go_simp
                      exact hK _ _ (Below.refl _ _) rfl
                    · intro xS W hB hp K hK
                      rw [if_pos (wanted_none rfl _)]
                      have h2 : xS 2 = .pointer (some ⟨g, i * 4, none⟩) := hp.1 rfl
                      clear hp
                      simp only [h2] at hK ⊢
                      clear h2
                      go_simp
                      exact hK _ _ (Below.refl _ _) rfl
                    · intro xS W hB hp K hK
                      rw [if_pos (wanted_none rfl _)]
                      have h3 : xS 3 = .pointer (some ⟨g, i * 4 + 1, none⟩) := hp.1 rfl
                      clear hp
                      have hc := (hB.cell (p := ⟨g, i * 4 + 1, none⟩) hgq).trans f1
                      simp only [h3] at hK ⊢
                      clear h3
                      go_simp
                      exact hK _ _ (Below.refl _ _) rfl
                    · intro xS W hB hp K hK
                      rw [if_pos (wanted_none rfl _)]
                      clear hp
                      go_simp
                      exact hK _ _ (Below.refl _ _) rfl
                    · intro xS W hB hp K hK
                      rw [if_pos (wanted_none rfl _)]
                      clear hp
                      go_simp
                      exact hK _ _ (Below.refl _ _) rfl
                    · intro xS W hB hp K hK
                      rw [if_pos (wanted_none rfl _)]
                      have h5 : xS 5 = Value.slice (some (⟨g, 0, none⟩ : Addr)) z c6 := hp.1 rfl
                      have h6 : xS 6 = Value.int IntKind.i64 (k : Int) := hp.2.1 rfl
                      clear hp
                      simp only [h5, h6] at hK ⊢
                      clear h5 h6
                      go_simp
                      exact hK _ _ (Below.refl _ _) rfl
                    · intro xS W hB hp K hK
                      rw [if_pos (wanted_none rfl _)]
                      have h7 : xS 7 = .pointer (some ⟨g, k * 4, none⟩) := hp.1 rfl
                      clear hp
                      simp only [h7] at hK ⊢
                      clear h7
                      go_simp
                      exact hK _ _ (Below.refl _ _) rfl
                    · intro xS W hB hp K hK
                      rw [if_pos (wanted_none rfl _)]
                      have h8 : xS 8 = .pointer (some ⟨g, k * 4 + 1, none⟩) := hp.1 rfl
                      clear hp
                      have hc := (hB.cell (p := ⟨g, k * 4 + 1, none⟩) hgq).trans g1
                      simp only [h8] at hK ⊢
                      clear h8
                      go_simp
                      exact hK _ _ (Below.refl _ _) rfl
                    · intro xS W hB hp K hK
                      rw [if_pos (wanted_none rfl _)]
                      have h4 : xS 4 = .int .i64 m.p := hp.1 rfl
                      have h9 : xS 9 = .int .i64 q.p := hp.2.1 rfl
                      clear hp
                      simp only [h4, h9] at hK ⊢
                      clear h4 h9
                      go_simp
                      rw [HBE.out]
                      exact hK _ _ (Below.refl _ _) rfl
                    · intro xS W hB hp K hK
                      rw [if_pos (wanted_none rfl _)]
                      have h10 : xS 10 = .bool false := hp.1 rfl
                      clear hp
                      simp only [h10] at hK ⊢
                      clear h10
                      go_simp
                      exact hK _ _ (Below.refl _ _) rfl
                    · intro xS W hB hp K hK
                      have hgd : xS 11 = .bool false := hp.1 rfl
                      rw [wanted_g (b := false) rfl (by show (match some (xS 11) with | some (.bool b) => some b | _ => none) = some false; rw [hgd])]
                      exact hK _ _ (Below.refl _ _) trivial
                    · intro xS W hB hp K hK
                      have hgd : xS 11 = .bool false := hp.1 rfl
                      rw [wanted_g (b := false) rfl (by show (match some (xS 11) with | some (.bool b) => some b | _ => none) = some false; rw [hgd])]
                      exact hK _ _ (Below.refl _ _) trivial
                    · intro xS W hB hp K hK
                      have hgd : xS 11 = .bool false := hp.2.2.1 rfl
                      rw [wanted_g (b := false) rfl (by show (match some (xS 11) with | some (.bool b) => some b | _ => none) = some false; rw [hgd])]
                      exact hK _ _ (Below.refl _ _) trivial
                    · intro xS W hB hp K hK
                      have hgd : xS 11 = .bool false := hp.2.1 rfl
                      rw [wanted_g (b := false) rfl (by show (match some (xS 11) with | some (.bool b) => some b | _ => none) = some false; rw [hgd])]
                      exact hK _ _ (Below.refl _ _) trivial
                    · intro xS W hB hp K hK
                      have hgd : xS 11 = .bool false := hp.2.1 rfl
                      rw [wanted_g (b := false) rfl (by show (match some (xS 11) with | some (.bool b) => some b | _ => none) = some false; rw [hgd])]
                      exact hK _ _ (Below.refl _ _) trivial
                    · intro xS W hB hp K hK
                      have hgd : xS 11 = .bool false := hp.1 rfl
                      rw [wanted_g (b := false) rfl (by show (match some (xS 11) with | some (.bool b) => some b | _ => none) = some false; rw [hgd])]
                      exact hK _ _ (Below.refl _ _) trivial
                    · intro xS W hB hp K hK
                      have hgd : xS 11 = .bool false := hp.1 rfl
                      rw [wanted_g (b := false) rfl (by show (match some (xS 11) with | some (.bool b) => some b | _ => none) = some false; rw [hgd])]
                      exact hK _ _ (Below.refl _ _) trivial
                    · intro xS W hB hp K hK
                      have hgd : xS 11 = .bool false := hp.2.2.1 rfl
                      rw [wanted_g (b := false) rfl (by show (match some (xS 11) with | some (.bool b) => some b | _ => none) = some false; rw [hgd])]
                      exact hK _ _ (Below.refl _ _) trivial
                    · intro xS W hB hp K hK
                      have hgd : xS 11 = .bool false := hp.2.1 rfl
                      rw [wanted_g (b := false) rfl (by show (match some (xS 11) with | some (.bool b) => some b | _ => none) = some false; rw [hgd])]
                      exact hK _ _ (Below.refl _ _) trivial
                    · intro xS W hB hp K hK
                      have hgd : xS 11 = .bool false := hp.2.1 rfl
                      rw [wanted_g (b := false) rfl (by show (match some (xS 11) with | some (.bool b) => some b | _ => none) = some false; rw [hgd])]
                      exact hK _ _ (Below.refl _ _) trivial
                    · intro xS W hB hp K hK
                      have hgd : xS 11 = .bool false := hp.2.2.1 rfl
                      rw [wanted_g (b := false) rfl (by show (match some (xS 11) with | some (.bool b) => some b | _ => none) = some false; rw [hgd])]
                      exact hK _ _ (Below.refl _ _) trivial
                    · intro xS W hB hp K hK
                      rw [if_pos (wanted_none rfl _)]
                      have h11 : xS 11 = .bool false := hp.1 rfl
                      clear hp
                      simp only [h11] at hK ⊢
                      clear h11
                      go_simp
                      exact hK _ _ (Below.refl _ _) rfl
                    · intro xS W hB hp K hK
                      rw [if_pos (wanted_none rfl _)]
                      have h23 : xS 23 = .bool false := hp.1 rfl
                      clear hp
                      simp only [h23] at hK ⊢
                      clear h23
                      go_simp
                      exact hK _ _ (Below.refl _ _) rfl
                    · intro xS W hB hp K hK
                      have hgd : xS 24 = .bool false := hp.1 rfl
                      rw [wanted_g (b := false) rfl (by show (match some (xS 24) with | some (.bool b) => some b | _ => none) = some false; rw [hgd])]
                      exact hK _ _ (Below.refl _ _) trivial
                    · intro xS W hB hp K hK
                      have hgd : xS 24 = .bool false := hp.1 rfl
                      rw [wanted_g (b := false) rfl (by show (match some (xS 24) with | some (.bool b) => some b | _ => none) = some false; rw [hgd])]
                      exact hK _ _ (Below.refl _ _) trivial
                    · intro xS W hB hp K hK
                      have hgd : xS 24 = .bool false := hp.2.2.1 rfl
                      rw [wanted_g (b := false) rfl (by show (match some (xS 24) with | some (.bool b) => some b | _ => none) = some false; rw [hgd])]
                      exact hK _ _ (Below.refl _ _) trivial
                    · intro xS W hB hp K hK
                      have hgd : xS 24 = .bool false := hp.2.1 rfl
                      rw [wanted_g (b := false) rfl (by show (match some (xS 24) with | some (.bool b) => some b | _ => none) = some false; rw [hgd])]
                      exact hK _ _ (Below.refl _ _) trivial
                    · intro xS W hB hp K hK
                      have hgd : xS 24 = .bool false := hp.2.1 rfl
                      rw [wanted_g (b := false) rfl (by show (match some (xS 24) with | some (.bool b) => some b | _ => none) = some false; rw [hgd])]
                      exact hK _ _ (Below.refl _ _) trivial
                    · intro xS W hB hp K hK
                      have hgd : xS 24 = .bool false := hp.1 rfl
                      rw [wanted_g (b := false) rfl (by show (match some (xS 24) with | some (.bool b) => some b | _ => none) = some false; rw [hgd])]
                      exact hK _ _ (Below.refl _ _) trivial
                    · intro xS W hB hp K hK
                      have hgd : xS 24 = .bool false := hp.1 rfl
                      rw [wanted_g (b := false) rfl (by show (match some (xS 24) with | some (.bool b) => some b | _ => none) = some false; rw [hgd])]
                      exact hK _ _ (Below.refl _ _) trivial
                    · intro xS W hB hp K hK
                      have hgd : xS 24 = .bool false := hp.2.2.1 rfl
                      rw [wanted_g (b := false) rfl (by show (match some (xS 24) with | some (.bool b) => some b | _ => none) = some false; rw [hgd])]
                      exact hK _ _ (Below.refl _ _) trivial
                    · intro xS W hB hp K hK
                      have hgd : xS 24 = .bool false := hp.2.1 rfl
                      rw [wanted_g (b := false) rfl (by show (match some (xS 24) with | some (.bool b) => some b | _ => none) = some false; rw [hgd])]
                      exact hK _ _ (Below.refl _ _) trivial
                    · intro xS W hB hp K hK
                      have hgd : xS 24 = .bool false := hp.2.1 rfl
                      rw [wanted_g (b := false) rfl (by show (match some (xS 24) with | some (.bool b) => some b | _ => none) = some false; rw [hgd])]
                      exact hK _ _ (Below.refl _ _) trivial
                    · intro xS W hB hp K hK
                      have hgd : xS 24 = .bool false := hp.2.2.1 rfl
                      rw [wanted_g (b := false) rfl (by show (match some (xS 24) with | some (.bool b) => some b | _ => none) = some false; rw [hgd])]
                      exact hK _ _ (Below.refl _ _) trivial
                    · intro xS W hB hp K hK
                      rw [if_pos (wanted_none rfl _)]
                      have h24 : xS 24 = .bool false := hp.1 rfl
                      clear hp
                      simp only [h24] at hK ⊢
                      clear h24
                      go_simp
                      exact hK _ _ (Below.refl _ _) rfl
                    intro xS W3 hB3 hs
                    have h36 : xS 36 = .bool false := hs 36 (by simp)
                    clear hs
                    simp only [h36]
                    clear f1 f2 f3 g1 g2 g3
                    go_wp2_with fail
                    have hkk := HKI.out
                    go_roundw
                    case rel => exact ⟨k + 1, by omega, by go_num, hBk.trans (hB3.mono hBk.size)⟩
                    case measure => simp [intOf]; omega
                · obtain rfl : i = k := by omega
                  have hgq : g < wr.heap.size := Nat.lt_of_lt_of_le HGL.out hBw.size
                  have hz5 := HX.out.1
                  have hi5 : (i : Int) < 50000 := by omega
                  have HIZ : Hid (i < z) := hlt
                  obtain ⟨j, p, hj1, hj2, hj3⟩ := HK.out.made m (List.mem_of_getElem? HM.out)
                  have hat : x.at m.p = some (j, p) := by unfold Co.at; rw [hj1, if_pos (by omega), Int.toNat_natCast, hj2]; rfl
                  have HEP : Hid (x.ep m.p = (p.ep, true)) := by show x.ep m.p = (p.ep, true); unfold Co.ep; rw [hat]
                  have hCw := HC.out.below hBw
                  have hnl : ¬ p.ep < m.e := by omega
                  cases hop : p.op with
                  | none =>
                    have HOP : Hid (x.opn m.p = (0, [], false)) := by show x.opn m.p = (0, [], false); unfold Co.opn; rw [hat]; dsimp only; rw [hop]
                    clear hat hj1 hj2 hj3 hop hk hki
                    go_upto_region 21 with (first | (go_at_call 13; refine (Epoch_at own _ _ x hCw m.p).mono ?_; rintro e w8 ⟨rfl, rfl⟩; rw [HEP.out]) | (go_at_call 14; refine (Open_at own _ _ x hCw HX.out.2 m.p).mono ?_; rintro e w9 ⟨v9, rfl, hO9, hB9⟩; rw [HOP.out]; have n1 := (hB9.cell (p := ⟨g, i * 4 + 1, none⟩) hgq).trans f1; have n2 := (hB9.cell (p := ⟨g, i * 4 + 2, none⟩) hgq).trans f2; have n3 := (hB9.cell (p := ⟨g, i * 4 + 3, none⟩) hgq).trans f3; have hgq9 := Nat.lt_of_lt_of_le hgq hB9.size; clear f1 f2 f3 hCw hO9))
                    clear n1
                    clear n3
                    set_option maxRecDepth 3000000 in go_wp2_with (first | (refine wanted_do rfl fun _ _ => ?_) | (refine wpList_skip rfl ?_; go_simp))
                    have hiz := HIZ.out
                    go_roundw
                    case rel => exact ⟨i + 1, by omega, by go_num, hBw.trans (hB9.mono hBw.size)⟩
                    case measure => simp [intOf]; omega
                  | some y =>
                    obtain ⟨bg, l⟩ := y
                    have HOP : Hid (x.opn m.p = (p.last, partsTo l 4, true)) := by show x.opn m.p = (p.last, partsTo l 4, true); unfold Co.opn; rw [hat]; dsimp only; rw [hop]
                    have hlast : p.last = (p.ends.length : Int) + 1 := last_some (by rw [hop]; rfl)
                    rcases hj3 with hlt2 | ⟨hee, htl⟩
                    · have hne : ¬ m.e = p.ep := by omega
                      clear hat hj1 hj2 hop hk hki hlast hlt2
                      go_upto_region 21 with (first | (go_at_call 13; refine (Epoch_at own _ _ x hCw m.p).mono ?_; rintro e w8 ⟨rfl, rfl⟩; rw [HEP.out]) | (go_at_call 14; refine (Open_at own _ _ x hCw HX.out.2 m.p).mono ?_; rintro e w9 ⟨v9, rfl, hO9, hB9⟩; rw [HOP.out]; have n1 := (hB9.cell (p := ⟨g, i * 4 + 1, none⟩) hgq).trans f1; have n2 := (hB9.cell (p := ⟨g, i * 4 + 2, none⟩) hgq).trans f2; have n3 := (hB9.cell (p := ⟨g, i * 4 + 3, none⟩) hgq).trans f3; have hgq9 := Nat.lt_of_lt_of_le hgq hB9.size; clear f1 f2 f3 hCw hO9))
                      clear n1
                      clear n3
                      set_option maxRecDepth 3000000 in go_wp2_with (first | (refine wanted_do rfl fun _ _ => ?_) | (refine wpList_skip rfl ?_; go_simp))
                      have hiz := HIZ.out
                      go_roundw
                      case rel => exact ⟨i + 1, by omega, by go_num, hBw.trans (hB9.mono hBw.size)⟩
                      case measure => simp [intOf]; omega
                    · have hne : ¬ m.t = p.last := by omega
                      rw [hee] at f2
                      clear hnl hat hj1 hj2 hop hk hki hlast htl hee
                      go_upto_region 21 with (first | (go_at_call 13; refine (Epoch_at own _ _ x hCw m.p).mono ?_; rintro e w8 ⟨rfl, rfl⟩; rw [HEP.out]) | (go_at_call 14; refine (Open_at own _ _ x hCw HX.out.2 m.p).mono ?_; rintro e w9 ⟨v9, rfl, hO9, hB9⟩; rw [HOP.out]; have n1 := (hB9.cell (p := ⟨g, i * 4 + 1, none⟩) hgq).trans f1; have n2 := (hB9.cell (p := ⟨g, i * 4 + 2, none⟩) hgq).trans f2; have n3 := (hB9.cell (p := ⟨g, i * 4 + 3, none⟩) hgq).trans f3; have hgq9 := Nat.lt_of_lt_of_le hgq hB9.size; clear f1 f2 f3 hCw hO9))
                      clear n1
                      set_option maxRecDepth 3000000 in go_wp2_with (first | (refine wanted_do rfl fun _ _ => ?_) | (refine wpList_skip rfl ?_; go_simp))
                      have hiz := HIZ.out
                      go_roundw
                      case rel => exact ⟨i + 1, by omega, by go_num, hBw.trans (hB9.mono hBw.size)⟩
                      case measure => simp [intOf]; omega
            · obtain rfl : i = z := by omega
              go_wp2_with (go_at_call 15; refine (known_at _).mono ?_; rintro e w8 ⟨rfl, hB8⟩)
              go_ret
              exact ⟨rfl, (hT6.trans (hB.mono hT6.size)).trans (hB8.mono (hT6.trans (hB.mono hT6.size)).size)⟩
      · obtain rfl : i = L.length := by omega
        have HX : Hid (x.ms.length ≤ 50000 ∧ ∀ p ∈ x.ps, p.ends.length ≤ 1000) := ⟨by have := hI.ms; omega, fun p hp => ends_le (hI.ok.2 p hp).2.2⟩
        have HI8 : Hid (L.length ≤ 80) := hi8
        clear hn hi8 hI HL HW hlt hi
        go_wp2_with (go_at_call 12; refine (Marks_at own _ _ x hC HX.out.1).mono ?_; rintro e w6 ⟨v6, rfl, hO6, hB6⟩)
        have hC6 := hC.below hB6
        have hT6 := hB.trans (hB6.mono hB.size)
        obtain ⟨a6, c6, rfl⟩ := hO6.form
        have HO : Hid (OwnM w6 wr.heap.size (.slice a6 x.ms.length c6) x.ms) := hO6
        have HC : Hid (CoAt own w6 w1.heap.size x) := hC6
        have HK : Hid (OnceI x) := hK
        clear hO6 hC6 hC hB hB6 hK ho
        obtain ⟨z, HZ⟩ : ∃ z, Hid (x.ms.length = z) := ⟨_, rfl⟩
        rw [HZ.out] at HO HX ⊢
        go_wp2_with fail
        go_loopw [6] (fun iv wq => ∃ i : Nat, i ≤ z ∧ iv = .int .i64 (i : Int) ∧ Below w6.heap.size w6 wq) (fun iv _ => z - (intOf iv).toNat)
        case atStart => exact ⟨0, Nat.zero_le _, rfl, Below.refl _ _⟩
        case round =>
          obtain ⟨i, hi, rfl, hB⟩ := hrel
          by_cases hlt : i < z
          · obtain ⟨g, cg, e, -, hgl, hc⟩ := HO.out.at (by rw [HZ.out]; omega)
            obtain rfl : a6 = some ⟨g, 0, none⟩ := by injection e
            obtain ⟨m, hm⟩ : ∃ m, x.ms[i]? = some m := ⟨_, List.getElem?_eq_getElem (by rw [HZ.out]; exact hlt)⟩
            have HCG : Hid (∀ (j : Nat) (m : Mk), x.ms[j]? = some m → w6.cell? ⟨g, j * 4, none⟩ = some (.int .i64 m.k) ∧ w6.cell? ⟨g, j * 4 + 1, none⟩ = some (.int .i64 m.p) ∧ w6.cell? ⟨g, j * 4 + 2, none⟩ = some (.int .i64 m.e) ∧ w6.cell? ⟨g, j * 4 + 3, none⟩ = some (.int .i64 m.t)) := hc
            obtain ⟨-, e1, e2, e3⟩ := hc i m hm
            have d1 := (hB.cell (p := ⟨g, i * 4 + 1, none⟩) hgl).trans e1
            have d2 := (hB.cell (p := ⟨g, i * 4 + 2, none⟩) hgl).trans e2
            have d3 := (hB.cell (p := ⟨g, i * 4 + 3, none⟩) hgl).trans e3
            have HM : Hid (x.ms[i]? = some m) := hm
            have hlt' : (i : Int) < (z : Int) := by omega
            have hgw : g < wr.heap.size := Nat.lt_of_lt_of_le hgl hB.size
            have HGL : Hid (g < w6.heap.size) := hgl
            clear e e1 e2 e3 hc hm hgl
            go_wp2_with fail
            go_loopw [7] (fun kv wq => ∃ k : Nat, k ≤ i ∧ kv = .int .i64 (k : Int) ∧ Below wr.heap.size wr wq) (fun kv _ => i - (intOf kv).toNat)
            case atStart => exact ⟨0, Nat.zero_le _, rfl, Below.refl _ _⟩
            case round =>
              obtain ⟨k, hk, rfl, hBk⟩ := hrel
              have f1 := (hBk.cell (p := ⟨g, i * 4 + 1, none⟩) hgw).trans d1
              have f2 := (hBk.cell (p := ⟨g, i * 4 + 2, none⟩) hgw).trans d2
              have f3 := (hBk.cell (p := ⟨g, i * 4 + 3, none⟩) hgw).trans d3
              have hBw := hB.trans (hBk.mono hB.size)
              clear d1 d2 d3
              by_cases hki : k < i
              · obtain ⟨q, hq⟩ : ∃ q, x.ms[k]? = some q := ⟨_, List.getElem?_eq_getElem (by rw [HZ.out]; omega)⟩
                obtain ⟨-, e1, e2, e3⟩ := HCG.out k q hq
                have g1 := (hBw.cell (p := ⟨g, k * 4 + 1, none⟩) HGL.out).trans e1
                have g2 := (hBw.cell (p := ⟨g, k * 4 + 2, none⟩) HGL.out).trans e2
                have g3 := (hBw.cell (p := ⟨g, k * 4 + 3, none⟩) HGL.out).trans e3
                have hap : MkApart q m := by
                  have h1 := List.pairwise_iff_getElem.1 HK.out.nd k i (by rw [HZ.out]; omega) (by rw [HZ.out]; omega) hki
                  rwa [(List.getElem?_eq_some_iff.1 hq).2, (List.getElem?_eq_some_iff.1 HM.out).2] at h1
                have hki' : (k : Int) < (i : Int) := by omega
                have hgq : g < wr.heap.size := Nat.lt_of_lt_of_le HGL.out hBw.size
                have hkz : (k : Int) < (z : Int) := by omega
                have hz5 := HX.out.1
                have hk5 : (k : Int) < 50000 := by omega
                have HKI : Hid (k < i ∧ i < z) := ⟨hki, hlt⟩
                clear e1 e2 e3 hq
                by_cases hp : m.p = q.p
                · rw [← hp] at g1
                  by_cases he : m.e = q.e
                  · have ht : ¬ m.t = q.t := fun h => hap ⟨hp.symm, he.symm, h.symm⟩
                    rw [← he] at g2
                    have HBE : Hid ((m.t == q.t) = false) := by show (m.t == q.t) = false; simpa using ht
                    clear hp he hap ht
                    go_upto_region 17 with fail
                    refine wp_region_growG (by kernel_rfl) (by kernel_rfl) (fun xS => { tmps := (Value.slice a L.length cap :: undef :: u2 :: Value.pointer (some (⟨w1.heap.size, 0, none⟩ : Addr)) :: Value.int IntKind.i64 (L.length : Int) :: Value.slice (some (⟨g, 0, none⟩ : Addr)) z c6 :: Value.int IntKind.i64 (i : Int) :: Value.int IntKind.i64 (k : Int) :: u8 :: u9 :: u10 :: u11 :: u12 :: Value.slice a L.length cap :: Value.bool false :: Value.pointer (some (⟨w1.heap.size, 0, none⟩ : Addr)) :: Value.pointer (some (⟨w1.heap.size, 0, none⟩ : Addr)) :: Value.bool false :: Value.int IntKind.i64 (L.length : Int) :: Value.slice a L.length cap :: Value.int IntKind.i64 (L.length : Int) :: Value.bool false :: Value.bool false :: undef :: undef :: Value.bool false :: u26 :: u27 :: u28 :: u29 :: u30 :: u31 :: u32 :: u33 :: Value.pointer (some (⟨w1.heap.size, 0, none⟩ : Addr)) :: Value.slice (some (⟨g, 0, none⟩ : Addr)) z c6 :: Value.int IntKind.i64 (i : Int) :: Value.slice (some (⟨g, 0, none⟩ : Addr)) z c6 :: Value.int IntKind.i64 (z : Int) :: Value.bool true :: u40 :: u41 :: Value.int IntKind.i64 (k : Int) :: Value.int IntKind.i64 (i : Int) :: Value.bool true :: u45 :: u46 :: xS 0 :: xS 1 :: xS 2 :: xS 3 :: xS 4 :: xS 5 :: xS 6 :: xS 7 :: xS 8 :: xS 9 :: xS 10 :: xS 11 :: xS 12 :: xS 13 :: xS 14 :: xS 15 :: xS 16 :: xS 17 :: xS 18 :: xS 19 :: xS 20 :: xS 21 :: xS 22 :: xS 23 :: xS 24 :: xS 25 :: xS 26 :: xS 27 :: xS 28 :: xS 29 :: xS 30 :: xS 31 :: xS 32 :: xS 33 :: xS 34 :: xS 35 :: xS 36 :: u84 :: u85 :: u86 :: u87 :: u88 :: u89 :: u90 :: u91 :: u92 :: u93 :: u94 :: u95 :: u96 :: u97 :: u98 :: u99 :: u100 :: u101 :: u102 :: u103 :: u104 :: u105 :: u106 :: u107 :: u108 :: u109 :: u110 :: u111 :: u112 :: u113 :: u114 :: u115 :: u116 :: u117 :: u118 :: u119 :: u120 :: u121 :: u122 :: u123 :: u124 :: u125 :: u126 :: u127 :: u128 :: u129 :: u130 :: u131 :: u132 :: u133 :: u134 :: u135 :: u136 :: undef :: []).toArray, defers := [] })
                      (fun ii xx WW => match ii with | 0 => xx = Value.slice (some (⟨g, 0, none⟩ : Addr)) z c6 | 1 => xx = Value.int IntKind.i64 (i : Int) | 2 => xx = .pointer (some ⟨g, i * 4, none⟩) | 3 => xx = .pointer (some ⟨g, i * 4 + 1, none⟩) | 4 => xx = .int .i64 m.p | 5 => xx = Value.slice (some (⟨g, 0, none⟩ : Addr)) z c6 | 6 => xx = Value.int IntKind.i64 (k : Int) | 7 => xx = .pointer (some ⟨g, k * 4, none⟩) | 8 => xx = .pointer (some ⟨g, k * 4 + 1, none⟩) | 9 => xx = .int .i64 m.p | 10 => xx = .bool true | 11 => xx = .bool true | 12 => xx = Value.slice (some (⟨g, 0, none⟩ : Addr)) z c6 | 13 => xx = Value.int IntKind.i64 (i : Int) | 14 => xx = .pointer (some ⟨g, i * 4, none⟩) | 15 => xx = .pointer (some ⟨g, i * 4 + 2, none⟩) | 16 => xx = .int .i64 m.e | 17 => xx = Value.slice (some (⟨g, 0, none⟩ : Addr)) z c6 | 18 => xx = Value.int IntKind.i64 (k : Int) | 19 => xx = .pointer (some ⟨g, k * 4, none⟩) | 20 => xx = .pointer (some ⟨g, k * 4 + 2, none⟩) | 21 => xx = .int .i64 m.e | 22 => xx = .bool true | 23 => xx = .bool true | 24 => xx = .bool true | 25 => xx = Value.slice (some (⟨g, 0, none⟩ : Addr)) z c6 | 26 => xx = Value.int IntKind.i64 (i : Int) | 27 => xx = .pointer (some ⟨g, i * 4, none⟩) | 28 => xx = .pointer (some ⟨g, i * 4 + 3, none⟩) | 29 => xx = .int .i64 m.t | 30 => xx = Value.slice (some (⟨g, 0, none⟩ : Addr)) z c6 | 31 => xx = Value.int IntKind.i64 (k : Int) | 32 => xx = .pointer (some ⟨g, k * 4, none⟩) | 33 => xx = .pointer (some ⟨g, k * 4 + 3, none⟩) | 34 => xx = .int .i64 q.t | 35 => xx = .bool false | 36 => xx = .bool false | _ => True) (fun | 0 => u47 | 1 => u48 | 2 => u49 | 3 => u50 | 4 => u51 | 5 => u52 | 6 => u53 | 7 => u54 | 8 => u55 | 9 => u56 | 10 => u57 | 11 => u58 | 12 => u59 | 13 => u60 | 14 => u61 | 15 => u62 | 16 => u63 | 17 => u64 | 18 => u65 | 19 => u66 | 20 => u67 | 21 => u68 | 22 => u69 | 23 => u70 | 24 => u71 | 25 => u72 | 26 => u73 | 27 => u74 | 28 => u75 | 29 => u76 | 30 => u77 | 31 => u78 | 32 => u79 | 33 => u80 | 34 => u81 | 35 => u82 | 36 => u83 | _ => undef) (by repeat (first | exact trivial | refine ⟨fun _ _ => rfl, ?_⟩)) (fun _ _ _ _ _ h => h) ⟨?_, ?_, ?_, ?_, ?_, ?_, ?_, ?_, ?_, ?_, ?_, ?_, ?_, ?_, ?_, ?_, ?_, ?_, ?_, ?_, ?_, ?_, ?_, ?_, ?_, ?_, ?_, ?_, ?_, ?_, ?_, ?_, ?_, ?_, ?_, ?_, ?_, trivial⟩ ?_
                    · intro xS W hB hp K hK
                      rw [if_pos (wanted_none rfl _)]
                      clear hp
                      go_simp
                      exact hK _ _ (Below.refl _ _) rfl
                    · intro xS W hB hp K hK
                      rw [if_pos (wanted_none rfl _)]
                      clear hp
                      go_simp
                      exact hK _ _ (Below.refl _ _) rfl
                    · intro xS W hB hp K hK
                      rw [if_pos (wanted_none rfl _)]
                      have h0 : xS 0 = Value.slice (some (⟨g, 0, none⟩ : Addr)) z c6 := hp.1 rfl
                      have h1 : xS 1 = Value.int IntKind.i64 (i : Int) := hp.2.1 rfl
                      clear hp
                      simp only [h0, h1] at hK ⊢
                      clear h0 h1
                      go_simp
                      exact hK _ _ (Below.refl _ _) rfl
                    · intro xS W hB hp K hK
                      rw [if_pos (wanted_none rfl _)]
                      have h2 : xS 2 = .pointer (some ⟨g, i * 4, none⟩) := hp.1 rfl
                      clear hp
                      simp only [h2] at hK ⊢
                      clear h2
                      go_simp
                      exact hK _ _ (Below.refl _ _) rfl
                    · intro xS W hB hp K hK
                      rw [if_pos (wanted_none rfl _)]
                      have h3 : xS 3 = .pointer (some ⟨g, i * 4 + 1, none⟩) := hp.1 rfl
                      clear hp
                      have hc := (hB.cell (p := ⟨g, i * 4 + 1, none⟩) hgq).trans f1
                      simp only [h3] at hK ⊢
                      clear h3
                      go_simp
                      exact hK _ _ (Below.refl _ _) rfl
                    · intro xS W hB hp K hK
                      rw [if_pos (wanted_none rfl _)]
                      clear hp
                      go_simp
                      exact hK _ _ (Below.refl _ _) rfl
                    · intro xS W hB hp K hK
                      rw [if_pos (wanted_none rfl _)]
                      clear hp
                      go_simp
                      exact hK _ _ (Below.refl _ _) rfl
                    · intro xS W hB hp K hK
                      rw [if_pos (wanted_none rfl _)]
                      have h5 : xS 5 = Value.slice (some (⟨g, 0, none⟩ : Addr)) z c6 := hp.1 rfl
                      have h6 : xS 6 = Value.int IntKind.i64 (k : Int) := hp.2.1 rfl
                      clear hp
                      simp only [h5, h6] at hK ⊢
                      clear h5 h6
                      go_simp
                      exact hK _ _ (Below.refl _ _) rfl
                    · intro xS W hB hp K hK
                      rw [if_pos (wanted_none rfl _)]
                      have h7 : xS 7 = .pointer (some ⟨g, k * 4, none⟩) := hp.1 rfl
                      clear hp
                      simp only [h7] at hK ⊢
                      clear h7
                      go_simp
                      exact hK _ _ (Below.refl _ _) rfl
                    · intro xS W hB hp K hK
                      rw [if_pos (wanted_none rfl _)]
                      have h8 : xS 8 = .pointer (some ⟨g, k * 4 + 1, none⟩) := hp.1 rfl
                      clear hp
                      have hc := (hB.cell (p := ⟨g, k * 4 + 1, none⟩) hgq).trans g1
                      simp only [h8] at hK ⊢
                      clear h8
                      go_simp
                      exact hK _ _ (Below.refl _ _) rfl
                    · intro xS W hB hp K hK
                      rw [if_pos (wanted_none rfl _)]
                      have h4 : xS 4 = .int .i64 m.p := hp.1 rfl
                      have h9 : xS 9 = .int .i64 m.p := hp.2.1 rfl
                      clear hp
                      simp only [h4, h9] at hK ⊢
                      clear h4 h9
                      go_simp
                      exact hK _ _ (Below.refl _ _) rfl
                    · intro xS W hB hp K hK
                      rw [if_pos (wanted_none rfl _)]
                      have h10 : xS 10 = .bool true := hp.1 rfl
                      clear hp
                      simp only [h10] at hK ⊢
                      clear h10
                      go_simp
                      exact hK _ _ (Below.refl _ _) rfl
                    · intro xS W hB hp K hK
                      have hgd : xS 11 = .bool true := hp.1 rfl
                      rw [wanted_g (b := true) rfl (by show (match some (xS 11) with | some (.bool b) => some b | _ => none) = some true; rw [hgd])]
                      rw [if_pos (show (true == true) = true from rfl)]
                      clear hgd
                      clear hp
                      go_simp
                      exact hK _ _ (Below.refl _ _) rfl
                    · intro xS W hB hp K hK
                      have hgd : xS 11 = .bool true := hp.1 rfl
                      rw [wanted_g (b := true) rfl (by show (match some (xS 11) with | some (.bool b) => some b | _ => none) = some true; rw [hgd])]
                      rw [if_pos (show (true == true) = true from rfl)]
                      clear hgd
                      clear hp
                      go_simp
                      exact hK _ _ (Below.refl _ _) rfl
                    · intro xS W hB hp K hK
                      have hgd : xS 11 = .bool true := hp.2.2.1 rfl
                      rw [wanted_g (b := true) rfl (by show (match some (xS 11) with | some (.bool b) => some b | _ => none) = some true; rw [hgd])]
                      rw [if_pos (show (true == true) = true from rfl)]
                      clear hgd
                      have h12 : xS 12 = Value.slice (some (⟨g, 0, none⟩ : Addr)) z c6 := hp.1 rfl
                      have h13 : xS 13 = Value.int IntKind.i64 (i : Int) := hp.2.1 rfl
                      clear hp
                      simp only [h12, h13] at hK ⊢
                      clear h12 h13
                      go_simp
                      exact hK _ _ (Below.refl _ _) rfl
                    · intro xS W hB hp K hK
                      have hgd : xS 11 = .bool true := hp.2.1 rfl
                      rw [wanted_g (b := true) rfl (by show (match some (xS 11) with | some (.bool b) => some b | _ => none) = some true; rw [hgd])]
                      rw [if_pos (show (true == true) = true from rfl)]
                      clear hgd
                      have h14 : xS 14 = .pointer (some ⟨g, i * 4, none⟩) := hp.1 rfl
                      clear hp
                      simp only [h14] at hK ⊢
                      clear h14
                      go_simp
                      exact hK _ _ (Below.refl _ _) rfl
                    · intro xS W hB hp K hK
                      have hgd : xS 11 = .bool true := hp.2.1 rfl
                      rw [wanted_g (b := true) rfl (by show (match some (xS 11) with | some (.bool b) => some b | _ => none) = some true; rw [hgd])]
                      rw [if_pos (show (true == true) = true from rfl)]
                      clear hgd
                      have h15 : xS 15 = .pointer (some ⟨g, i * 4 + 2, none⟩) := hp.1 rfl
                      clear hp
                      have hc := (hB.cell (p := ⟨g, i * 4 + 2, none⟩) hgq).trans f2
                      simp only [h15] at hK ⊢
                      clear h15
                      go_simp
                      exact hK _ _ (Below.refl _ _) rfl
                    · intro xS W hB hp K hK
                      have hgd : xS 11 = .bool true := hp.1 rfl
                      rw [wanted_g (b := true) rfl (by show (match some (xS 11) with | some (.bool b) => some b | _ => none) = some true; rw [hgd])]
                      rw [if_pos (show (true == true) = true from rfl)]
                      clear hgd
                      clear hp
                      go_simp
                      exact hK _ _ (Below.refl _ _) rfl
                    · intro xS W hB hp K hK
                      have hgd : xS 11 = .bool true := hp.1 rfl
                      rw [wanted_g (b := true) rfl (by show (match some (xS 11) with | some (.bool b) => some b | _ => none) = some true; rw [hgd])]
                      rw [if_pos (show (true == true) = true from rfl)]
                      clear hgd
                      clear hp
                      go_simp
                      exact hK _ _ (Below.refl _ _) rfl
                    · intro xS W hB hp K hK
                      have hgd : xS 11 = .bool true := hp.2.2.1 rfl
                      rw [wanted_g (b := true) rfl (by show (match some (xS 11) with | some (.bool b) => some b | _ => none) = some true; rw [hgd])]
                      rw [if_pos (show (true == true) = true from rfl)]
                      clear hgd
                      have h17 : xS 17 = Value.slice (some (⟨g, 0, none⟩ : Addr)) z c6 := hp.1 rfl
                      have h18 : xS 18 = Value.int IntKind.i64 (k : Int) := hp.2.1 rfl
                      clear hp
                      simp only [h17, h18] at hK ⊢
                      clear h17 h18
                      go_simp
                      exact hK _ _ (Below.refl _ _) rfl
                    · intro xS W hB hp K hK
                      have hgd : xS 11 = .bool true := hp.2.1 rfl
                      rw [wanted_g (b := true) rfl (by show (match some (xS 11) with | some (.bool b) => some b | _ => none) = some true; rw [hgd])]
                      rw [if_pos (show (true == true) = true from rfl)]
                      clear hgd
                      have h19 : xS 19 = .pointer (some ⟨g, k * 4, none⟩) := hp.1 rfl
                      clear hp
                      simp only [h19] at hK ⊢
                      clear h19
                      go_simp
                      exact hK _ _ (Below.refl _ _) rfl
                    · intro xS W hB hp K hK
                      have hgd : xS 11 = .bool true := hp.2.1 rfl
                      rw [wanted_g (b := true) rfl (by show (match some (xS 11) with | some (.bool b) => some b | _ => none) = some true; rw [hgd])]
                      rw [if_pos (show (true == true) = true from rfl)]
                      clear hgd
                      have h20 : xS 20 = .pointer (some ⟨g, k * 4 + 2, none⟩) := hp.1 rfl
                      clear hp
                      have hc := (hB.cell (p := ⟨g, k * 4 + 2, none⟩) hgq).trans g2
                      simp only [h20] at hK ⊢
                      clear h20
                      go_simp
                      exact hK _ _ (Below.refl _ _) rfl
                    · intro xS W hB hp K hK
                      have hgd : xS 11 = .bool true := hp.2.2.1 rfl
                      rw [wanted_g (b := true) rfl (by show (match some (xS 11) with | some (.bool b) => some b | _ => none) = some true; rw [hgd])]
                      rw [if_pos (show (true == true) = true from rfl)]
                      clear hgd
                      have h16 : xS 16 = .int .i64 m.e := hp.1 rfl
                      have h21 : xS 21 = .int .i64 m.e := hp.2.1 rfl
                      clear hp
                      simp only [h16, h21] at hK ⊢
                      clear h16 h21
                      go_simp
                      exact hK _ _ (Below.refl _ _) rfl
                    · intro xS W hB hp K hK
                      rw [if_pos (wanted_none rfl _)]
                      have h11 : xS 11 = .bool true := hp.1 rfl
                      have h22 : xS 22 = .bool true := hp.2.1 rfl
                      clear hp
                      simp only [h11, h22] at hK ⊢
                      clear h11 h22
                      go_simp
                      exact hK _ _ (Below.refl _ _) rfl
                    · intro xS W hB hp K hK
                      rw [if_pos (wanted_none rfl _)]
                      have h23 : xS 23 = .bool true := hp.1 rfl
                      clear hp
                      simp only [h23] at hK ⊢
                      clear h23
                      go_simp
                      exact hK _ _ (Below.refl _ _) rfl
                    · intro xS W hB hp K hK
                      have hgd : xS 24 = .bool true := hp.1 rfl
                      rw [wanted_g (b := true) rfl (by show (match some (xS 24) with | some (.bool b) => some b | _ => none) = some true; rw [hgd])]
                      rw [if_pos (show (true == true) = true from rfl)]
                      clear hgd
                      clear hp
                      go_simp
                      exact hK _ _ (Below.refl _ _) rfl
                    · intro xS W hB hp K hK
                      have hgd : xS 24 = .bool true := hp.1 rfl
                      rw [wanted_g (b := true) rfl (by show (match some (xS 24) with | some (.bool b) => some b | _ => none) = some true; rw [hgd])]
                      rw [if_pos (show (true == true) = true from rfl)]
                      clear hgd
                      clear hp
                      go_simp
                      exact hK _ _ (Below.refl _ _) rfl
                    · intro xS W hB hp K hK
                      have hgd : xS 24 = .bool true := hp.2.2.1 rfl
                      rw [wanted_g (b := true) rfl (by show (match some (xS 24) with | some (.bool b) => some b | _ => none) = some true; rw [hgd])]
                      rw [if_pos (show (true == true) = true from rfl)]
                      clear hgd
                      have h25 : xS 25 = Value.slice (some (⟨g, 0, none⟩ : Addr)) z c6 := hp.1 rfl
                      have h26 : xS 26 = Value.int IntKind.i64 (i : Int) := hp.2.1 rfl
                      clear hp
                      simp only [h25, h26] at hK ⊢
                      clear h25 h26
                      go_simp
                      exact hK _ _ (Below.refl _ _) rfl
                    · intro xS W hB hp K hK
                      have hgd : xS 24 = .bool true := hp.2.1 rfl
                      rw [wanted_g (b := true) rfl (by show (match some (xS 24) with | some (.bool b) => some b | _ => none) = some true; rw [hgd])]
                      rw [if_pos (show (true == true) = true from rfl)]
                      clear hgd
                      have h27 : xS 27 = .pointer (some ⟨g, i * 4, none⟩) := hp.1 rfl
                      clear hp
                      simp only [h27] at hK ⊢
                      clear h27
                      go_simp
                      exact hK _ _ (Below.refl _ _) rfl
                    · intro xS W hB hp K hK
                      have hgd : xS 24 = .bool true := hp.2.1 rfl
                      rw [wanted_g (b := true) rfl (by show (match some (xS 24) with | some (.bool b) => some b | _ => none) = some true; rw [hgd])]
                      rw [if_pos (show (true == true) = true from rfl)]
                      clear hgd
                      have h28 : xS 28 = .pointer (some ⟨g, i * 4 + 3, none⟩) := hp.1 rfl
                      clear hp
                      have hc := (hB.cell (p := ⟨g, i * 4 + 3, none⟩) hgq).trans f3
                      simp only [h28] at hK ⊢
                      clear h28
                      go_simp
                      exact hK _ _ (Below.refl _ _) rfl
                    · intro xS W hB hp K hK
                      have hgd : xS 24 = .bool true := hp.1 rfl
                      rw [wanted_g (b := true) rfl (by show (match some (xS 24) with | some (.bool b) => some b | _ => none) = some true; rw [hgd])]
                      rw [if_pos (show (true == true) = true from rfl)]
                      clear hgd
                      clear hp
                      go_simp
                      exact hK _ _ (Below.refl _ _) rfl
                    · intro xS W hB hp K hK
                      have hgd : xS 24 = .bool true := hp.1 rfl
                      rw [wanted_g (b := true) rfl (by show (match some (xS 24) with | some (.bool b) => some b | _ => none) = some true; rw [hgd])]
                      rw [if_pos (show (true == true) = true from rfl)]
                      clear hgd
                      clear hp
                      go_simp
                      exact hK _ _ (Below.refl _ _) rfl
                    · intro xS W hB hp K hK
                      have hgd : xS 24 = .bool true := hp.2.2.1 rfl
                      rw [wanted_g (b := true) rfl (by show (match some (xS 24) with | some (.bool b) => some b | _ => none) = some true; rw [hgd])]
                      rw [if_pos (show (true == true) = true from rfl)]
                      clear hgd
                      have h30 : xS 30 = Value.slice (some (⟨g, 0, none⟩ : Addr)) z c6 := hp.1 rfl
                      have h31 : xS 31 = Value.int IntKind.i64 (k : Int) := hp.2.1 rfl
                      clear hp
                      simp only [h30, h31] at hK ⊢
                      clear h30 h31
                      go_simp
                      exact hK _ _ (Below.refl _ _) rfl
                    · intro xS W hB hp K hK
                      have hgd : xS 24 = .bool true := hp.2.1 rfl
                      rw [wanted_g (b := true) rfl (by show (match some (xS 24) with | some (.bool b) => some b | _ => none) = some true; rw [hgd])]
                      rw [if_pos (show (true == true) = true from rfl)]
                      clear hgd
                      have h32 : xS 32 = .pointer (some ⟨g, k * 4, none⟩) := hp.1 rfl
                      clear hp
                      simp only [h32] at hK ⊢
                      clear h32
                      go_simp
                      exact hK _ _ (Below.refl _ _) rfl
                    · intro xS W hB hp K hK
                      have hgd : xS 24 = .bool true := hp.2.1 rfl
                      rw [wanted_g (b := true) rfl (by show (match some (xS 24) with | some (.bool b) => some b | _ => none) = some true; rw [hgd])]
                      rw [if_pos (show (true == true) = true from rfl)]
                      clear hgd
                      have h33 : xS 33 = .pointer (some ⟨g, k * 4 + 3, none⟩) := hp.1 rfl
                      clear hp
                      have hc := (hB.cell (p := ⟨g, k * 4 + 3, none⟩) hgq).trans g3
                      simp only [h33] at hK ⊢
                      clear h33
                      go_simp
                      exact hK _ _ (Below.refl _ _) rfl
                    · intro xS W hB hp K hK
                      have hgd : xS 24 = .bool true := hp.2.2.1 rfl
                      rw [wanted_g (b := true) rfl (by show (match some (xS 24) with | some (.bool b) => some b | _ => none) = some true; rw [hgd])]
                      rw [if_pos (show (true == true) = true from rfl)]
                      clear hgd
                      have h29 : xS 29 = .int .i64 m.t := hp.1 rfl
                      have h34 : xS 34 = .int .i64 q.t := hp.2.1 rfl
                      clear hp
                      simp only [h29, h34] at hK ⊢
                      clear h29 h34
                      go_simp
                      rw [HBE.out]
                      exact hK _ _ (Below.refl _ _) rfl
                    · intro xS W hB hp K hK
                      rw [if_pos (wanted_none rfl _)]
                      have h24 : xS 24 = .bool true := hp.1 rfl
                      have h35 : xS 35 = .bool false := hp.2.1 rfl
                      clear hp
                      simp only [h24, h35] at hK ⊢
                      clear h24 h35
                      go_simp
                      exact hK _ _ (Below.refl _ _) rfl
                    intro xS W3 hB3 hs
                    have h36 : xS 36 = .bool false := hs 36 (by simp)
                    clear hs
                    simp only [h36]
                    clear f1 f2 f3 g1 g2 g3
                    go_wp2_with fail
                    have hkk := HKI.out
                    go_roundw
                    case rel => exact ⟨k + 1, by omega, by go_num, hBk.trans (hB3.mono hBk.size)⟩
                    case measure => simp [intOf]; omega
                  · have HBE : Hid ((m.e == q.e) = false) := by show (m.e == q.e) = false; simpa using he
                    clear hp hap he
                    go_upto_region 17 with fail
                    refine wp_region_growG (by kernel_rfl) (by kernel_rfl) (fun xS => { tmps := (Value.slice a L.length cap :: undef :: u2 :: Value.pointer (some (⟨w1.heap.size, 0, none⟩ : Addr)) :: Value.int IntKind.i64 (L.length : Int) :: Value.slice (some (⟨g, 0, none⟩ : Addr)) z c6 :: Value.int IntKind.i64 (i : Int) :: Value.int IntKind.i64 (k : Int) :: u8 :: u9 :: u10 :: u11 :: u12 :: Value.slice a L.length cap :: Value.bool false :: Value.pointer (some (⟨w1.heap.size, 0, none⟩ : Addr)) :: Value.pointer (some (⟨w1.heap.size, 0, none⟩ : Addr)) :: Value.bool false :: Value.int IntKind.i64 (L.length : Int) :: Value.slice a L.length cap :: Value.int IntKind.i64 (L.length : Int) :: Value.bool false :: Value.bool false :: undef :: undef :: Value.bool false :: u26 :: u27 :: u28 :: u29 :: u30 :: u31 :: u32 :: u33 :: Value.pointer (some (⟨w1.heap.size, 0, none⟩ : Addr)) :: Value.slice (some (⟨g, 0, none⟩ : Addr)) z c6 :: Value.int IntKind.i64 (i : Int) :: Value.slice (some (⟨g, 0, none⟩ : Addr)) z c6 :: Value.int IntKind.i64 (z : Int) :: Value.bool true :: u40 :: u41 :: Value.int IntKind.i64 (k : Int) :: Value.int IntKind.i64 (i : Int) :: Value.bool true :: u45 :: u46 :: xS 0 :: xS 1 :: xS 2 :: xS 3 :: xS 4 :: xS 5 :: xS 6 :: xS 7 :: xS 8 :: xS 9 :: xS 10 :: xS 11 :: xS 12 :: xS 13 :: xS 14 :: xS 15 :: xS 16 :: xS 17 :: xS 18 :: xS 19 :: xS 20 :: xS 21 :: xS 22 :: xS 23 :: xS 24 :: xS 25 :: xS 26 :: xS 27 :: xS 28 :: xS 29 :: xS 30 :: xS 31 :: xS 32 :: xS 33 :: xS 34 :: xS 35 :: xS 36 :: u84 :: u85 :: u86 :: u87 :: u88 :: u89 :: u90 :: u91 :: u92 :: u93 :: u94 :: u95 :: u96 :: u97 :: u98 :: u99 :: u100 :: u101 :: u102 :: u103 :: u104 :: u105 :: u106 :: u107 :: u108 :: u109 :: u110 :: u111 :: u112 :: u113 :: u114 :: u115 :: u116 :: u117 :: u118 :: u119 :: u120 :: u121 :: u122 :: u123 :: u124 :: u125 :: u126 :: u127 :: u128 :: u129 :: u130 :: u131 :: u132 :: u133 :: u134 :: u135 :: u136 :: undef :: []).toArray, defers := [] })
                      (fun ii xx WW => match ii with | 0 => xx = Value.slice (some (⟨g, 0, none⟩ : Addr)) z c6 | 1 => xx = Value.int IntKind.i64 (i : Int) | 2 => xx = .pointer (some ⟨g, i * 4, none⟩) | 3 => xx = .pointer (some ⟨g, i * 4 + 1, none⟩) | 4 => xx = .int .i64 m.p | 5 => xx = Value.slice (some (⟨g, 0, none⟩ : Addr)) z c6 | 6 => xx = Value.int IntKind.i64 (k : Int) | 7 => xx = .pointer (some ⟨g, k * 4, none⟩) | 8 => xx = .pointer (some ⟨g, k * 4 + 1, none⟩) | 9 => xx = .int .i64 m.p | 10 => xx = .bool true | 11 => xx = .bool true | 12 => xx = Value.slice (some (⟨g, 0, none⟩ : Addr)) z c6 | 13 => xx = Value.int IntKind.i64 (i : Int) | 14 => xx = .pointer (some ⟨g, i * 4, none⟩) | 15 => xx = .pointer (some ⟨g, i * 4 + 2, none⟩) | 16 => xx = .int .i64 m.e | 17 => xx = Value.slice (some (⟨g, 0, none⟩ : Addr)) z c6 | 18 => xx = Value.int IntKind.i64 (k : Int) | 19 => xx = .pointer (some ⟨g, k * 4, none⟩) | 20 => xx = .pointer (some ⟨g, k * 4 + 2, none⟩) | 21 => xx = .int .i64 q.e | 22 => xx = .bool false | 23 => xx = .bool false | 24 => xx = .bool false | 36 => xx = .bool false | _ => True) (fun | 0 => u47 | 1 => u48 | 2 => u49 | 3 => u50 | 4 => u51 | 5 => u52 | 6 => u53 | 7 => u54 | 8 => u55 | 9 => u56 | 10 => u57 | 11 => u58 | 12 => u59 | 13 => u60 | 14 => u61 | 15 => u62 | 16 => u63 | 17 => u64 | 18 => u65 | 19 => u66 | 20 => u67 | 21 => u68 | 22 => u69 | 23 => u70 | 24 => u71 | 25 => u72 | 26 => u73 | 27 => u74 | 28 => u75 | 29 => u76 | 30 => u77 | 31 => u78 | 32 => u79 | 33 => u80 | 34 => u81 | 35 => u82 | 36 => u83 | _ => undef) (by repeat (first | exact trivial | refine ⟨fun _ _ => rfl, ?_⟩)) (fun _ _ _ _ _ h => h) ⟨?_, ?_, ?_, ?_, ?_, ?_, ?_, ?_, ?_, ?_, ?_, ?_, ?_, ?_, ?_, ?_, ?_, ?_, ?_, ?_, ?_, ?_, ?_, ?_, ?_, ?_, ?_, ?_, ?_, ?_, ?_, ?_, ?_, ?_, ?_, ?_, ?_, trivial⟩ ?_
                    · intro xS W hB hp K hK
                      rw [if_pos (wanted_none rfl _)]
                      clear hp
                      go_simp
                      exact hK _ _ (Below.refl _ _) rfl
                    · intro xS W hB hp K hK
                      rw [if_pos (wanted_none rfl _)]
                      clear hp
                      go_simp
                      exact hK _ _ (Below.refl _ _) rfl
                    · intro xS W hB hp K hK
                      rw [if_pos (wanted_none rfl _)]
                      have h0 : xS 0 = Value.slice (some (⟨g, 0, none⟩ : Addr)) z c6 := hp.1 rfl
                      have h1 : xS 1 = Value.int IntKind.i64 (i : Int) := hp.2.1 rfl
                      clear hp
                      simp only [h0, h1] at hK ⊢
                      clear h0 h1
                      go_simp
                      exact hK _ _ (Below.refl _ _) rfl
                    · intro xS W hB hp K hK
                      rw [if_pos (wanted_none rfl _)]
                      have h2 : xS 2 = .pointer (some ⟨g, i * 4, none⟩) := hp.1 rfl
                      clear hp
                      simp only [h2] at hK ⊢
                      clear h2
                      go_simp
                      exact hK _ _ (Below.refl _ _) rfl
                    · intro xS W hB hp K hK
                      rw [if_pos (wanted_none rfl _)]
                      have h3 : xS 3 = .pointer (some ⟨g, i * 4 + 1, none⟩) := hp.1 rfl
                      clear hp
                      have hc := (hB.cell (p := ⟨g, i * 4 + 1, none⟩) hgq).trans f1
                      simp only [h3] at hK ⊢
                      clear h3
                      go_simp
                      exact hK _ _ (Below.refl _ _) rfl
                    · intro xS W hB hp K hK
                      rw [if_pos (wanted_none rfl _)]
                      clear hp
                      go_simp
                      exact hK _ _ (Below.refl _ _) rfl
                    · intro xS W hB hp K hK
                      rw [if_pos (wanted_none rfl _)]
                      clear hp
                      go_simp
                      exact hK _ _ (Below.refl _ _) rfl
                    · intro xS W hB hp K hK
                      rw [if_pos (wanted_none rfl _)]
                      have h5 : xS 5 = Value.slice (some (⟨g, 0, none⟩ : Addr)) z c6 := hp.1 rfl
                      have h6 : xS 6 = Value.int IntKind.i64 (k : Int) := hp.2.1 rfl
                      clear hp
                      simp only [h5, h6] at hK ⊢
                      clear h5 h6
                      go_simp
                      exact hK _ _ (Below.refl _ _) rfl
                    · intro xS W hB hp K hK
                      rw [if_pos (wanted_none rfl _)]
                      have h7 : xS 7 = .pointer (some ⟨g, k * 4, none⟩) := hp.1 rfl
                      clear hp
                      simp only [h7] at hK ⊢
                      clear h7
                      go_simp
                      exact hK _ _ (Below.refl _ _) rfl
                    · intro xS W hB hp K hK
                      rw [if_pos (wanted_none rfl _)]
                      have h8 : xS 8 = .pointer (some ⟨g, k * 4 + 1, none⟩) := hp.1 rfl
                      clear hp
                      have hc := (hB.cell (p := ⟨g, k * 4 + 1, none⟩) hgq).trans g1
                      simp only [h8] at hK ⊢
                      clear h8
                      go_simp
                      exact hK _ _ (Below.refl _ _) rfl
                    · intro xS W hB hp K hK
                      rw [if_pos (wanted_none rfl _)]
                      have h4 : xS 4 = .int .i64 m.p := hp.1 rfl
                      have h9 : xS 9 = .int .i64 m.p := hp.2.1 rfl
                      clear hp
                      simp only [h4, h9] at hK ⊢
                      clear h4 h9
                      go_simp
                      exact hK _ _ (Below.refl _ _) rfl
                    · intro xS W hB hp K hK
                      rw [if_pos (wanted_none rfl _)]
                      have h10 : xS 10 = .bool true := hp.1 rfl
                      clear hp
                      simp only [h10] at hK ⊢
                      clear h10
                      go_simp
                      exact hK _ _ (Below.refl _ _) rfl
                    · intro xS W hB hp K hK
                      have hgd : xS 11 = .bool true := hp.1 rfl
                      rw [wanted_g (b := true) rfl (by show (match some (xS 11) with | some (.bool b) => some b | _ => none) = some true; rw [hgd])]
                      rw [if_pos (show (true == true) = true from rfl)]
                      clear hgd
                      clear hp
                      go_simp
                      exact hK _ _ (Below.refl _ _) rfl
                    · intro xS W hB hp K hK
                      have hgd : xS 11 = .bool true := hp.1 rfl
                      rw [wanted_g (b := true) rfl (by show (match some (xS 11) with | some (.bool b) => some b | _ => none) = some true; rw [hgd])]
                      rw [if_pos (show (true == true) = true from rfl)]
                      clear hgd
                      clear hp
                      go_simp
                      exact hK _ _ (Below.refl _ _) rfl
                    · intro xS W hB hp K hK
                      have hgd : xS 11 = .bool true := hp.2.2.1 rfl
                      rw [wanted_g (b := true) rfl (by show (match some (xS 11) with | some (.bool b) => some b | _ => none) = some true; rw [hgd])]
                      rw [if_pos (show (true == true) = true from rfl)]
                      clear hgd
                      have h12 : xS 12 = Value.slice (some (⟨g, 0, none⟩ : Addr)) z c6 := hp.1 rfl
                      have h13 : xS 13 = Value.int IntKind.i64 (i : Int) := hp.2.1 rfl
                      clear hp
                      simp only [h12, h13] at hK ⊢
                      clear h12 h13
                      go_simp
                      exact hK _ _ (Below.refl _ _) rfl
                    · intro xS W hB hp K hK
                      have hgd : xS 11 = .bool true := hp.2.1 rfl
                      rw [wanted_g (b := true) rfl (by show (match some (xS 11) with | some (.bool b) => some b | _ => none) = some true; rw [hgd])]
                      rw [if_pos (show (true == true) = true from rfl)]
                      clear hgd
                      have h14 : xS 14 = .pointer (some ⟨g, i * 4, none⟩) := hp.1 rfl
                      clear hp
                      simp only [h14] at hK ⊢
                      clear h14
                      go_simp
                      exact hK _ _ (Below.refl _ _) rfl
                    · intro xS W hB hp K hK
                      have hgd : xS 11 = .bool true := hp.2.1 rfl
                      rw [wanted_g (b := true) rfl (by show (match some (xS 11) with | some (.bool b) => some b | _ => none) = some true; rw [hgd])]
                      rw [if_pos (show (true == true) = true from rfl)]
                      clear hgd
                      have h15 : xS 15 = .pointer (some ⟨g, i * 4 + 2, none⟩) := hp.1 rfl
                      clear hp
                      have hc := (hB.cell (p := ⟨g, i * 4 + 2, none⟩) hgq).trans f2
                      simp only [h15] at hK ⊢
                      clear h15
                      go_simp
                      exact hK _ _ (Below.refl _ _) rfl
                    · intro xS W hB hp K hK
                      have hgd : xS 11 = .bool true := hp.1 rfl
                      rw [wanted_g (b := true) rfl (by show (match some (xS 11) with | some (.bool b) => some b | _ => none) = some true; rw [hgd])]
                      rw [if_pos (show (true == true) = true from rfl)]
                      clear hgd
                      clear hp
                      go_simp
                      exact hK _ _ (Below.refl _ _) rfl
                    · intro xS W hB hp K hK
                      have hgd : xS 11 = .bool true := hp.1 rfl
                      rw [wanted_g (b := true) rfl (by show (match some (xS 11) with | some (.bool b) => some b | _ => none) = some true; rw [hgd])]
                      rw [if_pos (show (true == true) = true from rfl)]
                      clear hgd
                      clear hp
                      go_simp
                      exact hK _ _ (Below.refl _ _) rfl
                    · intro xS W hB hp K hK
                      have hgd : xS 11 = .bool true := hp.2.2.1 rfl
                      rw [wanted_g (b := true) rfl (by show (match some (xS 11) with | some (.bool b) => some b | _ => none) = some true; rw [hgd])]
                      rw [if_pos (show (true == true) = true from rfl)]
                      clear hgd
                      have h17 : xS 17 = Value.slice (some (⟨g, 0, none⟩ : Addr)) z c6 := hp.1 rfl
                      have h18 : xS 18 = Value.int IntKind.i64 (k : Int) := hp.2.1 rfl
                      clear hp
                      simp only [h17, h18] at hK ⊢
                      clear h17 h18
                      go_simp
                      exact hK _ _ (Below.refl _ _) rfl
                    · intro xS W hB hp K hK
                      have hgd : xS 11 = .bool true := hp.2.1 rfl
                      rw [wanted_g (b := true) rfl (by show (match some (xS 11) with | some (.bool b) => some b | _ => none) = some true; rw [hgd])]
                      rw [if_pos (show (true == true) = true from rfl)]
                      clear hgd
                      have h19 : xS 19 = .pointer (some ⟨g, k * 4, none⟩) := hp.1 rfl
                      clear hp
                      simp only [h19] at hK ⊢
                      clear h19
                      go_simp
                      exact hK _ _ (Below.refl _ _) rfl
                    · intro xS W hB hp K hK
                      have hgd : xS 11 = .bool true := hp.2.1 rfl
                      rw [wanted_g (b := true) rfl (by show (match some (xS 11) with | some (.bool b) => some b | _ => none) = some true; rw [hgd])]
                      rw [if_pos (show (true == true) = true from rfl)]
                      clear hgd
                      have h20 : xS 20 = .pointer (some ⟨g, k * 4 + 2, none⟩) := hp.1 rfl
                      clear hp
                      have hc := (hB.cell (p := ⟨g, k * 4 + 2, none⟩) hgq).trans g2
                      simp only [h20] at hK ⊢
                      clear h20
                      go_simp
                      exact hK _ _ (Below.refl _ _) rfl
                    · intro xS W hB hp K hK
                      have hgd : xS 11 = .bool true := hp.2.2.1 rfl
                      rw [wanted_g (b := true) rfl (by show (match some (xS 11) with | some (.bool b) => some b | _ => none) = some true; rw [hgd])]
                      rw [if_pos (show (true == true) = true from rfl)]
                      clear hgd
                      have h16 : xS 16 = .int .i64 m.e := hp.1 rfl
                      have h21 : xS 21 = .int .i64 q.e := hp.2.1 rfl
                      clear hp
                      simp only [h16, h21] at hK ⊢
                      clear h16 h21
                      go_simp
                      rw [HBE.out]
                      exact hK _ _ (Below.refl _ _) rfl
                    · intro xS W hB hp K hK
                      rw [if_pos (wanted_none rfl _)]
                      have h11 : xS 11 = .bool true := hp.1 rfl
                      have h22 : xS 22 = .bool false := hp.2.1 rfl
                      clear hp
                      simp only [h11, h22] at hK ⊢
                      clear h11 h22
                      go_simp
                      exact hK _ _ (Below.refl _ _) rfl
                    · intro xS W hB hp K hK
                      rw [if_pos (wanted_none rfl _)]
                      have h23 : xS 23 = .bool false := hp.1 rfl
                      clear hp
                      simp only [h23] at hK ⊢
                      clear h23
                      go_simp
                      exact hK _ _ (Below.refl _ _) rfl
                    · intro xS W hB hp K hK
                      have hgd : xS 24 = .bool false := hp.1 rfl
                      rw [wanted_g (b := false) rfl (by show (match some (xS 24) with | some (.bool b) => some b | _ => none) = some false; rw [hgd])]
                      exact hK _ _ (Below.refl _ _) trivial
                    · intro xS W hB hp K hK
                      have hgd : xS 24 = .bool false := hp.1 rfl
                      rw [wanted_g (b := false) rfl (by show (match some (xS 24) with | some (.bool b) => some b | _ => none) = some false; rw [hgd])]
                      exact hK _ _ (Below.refl _ _) trivial
                    · intro xS W hB hp K hK
                      have hgd : xS 24 = .bool false := hp.2.2.1 rfl
                      rw [wanted_g (b := false) rfl (by show (match some (xS 24) with | some (.bool b) => some b | _ => none) = some false; rw [hgd])]
                      exact hK _ _ (Below.refl _ _) trivial
                    · intro xS W hB hp K hK
                      have hgd : xS 24 = .bool false := hp.2.1 rfl
                      rw [wanted_g (b := false) rfl (by show (match some (xS 24) with | some (.bool b) => some b | _ => none) = some false; rw [hgd])]
                      exact hK _ _ (Below.refl _ _) trivial
                    · intro xS W hB hp K hK
                      have hgd : xS 24 = .bool false := hp.2.1 rfl
                      rw [wanted_g (b := false) rfl (by show (match some (xS 24) with | some (.bool b) => some b | _ => none) = some false; rw [hgd])]
                      exact hK _ _ (Below.refl _ _) trivial
                    · intro xS W hB hp K hK
                      have hgd : xS 24 = .bool false := hp.1 rfl
                      rw [wanted_g (b := false) rfl (by show (match some (xS 24) with | some (.bool b) => some b | _ => none) = some false; rw [hgd])]
                      exact hK _ _ (Below.refl _ _) trivial
                    · intro xS W hB hp K hK
                      have hgd : xS 24 = .bool false := hp.1 rfl
                      rw [wanted_g (b := false) rfl (by show (match some (xS 24) with | some (.bool b) => some b | _ => none) = some false; rw [hgd])]
                      exact hK _ _ (Below.refl _ _) trivial
                    · intro xS W hB hp K hK
                      have hgd : xS 24 = .bool false := hp.2.2.1 rfl
                      rw [wanted_g (b := false) rfl (by show (match some (xS 24) with | some (.bool b) => some b | _ => none) = some false; rw [hgd])]
                      exact hK _ _ (Below.refl _ _) trivial
                    · intro xS W hB hp K hK
                      have hgd : xS 24 = .bool false := hp.2.1 rfl
                      rw [wanted_g (b := false) rfl (by show (match some (xS 24) with | some (.bool b) => some b | _ => none) = some false; rw [hgd])]
                      exact hK _ _ (Below.refl _ _) trivial
                    · intro xS W hB hp K hK
                      have hgd : xS 24 = .bool false := hp.2.1 rfl
                      rw [wanted_g (b := false) rfl (by show (match some (xS 24) with | some (.bool b) => some b | _ => none) = some false; rw [hgd])]
                      exact hK _ _ (Below.refl _ _) trivial
                    · intro xS W hB hp K hK
                      have hgd : xS 24 = .bool false := hp.2.2.1 rfl
                      rw [wanted_g (b := false) rfl (by show (match some (xS 24) with | some (.bool b) => some b | _ => none) = some false; rw [hgd])]
                      exact hK _ _ (Below.refl _ _) trivial
                    · intro xS W hB hp K hK
                      rw [if_pos (wanted_none rfl _)]
                      have h24 : xS 24 = .bool false := hp.1 rfl
                      clear hp
                      simp only [h24] at hK ⊢
                      clear h24
                      go_simp
                      exact hK _ _ (Below.refl _ _) rfl
                    intro xS W3 hB3 hs
                    have h36 : xS 36 = .bool false := hs 36 (by simp)
                    clear hs
                    simp only [h36]
                    clear f1 f2 f3 g1 g2 g3
                    go_wp2_with fail
                    have hkk := HKI.out
                    go_roundw
                    case rel => exact ⟨k + 1, by omega, by go_num, hBk.trans (hB3.mono hBk.size)⟩
                    case measure => simp [intOf]; omega
                · have HBE : Hid ((m.p == q.p) = false) := by show (m.p == q.p) = false; simpa using hp
                  clear hap hp
                  go_upto_region 17 with fail
                  refine wp_region_growG (by kernel_rfl) (by kernel_rfl) (fun xS => { tmps := (Value.slice a L.length cap :: undef :: u2 :: Value.pointer (some (⟨w1.heap.size, 0, none⟩ : Addr)) :: Value.int IntKind.i64 (L.length : Int) :: Value.slice (some (⟨g, 0, none⟩ : Addr)) z c6 :: Value.int IntKind.i64 (i : Int) :: Value.int IntKind.i64 (k : Int) :: u8 :: u9 :: u10 :: u11 :: u12 :: Value.slice a L.length cap :: Value.bool false :: Value.pointer (some (⟨w1.heap.size, 0, none⟩ : Addr)) :: Value.pointer (some (⟨w1.heap.size, 0, none⟩ : Addr)) :: Value.bool false :: Value.int IntKind.i64 (L.length : Int) :: Value.slice a L.length cap :: Value.int IntKind.i64 (L.length : Int) :: Value.bool false :: Value.bool false :: undef :: undef :: Value.bool false :: u26 :: u27 :: u28 :: u29 :: u30 :: u31 :: u32 :: u33 :: Value.pointer (some (⟨w1.heap.size, 0, none⟩ : Addr)) :: Value.slice (some (⟨g, 0, none⟩ : Addr)) z c6 :: Value.int IntKind.i64 (i : Int) :: Value.slice (some (⟨g, 0, none⟩ : Addr)) z c6 :: Value.int IntKind.i64 (z : Int) :: Value.bool true :: u40 :: u41 :: Value.int IntKind.i64 (k : Int) :: Value.int IntKind.i64 (i : Int) :: Value.bool true :: u45 :: u46 :: xS 0 :: xS 1 :: xS 2 :: xS 3 :: xS 4 :: xS 5 :: xS 6 :: xS 7 :: xS 8 :: xS 9 :: xS 10 :: xS 11 :: xS 12 :: xS 13 :: xS 14 :: xS 15 :: xS 16 :: xS 17 :: xS 18 :: xS 19 :: xS 20 :: xS 21 :: xS 22 :: xS 23 :: xS 24 :: xS 25 :: xS 26 :: xS 27 :: xS 28 :: xS 29 :: xS 30 :: xS 31 :: xS 32 :: xS 33 :: xS 34 :: xS 35 :: xS 36 :: u84 :: u85 :: u86 :: u87 :: u88 :: u89 :: u90 :: u91 :: u92 :: u93 :: u94 :: u95 :: u96 :: u97 :: u98 :: u99 :: u100 :: u101 :: u102 :: u103 :: u104 :: u105 :: u106 :: u107 :: u108 :: u109 :: u110 :: u111 :: u112 :: u113 :: u114 :: u115 :: u116 :: u117 :: u118 :: u119 :: u120 :: u121 :: u122 :: u123 :: u124 :: u125 :: u126 :: u127 :: u128 :: u129 :: u130 :: u131 :: u132 :: u133 :: u134 :: u135 :: u136 :: undef :: []).toArray, defers := [] })
                    (fun ii xx WW => match ii with | 0 => xx = Value.slice (some (⟨g, 0, none⟩ : Addr)) z c6 | 1 => xx = Value.int IntKind.i64 (i : Int) | 2 => xx = .pointer (some ⟨g, i * 4, none⟩) | 3 => xx = .pointer (some ⟨g, i * 4 + 1, none⟩) | 4 => xx = .int .i64 m.p | 5 => xx = Value.slice (some (⟨g, 0, none⟩ : Addr)) z c6 | 6 => xx = Value.int IntKind.i64 (k : Int) | 7 => xx = .pointer (some ⟨g, k * 4, none⟩) | 8 => xx = .pointer (some ⟨g, k * 4 + 1, none⟩) | 9 => xx = .int .i64 q.p | 10 => xx = .bool false | 11 => xx = .bool false | 23 => xx = .bool false | 24 => xx = .bool false | 36 => xx = .bool false | _ => True) (fun | 0 => u47 | 1 => u48 | 2 => u49 | 3 => u50 | 4 => u51 | 5 => u52 | 6 => u53 | 7 => u54 | 8 => u55 | 9 => u56 | 10 => u57 | 11 => u58 | 12 => u59 | 13 => u60 | 14 => u61 | 15 => u62 | 16 => u63 | 17 => u64 | 18 => u65 | 19 => u66 | 20 => u67 | 21 => u68 | 22 => u69 | 23 => u70 | 24 => u71 | 25 => u72 | 26 => u73 | 27 => u74 | 28 => u75 | 29 => u76 | 30 => u77 | 31 => u78 | 32 => u79 | 33 => u80 | 34 => u81 | 35 => u82 | 36 => u83 | _ => undef) (by repeat (first | exact trivial | refine ⟨fun _ _ => rfl, ?_⟩)) (fun _ _ _ _ _ h => h) ⟨?_, ?_, ?_, ?_, ?_, ?_, ?_, ?_, ?_, ?_, ?_, ?_, ?_, ?_, ?_, ?_, ?_, ?_, ?_, ?_, ?_, ?_, ?_, ?_, ?_, ?_, ?_, ?_, ?_, ?_, ?_, ?_, ?_, ?_, ?_, ?_, ?_, trivial⟩ ?_
                  · intro xS W hB hp K hK
                    rw [if_pos (wanted_none rfl _)]
                    clear hp
                    go_simp
                    exact hK _ _ (Below.refl _ _) rfl
                  · intro xS W hB hp K hK
                    rw [if_pos (wanted_none rfl _)]
                    clear hp
                    go_simp
                    exact hK _ _ (Below.refl _ _) rfl
                  · intro xS W hB hp K hK
                    rw [if_pos (wanted_none rfl _)]
                    have h0 : xS 0 = Value.slice (some (⟨g, 0, none⟩ : Addr)) z c6 := hp.1 rfl
                    have h1 : xS 1 = Value.int IntKind.i64 (i : Int) := hp.2.1 rfl
                    clear hp
                    simp only [h0, h1] at hK ⊢
                    clear h0 h1
                    go_simp
                    exact hK _ _ (Below.refl _ _) rfl
                  · intro xS W hB hp K hK
                    rw [if_pos (wanted_none rfl _)]
                    have h2 : xS 2 = .pointer (some ⟨g, i * 4, none⟩) := hp.1 rfl
                    clear hp
                    simp only [h2] at hK ⊢
                    clear h2
                    go_simp
                    exact hK _ _ (Below.refl _ _) rfl
                  · intro xS W hB hp K hK
                    rw [if_pos (wanted_none rfl _)]
                    have h3 : xS 3 = .pointer (some ⟨g, i * 4 + 1, none⟩) := hp.1 rfl
                    clear hp
                    have hc := (hB.cell (p := ⟨g, i * 4 + 1, none⟩) hgq).trans f1
                    simp only [h3] at hK ⊢
                    clear h3
                    go_simp
                    exact hK _ _ (Below.refl _ _) rfl
                  · intro xS W hB hp K hK
                    rw [if_pos (wanted_none rfl _)]
                    clear hp
                    go_simp
                    exact hK _ _ (Below.refl _ _) rfl
                  · intro xS W hB hp K hK
                    rw [if_pos (wanted_none rfl _)]
                    clear hp
                    go_simp
                    exact hK _ _ (Below.refl _ _) rfl
                  · intro xS W hB hp K hK
                    rw [if_pos (wanted_none rfl _)]
                    have h5 : xS 5 = Value.slice (some (⟨g, 0, none⟩ : Addr)) z c6 := hp.1 rfl
                    have h6 : xS 6 = Value.int IntKind.i64 (k : Int) := hp.2.1 rfl
                    clear hp
                    simp only [h5, h6] at hK ⊢
                    clear h5 h6
                    go_simp
                    exact hK _ _ (Below.refl _ _) rfl
                  · intro xS W hB hp K hK
                    rw [if_pos (wanted_none rfl _)]
                    have h7 : xS 7 = .pointer (some ⟨g, k * 4, none⟩) := hp.1 rfl
                    clear hp
                    simp only [h7] at hK ⊢
                    clear h7
                    go_simp
                    exact hK _ _ (Below.refl _ _) rfl
                  · intro xS W hB hp K hK
                    rw [if_pos (wanted_none rfl _)]
                    have h8 : xS 8 = .pointer (some ⟨g, k * 4 + 1, none⟩) := hp.1 rfl
                    clear hp
                    have hc := (hB.cell (p := ⟨g, k * 4 + 1, none⟩) hgq).trans g1
                    simp only [h8] at hK ⊢
                    clear h8
                    go_simp
                    exact hK _ _ (Below.refl _ _) rfl
                  · intro xS W hB hp K hK
                    rw [if_pos (wanted_none rfl _)]
                    have h4 : xS 4 = .int .i64 m.p := hp.1 rfl
                    have h9 : xS 9 = .int .i64 q.p := hp.2.1 rfl
                    clear hp
                    simp only [h4, h9] at hK ⊢
                    clear h4 h9
                    go_simp
                    rw [HBE.out]
                    exact hK _ _ (Below.refl _ _) rfl
                  · intro xS W hB hp K hK
                    rw [if_pos (wanted_none rfl _)]
                    have h10 : xS 10 = .bool false := hp.1 rfl
                    clear hp
                    simp only [h10] at hK ⊢
                    clear h10
                    go_simp
                    exact hK _ _ (Below.refl _ _) rfl
                  · intro xS W hB hp K hK
                    have hgd : xS 11 = .bool false := hp.1 rfl
                    rw [wanted_g (b := false) rfl (by show (match some (xS 11) with | some (.bool b) => some b | _ => none) = some false; rw [hgd])]
                    exact hK _ _ (Below.refl _ _) trivial
                  · intro xS W hB hp K hK
                    have hgd : xS 11 = .bool false := hp.1 rfl
                    rw [wanted_g (b := false) rfl (by show (match some (xS 11) with | some (.bool b) => some b | _ => none) = some false; rw [hgd])]
                    exact hK _ _ (Below.refl _ _) trivial
                  · intro xS W hB hp K hK
                    have hgd : xS 11 = .bool false := hp.2.2.1 rfl
                    rw [wanted_g (b := false) rfl (by show (match some (xS 11) with | some (.bool b) => some b | _ => none) = some false; rw [hgd])]
                    exact hK _ _ (Below.refl _ _) trivial
                  · intro xS W hB hp K hK
                    have hgd : xS 11 = .bool false := hp.2.1 rfl
                    rw [wanted_g (b := false) rfl (by show (match some (xS 11) with | some (.bool b) => some b | _ => none) = some false; rw [hgd])]
                    exact hK _ _ (Below.refl _ _) trivial
                  · intro xS W hB hp K hK
                    have hgd : xS 11 = .bool false := hp.2.1 rfl
                    rw [wanted_g (b := false) rfl (by show (match some (xS 11) with | some (.bool b) => some b | _ => none) = some false; rw [hgd])]
                    exact hK _ _ (Below.refl _ _) trivial
                  · intro xS W hB hp K hK
                    have hgd : xS 11 = .bool false := hp.1 rfl
                    rw [wanted_g (b := false) rfl (by show (match some (xS 11) with | some (.bool b) => some b | _ => none) = some false; rw [hgd])]
                    exact hK _ _ (Below.refl _ _) trivial
                  · intro xS W hB hp K hK
                    have hgd : xS 11 = .bool false := hp.1 rfl
                    rw [wanted_g (b := false) rfl (by show (match some (xS 11) with | some (.bool b) => some b | _ => none) = some false; rw [hgd])]
                    exact hK _ _ (Below.refl _ _) trivial
                  · intro xS W hB hp K hK
                    have hgd : xS 11 = .bool false := hp.2.2.1 rfl
                    rw [wanted_g (b := false) rfl (by show (match some (xS 11) with | some (.bool b) => some b | _ => none) = some false; rw [hgd])]
                    exact hK _ _ (Below.refl _ _) trivial
                  · intro xS W hB hp K hK
                    have hgd : xS 11 = .bool false := hp.2.1 rfl
                    rw [wanted_g (b := false) rfl (by show (match some (xS 11) with | some (.bool b) => some b | _ => none) = some false; rw [hgd])]
                    exact hK _ _ (Below.refl _ _) trivial
                  · intro xS W hB hp K hK
                    have hgd : xS 11 = .bool false := hp.2.1 rfl
                    rw [wanted_g (b := false) rfl (by show (match some (xS 11) with | some (.bool b) => some b | _ => none) = some false; rw [hgd])]
                    exact hK _ _ (Below.refl _ _) trivial
                  · intro xS W hB hp K hK
                    have hgd : xS 11 = .bool false := hp.2.2.1 rfl
                    rw [wanted_g (b := false) rfl (by show (match some (xS 11) with | some (.bool b) => some b | _ => none) = some false; rw [hgd])]
                    exact hK _ _ (Below.refl _ _) trivial
                  · intro xS W hB hp K hK
                    rw [if_pos (wanted_none rfl _)]
                    have h11 : xS 11 = .bool false := hp.1 rfl
                    clear hp
                    simp only [h11] at hK ⊢
                    clear h11
                    go_simp
                    exact hK _ _ (Below.refl _ _) rfl
                  · intro xS W hB hp K hK
                    rw [if_pos (wanted_none rfl _)]
                    have h23 : xS 23 = .bool false := hp.1 rfl
                    clear hp
                    simp only [h23] at hK ⊢
                    clear h23
                    go_simp
                    exact hK _ _ (Below.refl _ _) rfl
                  · intro xS W hB hp K hK
                    have hgd : xS 24 = .bool false := hp.1 rfl
                    rw [wanted_g (b := false) rfl (by show (match some (xS 24) with | some (.bool b) => some b | _ => none) = some false; rw [hgd])]
                    exact hK _ _ (Below.refl _ _) trivial
                  · intro xS W hB hp K hK
                    have hgd : xS 24 = .bool false := hp.1 rfl
                    rw [wanted_g (b := false) rfl (by show (match some (xS 24) with | some (.bool b) => some b | _ => none) = some false; rw [hgd])]
                    exact hK _ _ (Below.refl _ _) trivial
                  · intro xS W hB hp K hK
                    have hgd : xS 24 = .bool false := hp.2.2.1 rfl
                    rw [wanted_g (b := false) rfl (by show (match some (xS 24) with | some (.bool b) => some b | _ => none) = some false; rw [hgd])]
                    exact hK _ _ (Below.refl _ _) trivial
                  · intro xS W hB hp K hK
                    have hgd : xS 24 = .bool false := hp.2.1 rfl
                    rw [wanted_g (b := false) rfl (by show (match some (xS 24) with | some (.bool b) => some b | _ => none) = some false; rw [hgd])]
                    exact hK _ _ (Below.refl _ _) trivial
                  · intro xS W hB hp K hK
                    have hgd : xS 24 = .bool false := hp.2.1 rfl
                    rw [wanted_g (b := false) rfl (by show (match some (xS 24) with | some (.bool b) => some b | _ => none) = some false; rw [hgd])]
                    exact hK _ _ (Below.refl _ _) trivial
                  · intro xS W hB hp K hK
                    have hgd : xS 24 = .bool false := hp.1 rfl
                    rw [wanted_g (b := false) rfl (by show (match some (xS 24) with | some (.bool b) => some b | _ => none) = some false; rw [hgd])]
                    exact hK _ _ (Below.refl _ _) trivial
                  · intro xS W hB hp K hK
                    have hgd : xS 24 = .bool false := hp.1 rfl
                    rw [wanted_g (b := false) rfl (by show (match some (xS 24) with | some (.bool b) => some b | _ => none) = some false; rw [hgd])]
                    exact hK _ _ (Below.refl _ _) trivial
                  · intro xS W hB hp K hK
                    have hgd : xS 24 = .bool false := hp.2.2.1 rfl
                    rw [wanted_g (b := false) rfl (by show (match some (xS 24) with | some (.bool b) => some b | _ => none) = some false; rw [hgd])]
                    exact hK _ _ (Below.refl _ _) trivial
                  · intro xS W hB hp K hK
                    have hgd : xS 24 = .bool false := hp.2.1 rfl
                    rw [wanted_g (b := false) rfl (by show (match some (xS 24) with | some (.bool b) => some b | _ => none) = some false; rw [hgd])]
                    exact hK _ _ (Below.refl _ _) trivial
                  · intro xS W hB hp K hK
                    have hgd : xS 24 = .bool false := hp.2.1 rfl
                    rw [wanted_g (b := false) rfl (by show (match some (xS 24) with | some (.bool b) => some b | _ => none) = some false; rw [hgd])]
                    exact hK _ _ (Below.refl _ _) trivial
                  · intro xS W hB hp K hK
                    have hgd : xS 24 = .bool false := hp.2.2.1 rfl
                    rw [wanted_g (b := false) rfl (by show (match some (xS 24) with | some (.bool b) => some b | _ => none) = some false; rw [hgd])]
                    exact hK _ _ (Below.refl _ _) trivial
                  · intro xS W hB hp K hK
                    rw [if_pos (wanted_none rfl _)]
                    have h24 : xS 24 = .bool false := hp.1 rfl
                    clear hp
                    simp only [h24] at hK ⊢
                    clear h24
                    go_simp
                    exact hK _ _ (Below.refl _ _) rfl
                  intro xS W3 hB3 hs
                  have h36 : xS 36 = .bool false := hs 36 (by simp)
                  clear hs
                  simp only [h36]
                  clear f1 f2 f3 g1 g2 g3
                  go_wp2_with fail
                  have hkk := HKI.out
                  go_roundw
                  case rel => exact ⟨k + 1, by omega, by go_num, hBk.trans (hB3.mono hBk.size)⟩
                  case measure => simp [intOf]; omega
              · obtain rfl : i = k := by omega
                have hgq : g < wr.heap.size := Nat.lt_of_lt_of_le HGL.out hBw.size
                have hz5 := HX.out.1
                have hi5 : (i : Int) < 50000 := by omega
                have HIZ : Hid (i < z) := hlt
                obtain ⟨j, p, hj1, hj2, hj3⟩ := HK.out.made m (List.mem_of_getElem? HM.out)
                have hat : x.at m.p = some (j, p) := by unfold Co.at; rw [hj1, if_pos (by omega), Int.toNat_natCast, hj2]; rfl
                have HEP : Hid (x.ep m.p = (p.ep, true)) := by show x.ep m.p = (p.ep, true); unfold Co.ep; rw [hat]
                have hCw := HC.out.below hBw
                have hnl : ¬ p.ep < m.e := by omega
                cases hop : p.op with
                | none =>
                  have HOP : Hid (x.opn m.p = (0, [], false)) := by show x.opn m.p = (0, [], false); unfold Co.opn; rw [hat]; dsimp only; rw [hop]
                  clear hat hj1 hj2 hj3 hop hk hki
                  go_upto_region 21 with (first | (go_at_call 13; refine (Epoch_at own _ _ x hCw m.p).mono ?_; rintro e w8 ⟨rfl, rfl⟩; rw [HEP.out]) | (go_at_call 14; refine (Open_at own _ _ x hCw HX.out.2 m.p).mono ?_; rintro e w9 ⟨v9, rfl, hO9, hB9⟩; rw [HOP.out]; have n1 := (hB9.cell (p := ⟨g, i * 4 + 1, none⟩) hgq).trans f1; have n2 := (hB9.cell (p := ⟨g, i * 4 + 2, none⟩) hgq).trans f2; have n3 := (hB9.cell (p := ⟨g, i * 4 + 3, none⟩) hgq).trans f3; have hgq9 := Nat.lt_of_lt_of_le hgq hB9.size; clear f1 f2 f3 hCw hO9))
                  clear n1
                  clear n3
                  set_option maxRecDepth 3000000 in go_wp2_with (first | (refine wanted_do rfl fun _ _ => ?_) | (refine wpList_skip rfl ?_; go_simp))
                  have hiz := HIZ.out
                  go_roundw
                  case rel => exact ⟨i + 1, by omega, by go_num, hBw.trans (hB9.mono hBw.size)⟩
                  case measure => simp [intOf]; omega
                | some y =>
                  obtain ⟨bg, l⟩ := y
                  have HOP : Hid (x.opn m.p = (p.last, partsTo l 4, true)) := by show x.opn m.p = (p.last, partsTo l 4, true); unfold Co.opn; rw [hat]; dsimp only; rw [hop]
                  have hlast : p.last = (p.ends.length : Int) + 1 := last_some (by rw [hop]; rfl)
                  rcases hj3 with hlt2 | ⟨hee, htl⟩
                  · have hne : ¬ m.e = p.ep := by omega
                    clear hat hj1 hj2 hop hk hki hlast hlt2
                    go_upto_region 21 with (first | (go_at_call 13; refine (Epoch_at own _ _ x hCw m.p).mono ?_; rintro e w8 ⟨rfl, rfl⟩; rw [HEP.out]) | (go_at_call 14; refine (Open_at own _ _ x hCw HX.out.2 m.p).mono ?_; rintro e w9 ⟨v9, rfl, hO9, hB9⟩; rw [HOP.out]; have n1 := (hB9.cell (p := ⟨g, i * 4 + 1, none⟩) hgq).trans f1; have n2 := (hB9.cell (p := ⟨g, i * 4 + 2, none⟩) hgq).trans f2; have n3 := (hB9.cell (p := ⟨g, i * 4 + 3, none⟩) hgq).trans f3; have hgq9 := Nat.lt_of_lt_of_le hgq hB9.size; clear f1 f2 f3 hCw hO9))
                    clear n1
                    clear n3
                    set_option maxRecDepth 3000000 in go_wp2_with (first | (refine wanted_do rfl fun _ _ => ?_) | (refine wpList_skip rfl ?_; go_simp))
                    have hiz := HIZ.out
                    go_roundw
                    case rel => exact ⟨i + 1, by omega, by go_num, hBw.trans (hB9.mono hBw.size)⟩
                    case measure => simp [intOf]; omega
                  · have hne : ¬ m.t = p.last := by omega
                    rw [hee] at f2
                    clear hnl hat hj1 hj2 hop hk hki hlast htl hee
                    go_upto_region 21 with (first | (go_at_call 13; refine (Epoch_at own _ _ x hCw m.p).mono ?_; rintro e w8 ⟨rfl, rfl⟩; rw [HEP.out]) | (go_at_call 14; refine (Open_at own _ _ x hCw HX.out.2 m.p).mono ?_; rintro e w9 ⟨v9, rfl, hO9, hB9⟩; rw [HOP.out]; have n1 := (hB9.cell (p := ⟨g, i * 4 + 1, none⟩) hgq).trans f1; have n2 := (hB9.cell (p := ⟨g, i * 4 + 2, none⟩) hgq).trans f2; have n3 := (hB9.cell (p := ⟨g, i * 4 + 3, none⟩) hgq).trans f3; have hgq9 := Nat.lt_of_lt_of_le hgq hB9.size; clear f1 f2 f3 hCw hO9))
                    clear n1
                    set_option maxRecDepth 3000000 in go_wp2_with (first | (refine wanted_do rfl fun _ _ => ?_) | (refine wpList_skip rfl ?_; go_simp))
                    have hiz := HIZ.out
                    go_roundw
                    case rel => exact ⟨i + 1, by omega, by go_num, hBw.trans (hB9.mono hBw.size)⟩
                    case measure => simp [intOf]; omega
          · obtain rfl : i = z := by omega
            go_wp2_with (go_at_call 15; refine (known_at _).mono ?_; rintro e w8 ⟨rfl, hB8⟩)
            go_ret
            exact ⟨rfl, (hT6.trans (hB.mono hT6.size)).trans (hB8.mono (hT6.trans (hB.mono hT6.size)).size)⟩
  · go_wp2_with fail
    go_ret
    exact ⟨rfl, Below.refl _ _⟩
end Go.Proofs.Ytoihfhlelbdboaa
namespace Go.Proofs.Ytoihfhlelbdboaa.coordOnce
open Go.ChangeShapes Go.WideShapes Go.ChangeAt Go.RowKit Go.Dig
open Go.ChangeMaps (open_string shut_string)
set_option linter.unusedVariables false

theorem laidOut : laidOutB Try.prog = true := by kernel_rfl
theorem own : ownKnob Try.prog.godebug = none := by kernel_rfl

set_option maxRecDepth 100000 in
theorem lifted (os : Os) (started : os.Started) (H : Type) (enc : TypeId × Value → H) :
    ReturnsInHanded {} Try.checked os 3 .any (Rows.coordOnceSpec.pre6 enc Try.prog Try.f3 Rows.coordOnceRow.domain false) (Rows.coordOnceSpec.post enc Try.prog Try.f3 false true false false) := by
  refine returnsInHanded_of_change (C := Try.checked) own started (by kernel_rfl) Try.func3
    (ChangeSpec.witness6 (enc := enc) (C := Try.checked) false ⟨#[], #[.slice none 0 0], []⟩ 8 (by kernel_rfl) (by kernel_rfl) (by kernel_rfl) (by kernel_rfl)) ?_
  intro W base args ds gs before hval0 hW hcnd _
  have hval : ∀ (j : Nat) t v, Try.f3.params[j]? = some t → args[j]? = some v → Value.okWide Try.prog W .any base t v := hval0
  have hW' := hW
  obtain ⟨p, q, hA0, hV, rfl, hfz, hnd⟩ := hW
  have hA : DataW.TrodAll enc Try.prog W 0 (fun _ => true) true Try.f3.params.toList args.toList ds p := hA0
  rw [Try.params3] at hA hval
  obtain ⟨v0, vs0, d0, ds0, p0, q0, hargs, rfl, rfl, h0, r0⟩ := trodAll_cons hA
  obtain ⟨rfl, rfl, rfl⟩ := trodAll_nil r0
  obtain rfl : args = #[v0] := by cases args; simp_all
  obtain ⟨rfl, rfl⟩ := trodVars_none hV
  have k0 := h0
  have lt0 : ∀ x ∈ p0, x.block < W.heap.size := by obtain ⟨m, hm⟩ := k0; exact DataW.trod_lt m _ _ _ hm
  obtain ⟨o0, len0, c0, rfl⟩ := okWide_slice Try.underlying22 (hval 0 22 v0 rfl rfl)
  obtain ⟨L0, rfl, l0, y0⟩ : ∃ L : List OpF, len0 = L.length ∧ OpsAt W o0 L ∧ ∀ y ∈ L, y.Wide := by
    obtain ⟨fuel, hf⟩ := h0
    exact ops_cells hf
  clear hA0 hval0
  refine (Once_law W o0 c0 L0 l0 y0).mono fun e W' ⟨he, bel⟩ => ?_
  subst he
  exact ⟨_, rfl, _, _, _, [], _, [], hW', trodAll_mk1 (shut_bool Try.underlying4 _), (trodAll_cons_mk (Below.trod laidOut (by kernel_rfl) (of_decide_eq_true (by kernel_rfl)) k0 bel lt0) trodAll_mk0), rfl, bel.frame _, fun h => by cases h⟩

theorem over : Rows.coordOnceRow.holds Try.pinned (OpenSpec.ofChange Rows.coordOnceSpec) :=
  OpenClaim.holds_of_wide 3 Try.f3 rfl rfl rfl rfl rfl rfl rfl ⟨rfl, rfl, rfl, rfl, rfl⟩ rfl rfl rfl rfl rfl (by kernel_rfl) Try.func3 (by kernel_rfl)
    (of_decide_eq_true (by kernel_rfl)) (by unfold Func.isWrapper; first | (rw [if_pos (by decide +kernel)]; kernel_rfl) | (rw [if_neg (by decide +kernel)]; exact ⟨rfl, rfl⟩))
    (fun os started H enc _ => lifted os started H enc)

theorem proved : Rows.CoordOnceSaid := over
#print axioms proved
end Go.Proofs.Ytoihfhlelbdboaa.coordOnce
