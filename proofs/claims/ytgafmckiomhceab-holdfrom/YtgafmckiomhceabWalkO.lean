/- HoldFrom's walk: for every row of up to 100 keys and every key to begin at. -/
import Derived.Test.YtgafmckiomhceabWalkM
namespace Go.Proofs.Ytgafmckiomhceab
open Go.RowKit Go.Hold Go.Inv Go.Shelf Go.Deep
set_option linter.unusedVariables false

/-- what is left when each of the first j keys was set to its place -/
def setsN (xs : List Int) : Nat → List (Int × Int)
  | 0 => []
  | j + 1 => insL (xs.getD j 0) (j : Int) (setsN xs j)
theorem setsN_len (xs : List Int) : ∀ j, (setsN xs j).length ≤ j
  | 0 => Nat.le_refl _
  | j + 1 => by
    have h1 := setsN_len xs j
    have h2 := length_insL (xs.getD j 0) (j : Int) (setsN xs j)
    simp only [setsN]
    omega

/-- v is a slice of these numbers, as it came in -/
def SlF (W : World) (v : Value) (xs : List Int) : Prop := ∃ a cap, v = .slice a xs.length cap ∧ ∀ i x, xs[i]? = some x → ∃ g off, a = some ⟨g, off, none⟩ ∧ W.cell? ⟨g, off + i, none⟩ = some (.int .i64 x)
/-- a slice of numbers that came in -/
theorem open_sl {H : Type} {enc : TypeId × Value → H} {W : World} {base : Nat} {spare : Nat → Bool} {held : Bool} {fuel : Nat} {a : Option Addr} {len cap : Nat} {x : DataW H × List MemPlace} (h : DataW.trod enc Try.prog W base spare held fuel 22 (Value.slice a len cap).cells.toList = some x) :
    ∃ xs, SlF W (.slice a len cap) xs ∧ (∀ y ∈ xs, -9223372036854775808 ≤ y) ∧ xs.length ≤ maxLen := by
  rcases ChangeShapes.open_ints Try.underlying22 Try.underlying3 (by kernel_rfl) h with ⟨hcs, _⟩ | ⟨b, l, c, zs, hcs, _, hl, hm, hz, _, hcell, hwz⟩
  · simp [Value.cells] at hcs
    obtain ⟨rfl, rfl, rfl⟩ := hcs
    exact ⟨[], ⟨none, 0, rfl, fun i x hx => by simp at hx⟩, fun y hy => (by cases hy), Nat.zero_le _⟩
  · simp [Value.cells] at hcs
    obtain ⟨rfl, rfl, rfl⟩ := hcs
    have hz' : len ≤ zs.length := by rw [hz]; split <;> omega
    have hlen : (zs.take len).length = len := by simp; omega
    refine ⟨zs.take len, ⟨some b, cap, by rw [hlen], fun i y hy => ?_⟩, fun y hy => (bounds_i64 (hwz y (List.mem_of_mem_take hy))).1, by rw [hlen]; omega⟩
    have hi : i < len := by
      rw [← hlen]; exact (List.getElem?_eq_some_iff.mp hy).1
    have hc := hcell i (by omega)
    obtain ⟨g, off, sp⟩ := b
    have hs : sp = none := by
      have := spot_none (hcell 0 (by omega))
      simpa [Addr.add] using this
    subst hs
    rw [Addr.add_lit] at hc
    rw [List.getElem?_take_of_lt hi] at hy
    refine ⟨g, off, rfl, ?_⟩
    rw [hc, List.getD_eq_getElem?_getD, hy]
    rfl

set_option maxRecDepth 100000 in
set_option maxHeartbeats 4000000 in
theorem holdFrom_any (v : Value) (xs : List Int) (fr : Int) (w : World) (hs : SlF w v xs) (hlo : ∀ y ∈ xs, -9223372036854775808 ≤ y) (hn : xs.length ≤ 9223372036854775807) :
    Calls Try.prog 3 #[v, .int .i64 fr] w fun e w' => e = .returned (.bool true) ∧ Below w.heap.size w w' := by
  obtain ⟨av, cv, rfl, hc⟩ := hs
  have HC : Hid (∀ i x, xs[i]? = some x → ∃ g off, av = some ⟨g, off, none⟩ ∧ w.cell? ⟨g, off + i, none⟩ = some (.int .i64 x)) := hc
  have HL : Hid (∀ y ∈ xs, -9223372036854775808 ≤ y) := hlo
  clear hc hlo
  by_cases hbig : 100 < xs.length
  · go_enter Try.func3, Try.ntmps3
    go_wp2
    go_ret
    exact ⟨rfl, Below.refl _ _⟩
  · go_enter Try.func3, Try.ntmps3
    go_wp2_with fail
    refine (New_any w).mono ?_
    rintro e w1 ⟨rfl, hT1, hB1⟩
    have hbt := hT1.lt
    have hR1 := Ref.new w1
    have hB2 : Below w1.heap.size w1 (w1.alloc (.cells #[.slice none 0 0, .slice none 0 0] 27)) := (Below.refl _ _).alloc (Nat.le_refl _) _
    have hT2 := hT1.grow hB2
    have hB3 : Below w.heap.size w (w1.alloc (.cells #[.slice none 0 0, .slice none 0 0] 27)) := hB1.trans (hB2.mono hB1.size)
    have hs1 : w.heap.size ≤ w1.heap.size := hB1.size
    have hne : w.heap.size ≠ w1.heap.size := by omega
    go_wp2
    go_loopw [7] (fun i wr => ∃ j : Nat, i = .int .i64 j ∧ j ≤ xs.length ∧ Tab wr w.heap.size (setsN xs j) ∧ Ref wr w1.heap.size (setsN xs j) ∧ Below w.heap.size w wr) (fun i _ => xs.length - (intOf i).toNat)
    case atStart => exact ⟨0, rfl, Nat.zero_le _, hT2, hR1, hB3⟩
    case round =>
      obtain ⟨j, rfl, hjl, hT, hR, hB⟩ := hrel
      clear hT1 hT2 hR1 hB2 hB3 hB1
      have hpl := setsN_len xs j
      by_cases hgo : j < xs.length
      · obtain ⟨x, hx⟩ : ∃ x, xs[j]? = some x := ⟨xs[j], List.getElem?_eq_getElem hgo⟩
        have HP : Hid (setsN xs (j + 1) = insL x (j : Int) (setsN xs j)) := by show setsN xs (j + 1) = _; simp only [setsN, List.getD_eq_getElem?_getD, hx]; rfl
        obtain ⟨g, off, rfl, d0⟩ := HC.out j x hx
        have hxl := HL.out x (List.mem_of_getElem? hx)
        have hgl := block_lt_of_cell d0
        have hgl2 : g < w.heap.size := hgl
        have c0 : wr.cell? ⟨g, off + j, none⟩ = some (.int .i64 x) := (hB.cell (p := ⟨g, off + j, none⟩) hgl).trans d0
        obtain ⟨l, hl⟩ : ∃ l, setsN xs j = l := ⟨_, rfl⟩
        rw [hl] at hT hR hpl HP
        clear hx hl d0
        have hbr := hT.lt
        go_wp2_with fail
        refine (Set_any w.heap.size l x j wr hT (by unfold big; omega) hxl).mono ?_
        rintro e w2 ⟨⟨y, rfl⟩, hT2, hF2⟩
        have hR2 : Ref w2 w1.heap.size l := hR.frm hF2 (fun e => hne e.symm) (fun j hj => by cases hj; exact hT.notNum)
        have hB2 : Below w.heap.size w w2 := hB.trans (hF2.below hB.size (fun k hk hS => by omega))
        have c1 : w2.cell? ⟨g, off + j, none⟩ = some (.int .i64 x) := (World.cell?_of_block (hF2.block g (by omega) (by omega))).trans c0
        clear hR c0 hB
        go_wp2_with fail
        refine (rSet_any w1.heap.size l x j w2 hR2 (by omega)).mono ?_
        rintro e w3 ⟨⟨y', rfl⟩, hR3, hF3⟩
        have hT3 : Tab w3 w.heap.size (insL x j l) := hT2.frm hF3 hne (fun j hj => by cases hj; exact hR2.cell4)
        have hB3 : Below w.heap.size w w3 := hB2.trans (hF3.below hB2.size (fun k hk hS => by omega))
        clear hR2 hT2 hF2 hF3 hT c1 hB2
        go_wp2
        go_roundw
        case rel => exact ⟨j + 1, by go_num, by omega, by rw [HP.out]; exact hT3, by rw [HP.out]; exact hR3, hB3⟩
        case measure => simp [intOf]; omega
      · obtain ⟨l, hl⟩ : ∃ l, setsN xs j = l := ⟨_, rfl⟩
        rw [hl] at hT hR hpl
        clear hl
        have hll : l.length ≤ 100 := by omega
        have hrise := hT.rises
        have HF : Hid (fromL (-9223372036854775808) l = l) := fromL_lo hT.lo
        have hfl : (fromL fr l).length ≤ 100 := Nat.le_trans (List.length_filter_le _ _) hll
        have HT : Hid (l.take (1000 : Int).toNat = l ∧ (fromL fr l).take (1000 : Int).toNat = fromL fr l) := ⟨List.take_of_length_le (by show _ ≤ 1000; omega), List.take_of_length_le (by show _ ≤ 1000; omega)⟩
        have HK : Hid (keysL (fromL fr l) = (keysL l).drop (posL fr l)) := by show _ = _; rw [fromL_pos hrise]; simp [keysL, List.map_drop]
        have HV : Hid (valsL (fromL fr l) = (valsL l).drop (posL fr l)) := by show _ = _; rw [fromL_pos hrise]; simp [valsL, List.map_drop]
        have hple := posL_le fr l
        have hlk : (keysL l).length = l.length := by simp [keysL]
        have hlv : (valsL l).length = l.length := by simp [valsL]
        have HLK : Hid (posL fr l ≤ (keysL l).length ∧ (keysL l).length ≤ 1000000) := ⟨by omega, by omega⟩
        have HLV : Hid (posL fr l ≤ (valsL l).length ∧ (valsL l).length ≤ 1000000) := ⟨by omega, by omega⟩
        have HL9 : Hid (((keysL l).drop (posL fr l)).length ≤ 1000000 ∧ ((valsL l).drop (posL fr l)).length ≤ 1000000) := ⟨by simp; omega, by simp; omega⟩
        clear HC HL hpl hfl hlk hlv hple
        go_wp2_with fail
        refine (From_any (some ⟨w.heap.size, 0, none⟩) fr wr).mono ?_
        rintro e w2 ⟨rfl, rfl⟩
        go_wp2_with fail
        refine (toldSl_any (some ⟨w.heap.size, 0, none⟩) l fr 1000 wr (.inr ⟨_, rfl, hT⟩) (by omega) (by decide) (by decide)).mono ?_
        rw [HT.out.2, HK.out, HV.out]
        rintro e w3 ⟨vk, vv, rfl, hrk, hrv, hB3⟩
        have hT3 := hT.grow hB3
        have hR3 := hR.grow hB3
        have hB4 := hB.trans (hB3.mono hB.size)
        clear hT hR hB hB3
        go_wp2_with fail
        refine (rFrom_any w1.heap.size l fr w3 hR3 (by omega)).mono ?_
        rintro e w4 ⟨rfl, m, hw4⟩
        have hB5 := dn (Below.refl w3.heap.size w3) m
        rw [← hw4] at hB5
        have hT4 := hT3.grow hB5
        have hR4 := hR3.grow hB5
        have hrk4 := hrk.grow hB5
        have hrv4 := hrv.grow hB5
        have hB6 := hB4.trans (hB5.mono hB4.size)
        clear hT3 hR3 hrk hrv hB5 hw4 hB4
        generalize posL fr l = P at *
        go_wp2_with fail
        refine (All_any (some ⟨w.heap.size, 0, none⟩) w4).mono ?_
        rintro e w2 ⟨rfl, rfl⟩
        go_wp2_with fail
        refine (toldSl_any (some ⟨w.heap.size, 0, none⟩) l _ 1000 w4 (.inr ⟨_, rfl, hT4⟩) (by omega) (by decide) (by decide)).mono ?_
        rw [HF.out, HT.out.1]
        rintro e w5 ⟨va, vb, rfl, hra, hrb, hB7⟩
        obtain ⟨ak, ck, av', cv', hb, hsk, hsv⟩ := (hR4.grow hB7).open
        obtain ⟨c0, c1, _, _⟩ := two_cells hb
        have hrk5 := hrk4.grow hB7
        have hrv5 := hrv4.grow hB7
        have hB8 := hB6.trans (hB7.mono hB6.size)
        clear hT4 hR4 hrk4 hrv4 hrb hB7 hB6
        go_wp2_with (first | (refine wpList_from rfl _ _ rfl (.slice ak l.length ck) (keysL l) P rfl rfl hsk HLK.out.1 HLK.out.2 ?_; intro s1 hs1) | (go_at_call_of 11 (vk); refine (rows_any vk s1 _ _ w5 hrk5 hs1 HL9.out.1).mono ?_; rintro e w6 ⟨rfl, m6, rfl⟩; have hsv6 := hsv.grow (dn (Below.refl _ _) m6); have hrv6 := hrv5.grow (dn (Below.refl _ _) m6); rw [decide_eq_true rfl]; clear hs1 hrk5) | (refine wpList_from rfl _ _ rfl (.slice av' l.length cv') (valsL l) P rfl rfl hsv6 HLV.out.1 HLV.out.2 ?_; intro s2 hs2) | (go_at_call_of 11 (vv); refine (rows_any vv s2 _ _ _ hrv6 hs2 HL9.out.2).mono ?_; rintro e w7 ⟨rfl, m7, rfl⟩; have hsk7 := hsk.grow (dn (Below.refl _ _) (m6 + m7)); have hra7 := hra.grow (dn (Below.refl _ _) (m6 + m7)); rw [decide_eq_true rfl]; clear hs2) | (go_at_call_of 11 (va); refine (rows_any va _ _ _ _ hra7 hsk7 HLK.out.2).mono ?_; rintro e w8 ⟨rfl, m8, rfl⟩; rw [decide_eq_true rfl]) | (go_at_call 12; refine (known_any _).mono ?_; rintro e w9 ⟨rfl, hB9⟩))
        go_ret
        have hB10 := dn hB8 (m6 + m7 + m8)
        exact ⟨rfl, hB10.trans (hB9.mono hB10.size)⟩

end Go.Proofs.Ytgafmckiomhceab
