/- Scripts of acts: how they lie in memory, what is left of both tables behind them. -/
import Derived.Test.YtgafmckiomhceaaWalkL
import Derived.Deep.Slices
import Derived.Deep.Strs
import Derived.OpenShut
namespace Go.Proofs.Ytgafmckiomhceaa
open Go.RowKit Go.Hold Go.Inv Go.Shelf Go.Deep
set_option linter.unusedVariables false

/-- v is a slice of these acts -/
def Acts (W : World) (v : Value) (az : List (Int × Int × Int)) : Prop := ∃ av cv, v = .slice av az.length cv ∧ ∀ i x, az[i]? = some x → ∃ g off, av = some ⟨g, off, none⟩ ∧ W.cell? ⟨g, off + i * 3, none⟩ = some (.int .i64 x.1) ∧ W.cell? ⟨g, off + i * 3 + 1, none⟩ = some (.int .i64 x.2.1) ∧ W.cell? ⟨g, off + i * 3 + 2, none⟩ = some (.int .i64 x.2.2) ∧ -9223372036854775808 ≤ x.2.1
theorem Acts.below {A B : World} {n : Nat} {v : Value} {az : List (Int × Int × Int)} (h : Acts A v az) (hn : A.heap.size ≤ n) (hB : Below n A B) : Acts B v az := by
  obtain ⟨av, cv, hv, hc⟩ := h
  refine ⟨av, cv, hv, fun i x hx => ?_⟩
  obtain ⟨g, off, ha, c0, c1, c2, hr⟩ := hc i x hx
  have hl : g < n := Nat.lt_of_lt_of_le (block_lt_of_cell c0) hn
  exact ⟨g, off, ha, (hB.cell (p := ⟨g, _, none⟩) hl).trans c0, (hB.cell (p := ⟨g, _, none⟩) hl).trans c1, (hB.cell (p := ⟨g, _, none⟩) hl).trans c2, hr⟩

theorem cellsAct : Try.prog.cellsOf 31 = 3 := by kernel_rfl
theorem cellsInt : Try.prog.cellsOf 3 = 1 := by kernel_rfl
theorem spot_none {W : World} {a : Addr} {v : Value} (h : W.cell? a = some v) : a.spot = none := by
  cases hs : a.spot with
  | none => rfl
  | some z =>
    simp [World.cell?, hs] at h
    split at h <;> cases h

theorem open_acts {H : Type} {enc : TypeId × Value → H} {W : World} {base : Nat} {spare : Nat → Bool} {held : Bool} {fuel : Nat} {cs : List Value} {x : DataW H × List MemPlace} (h : DataW.trod enc Try.prog W base spare held fuel 22 cs = some x) :
    ∃ v az, cs = [v] ∧ Acts W v az ∧ az.length ≤ maxLen := by
  rcases open_slice Try.underlying22 h with ⟨rfl, _⟩ | ⟨a, len, cap, m, n, D, Pl, rfl, _, hl, hm, hmm, _, hx⟩
  · exact ⟨_, [], rfl, ⟨none, 0, rfl, fun i x hx => by simp at hx⟩, Nat.zero_le _⟩
  · have hlm : len ≤ m := by rw [hmm]; split <;> omega
    have each : ∀ i, i < len → ∃ q : Int × Int × Int, W.cell? (a.add (i * 3)) = some (.int .i64 q.1) ∧ W.cell? (a.add (i * 3 + 1)) = some (.int .i64 q.2.1) ∧ W.cell? (a.add (i * 3 + 2)) = some (.int .i64 q.2.2) ∧ -9223372036854775808 ≤ q.2.1 := by
      intro i hi
      obtain ⟨cs', h1, h2⟩ := hx i (by omega)
      rw [cellsAct] at h1
      obtain ⟨_, hlen, hcell⟩ := World.cells?_some h1
      obtain ⟨y0, y1, y2, k, _, _, g0, g1, g2⟩ := trod_struct3 Try.underlying31 h2
      match cs', hlen with
      | [v0, v1, v2], _ =>
        simp [cellsInt] at g0 g1 g2
        obtain ⟨z0, e0, _, w0⟩ := DataW.trod_int Try.underlying3 g0
        obtain ⟨z1, e1, _, w1⟩ := DataW.trod_int Try.underlying3 g1
        obtain ⟨z2, e2, _, w2⟩ := DataW.trod_int Try.underlying3 g2
        have c0 := hcell 0 (by omega)
        have c1 := hcell 1 (by omega)
        have c2 := hcell 2 (by omega)
        rw [add_add] at c0 c1 c2
        simp at e0 e1 e2
        subst e0 e1 e2
        refine ⟨(z0, z1, z2), by simpa using c0, by simpa using c1, by simpa using c2, ?_⟩
        have := bounds_i64 w1
        exact this.1
    obtain ⟨q, hq⟩ := choose_lt each
    refine ⟨_, (List.range len).map q, rfl, ⟨some a, cap, by simp, fun i x hx => ?_⟩, by simpa using Nat.le_trans hl hm⟩
    rw [List.getElem?_map] at hx
    by_cases hi : i < len
    · rw [List.getElem?_range hi] at hx
      obtain rfl : q i = x := by simpa using hx
      obtain ⟨c0, c1, c2, hr⟩ := hq i hi
      have hs : a.spot = none := by
        have := spot_none (hq 0 (by omega)).1
        simpa [Addr.add] using this
      obtain ⟨g, off, sp⟩ := a
      simp at hs
      subst hs
      rw [Addr.add_lit] at c0 c1 c2
      exact ⟨g, off, rfl, c0, by rw [← Nat.add_assoc] at c1; exact c1, by rw [← Nat.add_assoc] at c2; exact c2, hr⟩
    · rw [List.getElem?_eq_none (by simpa using hi)] at hx; cases hx

/-- what is left behind the first j acts -/
def plays : List (Int × Int × Int) → List (Int × Int) → List (Int × Int)
  | [], l => l
  | x :: r, l => plays r (stepL x.1 x.2.1 x.2.2 l)
theorem plays_snoc (az : List (Int × Int × Int)) (x : Int × Int × Int) : ∀ l, plays (az ++ [x]) l = stepL x.1 x.2.1 x.2.2 (plays az l) := by
  induction az with
  | nil => intro l; rfl
  | cons a az ih => intro l; exact ih _
theorem plays_len : ∀ (az : List (Int × Int × Int)) (l : List (Int × Int)), (plays az l).length ≤ l.length + az.length
  | [], l => by simp [plays]
  | x :: r, l => by
    have h1 := plays_len r (stepL x.1 x.2.1 x.2.2 l)
    have h2 := stepL_len x.1 x.2.1 x.2.2 l
    simp only [plays, List.length_cons]
    omega
theorem plays_take {az : List (Int × Int × Int)} {j : Nat} {x : Int × Int × Int} (hx : az[j]? = some x) : plays (az.take (j + 1)) [] = stepL x.1 x.2.1 x.2.2 (plays (az.take j) []) := by
  rw [List.take_add_one, hx]
  exact plays_snoc _ _ _
theorem plays_take_len (az : List (Int × Int × Int)) (j : Nat) : (plays (az.take j) []).length ≤ j := by
  have := plays_len (az.take j) []
  have h2 : (az.take j).length ≤ j := List.length_take_le _ _
  simp at this
  omega

/-- a new reference -/
theorem Ref.new (W : World) : Ref (W.alloc (.cells #[.slice none 0 0, .slice none 0 0] 28)) W.heap.size [] := ⟨_, _, World.alloc_heap_new W _, .inl ⟨rfl, rfl⟩, .inl ⟨rfl, rfl⟩⟩

/-- s[:n] of numbers -/
theorem wpList_to {w : World} {ops : Array Oper} {rest : List Oper} {o : Oper} {a : Act} {Q : Exit → Act → World → Prop} (hw : Region.wanted o (yielded ops a.tmps) = true) (s x : Operand) (hop : o.op = Op.slice 26 s none (some x) none)
    (v : Value) (A : List Int) (pI : Int) (hs : a.eval s = v) (hx : a.eval x = .int .i64 pI) (hv : Sl w v A) (h0 : 0 ≤ pI) (hpA : pI ≤ (A.length : Int)) (h : ∀ v', Sl w v' (A.take pI.toNat) → wpList Try.prog ops Q rest (a.put o.dst v') w) : wpList Try.prog ops Q (o :: rest) a w := by
  obtain ⟨p, rfl⟩ := Int.eq_ofNat_of_zero_le h0
  have hp : p ≤ A.length := by omega
  rw [Int.toNat_natCast] at h
  refine wanted_step hw fun K hK => ?_
  rcases hv.take with ⟨e, hA0⟩ | ⟨g, off, cap, e, hcap, ht, hd⟩
  · obtain rfl : p = 0 := by rw [hA0] at hp; simpa using hp
    have h' := h (.slice none 0 0) (.inl ⟨rfl, by rw [hA0]; simp⟩)
    unfold Oper.wp execOp
    simp only [hop, hs, Option.map_some, hx, e]
    go_simp
    exact hK _ _ h'
  · have h' := h _ (ht p hp)
    have hpc : p ≤ cap := by omega
    unfold Oper.wp execOp
    simp only [hop, hs, Option.map_some, hx, e]
    go_simp
    exact hK _ _ h'

/-- told(t.From(f), most), behind From, as slices of numbers -/
theorem toldSl_any (p : Option Addr) (ls : List (Int × Int)) (f most : Int) (w : World) (hTab : TabP w p ls) (hL : ls.length ≤ 100000) (hm : 0 ≤ most) (hm2 : most < 4611686018427387904) :
    Calls Try.prog 14 #[.func (.func 38) #[] #[.pointer (some ⟨w.heap.size, 0, none⟩), .pointer (some ⟨w.heap.size + 1, 0, none⟩)], .int .i64 most] ((w.alloc (.cells #[.pointer p] 23)).alloc (.cells #[.int .i64 f] 3)) fun e w' => ∃ vk vv, e = .returned (.tuple #[vk, vv]) ∧
      Sl w' vk (keysL ((fromL f ls).take most.toNat)) ∧ Sl w' vv (valsL ((fromL f ls).take most.toNat)) ∧ Below w.heap.size w w' := by
  by_cases h0 : most = 0
  · subst h0
    have hB := two_new w (.cells #[.pointer p] 23) (.cells #[.int .i64 f] 3)
    refine (told_zero _ _ 0 _ (by omega)).mono ?_
    rintro e w' ⟨rfl, h3⟩
    exact ⟨_, _, rfl, .inl ⟨rfl, rfl⟩, .inl ⟨rfl, rfl⟩, hB.trans (h3.mono hB.size)⟩
  · refine (toldFrom_any p ls f most w hTab hL (by omega) hm2).mono ?_
    rintro e w' ⟨vk, vv, rfl, h1, h2, h3⟩
    rw [ints1_eq] at h1
    rw [ints2_eq] at h2
    refine ⟨vk, vv, rfl, Sl.of_row (b := w.heap.size) (e := 3) ?_, Sl.of_row (b := w.heap.size) (e := 3) ?_, h3⟩
    · rw [show (keysL ((fromL f ls).take most.toNat)).length = ((fromL f ls).take most.toNat).length by simp only [keysL, List.length_map]]; exact h1
    · rw [show (valsL ((fromL f ls).take most.toNat)).length = ((fromL f ls).take most.toNat).length by simp only [valsL, List.length_map]]; exact h2
theorem Ref.open {W : World} {rt : Nat} {l : List (Int × Int)} (h : Ref W rt l) : ∃ ak ck av cv, W.heap[rt]? = some (.cells #[.slice ak l.length ck, .slice av l.length cv] 28 (0, 0)) ∧ Sl W (.slice ak l.length ck) (keysL l) ∧ Sl W (.slice av l.length cv) (valsL l) := by
  obtain ⟨vk, vv, hb, hk, hv⟩ := h
  obtain ⟨ak, ck, rfl, _⟩ := hk.form
  obtain ⟨av, cv, rfl, _⟩ := hv.form
  have e1 : (keysL l).length = l.length := by simp [keysL]
  have e2 : (valsL l).length = l.length := by simp [valsL]
  rw [e1] at hk
  rw [e2] at hv
  rw [e1, e2] at hb
  exact ⟨ak, ck, av, cv, hb, hk, hv⟩

set_option maxRecDepth 100000 in
set_option maxHeartbeats 4000000 in
theorem stops_any (v : Value) (az : List (Int × Int × Int)) (most : Int) (w : World) (ha : Acts w v az) (hn : az.length ≤ 9223372036854775807) (hm : -9223372036854775808 ≤ most ∧ most ≤ 9223372036854775807) :
    Calls Try.prog 4 #[v, .int .i64 most] w fun e w' => e = .returned (.bool true) ∧ Below w.heap.size w w' := by
  have hacts := ha
  obtain ⟨av, cv, rfl, hc⟩ := ha
  have HC : Hid (∀ i x, az[i]? = some x → ∃ g off, av = some ⟨g, off, none⟩ ∧ w.cell? ⟨g, off + i * 3, none⟩ = some (.int .i64 x.1) ∧ w.cell? ⟨g, off + i * 3 + 1, none⟩ = some (.int .i64 x.2.1) ∧ w.cell? ⟨g, off + i * 3 + 2, none⟩ = some (.int .i64 x.2.2) ∧ -9223372036854775808 ≤ x.2.1) := hc
  clear hc hacts
  by_cases hout : most < 0 ∨ 200 < most
  · rcases hout with h | h
    · go_enter Try.func4, Try.ntmps4
      go_wp2
      go_ret
      exact ⟨rfl, Below.refl _ _⟩
    · have h' : ¬ most < 0 := by omega
      go_enter Try.func4, Try.ntmps4
      go_wp2
      go_ret
      exact ⟨rfl, Below.refl _ _⟩
  · have hm0 : 0 ≤ most := by omega
    have hm1 : most ≤ 200 := by omega
    clear hout hm
    go_enter Try.func4, Try.ntmps4
    go_wp2_with fail
    refine (New_any w).mono ?_
    rintro e w1 ⟨rfl, hT1, hB1⟩
    have hbt := hT1.lt
    have hR1 := Ref.new w1
    have hB2 : Below w1.heap.size w1 (w1.alloc (.cells #[.slice none 0 0, .slice none 0 0] 28)) := (Below.refl _ _).alloc (Nat.le_refl _) _
    have hT2 := hT1.grow hB2
    have hB3 : Below w.heap.size w (w1.alloc (.cells #[.slice none 0 0, .slice none 0 0] 28)) := hB1.trans (hB2.mono hB1.size)
    have hs1 : w.heap.size ≤ w1.heap.size := hB1.size
    go_wp2
    go_loopw [7] (fun i wr => ∃ j : Nat, i = .int .i64 j ∧ j ≤ az.length ∧ j ≤ 150 ∧ Tab wr w.heap.size (plays (az.take j) []) ∧ Ref wr w1.heap.size (plays (az.take j) []) ∧ Below w.heap.size w wr) (fun i _ => 150 - (intOf i).toNat)
    case atStart => exact ⟨0, rfl, Nat.zero_le _, Nat.zero_le _, hT2, hR1, hB3⟩
    case round =>
      obtain ⟨j, rfl, hjl, hj, hT, hR, hB⟩ := hrel
      clear hT1 hT2 hR1 hB2 hB3 hB1
      have hpl := plays_take_len az j
      by_cases hgo : j < az.length ∧ j < 150
      · obtain ⟨hg1, hg2⟩ := hgo
        obtain ⟨x, hx⟩ : ∃ x, az[j]? = some x := ⟨az[j], List.getElem?_eq_getElem hg1⟩
        have HP : Hid (plays (az.take (j + 1)) [] = stepL x.1 x.2.1 x.2.2 (plays (az.take j) [])) := plays_take hx
        obtain ⟨g, off, rfl, c0, c1, c2, hr⟩ := HC.out j x hx
        have hgl := block_lt_of_cell c0
        replace c0 := (hB.cell (p := ⟨g, off + j * 3, none⟩) hgl).trans c0
        replace c1 := (hB.cell (p := ⟨g, off + j * 3 + 1, none⟩) hgl).trans c1
        replace c2 := (hB.cell (p := ⟨g, off + j * 3 + 2, none⟩) hgl).trans c2
        clear hx
        go_wp2_with fail
        refine (act_any w.heap.size w1.heap.size _ x.1 x.2.1 x.2.2 wr hT hR (by omega) (by omega) hr).mono ?_
        rintro e w2 ⟨rfl, hT2, hR2, hF2⟩
        have hB2 : Below w.heap.size w w2 := hB.trans (hF2.below hB.size (fun k hk hS => by omega))
        clear hT hR hF2
        go_wp2
        go_roundw
        case rel => exact ⟨j + 1, by go_num, by omega, by omega, by rw [HP.out]; exact hT2, by rw [HP.out]; exact hR2, hB2⟩
        case measure => simp [intOf]; omega
      · have hend : (j < az.length ∧ ¬ j < 150) ∨ ¬ j < az.length := by omega
        clear hgo hjl
        obtain ⟨l, hl⟩ : ∃ l, plays (az.take j) [] = l := ⟨_, rfl⟩
        rw [hl] at hT hR hpl
        clear hl
        have hll : l.length ≤ 150 := by omega
        have HF : Hid (fromL (-9223372036854775808) l = l) := fromL_lo hT.lo
        have hlk : (keysL l).length = l.length := by simp [keysL]
        have hlv : (valsL l).length = l.length := by simp [valsL]
        have hlk2 : l.length ≤ (keysL l).length ∧ l.length ≤ (valsL l).length := ⟨by omega, by omega⟩
        have HL9 : Hid (∀ n, ((keysL l).take n).length ≤ 1000000 ∧ ((valsL l).take n).length ≤ 1000000) := fun n => ⟨by simp; omega, by simp; omega⟩
        have HK : Hid (keysL (l.take most.toNat) = (keysL l).take most.toNat ∧ valsL (l.take most.toNat) = (valsL l).take most.toNat) := by
          constructor
          · unfold keysL; rw [List.map_take]
          · unfold valsL; rw [List.map_take]
        have HM : Hid (¬ most ≤ (l.length : Int) → (keysL l).take most.toNat = (keysL l).take (l.length : Int).toNat ∧ (valsL l).take most.toNat = (valsL l).take (l.length : Int).toNat) := fun h => by
          rw [List.take_of_length_le (by omega), List.take_of_length_le (by omega), List.take_of_length_le (by omega), List.take_of_length_le (by omega)]
          exact ⟨rfl, rfl⟩
        clear HC hpl hlk hlv hj
        rcases hend with ⟨h1, h2⟩ | h1
        all_goals
          by_cases hle : most ≤ (l.length : Int)
          all_goals
            go_wp2_with fail
            refine (All_any (some ⟨w.heap.size, 0, none⟩) wr).mono ?_
            rintro e w2 ⟨rfl, rfl⟩
            go_wp2_with fail
            refine (toldSl_any (some ⟨w.heap.size, 0, none⟩) l _ most wr (.inr ⟨_, rfl, hT⟩) (by omega) hm0 (by omega)).mono ?_
            rw [HF.out, HK.out.1, HK.out.2]
            first | rw [(HM.out hle).1, (HM.out hle).2] | skip
            rintro e w3 ⟨vk, vv, rfl, hrk, hrv, hB3⟩
            obtain ⟨ak, ck, av', cv', hb, hsk, hsv⟩ := (hR.grow hB3).open
            obtain ⟨c0, c1, _, _⟩ := two_cells hb
            have hB4 := hB.trans (hB3.mono hB.size)
            clear hT hR
            go_wp2_with (first | (refine wpList_to rfl _ _ rfl (.slice ak l.length ck) (keysL l) _ rfl rfl hsk (by omega) (by omega) ?_; intro s1 hs1) | (go_at_call_of 12 (vk); refine (rows_any vk s1 _ _ w3 hrk hs1 (HL9.out _).1).mono ?_; rintro e w4 ⟨rfl, m4, rfl⟩; have hsv4 := hsv.grow (dn (Below.refl _ _) m4); have hrv4 := hrv.grow (dn (Below.refl _ _) m4); rw [decide_eq_true rfl]; clear hs1 hrk) | (refine wpList_to rfl _ _ rfl (.slice av' l.length cv') (valsL l) _ rfl rfl hsv4 (by omega) (by omega) ?_; intro s2 hs2) | (go_at_call_of 12 (vv); refine (rows_any vv s2 _ _ _ hrv4 hs2 (HL9.out _).2).mono ?_; rintro e w5 ⟨rfl, m5, rfl⟩; rw [decide_eq_true rfl]) | (go_at_call 16; refine (known_any _).mono ?_; rintro e w6 ⟨rfl, hB6⟩))
            go_ret
            have hB5 := dn hB4 (m4 + m5)
            exact ⟨rfl, hB5.trans (hB6.mono hB5.size)⟩

end Go.Proofs.Ytgafmckiomhceaa
