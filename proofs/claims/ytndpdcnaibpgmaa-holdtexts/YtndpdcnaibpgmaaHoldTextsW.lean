/- HoldTexts' walk: for every row of up to 60 keys and their texts; a map made by the call beside the table. -/
import Derived.Test.YtndpdcnaibpgmaaWalkI
import Derived.Test.YtndpdcnaibpgmaaWalkSE
import Derived.Maps.Own
import Derived.Maps.OwnOps
import Derived.Maps.OwnSet
import Derived.Maps.StringElems
import Derived.SliceStrings
import Derived.Deep.Grids
import Derived.Deep.QuietTactic
import Derived.BigQuiet
import Derived.OpenShut
import Derived.Deep.CutRange
import Derived.Test.YtndpdcnaibpgmaaInv4
namespace Go.Proofs.Ytndpdcnaibpgmaa.Str
open Go.RowKit Go.Hold Go.Inv Go.Shelf Go.Deep Go.Maps
set_option linter.unusedVariables false
set_option linter.unusedSimpArgs false

theorem lookL_insL (k : Int) (v : ByteArray) (k' : Int) : ∀ l : List (Int × ByteArray), lookL k' (insL k v l) = if k' = k then some v else lookL k' l
  | [] => by
    simp only [insL, lookL]
    by_cases h : k' = k
    · rw [if_pos h, if_pos h.symm]
    · rw [if_neg h, if_neg (fun e => h e.symm)]
  | (a, b) :: r => by
    have ih := lookL_insL k v k' r
    unfold insL
    split
    · rename_i h
      simp only [lookL, ih]
      by_cases h1 : a = k'
      · have : ¬ k' = k := by omega
        simp [h1, this]
      · simp [h1]
    · split
      · rename_i h1 h2
        simp only [lookL]
        by_cases h : k' = k
        · simp [h]
        · have h3 : ¬ a = k' := by omega
          have h4 : ¬ k = k' := by omega
          simp [h, h3, h4]
      · rename_i h1 h2
        simp only [lookL]
        by_cases h : k' = k
        · simp [h]
        · have h4 : ¬ k = k' := by omega
          simp [h, h4]
theorem length_insL_eq {k : Int} {v : ByteArray} : ∀ {l : List (Int × ByteArray)}, Rises l → (insL k v l).length = if (lookL k l).isSome then l.length else l.length + 1
  | [], _ => by simp [insL, lookL]
  | (a, b) :: r, h => by
    have h' := List.pairwise_cons.1 h
    have ih := length_insL_eq (k := k) (v := v) h'.2
    unfold insL
    by_cases hlt : a < k
    · have hne : ¬ a = k := by omega
      rw [if_pos hlt]
      simp only [List.length_cons, ih, lookL, hne, if_false]
      split <;> rfl
    · by_cases he : a = k
      · subst he
        simp [lookL]
      · have hg : k < a := by omega
        have hn : lookL k r = none := lookL_none (fun x hx => by have := h'.1 x hx; simp at this; omega)
        simp [hlt, hg, lookL, he, hn]

/-- the map D and the rising row l hold the same -/
structure Same (D : DataW Unit) (l : List (Int × ByteArray)) : Prop where
  has : ∀ k, Maps.has D (.int .i64 k) = (lookL k l).isSome
  val : ∀ k v, lookL k l = some v → D.atKey (.int .i64 k) (.lit (.string [])) = .lit (.string v.data.toList)
  size : Maps.size D = l.length
theorem int_ne {k k' : Int} (h : k' ≠ k) : (Lit.int .i64 k') ≠ Lit.int .i64 k := fun e => h (by cases e; rfl)
theorem Same.put {D : DataW Unit} {l : List (Int × ByteArray)} (h : Same D l) (hT : Tidy D) (hr : Rises l) (k : Int) (v : ByteArray) : Same (D.put (.int .i64 k) (.lit (.string v.data.toList))) (insL k v l) := by
  refine ⟨fun k' => ?_, fun k' v' => ?_, ?_⟩
  · rw [lookL_insL]
    by_cases hk : k' = k
    · subst hk; rw [has_put_same (k := .int .i64 k') hT.isMap trivial]; simp
    · rw [has_put_other (int_ne hk), h.has]; simp [hk]
  · rw [lookL_insL]
    by_cases hk : k' = k
    · subst hk
      intro e
      simp at e
      rw [atKey_put_same (k := .int .i64 k') hT.isMap trivial, e]
    · rw [atKey_put_other (int_ne hk), if_neg hk]; exact h.val k' v'
  · rw [size_put hT, h.has, length_insL_eq hr, h.size]
theorem Same.nil : Same (.map []) [] := ⟨fun k => rfl, fun k v e => (by cases e), rfl⟩

/-- what is left of the first j -/
def txtN (xs : List Int) (ss : List ByteArray) : Nat → List (Int × ByteArray)
  | 0 => []
  | j + 1 => insL (xs.getD j 0) (ss.getD j ByteArray.empty) (txtN xs ss j)
theorem length_insL {k : Int} {v : ByteArray} : ∀ {l : List (Int × ByteArray)}, (insL k v l).length ≤ l.length + 1
  | [] => by simp [insL]
  | (a, b) :: r => by
    have ih := length_insL (k := k) (v := v) (l := r)
    unfold insL
    split
    · simp; omega
    · split <;> simp
theorem txtN_len (xs : List Int) (ss : List ByteArray) : ∀ j, (txtN xs ss j).length ≤ j
  | 0 => Nat.le_refl _
  | j + 1 => by
    have h1 := txtN_len xs ss j
    have h2 := length_insL (k := xs.getD j 0) (v := ss.getD j ByteArray.empty) (l := txtN xs ss j)
    simp only [txtN]
    omega
/-- each of the first j is there -/
theorem txtN_has (xs : List Int) (ss : List ByteArray) : ∀ j, ∀ i < j, ∃ v, lookL (xs.getD i 0) (txtN xs ss j) = some v
  | 0, i, h => absurd h (Nat.not_lt_zero _)
  | j + 1, i, h => by
    simp only [txtN, lookL_insL]
    by_cases hk : xs.getD i 0 = xs.getD j 0
    · exact ⟨_, if_pos hk⟩
    · rw [if_neg hk]
      by_cases hij : i = j
      · subst hij; exact absurd rfl hk
      · exact txtN_has xs ss j i (by omega)

theorem spot_none {W : World} {a : Addr} {v : Value} (h : W.cell? a = some v) : a.spot = none := by
  cases hs : a.spot with
  | none => rfl
  | some z =>
    simp [World.cell?, hs] at h
    split at h <;> cases h
/-- v is a slice of these numbers, as it came in -/
def SlF (W : World) (v : Value) (xs : List Int) : Prop := ∃ a cap, v = .slice a xs.length cap ∧ ∀ i x, xs[i]? = some x → ∃ g off, a = some ⟨g, off, none⟩ ∧ W.cell? ⟨g, off + i, none⟩ = some (.int .i64 x)
theorem open_slw {H : Type} {enc : TypeId × Value → H} {W : World} {base : Nat} {spare : Nat → Bool} {held : Bool} {fuel : Nat} {a : Option Addr} {len cap : Nat} {x : DataW H × List MemPlace} (h : DataW.trod enc Try.prog W base spare held fuel 22 (Value.slice a len cap).cells.toList = some x) :
    ∃ xs, SlF W (.slice a len cap) xs ∧ (∀ y ∈ xs, (Lit.int .i64 y).wf = true) ∧ xs.length ≤ maxLen := by
  rcases ChangeShapes.open_ints Try.underlying22 Try.underlying3 (by kernel_rfl) h with ⟨hcs, _⟩ | ⟨b, l, c, zs, hcs, _, hl, hm, hz, _, hcell, hwz⟩
  · simp [Value.cells] at hcs
    obtain ⟨rfl, rfl, rfl⟩ := hcs
    exact ⟨[], ⟨none, 0, rfl, fun i x hx => by simp at hx⟩, fun y hy => (by cases hy), Nat.zero_le _⟩
  · simp [Value.cells] at hcs
    obtain ⟨rfl, rfl, rfl⟩ := hcs
    have hz' : len ≤ zs.length := by rw [hz]; split <;> omega
    have hlen : (zs.take len).length = len := by simp; omega
    refine ⟨zs.take len, ⟨some b, cap, by rw [hlen], fun i y hy => ?_⟩, fun y hy => hwz y (List.mem_of_mem_take hy), by rw [hlen]; omega⟩
    have hi : i < len := by
      rw [← hlen]; exact (List.getElem?_eq_some_iff.mp hy).1
    have hc := hcell i (by omega)
    obtain ⟨g, off, sp⟩ := b
    have hs : sp = none := by
      have := spot_none (hcell 0 (by omega))
      simpa [Addr.add] using this
    subst hs
    rw [Addr.add_lit] at hc
    rw [List.getElem?_take_of_lt hi] at hy
    refine ⟨g, off, rfl, ?_⟩
    rw [hc, List.getD_eq_getElem?_getD, hy]
    rfl
/-- v is a slice of these texts, as it came in -/
def SlT (W : World) (v : Value) (ss : List ByteArray) : Prop := ∃ a cap, v = .slice a ss.length cap ∧ ∀ i x, ss[i]? = some x → ∃ g off, a = some ⟨g, off, none⟩ ∧ W.cell? ⟨g, off + i, none⟩ = some (.string x)
theorem open_slt {H : Type} {enc : TypeId × Value → H} {W : World} {base : Nat} {spare : Nat → Bool} {held : Bool} {fuel : Nat} {a : Option Addr} {len cap : Nat} {x : DataW H × List MemPlace} (h : DataW.trod enc Try.prog W base spare held fuel 23 (Value.slice a len cap).cells.toList = some x) :
    ∃ ss, SlT W (.slice a len cap) ss ∧ ss.length ≤ maxLen := by
  rcases ChangeShapes.open_strings Try.underlying23 Try.underlying9 (by kernel_rfl) h with ⟨hcs, _⟩ | ⟨b, l, c, zs, hcs, _, hl, hm, hz, _, hcell, hwz⟩
  · simp [Value.cells] at hcs
    obtain ⟨rfl, rfl, rfl⟩ := hcs
    exact ⟨[], ⟨none, 0, rfl, fun i x hx => by simp at hx⟩, Nat.zero_le _⟩
  · simp [Value.cells] at hcs
    obtain ⟨rfl, rfl, rfl⟩ := hcs
    have hz' : len ≤ zs.length := by rw [hz]; split <;> omega
    have hlen : (zs.take len).length = len := by simp; omega
    refine ⟨zs.take len, ⟨some b, cap, by rw [hlen], fun i y hy => ?_⟩, by rw [hlen]; omega⟩
    have hi : i < len := by
      rw [← hlen]; exact (List.getElem?_eq_some_iff.mp hy).1
    have hc := hcell i (by omega)
    obtain ⟨g, off, sp⟩ := b
    have hs : sp = none := by
      have := spot_none (hcell 0 (by omega))
      simpa [Addr.add] using this
    subst hs
    rw [Addr.add_lit] at hc
    rw [List.getElem?_take_of_lt hi] at hy
    refine ⟨g, off, rfl, ?_⟩
    rw [hc, List.getD_eq_getElem?_getD, hy]
    rfl

theorem lawInt : Keyed Try.prog 3 := int_keyed Try.underlying3
theorem zeroStr (w : World) : (zeroValue 9).run Try.prog w = .ok (.string ByteArray.empty) w := by kernel_rfl
/-- the map in block bm holds what l holds -/
def TxtM (W : World) (bm n : Nat) (l : List (Int × ByteArray)) : Prop := ∃ D : DataW Unit, W.ownsMap Try.prog 3 (plainElem Try.prog 9) bm n D ∧ Same D l
theorem _root_.Go.World.ownsMap.same {H : Type} {w w' : World} {P : Program} {k : TypeId} {R : Value → Option (DataW H × List MemPlace)} {b n : Nat} {D : DataW H} (h : w.ownsMap P k R b n D) (hb : w'.heap[b]? = w.heap[b]?) : w'.ownsMap P k R b n D := by
  obtain ⟨es, clock, h1, r⟩ := h
  exact ⟨es, clock, hb.trans h1, r⟩
theorem TxtM.grow {A B : World} {bm n : Nat} {l : List (Int × ByteArray)} (h : TxtM A bm n l) (hB : Below A.heap.size A B) : TxtM B bm n l := by
  obtain ⟨D, ho, hs⟩ := h
  exact ⟨D, ho.same (hB.block _ ho.lt), hs⟩
/-- the map's block bears no tree, no box -/
theorem ownsMap_cell {H : Type} {w : World} {P : Program} {k : TypeId} {R : Value → Option (DataW H × List MemPlace)} {b n : Nat} {D : DataW H} (h : w.ownsMap P k R b n D) (i : Nat) : w.cell? ⟨b, i, none⟩ = none := by
  obtain ⟨es, clock, h1, r⟩ := h
  simp [World.cell?, h1]
/-- m[k], at texts -/
theorem wpList_lookup_own_str {P : Program} (w : World) {ops : Array Oper} {rest : List Oper} {o : Oper} {a : Act} {Q : Exit → Act → World → Prop}
    (hg : o.guard = none) (m x : Operand) (t : TypeId) (hop : o.op = Op.lookup t m x false)
    (k e : TypeId) (K : Keyed P k) (ht : P.underlying t = some (.map k e)) (he : P.underlying e = some .string) (hz : (zeroValue e).run P w = .ok (.string ByteArray.empty) w) (b n : Nat) (D : DataW Unit)
    (hm : a.eval m = .map (some b)) (hown : w.ownsMap P k (plainElem P e) b n D) (key : Value) (kl : Lit) (hx : a.eval x = key) (hkey : keyOf P k key = some kl)
    (hK : ∀ c : ByteArray, D.atKey kl (.lit (.string [])) = .lit (.string c.data.toList) → wpList P ops Q rest (a.put o.dst (.string c)) w) :
    wpList P ops Q (o :: rest) a w := by
  refine wpList_plain hg fun K' hK' => ?_
  obtain ⟨v, ps, hrun, hv⟩ := hown.lookup K ht hz (plainElem_string he (by decide)) hkey
  obtain ⟨c, rfl, hc, _⟩ := plainElem_string_inv he hv
  unfold Oper.wp
  simp [execOp, hop, hm, hx, hrun, Result.andThen]
  exact hK' _ _ (hK c (congrArg Prod.fst hc))
theorem str_eq {a b : ByteArray} (h : (DataW.lit (.string a.data.toList) : DataW Unit) = .lit (.string b.data.toList)) : a = b := by
  have h1 : a.data.toList = b.data.toList := by simpa using h
  have h2 : a.data = b.data := by cases ha : a.data; cases hb : b.data; rw [ha, hb] at h1; simpa using h1
  cases a; cases b; simpa using h2

set_option maxRecDepth 100000 in
set_option maxHeartbeats 4000000 in
theorem texts_any (v u : Value) (xs : List Int) (ss : List ByteArray) (w : World) (hs : SlF w v xs) (hwf : ∀ y ∈ xs, (Lit.int .i64 y).wf = true) (hn : xs.length ≤ 9223372036854775807) (hbs : SlT w u ss) (hn2 : ss.length ≤ 9223372036854775807) :
    Calls Try.prog 3 #[v, u] w fun e w' => e = .returned (.bool true) ∧ Below w.heap.size w w' := by
  obtain ⟨av, cv, rfl, hc⟩ := hs
  obtain ⟨au, cu, rfl, hc2⟩ := hbs
  have HC : Hid (∀ i x, xs[i]? = some x → ∃ g off, av = some ⟨g, off, none⟩ ∧ w.cell? ⟨g, off + i, none⟩ = some (.int .i64 x)) := hc
  have HU : Hid (∀ i x, ss[i]? = some x → ∃ g off, au = some ⟨g, off, none⟩ ∧ w.cell? ⟨g, off + i, none⟩ = some (.string x)) := hc2
  have HW : Hid (∀ y ∈ xs, (Lit.int .i64 y).wf = true) := hwf
  clear hc hc2 hwf
  have hmm := @run_makeMap Try.prog
  by_cases hbig : 60 < xs.length
  · go_enter Try.func3, Try.ntmps3
    go_wp2
    go_ret
    exact ⟨rfl, Below.refl _ _⟩
  by_cases hlt : ss.length < xs.length
  · go_enter Try.func3, Try.ntmps3
    go_wp2
    go_ret
    exact ⟨rfl, Below.refl _ _⟩
  go_enter Try.func3, Try.ntmps3
  go_wp2_with fail
  refine (New_any w).mono ?_
  rintro e w1 ⟨rfl, hT1, hB1⟩
  have hbt := hT1.lt
  have hM1 : TxtM (w1.alloc (.map #[] 0)) w1.heap.size 0 [] := ⟨.map [], World.ownsMap_made _ _ _ _, Same.nil⟩
  have hB2 : Below w1.heap.size w1 (w1.alloc (.map #[] 0)) := (Below.refl _ _).alloc (Nat.le_refl _) _
  have hT2 := hT1.grow hB2
  have hB3 : Below w.heap.size w (w1.alloc (.map #[] 0)) := hB1.trans (hB2.mono hB1.size)
  have hs1 : w.heap.size ≤ w1.heap.size := hB1.size
  have hne : w.heap.size ≠ w1.heap.size := by omega
  go_wp2
  go_loopw [7] (fun i wr => ∃ j : Nat, i = .int .i64 j ∧ j ≤ xs.length ∧ Tab wr w.heap.size (txtN xs ss j) ∧ TxtM wr w1.heap.size j (txtN xs ss j) ∧ Below w.heap.size w wr) (fun i _ => xs.length - (intOf i).toNat)
  case atStart => exact ⟨0, rfl, Nat.zero_le _, hT2, hM1, hB3⟩
  case round =>
    obtain ⟨j, rfl, hjl, hT, hM, hB⟩ := hrel
    clear hT1 hT2 hM1 hB2 hB3 hB1 hmm
    have hpl := txtN_len xs ss j
    by_cases hgo : j < xs.length
    · obtain ⟨x, hx⟩ : ∃ x, xs[j]? = some x := ⟨xs[j], List.getElem?_eq_getElem hgo⟩
      obtain ⟨d, hd⟩ : ∃ d, ss[j]? = some d := ⟨ss[j], List.getElem?_eq_getElem (by omega)⟩
      have HP : Hid (txtN xs ss (j + 1) = insL x d (txtN xs ss j)) := by show txtN xs ss (j + 1) = _; simp only [txtN, List.getD_eq_getElem?_getD, hx, hd]; rfl
      obtain ⟨g, off, rfl, d0⟩ := HC.out j x hx
      obtain ⟨g2, off2, rfl, d1⟩ := HU.out j d hd
      have hwx := HW.out x (List.mem_of_getElem? hx)
      have hkey : keyOf Try.prog 3 (.int .i64 x) = some (.int .i64 x) := keyOf_int_mk Try.underlying3 hwx
      have hlo : -9223372036854775808 ≤ x := (bounds_i64 hwx).1
      have hgl : g < w.heap.size := block_lt_of_cell d0
      have hgl2 : g2 < w.heap.size := block_lt_of_cell d1
      have c0 : wr.cell? ⟨g, off + j, none⟩ = some (.int .i64 x) := (hB.cell (p := ⟨g, off + j, none⟩) hgl).trans d0
      have cb : wr.cell? ⟨g2, off2 + j, none⟩ = some (.string d) := (hB.cell (p := ⟨g2, off2 + j, none⟩) hgl2).trans d1
      obtain ⟨l, hl⟩ : ∃ l, txtN xs ss j = l := ⟨_, rfl⟩
      rw [hl] at hT hM hpl HP
      clear hx hl hd d0 d1 HC HU HW
      have hbr := hT.lt
      have hbz : l.length + 20 < big := by unfold big; omega
      have hrise := hT.rises
      obtain ⟨D, hown, hsame⟩ := hM
      have hml := hown.lt
      have htidy := hown.tidy lawInt
      by_cases hlong : 100 < d.size
      · clear hT hown hsame htidy hkey
        go_wp2
        go_ret
        exact ⟨rfl, hB⟩
      have HSD : Hid (Same (D.put (.int .i64 x) (.lit (.string d.data.toList))) (insL x d l)) := hsame.put htidy hrise x d
      have hsd : d.size ≤ maxLen := Nat.le_trans (show d.size ≤ 100 by omega) (by decide)
      clear hsame htidy
      go_upto_region 12 with fail
      have hgr : g < wr.heap.size := Nat.lt_of_lt_of_le hgl hB.size
      have hgr2 : g2 < wr.heap.size := Nat.lt_of_lt_of_le hgl2 hB.size
      have hjs : j < ss.length := by omega
      have hjs2 : (j : Int) < (ss.length : Int) := by omega
      have hBr : Hid (Below w.heap.size w wr) := hB
      clear hB
      refine wp_region_pivot (by kernel_rfl) (by kernel_rfl) 9 (by decide) (by kernel_rfl) (by kernel_rfl) (fun xS => { tmps := (Value.slice (some (⟨g, off, none⟩ : Addr)) xs.length cv :: Value.slice (some (⟨g2, off2, none⟩ : Addr)) ss.length cu :: undef :: undef :: u4 :: Value.pointer (some (⟨w.heap.size, 0, none⟩ : Addr)) :: Value.map (some w1.heap.size) :: Value.int IntKind.i64 (j : Int) :: undef :: undef :: undef :: Value.slice (some (⟨g, off, none⟩ : Addr)) xs.length cv :: Value.int IntKind.i64 (xs.length : Int) :: Value.bool (decide (60 < (xs.length : Int))) :: Value.bool (decide (60 < (xs.length : Int))) :: Value.slice (some (⟨g2, off2, none⟩ : Addr)) ss.length cu :: Value.int IntKind.i64 (ss.length : Int) :: Value.slice (some (⟨g, off, none⟩ : Addr)) xs.length cv :: Value.int IntKind.i64 (xs.length : Int) :: Value.bool false :: Value.bool (decide (60 < (xs.length : Int))) :: Value.pointer (some (⟨w.heap.size, 0, none⟩ : Addr)) :: Value.pointer (some (⟨w.heap.size, 0, none⟩ : Addr)) :: Value.bool false :: Value.map (some w1.heap.size) :: Value.int IntKind.i64 (j : Int) :: Value.slice (some (⟨g, off, none⟩ : Addr)) xs.length cv :: Value.int IntKind.i64 (xs.length : Int) :: Value.bool true :: u29 :: u30 :: Value.slice (some (⟨g2, off2, none⟩ : Addr)) ss.length cu :: Value.int IntKind.i64 (j : Int) :: Value.pointer (some (⟨g2, off2 + j, none⟩ : Addr)) :: Value.string d :: Value.int IntKind.i64 (d.size : Int) :: Value.bool (decide (100 < (d.size : Int))) :: xS 0 :: xS 1 :: xS 2 :: xS 3 :: xS 4 :: xS 5 :: xS 6 :: xS 7 :: xS 8 :: xS 9 :: u47 :: u48 :: u49 :: u50 :: u51 :: u52 :: u53 :: u54 :: u55 :: undef :: undef :: undef :: undef :: undef :: undef :: undef :: undef :: undef :: undef :: undef :: undef :: undef :: undef :: undef :: undef :: undef :: undef :: undef :: undef :: undef :: undef :: undef :: undef :: undef :: undef :: undef :: undef :: undef :: undef :: undef :: undef :: undef :: undef :: undef :: []).toArray, defers := [] })
        (fun ii xx WW => match ii with | 0 => xx = Value.pointer (some (⟨w.heap.size, 0, none⟩ : Addr)) | 1 => xx = Value.slice (some (⟨g, off, none⟩ : Addr)) xs.length cv | 2 => xx = Value.int IntKind.i64 (j : Int) | 3 => xx = .pointer (some ⟨g, off + j, none⟩) | 4 => xx = .int .i64 x | 5 => xx = Value.slice (some (⟨g2, off2, none⟩ : Addr)) ss.length cu | 6 => xx = Value.int IntKind.i64 (j : Int) | 7 => xx = .pointer (some ⟨g2, off2 + j, none⟩) | 8 => xx = .string d | _ => True) (fun li xS W => Tab W w.heap.size (insL x d l) ∧ ∃ w1, Below wr.heap.size wr w1 ∧ Frm (· = w.heap.size) w1 W) (fun | 0 => u37 | 1 => u38 | 2 => u39 | 3 => u40 | 4 => u41 | 5 => u42 | 6 => u43 | 7 => u44 | 8 => u45 | 9 => u46 | _ => undef) (by repeat (first | exact trivial | refine ⟨fun _ _ => rfl, ?_⟩)) (fun _ _ _ _ _ h => h) ⟨?_, ?_, ?_, ?_, ?_, ?_, ?_, ?_, ?_, ⟨rfl, ?_⟩, trivial⟩ ?_
      · intro xS W hB hp K hK
        rw [if_pos (wanted_none rfl _)]
        clear hp
        go_simp
        exact hK _ _ (Below.refl _ _) rfl
      · intro xS W hB hp K hK
        rw [if_pos (wanted_none rfl _)]
        clear hp
        go_simp
        exact hK _ _ (Below.refl _ _) rfl
      · intro xS W hB hp K hK
        rw [if_pos (wanted_none rfl _)]
        clear hp
        go_simp
        exact hK _ _ (Below.refl _ _) rfl
      · intro xS W hB hp K hK
        rw [if_pos (wanted_none rfl _)]
        have h1 : xS 1 = Value.slice (some (⟨g, off, none⟩ : Addr)) xs.length cv := hp.1 rfl
        have h2 : xS 2 = Value.int IntKind.i64 (j : Int) := hp.2.1 rfl
        clear hp
        simp only [h1, h2] at hK ⊢
        clear h1 h2
        go_simp
        exact hK _ _ (Below.refl _ _) rfl
      · intro xS W hB hp K hK
        rw [if_pos (wanted_none rfl _)]
        have h3 : xS 3 = .pointer (some ⟨g, off + j, none⟩) := hp.1 rfl
        clear hp
        have hc : W.cell? ⟨g, off + j, none⟩ = some (.int .i64 x) := (hB.cell (p := ⟨g, off + j, none⟩) hgr).trans c0
        simp only [h3] at hK ⊢
        clear h3
        go_simp
        exact hK _ _ (Below.refl _ _) rfl
      · intro xS W hB hp K hK
        rw [if_pos (wanted_none rfl _)]
        clear hp
        go_simp
        exact hK _ _ (Below.refl _ _) rfl
      · intro xS W hB hp K hK
        rw [if_pos (wanted_none rfl _)]
        clear hp
        go_simp
        exact hK _ _ (Below.refl _ _) rfl
      · intro xS W hB hp K hK
        rw [if_pos (wanted_none rfl _)]
        have h5 : xS 5 = Value.slice (some (⟨g2, off2, none⟩ : Addr)) ss.length cu := hp.1 rfl
        have h6 : xS 6 = Value.int IntKind.i64 (j : Int) := hp.2.1 rfl
        clear hp
        simp only [h5, h6] at hK ⊢
        clear h5 h6
        go_simp
        exact hK _ _ (Below.refl _ _) rfl
      · intro xS W hB hp K hK
        rw [if_pos (wanted_none rfl _)]
        have h7 : xS 7 = .pointer (some ⟨g2, off2 + j, none⟩) := hp.1 rfl
        clear hp
        have hc : W.cell? ⟨g2, off2 + j, none⟩ = some (.string d) := (hB.cell (p := ⟨g2, off2 + j, none⟩) hgr2).trans cb
        simp only [h7] at hK ⊢
        clear h7
        go_simp
        exact hK _ _ (Below.refl _ _) rfl
      · intro li xS W hB hs hno K hK
        have h0 : xS 0 = Value.pointer (some (⟨w.heap.size, 0, none⟩ : Addr)) := hs 0 (by decide)
        have h4 : xS 4 = .int .i64 x := hs 4 (by decide)
        have h8 : xS 8 = .string d := hs 8 (by decide)
        clear hs
        simp only [h0, h4, h8] at hK ⊢
        clear h0 h4 h8
        go_simp
        refine (Set_any w.heap.size l x d W (hT.grow hB) hbz hlo).mono ?_
        rintro e w2 ⟨⟨y, rfl⟩, hT2, hF2⟩
        exact hK _ _ ⟨hT2, W, hB, hF2⟩
      rintro li xs0 w2 ⟨hT2, w20, hB20, hF2⟩ -
      have hB := hBr.out
      have hr2 : wr.heap.size ≤ w20.heap.size := hB20.size
      have hown2 := hown.same ((hF2.block w1.heap.size (by omega) (fun e => hne e.symm)).trans (hB20.block _ hml))
      have hB2 : Below w.heap.size w w2 := (hB.trans (hB20.mono hB.size)).trans (hF2.below (Nat.le_trans hB.size hr2) (fun k hk hS => by omega))
      have c1 : w2.cell? ⟨g, off + j, none⟩ = some (.int .i64 x) := ((World.cell?_of_block (hF2.block g (by omega) (by omega))).trans (hB20.cell (p := ⟨g, off + j, none⟩) hgr)).trans c0
      have c2 : w2.cell? ⟨g2, off2 + j, none⟩ = some (.string d) := ((World.cell?_of_block (hF2.block g2 (by omega) (by omega))).trans (hB20.cell (p := ⟨g2, off2 + j, none⟩) hgr2)).trans cb
      clear c0 cb hT hB hown
      go_upto_region 13 with fail
      have hgr : g < w2.heap.size := Nat.lt_of_lt_of_le hgl hB2.size
      have hgr2 : g2 < w2.heap.size := Nat.lt_of_lt_of_le hgl2 hB2.size
      have hml2 := hown2.lt
      have hBr2 : Hid (Below w.heap.size w w2) := hB2
      clear hB2
      refine wp_region_pivot (by kernel_rfl) (by kernel_rfl) 9 (by decide) (by kernel_rfl) (by kernel_rfl) (fun xS => { tmps := (Value.slice (some (⟨g, off, none⟩ : Addr)) xs.length cv :: Value.slice (some (⟨g2, off2, none⟩ : Addr)) ss.length cu :: undef :: undef :: u4 :: Value.pointer (some (⟨w.heap.size, 0, none⟩ : Addr)) :: Value.map (some w1.heap.size) :: Value.int IntKind.i64 (j : Int) :: undef :: undef :: undef :: Value.slice (some (⟨g, off, none⟩ : Addr)) xs.length cv :: Value.int IntKind.i64 (xs.length : Int) :: Value.bool (decide (60 < (xs.length : Int))) :: Value.bool (decide (60 < (xs.length : Int))) :: Value.slice (some (⟨g2, off2, none⟩ : Addr)) ss.length cu :: Value.int IntKind.i64 (ss.length : Int) :: Value.slice (some (⟨g, off, none⟩ : Addr)) xs.length cv :: Value.int IntKind.i64 (xs.length : Int) :: Value.bool false :: Value.bool (decide (60 < (xs.length : Int))) :: Value.pointer (some (⟨w.heap.size, 0, none⟩ : Addr)) :: Value.pointer (some (⟨w.heap.size, 0, none⟩ : Addr)) :: Value.bool false :: Value.map (some w1.heap.size) :: Value.int IntKind.i64 (j : Int) :: Value.slice (some (⟨g, off, none⟩ : Addr)) xs.length cv :: Value.int IntKind.i64 (xs.length : Int) :: Value.bool true :: u29 :: u30 :: Value.slice (some (⟨g2, off2, none⟩ : Addr)) ss.length cu :: Value.int IntKind.i64 (j : Int) :: Value.pointer (some (⟨g2, off2 + j, none⟩ : Addr)) :: Value.string d :: Value.int IntKind.i64 (d.size : Int) :: Value.bool (decide (100 < (d.size : Int))) :: xs0 0 :: xs0 1 :: xs0 2 :: xs0 3 :: xs0 4 :: xs0 5 :: xs0 6 :: xs0 7 :: xs0 8 :: xs0 9 :: xS 0 :: xS 1 :: xS 2 :: xS 3 :: xS 4 :: xS 5 :: xS 6 :: xS 7 :: xS 8 :: undef :: undef :: undef :: undef :: undef :: undef :: undef :: undef :: undef :: undef :: undef :: undef :: undef :: undef :: undef :: undef :: undef :: undef :: undef :: undef :: undef :: undef :: undef :: undef :: undef :: undef :: undef :: undef :: undef :: undef :: undef :: undef :: undef :: undef :: undef :: []).toArray, defers := [] })
        (fun ii xx WW => match ii with | 0 => xx = Value.map (some w1.heap.size) | 1 => xx = Value.slice (some (⟨g, off, none⟩ : Addr)) xs.length cv | 2 => xx = Value.int IntKind.i64 (j : Int) | 3 => xx = .pointer (some ⟨g, off + j, none⟩) | 4 => xx = .int .i64 x | 5 => xx = Value.slice (some (⟨g2, off2, none⟩ : Addr)) ss.length cu | 6 => xx = Value.int IntKind.i64 (j : Int) | 7 => xx = .pointer (some ⟨g2, off2 + j, none⟩) | 8 => xx = .string d | _ => True) (fun li xS W => ∃ w20, Below w2.heap.size w2 w20 ∧ W.ownsMap Try.prog 3 (plainElem Try.prog 9) w1.heap.size (j + 1) (D.put (.int .i64 x) (.lit (.string d.data.toList))) ∧ w20.grownBy W (some w1.heap.size)) (fun | 0 => u47 | 1 => u48 | 2 => u49 | 3 => u50 | 4 => u51 | 5 => u52 | 6 => u53 | 7 => u54 | 8 => u55 | _ => undef) (by repeat (first | exact trivial | refine ⟨fun _ _ => rfl, ?_⟩)) (fun _ _ _ _ _ h => h) ⟨?_, ?_, ?_, ?_, ?_, ?_, ?_, ?_, ?_, ⟨rfl, ?_⟩, trivial⟩ ?_
      · intro xS W hB hp K hK
        rw [if_pos (wanted_none rfl _)]
        clear hp
        go_simp
        exact hK _ _ (Below.refl _ _) rfl
      · intro xS W hB hp K hK
        rw [if_pos (wanted_none rfl _)]
        clear hp
        go_simp
        exact hK _ _ (Below.refl _ _) rfl
      · intro xS W hB hp K hK
        rw [if_pos (wanted_none rfl _)]
        clear hp
        go_simp
        exact hK _ _ (Below.refl _ _) rfl
      · intro xS W hB hp K hK
        rw [if_pos (wanted_none rfl _)]
        have h1 : xS 1 = Value.slice (some (⟨g, off, none⟩ : Addr)) xs.length cv := hp.1 rfl
        have h2 : xS 2 = Value.int IntKind.i64 (j : Int) := hp.2.1 rfl
        clear hp
        simp only [h1, h2] at hK ⊢
        clear h1 h2
        go_simp
        exact hK _ _ (Below.refl _ _) rfl
      · intro xS W hB hp K hK
        rw [if_pos (wanted_none rfl _)]
        have h3 : xS 3 = .pointer (some ⟨g, off + j, none⟩) := hp.1 rfl
        clear hp
        have hc : W.cell? ⟨g, off + j, none⟩ = some (.int .i64 x) := (hB.cell (p := ⟨g, off + j, none⟩) hgr).trans c1
        simp only [h3] at hK ⊢
        clear h3
        go_simp
        exact hK _ _ (Below.refl _ _) rfl
      · intro xS W hB hp K hK
        rw [if_pos (wanted_none rfl _)]
        clear hp
        go_simp
        exact hK _ _ (Below.refl _ _) rfl
      · intro xS W hB hp K hK
        rw [if_pos (wanted_none rfl _)]
        clear hp
        go_simp
        exact hK _ _ (Below.refl _ _) rfl
      · intro xS W hB hp K hK
        rw [if_pos (wanted_none rfl _)]
        have h5 : xS 5 = Value.slice (some (⟨g2, off2, none⟩ : Addr)) ss.length cu := hp.1 rfl
        have h6 : xS 6 = Value.int IntKind.i64 (j : Int) := hp.2.1 rfl
        clear hp
        simp only [h5, h6] at hK ⊢
        clear h5 h6
        go_simp
        exact hK _ _ (Below.refl _ _) rfl
      · intro xS W hB hp K hK
        rw [if_pos (wanted_none rfl _)]
        have h7 : xS 7 = .pointer (some ⟨g2, off2 + j, none⟩) := hp.1 rfl
        clear hp
        have hc : W.cell? ⟨g2, off2 + j, none⟩ = some (.string d) := (hB.cell (p := ⟨g2, off2 + j, none⟩) hgr2).trans c2
        simp only [h7] at hK ⊢
        clear h7
        go_simp
        exact hK _ _ (Below.refl _ _) rfl
      · intro li xS W hB hs hno K hK
        have h0 : xS 0 = Value.map (some w1.heap.size) := hs 0 (by decide)
        have h4 : xS 4 = .int .i64 x := hs 4 (by decide)
        have h8 : xS 8 = .string d := hs 8 (by decide)
        clear hs
        obtain ⟨w3, hrun, hown3, hgrow3⟩ := (hown2.same (hB.block _ hml2)).update lawInt Try.underlying26 (by unfold maxLen; omega) hkey (plainElem_string Try.underlying9 hsd)
        simp only [h0, h4, h8] at hK ⊢
        clear h0 h4 h8
        unfold Oper.wp
        simp [execOp, Act.eval, hrun, Result.andThen]
        exact hK _ _ ⟨W, hB, hown3, hgrow3⟩
      rintro li xS w3 ⟨w30, hB30, hown3, hgrow3⟩ -
      have hB2 := hBr2.out
      have hr3 : w2.heap.size ≤ w30.heap.size := hB30.size
      have hT20 := hT2.grow hB30
      have hT3 : Tab w3 w.heap.size (insL x d l) := hT20.frm (S := (· = w1.heap.size)) ⟨hgrow3.os, hgrow3.tape, hgrow3.output, hgrow3.size, fun k hk hS => hgrow3.block k hk (fun e => hS (by cases e; rfl))⟩ hne (fun k hk => by cases hk; exact ownsMap_cell (hown2.same (hB30.block _ hml2)) 4)
      have hB3 : Below w.heap.size w w3 := (hB2.trans (hB30.mono hB2.size)).grown hgrow3 (Nat.le_trans hB2.size hr3) (fun k hk => by cases hk; omega)
      go_wp2
      go_roundw
      case rel => exact ⟨j + 1, by go_num, by omega, by rw [HP.out]; exact hT3, by rw [HP.out]; exact ⟨_, hown3, HSD.out⟩, hB3⟩
      case measure => simp [intOf]; omega
    · obtain rfl : j = xs.length := by omega
      obtain ⟨l, hl⟩ : ∃ l, txtN xs ss xs.length = l := ⟨_, rfl⟩
      have HL : Hid (∀ (i : Nat) (x : Int), xs[i]? = some x → ∃ v, lookL x l = some v) := by
        intro i x hx
        have := txtN_has xs ss xs.length i (List.getElem?_eq_some_iff.mp hx).1
        rw [List.getD_eq_getElem?_getD, hx, hl] at this
        exact this
      rw [hl] at hT hM hpl
      obtain ⟨D, hown, hsame⟩ := hM
      have HSM : Hid (Same D l) := hsame
      have hsz : Maps.size D = l.length := hsame.size
      clear hl HU hsame
      go_wp2
      obtain ⟨wr0, hwr0⟩ : ∃ x, x = wr := ⟨_, rfl⟩
      rw [← hwr0] at hT hB hown ⊢
      clear hwr0
      go_loopw [8] (fun i WR => ∃ q : Nat, i = .int .i64 q ∧ q ≤ xs.length ∧ Below wr0.heap.size wr0 WR) (fun i _ => xs.length - (intOf i).toNat)
      case atStart => exact ⟨0, rfl, Nat.zero_le _, Below.refl _ _⟩
      case round =>
        obtain ⟨q, rfl, hql, hB4⟩ := hrel
        have hT4 := hT.grow hB4
        have hown4 := hown.same (hB4.block _ hown.lt)
        by_cases hgo2 : q < xs.length
        · obtain ⟨x, hx⟩ : ∃ x, xs[q]? = some x := ⟨xs[q], List.getElem?_eq_getElem hgo2⟩
          obtain ⟨val, hlook⟩ := HL.out q x hx
          have HK : Hid (lookL x l = some val) := hlook
          have hkey : keyOf Try.prog 3 (.int .i64 x) = some (.int .i64 x) := keyOf_int_mk Try.underlying3 (HW.out x (List.mem_of_getElem? hx))
          obtain ⟨g, off, rfl, d0⟩ := HC.out q x hx
          have hgl : g < w.heap.size := block_lt_of_cell d0
          have hB5 := hB.trans (hB4.mono hB.size)
          have c0 : wr.cell? ⟨g, off + q, none⟩ = some (.int .i64 x) := (hB5.cell (p := ⟨g, off + q, none⟩) hgl).trans d0
          obtain ⟨v9, ps9, hrun, hv9⟩ := hown4.lookup lawInt Try.underlying26 (zeroStr _) (plainElem_string Try.underlying9 (by decide)) hkey
          obtain ⟨s9, rfl, hs9, _⟩ := plainElem_string_inv Try.underlying9 hv9
          have hval := HSM.out.val x val hlook
          have he9 : D.atKey (.int .i64 x) (.lit (.string [])) = .lit (.string s9.data.toList) := congrArg Prod.fst hs9
          obtain rfl : s9 = val := str_eq (he9.symm.trans hval)
          have HB4 : Hid (Below wr0.heap.size wr0 wr) := hB4
          clear d0 hx hlook hs9 hv9 hval he9 hkey HC HL HSM HW hT hown hB4 hB
          go_wp2_with (first | (go_at_call 6; refine (Get_any (some ⟨w.heap.size, 0, none⟩) l x wr (.inr ⟨_, rfl, hT4⟩)).mono ?_; rw [HK.out]; rintro e w5 ⟨rfl, rfl⟩) | fail)
          go_roundw
          case rel => exact ⟨q + 1, by go_num, by omega, HB4.out⟩
          case measure => simp [intOf]; omega
        · have hB5 := hB.trans (hB4.mono hB.size)
          clear HC HL HSM HW hT hB4 hB hown
          go_wp2_with (first | (go_at_call 7; refine (Len_any (some ⟨w.heap.size, 0, none⟩) l wr (.inr ⟨_, rfl, hT4⟩)).mono ?_; rintro e w5 ⟨rfl, rfl⟩) | (at_len; refine wpList_len_own _ rfl _ 26 rfl 3 9 Try.underlying26 _ w1.heap.size _ D rfl hown4 ?_; rw [hsz]) | (go_at_call 8; refine (known_any _).mono ?_; rintro e w9 ⟨rfl, hB9⟩))
          go_ret
          exact ⟨rfl, hB5.trans (hB9.mono hB5.size)⟩
end Go.Proofs.Ytndpdcnaibpgmaa.Str
