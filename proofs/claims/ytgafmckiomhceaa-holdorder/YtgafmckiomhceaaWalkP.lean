/- HoldOrder's walk: for every row of up to 100 keys, each set or deleted; a map made by the call beside the table. -/
import Derived.Test.YtgafmckiomhceaaWalkO
import Derived.Maps.Own
import Derived.Maps.OwnOps
import Derived.Maps.OwnSet
import Derived.Deep.Grids
import Derived.Deep.QuietTactic
import Derived.BigQuiet
namespace Go.Proofs.Ytgafmckiomhceaa
open Go.RowKit Go.Hold Go.Inv Go.Shelf Go.Deep Go.Maps
set_option linter.unusedVariables false
set_option linter.unusedSimpArgs false

theorem lookL_insL (k v k' : Int) : ∀ l : List (Int × Int), lookL k' (insL k v l) = if k' = k then some v else lookL k' l
  | [] => by
    simp only [insL, lookL]
    by_cases h : k' = k
    · rw [if_pos h, if_pos h.symm]
    · rw [if_neg h, if_neg (fun e => h e.symm)]
  | (a, b) :: r => by
    have ih := lookL_insL k v k' r
    unfold insL
    split
    · rename_i h
      simp only [lookL, ih]
      by_cases h1 : a = k'
      · have : ¬ k' = k := by omega
        simp [h1, this]
      · simp [h1]
    · split
      · rename_i h1 h2
        simp only [lookL]
        by_cases h : k' = k
        · simp [h]
        · have h3 : ¬ a = k' := by omega
          have h4 : ¬ k = k' := by omega
          simp [h, h3, h4]
      · rename_i h1 h2
        simp only [lookL]
        by_cases h : k' = k
        · simp [h]
        · have h4 : ¬ k = k' := by omega
          simp [h, h4]
theorem lookL_delL (k k' : Int) : ∀ l : List (Int × Int), lookL k' (delL k l) = if k' = k then none else lookL k' l
  | [] => by simp [delL, lookL]
  | (a, b) :: r => by
    have ih := lookL_delL k k' r
    unfold delL at ih ⊢
    by_cases h : a = k
    · rw [List.filter_cons_of_neg (by simp [h]), ih]
      by_cases h1 : k' = k
      · simp [h1]
      · have : ¬ a = k' := by omega
        simp [h1, lookL, this]
    · rw [List.filter_cons_of_pos (by simp [h])]
      simp only [lookL, ih]
      by_cases h1 : k' = k
      · have : ¬ a = k' := by omega
        simp [h1, h]
      · simp [h1]
theorem length_insL_eq {k v : Int} {l : List (Int × Int)} (h : Rises l) : (insL k v l).length = if (lookL k l).isSome then l.length else l.length + 1 := by
  rw [isSome_here h]
  cases hh : hereL k l with
  | true => rw [insL_here hh]; simp
  | false =>
    rw [insL_new hh]
    have := posL_le k l
    simp
    omega
theorem length_delL_eq {k : Int} {l : List (Int × Int)} (h : Rises l) : (delL k l).length + (if (lookL k l).isSome then 1 else 0) = l.length := by
  rw [isSome_here h]
  cases hh : hereL k l with
  | true =>
    rw [del_here h hh]
    have := here_lt hh
    simp
    omega
  | false =>
    have : lookL k l = none := by
      have h1 := isSome_here (k := k) h
      rw [hh] at h1
      simpa using h1
    rw [delL_of_look this]
    simp
/-- what stands at its place is found -/
theorem look_at {l : List (Int × Int)} (h : Rises l) : ∀ {j : Nat} {e : Int × Int}, l[j]? = some e → lookL e.1 l = some e.2 := by
  induction l with
  | nil => intro j e hj; simp at hj
  | cons x r ih =>
    intro j e hj
    obtain ⟨a, b⟩ := x
    have hr := List.pairwise_cons.mp h
    cases j with
    | zero => simp at hj; subst hj; simp [lookL]
    | succ j =>
      simp at hj
      have hlt := hr.1 e (List.mem_of_getElem? hj)
      simp only at hlt
      have : ¬ a = e.1 := by omega
      simp only [lookL, this, if_false]
      exact ih hr.2 hj
theorem rise_at {l : List (Int × Int)} (h : Rises l) {i j : Nat} {x y : Int × Int} (hij : i < j) (hx : l[i]? = some x) (hy : l[j]? = some y) : x.1 < y.1 := by
  obtain ⟨h1, e1⟩ := List.getElem?_eq_some_iff.mp hx
  obtain ⟨h2, e2⟩ := List.getElem?_eq_some_iff.mp hy
  have := (List.pairwise_iff_getElem.mp h) i j h1 h2 hij
  rw [e1, e2] at this
  exact this

/-- the map D and the rising row l hold the same -/
structure Same (D : DataW Unit) (l : List (Int × Int)) : Prop where
  has : ∀ k, Maps.has D (.int .i64 k) = (lookL k l).isSome
  val : ∀ k v, lookL k l = some v → D.atKey (.int .i64 k) (.lit (.int .i64 0)) = .lit (.int .i64 v)
  size : Maps.size D = l.length
theorem int_ne {k k' : Int} (h : k' ≠ k) : (Lit.int .i64 k') ≠ Lit.int .i64 k := fun e => h (by cases e; rfl)
theorem Same.put {D : DataW Unit} {l : List (Int × Int)} (h : Same D l) (hT : Tidy D) (hr : Rises l) (k v : Int) : Same (D.put (.int .i64 k) (.lit (.int .i64 v))) (insL k v l) := by
  refine ⟨fun k' => ?_, fun k' v' => ?_, ?_⟩
  · rw [lookL_insL]
    by_cases hk : k' = k
    · subst hk; rw [has_put_same (k := .int .i64 k') hT.isMap trivial]; simp
    · rw [has_put_other (int_ne hk), h.has]; simp [hk]
  · rw [lookL_insL]
    by_cases hk : k' = k
    · subst hk
      intro e
      simp at e
      rw [atKey_put_same (k := .int .i64 k') hT.isMap trivial, e]
    · rw [atKey_put_other (int_ne hk), if_neg hk]; exact h.val k' v'
  · rw [size_put hT, h.has, length_insL_eq hr, h.size]
theorem Same.del {D : DataW Unit} {l : List (Int × Int)} (h : Same D l) (hT : Tidy D) (hr : Rises l) (k : Int) : Same (D.del (.int .i64 k)) (delL k l) := by
  refine ⟨fun k' => ?_, fun k' v' => ?_, ?_⟩
  · rw [lookL_delL]
    by_cases hk : k' = k
    · subst hk; rw [has_del_same]; simp
    · rw [has_del_other (int_ne hk), h.has]; simp [hk]
  · rw [lookL_delL]
    by_cases hk : k' = k
    · subst hk; intro e; simp at e
    · rw [atKey_del_other (int_ne hk), if_neg hk]; exact h.val k' v'
  · have h1 := size_del hT (k := .int .i64 k)
    have h2 := length_delL_eq hr (k := k)
    rw [h.has, h.size] at h1
    omega
theorem Same.nil : Same (.map []) [] := ⟨fun k => rfl, fun k v e => (by cases e), rfl⟩

/-- what is left of the first j -/
def ordN (xs : List Int) (bs : List Bool) : Nat → List (Int × Int)
  | 0 => []
  | j + 1 => if bs.getD j false then delL (xs.getD j 0) (ordN xs bs j) else insL (xs.getD j 0) (j : Int) (ordN xs bs j)
theorem ordN_len (xs : List Int) (bs : List Bool) : ∀ j, (ordN xs bs j).length ≤ j
  | 0 => Nat.le_refl _
  | j + 1 => by
    have h1 := ordN_len xs bs j
    have h2 := length_insL (xs.getD j 0) (j : Int) (ordN xs bs j)
    have h3 := length_delL (xs.getD j 0) (ordN xs bs j)
    simp only [ordN]
    split <;> omega

theorem ordN_wf {xs : List Int} {bs : List Bool} (hw : ∀ y ∈ xs, (Lit.int .i64 y).wf = true) : ∀ j, j ≤ xs.length → ∀ e ∈ ordN xs bs j, (Lit.int .i64 e.1).wf = true
  | 0, _, e, he => by cases he
  | j + 1, hj, e, he => by
    have ih := ordN_wf (bs := bs) hw j (by omega)
    simp only [ordN] at he
    split at he
    · unfold delL at he; exact ih e (List.mem_filter.mp he).1
    · rcases mem_insL he with h | h
      · subst h
        refine hw _ ?_
        rw [List.getD_eq_getElem?_getD, List.getElem?_eq_getElem (by omega)]
        exact List.getElem_mem _
      · exact ih e h

def SlB (W : World) (v : Value) (bs : List Bool) : Prop := ∃ a cap, v = .slice a bs.length cap ∧ ∀ i x, bs[i]? = some x → ∃ g off, a = some ⟨g, off, none⟩ ∧ W.cell? ⟨g, off + i, none⟩ = some (.bool x)
theorem open_slb {H : Type} {enc : TypeId × Value → H} {W : World} {base : Nat} {spare : Nat → Bool} {held : Bool} {fuel : Nat} {a : Option Addr} {len cap : Nat} {x : DataW H × List MemPlace} (h : DataW.trod enc Try.prog W base spare held fuel 59 (Value.slice a len cap).cells.toList = some x) :
    ∃ bs, SlB W (.slice a len cap) bs ∧ bs.length ≤ maxLen := by
  rcases open_slice Try.underlying59 h with ⟨hcs, _⟩ | ⟨b, l, c, m, n, D, Pl, hcs, _, hl, hm, hmm, _, hx⟩
  · simp [Value.cells] at hcs
    obtain ⟨rfl, rfl, rfl⟩ := hcs
    exact ⟨[], ⟨none, 0, rfl, fun i x hx => by simp at hx⟩, Nat.zero_le _⟩
  · simp [Value.cells] at hcs
    obtain ⟨rfl, rfl, rfl⟩ := hcs
    have hlm : len ≤ m := by rw [hmm]; split <;> omega
    have hone : Try.prog.cellsOf 4 = 1 := by kernel_rfl
    have each : ∀ i, i < len → ∃ q : Bool, W.cell? (b.add i) = some (.bool q) := by
      intro i hi
      obtain ⟨cs', h1, h2⟩ := hx i (by omega)
      rw [hone] at h1
      obtain ⟨_, hlen, hcell⟩ := World.cells?_some h1
      obtain ⟨q, e, _⟩ := DataW.trod_bool Try.underlying4 h2
      subst e
      have c0 := hcell 0 (by simp)
      rw [add_add] at c0
      exact ⟨q, by simpa using c0⟩
    obtain ⟨q, hq⟩ := choose_lt each
    refine ⟨(List.range len).map q, ⟨some b, cap, by simp, fun i x hx => ?_⟩, by simpa using Nat.le_trans hl hm⟩
    rw [List.getElem?_map] at hx
    by_cases hi : i < len
    · rw [List.getElem?_range hi] at hx
      obtain rfl : q i = x := by simpa using hx
      have c0 := hq i hi
      have hs : b.spot = none := by
        have := spot_none (hq 0 (by omega))
        simpa [Addr.add] using this
      obtain ⟨g, off, sp⟩ := b
      simp at hs
      subst hs
      rw [Addr.add_lit] at c0
      exact ⟨g, off, rfl, c0⟩
    · rw [List.getElem?_eq_none (by simpa using hi)] at hx; cases hx
theorem open_slw {H : Type} {enc : TypeId × Value → H} {W : World} {base : Nat} {spare : Nat → Bool} {held : Bool} {fuel : Nat} {a : Option Addr} {len cap : Nat} {x : DataW H × List MemPlace} (h : DataW.trod enc Try.prog W base spare held fuel 26 (Value.slice a len cap).cells.toList = some x) :
    ∃ xs, SlF W (.slice a len cap) xs ∧ (∀ y ∈ xs, (Lit.int .i64 y).wf = true) ∧ xs.length ≤ maxLen := by
  rcases ChangeShapes.open_ints Try.underlying26 Try.underlying3 (by kernel_rfl) h with ⟨hcs, _⟩ | ⟨b, l, c, zs, hcs, _, hl, hm, hz, _, hcell, hwz⟩
  · simp [Value.cells] at hcs
    obtain ⟨rfl, rfl, rfl⟩ := hcs
    exact ⟨[], ⟨none, 0, rfl, fun i x hx => by simp at hx⟩, fun y hy => (by cases hy), Nat.zero_le _⟩
  · simp [Value.cells] at hcs
    obtain ⟨rfl, rfl, rfl⟩ := hcs
    have hz' : len ≤ zs.length := by rw [hz]; split <;> omega
    have hlen : (zs.take len).length = len := by simp; omega
    refine ⟨zs.take len, ⟨some b, cap, by rw [hlen], fun i y hy => ?_⟩, fun y hy => hwz y (List.mem_of_mem_take hy), by rw [hlen]; omega⟩
    have hi : i < len := by
      rw [← hlen]; exact (List.getElem?_eq_some_iff.mp hy).1
    have hc := hcell i (by omega)
    obtain ⟨g, off, sp⟩ := b
    have hs : sp = none := by
      have := spot_none (hcell 0 (by omega))
      simpa [Addr.add] using this
    subst hs
    rw [Addr.add_lit] at hc
    rw [List.getElem?_take_of_lt hi] at hy
    refine ⟨g, off, rfl, ?_⟩
    rw [hc, List.getD_eq_getElem?_getD, hy]
    rfl

theorem lawInt : Keyed Try.prog 3 := int_keyed Try.underlying3
theorem zeroInt (w : World) : (zeroValue 3).run Try.prog w = .ok (.int .i64 0) w := by kernel_rfl
/-- the map in block bm holds what l holds -/
def OrdM (W : World) (bm n : Nat) (l : List (Int × Int)) : Prop := ∃ D : DataW Unit, W.ownsMap Try.prog 3 (plainElem Try.prog 3) bm n D ∧ Same D l
theorem _root_.Go.World.ownsMap.same {H : Type} {w w' : World} {P : Program} {k : TypeId} {R : Value → Option (DataW H × List MemPlace)} {b n : Nat} {D : DataW H} (h : w.ownsMap P k R b n D) (hb : w'.heap[b]? = w.heap[b]?) : w'.ownsMap P k R b n D := by
  obtain ⟨es, clock, h1, r⟩ := h
  exact ⟨es, clock, hb.trans h1, r⟩
theorem OrdM.grow {A B : World} {bm n : Nat} {l : List (Int × Int)} (h : OrdM A bm n l) (hB : Below A.heap.size A B) : OrdM B bm n l := by
  obtain ⟨D, ho, hs⟩ := h
  exact ⟨D, ho.same (hB.block _ ho.lt), hs⟩
/-- the map's block bears no tree, no box -/
theorem ownsMap_cell {H : Type} {w : World} {P : Program} {k : TypeId} {R : Value → Option (DataW H × List MemPlace)} {b n : Nat} {D : DataW H} (h : w.ownsMap P k R b n D) (i : Nat) : w.cell? ⟨b, i, none⟩ = none := by
  obtain ⟨es, clock, h1, r⟩ := h
  simp [World.cell?, h1]

set_option maxRecDepth 100000 in
set_option maxHeartbeats 4000000 in
theorem order_any (v u : Value) (xs : List Int) (bs : List Bool) (w : World) (hs : SlF w v xs) (hwf : ∀ y ∈ xs, (Lit.int .i64 y).wf = true) (hn : xs.length ≤ 9223372036854775807) (hbs : SlB w u bs) (hn2 : bs.length ≤ 9223372036854775807) :
    Calls Try.prog 8 #[v, u] w fun e w' => e = .returned (.bool true) ∧ Below w.heap.size w w' := by
  obtain ⟨av, cv, rfl, hc⟩ := hs
  obtain ⟨au, cu, rfl, hc2⟩ := hbs
  have HC : Hid (∀ i x, xs[i]? = some x → ∃ g off, av = some ⟨g, off, none⟩ ∧ w.cell? ⟨g, off + i, none⟩ = some (.int .i64 x)) := hc
  have HU : Hid (∀ i x, bs[i]? = some x → ∃ g off, au = some ⟨g, off, none⟩ ∧ w.cell? ⟨g, off + i, none⟩ = some (.bool x)) := hc2
  have HW : Hid (∀ y ∈ xs, (Lit.int .i64 y).wf = true) := hwf
  clear hc hc2 hwf
  have hmm := @run_makeMap Try.prog
  by_cases hbig : 100 < xs.length
  · go_enter Try.func8, Try.ntmps8
    go_wp2
    go_ret
    exact ⟨rfl, Below.refl _ _⟩
  by_cases hlt : bs.length < xs.length
  · go_enter Try.func8, Try.ntmps8
    go_wp2
    go_ret
    exact ⟨rfl, Below.refl _ _⟩
  go_enter Try.func8, Try.ntmps8
  go_wp2_with fail
  refine (New_any w).mono ?_
  rintro e w1 ⟨rfl, hT1, hB1⟩
  have hbt := hT1.lt
  have hM1 : OrdM (w1.alloc (.map #[] 0)) w1.heap.size 0 [] := ⟨.map [], World.ownsMap_made _ _ _ _, Same.nil⟩
  have hB2 : Below w1.heap.size w1 (w1.alloc (.map #[] 0)) := (Below.refl _ _).alloc (Nat.le_refl _) _
  have hT2 := hT1.grow hB2
  have hB3 : Below w.heap.size w (w1.alloc (.map #[] 0)) := hB1.trans (hB2.mono hB1.size)
  have hs1 : w.heap.size ≤ w1.heap.size := hB1.size
  have hne : w.heap.size ≠ w1.heap.size := by omega
  go_wp2
  go_loopw [7] (fun i wr => ∃ j : Nat, i = .int .i64 j ∧ j ≤ xs.length ∧ Tab wr w.heap.size (ordN xs bs j) ∧ OrdM wr w1.heap.size j (ordN xs bs j) ∧ Below w.heap.size w wr) (fun i _ => xs.length - (intOf i).toNat)
  case atStart => exact ⟨0, rfl, Nat.zero_le _, hT2, hM1, hB3⟩
  case round =>
    obtain ⟨j, rfl, hjl, hT, hM, hB⟩ := hrel
    clear hT1 hT2 hM1 hB2 hB3 hB1 hmm
    have hpl := ordN_len xs bs j
    by_cases hgo : j < xs.length
    · obtain ⟨x, hx⟩ : ∃ x, xs[j]? = some x := ⟨xs[j], List.getElem?_eq_getElem hgo⟩
      obtain ⟨d, hd⟩ : ∃ d, bs[j]? = some d := ⟨bs[j], List.getElem?_eq_getElem (by omega)⟩
      have HP : Hid (ordN xs bs (j + 1) = if d then delL x (ordN xs bs j) else insL x (j : Int) (ordN xs bs j)) := by show ordN xs bs (j + 1) = _; simp only [ordN, List.getD_eq_getElem?_getD, hx, hd]; rfl
      obtain ⟨g, off, rfl, d0⟩ := HC.out j x hx
      obtain ⟨g2, off2, rfl, d1⟩ := HU.out j d hd
      have hwx := HW.out x (List.mem_of_getElem? hx)
      have hkey : keyOf Try.prog 3 (.int .i64 x) = some (.int .i64 x) := keyOf_int_mk Try.underlying3 hwx
      have hlo : -9223372036854775808 ≤ x := (bounds_i64 hwx).1
      have hgl : g < w.heap.size := block_lt_of_cell d0
      have hgl2 : g2 < w.heap.size := block_lt_of_cell d1
      have c0 : wr.cell? ⟨g, off + j, none⟩ = some (.int .i64 x) := (hB.cell (p := ⟨g, off + j, none⟩) hgl).trans d0
      have cb : wr.cell? ⟨g2, off2 + j, none⟩ = some (.bool d) := (hB.cell (p := ⟨g2, off2 + j, none⟩) hgl2).trans d1
      obtain ⟨l, hl⟩ : ∃ l, ordN xs bs j = l := ⟨_, rfl⟩
      rw [hl] at hT hM hpl HP
      clear hx hl hd d0 d1 HC HU HW
      have hbr := hT.lt
      have hbz : l.length + 20 < big := by unfold big; omega
      have hrise := hT.rises
      obtain ⟨D, hown, hsame⟩ := hM
      have hml := hown.lt
      have htidy := hown.tidy lawInt
      cases d with
      | true =>
        have hB9 : ∀ {w3 w2 : World}, Below w.heap.size w w2 → w2.mapTurned w3 w1.heap.size → Below w.heap.size w w3 := fun hb ht => hb.grown ht.grown hb.size (fun k hk => by cases hk; omega)
        obtain ⟨bb, hbb⟩ : ∃ bb, (lookL x l).isSome = bb := ⟨_, rfl⟩
        have HBB : Hid ((lookL x l).isSome = bb) := hbb
        have hhas : Maps.has D (.int .i64 x) = bb := (hsame.has x).trans hbb
        have HSD := hsame.del htidy hrise x
        clear hbb hsame htidy
        cases bb
        all_goals
          go_wp2_with (first | (at_lookup; refine wpList_lookup_own_ok_int _ rfl _ _ 60 rfl 3 3 .i64 lawInt Try.underlying60 Try.underlying3 (zeroInt _) w1.heap.size j _ rfl hown _ _ rfl hkey ?_; intro c hat hwc; rw [hhas]; clear hat) | fail)
          refine (Del_any w.heap.size l x wr hT hbz).mono ?_
          rw [HBB.out]
          rintro e w2 ⟨rfl, hT2, hF2⟩
          have hown2 := hown.same (hF2.block w1.heap.size hml (fun e => hne e.symm))
          have hB2 : Below w.heap.size w w2 := hB.trans (hF2.below hB.size (fun k hk hS => by omega))
          have c1 : w2.cell? ⟨g, off + j, none⟩ = some (.int .i64 x) := (World.cell?_of_block (hF2.block g (by omega) (by omega))).trans c0
          go_wp2_with (first | (at_delete; refine wpList_delete_own _ rfl _ _ 60 3 rfl 3 lawInt Try.underlying60 _ w1.heap.size j D rfl hown2 _ _ rfl hkey ?_; intro w3 hown3 hturn3) | fail)
          have hT3 : Tab w3 w.heap.size (delL x l) := hT2.frm (S := (· = w1.heap.size)) ⟨hturn3.grown.os, hturn3.grown.tape, hturn3.grown.output, hturn3.grown.size, fun k hk hS => hturn3.grown.block k hk (fun e => hS (by cases e; rfl))⟩ hne (fun k hk => by cases hk; exact ownsMap_cell hown2 4)
          have hB3 := hB9 hB2 hturn3
          go_roundw
          case rel => exact ⟨j + 1, by go_num, by omega, by rw [HP.out]; exact hT3, by rw [HP.out]; exact ⟨_, hown3.mono (Nat.le_succ _), HSD⟩, hB3⟩
          case measure => simp [intOf]; omega
      | false =>
        have HSD := hsame.put htidy hrise x (j : Int)
        have hwj : (Lit.int .i64 (j : Int)).wf = true := WalkArith.wf_i64 (by omega)
        clear hsame htidy
        go_wp2_with fail
        refine (Set_any w.heap.size l x j wr hT hbz hlo).mono ?_
        rintro e w2 ⟨⟨y, rfl⟩, hT2, hF2⟩
        have hown2 := hown.same (hF2.block w1.heap.size hml (fun e => hne e.symm))
        have hB2 : Below w.heap.size w w2 := hB.trans (hF2.below hB.size (fun k hk hS => by omega))
        have c1 : w2.cell? ⟨g, off + j, none⟩ = some (.int .i64 x) := (World.cell?_of_block (hF2.block g (by omega) (by omega))).trans c0
        clear c0 hT cb hB hown
        go_wp2_with (first | (at_mapUpdate; refine wpList_mapUpdate_own _ rfl _ _ _ 60 rfl 3 3 lawInt Try.underlying60 _ w1.heap.size j _ rfl hown2 (by unfold maxLen; omega) _ _ _ rfl rfl hkey _ [] (plainElem_int Try.underlying3 hwj) ?_; intro w3 hown3 hgrow3) | fail)
        have hT3 : Tab w3 w.heap.size (insL x j l) := hT2.frm (S := (· = w1.heap.size)) ⟨hgrow3.os, hgrow3.tape, hgrow3.output, hgrow3.size, fun k hk hS => hgrow3.block k hk (fun e => hS (by cases e; rfl))⟩ hne (fun k hk => by cases hk; exact ownsMap_cell hown2 4)
        have hB3 : Below w.heap.size w w3 := hB2.grown hgrow3 hB2.size (fun k hk => by cases hk; omega)
        go_roundw
        case rel => exact ⟨j + 1, by go_num, by omega, by rw [HP.out]; exact hT3, by rw [HP.out]; exact ⟨_, hown3, HSD⟩, hB3⟩
        case measure => simp [intOf]; omega
    · obtain ⟨l, hl⟩ : ∃ l, ordN xs bs j = l := ⟨_, rfl⟩
      have HWL : Hid (∀ e ∈ l, (Lit.int .i64 e.1).wf = true) := by rw [← hl]; exact ordN_wf HW.out j hjl
      rw [hl] at hT hM hpl
      clear hl HC HU HW
      have hll : l.length ≤ 100 := by omega
      have hrise := hT.rises
      have hlk : (keysL l).length = l.length := by simp [keysL]
      go_wp2_with fail
      refine (Keys_any (some ⟨w.heap.size, 0, none⟩) l wr (.inr ⟨_, rfl, hT⟩) (by omega)).mono ?_
      rintro e w2 ⟨vk, rfl, hrow, hB2⟩
      rw [ints1_eq] at hrow
      have hsl : Sl w2 vk (keysL l) := Sl.of_row (b := wr.heap.size) (e := 3) (by rw [hlk]; exact hrow)
      obtain ⟨ak, ck, rfl, hck⟩ := hsl.form
      have HCK : Hid (∀ i x, (keysL l)[i]? = some x → ∃ g off, ak = some ⟨g, off, none⟩ ∧ w2.cell? ⟨g, off + i, none⟩ = some (.int .i64 x)) := hck
      have hT2 := hT.grow hB2
      obtain ⟨D, hown2, hsame⟩ := hM.grow hB2
      have hB3 := hB.trans (hB2.mono hB.size)
      have HSM : Hid (Same D l) := hsame
      have hsz : Maps.size D = l.length := hsame.size
      rw [hlk]
      clear hsl hck hrow hB2 hT hM hB hsame hjl hgo
      go_wp2
      go_loopw [11] (fun i WR => ∃ j : Nat, i = .int .i64 j ∧ j ≤ l.length ∧ Below w2.heap.size w2 WR) (fun i _ => l.length - (intOf i).toNat)
      case atStart => exact ⟨0, rfl, Nat.zero_le _, Below.refl _ _⟩
      case round =>
        obtain ⟨i, rfl, hil, hB4⟩ := hrel
        have hT4 := hT2.grow hB4
        have hown4 := hown2.same (hB4.block _ hown2.lt)
        by_cases hgo2 : i < l.length
        · obtain ⟨⟨k, val⟩, he⟩ : ∃ e, l[i]? = some e := ⟨l[i], List.getElem?_eq_getElem hgo2⟩
          have hlook : lookL k l = some val := look_at hrise he
          have hkey : keyOf Try.prog 3 (.int .i64 k) = some (.int .i64 k) := keyOf_int_mk Try.underlying3 (HWL.out _ (List.mem_of_getElem? he))
          have hhas : Maps.has D (.int .i64 k) = true := by rw [HSM.out.has, hlook]; rfl
          have HV := HSM.out.val k val hlook
          obtain ⟨gk, ok, rfl, ck0⟩ := HCK.out i k (by unfold keysL; rw [List.getElem?_map, he]; rfl)
          have hgk : gk < w2.heap.size := block_lt_of_cell ck0
          have c0 : wr.cell? ⟨gk, ok + i, none⟩ = some (.int .i64 k) := (hB4.cell (p := ⟨gk, ok + i, none⟩) hgk).trans ck0
          by_cases h0 : i = 0
          · have hd1 : decide ((0 : Int) < (i : Int)) = false := decide_eq_false (by omega)
            have hd2 : decide (0 < i) = false := decide_eq_false (by omega)
            clear he ck0 h0
            go_wp2_with fail
            refine (Get_any (some ⟨w.heap.size, 0, none⟩) l k wr (.inr ⟨_, rfl, hT4⟩)).mono ?_
            rw [hlook]
            rintro e w5 ⟨rfl, rfl⟩
            go_wp2_with (first | (at_lookup; refine wpList_lookup_own_ok_int _ rfl _ _ 60 rfl 3 3 .i64 lawInt Try.underlying60 Try.underlying3 (zeroInt _) w1.heap.size j _ rfl hown4 _ _ rfl hkey ?_; intro c hat hwc; rw [hhas]; obtain rfl : c = val := (by rw [HV] at hat; cases hat; rfl)) | fail)
            go_quiet (fail)
            go_wp2
            go_roundw
            case rel => exact ⟨i + 1, by go_num, by omega, dn hB4 _⟩
            case measure => simp [intOf]; omega
          · obtain ⟨q, hq⟩ : ∃ q, i = q + 1 := ⟨i - 1, by omega⟩
            obtain ⟨⟨k0, val0⟩, he0⟩ : ∃ e, l[q]? = some e := ⟨l[q], List.getElem?_eq_getElem (by omega)⟩
            have hk0 : k0 < k := rise_at hrise (by omega) he0 he
            obtain ⟨gk', ok', hak, ck1⟩ := HCK.out q k0 (by unfold keysL; rw [List.getElem?_map, he0]; rfl)
            cases hak
            have c1 : wr.cell? ⟨gk, ok + q, none⟩ = some (.int .i64 k0) := (hB4.cell (p := ⟨gk, ok + q, none⟩) hgk).trans ck1
            have hi0 : (0 : Int) < (i : Int) := by omega
            have hi1 : 0 < i := by omega
            have hd1 : decide ((0 : Int) < (i : Int)) = true := decide_eq_true hi0
            have hd2 : decide (0 < i) = true := decide_eq_true hi1
            have hsub : (i : Int) - 1 = (q : Int) := by omega
            have hql : (q : Int) < (l.length : Int) := by omega
            have hql2 : q < l.length := by omega
            have hwq : IntKind.i64.wrap (q : Int) = (q : Int) := wrapS (by omega) (by omega)
            clear he he0 ck0 ck1 hq h0
            go_wp2_with fail
            refine (Get_any (some ⟨w.heap.size, 0, none⟩) l k wr (.inr ⟨_, rfl, hT4⟩)).mono ?_
            rw [hlook]
            rintro e w5 ⟨rfl, rfl⟩
            go_wp2_with (first | (at_lookup; refine wpList_lookup_own_ok_int _ rfl _ _ 60 rfl 3 3 .i64 lawInt Try.underlying60 Try.underlying3 (zeroInt _) w1.heap.size j _ rfl hown4 _ _ rfl hkey ?_; intro c hat hwc; rw [hhas]; obtain rfl : c = val := (by rw [HV] at hat; cases hat; rfl)) | fail)
            go_quiet (fail)
            go_wp2
            go_roundw
            case rel => exact ⟨i + 1, by go_num, by omega, dn hB4 _⟩
            case measure => simp [intOf]; omega
        · have hi : i = l.length := by omega
          clear HCK HSM HWL
          go_wp2_with (first | (at_len; refine wpList_len_own _ rfl _ 60 rfl 3 3 Try.underlying60 _ w1.heap.size j D rfl hown4 ?_; rw [hsz]) | (go_at_call 16; refine (known_any _).mono ?_; rintro e w9 ⟨rfl, hB9⟩))
          go_ret
          have hB10 := hB3.trans (hB4.mono hB3.size)
          exact ⟨rfl, hB10.trans (hB9.mono hB10.size)⟩

end Go.Proofs.Ytgafmckiomhceaa
