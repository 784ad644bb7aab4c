/- Scripts of acts: how they lie in memory, what is left of both tables behind them. -/
import Derived.Test.YtgafmckiomhceabWalkL
import Derived.Deep.Slices
import Derived.Deep.Strs
import Derived.OpenShut
namespace Go.Proofs.Ytgafmckiomhceab
open Go.RowKit Go.Hold Go.Inv Go.Shelf Go.Deep
set_option linter.unusedVariables false

/-- v is a slice of these acts -/
def Acts (W : World) (v : Value) (az : List (Int × Int × Int)) : Prop := ∃ av cv, v = .slice av az.length cv ∧ ∀ i x, az[i]? = some x → ∃ g off, av = some ⟨g, off, none⟩ ∧ W.cell? ⟨g, off + i * 3, none⟩ = some (.int .i64 x.1) ∧ W.cell? ⟨g, off + i * 3 + 1, none⟩ = some (.int .i64 x.2.1) ∧ W.cell? ⟨g, off + i * 3 + 2, none⟩ = some (.int .i64 x.2.2) ∧ -9223372036854775808 ≤ x.2.1
theorem Acts.below {A B : World} {n : Nat} {v : Value} {az : List (Int × Int × Int)} (h : Acts A v az) (hn : A.heap.size ≤ n) (hB : Below n A B) : Acts B v az := by
  obtain ⟨av, cv, hv, hc⟩ := h
  refine ⟨av, cv, hv, fun i x hx => ?_⟩
  obtain ⟨g, off, ha, c0, c1, c2, hr⟩ := hc i x hx
  have hl : g < n := Nat.lt_of_lt_of_le (block_lt_of_cell c0) hn
  exact ⟨g, off, ha, (hB.cell (p := ⟨g, _, none⟩) hl).trans c0, (hB.cell (p := ⟨g, _, none⟩) hl).trans c1, (hB.cell (p := ⟨g, _, none⟩) hl).trans c2, hr⟩

theorem cellsInt : Try.prog.cellsOf 3 = 1 := by kernel_rfl
theorem spot_none {W : World} {a : Addr} {v : Value} (h : W.cell? a = some v) : a.spot = none := by
  cases hs : a.spot with
  | none => rfl
  | some z =>
    simp [World.cell?, hs] at h
    split at h <;> cases h

/-- what is left behind the first j acts -/
def plays : List (Int × Int × Int) → List (Int × Int) → List (Int × Int)
  | [], l => l
  | x :: r, l => plays r (stepL x.1 x.2.1 x.2.2 l)
theorem plays_snoc (az : List (Int × Int × Int)) (x : Int × Int × Int) : ∀ l, plays (az ++ [x]) l = stepL x.1 x.2.1 x.2.2 (plays az l) := by
  induction az with
  | nil => intro l; rfl
  | cons a az ih => intro l; exact ih _
theorem plays_len : ∀ (az : List (Int × Int × Int)) (l : List (Int × Int)), (plays az l).length ≤ l.length + az.length
  | [], l => by simp [plays]
  | x :: r, l => by
    have h1 := plays_len r (stepL x.1 x.2.1 x.2.2 l)
    have h2 := stepL_len x.1 x.2.1 x.2.2 l
    simp only [plays, List.length_cons]
    omega
theorem plays_take {az : List (Int × Int × Int)} {j : Nat} {x : Int × Int × Int} (hx : az[j]? = some x) : plays (az.take (j + 1)) [] = stepL x.1 x.2.1 x.2.2 (plays (az.take j) []) := by
  rw [List.take_add_one, hx]
  exact plays_snoc _ _ _
theorem plays_take_len (az : List (Int × Int × Int)) (j : Nat) : (plays (az.take j) []).length ≤ j := by
  have := plays_len (az.take j) []
  have h2 : (az.take j).length ≤ j := List.length_take_le _ _
  simp at this
  omega

/-- a new reference -/
theorem Ref.new (W : World) : Ref (W.alloc (.cells #[.slice none 0 0, .slice none 0 0] 27)) W.heap.size [] := ⟨_, _, World.alloc_heap_new W _, .inl ⟨rfl, rfl⟩, .inl ⟨rfl, rfl⟩⟩

/-- s[:n] of numbers -/
theorem wpList_to {w : World} {ops : Array Oper} {rest : List Oper} {o : Oper} {a : Act} {Q : Exit → Act → World → Prop} (hw : Region.wanted o (yielded ops a.tmps) = true) (s x : Operand) (hop : o.op = Op.slice 22 s none (some x) none)
    (v : Value) (A : List Int) (pI : Int) (hs : a.eval s = v) (hx : a.eval x = .int .i64 pI) (hv : Sl w v A) (h0 : 0 ≤ pI) (hpA : pI ≤ (A.length : Int)) (h : ∀ v', Sl w v' (A.take pI.toNat) → wpList Try.prog ops Q rest (a.put o.dst v') w) : wpList Try.prog ops Q (o :: rest) a w := by
  obtain ⟨p, rfl⟩ := Int.eq_ofNat_of_zero_le h0
  have hp : p ≤ A.length := by omega
  rw [Int.toNat_natCast] at h
  refine wanted_step hw fun K hK => ?_
  rcases hv.take with ⟨e, hA0⟩ | ⟨g, off, cap, e, hcap, ht, hd⟩
  · obtain rfl : p = 0 := by rw [hA0] at hp; simpa using hp
    have h' := h (.slice none 0 0) (.inl ⟨rfl, by rw [hA0]; simp⟩)
    unfold Oper.wp execOp
    simp only [hop, hs, Option.map_some, hx, e]
    go_simp
    exact hK _ _ h'
  · have h' := h _ (ht p hp)
    have hpc : p ≤ cap := by omega
    unfold Oper.wp execOp
    simp only [hop, hs, Option.map_some, hx, e]
    go_simp
    exact hK _ _ h'

/-- told(t.From(f), most), behind From, as slices of numbers -/
theorem toldSl_any (p : Option Addr) (ls : List (Int × Int)) (f most : Int) (w : World) (hTab : TabP w p ls) (hL : ls.length ≤ 100000) (hm : 0 ≤ most) (hm2 : most < 4611686018427387904) :
    Calls Try.prog 7 #[.func (.func 15) #[] #[.pointer (some ⟨w.heap.size, 0, none⟩), .pointer (some ⟨w.heap.size + 1, 0, none⟩)], .int .i64 most] ((w.alloc (.cells #[.pointer p] 23)).alloc (.cells #[.int .i64 f] 3)) fun e w' => ∃ vk vv, e = .returned (.tuple #[vk, vv]) ∧
      Sl w' vk (keysL ((fromL f ls).take most.toNat)) ∧ Sl w' vv (valsL ((fromL f ls).take most.toNat)) ∧ Below w.heap.size w w' := by
  by_cases h0 : most = 0
  · subst h0
    have hB := two_new w (.cells #[.pointer p] 23) (.cells #[.int .i64 f] 3)
    refine (told_zero _ _ 0 _ (by omega)).mono ?_
    rintro e w' ⟨rfl, h3⟩
    exact ⟨_, _, rfl, .inl ⟨rfl, rfl⟩, .inl ⟨rfl, rfl⟩, hB.trans (h3.mono hB.size)⟩
  · refine (toldFrom_any p ls f most w hTab hL (by omega) hm2).mono ?_
    rintro e w' ⟨vk, vv, rfl, h1, h2, h3⟩
    rw [ints1_eq] at h1
    rw [ints2_eq] at h2
    refine ⟨vk, vv, rfl, Sl.of_row (b := w.heap.size) (e := 3) ?_, Sl.of_row (b := w.heap.size) (e := 3) ?_, h3⟩
    · rw [show (keysL ((fromL f ls).take most.toNat)).length = ((fromL f ls).take most.toNat).length by simp only [keysL, List.length_map]]; exact h1
    · rw [show (valsL ((fromL f ls).take most.toNat)).length = ((fromL f ls).take most.toNat).length by simp only [valsL, List.length_map]]; exact h2
theorem Ref.open {W : World} {rt : Nat} {l : List (Int × Int)} (h : Ref W rt l) : ∃ ak ck av cv, W.heap[rt]? = some (.cells #[.slice ak l.length ck, .slice av l.length cv] 27 (0, 0)) ∧ Sl W (.slice ak l.length ck) (keysL l) ∧ Sl W (.slice av l.length cv) (valsL l) := by
  obtain ⟨vk, vv, hb, hk, hv⟩ := h
  obtain ⟨ak, ck, rfl, _⟩ := hk.form
  obtain ⟨av, cv, rfl, _⟩ := hv.form
  have e1 : (keysL l).length = l.length := by simp [keysL]
  have e2 : (valsL l).length = l.length := by simp [valsL]
  rw [e1] at hk
  rw [e2] at hv
  rw [e1, e2] at hb
  exact ⟨ak, ck, av, cv, hb, hk, hv⟩

end Go.Proofs.Ytgafmckiomhceab
