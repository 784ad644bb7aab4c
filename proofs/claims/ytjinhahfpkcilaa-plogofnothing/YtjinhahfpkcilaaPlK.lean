/- A transaction's key, and where it stands: a map. No condition but that its numbers are small. -/
import Derived.Test.YtjinhahfpkcilaaPlM
import Derived.Test.YtjinhahfpkcilaaRowA
import Derived.Maps.Keyed
import Derived.Maps.Own
import Derived.Maps.OwnSet
import Derived.DeepKeys4
namespace Go.Proofs.Ytjinhahfpkcilaa
open Go.RowKit Go.Dig Go.Inv
set_option linter.unusedVariables false
set_option linter.unusedSimpArgs false

def kyC (x : Ky) : Array Value := #[.int .i64 x.1, .int .i64 x.2.1, .int .i64 x.2.2]
def Ky.In (x : Ky) : Prop := (0 ≤ x.1 ∧ x.1 ≤ 200) ∧ (0 ≤ x.2.1 ∧ x.2.1 ≤ 200) ∧ (0 ≤ x.2.2 ∧ x.2.2 ≤ 200)
theorem key_keyed : Maps.Keyed Try.prog 76 := Maps.Keyed.of_law (deep_law_laid (by kernel_rfl) (m := 3) (by decide) (of_decide_eq_true (by kernel_rfl)) (by kernel_rfl) (by kernel_rfl))
def kyLit (x : Ky) : Lit := .string (keyBytes [Lit.int .i64 x.1, Lit.int .i64 x.2.1, Lit.int .i64 x.2.2])
theorem i64_wf {z : Int} (h : 0 ≤ z ∧ z ≤ 200) : (Lit.int .i64 z).wf = true := by
  simp only [Lit.wf, Bool.and_eq_true, decide_eq_true_eq]
  have h1 : IntKind.max .i64 = 9223372036854775807 := rfl
  have h2 : IntKind.min .i64 = -9223372036854775808 := rfl
  omega
theorem kl_int (d : Nat) {z : Int} (h : 0 ≤ z ∧ z ≤ 200) : Try.prog.keyLits (d + 1) 3 [.int .i64 z] = some [Lit.int .i64 z] := by
  have hu : Try.prog.underlying 3 = some (.int .i64) := by kernel_rfl
  unfold Program.keyLits
  simp only [hu]
  rw [if_pos ⟨trivial, i64_wf h⟩]
set_option maxRecDepth 10000 in
theorem ky_keyOf (x : Ky) (h : x.In) : keyOf Try.prog 76 (.agg (kyC x)) = some (kyLit x) := by
  have hk : Try.prog.keyType 76 = true := by kernel_rfl
  have hc : Try.prog.cellsOf 76 = 3 := by kernel_rfl
  have hci : Try.prog.cellsOf 3 = 1 := by kernel_rfl
  obtain ⟨d, hd⟩ : ∃ d, Try.prog.types.size = d + 1 := ⟨Try.prog.types.size - 1, by have : 0 < Try.prog.types.size := of_decide_eq_true (by kernel_rfl); omega⟩
  have hfm : (Value.agg (kyC x)).formed Try.prog 76 = true := by
    unfold Value.formed
    simp only [Try.underlying76, hc]
    rfl
  unfold keyOf
  rw [hd]
  simp only [Try.underlying76, hk, hfm, Bool.and_self, if_true, Value.cells]
  unfold Program.keyLits
  simp only [Try.underlying76, hc]
  rw [if_pos (by refine ⟨rfl, by simp⟩)]
  simp only [List.mapM_cons, List.mapM_nil, hci, kyC, List.drop_zero, List.drop_succ_cons, List.take_succ_cons, List.take_zero]
  rw [kl_int d h.1, kl_int d h.2.1, kl_int d h.2.2]
  rfl
theorem kyLit_inj {x y : Ky} (hx : x.In) (hy : y.In) (h : kyLit x = kyLit y) : x = y := by
  have h1 := ky_keyOf x hx
  rw [h] at h1
  have h2 := key_keyed.inj h1 (ky_keyOf y hy)
  obtain ⟨a, b, c⟩ := x
  obtain ⟨a', b', c'⟩ := y
  simp [kyC] at h2
  obtain ⟨rfl, rfl, rfl⟩ := h2
  rfl
/-- a map of the keys' places -/
def MapP (w : World) (mb : Nat) (K : List Ky) : Prop := ∃ (n : Nat) (D : DataW Nat), w.ownsMap Try.prog 76 (plainElem Try.prog 3) mb n D ∧ n ≤ K.length ∧
  ∀ x : Ky, x.In → Maps.has D (kyLit x) = (idxK x K).isSome ∧ ∀ (i : Nat) (z : DataW Nat), idxK x K = some i → D.atKey (kyLit x) z = .lit (.int .i64 (i : Int))
theorem zero_int (w : World) : (zeroValue 3).run Try.prog w = .ok (.int .i64 0) w := by simp [go_sem]
theorem und_map : Try.prog.underlying 66 = some (.map 76 3) := by kernel_rfl
theorem und_int : Try.prog.underlying 3 = some (.int .i64) := by kernel_rfl
theorem MapP.look {w : World} {mb : Nat} {K : List Ky} (h : MapP w mb K) {x : Ky} (hx : x.In) : (Instr.lookup 66 (.map (some mb)) (.agg (kyC x)) true).run Try.prog w = .ok (.tuple #[.int .i64 (((idxK x K).getD 0 : Nat) : Int), .bool (idxK x K).isSome]) w := by
  obtain ⟨n, D, hD, -, hk⟩ := h
  obtain ⟨h1, h2⟩ := hk x hx
  obtain ⟨v, ps, hrun, hv⟩ := hD.look_ok key_keyed und_map (zero_int w) (plainElem_int und_int (by decide : (Lit.int .i64 0).wf = true)) (ky_keyOf x hx)
  rw [hrun, h1]
  obtain ⟨c, rfl, hc, -⟩ := plainElem_int_inv und_int hv
  simp only [Prod.mk.injEq] at hc
  cases hi : idxK x K with
  | none =>
    rw [hi] at h1
    rw [Maps.atKey_of_not_has h1] at hc
    simp at hc
    simp [hc.1]
  | some i =>
    rw [h2 i _ hi] at hc
    simp at hc
    simp [hc.1]
theorem look_none (w : World) {x : Ky} (hx : x.In) : (Instr.lookup 66 (.map none) (.agg (kyC x)) true).run Try.prog w = .ok (.tuple #[.int .i64 0, .bool false]) w :=
  Maps.look_nil true key_keyed und_map (zero_int w) (ky_keyOf x hx)
theorem MapP.made (w : World) : MapP (w.alloc (.map #[] 0)) w.heap.size [] := ⟨0, .map [], World.ownsMap_made w _ _ _, Nat.le_refl _, fun x _ => ⟨rfl, fun i z h => by cases h⟩⟩
theorem MapP.lt {w : World} {mb : Nat} {K : List Ky} (h : MapP w mb K) : mb < w.heap.size := by obtain ⟨n, D, hD, _⟩ := h; exact hD.lt
theorem MapP.same {w w' : World} {mb : Nat} {K : List Ky} (h : MapP w mb K) (hb : w'.heap[mb]? = w.heap[mb]?) : MapP w' mb K := by
  obtain ⟨n, D, ⟨es, clock, h1, h2⟩, h3, h4⟩ := h
  exact ⟨n, D, ⟨es, clock, hb.trans h1, h2⟩, h3, h4⟩
theorem MapP.put {w : World} {mb : Nat} {K : List Ky} (h : MapP w mb K) {x : Ky} (hx : x.In) (hn : x ∉ K) (hl : K.length < 100000) :
    ∃ w', (Instr.mapUpdate 66 (.map (some mb)) (.agg (kyC x)) (.int .i64 (K.length : Int))).run Try.prog w = .ok () w' ∧ MapP w' mb (K ++ [x]) ∧ w.grownBy w' (some mb) := by
  obtain ⟨n, D, hD, hnl, hk⟩ := h
  have hwf : (Lit.int .i64 (K.length : Int)).wf = true := by
    simp only [Lit.wf, Bool.and_eq_true, decide_eq_true_eq]
    have h1 : IntKind.max .i64 = 9223372036854775807 := rfl
    have h2 : IntKind.min .i64 = -9223372036854775808 := rfl
    omega
  obtain ⟨w', hrun, hD', hg⟩ := hD.update key_keyed und_map (by unfold maxLen; omega) (ky_keyOf x hx) (plainElem_int und_int hwf)
  refine ⟨w', hrun, ⟨n + 1, _, hD', by simp; omega, fun y hy => ?_⟩, hg⟩
  rw [idxK_app hn]
  by_cases hxy : y = x
  · subst hxy
    rw [if_pos rfl]
    refine ⟨Maps.has_put_same hD.isMap (key_keyed.key (ky_keyOf y hy)) _, fun i z hi => ?_⟩
    cases hi
    exact Maps.atKey_put_same hD.isMap (key_keyed.key (ky_keyOf y hy)) _ _
  · rw [if_neg hxy]
    have hne : kyLit y ≠ kyLit x := fun e => hxy (kyLit_inj hy hx e)
    obtain ⟨h1, h2⟩ := hk y hy
    refine ⟨by rw [Maps.has_put_other hne]; exact h1, fun i z hi => ?_⟩
    rw [Maps.atKey_put_other hne]
    exact h2 i z hi
end Go.Proofs.Ytjinhahfpkcilaa
