/- A table in memory, and the contracts of its calls that range over nothing. For every table of fewer than 2^40 entries. -/
import Derived.Test.YtoihfhlelbdboabTabRpC
import Derived.RangeFuncBox
import Derived.Test.YtoihfhlelbdboabInv4
import Derived.Deep.CutRange
import Derived.Test.YtoihfhlelbdboabTabS
namespace Go.Proofs.Ytoihfhlelbdboab.Rp
open Go.Proofs Go.RowKit Go.Hold Go.Inv
set_option linter.unusedSimpArgs false
set_option linter.unusedVariables false

/-- A tree lies on where no block of five cells has turned. -/
theorem IsT.frm {S : Nat → Prop} {A B : World} (h : Frm S A B) (hS : ∀ k, S k → A.cell? ⟨k, 6, none⟩ = none) : ∀ {p : Option Addr} {t : BT Rp3}, IsT A.heap.size A p t → IsT B.heap.size B p t
  | _, .nil, ht => ht
  | _, .node _ _ _ _, ⟨b, pl, pr, hp, hb, h0, h1, h1x, h1xx, h2, h3, h4, hl, hr⟩ => by
    have hn : ¬ S b := fun hs => by rw [hS b hs] at h4; cases h4
    have hc : ∀ i, B.cell? ⟨b, i, none⟩ = A.cell? ⟨b, i, none⟩ := fun i => World.cell?_of_block (h.block b hb hn)
    exact ⟨b, pl, pr, hp, Nat.lt_of_lt_of_le hb h.size, (hc 0).trans h0, (hc 1).trans h1, (hc 2).trans h1x, (hc 3).trans h1xx, (hc 4).trans h2, (hc 5).trans h3, (hc 6).trans h4, IsT.frm h hS hl, IsT.frm h hS hr⟩
theorem T.frm {S : Nat → Prop} {A B : World} (h : Frm S A B) (hS : ∀ k, S k → A.cell? ⟨k, 6, none⟩ = none) {p : Option Addr} {t : BT Rp3} (ht : T A p t) : T B p t := IsT.frm h hS ht


theorem IsT.frm0 {S : Nat → Prop} {A B : World} (h : Frm S A B) (hS : ∀ k, S k → ∀ z, A.cell? ⟨k, 0, none⟩ ≠ some (.int .i64 z)) : ∀ {p : Option Addr} {t : BT Rp3}, IsT A.heap.size A p t → IsT B.heap.size B p t
  | _, .nil, ht => ht
  | _, .node _ _ _ _, ⟨b, pl, pr, hp, hb, h0, h1, h1x, h1xx, h2, h3, h4, hl, hr⟩ => by
    have hn : ¬ S b := fun hs => hS b hs _ h0
    have hc : ∀ i, B.cell? ⟨b, i, none⟩ = A.cell? ⟨b, i, none⟩ := fun i => World.cell?_of_block (h.block b hb hn)
    exact ⟨b, pl, pr, hp, Nat.lt_of_lt_of_le hb h.size, (hc 0).trans h0, (hc 1).trans h1, (hc 2).trans h1x, (hc 3).trans h1xx, (hc 4).trans h2, (hc 5).trans h3, (hc 6).trans h4, IsT.frm0 h hS hl, IsT.frm0 h hS hr⟩
theorem T.frm0 {S : Nat → Prop} {A B : World} (h : Frm S A B) (hS : ∀ k, S k → ∀ z, A.cell? ⟨k, 0, none⟩ ≠ some (.int .i64 z)) {p : Option Addr} {t : BT Rp3} (ht : T A p t) : T B p t := IsT.frm0 h hS ht


theorem IsT.frmL {S : Nat → Prop} {A B : World} (h : Frm S A B) (hS : ∀ k, S k → ∀ z, A.cell? ⟨k, 5, none⟩ ≠ some (.pointer z)) : ∀ {p : Option Addr} {t : BT Rp3}, IsT A.heap.size A p t → IsT B.heap.size B p t
  | _, .nil, ht => ht
  | _, .node _ _ _ _, ⟨b, pl, pr, hp, hb, h0, h1, h1x, h1xx, h2, h3, h4, hl, hr⟩ => by
    have hn : ¬ S b := fun hs => hS b hs _ h3
    have hc : ∀ i, B.cell? ⟨b, i, none⟩ = A.cell? ⟨b, i, none⟩ := fun i => World.cell?_of_block (h.block b hb hn)
    exact ⟨b, pl, pr, hp, Nat.lt_of_lt_of_le hb h.size, (hc 0).trans h0, (hc 1).trans h1, (hc 2).trans h1x, (hc 3).trans h1xx, (hc 4).trans h2, (hc 5).trans h3, (hc 6).trans h4, IsT.frmL h hS hl, IsT.frmL h hS hr⟩
theorem T.frmL {S : Nat → Prop} {A B : World} (h : Frm S A B) (hS : ∀ k, S k → ∀ z, A.cell? ⟨k, 5, none⟩ ≠ some (.pointer z)) {p : Option Addr} {t : BT Rp3} (ht : T A p t) : T B p t := IsT.frmL h hS ht


/-- No key is below the least int. -/
def Lo (l : List (Int × Rp3)) : Prop := ∀ x ∈ l, -9223372036854775808 ≤ x.1
theorem Lo.ins {l : List (Int × Rp3)} (h : Lo l) {k : Int} (v : Rp3) (hk : -9223372036854775808 ≤ k) : Lo (insL k v l) := fun x hx => by
  rcases mem_insL hx with rfl | hx
  · exact hk
  · exact h x hx
theorem Lo.del {l : List (Int × Rp3)} (h : Lo l) (k : Int) : Lo (delL k l) := fun x hx => h x (List.mem_filter.1 hx).1

/-- Block bt is a table of the entries l. -/
def Tab (W : World) (bt : Nat) (l : List (Int × Rp3)) : Prop := ∃ p t, Boxed W bt 86 (.pointer p) ∧ T W p t ∧ t.toL = l ∧ Rises l ∧ Lo l
theorem Tab.lt {W : World} {bt : Nat} {l : List (Int × Rp3)} (h : Tab W bt l) : bt < W.heap.size := by obtain ⟨p, t, hb, _⟩ := h; exact hb.lt
theorem Tab.cell4 {W : World} {bt : Nat} {l : List (Int × Rp3)} (h : Tab W bt l) : W.cell? ⟨bt, 6, none⟩ = none := by obtain ⟨p, t, hb, _⟩ := h; exact (hb.cellN (by decide))
theorem Tab.rises {W : World} {bt : Nat} {l : List (Int × Rp3)} (h : Tab W bt l) : Rises l := by obtain ⟨p, t, hb, _, _, h⟩ := h; exact h.1
theorem Tab.lo {W : World} {bt : Nat} {l : List (Int × Rp3)} (h : Tab W bt l) : Lo l := by obtain ⟨p, t, hb, _, _, h⟩ := h; exact h.2
theorem Tab.frm {S : Nat → Prop} {A B : World} {bt : Nat} {l : List (Int × Rp3)} (ht : Tab A bt l) (h : Frm S A B) (hn : ¬ S bt) (hS : ∀ k, S k → A.cell? ⟨k, 6, none⟩ = none) : Tab B bt l := by
  obtain ⟨p, t, hb, hT, hl, hr⟩ := ht
  exact ⟨p, t, hb.frm h hn, hT.frm h hS, hl, hr⟩
theorem Tab.frm0 {S : Nat → Prop} {A B : World} {bt : Nat} {l : List (Int × Rp3)} (ht : Tab A bt l) (h : Frm S A B) (hn : ¬ S bt) (hS : ∀ k, S k → ∀ z, A.cell? ⟨k, 0, none⟩ ≠ some (.int .i64 z)) : Tab B bt l := by
  obtain ⟨p, t, hb, hT, hl, hr⟩ := ht
  exact ⟨p, t, hb.frm h hn, hT.frm0 h hS, hl, hr⟩
theorem Tab.frmL {S : Nat → Prop} {A B : World} {bt : Nat} {l : List (Int × Rp3)} (ht : Tab A bt l) (h : Frm S A B) (hn : ¬ S bt) (hS : ∀ k, S k → ∀ z, A.cell? ⟨k, 5, none⟩ ≠ some (.pointer z)) : Tab B bt l := by
  obtain ⟨p, t, hb, hT, hl, hr⟩ := ht
  exact ⟨p, t, hb.frm h hn, hT.frmL h hS, hl, hr⟩
theorem Tab.grow {A B : World} {bt : Nat} {l : List (Int × Rp3)} (ht : Tab A bt l) (h : Below A.heap.size A B) : Tab B bt l := by
  obtain ⟨p, t, hb, hT, hl, hr⟩ := ht
  exact ⟨p, t, hb.grow h, hT.grow h, hl, hr⟩

/-- The pointer is nil and there is nothing, or it is a table's. -/
def TabP (W : World) (p : Option Addr) (l : List (Int × Rp3)) : Prop := (p = none ∧ l = []) ∨ ∃ bt, p = some ⟨bt, 0, none⟩ ∧ Tab W bt l
theorem TabP.grow {A B : World} {p : Option Addr} {l : List (Int × Rp3)} (ht : TabP A p l) (h : Below A.heap.size A B) : TabP B p l := by
  rcases ht with h1 | ⟨bt, hp, ht⟩
  · exact .inl h1
  · exact .inr ⟨bt, hp, ht.grow h⟩

set_option maxRecDepth 100000 in
set_option maxHeartbeats 400000 in
theorem New_any (w : World) : Calls Try.prog 30 #[] w fun e w' => e = .returned (.pointer (some ⟨w.heap.size, 0, none⟩)) ∧ Tab w' w.heap.size [] ∧ Below w.heap.size w w' := by
  go_enter Try.func30, Try.ntmps30
  go_wp2
  go_ret
  exact ⟨rfl, ⟨none, .nil, Boxed.new _ _ _, rfl, rfl, Rises.nil, fun _ h => (by cases h)⟩, (Below.refl _ _).alloc (Nat.le_refl _) _⟩

set_option maxRecDepth 100000 in
set_option maxHeartbeats 400000 in
theorem tree_any (p : Option Addr) (l : List (Int × Rp3)) (w : World) (h : TabP w p l) :
    Calls Try.prog 32 #[.pointer p] w fun e w' => w' = w ∧ ∃ q t, e = .returned (.pointer q) ∧ T w q t ∧ t.toL = l ∧ Rises l := by
  rcases h with ⟨rfl, rfl⟩ | ⟨bt, rfl, q, t, hb, hT, hl, hr⟩
  · go_enter Try.func32, Try.ntmps32
    go_wp2
    go_ret
    exact ⟨rfl, none, .nil, rfl, rfl, rfl, Rises.nil⟩
  · have hc := hb.cell
    have HL : Hid (t.toL = l) := hl
    clear hl hb
    go_enter Try.func32, Try.ntmps32
    go_wp2
    go_ret
    exact ⟨rfl, q, t, rfl, hT, HL.out, hr.1⟩

set_option maxRecDepth 100000 in
set_option maxHeartbeats 400000 in
theorem tree_same (bt : Nat) (q : Option Addr) (w : World) (hb : Boxed w bt 86 (.pointer q)) :
    Calls Try.prog 32 #[.pointer (some ⟨bt, 0, none⟩)] w fun e w' => w' = w ∧ e = .returned (.pointer q) := by
  have hc := hb.cell
  clear hb
  go_enter Try.func32, Try.ntmps32
  go_wp2
  go_ret
  exact ⟨rfl, rfl⟩

set_option maxRecDepth 100000 in
set_option maxHeartbeats 400000 in
theorem Get_any (p : Option Addr) (l : List (Int × Rp3)) (k : Int) (w : World) (h : TabP w p l) :
    Calls Try.prog 19 #[.pointer p, .int .i64 k] w fun e w' => Below w.heap.size w w' ∧ e = .returned (.tuple #[(Value.agg #[(Value.int .i64 ((lookL k l).getD (⟨0, 0, 0⟩ : Rp3)).err), (Value.int .i64 ((lookL k l).getD (⟨0, 0, 0⟩ : Rp3)).pr), (Value.int .i64 ((lookL k l).getD (⟨0, 0, 0⟩ : Rp3)).ep)]), .bool (lookL k l).isSome]) := by
  go_enter Try.func19, Try.ntmps19
  go_wp2_with fail
  have hB0 : Below w.heap.size w (w.alloc (.cells #[.int .i64 0, .int .i64 0, .int .i64 0] 27)) := (Below.refl _ _).alloc (Nat.le_refl _) _
  refine (tree_any p l _ (h.grow hB0)).mono ?_
  rintro e w' ⟨rfl, q, t, rfl, hT, hl, hr⟩
  have z1 : (w.alloc (.cells #[.int .i64 0, .int .i64 0, .int .i64 0] 27)).cell? ⟨w.heap.size, 0, none⟩ = some (.int .i64 0) := cell_new _ _ _ _
  have z2 : (w.alloc (.cells #[.int .i64 0, .int .i64 0, .int .i64 0] 27)).cell? ⟨w.heap.size, 1, none⟩ = some (.int .i64 0) := cell_new _ _ _ _
  have z3 : (w.alloc (.cells #[.int .i64 0, .int .i64 0, .int .i64 0] 27)).cell? ⟨w.heap.size, 2, none⟩ = some (.int .i64 0) := cell_new _ _ _ _
  have fz1 : (w.alloc (.cells #[.int .i64 0, .int .i64 0, .int .i64 0] 27)).frozen? ⟨w.heap.size, 0, none⟩ = false := frozen_new _ _ _ _
  have fz2 : (w.alloc (.cells #[.int .i64 0, .int .i64 0, .int .i64 0] 27)).frozen? ⟨w.heap.size, 1, none⟩ = false := frozen_new _ _ _ _
  have fz3 : (w.alloc (.cells #[.int .i64 0, .int .i64 0, .int .i64 0] 27)).frozen? ⟨w.heap.size, 2, none⟩ = false := frozen_new _ _ _ _
  have hlt0 : w.heap.size < (w.alloc (.cells #[.int .i64 0, .int .i64 0, .int .i64 0] 27)).heap.size := by simp
  obtain ⟨W1, hW1⟩ : ∃ W1, w.alloc (.cells #[.int .i64 0, .int .i64 0, .int .i64 0] 27) = W1 := ⟨_, rfl⟩
  rw [hW1] at hB0 hT z1 z2 z3 fz1 fz2 fz3 hlt0 ⊢
  clear hW1
  have hne0 : ¬ W1.heap.size = w.heap.size := by omega
  have hne1 : ¬ w.heap.size = W1.heap.size := by omega
  have HL : Hid (t.toL = l) := hl
  clear hl
  go_wp2_with fail
  refine (find_any k q t _ hT).mono ?_
  rintro e w' ⟨rfl, q', rfl, hf⟩
  have hlook : Hid (lookT k t = lookL k l) := by show _ = _; rw [look_eq k t (by rw [HL.out]; exact hr), HL.out]
  have hf' : Found w' q' (lookL k l) := by rw [← hlook.out]; exact hf
  clear hf
  cases hc : lookL k l with
  | none =>
    rw [hc] at hf'
    obtain rfl : q' = none := hf'
    have HC : Hid (lookL k l = none) := hc
    clear hc hlook
    go_wp2
    refine bodyPost_ret (v := .tuple #[(Value.agg #[(Value.int .i64 (⟨0, 0, 0⟩ : Rp3).err), (Value.int .i64 (⟨0, 0, 0⟩ : Rp3).pr), (Value.int .i64 (⟨0, 0, 0⟩ : Rp3).ep)]), .bool false]) (by simp [results, Try.results19, go_sem, z1, z2, z3, hlt0, hne0, hne1]) rfl ⟨((((hB0.setCell (p := ⟨w.heap.size, 0, none⟩) (Nat.le_refl _) _).setCell (p := ⟨w.heap.size, 1, none⟩) (Nat.le_refl _) _).setCell (p := ⟨w.heap.size, 2, none⟩) (Nat.le_refl _) _).alloc (by simp; omega) _), ?_⟩
    rw [HC.out]; rfl
  | some v =>
    rw [hc] at hf'
    obtain ⟨b, rfl, hb, c1, c1x, c1xx⟩ := hf'
    have HC : Hid (lookL k l = some v) := hc
    clear hc hlook
    go_wp2
    trace_state
    refine bodyPost_ret (v := .tuple #[(Value.agg #[(Value.int .i64 v.err), (Value.int .i64 v.pr), (Value.int .i64 v.ep)]), .bool true]) (by simp [results, Try.results19, go_sem, z1, z2, z3, hlt0, hne0, hne1]) rfl ⟨(((hB0.setCell (p := ⟨w.heap.size, 0, none⟩) (Nat.le_refl _) _).setCell (p := ⟨w.heap.size, 1, none⟩) (Nat.le_refl _) _).setCell (p := ⟨w.heap.size, 2, none⟩) (Nat.le_refl _) _), ?_⟩
    rw [HC.out]; rfl

set_option maxRecDepth 100000 in
set_option maxHeartbeats 1000000 in
theorem Set_any (bt : Nat) (l : List (Int × Rp3)) (k : Int) (v : Rp3) (w : World) (h : Tab w bt l) (hz : l.length + 20 < big) (hk : -9223372036854775808 ≤ k) :
    Calls Try.prog 22 #[.pointer (some ⟨bt, 0, none⟩), .int .i64 k, (Value.agg #[(Value.int .i64 v.err), (Value.int .i64 v.pr), (Value.int .i64 v.ep)])] w fun e w' => (∃ x, e = .returned x) ∧ Tab w' bt (insL k v l) ∧ Frm (· = bt) w w' := by
  obtain ⟨p, t, hb, hT, hl, hr⟩ := h
  have hts : t.size = l.length := by rw [BT.size_eq, hl]
  have HT : Hid ((ins k v t).toL = insL k v l) := by show _ = _; rw [toL_ins k v t (by rw [hl]; exact hr.1), hl]
  have HS : Hid (t.size + 20 < big) := by show _ < _; rw [hts]; exact hz
  clear hl hts hz
  have hB0 : Below w.heap.size w (w.alloc (.cells #[(Value.int .i64 v.err), (Value.int .i64 v.pr), (Value.int .i64 v.ep)] 27)) := (Below.refl _ _).alloc (Nat.le_refl _) _
  have z1 : (w.alloc (.cells #[(Value.int .i64 v.err), (Value.int .i64 v.pr), (Value.int .i64 v.ep)] 27)).cell? ⟨w.heap.size, 0, none⟩ = some ((Value.int .i64 v.err)) := cell_new _ _ _ _
  have z2 : (w.alloc (.cells #[(Value.int .i64 v.err), (Value.int .i64 v.pr), (Value.int .i64 v.ep)] 27)).cell? ⟨w.heap.size, 1, none⟩ = some ((Value.int .i64 v.pr)) := cell_new _ _ _ _
  have z3 : (w.alloc (.cells #[(Value.int .i64 v.err), (Value.int .i64 v.pr), (Value.int .i64 v.ep)] 27)).cell? ⟨w.heap.size, 2, none⟩ = some ((Value.int .i64 v.ep)) := cell_new _ _ _ _
  replace hb := hb.grow hB0
  replace hT := hT.grow hB0
  have hvl : w.heap.size < (w.alloc (.cells #[(Value.int .i64 v.err), (Value.int .i64 v.pr), (Value.int .i64 v.ep)] 27)).heap.size := by simp
  go_enter Try.func22, Try.ntmps22
  go_upto_region 2 with fail
  obtain ⟨W1, hW1⟩ : ∃ W1, w.alloc (.cells #[(Value.int .i64 v.err), (Value.int .i64 v.pr), (Value.int .i64 v.ep)] 27) = W1 := ⟨_, rfl⟩
  rw [hW1] at hB0 hT hb hvl z1 z2 z3 ⊢
  clear hW1
  have hbl := hb.lt
  refine wp_region_pivot (by kernel_rfl) (by kernel_rfl) 11 (by decide) (by kernel_rfl) (by kernel_rfl) (fun xS => { tmps := (Value.pointer (some (⟨bt, 0, none⟩ : Addr)) :: Value.int IntKind.i64 k :: Value.agg #[Value.int IntKind.i64 v.err, Value.int IntKind.i64 v.pr, Value.int IntKind.i64 v.ep] :: undef :: undef :: Value.pointer (some (⟨w.heap.size, 0, none⟩ : Addr)) :: Value.pointer (some (⟨bt, 0, none⟩ : Addr)) :: Value.bool false :: xS 0 :: xS 1 :: xS 2 :: xS 3 :: xS 4 :: xS 5 :: xS 6 :: xS 7 :: xS 8 :: xS 9 :: xS 10 :: []).toArray, defers := [] })
    (fun ii xx WW => match ii with | 0 => xx = Value.pointer (some (⟨bt, 0, none⟩ : Addr)) | 1 => xx = Value.pointer (some (⟨bt, 0, none⟩ : Addr)) | 2 => xx = .pointer (some ⟨bt, 0, none⟩) | 3 => xx = .pointer (some ⟨bt, 0, none⟩) | 4 => xx = .pointer p | 5 => xx = Value.int IntKind.i64 k | 6 => xx = (Value.agg #[(Value.int .i64 v.err), (Value.int .i64 v.pr), (Value.int .i64 v.ep)]) | 7 => xx = .agg #[.int .i64 k, (Value.int .i64 v.err), (Value.int .i64 v.pr), (Value.int .i64 v.ep)] | 8 => ∃ q, xx = .pointer q ∧ T WW q (ins k v t) | 9 => xx = .pointer (some ⟨bt, 0, none⟩) | 10 => xx = .pointer (some ⟨bt, 0, none⟩) | _ => True) (fun li xS W => Tab W bt (insL k v l) ∧ Frm (· = bt) W1 W) (fun | 0 => undef | 1 => undef | 2 => undef | 3 => undef | 4 => undef | 5 => undef | 6 => undef | 7 => undef | 8 => undef | 9 => undef | 10 => undef | _ => undef) (by repeat (first | exact trivial | refine ⟨fun _ _ => rfl, ?_⟩)) (by intro i x w w' h hs; (try dsimp only at hs ⊢); split at hs <;> first | exact hs | exact trivial | (obtain ⟨q, hq, ht⟩ := hs; exact ⟨q, hq, ht.grow h⟩)) ⟨?_, ?_, ?_, ?_, ?_, ?_, ?_, ?_, ?_, ?_, ?_, ⟨rfl, ?_⟩, trivial⟩ ?_
  · intro xS W hB hp K hK
    rw [if_pos (wanted_none rfl _)]
    clear hp
    go_simp
    exact hK _ _ (Below.refl _ _) rfl
  · intro xS W hB hp K hK
    rw [if_pos (wanted_none rfl _)]
    clear hp
    go_simp
    exact hK _ _ (Below.refl _ _) rfl
  · intro xS W hB hp K hK
    rw [if_pos (wanted_none rfl _)]
    have h1 : xS 1 = Value.pointer (some (⟨bt, 0, none⟩ : Addr)) := hp.1 rfl
    clear hp
    simp only [h1] at hK ⊢
    clear h1
    go_simp
    exact hK _ _ (Below.refl _ _) rfl
  · intro xS W hB hp K hK
    rw [if_pos (wanted_none rfl _)]
    have h2 : xS 2 = .pointer (some ⟨bt, 0, none⟩) := hp.1 rfl
    clear hp
    simp only [h2] at hK ⊢
    clear h2
    go_simp
    exact hK _ _ (Below.refl _ _) rfl
  · intro xS W hB hp K hK
    rw [if_pos (wanted_none rfl _)]
    have h3 : xS 3 = .pointer (some ⟨bt, 0, none⟩) := hp.1 rfl
    clear hp
    have hc := (hB.cell (p := ⟨bt, 0, none⟩) hbl).trans hb.cell
    simp only [h3] at hK ⊢
    clear h3
    go_simp
    exact hK _ _ (Below.refl _ _) rfl
  · intro xS W hB hp K hK
    rw [if_pos (wanted_none rfl _)]
    clear hp
    go_simp
    exact hK _ _ (Below.refl _ _) rfl
  · intro xS W hB hp K hK
    rw [if_pos (wanted_none rfl _)]
    clear hp
    have hc0 := (hB.cell (p := ⟨w.heap.size, 0, none⟩) hvl).trans z1
    have hc1 := (hB.cell (p := ⟨w.heap.size, 1, none⟩) hvl).trans z2
    have hc2 := (hB.cell (p := ⟨w.heap.size, 2, none⟩) hvl).trans z3
    go_simp
    exact hK _ _ (Below.refl _ _) rfl
  · intro xS W hB hp K hK
    rw [if_pos (wanted_none rfl _)]
    have h5 : xS 5 = Value.int IntKind.i64 k := hp.1 rfl
    have h6 : xS 6 = (Value.agg #[(Value.int .i64 v.err), (Value.int .i64 v.pr), (Value.int .i64 v.ep)]) := hp.2.1 rfl
    clear hp
    simp only [h5, h6] at hK ⊢
    clear h5 h6
    go_simp
    exact hK _ _ (Below.refl _ _) rfl
  · intro xS W hB hp K hK
    rw [if_pos (wanted_none rfl _)]
    have h4 : xS 4 = .pointer p := hp.1 rfl
    have h7 : xS 7 = .agg #[.int .i64 k, (Value.int .i64 v.err), (Value.int .i64 v.pr), (Value.int .i64 v.ep)] := hp.2.1 rfl
    clear hp
    simp only [h4, h7] at hK ⊢
    clear h4 h7
    go_simp
    refine (with_any k v t p W (hT.grow hB) HS.out).mono ?_
    rintro e w' ⟨q, rfl, hq, hB'⟩
    exact hK _ _ hB' ⟨q, rfl, hq⟩
  · intro xS W hB hp K hK
    rw [if_pos (wanted_none rfl _)]
    have h0 : xS 0 = Value.pointer (some (⟨bt, 0, none⟩ : Addr)) := hp.1 rfl
    clear hp
    simp only [h0] at hK ⊢
    clear h0
    go_simp
    exact hK _ _ (Below.refl _ _) rfl
  · intro xS W hB hp K hK
    rw [if_pos (wanted_none rfl _)]
    have h9 : xS 9 = .pointer (some ⟨bt, 0, none⟩) := hp.1 rfl
    clear hp
    simp only [h9] at hK ⊢
    clear h9
    go_simp
    exact hK _ _ (Below.refl _ _) rfl
  · intro li xS W hB hs hno K hK
    have h8 : ∃ q, (xS 8) = .pointer q ∧ T W q (ins k v t) := hs 8 (by decide)
    have h10 : xS 10 = .pointer (some ⟨bt, 0, none⟩) := hs 10 (by decide)
    clear hs
    obtain ⟨q, h8, hq⟩ := h8
    have hbW := hb.grow hB
    have hc1 := hbW.cell
    have hf1 := hbW.frozen
    simp only [h8, h10] at hK ⊢
    clear h8 h10
    go_simp
    have hF := Frm.setCell W bt 0 (.pointer q)
    refine hK undef _ ⟨⟨q, ins k v t, hbW.set _, hq.frm hF (fun k hk => by cases hk; exact hbW.cellN (by decide)), HT.out, rises_insL k v hr.1, hr.2.ins v hk⟩, (Frm.of_below hB).trans hF⟩
  rintro li xS W hF -
  go_end0
  exact ⟨⟨_, rfl⟩, hF.1, (Frm.of_below hB0).trans hF.2⟩

end Go.Proofs.Ytoihfhlelbdboab.Rp
