/- What the walks of hold's trees share: a tree in memory, and the contracts of count, weight and join. For every tree of fewer than 2^40 entries. -/
import Derived.Test.YtoihfhlelbdboabRows
import Derived.WalkKit
import Derived.WalkSpells
import Derived.Deep.QuietTactic
import Derived.BigQuiet
import Derived.RangeFuncRecord
import Derived.Test.YtoihfhlelbdboabInv
import Derived.Test.YtoihfhlelbdboabTree
namespace Go.Proofs.Ytoihfhlelbdboab.Rp
open Go.Proofs Go.RowKit Go.Hold Go.Inv

/-- a reply as it lies -/
structure Rp3 where
  err : Int
  pr : Int
  ep : Int

/-- THE HEAP HOLDS THE TREE t AT p, in blocks below n₀: a node: five cells. -/
def IsT (n₀ : Nat) (W : World) : Option Addr → BT Rp3 → Prop
  | p, .nil => p = none
  | p, .node l k v r => ∃ (b : Nat) (pl pr : Option Addr), p = some ⟨b, 0, none⟩ ∧ b < n₀ ∧ W.cell? ⟨b, 0, none⟩ = some (.int .i64 k) ∧ W.cell? ⟨b, 1, none⟩ = some (Value.int .i64 v.err) ∧ W.cell? ⟨b, 2, none⟩ = some (Value.int .i64 v.pr) ∧ W.cell? ⟨b, 3, none⟩ = some (Value.int .i64 v.ep) ∧ W.cell? ⟨b, 4, none⟩ = some (.int .i64 ((BT.node l k v r).size : Int)) ∧
      W.cell? ⟨b, 5, none⟩ = some (.pointer pl) ∧ W.cell? ⟨b, 6, none⟩ = some (.pointer pr) ∧ IsT n₀ W pl l ∧ IsT n₀ W pr r

theorem IsT.below {n₀ n₁ : Nat} {A B : World} (h : Below n₀ A B) (hn : n₀ ≤ n₁) : ∀ {p : Option Addr} {t : BT Rp3}, IsT n₀ A p t → IsT n₁ B p t
  | _, .nil, ht => ht
  | _, .node _ _ _ _, ⟨b, pl, pr, hp, hb, h0, h1, h1x, h1xx, h2, h3, h4, hl, hr⟩ =>
    ⟨b, pl, pr, hp, Nat.lt_of_lt_of_le hb hn, (h.cell (p := ⟨b, 0, none⟩) hb).trans h0, (h.cell (p := ⟨b, 1, none⟩) hb).trans h1, (h.cell (p := ⟨b, 2, none⟩) hb).trans h1x, (h.cell (p := ⟨b, 3, none⟩) hb).trans h1xx, (h.cell (p := ⟨b, 4, none⟩) hb).trans h2, (h.cell (p := ⟨b, 5, none⟩) hb).trans h3, (h.cell (p := ⟨b, 6, none⟩) hb).trans h4, IsT.below h hn hl, IsT.below h hn hr⟩

/-- It lies, in whatever blocks there are. -/
def T (W : World) (p : Option Addr) (t : BT Rp3) : Prop := IsT W.heap.size W p t
theorem T.grow {A B : World} (h : Below A.heap.size A B) {p : Option Addr} {t : BT Rp3} (ht : T A p t) : T B p t := IsT.below h h.size ht

def big : Nat := 1099511627776

set_option maxRecDepth 100000 in
set_option maxHeartbeats 400000 in
theorem count_any (p : Option Addr) (t : BT Rp3) (w : World) (ht : T w p t) :
    Calls Try.prog 74 #[.pointer p] w fun e w' => e = .returned (.int .i64 (t.size : Int)) ∧ w' = w := by
  cases t with
  | nil =>
    obtain rfl : p = none := ht
    go_enter Try.func74, Try.ntmps74
    go_wp2
    go_ret
    exact ⟨rfl, rfl⟩
  | node l k v r =>
    obtain ⟨b, pl, pr, rfl, hb, h0, h1, h1x, h1xx, h2, h3, h4, hl, hr⟩ := ht
    clear hl hr h0 h1 h1x h1xx h3 h4
    go_enter Try.func74, Try.ntmps74
    go_wp2
    go_ret
    exact ⟨rfl, rfl⟩

set_option maxRecDepth 100000 in
set_option maxHeartbeats 400000 in
theorem weight_any (p : Option Addr) (t : BT Rp3) (w : World) (ht : T w p t) (hz : t.size < big) :
    Calls Try.prog 75 #[.pointer p] w fun e w' => e = .returned (.int .i64 ((t.size : Int) + 1)) ∧ w' = w := by
  unfold big at hz
  go_enter Try.func75, Try.ntmps75
  go_wp2_with (go_at_call 74; refine (count_any _ t _ ht).mono ?_; rintro e w' ⟨rfl, rfl⟩)
  go_ret
  exact ⟨rfl, rfl⟩

theorem cell_new (w : World) (cs : Array Value) (t : TypeId) (i : Nat) : (w.alloc (.cells cs t)).cell? ⟨w.heap.size, i, none⟩ = cs[i]? := by
  have h := World.alloc_heap_new w (.cells cs t)
  simp only [World.cell?, h]
  rfl
theorem cell_two {w W : World} {a b bx bxx : Value} {t : TypeId} (hB : Below (w.alloc (.cells #[a, b, bx, bxx] t)).heap.size (w.alloc (.cells #[a, b, bx, bxx] t)) W) : W.cell? ⟨w.heap.size, 0, none⟩ = some a ∧ W.cell? ⟨w.heap.size, 1, none⟩ = some b ∧ W.cell? ⟨w.heap.size, 2, none⟩ = some bx ∧ W.cell? ⟨w.heap.size, 3, none⟩ = some bxx :=
  ⟨(hB.cell (p := ⟨w.heap.size, 0, none⟩) (by simp)).trans (cell_new _ _ _ _), (hB.cell (p := ⟨w.heap.size, 1, none⟩) (by simp)).trans (cell_new _ _ _ _), (hB.cell (p := ⟨w.heap.size, 2, none⟩) (by simp)).trans (cell_new _ _ _ _), (hB.cell (p := ⟨w.heap.size, 3, none⟩) (by simp)).trans (cell_new _ _ _ _)⟩
theorem T.node_new {W : World} {pl pr : Option Addr} {l r : BT Rp3} {k : Int} {v : Rp3} (t : TypeId) (hl : T W pl l) (hr : T W pr r) :
    T (W.alloc (.cells #[.int .i64 k, (Value.int .i64 v.err), (Value.int .i64 v.pr), (Value.int .i64 v.ep), .int .i64 ((l.size : Int) + 1 + (r.size : Int)), .pointer pl, .pointer pr] t)) (some ⟨W.heap.size, 0, none⟩) (.node l k v r) := by
  have hB : Below W.heap.size W (W.alloc (.cells #[.int .i64 k, (Value.int .i64 v.err), (Value.int .i64 v.pr), (Value.int .i64 v.ep), .int .i64 ((l.size : Int) + 1 + (r.size : Int)), .pointer pl, .pointer pr] t)) := (Below.refl _ _).alloc (Nat.le_refl _) _
  exact ⟨W.heap.size, pl, pr, rfl, by simp, cell_new _ _ _ _, cell_new _ _ _ _, cell_new _ _ _ _, cell_new _ _ _ _, (cell_new _ _ _ _).trans (by simp [BT.size]), cell_new _ _ _ _, cell_new _ _ _ _, hl.grow hB, hr.grow hB⟩

theorem wrapS {x : Int} (h0 : -4611686018427387904 ≤ x) (h1 : x ≤ 4611686018427387904) : IntKind.i64.wrap x = x := by rw [IntKind.wrap_i64]; omega

def joinSpec (pl pr : Option Addr) (l r : BT Rp3) (k : Int) (v : Rp3) : Nat → Value → World → Prop
  | 0, x, _ => x = .agg #[.int .i64 k, (Value.int .i64 v.err), (Value.int .i64 v.pr), (Value.int .i64 v.ep)]
  | 1, x, _ => x = .pointer pl
  | 2, x, _ => x = .int .i64 (l.size : Int)
  | 3, x, _ => x = .int .i64 ((l.size : Int) + 1)
  | 4, x, _ => x = .pointer pr
  | 5, x, _ => x = .int .i64 (r.size : Int)
  | 6, x, _ => x = .int .i64 ((l.size : Int) + 1 + (r.size : Int))
  | 7, x, _ => x = .pointer pl
  | 8, x, _ => x = .pointer pr
  | 9, x, _ => x = .agg #[.int .i64 k, (Value.int .i64 v.err), (Value.int .i64 v.pr), (Value.int .i64 v.ep), .int .i64 ((l.size : Int) + 1 + (r.size : Int)), .pointer pl, .pointer pr]
  | 10, x, W => ∃ p, x = .pointer p ∧ T W p (.node l k v r)
  | 11, x, W => ∃ p, x = .pointer p ∧ T W p (.node l k v r)
  | _, _, _ => True

theorem joinSpec_grow (pl pr : Option Addr) (l r : BT Rp3) (k : Int) (v : Rp3) (i : Nat) (x : Value) (w w' : World) (h : Below w.heap.size w w') (hs : joinSpec pl pr l r k v i x w) : joinSpec pl pr l r k v i x w' := by
  unfold joinSpec at *
  split at hs <;> first | exact hs | exact trivial | (obtain ⟨p, hp, ht⟩ := hs; exact ⟨p, hp, ht.grow h⟩)

set_option maxRecDepth 100000 in
set_option maxHeartbeats 400000 in
theorem join_any (pl pr : Option Addr) (l r : BT Rp3) (k : Int) (v : Rp3) (w : World) (hl : T w pl l) (hr : T w pr r) (hz : l.size + r.size < big) :
    Calls Try.prog 55 #[.pointer pl, .agg #[.int .i64 k, (Value.int .i64 v.err), (Value.int .i64 v.pr), (Value.int .i64 v.ep)], .pointer pr] w fun e w' => ∃ p, e = .returned (.pointer p) ∧ T w' p (.node l k v r) ∧ Below w.heap.size w w' := by
  unfold big at hz
  go_enter Try.func55, Try.ntmps55
  go_wp2
  have hB0 : Below w.heap.size w (w.alloc (.cells #[.int .i64 k, (Value.int .i64 v.err), (Value.int .i64 v.pr), (Value.int .i64 v.ep)] 78)) := (Below.refl _ _).alloc (Nat.le_refl _) _
  refine wp_region_grow (by kernel_rfl) (by kernel_rfl) (by kernel_rfl) (fun xs => { tmps := #[.pointer pl, .agg #[.int .i64 k, (Value.int .i64 v.err), (Value.int .i64 v.pr), (Value.int .i64 v.ep)], .pointer pr, undef, .pointer (some ⟨w.heap.size, 0, none⟩), undef, xs 11, xs 0, xs 1, xs 2, xs 3, xs 4, xs 5, xs 6, xs 7, xs 8, xs 9, xs 10], defers := [] })
    (joinSpec pl pr l r k v) (fun | 11 => .pointer none | _ => undef) (by repeat' (first | exact trivial | refine ⟨fun _ _ => rfl, ?_⟩)) (fun i x w w' h hs => joinSpec_grow pl pr l r k v i x w w' h hs) ⟨?_, ?_, ?_, ?_, ?_, ?_, ?_, ?_, ?_, ?_, ?_, ?_, trivial⟩ ?_
  · intro xs W hB hp K hK
    obtain ⟨c0, c1, c1x, c1xx⟩ := cell_two hB
    go_simp
    exact hK _ _ (Below.refl _ _) rfl
  · intro xs W hB hp K hK
    go_simp
    exact hK _ _ (Below.refl _ _) rfl
  · intro xs W hB hp K hK
    have h1 : xs 1 = .pointer pl := hp.1 rfl
    simp only [h1] at hK
    go_simp
    refine (count_any _ l _ (hl.grow (hB0.trans (hB.mono hB0.size)))).mono ?_
    rintro e w' ⟨rfl, rfl⟩
    exact hK _ _ (Below.refl _ _) rfl
  · intro xs W hB hp K hK
    have h1 : xs 2 = _ := hp.1 rfl
    simp only [h1] at hK
    go_simp
    exact hK _ _ (Below.refl _ _) (by show Value.int _ _ = _; rw [wrapS (by omega) (by omega)])
  · intro xs W hB hp K hK
    go_simp
    exact hK _ _ (Below.refl _ _) rfl
  · intro xs W hB hp K hK
    have h1 : xs 4 = .pointer pr := hp.1 rfl
    simp only [h1] at hK
    go_simp
    refine (count_any _ r _ (hr.grow (hB0.trans (hB.mono hB0.size)))).mono ?_
    rintro e w' ⟨rfl, rfl⟩
    exact hK _ _ (Below.refl _ _) rfl
  · intro xs W hB hp K hK
    have h1 : xs 3 = _ := hp.1 rfl
    have h2 : xs 5 = _ := hp.2.1 rfl
    simp only [h1, h2] at hK
    go_simp
    exact hK _ _ (Below.refl _ _) (by show Value.int _ _ = _; rw [wrapS (by omega) (by omega)])
  · intro xs W hB hp K hK
    go_simp
    exact hK _ _ (Below.refl _ _) rfl
  · intro xs W hB hp K hK
    go_simp
    exact hK _ _ (Below.refl _ _) rfl
  · intro xs W hB hp K hK
    have h1 : xs 0 = _ := hp.1 rfl
    have h2 : xs 6 = _ := hp.2.1 rfl
    have h3 : xs 7 = _ := hp.2.2.1 rfl
    have h4 : xs 8 = _ := hp.2.2.2.1 rfl
    simp only [h1, h2, h3, h4] at hK
    go_simp
    exact hK _ _ (Below.refl _ _) rfl
  · intro xs W hB hp K hK
    have h1 : xs 9 = _ := hp.1 rfl
    simp only [h1] at hK
    go_simp
    have hB1 := hB0.trans (hB.mono hB0.size)
    refine hK _ _ ((Below.refl _ _).alloc (Nat.le_refl _) _) ⟨_, rfl, ?_⟩
    exact T.node_new _ (hl.grow hB1) (hr.grow hB1)
  · intro xs W hB hp K hK
    obtain ⟨p, h1, ht⟩ : ∃ p, xs 10 = .pointer p ∧ T W p (.node l k v r) := hp.1 rfl
    simp only [h1] at hK
    go_simp
    exact hK _ _ (Below.refl _ _) ⟨_, rfl, ht⟩
  · intro xs W hB hs
    obtain ⟨p, h1, ht⟩ : ∃ p, xs 11 = .pointer p ∧ T W p (.node l k v r) := hs 11 (by simp)
    have hB1 := hB0.trans (hB.mono hB0.size)
    simp only [h1]
    go_wp2
    go_ret
    exact ⟨_, rfl, ht, hB1⟩
end Go.Proofs.Ytoihfhlelbdboab.Rp
