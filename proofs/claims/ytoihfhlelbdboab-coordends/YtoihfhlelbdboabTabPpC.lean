/- The contracts of hold's find, least, with, without and merge. For every tree of fewer than 2^40 entries. -/
import Derived.Test.YtoihfhlelbdboabTabPpB
import Derived.Deep.LoopGhost
namespace Go.Proofs.Ytoihfhlelbdboab.Pp
open Go.Proofs Go.RowKit Go.Hold Go.Inv

theorem frozen_new (w : World) (cs : Array Value) (t : TypeId) (i : Nat) : (w.alloc (.cells cs t)).frozen? ⟨w.heap.size, i, none⟩ = false := by
  have h := World.alloc_heap_new w (.cells cs t)
  simp only [World.frozen?, h]
  simp

def Found (w : World) (q : Option Addr) : Option (Option Addr) → Prop
  | none => q = none
  | some v => ∃ b, q = some ⟨b, 0, none⟩ ∧ b < w.heap.size ∧ w.cell? ⟨b, 1, none⟩ = some (Value.pointer v)

set_option maxRecDepth 100000 in
set_option maxHeartbeats 400000 in
theorem find_any (k : Int) (p : Option Addr) (t : BT (Option Addr)) (w : World) (ht : T w p t) :
    Calls Try.prog 58 #[.pointer p, .int .i64 k] w fun e w' => w' = w ∧ ∃ q, e = .returned (.pointer q) ∧ Found w q (lookT k t) := by
  go_enter Try.func58, Try.ntmps58
  go_wp2
  go_loopg [0] t.size (fun g s0 wr => wr = w ∧ ∃ q t', s0 = .pointer q ∧ T w q t' ∧ lookT k t' = lookT k t ∧ g = t'.size)
  case atStart => exact ⟨rfl, p, t, rfl, ht, rfl, rfl⟩
  case round =>
    obtain ⟨rfl, q, t', rfl, ht', hlk, rfl⟩ := hrel
    have HL : Hid (lookT k t' = lookT k t) := hlk
    clear hlk ht
    cases t' with
    | nil =>
      obtain rfl : q = none := ht'
      go_wp2
      go_ret
      exact ⟨rfl, none, rfl, by rw [← HL.out]; rfl⟩
    | node l k' v r =>
      obtain ⟨b, pl, pr, rfl, hb, c0, c1, c2, c3, c4, hl, hr⟩ := ht'
      clear c2
      by_cases hk : k' = k
      · have hl' : Hid (lookT k (l.node k' v r) = some v) := by show _ = _; simp [lookT, hk]
        have hk' : (k' != k) = false := by simp [hk]
        clear hk
        go_wp2
        go_ret
        exact ⟨rfl, _, rfl, by rw [← HL.out, hl'.out]; exact ⟨b, rfl, hb, c1⟩⟩
      · have hk' : (k' != k) = true := by simp [hk]
        by_cases hlt : k < k'
        · have hl' : Hid (lookT k (l.node k' v r) = lookT k l) := by show _ = _; simp [lookT, hk, hlt]
          clear hk
          go_wp2
          go_roundg l.size
          case measure => simp [BT.size]; omega
          case rel => exact ⟨rfl, pl, l, rfl, hl, by rw [← HL.out, hl'.out], rfl⟩
        · have hl' : Hid (lookT k (l.node k' v r) = lookT k r) := by show _ = _; simp [lookT, hk, hlt]
          clear hk
          go_wp2
          go_roundg r.size
          case measure => simp [BT.size]
          case rel => exact ⟨rfl, pr, r, rfl, hr, by rw [← HL.out, hl'.out], rfl⟩

def WithOK (k : Int) (v : (Option Addr)) (t : BT (Option Addr)) : Prop := ∀ (p : Option Addr) (w : World), T w p t → t.size + 20 < big →
    Calls Try.prog 72 #[.pointer p, .agg #[.int .i64 k, (Value.pointer v)]] w fun e w' => ∃ q, e = .returned (.pointer q) ∧ T w' q (ins k v t) ∧ Below w.heap.size w w'

set_option maxRecDepth 100000 in
set_option maxHeartbeats 1000000 in
theorem with_low (k : Int) (v : (Option Addr)) (l r : BT (Option Addr)) (k' : Int) (v' : (Option Addr)) (ihl : WithOK k v l) (hk : k < k') : WithOK k v (.node l k' v' r) := by
  intro p w ht hz
  unfold big at hz
  simp only [BT.size] at hz
  obtain ⟨b, pl, pr, rfl, hb, c0, c1, c2, c3, c4, hl, hr⟩ := ht
  have heq : Hid (ins k v (.node l k' v' r) = bal (ins k v l) k' v' r) := by show ins _ _ _ = _; simp [ins, hk]
  have hzi := size_ins k v l
  go_enter Try.func72, Try.ntmps72
  go_wp2
  obtain ⟨W1, hW1⟩ : ∃ W1, w.alloc (.cells #[.int .i64 k, (Value.pointer v)] 116) = W1 := ⟨_, rfl⟩
  have hB0 : Below w.heap.size w W1 := by rw [← hW1]; exact (Below.refl _ _).alloc (Nat.le_refl _) _
  have hlt : w.heap.size < W1.heap.size := by rw [← hW1]; simp
  have e0 : W1.cell? ⟨w.heap.size, 0, none⟩ = some (.int .i64 k) := by rw [← hW1]; exact cell_new _ _ _ _
  have e1 : W1.cell? ⟨w.heap.size, 1, none⟩ = some (Value.pointer v) := by rw [← hW1]; exact cell_new _ _ _ _
  rw [hW1]
  clear hW1
  have hb1 : b < W1.heap.size := Nat.lt_of_lt_of_le hb hB0.size
  replace hl := T.grow hB0 hl
  replace hr := T.grow hB0 hr
  replace c0 := (hB0.cell (p := ⟨b, 0, none⟩) hb).trans c0
  replace c1 := (hB0.cell (p := ⟨b, 1, none⟩) hb).trans c1
  replace c3 := (hB0.cell (p := ⟨b, 3, none⟩) hb).trans c3
  replace c4 := (hB0.cell (p := ⟨b, 4, none⟩) hb).trans c4
  clear c2
  go_quiet (fail)
  go_wp2
  refine wp_region_grow (by kernel_rfl) (by kernel_rfl) (by kernel_rfl) (fun xs => { tmps := (Value.pointer (some (⟨b, 0, none⟩ : Addr)) :: Value.agg #[Value.int IntKind.i64 k, Value.pointer v] :: undef :: Value.pointer (some (⟨w.heap.size, 0, none⟩ : Addr)) :: xs 15 :: Value.bool false :: Value.pointer (some (⟨b, 0, none⟩ : Addr)) :: Value.bool false :: undef :: undef :: Value.bool true :: Value.pointer (some (⟨w.heap.size, 0, none⟩ : Addr)) :: Value.int IntKind.i64 k :: Value.pointer (some (⟨b, 0, none⟩ : Addr)) :: Value.pointer (some (⟨b, 0, none⟩ : Addr)) :: Value.pointer (some (⟨b, 0, none⟩ : Addr)) :: Value.pointer (some (⟨b, 0, none⟩ : Addr)) :: Value.int IntKind.i64 k' :: Value.bool true :: xs 0 :: xs 1 :: xs 2 :: xs 3 :: xs 4 :: xs 5 :: xs 6 :: xs 7 :: xs 8 :: xs 9 :: xs 10 :: xs 11 :: xs 12 :: xs 13 :: xs 14 :: undef :: undef :: undef :: undef :: undef :: undef :: undef :: undef :: undef :: undef :: undef :: undef :: undef :: undef :: undef :: undef :: undef :: undef :: undef :: undef :: undef :: undef :: undef :: undef :: undef :: undef :: undef :: undef :: undef :: undef :: undef :: undef :: undef :: undef :: []).toArray, defers := [] })
    (fun ii xx WW => match ii with | 0 => xx = Value.pointer (some (⟨b, 0, none⟩ : Addr)) | 1 => xx = Value.pointer (some (⟨b, 0, none⟩ : Addr)) | 2 => xx = Value.pointer (some (⟨b, 3, none⟩ : Addr)) | 3 => xx = Value.pointer pl | 4 => xx = Value.agg #[Value.int IntKind.i64 k, (Value.pointer v)] | 5 => ∃ p, xx = .pointer p ∧ T WW p (ins k v l) | 6 => xx = Value.pointer (some (⟨b, 0, none⟩ : Addr)) | 7 => xx = Value.pointer (some (⟨b, 0, none⟩ : Addr)) | 8 => xx = Value.pointer (some (⟨b, 0, none⟩ : Addr)) | 9 => xx = Value.agg #[Value.int IntKind.i64 k', (Value.pointer v')] | 10 => xx = Value.pointer (some (⟨b, 0, none⟩ : Addr)) | 11 => xx = Value.pointer (some (⟨b, 0, none⟩ : Addr)) | 12 => xx = Value.pointer (some (⟨b, 4, none⟩ : Addr)) | 13 => xx = Value.pointer pr | 14 => ∃ p, xx = .pointer p ∧ T WW p (bal (ins k v l) k' v' r) | 15 => ∃ p, xx = .pointer p ∧ T WW p (bal (ins k v l) k' v' r) | _ => True) (fun | 15 => Value.pointer none | _ => undef) (by repeat (first | exact trivial | refine ⟨fun _ _ => rfl, ?_⟩))
    (by intro i x w w' h hs; (try dsimp only at hs ⊢); split at hs <;> first | exact hs | exact trivial | (obtain ⟨p, hp, ht⟩ := hs; exact ⟨p, hp, ht.grow h⟩)) ⟨?_, ?_, ?_, ?_, ?_, ?_, ?_, ?_, ?_, ?_, ?_, ?_, ?_, ?_, ?_, ?_, trivial⟩ ?_
  · intro xs W hB hp K hK
    clear hp
    go_simp
    exact hK _ _ (Below.refl _ _) rfl
  · intro xs W hB hp K hK
    have h0 : xs 0 = Value.pointer (some (⟨b, 0, none⟩ : Addr)) := hp.1 rfl
    clear hp
    simp only [h0] at hK
    go_simp
    exact hK _ _ (Below.refl _ _) rfl
  · intro xs W hB hp K hK
    have h1 : xs 1 = Value.pointer (some (⟨b, 0, none⟩ : Addr)) := hp.1 rfl
    clear hp
    simp only [h1] at hK
    go_simp
    exact hK _ _ (Below.refl _ _) rfl
  · intro xs W hB hp K hK
    have h2 : xs 2 = Value.pointer (some (⟨b, 3, none⟩ : Addr)) := hp.1 rfl
    clear hp
    simp only [h2] at hK
    have cc0 := (hB.cell (p := ⟨b, 3, none⟩) hb1).trans c3
    go_simp
    exact hK _ _ (Below.refl _ _) rfl
  · intro xs W hB hp K hK
    clear hp
    have cc0 := (hB.cell (p := ⟨w.heap.size, 0, none⟩) hlt).trans e0
    have cc1 := (hB.cell (p := ⟨w.heap.size, 1, none⟩) hlt).trans e1
    go_simp
    exact hK _ _ (Below.refl _ _) rfl
  · intro xs W hB hp K hK
    have h3 : xs 3 = Value.pointer pl := hp.1 rfl
    have h4 : xs 4 = Value.agg #[Value.int IntKind.i64 k, (Value.pointer v)] := hp.2.1 rfl
    clear hp
    simp only [h3, h4] at hK
    go_simp
    refine (ihl _ _ ((hl.drewN nq).grow hB) (by unfold big; omega)).mono ?_
    rintro e w' ⟨p, rfl, ht, hb'⟩
    exact hK _ _ hb' ⟨p, rfl, ht⟩
  · intro xs W hB hp K hK
    clear hp
    go_simp
    exact hK _ _ (Below.refl _ _) rfl
  · intro xs W hB hp K hK
    have h6 : xs 6 = Value.pointer (some (⟨b, 0, none⟩ : Addr)) := hp.1 rfl
    clear hp
    simp only [h6] at hK
    go_simp
    exact hK _ _ (Below.refl _ _) rfl
  · intro xs W hB hp K hK
    have h7 : xs 7 = Value.pointer (some (⟨b, 0, none⟩ : Addr)) := hp.1 rfl
    clear hp
    simp only [h7] at hK
    go_simp
    exact hK _ _ (Below.refl _ _) rfl
  · intro xs W hB hp K hK
    have h8 : xs 8 = Value.pointer (some (⟨b, 0, none⟩ : Addr)) := hp.1 rfl
    clear hp
    simp only [h8] at hK
    have cc0 := (hB.cell (p := ⟨b, 0, none⟩) hb1).trans c0
    have cc1 := (hB.cell (p := ⟨b, 1, none⟩) hb1).trans c1
    go_simp
    exact hK _ _ (Below.refl _ _) rfl
  · intro xs W hB hp K hK
    clear hp
    go_simp
    exact hK _ _ (Below.refl _ _) rfl
  · intro xs W hB hp K hK
    have h10 : xs 10 = Value.pointer (some (⟨b, 0, none⟩ : Addr)) := hp.1 rfl
    clear hp
    simp only [h10] at hK
    go_simp
    exact hK _ _ (Below.refl _ _) rfl
  · intro xs W hB hp K hK
    have h11 : xs 11 = Value.pointer (some (⟨b, 0, none⟩ : Addr)) := hp.1 rfl
    clear hp
    simp only [h11] at hK
    go_simp
    exact hK _ _ (Below.refl _ _) rfl
  · intro xs W hB hp K hK
    have h12 : xs 12 = Value.pointer (some (⟨b, 4, none⟩ : Addr)) := hp.1 rfl
    clear hp
    simp only [h12] at hK
    have cc0 := (hB.cell (p := ⟨b, 4, none⟩) hb1).trans c4
    go_simp
    exact hK _ _ (Below.refl _ _) rfl
  · intro xs W hB hp K hK
    obtain ⟨p5, h5, ht5⟩ : ∃ p, xs 5 = .pointer p ∧ T W p (ins k v l) := hp.1 rfl
    have h9 : xs 9 = Value.agg #[Value.int IntKind.i64 k', (Value.pointer v')] := hp.2.1 rfl
    have h13 : xs 13 = Value.pointer pr := hp.2.2.1 rfl
    clear hp
    simp only [h5, h9, h13] at hK
    go_simp
    refine (balance_any _ pr _ r k' v' _ ht5 ((hr.drewN nq).grow hB) (by unfold big; omega)).mono ?_
    rintro e w' ⟨p, rfl, ht, hb'⟩
    exact hK _ _ hb' ⟨p, rfl, ht⟩
  · intro xs W hB hp K hK
    obtain ⟨p14, h14, ht14⟩ : ∃ p, xs 14 = .pointer p ∧ T W p (bal (ins k v l) k' v' r) := hp.1 rfl
    clear hp
    simp only [h14] at hK
    go_simp
    exact hK _ _ (Below.refl _ _) ⟨_, rfl, ht14⟩
  · intro xs W hB hs
    obtain ⟨p, h, ht⟩ : ∃ p, xs 15 = .pointer p ∧ T W p (bal (ins k v l) k' v' r) := hs 15 (by simp)
    simp only [h]
    go_wp2
    go_ret
    exact ⟨_, rfl, by rw [heq.out]; exact ht, (dn hB0 nq).trans (hB.mono (dn hB0 nq).size)⟩

set_option maxRecDepth 100000 in
set_option maxHeartbeats 1000000 in
theorem with_high (k : Int) (v : (Option Addr)) (l r : BT (Option Addr)) (k' : Int) (v' : (Option Addr)) (ihr : WithOK k v r) (hk : ¬ k < k') (hk2 : k' < k) : WithOK k v (.node l k' v' r) := by
  intro p w ht hz
  unfold big at hz
  simp only [BT.size] at hz
  obtain ⟨b, pl, pr, rfl, hb, c0, c1, c2, c3, c4, hl, hr⟩ := ht
  have hzi := size_ins k v r
  have heq : Hid (ins k v (.node l k' v' r) = bal l k' v' (ins k v r)) := by show ins _ _ _ = _; simp [ins, hk, hk2]
  go_enter Try.func72, Try.ntmps72
  go_wp2
  obtain ⟨W1, hW1⟩ : ∃ W1, w.alloc (.cells #[.int .i64 k, (Value.pointer v)] 116) = W1 := ⟨_, rfl⟩
  have hB0 : Below w.heap.size w W1 := by rw [← hW1]; exact (Below.refl _ _).alloc (Nat.le_refl _) _
  have hlt : w.heap.size < W1.heap.size := by rw [← hW1]; simp
  have e0 : W1.cell? ⟨w.heap.size, 0, none⟩ = some (.int .i64 k) := by rw [← hW1]; exact cell_new _ _ _ _
  have e1 : W1.cell? ⟨w.heap.size, 1, none⟩ = some (Value.pointer v) := by rw [← hW1]; exact cell_new _ _ _ _
  rw [hW1]
  clear hW1
  have hb1 : b < W1.heap.size := Nat.lt_of_lt_of_le hb hB0.size
  replace hl := T.grow hB0 hl
  replace hr := T.grow hB0 hr
  replace c0 := (hB0.cell (p := ⟨b, 0, none⟩) hb).trans c0
  replace c1 := (hB0.cell (p := ⟨b, 1, none⟩) hb).trans c1
  replace c3 := (hB0.cell (p := ⟨b, 3, none⟩) hb).trans c3
  replace c4 := (hB0.cell (p := ⟨b, 4, none⟩) hb).trans c4
  clear c2
  go_quiet (fail)
  go_wp2
  generalize hW2 : W1.drewN nq = W2
  have hB2 : Below w.heap.size w W2 := by rw [← hW2]; exact dn hB0 nq
  have hlt2 : w.heap.size < W2.heap.size := by rw [← hW2]; exact hlt
  have hb2 : b < W2.heap.size := by rw [← hW2]; exact hb1
  replace e0 : W2.cell? ⟨w.heap.size, 0, none⟩ = some (.int .i64 k) := by rw [← hW2]; exact e0
  replace e1 : W2.cell? ⟨w.heap.size, 1, none⟩ = some (Value.pointer v) := by rw [← hW2]; exact e1
  replace c0 : W2.cell? ⟨b, 0, none⟩ = some (.int .i64 k') := by rw [← hW2]; exact c0
  replace c1 : W2.cell? ⟨b, 1, none⟩ = some (Value.pointer v') := by rw [← hW2]; exact c1
  replace c3 : W2.cell? ⟨b, 3, none⟩ = some (.pointer pl) := by rw [← hW2]; exact c3
  replace c4 : W2.cell? ⟨b, 4, none⟩ = some (.pointer pr) := by rw [← hW2]; exact c4
  replace hl : T W2 pl l := by rw [← hW2]; exact hl.drewN nq
  replace hr : T W2 pr r := by rw [← hW2]; exact hr.drewN nq
  clear hW2 hB0 hlt hb1 nq
  go_quiet (fail)
  go_wp2
  generalize Value.bool (decide (k < k')) = u10
  refine wp_region_grow (by kernel_rfl) (by kernel_rfl) (by kernel_rfl) (fun xs => { tmps := (Value.pointer (some (⟨b, 0, none⟩ : Addr)) :: Value.agg #[Value.int IntKind.i64 k, Value.pointer v] :: undef :: Value.pointer (some (⟨w.heap.size, 0, none⟩ : Addr)) :: xs 15 :: Value.bool false :: Value.pointer (some (⟨b, 0, none⟩ : Addr)) :: Value.bool false :: undef :: undef :: u10 :: Value.pointer (some (⟨w.heap.size, 0, none⟩ : Addr)) :: Value.int IntKind.i64 k :: Value.pointer (some (⟨b, 0, none⟩ : Addr)) :: Value.pointer (some (⟨b, 0, none⟩ : Addr)) :: Value.pointer (some (⟨b, 0, none⟩ : Addr)) :: Value.pointer (some (⟨b, 0, none⟩ : Addr)) :: Value.int IntKind.i64 k' :: u10 :: undef :: undef :: undef :: undef :: undef :: undef :: undef :: undef :: undef :: undef :: undef :: undef :: undef :: undef :: undef :: Value.bool true :: Value.pointer (some (⟨w.heap.size, 0, none⟩ : Addr)) :: Value.int IntKind.i64 k :: Value.pointer (some (⟨b, 0, none⟩ : Addr)) :: Value.pointer (some (⟨b, 0, none⟩ : Addr)) :: Value.pointer (some (⟨b, 0, none⟩ : Addr)) :: Value.pointer (some (⟨b, 0, none⟩ : Addr)) :: Value.int IntKind.i64 k' :: Value.bool true :: xs 0 :: xs 1 :: xs 2 :: xs 3 :: xs 4 :: xs 5 :: xs 6 :: xs 7 :: xs 8 :: xs 9 :: xs 10 :: xs 11 :: xs 12 :: xs 13 :: xs 14 :: undef :: undef :: undef :: undef :: undef :: undef :: undef :: undef :: undef :: undef :: []).toArray, defers := [] })
    (fun ii xx WW => match ii with | 0 => xx = Value.pointer (some (⟨b, 0, none⟩ : Addr)) | 1 => xx = Value.pointer (some (⟨b, 0, none⟩ : Addr)) | 2 => xx = Value.pointer (some (⟨b, 3, none⟩ : Addr)) | 3 => xx = Value.pointer pl | 4 => xx = Value.pointer (some (⟨b, 0, none⟩ : Addr)) | 5 => xx = Value.pointer (some (⟨b, 0, none⟩ : Addr)) | 6 => xx = Value.pointer (some (⟨b, 0, none⟩ : Addr)) | 7 => xx = Value.agg #[Value.int IntKind.i64 k', (Value.pointer v')] | 8 => xx = Value.pointer (some (⟨b, 0, none⟩ : Addr)) | 9 => xx = Value.pointer (some (⟨b, 0, none⟩ : Addr)) | 10 => xx = Value.pointer (some (⟨b, 4, none⟩ : Addr)) | 11 => xx = Value.pointer pr | 12 => xx = Value.agg #[Value.int IntKind.i64 k, (Value.pointer v)] | 13 => ∃ p, xx = .pointer p ∧ T WW p (ins k v r) | 14 => ∃ p, xx = .pointer p ∧ T WW p (bal l k' v' (ins k v r)) | 15 => ∃ p, xx = .pointer p ∧ T WW p (bal l k' v' (ins k v r)) | _ => True) (fun | 15 => Value.pointer none | _ => undef) (by repeat (first | exact trivial | refine ⟨fun _ _ => rfl, ?_⟩))
    (by intro i x w w' h hs; (try dsimp only at hs ⊢); split at hs <;> first | exact hs | exact trivial | (obtain ⟨p, hp, ht⟩ := hs; exact ⟨p, hp, ht.grow h⟩)) ⟨?_, ?_, ?_, ?_, ?_, ?_, ?_, ?_, ?_, ?_, ?_, ?_, ?_, ?_, ?_, ?_, trivial⟩ ?_
  · intro xs W hB hp K hK
    clear hp
    go_simp
    exact hK _ _ (Below.refl _ _) rfl
  · intro xs W hB hp K hK
    have h0 : xs 0 = Value.pointer (some (⟨b, 0, none⟩ : Addr)) := hp.1 rfl
    clear hp
    simp only [h0] at hK
    go_simp
    exact hK _ _ (Below.refl _ _) rfl
  · intro xs W hB hp K hK
    have h1 : xs 1 = Value.pointer (some (⟨b, 0, none⟩ : Addr)) := hp.1 rfl
    clear hp
    simp only [h1] at hK
    go_simp
    exact hK _ _ (Below.refl _ _) rfl
  · intro xs W hB hp K hK
    have h2 : xs 2 = Value.pointer (some (⟨b, 3, none⟩ : Addr)) := hp.1 rfl
    clear hp
    simp only [h2] at hK
    have cc0 := (hB.cell (p := ⟨b, 3, none⟩) hb2).trans c3
    go_simp
    exact hK _ _ (Below.refl _ _) rfl
  · intro xs W hB hp K hK
    clear hp
    go_simp
    exact hK _ _ (Below.refl _ _) rfl
  · intro xs W hB hp K hK
    have h4 : xs 4 = Value.pointer (some (⟨b, 0, none⟩ : Addr)) := hp.1 rfl
    clear hp
    simp only [h4] at hK
    go_simp
    exact hK _ _ (Below.refl _ _) rfl
  · intro xs W hB hp K hK
    have h5 : xs 5 = Value.pointer (some (⟨b, 0, none⟩ : Addr)) := hp.1 rfl
    clear hp
    simp only [h5] at hK
    go_simp
    exact hK _ _ (Below.refl _ _) rfl
  · intro xs W hB hp K hK
    have h6 : xs 6 = Value.pointer (some (⟨b, 0, none⟩ : Addr)) := hp.1 rfl
    clear hp
    simp only [h6] at hK
    have cc0 := (hB.cell (p := ⟨b, 0, none⟩) hb2).trans c0
    have cc1 := (hB.cell (p := ⟨b, 1, none⟩) hb2).trans c1
    go_simp
    exact hK _ _ (Below.refl _ _) rfl
  · intro xs W hB hp K hK
    clear hp
    go_simp
    exact hK _ _ (Below.refl _ _) rfl
  · intro xs W hB hp K hK
    have h8 : xs 8 = Value.pointer (some (⟨b, 0, none⟩ : Addr)) := hp.1 rfl
    clear hp
    simp only [h8] at hK
    go_simp
    exact hK _ _ (Below.refl _ _) rfl
  · intro xs W hB hp K hK
    have h9 : xs 9 = Value.pointer (some (⟨b, 0, none⟩ : Addr)) := hp.1 rfl
    clear hp
    simp only [h9] at hK
    go_simp
    exact hK _ _ (Below.refl _ _) rfl
  · intro xs W hB hp K hK
    have h10 : xs 10 = Value.pointer (some (⟨b, 4, none⟩ : Addr)) := hp.1 rfl
    clear hp
    simp only [h10] at hK
    have cc0 := (hB.cell (p := ⟨b, 4, none⟩) hb2).trans c4
    go_simp
    exact hK _ _ (Below.refl _ _) rfl
  · intro xs W hB hp K hK
    clear hp
    have cc0 := (hB.cell (p := ⟨w.heap.size, 0, none⟩) hlt2).trans e0
    have cc1 := (hB.cell (p := ⟨w.heap.size, 1, none⟩) hlt2).trans e1
    go_simp
    exact hK _ _ (Below.refl _ _) rfl
  · intro xs W hB hp K hK
    have h11 : xs 11 = Value.pointer pr := hp.1 rfl
    have h12 : xs 12 = Value.agg #[Value.int IntKind.i64 k, (Value.pointer v)] := hp.2.1 rfl
    clear hp
    simp only [h11, h12] at hK
    go_simp
    refine (ihr _ _ ((hr.drewN nq).grow hB) (by unfold big; omega)).mono ?_
    rintro e w' ⟨p, rfl, ht, hb'⟩
    exact hK _ _ hb' ⟨p, rfl, ht⟩
  · intro xs W hB hp K hK
    have h3 : xs 3 = Value.pointer pl := hp.1 rfl
    have h7 : xs 7 = Value.agg #[Value.int IntKind.i64 k', (Value.pointer v')] := hp.2.1 rfl
    obtain ⟨p13, h13, ht13⟩ : ∃ p, xs 13 = .pointer p ∧ T W p (ins k v r) := hp.2.2.1 rfl
    clear hp
    simp only [h3, h7, h13] at hK
    go_simp
    refine (balance_any pl _ l _ k' v' _ ((hl.drewN nq).grow hB) ht13 (by unfold big; omega)).mono ?_
    rintro e w' ⟨p, rfl, ht, hb'⟩
    exact hK _ _ hb' ⟨p, rfl, ht⟩
  · intro xs W hB hp K hK
    obtain ⟨p14, h14, ht14⟩ : ∃ p, xs 14 = .pointer p ∧ T W p (bal l k' v' (ins k v r)) := hp.1 rfl
    clear hp
    simp only [h14] at hK
    go_simp
    exact hK _ _ (Below.refl _ _) ⟨_, rfl, ht14⟩
  · intro xs W hB hs
    obtain ⟨p, h, ht⟩ : ∃ p, xs 15 = .pointer p ∧ T W p (bal l k' v' (ins k v r)) := hs 15 (by simp)
    simp only [h]
    go_wp2
    go_ret
    exact ⟨_, rfl, by rw [heq.out]; exact ht, (dn hB2 nq).trans (hB.mono (dn hB2 nq).size)⟩

set_option maxRecDepth 100000 in
set_option maxHeartbeats 1000000 in
theorem with_eq (k : Int) (v : (Option Addr)) (l r : BT (Option Addr)) (k' : Int) (v' : (Option Addr)) (hk : ¬ k < k') (hk2 : ¬ k' < k) : WithOK k v (.node l k' v' r) := by
  intro p w ht hz
  unfold big at hz
  simp only [BT.size] at hz
  obtain ⟨b, pl, pr, rfl, hb, c0, c1, c2, c3, c4, hl, hr⟩ := ht
  have heq : Hid (ins k v (.node l k' v' r) = .node l k v r) := by show ins _ _ _ = _; simp [ins, hk, hk2]
  go_enter Try.func72, Try.ntmps72
  go_wp2
  obtain ⟨W1, hW1⟩ : ∃ W1, w.alloc (.cells #[.int .i64 k, (Value.pointer v)] 116) = W1 := ⟨_, rfl⟩
  have hB0 : Below w.heap.size w W1 := by rw [← hW1]; exact (Below.refl _ _).alloc (Nat.le_refl _) _
  have hlt : w.heap.size < W1.heap.size := by rw [← hW1]; simp
  have e0 : W1.cell? ⟨w.heap.size, 0, none⟩ = some (.int .i64 k) := by rw [← hW1]; exact cell_new _ _ _ _
  have e1 : W1.cell? ⟨w.heap.size, 1, none⟩ = some (Value.pointer v) := by rw [← hW1]; exact cell_new _ _ _ _
  rw [hW1]
  clear hW1
  have hb1 : b < W1.heap.size := Nat.lt_of_lt_of_le hb hB0.size
  replace hl := T.grow hB0 hl
  replace hr := T.grow hB0 hr
  replace c0 := (hB0.cell (p := ⟨b, 0, none⟩) hb).trans c0
  replace c1 := (hB0.cell (p := ⟨b, 1, none⟩) hb).trans c1
  replace c3 := (hB0.cell (p := ⟨b, 3, none⟩) hb).trans c3
  replace c4 := (hB0.cell (p := ⟨b, 4, none⟩) hb).trans c4
  clear c2
  go_quiet (fail)
  go_wp2
  generalize hW2 : W1.drewN nq = W2
  have hB2 : Below w.heap.size w W2 := by rw [← hW2]; exact dn hB0 nq
  have hlt2 : w.heap.size < W2.heap.size := by rw [← hW2]; exact hlt
  have hb2 : b < W2.heap.size := by rw [← hW2]; exact hb1
  replace e0 : W2.cell? ⟨w.heap.size, 0, none⟩ = some (.int .i64 k) := by rw [← hW2]; exact e0
  replace e1 : W2.cell? ⟨w.heap.size, 1, none⟩ = some (Value.pointer v) := by rw [← hW2]; exact e1
  replace c0 : W2.cell? ⟨b, 0, none⟩ = some (.int .i64 k') := by rw [← hW2]; exact c0
  replace c1 : W2.cell? ⟨b, 1, none⟩ = some (Value.pointer v') := by rw [← hW2]; exact c1
  replace c3 : W2.cell? ⟨b, 3, none⟩ = some (.pointer pl) := by rw [← hW2]; exact c3
  replace c4 : W2.cell? ⟨b, 4, none⟩ = some (.pointer pr) := by rw [← hW2]; exact c4
  replace hl : T W2 pl l := by rw [← hW2]; exact hl.drewN nq
  replace hr : T W2 pr r := by rw [← hW2]; exact hr.drewN nq
  clear hW2 hB0 hlt hb1 nq
  go_quiet (fail)
  go_wp2
  generalize Value.bool (decide (k < k')) = u10
  generalize Value.bool (decide (k' < k)) = u34
  refine wp_region_grow (by kernel_rfl) (by kernel_rfl) (by kernel_rfl) (fun xs => { tmps := (Value.pointer (some (⟨b, 0, none⟩ : Addr)) :: Value.agg #[Value.int IntKind.i64 k, Value.pointer v] :: undef :: Value.pointer (some (⟨w.heap.size, 0, none⟩ : Addr)) :: xs 10 :: Value.bool false :: Value.pointer (some (⟨b, 0, none⟩ : Addr)) :: Value.bool false :: undef :: undef :: u10 :: Value.pointer (some (⟨w.heap.size, 0, none⟩ : Addr)) :: Value.int IntKind.i64 k :: Value.pointer (some (⟨b, 0, none⟩ : Addr)) :: Value.pointer (some (⟨b, 0, none⟩ : Addr)) :: Value.pointer (some (⟨b, 0, none⟩ : Addr)) :: Value.pointer (some (⟨b, 0, none⟩ : Addr)) :: Value.int IntKind.i64 k' :: u10 :: undef :: undef :: undef :: undef :: undef :: undef :: undef :: undef :: undef :: undef :: undef :: undef :: undef :: undef :: undef :: u34 :: Value.pointer (some (⟨w.heap.size, 0, none⟩ : Addr)) :: Value.int IntKind.i64 k :: Value.pointer (some (⟨b, 0, none⟩ : Addr)) :: Value.pointer (some (⟨b, 0, none⟩ : Addr)) :: Value.pointer (some (⟨b, 0, none⟩ : Addr)) :: Value.pointer (some (⟨b, 0, none⟩ : Addr)) :: Value.int IntKind.i64 k' :: u34 :: undef :: undef :: undef :: undef :: undef :: undef :: undef :: undef :: undef :: undef :: undef :: undef :: undef :: undef :: undef :: xs 0 :: xs 1 :: xs 2 :: xs 3 :: xs 4 :: xs 5 :: xs 6 :: xs 7 :: xs 8 :: xs 9 :: []).toArray, defers := [] })
    (fun ii xx WW => match ii with | 0 => xx = Value.pointer (some (⟨b, 0, none⟩ : Addr)) | 1 => xx = Value.pointer (some (⟨b, 0, none⟩ : Addr)) | 2 => xx = Value.pointer (some (⟨b, 3, none⟩ : Addr)) | 3 => xx = Value.pointer pl | 4 => xx = Value.agg #[Value.int IntKind.i64 k, (Value.pointer v)] | 5 => xx = Value.pointer (some (⟨b, 0, none⟩ : Addr)) | 6 => xx = Value.pointer (some (⟨b, 0, none⟩ : Addr)) | 7 => xx = Value.pointer (some (⟨b, 4, none⟩ : Addr)) | 8 => xx = Value.pointer pr | 9 => ∃ p, xx = .pointer p ∧ T WW p (.node l k v r) | 10 => ∃ p, xx = .pointer p ∧ T WW p (.node l k v r) | _ => True) (fun | 10 => Value.pointer none | _ => undef) (by repeat (first | exact trivial | refine ⟨fun _ _ => rfl, ?_⟩))
    (by intro i x w w' h hs; (try dsimp only at hs ⊢); split at hs <;> first | exact hs | exact trivial | (obtain ⟨p, hp, ht⟩ := hs; exact ⟨p, hp, ht.grow h⟩)) ⟨?_, ?_, ?_, ?_, ?_, ?_, ?_, ?_, ?_, ?_, ?_, trivial⟩ ?_
  · intro xs W hB hp K hK
    clear hp
    go_simp
    exact hK _ _ (Below.refl _ _) rfl
  · intro xs W hB hp K hK
    have h0 : xs 0 = Value.pointer (some (⟨b, 0, none⟩ : Addr)) := hp.1 rfl
    clear hp
    simp only [h0] at hK
    go_simp
    exact hK _ _ (Below.refl _ _) rfl
  · intro xs W hB hp K hK
    have h1 : xs 1 = Value.pointer (some (⟨b, 0, none⟩ : Addr)) := hp.1 rfl
    clear hp
    simp only [h1] at hK
    go_simp
    exact hK _ _ (Below.refl _ _) rfl
  · intro xs W hB hp K hK
    have h2 : xs 2 = Value.pointer (some (⟨b, 3, none⟩ : Addr)) := hp.1 rfl
    clear hp
    simp only [h2] at hK
    have cc0 := (hB.cell (p := ⟨b, 3, none⟩) hb2).trans c3
    go_simp
    exact hK _ _ (Below.refl _ _) rfl
  · intro xs W hB hp K hK
    clear hp
    have cc0 := (hB.cell (p := ⟨w.heap.size, 0, none⟩) hlt2).trans e0
    have cc1 := (hB.cell (p := ⟨w.heap.size, 1, none⟩) hlt2).trans e1
    go_simp
    exact hK _ _ (Below.refl _ _) rfl
  · intro xs W hB hp K hK
    clear hp
    go_simp
    exact hK _ _ (Below.refl _ _) rfl
  · intro xs W hB hp K hK
    have h5 : xs 5 = Value.pointer (some (⟨b, 0, none⟩ : Addr)) := hp.1 rfl
    clear hp
    simp only [h5] at hK
    go_simp
    exact hK _ _ (Below.refl _ _) rfl
  · intro xs W hB hp K hK
    have h6 : xs 6 = Value.pointer (some (⟨b, 0, none⟩ : Addr)) := hp.1 rfl
    clear hp
    simp only [h6] at hK
    go_simp
    exact hK _ _ (Below.refl _ _) rfl
  · intro xs W hB hp K hK
    have h7 : xs 7 = Value.pointer (some (⟨b, 4, none⟩ : Addr)) := hp.1 rfl
    clear hp
    simp only [h7] at hK
    have cc0 := (hB.cell (p := ⟨b, 4, none⟩) hb2).trans c4
    go_simp
    exact hK _ _ (Below.refl _ _) rfl
  · intro xs W hB hp K hK
    have h3 : xs 3 = Value.pointer pl := hp.1 rfl
    have h4 : xs 4 = Value.agg #[Value.int IntKind.i64 k, (Value.pointer v)] := hp.2.1 rfl
    have h8 : xs 8 = Value.pointer pr := hp.2.2.1 rfl
    clear hp
    simp only [h3, h4, h8] at hK
    go_simp
    refine (join_any pl pr l r k v _ ((hl.drewN nq).grow hB) ((hr.drewN nq).grow hB) (by unfold big; omega)).mono ?_
    rintro e w' ⟨p, rfl, ht, hb'⟩
    exact hK _ _ hb' ⟨p, rfl, ht⟩
  · intro xs W hB hp K hK
    obtain ⟨p9, h9, ht9⟩ : ∃ p, xs 9 = .pointer p ∧ T W p (.node l k v r) := hp.1 rfl
    clear hp
    simp only [h9] at hK
    go_simp
    exact hK _ _ (Below.refl _ _) ⟨_, rfl, ht9⟩
  · intro xs W hB hs
    obtain ⟨p, h, ht⟩ : ∃ p, xs 10 = .pointer p ∧ T W p (.node l k v r) := hs 10 (by simp)
    simp only [h]
    go_wp2
    go_ret
    exact ⟨_, rfl, by rw [heq.out]; exact ht, (dn hB2 nq).trans (hB.mono (dn hB2 nq).size)⟩

set_option maxRecDepth 100000 in
set_option maxHeartbeats 1000000 in
theorem with_nil (k : Int) (v : (Option Addr)) : WithOK k v .nil := by
  intro p w ht hz
  obtain rfl : p = none := ht
  have hB0 : Below w.heap.size w (w.alloc (.cells #[.int .i64 k, (Value.pointer v)] 116)) := (Below.refl _ _).alloc (Nat.le_refl _) _
  go_enter Try.func72, Try.ntmps72
  go_wp2_with (go_at_call 80; refine (join_any none none .nil .nil k v _ rfl rfl (by unfold big; decide)).mono ?_; rintro e w' ⟨p, rfl, ht, hb⟩)
  go_ret
  exact ⟨_, rfl, ht, hB0.trans (hb.mono hB0.size)⟩

theorem with_any (k : Int) (v : (Option Addr)) : ∀ t : BT (Option Addr), WithOK k v t
  | .nil => with_nil k v
  | .node l k' v' r => by
    by_cases h1 : k < k'
    · exact with_low k v l r k' v' (with_any k v l) h1
    · by_cases h2 : k' < k
      · exact with_high k v l r k' v' (with_any k v r) h1 h2
      · exact with_eq k v l r k' v' h1 h2

end Go.Proofs.Ytoihfhlelbdboab.Pp
