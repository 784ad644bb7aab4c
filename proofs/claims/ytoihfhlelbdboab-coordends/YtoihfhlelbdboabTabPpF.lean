/- hold's tell: every tree, every key to begin at, every way in which the one who is told goes on or stops. No condition. -/
import Derived.Test.YtoihfhlelbdboabTabPpE
import Derived.RangeFuncNested
import Derived.RangeFuncBound
import Derived.RangeFuncCalls
import Derived.RangeFuncLeaves
import Derived.Shelf.Abstract
import Derived.Shelf.RegionOpen
import Derived.OwnWalkIn
import Derived.TacticsInMore
import Derived.LoopNIn
import Derived.LoopIn
namespace Go.Proofs.Ytoihfhlelbdboab.Pp
open Go.Proofs Go.RowKit Go.Hold Go.Inv Go.Shelf

attribute [local go_sem] Oper.semAt_some

/-- The tree t lies at p, in blocks of which P holds. -/
def InT (P : Nat → Prop) (W : World) : Option Addr → BT (Option Addr) → Prop
  | p, .nil => p = none
  | p, .node l k v r => ∃ (b : Nat) (pl pr : Option Addr), p = some ⟨b, 0, none⟩ ∧ P b ∧ W.cell? ⟨b, 0, none⟩ = some (.int .i64 k) ∧ W.cell? ⟨b, 1, none⟩ = some (Value.pointer v) ∧
      W.cell? ⟨b, 3, none⟩ = some (.pointer pl) ∧ W.cell? ⟨b, 4, none⟩ = some (.pointer pr) ∧ InT P W pl l ∧ InT P W pr r
/-- Blocks of which P holds are as they were. -/
def Kept (P : Nat → Prop) (W W' : World) : Prop := ∀ b, P b → W'.heap[b]? = W.heap[b]?
theorem Kept.refl (P : Nat → Prop) (W : World) : Kept P W W := fun _ _ => rfl
theorem Kept.trans {P : Nat → Prop} {A B C : World} (h : Kept P A B) (k : Kept P B C) : Kept P A C := fun b hb => (k b hb).trans (h b hb)
theorem Kept.cell {P : Nat → Prop} {A B : World} (h : Kept P A B) {b : Nat} (hb : P b) (i : Nat) : B.cell? ⟨b, i, none⟩ = A.cell? ⟨b, i, none⟩ := World.cell?_of_block (h b hb)
theorem InT.kept {P : Nat → Prop} {A B : World} (h : Kept P A B) : ∀ {p : Option Addr} {t : BT (Option Addr)}, InT P A p t → InT P B p t
  | _, .nil, ht => ht
  | _, .node _ _ _ _, ⟨b, pl, pr, hp, hb, h0, h1, h3, h4, hl, hr⟩ => ⟨b, pl, pr, hp, hb, (h.cell hb 0).trans h0, (h.cell hb 1).trans h1, (h.cell hb 3).trans h3, (h.cell hb 4).trans h4, InT.kept h hl, InT.kept h hr⟩
theorem InT.of_T {P : Nat → Prop} {n₀ : Nat} {W : World} (hP : ∀ b, b < n₀ → W.cell? ⟨b, 4, none⟩ ≠ none → P b) : ∀ {p : Option Addr} {t : BT (Option Addr)}, IsT n₀ W p t → InT P W p t
  | _, .nil, ht => ht
  | _, .node _ _ _ _, ⟨b, pl, pr, hp, hb, h0, h1, _, h3, h4, hl, hr⟩ => ⟨b, pl, pr, hp, hP b hb (by rw [h4]; simp), h0, h1, h3, h4, InT.of_T hP hl, InT.of_T hP hr⟩

def Yl (A : Int × (Option Addr) → Prop) (l : Nat) (P : Nat → Prop) (N : Nat) (J Jx : List (Int × (Option Addr)) → World → Prop) : Prop :=
  ∀ (m : Nat) (pre : List (Int × (Option Addr))) (x : Int × (Option Addr)) (W : World), A x → J pre W → pre.length < N → YieldAt Fence.wide m Try.prog l #[.int .i64 x.1, (Value.pointer x.2)] W fun e W' =>
    (e = .returned (.bool true) ∧ J (pre ++ [x]) W' ∧ Kept P W W') ∨ (e = .returned (.bool false) ∧ Jx (pre ++ [x]) W')

def TellOK (l : Nat) (P : Nat → Prop) (N : Nat) (J Jx : List (Int × (Option Addr)) → World → Prop) (f : Int) (t : BT (Option Addr)) : Prop :=
  ∀ (n : Nat) (p : Option Addr) (pre : List (Int × (Option Addr))) (W : World), InT P W p t → J pre W → pre.length + (tellT f t).length ≤ N →
    CallsIn Fence.wide n Try.prog 83 #[.pointer p, .int .i64 f, .func (.yield l) #[] #[]] W fun e W' =>
      (e = .returned (.bool true) ∧ J (pre ++ tellT f t) W' ∧ Kept P W W') ∨ (e = .returned (.bool false) ∧ ∃ q, q <+: tellT f t ∧ Jx (pre ++ q) W')

/-- what each operation of tell's last line leaves: b6, b19, b28: what the three calls answered -/
def tellC (b : Nat) (pl pr : Option Addr) (f : Int) (k : Int) (v : (Option Addr)) (l : Nat) (b6 b19 b28 : Bool) : Nat → Value
  | 0 => .pointer (some ⟨b, 0, none⟩)
  | 1 => .pointer (some ⟨b, 0, none⟩)
  | 2 => .pointer (some ⟨b, 3, none⟩)
  | 3 => .pointer pl
  | 4 => .int .i64 f
  | 5 => .func (.yield l) #[] #[]
  | 6 => .bool b6
  | 7 => .bool b6
  | 8 => cond b6 (.func (.yield l) #[] #[]) undef
  | 9 => cond b6 (.pointer (some ⟨b, 0, none⟩)) undef
  | 10 => cond b6 (.pointer (some ⟨b, 0, none⟩)) undef
  | 11 => cond b6 (.pointer (some ⟨b, 0, none⟩)) undef
  | 12 => cond b6 (.pointer (some ⟨b, 0, none⟩)) undef
  | 13 => cond b6 (.int .i64 k) undef
  | 14 => cond b6 (.pointer (some ⟨b, 0, none⟩)) undef
  | 15 => cond b6 (.pointer (some ⟨b, 0, none⟩)) undef
  | 16 => cond b6 (.pointer (some ⟨b, 0, none⟩)) undef
  | 17 => cond b6 (.pointer (some ⟨b, 1, none⟩)) undef
  | 18 => cond b6 ((Value.pointer v)) undef
  | 19 => cond b6 (.bool b19) undef
  | 20 => .bool (b6 && b19)
  | 21 => .bool (b6 && b19)
  | 22 => cond (b6 && b19) (.pointer (some ⟨b, 0, none⟩)) undef
  | 23 => cond (b6 && b19) (.pointer (some ⟨b, 0, none⟩)) undef
  | 24 => cond (b6 && b19) (.pointer (some ⟨b, 4, none⟩)) undef
  | 25 => cond (b6 && b19) (.pointer pr) undef
  | 26 => cond (b6 && b19) (.int .i64 f) undef
  | 27 => cond (b6 && b19) (.func (.yield l) #[] #[]) undef
  | 28 => cond (b6 && b19) (.bool b28) undef
  | 29 => .bool (b6 && b19 && b28)
  | 30 => .bool (b6 && b19 && b28)
  | _ => undef

theorem tellC_6 (b : Nat) (pl pr : Option Addr) (f : Int) (k : Int) (v : (Option Addr)) (l : Nat) (b6 b19 b28 c6 c19 c28 : Bool) (j : Nat) (hj : j < 6) : tellC b pl pr f k v l b6 b19 b28 j = tellC b pl pr f k v l c6 c19 c28 j := by
  unfold tellC
  split <;> first | rfl | omega
theorem tellC_19 (b : Nat) (pl pr : Option Addr) (f : Int) (k : Int) (v : (Option Addr)) (l : Nat) (b6 b19 b28 c19 c28 : Bool) (j : Nat) (hj : j < 19) : tellC b pl pr f k v l b6 b19 b28 j = tellC b pl pr f k v l b6 c19 c28 j := by
  unfold tellC
  split <;> first | rfl | omega
theorem tellC_28 (b : Nat) (pl pr : Option Addr) (f : Int) (k : Int) (v : (Option Addr)) (l : Nat) (b6 b19 b28 c28 : Bool) (j : Nat) (hj : j < 28) : tellC b pl pr f k v l b6 b19 b28 j = tellC b pl pr f k v l b6 b19 c28 j := by
  unfold tellC
  split <;> first | rfl | omega

structure TellI (P : Nat → Prop) (J Jx : List (Int × (Option Addr)) → World → Prop) (tl tr : BT (Option Addr)) (b : Nat) (pl pr : Option Addr) (f : Int) (k : Int) (v : (Option Addr)) (l : Nat) (pre : List (Int × (Option Addr))) (W0 : World) (b6 b19 b28 : Bool) (li : Nat → Bool) (xs : Nat → Value) (W : World) : Prop where
  val : ∀ i, li i = true → xs i = tellC b pl pr f k v l b6 b19 b28 i
  c6 : li 6 = false → ∀ i, 6 ≤ i → li i = false
  c19 : li 19 = false → ∀ i, 19 ≤ i → li i = false
  c28 : li 28 = false → ∀ i, 28 ≤ i → li i = false
  d6 : li 6 = true → li 3 = true
  d19 : li 19 = true → li 13 = true ∧ li 18 = true
  d28 : li 28 = true → li 25 = true
  w0 : li 6 = false → J pre W ∧ Kept P W0 W
  w1f : li 6 = true → b6 = false → ∃ q, q <+: tellT f tl ∧ Jx (pre ++ q) W
  w1 : li 6 = true → b6 = true → li 19 = false → J (pre ++ tellT f tl) W ∧ Kept P W0 W
  w2f : li 19 = true → b6 = true → b19 = false → Jx (pre ++ tellT f tl ++ [(k, v)]) W
  w2 : li 19 = true → b6 = true → b19 = true → li 28 = false → J (pre ++ tellT f tl ++ [(k, v)]) W ∧ Kept P W0 W
  w3f : li 28 = true → b6 = true → b19 = true → b28 = false → ∃ q, q <+: tellT f tr ∧ Jx (pre ++ tellT f tl ++ [(k, v)] ++ q) W
  w3 : li 28 = true → b6 = true → b19 = true → b28 = true → J (pre ++ tellT f tl ++ [(k, v)] ++ tellT f tr) W ∧ Kept P W0 W

section
variable {P : Nat → Prop} {J Jx : List (Int × (Option Addr)) → World → Prop} {tl tr : BT (Option Addr)} {b : Nat} {pl pr : Option Addr} {f : Int} {k : Int} {v : (Option Addr)} {l : Nat} {pre : List (Int × (Option Addr))} {W0 : World} {b6 b19 b28 : Bool} {li : Nat → Bool} {xs : Nat → Value} {W : World}

theorem TellI.on6 (h : TellI P J Jx tl tr b pl pr f k v l pre W0 b6 b19 b28 li xs W) {j : Nat} (hj : li j = true) (hle : 6 ≤ j) : li 6 = true := by
  cases h6 : li 6 with
  | true => rfl
  | false => rw [h.c6 h6 j hle] at hj; cases hj
theorem TellI.on19 (h : TellI P J Jx tl tr b pl pr f k v l pre W0 b6 b19 b28 li xs W) {j : Nat} (hj : li j = true) (hle : 19 ≤ j) : li 19 = true := by
  cases h6 : li 19 with
  | true => rfl
  | false => rw [h.c19 h6 j hle] at hj; cases hj
theorem TellI.on28 (h : TellI P J Jx tl tr b pl pr f k v l pre W0 b6 b19 b28 li xs W) {j : Nat} (hj : li j = true) (hle : 28 ≤ j) : li 28 = true := by
  cases h6 : li 28 with
  | true => rfl
  | false => rw [h.c28 h6 j hle] at hj; cases hj
theorem not_on {a c : Bool} (h : a = true → c = true) (hc : c = false) : a = false := by cases a with | false => rfl | true => rw [h rfl] at hc; cases hc

theorem TellI.ord (h : TellI P J Jx tl tr b pl pr f k v l pre W0 b6 b19 b28 li xs W) (i : Nat) (x : Value) (hi : i ≠ 6 ∧ i ≠ 19 ∧ i ≠ 28) (h6 : i < 6 ∨ li 6 = true) (h19 : i < 19 ∨ li 19 = true) (h28 : i < 28 ∨ li 28 = true) (hx : x = tellC b pl pr f k v l b6 b19 b28 i) :
    TellI P J Jx tl tr b pl pr f k v l pre W0 b6 b19 b28 (upd li i true) (upd xs i x) W := by
  have e6 : upd li i true 6 = li 6 := upd_other _ _ (Ne.symm hi.1)
  have e19 : upd li i true 19 = li 19 := upd_other _ _ (Ne.symm hi.2.1)
  have e28 : upd li i true 28 = li 28 := upd_other _ _ (Ne.symm hi.2.2)
  have up : ∀ j, li j = true → upd li i true j = true := fun j hj => by
    unfold upd
    split
    · rfl
    · exact hj
  have dn : ∀ c, (i < c ∨ li c = true) → li c = false → (∀ j, c ≤ j → li j = false) → ∀ j, c ≤ j → upd li i true j = false := fun c hc hl hd j hj => by
    rcases hc with hc | hc
    · rw [upd_other _ _ (by omega)]; exact hd j hj
    · rw [hl] at hc; cases hc
  refine ⟨fun j hj => ?_, ?_, ?_, ?_, ?_, ?_, ?_, ?_, ?_, ?_, ?_, ?_, ?_, ?_⟩
  · by_cases hji : j = i
    · subst hji; rw [upd_same]; exact hx
    · rw [upd_other _ _ hji] at hj ⊢; exact h.val j hj
  · rw [e6]; exact fun hl => dn 6 h6 hl (h.c6 hl)
  · rw [e19]; exact fun hl => dn 19 h19 hl (h.c19 hl)
  · rw [e28]; exact fun hl => dn 28 h28 hl (h.c28 hl)
  · rw [e6]; exact fun hl => up 3 (h.d6 hl)
  · rw [e19]; exact fun hl => ⟨up 13 (h.d19 hl).1, up 18 (h.d19 hl).2⟩
  · rw [e28]; exact fun hl => up 25 (h.d28 hl)
  · rw [e6]; exact h.w0
  · rw [e6]; exact h.w1f
  · rw [e6, e19]; exact h.w1
  · rw [e19]; exact h.w2f
  · rw [e19, e28]; exact h.w2
  · rw [e28]; exact h.w3f
  · rw [e28]; exact h.w3
end

set_option maxRecDepth 100000 in
set_option maxHeartbeats 2000000 in
theorem tell_node (A : Int × (Option Addr) → Prop) (l : Nat) (P : Nat → Prop) (N : Nat) (J Jx : List (Int × (Option Addr)) → World → Prop) (f : Int) (hY : Yl A l P N J Jx) (hJd : ∀ pre W, J pre W → J pre W.drew) (tl tr : BT (Option Addr)) (k : Int) (v : (Option Addr))
    (ihl : TellOK l P N J Jx f tl) (ihr : TellOK l P N J Jx f tr) (hk : ¬ k < f) (hAk : A (k, v)) : TellOK l P N J Jx f (.node tl k v tr) := by
  intro n p pre W0 ht hJ hN
  obtain ⟨b, pl, pr, rfl, hb, c0, c1, c3, c4, hl, hr⟩ := ht
  have hfin : Hid (tellT f (.node tl k v tr) = tellT f tl ++ (k, v) :: tellT f tr) := by show _ = _; simp [tellT, hk]
  have hN' : pre.length + (tellT f tl).length + 1 + (tellT f tr).length ≤ N := by rw [hfin.out] at hN; simp at hN; omega
  clear hN
  refine callsIn_of_wp Try.func83 rfl trivial ?_ rfl
  simp only [Try.ntmps83, List.size_toArray, List.length_cons, List.length_nil, Nat.reduceAdd, Nat.reduceSub, Array.replicate_succ, Array.replicate_zero, List.push_toArray, List.append_toArray, List.nil_append, List.cons_append]
  gi_wp2
  refine wpIn_region_steps (by kernel_rfl) (by kernel_rfl) (fun xs => { tmps := (Value.pointer (some (⟨b, 0, none⟩ : Addr)) :: Value.int IntKind.i64 f :: Value.func (Fn.yield l) #[] #[] :: undef :: undef :: undef :: xs 30 :: Value.pointer (some (⟨b, 0, none⟩ : Addr)) :: Value.bool false :: Value.pointer (some (⟨b, 0, none⟩ : Addr)) :: Value.pointer (some (⟨b, 0, none⟩ : Addr)) :: Value.pointer (some (⟨b, 0, none⟩ : Addr)) :: Value.pointer (some (⟨b, 0, none⟩ : Addr)) :: Value.int IntKind.i64 k :: Value.int IntKind.i64 f :: Value.bool false :: undef :: undef :: undef :: undef :: undef :: undef :: undef :: xs 0 :: xs 1 :: xs 2 :: xs 3 :: xs 4 :: xs 5 :: xs 6 :: xs 7 :: xs 8 :: xs 9 :: xs 10 :: xs 11 :: xs 12 :: xs 13 :: xs 14 :: xs 15 :: xs 16 :: xs 17 :: xs 18 :: xs 19 :: xs 20 :: xs 21 :: xs 22 :: xs 23 :: xs 24 :: xs 25 :: xs 26 :: xs 27 :: xs 28 :: xs 29 :: []).toArray, defers := [] })
    (fun li xs W => ∃ b6 b19 b28, TellI P J Jx tl tr b pl pr f k v l pre W0 b6 b19 b28 li xs W) (fun | 30 => Value.bool false | _ => undef) (by repeat (first | exact trivial | refine ⟨fun _ _ => rfl, ?_⟩)) ?_ ⟨?_, ?_, ?_, ?_, ?_, ?_, ?_, ?_, ?_, ?_, ?_, ?_, ?_, ?_, ?_, ?_, ?_, ?_, ?_, ?_, ?_, ?_, ?_, ?_, ?_, ?_, ?_, ?_, ?_, ?_, ?_, trivial⟩ ?_
  · refine ⟨true, true, true, ⟨fun _ h => (by cases h), fun _ _ _ => rfl, fun _ _ _ => rfl, fun _ _ _ => rfl, fun h => (by cases h), fun h => (by cases h), fun h => (by cases h), fun _ => ⟨hJd _ _ hJ, Kept.refl _ _⟩, fun h => (by cases h), fun h => (by cases h), fun h => (by cases h), fun h => (by cases h), fun h => (by cases h), fun h => (by cases h)⟩⟩
  · intro li xs W hI hli hp K hK
    obtain ⟨b6, b19, b28, hI⟩ := hI
    clear hp
    go_simp
    exact hK _ _ ⟨_, _, _, hI.ord 0 _ (by decide) (.inl (by decide)) (.inl (by decide)) (.inl (by decide)) rfl⟩
  · intro li xs W hI hli hp K hK
    obtain ⟨b6, b19, b28, hI⟩ := hI
    have h0 : xs 0 = .pointer (some ⟨b, 0, none⟩) := hI.val 0 (hp.1 rfl)
    simp only [h0] at hK
    clear hp
    go_simp
    exact hK _ _ ⟨_, _, _, hI.ord 1 _ (by decide) (.inl (by decide)) (.inl (by decide)) (.inl (by decide)) rfl⟩
  · intro li xs W hI hli hp K hK
    obtain ⟨b6, b19, b28, hI⟩ := hI
    have h1 : xs 1 = .pointer (some ⟨b, 0, none⟩) := hI.val 1 (hp.1 rfl)
    simp only [h1] at hK
    clear hp
    go_simp
    exact hK _ _ ⟨_, _, _, hI.ord 2 _ (by decide) (.inl (by decide)) (.inl (by decide)) (.inl (by decide)) rfl⟩
  · intro li xs W hI hli hp K hK
    obtain ⟨b6, b19, b28, hI⟩ := hI
    have h2 : xs 2 = .pointer (some ⟨b, 3, none⟩) := hI.val 2 (hp.1 rfl)
    simp only [h2] at hK
    have n6 : li 6 = false := not_on hI.d6 hli
    have cc := ((hI.w0 n6).2.cell hb 3).trans c3
    clear hp
    go_simp
    exact hK _ _ ⟨_, _, _, hI.ord 3 _ (by decide) (.inl (by decide)) (.inl (by decide)) (.inl (by decide)) rfl⟩
  · intro li xs W hI hli hp K hK
    obtain ⟨b6, b19, b28, hI⟩ := hI
    clear hp
    go_simp
    exact hK _ _ ⟨_, _, _, hI.ord 4 _ (by decide) (.inl (by decide)) (.inl (by decide)) (.inl (by decide)) rfl⟩
  · intro li xs W hI hli hp K hK
    obtain ⟨b6, b19, b28, hI⟩ := hI
    clear hp
    go_simp
    exact hK _ _ ⟨_, _, _, hI.ord 5 _ (by decide) (.inl (by decide)) (.inl (by decide)) (.inl (by decide)) rfl⟩
  · intro li xs W hI hli hp K hK
    obtain ⟨b6, b19, b28, hI⟩ := hI
    have h3 : xs 3 = .pointer pl := hI.val 3 (hp.1 rfl)
    have h4 : xs 4 = .int .i64 f := hI.val 4 (hp.2.1 rfl)
    have h5 : xs 5 = .func (.yield l) #[] #[] := hI.val 5 (hp.2.2.1 rfl)
    simp only [h3, h4, h5] at hK
    obtain ⟨hJ1, hK1⟩ := hI.w0 hli
    have l3 : li 3 = true := hp.1 rfl
    have hn := hI.c6 hli
    clear hp
    go_simp
    refine ⟨trivial, fun h => (by cases h), ?_⟩
    refine (ihl _ _ pre _ (hl.kept hK1) hJ1 (by omega)).mono ?_
    have hup : ∀ j, j ≠ 6 → upd li 6 true j = li j := fun j hj => upd_other _ _ hj
    rintro e w' (⟨rfl, hJ2, hK2⟩ | ⟨rfl, q, hq, hx⟩)
    · refine hK _ _ ⟨true, true, true, ⟨fun j hj => ?_, fun h => (by cases h), fun _ j hj => ?_, fun _ j hj => ?_, fun _ => l3, fun h => ?_, fun h => ?_, fun h => (by cases h), fun _ h => (by cases h), fun _ _ _ => ⟨hJ2, hK1.trans hK2⟩, fun h => ?_, fun h => ?_, fun h => ?_, fun h => ?_⟩⟩
      · by_cases hj6 : j = 6
        · subst hj6; rfl
        · rw [hup j hj6] at hj
          rw [upd_other _ _ hj6, hI.val j hj]
          have : ¬ 6 ≤ j := fun hle => by rw [hn j hle] at hj; cases hj
          exact tellC_6 _ _ _ _ _ _ _ _ _ _ _ _ _ _ (by omega)
      · rw [hup j (by omega)]; exact hn j (by omega)
      · rw [hup j (by omega)]; exact hn j (by omega)
      all_goals (rw [hup _ (by decide), hn _ (by decide)] at h; cases h)
    · refine hK _ _ ⟨false, true, true, ⟨fun j hj => ?_, fun h => (by cases h), fun _ j hj => ?_, fun _ j hj => ?_, fun _ => l3, fun h => ?_, fun h => ?_, fun h => (by cases h), fun _ _ => ⟨q, hq, hx⟩, fun _ h => (by cases h), fun h => ?_, fun h => ?_, fun h => ?_, fun h => ?_⟩⟩
      · by_cases hj6 : j = 6
        · subst hj6; rfl
        · rw [hup j hj6] at hj
          rw [upd_other _ _ hj6, hI.val j hj]
          have : ¬ 6 ≤ j := fun hle => by rw [hn j hle] at hj; cases hj
          exact tellC_6 _ _ _ _ _ _ _ _ _ _ _ _ _ _ (by omega)
      · rw [hup j (by omega)]; exact hn j (by omega)
      · rw [hup j (by omega)]; exact hn j (by omega)
      all_goals (rw [hup _ (by decide), hn _ (by decide)] at h; cases h)
  · intro li xs W hI hli hp K hK
    obtain ⟨b6, b19, b28, hI⟩ := hI
    have g6 : li 6 = true := hI.on6 (hp.1 rfl) (by decide)
    have h6 : xs 6 = .bool b6 := hI.val 6 (hp.1 rfl)
    simp only [h6] at hK
    clear hp
    go_simp
    exact hK _ _ ⟨_, _, _, hI.ord 7 _ (by decide) (.inr g6) (.inl (by decide)) (.inl (by decide)) rfl⟩
  · intro li xs W hI hli hp K hK
    obtain ⟨b6, b19, b28, hI⟩ := hI
    have g6 : li 6 = true := hI.on6 (hp.1 rfl) (by decide)
    cases b6 with
    | false =>
      have h7 : xs 7 = .bool false := hI.val 7 (hp.1 rfl)
      simp only [h7] at hK
      clear hp
      go_simp
      exact hK _ _ ⟨_, _, _, hI.ord 8 _ (by decide) (.inr g6) (.inl (by decide)) (.inl (by decide)) rfl⟩
    | true =>
      have h7 : xs 7 = .bool true := hI.val 7 (hp.1 rfl)
      simp only [h7] at hK
      clear hp
      go_simp
      exact hK _ _ ⟨_, _, _, hI.ord 8 _ (by decide) (.inr g6) (.inl (by decide)) (.inl (by decide)) rfl⟩
  · intro li xs W hI hli hp K hK
    obtain ⟨b6, b19, b28, hI⟩ := hI
    have g6 : li 6 = true := hI.on6 (hp.1 rfl) (by decide)
    cases b6 with
    | false =>
      have h7 : xs 7 = .bool false := hI.val 7 (hp.1 rfl)
      simp only [h7] at hK
      clear hp
      go_simp
      exact hK _ _ ⟨_, _, _, hI.ord 9 _ (by decide) (.inr g6) (.inl (by decide)) (.inl (by decide)) rfl⟩
    | true =>
      have h7 : xs 7 = .bool true := hI.val 7 (hp.1 rfl)
      simp only [h7] at hK
      clear hp
      go_simp
      exact hK _ _ ⟨_, _, _, hI.ord 9 _ (by decide) (.inr g6) (.inl (by decide)) (.inl (by decide)) rfl⟩
  · intro li xs W hI hli hp K hK
    obtain ⟨b6, b19, b28, hI⟩ := hI
    have g6 : li 6 = true := hI.on6 (hp.1 rfl) (by decide)
    cases b6 with
    | false =>
      have h9 : xs 9 = undef := hI.val 9 (hp.1 rfl)
      have h7 : xs 7 = .bool false := hI.val 7 (hp.2.1 rfl)
      simp only [h9, h7] at hK
      clear hp
      go_simp
      exact hK _ _ ⟨_, _, _, hI.ord 10 _ (by decide) (.inr g6) (.inl (by decide)) (.inl (by decide)) rfl⟩
    | true =>
      have h9 : xs 9 = .pointer (some ⟨b, 0, none⟩) := hI.val 9 (hp.1 rfl)
      have h7 : xs 7 = .bool true := hI.val 7 (hp.2.1 rfl)
      simp only [h9, h7] at hK
      clear hp
      go_simp
      exact hK _ _ ⟨_, _, _, hI.ord 10 _ (by decide) (.inr g6) (.inl (by decide)) (.inl (by decide)) rfl⟩
  · intro li xs W hI hli hp K hK
    obtain ⟨b6, b19, b28, hI⟩ := hI
    have g6 : li 6 = true := hI.on6 (hp.1 rfl) (by decide)
    cases b6 with
    | false =>
      have h10 : xs 10 = undef := hI.val 10 (hp.1 rfl)
      have h7 : xs 7 = .bool false := hI.val 7 (hp.2.1 rfl)
      simp only [h10, h7] at hK
      clear hp
      go_simp
      exact hK _ _ ⟨_, _, _, hI.ord 11 _ (by decide) (.inr g6) (.inl (by decide)) (.inl (by decide)) rfl⟩
    | true =>
      have h10 : xs 10 = .pointer (some ⟨b, 0, none⟩) := hI.val 10 (hp.1 rfl)
      have h7 : xs 7 = .bool true := hI.val 7 (hp.2.1 rfl)
      simp only [h10, h7] at hK
      clear hp
      go_simp
      exact hK _ _ ⟨_, _, _, hI.ord 11 _ (by decide) (.inr g6) (.inl (by decide)) (.inl (by decide)) rfl⟩
  · intro li xs W hI hli hp K hK
    obtain ⟨b6, b19, b28, hI⟩ := hI
    have g6 : li 6 = true := hI.on6 (hp.1 rfl) (by decide)
    cases b6 with
    | false =>
      have h11 : xs 11 = undef := hI.val 11 (hp.1 rfl)
      have h7 : xs 7 = .bool false := hI.val 7 (hp.2.1 rfl)
      simp only [h11, h7] at hK
      clear hp
      go_simp
      exact hK _ _ ⟨_, _, _, hI.ord 12 _ (by decide) (.inr g6) (.inl (by decide)) (.inl (by decide)) rfl⟩
    | true =>
      have h11 : xs 11 = .pointer (some ⟨b, 0, none⟩) := hI.val 11 (hp.1 rfl)
      have h7 : xs 7 = .bool true := hI.val 7 (hp.2.1 rfl)
      simp only [h11, h7] at hK
      clear hp
      go_simp
      exact hK _ _ ⟨_, _, _, hI.ord 12 _ (by decide) (.inr g6) (.inl (by decide)) (.inl (by decide)) rfl⟩
  · intro li xs W hI hli hp K hK
    obtain ⟨b6, b19, b28, hI⟩ := hI
    have g6 : li 6 = true := hI.on6 (hp.1 rfl) (by decide)
    cases b6 with
    | false =>
      have h12 : xs 12 = undef := hI.val 12 (hp.1 rfl)
      have h7 : xs 7 = .bool false := hI.val 7 (hp.2.1 rfl)
      simp only [h12, h7] at hK
      clear hp
      go_simp
      exact hK _ _ ⟨_, _, _, hI.ord 13 _ (by decide) (.inr g6) (.inl (by decide)) (.inl (by decide)) rfl⟩
    | true =>
      have h12 : xs 12 = .pointer (some ⟨b, 0, none⟩) := hI.val 12 (hp.1 rfl)
      have h7 : xs 7 = .bool true := hI.val 7 (hp.2.1 rfl)
      simp only [h12, h7] at hK
      have n19 : li 19 = false := not_on (fun h => (hI.d19 h).1) hli
      have cc := ((hI.w1 g6 rfl n19).2.cell hb 0).trans c0
      clear hp
      go_simp
      exact hK _ _ ⟨_, _, _, hI.ord 13 _ (by decide) (.inr g6) (.inl (by decide)) (.inl (by decide)) rfl⟩
  · intro li xs W hI hli hp K hK
    obtain ⟨b6, b19, b28, hI⟩ := hI
    have g6 : li 6 = true := hI.on6 (hp.1 rfl) (by decide)
    cases b6 with
    | false =>
      have h7 : xs 7 = .bool false := hI.val 7 (hp.1 rfl)
      simp only [h7] at hK
      clear hp
      go_simp
      exact hK _ _ ⟨_, _, _, hI.ord 14 _ (by decide) (.inr g6) (.inl (by decide)) (.inl (by decide)) rfl⟩
    | true =>
      have h7 : xs 7 = .bool true := hI.val 7 (hp.1 rfl)
      simp only [h7] at hK
      clear hp
      go_simp
      exact hK _ _ ⟨_, _, _, hI.ord 14 _ (by decide) (.inr g6) (.inl (by decide)) (.inl (by decide)) rfl⟩
  · intro li xs W hI hli hp K hK
    obtain ⟨b6, b19, b28, hI⟩ := hI
    have g6 : li 6 = true := hI.on6 (hp.1 rfl) (by decide)
    cases b6 with
    | false =>
      have h14 : xs 14 = undef := hI.val 14 (hp.1 rfl)
      have h7 : xs 7 = .bool false := hI.val 7 (hp.2.1 rfl)
      simp only [h14, h7] at hK
      clear hp
      go_simp
      exact hK _ _ ⟨_, _, _, hI.ord 15 _ (by decide) (.inr g6) (.inl (by decide)) (.inl (by decide)) rfl⟩
    | true =>
      have h14 : xs 14 = .pointer (some ⟨b, 0, none⟩) := hI.val 14 (hp.1 rfl)
      have h7 : xs 7 = .bool true := hI.val 7 (hp.2.1 rfl)
      simp only [h14, h7] at hK
      clear hp
      go_simp
      exact hK _ _ ⟨_, _, _, hI.ord 15 _ (by decide) (.inr g6) (.inl (by decide)) (.inl (by decide)) rfl⟩
  · intro li xs W hI hli hp K hK
    obtain ⟨b6, b19, b28, hI⟩ := hI
    have g6 : li 6 = true := hI.on6 (hp.1 rfl) (by decide)
    cases b6 with
    | false =>
      have h15 : xs 15 = undef := hI.val 15 (hp.1 rfl)
      have h7 : xs 7 = .bool false := hI.val 7 (hp.2.1 rfl)
      simp only [h15, h7] at hK
      clear hp
      go_simp
      exact hK _ _ ⟨_, _, _, hI.ord 16 _ (by decide) (.inr g6) (.inl (by decide)) (.inl (by decide)) rfl⟩
    | true =>
      have h15 : xs 15 = .pointer (some ⟨b, 0, none⟩) := hI.val 15 (hp.1 rfl)
      have h7 : xs 7 = .bool true := hI.val 7 (hp.2.1 rfl)
      simp only [h15, h7] at hK
      clear hp
      go_simp
      exact hK _ _ ⟨_, _, _, hI.ord 16 _ (by decide) (.inr g6) (.inl (by decide)) (.inl (by decide)) rfl⟩
  · intro li xs W hI hli hp K hK
    obtain ⟨b6, b19, b28, hI⟩ := hI
    have g6 : li 6 = true := hI.on6 (hp.1 rfl) (by decide)
    cases b6 with
    | false =>
      have h16 : xs 16 = undef := hI.val 16 (hp.1 rfl)
      have h7 : xs 7 = .bool false := hI.val 7 (hp.2.1 rfl)
      simp only [h16, h7] at hK
      clear hp
      go_simp
      exact hK _ _ ⟨_, _, _, hI.ord 17 _ (by decide) (.inr g6) (.inl (by decide)) (.inl (by decide)) rfl⟩
    | true =>
      have h16 : xs 16 = .pointer (some ⟨b, 0, none⟩) := hI.val 16 (hp.1 rfl)
      have h7 : xs 7 = .bool true := hI.val 7 (hp.2.1 rfl)
      simp only [h16, h7] at hK
      clear hp
      go_simp
      exact hK _ _ ⟨_, _, _, hI.ord 17 _ (by decide) (.inr g6) (.inl (by decide)) (.inl (by decide)) rfl⟩
  · intro li xs W hI hli hp K hK
    obtain ⟨b6, b19, b28, hI⟩ := hI
    have g6 : li 6 = true := hI.on6 (hp.1 rfl) (by decide)
    cases b6 with
    | false =>
      have h17 : xs 17 = undef := hI.val 17 (hp.1 rfl)
      have h7 : xs 7 = .bool false := hI.val 7 (hp.2.1 rfl)
      simp only [h17, h7] at hK
      clear hp
      go_simp
      exact hK _ _ ⟨_, _, _, hI.ord 18 _ (by decide) (.inr g6) (.inl (by decide)) (.inl (by decide)) rfl⟩
    | true =>
      have h17 : xs 17 = .pointer (some ⟨b, 1, none⟩) := hI.val 17 (hp.1 rfl)
      have h7 : xs 7 = .bool true := hI.val 7 (hp.2.1 rfl)
      simp only [h17, h7] at hK
      have n19 : li 19 = false := not_on (fun h => (hI.d19 h).2) hli
      have cc := ((hI.w1 g6 rfl n19).2.cell hb 1).trans c1
      clear hp
      go_simp
      exact hK _ _ ⟨_, _, _, hI.ord 18 _ (by decide) (.inr g6) (.inl (by decide)) (.inl (by decide)) rfl⟩
  · intro li xs W hI hli hp K hK
    obtain ⟨b6, b19, b28, hI⟩ := hI
    have g6 : li 6 = true := hI.on6 (hp.1 rfl) (by decide)
    have l13 : li 13 = true := hp.2.1 rfl
    have l18 : li 18 = true := hp.2.2.1 rfl
    have l3 := hI.d6 g6
    have hn := hI.c19 hli
    have hup : ∀ j, j ≠ 19 → upd li 19 true j = li j := fun j hj => upd_other _ _ hj
    cases b6 with
    | false =>
      have h8 : xs 8 = undef := hI.val 8 (hp.1 rfl)
      have h13 : xs 13 = undef := hI.val 13 (hp.2.1 rfl)
      have h18 : xs 18 = undef := hI.val 18 (hp.2.2.1 rfl)
      have h7 : xs 7 = .bool false := hI.val 7 (hp.2.2.2.2.1 rfl)
      simp only [h8, h13, h18, h7] at hK
      have hw := hI.w1f g6 rfl
      clear hp
      go_simp
      refine ⟨fun _ _ => trivial, ?_⟩
      refine hK _ _ ⟨false, true, true, ⟨fun j hj => ?_, fun h => ?_, fun h => (by cases h), fun _ j hj => ?_, fun _ => l3, fun _ => ⟨l13, l18⟩, fun h => ?_, fun h => ?_, fun _ _ => hw, fun _ h => (by cases h), fun _ h => (by cases h), fun _ h => (by cases h), fun h => absurd h (by rw [hup 28 (by decide), hn 28 (by decide)]; simp), fun h => absurd h (by rw [hup 28 (by decide), hn 28 (by decide)]; simp)⟩⟩
      · by_cases hj6 : j = 19
        · subst hj6; rfl
        · rw [hup j hj6] at hj
          rw [upd_other _ _ hj6, hI.val j hj]
          have : ¬ 19 ≤ j := fun hle => by rw [hn j hle] at hj; cases hj
          exact tellC_19 _ _ _ _ _ _ _ _ _ _ _ _ _ (by omega)
      · rw [hup 6 (by decide), g6] at h; cases h
      · rw [hup j (by omega)]; exact hn j (by omega)
      · rw [hup 28 (by decide), hn 28 (by decide)] at h; cases h
      · rw [hup 6 (by decide), g6] at h; cases h
    | true =>
      have h8 : xs 8 = .func (.yield l) #[] #[] := hI.val 8 (hp.1 rfl)
      have h13 : xs 13 = .int .i64 k := hI.val 13 (hp.2.1 rfl)
      have h18 : xs 18 = (Value.pointer v)  := hI.val 18 (hp.2.2.1 rfl)
      have h7 : xs 7 = .bool true := hI.val 7 (hp.2.2.2.2.1 rfl)
      simp only [h8, h13, h18, h7] at hK
      obtain ⟨hJ1, hK1⟩ := hI.w1 g6 rfl hli
      obtain ⟨fn, tmps, assign, body, hy, hR⟩ := hY (n - 1) _ (k, v) _ hAk hJ1 (by simp; omega)
      dsimp only at hy
      clear hp
      go_simp
      refine ⟨fun h => (by cases h), ?_⟩
      refine hR.mono ?_
      rintro e w' (⟨rfl, hJ2, hK2⟩ | ⟨rfl, hx⟩)
      · refine hK _ _ ⟨true, true, true, ⟨fun j hj => ?_, fun h => ?_, fun h => (by cases h), fun _ j hj => ?_, fun _ => l3, fun _ => ⟨l13, l18⟩, fun h => ?_, fun h => ?_, fun _ h => (by cases h), fun _ _ h => (by cases h), fun _ _ h => (by cases h), fun _ _ _ _ => ⟨hJ2, hK1.trans hK2⟩, fun h => absurd h (by rw [hup 28 (by decide), hn 28 (by decide)]; simp), fun h => absurd h (by rw [hup 28 (by decide), hn 28 (by decide)]; simp)⟩⟩
        · by_cases hj6 : j = 19
          · subst hj6; rfl
          · rw [hup j hj6] at hj
            rw [upd_other _ _ hj6, hI.val j hj]
            have : ¬ 19 ≤ j := fun hle => by rw [hn j hle] at hj; cases hj
            exact tellC_19 _ _ _ _ _ _ _ _ _ _ _ _ _ (by omega)
        · rw [hup 6 (by decide), g6] at h; cases h
        · rw [hup j (by omega)]; exact hn j (by omega)
        · rw [hup 28 (by decide), hn 28 (by decide)] at h; cases h
        · rw [hup 6 (by decide), g6] at h; cases h
      · refine hK _ _ ⟨true, false, true, ⟨fun j hj => ?_, fun h => ?_, fun h => (by cases h), fun _ j hj => ?_, fun _ => l3, fun _ => ⟨l13, l18⟩, fun h => ?_, fun h => ?_, fun _ h => (by cases h), fun _ _ h => (by cases h), fun _ _ _ => hx, fun _ _ h => (by cases h), fun h => absurd h (by rw [hup 28 (by decide), hn 28 (by decide)]; simp), fun h => absurd h (by rw [hup 28 (by decide), hn 28 (by decide)]; simp)⟩⟩
        · by_cases hj6 : j = 19
          · subst hj6; rfl
          · rw [hup j hj6] at hj
            rw [upd_other _ _ hj6, hI.val j hj]
            have : ¬ 19 ≤ j := fun hle => by rw [hn j hle] at hj; cases hj
            exact tellC_19 _ _ _ _ _ _ _ _ _ _ _ _ _ (by omega)
        · rw [hup 6 (by decide), g6] at h; cases h
        · rw [hup j (by omega)]; exact hn j (by omega)
        · rw [hup 28 (by decide), hn 28 (by decide)] at h; cases h
        · rw [hup 6 (by decide), g6] at h; cases h
  · intro li xs W hI hli hp K hK
    obtain ⟨b6, b19, b28, hI⟩ := hI
    have g6 : li 6 = true := hI.on6 (hp.1 rfl) (by decide)
    have g19 : li 19 = true := hI.on19 (hp.2.1 rfl) (by decide)
    cases b6 with
    | false =>
      have h7 : xs 7 = .bool false := hI.val 7 (hp.1 rfl)
      have h19 : xs 19 = undef := hI.val 19 (hp.2.1 rfl)
      simp only [h7, h19] at hK
      clear hp
      go_simp
      exact hK _ _ ⟨_, _, _, hI.ord 20 _ (by decide) (.inr g6) (.inr g19) (.inl (by decide)) rfl⟩
    | true =>
      cases b19 with
      | false =>
        have h7 : xs 7 = .bool true := hI.val 7 (hp.1 rfl)
        have h19 : xs 19 = .bool false := hI.val 19 (hp.2.1 rfl)
        simp only [h7, h19] at hK
        clear hp
        go_simp
        exact hK _ _ ⟨_, _, _, hI.ord 20 _ (by decide) (.inr g6) (.inr g19) (.inl (by decide)) rfl⟩
      | true =>
        have h7 : xs 7 = .bool true := hI.val 7 (hp.1 rfl)
        have h19 : xs 19 = .bool true := hI.val 19 (hp.2.1 rfl)
        simp only [h7, h19] at hK
        clear hp
        go_simp
        exact hK _ _ ⟨_, _, _, hI.ord 20 _ (by decide) (.inr g6) (.inr g19) (.inl (by decide)) rfl⟩
  · intro li xs W hI hli hp K hK
    obtain ⟨b6, b19, b28, hI⟩ := hI
    have g6 : li 6 = true := hI.on6 (hp.1 rfl) (by decide)
    have g19 : li 19 = true := hI.on19 (hp.1 rfl) (by decide)
    cases b6 with
    | false =>
      have h20 : xs 20 = .bool false := hI.val 20 (hp.1 rfl)
      simp only [h20] at hK
      clear hp
      go_simp
      exact hK _ _ ⟨_, _, _, hI.ord 21 _ (by decide) (.inr g6) (.inr g19) (.inl (by decide)) rfl⟩
    | true =>
      cases b19 with
      | false =>
        have h20 : xs 20 = .bool false := hI.val 20 (hp.1 rfl)
        simp only [h20] at hK
        clear hp
        go_simp
        exact hK _ _ ⟨_, _, _, hI.ord 21 _ (by decide) (.inr g6) (.inr g19) (.inl (by decide)) rfl⟩
      | true =>
        have h20 : xs 20 = .bool true := hI.val 20 (hp.1 rfl)
        simp only [h20] at hK
        clear hp
        go_simp
        exact hK _ _ ⟨_, _, _, hI.ord 21 _ (by decide) (.inr g6) (.inr g19) (.inl (by decide)) rfl⟩
  · intro li xs W hI hli hp K hK
    obtain ⟨b6, b19, b28, hI⟩ := hI
    have g6 : li 6 = true := hI.on6 (hp.1 rfl) (by decide)
    have g19 : li 19 = true := hI.on19 (hp.1 rfl) (by decide)
    cases b6 with
    | false =>
      have h21 : xs 21 = .bool false := hI.val 21 (hp.1 rfl)
      simp only [h21] at hK
      clear hp
      go_simp
      exact hK _ _ ⟨_, _, _, hI.ord 22 _ (by decide) (.inr g6) (.inr g19) (.inl (by decide)) rfl⟩
    | true =>
      cases b19 with
      | false =>
        have h21 : xs 21 = .bool false := hI.val 21 (hp.1 rfl)
        simp only [h21] at hK
        clear hp
        go_simp
        exact hK _ _ ⟨_, _, _, hI.ord 22 _ (by decide) (.inr g6) (.inr g19) (.inl (by decide)) rfl⟩
      | true =>
        have h21 : xs 21 = .bool true := hI.val 21 (hp.1 rfl)
        simp only [h21] at hK
        clear hp
        go_simp
        exact hK _ _ ⟨_, _, _, hI.ord 22 _ (by decide) (.inr g6) (.inr g19) (.inl (by decide)) rfl⟩
  · intro li xs W hI hli hp K hK
    obtain ⟨b6, b19, b28, hI⟩ := hI
    have g6 : li 6 = true := hI.on6 (hp.1 rfl) (by decide)
    have g19 : li 19 = true := hI.on19 (hp.1 rfl) (by decide)
    cases b6 with
    | false =>
      have h22 : xs 22 = undef := hI.val 22 (hp.1 rfl)
      have h21 : xs 21 = .bool false := hI.val 21 (hp.2.1 rfl)
      simp only [h22, h21] at hK
      clear hp
      go_simp
      exact hK _ _ ⟨_, _, _, hI.ord 23 _ (by decide) (.inr g6) (.inr g19) (.inl (by decide)) rfl⟩
    | true =>
      cases b19 with
      | false =>
        have h22 : xs 22 = undef := hI.val 22 (hp.1 rfl)
        have h21 : xs 21 = .bool false := hI.val 21 (hp.2.1 rfl)
        simp only [h22, h21] at hK
        clear hp
        go_simp
        exact hK _ _ ⟨_, _, _, hI.ord 23 _ (by decide) (.inr g6) (.inr g19) (.inl (by decide)) rfl⟩
      | true =>
        have h22 : xs 22 = .pointer (some ⟨b, 0, none⟩) := hI.val 22 (hp.1 rfl)
        have h21 : xs 21 = .bool true := hI.val 21 (hp.2.1 rfl)
        simp only [h22, h21] at hK
        clear hp
        go_simp
        exact hK _ _ ⟨_, _, _, hI.ord 23 _ (by decide) (.inr g6) (.inr g19) (.inl (by decide)) rfl⟩
  · intro li xs W hI hli hp K hK
    obtain ⟨b6, b19, b28, hI⟩ := hI
    have g6 : li 6 = true := hI.on6 (hp.1 rfl) (by decide)
    have g19 : li 19 = true := hI.on19 (hp.1 rfl) (by decide)
    cases b6 with
    | false =>
      have h23 : xs 23 = undef := hI.val 23 (hp.1 rfl)
      have h21 : xs 21 = .bool false := hI.val 21 (hp.2.1 rfl)
      simp only [h23, h21] at hK
      clear hp
      go_simp
      exact hK _ _ ⟨_, _, _, hI.ord 24 _ (by decide) (.inr g6) (.inr g19) (.inl (by decide)) rfl⟩
    | true =>
      cases b19 with
      | false =>
        have h23 : xs 23 = undef := hI.val 23 (hp.1 rfl)
        have h21 : xs 21 = .bool false := hI.val 21 (hp.2.1 rfl)
        simp only [h23, h21] at hK
        clear hp
        go_simp
        exact hK _ _ ⟨_, _, _, hI.ord 24 _ (by decide) (.inr g6) (.inr g19) (.inl (by decide)) rfl⟩
      | true =>
        have h23 : xs 23 = .pointer (some ⟨b, 0, none⟩) := hI.val 23 (hp.1 rfl)
        have h21 : xs 21 = .bool true := hI.val 21 (hp.2.1 rfl)
        simp only [h23, h21] at hK
        clear hp
        go_simp
        exact hK _ _ ⟨_, _, _, hI.ord 24 _ (by decide) (.inr g6) (.inr g19) (.inl (by decide)) rfl⟩
  · intro li xs W hI hli hp K hK
    obtain ⟨b6, b19, b28, hI⟩ := hI
    have g6 : li 6 = true := hI.on6 (hp.1 rfl) (by decide)
    have g19 : li 19 = true := hI.on19 (hp.1 rfl) (by decide)
    cases b6 with
    | false =>
      have h24 : xs 24 = undef := hI.val 24 (hp.1 rfl)
      have h21 : xs 21 = .bool false := hI.val 21 (hp.2.1 rfl)
      simp only [h24, h21] at hK
      clear hp
      go_simp
      exact hK _ _ ⟨_, _, _, hI.ord 25 _ (by decide) (.inr g6) (.inr g19) (.inl (by decide)) rfl⟩
    | true =>
      cases b19 with
      | false =>
        have h24 : xs 24 = undef := hI.val 24 (hp.1 rfl)
        have h21 : xs 21 = .bool false := hI.val 21 (hp.2.1 rfl)
        simp only [h24, h21] at hK
        clear hp
        go_simp
        exact hK _ _ ⟨_, _, _, hI.ord 25 _ (by decide) (.inr g6) (.inr g19) (.inl (by decide)) rfl⟩
      | true =>
        have h24 : xs 24 = .pointer (some ⟨b, 4, none⟩) := hI.val 24 (hp.1 rfl)
        have h21 : xs 21 = .bool true := hI.val 21 (hp.2.1 rfl)
        simp only [h24, h21] at hK
        have n28 : li 28 = false := not_on hI.d28 hli
        have cc := ((hI.w2 g19 rfl rfl n28).2.cell hb 4).trans c4
        clear hp
        go_simp
        exact hK _ _ ⟨_, _, _, hI.ord 25 _ (by decide) (.inr g6) (.inr g19) (.inl (by decide)) rfl⟩
  · intro li xs W hI hli hp K hK
    obtain ⟨b6, b19, b28, hI⟩ := hI
    have g6 : li 6 = true := hI.on6 (hp.1 rfl) (by decide)
    have g19 : li 19 = true := hI.on19 (hp.1 rfl) (by decide)
    cases b6 with
    | false =>
      have h21 : xs 21 = .bool false := hI.val 21 (hp.1 rfl)
      simp only [h21] at hK
      clear hp
      go_simp
      exact hK _ _ ⟨_, _, _, hI.ord 26 _ (by decide) (.inr g6) (.inr g19) (.inl (by decide)) rfl⟩
    | true =>
      cases b19 with
      | false =>
        have h21 : xs 21 = .bool false := hI.val 21 (hp.1 rfl)
        simp only [h21] at hK
        clear hp
        go_simp
        exact hK _ _ ⟨_, _, _, hI.ord 26 _ (by decide) (.inr g6) (.inr g19) (.inl (by decide)) rfl⟩
      | true =>
        have h21 : xs 21 = .bool true := hI.val 21 (hp.1 rfl)
        simp only [h21] at hK
        clear hp
        go_simp
        exact hK _ _ ⟨_, _, _, hI.ord 26 _ (by decide) (.inr g6) (.inr g19) (.inl (by decide)) rfl⟩
  · intro li xs W hI hli hp K hK
    obtain ⟨b6, b19, b28, hI⟩ := hI
    have g6 : li 6 = true := hI.on6 (hp.1 rfl) (by decide)
    have g19 : li 19 = true := hI.on19 (hp.1 rfl) (by decide)
    cases b6 with
    | false =>
      have h21 : xs 21 = .bool false := hI.val 21 (hp.1 rfl)
      simp only [h21] at hK
      clear hp
      go_simp
      exact hK _ _ ⟨_, _, _, hI.ord 27 _ (by decide) (.inr g6) (.inr g19) (.inl (by decide)) rfl⟩
    | true =>
      cases b19 with
      | false =>
        have h21 : xs 21 = .bool false := hI.val 21 (hp.1 rfl)
        simp only [h21] at hK
        clear hp
        go_simp
        exact hK _ _ ⟨_, _, _, hI.ord 27 _ (by decide) (.inr g6) (.inr g19) (.inl (by decide)) rfl⟩
      | true =>
        have h21 : xs 21 = .bool true := hI.val 21 (hp.1 rfl)
        simp only [h21] at hK
        clear hp
        go_simp
        exact hK _ _ ⟨_, _, _, hI.ord 27 _ (by decide) (.inr g6) (.inr g19) (.inl (by decide)) rfl⟩
  · intro li xs W hI hli hp K hK
    obtain ⟨b6, b19, b28, hI⟩ := hI
    have g6 : li 6 = true := hI.on6 (hp.1 rfl) (by decide)
    have g19 : li 19 = true := hI.on19 (hp.1 rfl) (by decide)
    have l25 : li 25 = true := hp.1 rfl
    have l3 := hI.d6 g6
    have l1 := hI.d19 g19
    have hn := hI.c28 hli
    have hup : ∀ j, j ≠ 28 → upd li 28 true j = li j := fun j hj => upd_other _ _ hj
    cases b6 with
    | false =>
      have h25 : xs 25 = undef := hI.val 25 (hp.1 rfl)
      have h26 : xs 26 = undef := hI.val 26 (hp.2.1 rfl)
      have h27 : xs 27 = undef := hI.val 27 (hp.2.2.1 rfl)
      have h21 : xs 21 = .bool false := hI.val 21 (hp.2.2.2.2.1 rfl)
      simp only [h25, h26, h27, h21] at hK
      have hw := hI.w1f g6 rfl
      clear hp
      go_simp
      refine ⟨trivial, ?_⟩
      refine hK _ _ ⟨false, true, true, ⟨fun j hj => ?_, fun h => ?_, fun h => ?_, fun h => (by cases h), fun _ => l3, fun _ => l1, fun _ => l25, fun h => ?_, fun _ _ => hw, fun _ h => (by cases h), fun _ h => (by cases h), fun _ h => (by cases h), fun _ h => (by cases h), fun _ h => (by cases h)⟩⟩
      · by_cases hj6 : j = 28
        · subst hj6; rfl
        · rw [hup j hj6] at hj
          rw [upd_other _ _ hj6, hI.val j hj]
          have : ¬ 28 ≤ j := fun hle => by rw [hn j hle] at hj; cases hj
          exact tellC_28 _ _ _ _ _ _ _ _ _ _ _ _ (by omega)
      · rw [hup 6 (by decide), g6] at h; cases h
      · rw [hup 19 (by decide), g19] at h; cases h
      · rw [hup 6 (by decide), g6] at h; cases h
    | true =>
      cases b19 with
      | false =>
        have h25 : xs 25 = undef := hI.val 25 (hp.1 rfl)
        have h26 : xs 26 = undef := hI.val 26 (hp.2.1 rfl)
        have h27 : xs 27 = undef := hI.val 27 (hp.2.2.1 rfl)
        have h21 : xs 21 = .bool false := hI.val 21 (hp.2.2.2.2.1 rfl)
        simp only [h25, h26, h27, h21] at hK
        have hw := hI.w2f g19 rfl rfl
        clear hp
        go_simp
        refine ⟨trivial, ?_⟩
        refine hK _ _ ⟨true, false, true, ⟨fun j hj => ?_, fun h => ?_, fun h => ?_, fun h => (by cases h), fun _ => l3, fun _ => l1, fun _ => l25, fun h => ?_, fun _ h => (by cases h), fun _ _ h => absurd h (by rw [hup 19 (by decide), g19]; simp), fun _ _ _ => hw, fun _ _ h => (by cases h), fun _ _ h => (by cases h), fun _ _ h => (by cases h)⟩⟩
        · by_cases hj6 : j = 28
          · subst hj6; rfl
          · rw [hup j hj6] at hj
            rw [upd_other _ _ hj6, hI.val j hj]
            have : ¬ 28 ≤ j := fun hle => by rw [hn j hle] at hj; cases hj
            exact tellC_28 _ _ _ _ _ _ _ _ _ _ _ _ (by omega)
        · rw [hup 6 (by decide), g6] at h; cases h
        · rw [hup 19 (by decide), g19] at h; cases h
        · rw [hup 6 (by decide), g6] at h; cases h
      | true =>
        have h25 : xs 25 = .pointer pr := hI.val 25 (hp.1 rfl)
        have h26 : xs 26 = .int .i64 f := hI.val 26 (hp.2.1 rfl)
        have h27 : xs 27 = .func (.yield l) #[] #[] := hI.val 27 (hp.2.2.1 rfl)
        have h21 : xs 21 = .bool true := hI.val 21 (hp.2.2.2.2.1 rfl)
        simp only [h25, h26, h27, h21] at hK
        obtain ⟨hJ1, hK1⟩ := hI.w2 g19 rfl rfl hli
        clear hp
        go_simp
        refine ⟨trivial, fun h => (by cases h), ?_⟩
        refine (ihr _ _ _ _ (hr.kept hK1) hJ1 (by simp; omega)).mono ?_
        rintro e w' (⟨rfl, hJ2, hK2⟩ | ⟨rfl, q, hq, hx⟩)
        · refine hK _ _ ⟨true, true, true, ⟨fun j hj => ?_, fun h => ?_, fun h => ?_, fun h => (by cases h), fun _ => l3, fun _ => l1, fun _ => l25, fun h => ?_, fun _ h => (by cases h), fun _ _ h => absurd h (by rw [hup 19 (by decide), g19]; simp), fun _ _ h => (by cases h), fun _ _ _ h => (by cases h), fun _ _ _ h => (by cases h), fun _ _ _ _ => ⟨hJ2, hK1.trans hK2⟩⟩⟩
          · by_cases hj6 : j = 28
            · subst hj6; rfl
            · rw [hup j hj6] at hj
              rw [upd_other _ _ hj6, hI.val j hj]
              have : ¬ 28 ≤ j := fun hle => by rw [hn j hle] at hj; cases hj
              exact tellC_28 _ _ _ _ _ _ _ _ _ _ _ _ (by omega)
          · rw [hup 6 (by decide), g6] at h; cases h
          · rw [hup 19 (by decide), g19] at h; cases h
          · rw [hup 6 (by decide), g6] at h; cases h
        · refine hK _ _ ⟨true, true, false, ⟨fun j hj => ?_, fun h => ?_, fun h => ?_, fun h => (by cases h), fun _ => l3, fun _ => l1, fun _ => l25, fun h => ?_, fun _ h => (by cases h), fun _ _ h => absurd h (by rw [hup 19 (by decide), g19]; simp), fun _ _ h => (by cases h), fun _ _ _ h => (by cases h), fun _ _ _ _ => ⟨q, hq, hx⟩, fun _ _ _ h => (by cases h)⟩⟩
          · by_cases hj6 : j = 28
            · subst hj6; rfl
            · rw [hup j hj6] at hj
              rw [upd_other _ _ hj6, hI.val j hj]
              have : ¬ 28 ≤ j := fun hle => by rw [hn j hle] at hj; cases hj
              exact tellC_28 _ _ _ _ _ _ _ _ _ _ _ _ (by omega)
          · rw [hup 6 (by decide), g6] at h; cases h
          · rw [hup 19 (by decide), g19] at h; cases h
          · rw [hup 6 (by decide), g6] at h; cases h
  · intro li xs W hI hli hp K hK
    obtain ⟨b6, b19, b28, hI⟩ := hI
    have g6 : li 6 = true := hI.on6 (hp.1 rfl) (by decide)
    have g19 : li 19 = true := hI.on19 (hp.1 rfl) (by decide)
    have g28 : li 28 = true := hI.on28 (hp.2.1 rfl) (by decide)
    cases b6 with
    | false =>
      have h21 : xs 21 = .bool false := hI.val 21 (hp.1 rfl)
      have h28 : xs 28 = undef := hI.val 28 (hp.2.1 rfl)
      simp only [h21, h28] at hK
      clear hp
      go_simp
      exact hK _ _ ⟨_, _, _, hI.ord 29 _ (by decide) (.inr g6) (.inr g19) (.inr g28) rfl⟩
    | true =>
      cases b19 with
      | false =>
        have h21 : xs 21 = .bool false := hI.val 21 (hp.1 rfl)
        have h28 : xs 28 = undef := hI.val 28 (hp.2.1 rfl)
        simp only [h21, h28] at hK
        clear hp
        go_simp
        exact hK _ _ ⟨_, _, _, hI.ord 29 _ (by decide) (.inr g6) (.inr g19) (.inr g28) rfl⟩
      | true =>
        cases b28 with
        | false =>
          have h21 : xs 21 = .bool true := hI.val 21 (hp.1 rfl)
          have h28 : xs 28 = .bool false := hI.val 28 (hp.2.1 rfl)
          simp only [h21, h28] at hK
          clear hp
          go_simp
          exact hK _ _ ⟨_, _, _, hI.ord 29 _ (by decide) (.inr g6) (.inr g19) (.inr g28) rfl⟩
        | true =>
          have h21 : xs 21 = .bool true := hI.val 21 (hp.1 rfl)
          have h28 : xs 28 = .bool true := hI.val 28 (hp.2.1 rfl)
          simp only [h21, h28] at hK
          clear hp
          go_simp
          exact hK _ _ ⟨_, _, _, hI.ord 29 _ (by decide) (.inr g6) (.inr g19) (.inr g28) rfl⟩
  · intro li xs W hI hli hp K hK
    obtain ⟨b6, b19, b28, hI⟩ := hI
    have g6 : li 6 = true := hI.on6 (hp.1 rfl) (by decide)
    have g19 : li 19 = true := hI.on19 (hp.1 rfl) (by decide)
    have g28 : li 28 = true := hI.on28 (hp.1 rfl) (by decide)
    cases b6 with
    | false =>
      have h29 : xs 29 = .bool false := hI.val 29 (hp.1 rfl)
      simp only [h29] at hK
      clear hp
      go_simp
      exact hK _ _ ⟨_, _, _, hI.ord 30 _ (by decide) (.inr g6) (.inr g19) (.inr g28) rfl⟩
    | true =>
      cases b19 with
      | false =>
        have h29 : xs 29 = .bool false := hI.val 29 (hp.1 rfl)
        simp only [h29] at hK
        clear hp
        go_simp
        exact hK _ _ ⟨_, _, _, hI.ord 30 _ (by decide) (.inr g6) (.inr g19) (.inr g28) rfl⟩
      | true =>
        cases b28 with
        | false =>
          have h29 : xs 29 = .bool false := hI.val 29 (hp.1 rfl)
          simp only [h29] at hK
          clear hp
          go_simp
          exact hK _ _ ⟨_, _, _, hI.ord 30 _ (by decide) (.inr g6) (.inr g19) (.inr g28) rfl⟩
        | true =>
          have h29 : xs 29 = .bool true := hI.val 29 (hp.1 rfl)
          simp only [h29] at hK
          clear hp
          go_simp
          exact hK _ _ ⟨_, _, _, hI.ord 30 _ (by decide) (.inr g6) (.inr g19) (.inr g28) rfl⟩
  · rintro li xs W ⟨b6, b19, b28, hI⟩ hall
    have h30 := hI.val 30 (hall 30 (by simp))
    have a6 := hall 6 (by simp)
    have a19 := hall 19 (by simp)
    have a28 := hall 28 (by simp)
    clear hall
    cases b6 with
    | false =>
      obtain ⟨q, hq, hx⟩ := hI.w1f a6 rfl
      simp only [h30, tellC, Bool.false_and]
      gi_wp2
      go_ret
      exact .inr ⟨rfl, q, by rw [hfin.out]; exact hq.trans (List.prefix_append _ _), hx⟩
    | true =>
      cases b19 with
      | false =>
        have hx := hI.w2f a19 rfl rfl
        simp only [h30, tellC, Bool.true_and, Bool.false_and]
        gi_wp2
        go_ret
        refine .inr ⟨rfl, tellT f tl ++ [(k, v)], ?_, by rw [← List.append_assoc]; exact hx⟩
        rw [hfin.out]; exact ⟨tellT f tr, by simp⟩
      | true =>
        cases b28 with
        | false =>
          obtain ⟨q, ⟨r, hq⟩, hx⟩ := hI.w3f a28 rfl rfl rfl
          simp only [h30, tellC, Bool.true_and]
          gi_wp2
          go_ret
          refine .inr ⟨rfl, tellT f tl ++ (k, v) :: q, ?_, ?_⟩
          · rw [hfin.out, ← hq]; exact ⟨r, by simp⟩
          · rw [show pre ++ (tellT f tl ++ (k, v) :: q) = pre ++ tellT f tl ++ [(k, v)] ++ q by simp]; exact hx
        | true =>
          obtain ⟨hJ3, hK3⟩ := hI.w3 a28 rfl rfl rfl
          simp only [h30, tellC, Bool.true_and]
          gi_wp2
          go_ret
          refine .inl ⟨rfl, ?_, hK3⟩
          rw [hfin.out, show pre ++ (tellT f tl ++ (k, v) :: tellT f tr) = pre ++ tellT f tl ++ [(k, v)] ++ tellT f tr by simp]; exact hJ3

set_option maxRecDepth 100000 in
set_option maxHeartbeats 1000000 in
theorem tell_skip (l : Nat) (P : Nat → Prop) (N : Nat) (J Jx : List (Int × (Option Addr)) → World → Prop) (f : Int) (tl tr : BT (Option Addr)) (k : Int) (v : (Option Addr)) (ihr : TellOK l P N J Jx f tr) (hk : k < f) : TellOK l P N J Jx f (.node tl k v tr) := by
  intro n p pre W0 ht hJ hN
  obtain ⟨b, pl, pr, rfl, hb, c0, c1, c3, c4, hl, hr⟩ := ht
  have hfin : Hid (tellT f (.node tl k v tr) = tellT f tr) := by show _ = _; simp [tellT, hk]
  rw [hfin.out] at hN
  refine callsIn_of_wp Try.func83 rfl trivial ?_ rfl
  simp only [Try.ntmps83, List.size_toArray, List.length_cons, List.length_nil, Nat.reduceAdd, Nat.reduceSub, Array.replicate_succ, Array.replicate_zero, List.push_toArray, List.append_toArray, List.nil_append, List.cons_append]
  gi_wp2_with fail
  refine ⟨trivial, fun h => (by cases h), ?_⟩
  refine (ihr _ _ pre _ hr hJ hN).mono ?_
  rintro e w' (⟨rfl, hJ2, hK2⟩ | ⟨rfl, q, hq, hx⟩)
  · gi_wp2
    go_ret
    exact .inl ⟨rfl, by rw [hfin.out]; exact hJ2, hK2⟩
  · gi_wp2
    go_ret
    exact .inr ⟨rfl, q, by rw [hfin.out]; exact hq, hx⟩
set_option maxRecDepth 100000 in
set_option maxHeartbeats 1000000 in
theorem tell_nil (l : Nat) (P : Nat → Prop) (N : Nat) (J Jx : List (Int × (Option Addr)) → World → Prop) (f : Int) : TellOK l P N J Jx f .nil := by
  intro n p pre W0 ht hJ hN
  obtain rfl : p = none := ht
  refine callsIn_of_wp Try.func83 rfl trivial ?_ rfl
  simp only [Try.ntmps83, List.size_toArray, List.length_cons, List.length_nil, Nat.reduceAdd, Nat.reduceSub, Array.replicate_succ, Array.replicate_zero, List.push_toArray, List.append_toArray, List.nil_append, List.cons_append]
  gi_wp2
  go_ret
  exact .inl ⟨rfl, by simpa [tellT] using hJ, Kept.refl _ _⟩
theorem tell_any (A : Int × (Option Addr) → Prop) (l : Nat) (P : Nat → Prop) (N : Nat) (J Jx : List (Int × (Option Addr)) → World → Prop) (f : Int) (hY : Yl A l P N J Jx) (hJd : ∀ pre W, J pre W → J pre W.drew) : ∀ t : BT (Option Addr), (∀ x ∈ tellT f t, A x) → TellOK l P N J Jx f t
  | .nil, _ => tell_nil l P N J Jx f
  | .node tl k v tr, hA => by
    by_cases hk : k < f
    · have e : tellT f (.node tl k v tr) = tellT f tr := by simp [tellT, hk]
      rw [e] at hA
      exact tell_skip l P N J Jx f tl tr k v (tell_any A l P N J Jx f hY hJd tr hA) hk
    · have e : tellT f (.node tl k v tr) = tellT f tl ++ (k, v) :: tellT f tr := by simp [tellT, hk]
      rw [e] at hA
      exact tell_node A l P N J Jx f hY hJd tl tr k v (tell_any A l P N J Jx f hY hJd tl (fun x hx => hA x (by simp [hx]))) (tell_any A l P N J Jx f hY hJd tr (fun x hx => hA x (by simp [hx]))) hk (hA _ (by simp))

end Go.Proofs.Ytoihfhlelbdboab.Pp
