/- Ranging over a table from a key on: the closure's contract; two slices that are appended to in one statement, in whatever order; told. No condition but room. -/
import Derived.Test.YtoihfhlelbdboabTabPpF
import Derived.Maps.AppendAt
import Derived.Deep.AppendLies
namespace Go.Proofs.Ytoihfhlelbdboab.Pp
open Go.Proofs Go.RowKit Go.Hold Go.Inv Go.Shelf

attribute [local go_sem] Oper.semAt_some

theorem room_none (k : Nat) : Fence.wide.room k := fun d h => by cases h
theorem yield_any {m : Nat} (m' : Nat) {P : Program} {l : Nat} {args : Array Value} {W : World} {R : Ending → World → Prop} (h : YieldAt Fence.wide m P l args W R) : YieldAt Fence.wide m' P l args W R := by
  obtain ⟨fn, tmps, assign, body, hy, hR⟩ := h
  exact ⟨fn, tmps, assign, body, hy, ⟨hR.1, fun c cs _ => hR.2 c cs (room_none _)⟩⟩

/-- q is the root of the table at p -/
def Root (W : World) (p q : Option Addr) : Prop := (p = none ∧ q = none) ∨ ∃ bt, p = some ⟨bt, 0, none⟩ ∧ Boxed W bt 100 (.pointer q)
theorem Root.grow {A B : World} {p q : Option Addr} (h : Root A p q) (hB : Below A.heap.size A B) : Root B p q := by
  rcases h with h | ⟨bt, hp, hb⟩
  · exact .inl h
  · exact .inr ⟨bt, hp, hb.grow hB⟩
set_option maxRecDepth 100000 in
set_option maxHeartbeats 400000 in
theorem tree_root (p q : Option Addr) (w : World) (h : Root w p q) : Calls Try.prog 57 #[.pointer p] w fun e w' => w' = w ∧ e = .returned (.pointer q) := by
  rcases h with ⟨rfl, rfl⟩ | ⟨bt, rfl, hb⟩
  · go_enter Try.func57, Try.ntmps57
    go_wp2
    go_ret
    exact ⟨rfl, rfl⟩
  · exact tree_same bt q w hb

/-- what has become of the closure's line: 0 the table's pointer, 1 its root, 2 the key, 3 yield, 4 tell -/
structure FromI (p q : Option Addr) (f : Int) (l : Nat) (W0 : World) (F : World → Prop) (li : Nat → Bool) (xs : Nat → Value) (W : World) : Prop where
  v0 : li 0 = true → xs 0 = .pointer p
  v1 : li 1 = true → xs 1 = .pointer q
  v2 : li 2 = true → xs 2 = .int .i64 f
  v3 : li 3 = true → xs 3 = .func (.yield l) #[] #[]
  c1 : li 1 = true → li 0 = true
  c4 : li 4 = true → li 1 = true ∧ li 2 = true ∧ li 3 = true
  w : li 4 = false → W = W0
  e : li 4 = true → F W
theorem FromI.mark {p q : Option Addr} {f : Int} {l : Nat} {W0 W : World} {F : World → Prop} {li : Nat → Bool} {xs : Nat → Value} (h : FromI p q f l W0 F li xs W) (i : Nat) (x : Value) (hi : i < 4)
    (h0 : i = 0 → x = .pointer p) (h1 : i = 1 → x = .pointer q) (h2 : i = 2 → x = .int .i64 f) (h3 : i = 3 → x = .func (.yield l) #[] #[]) (hc : i = 1 → li 0 = true) : FromI p q f l W0 F (upd li i true) (upd xs i x) W := by
  have key : ∀ (j : Nat) (y : Value), (i = j → x = y) → (li j = true → xs j = y) → upd li i true j = true → upd xs i x j = y := fun j y hx hv hj => by
    by_cases hji : j = i
    · subst hji; rw [upd_same]; exact hx rfl
    · rw [upd_other _ _ hji] at hj ⊢; exact hv hj
  have e4 : upd li i true 4 = li 4 := upd_other _ _ (by omega)
  have up : ∀ j, li j = true → upd li i true j = true := fun j hj => by
    unfold upd
    split
    · rfl
    · exact hj
  refine ⟨key 0 _ h0 h.v0, key 1 _ h1 h.v1, key 2 _ h2 h.v2, key 3 _ h3 h.v3, ?_, ?_, ?_, ?_⟩
  · intro hj
    by_cases h1i : 1 = i
    · exact up 0 (hc h1i.symm)
    · rw [upd_other _ _ h1i] at hj; exact up 0 (h.c1 hj)
  · rw [e4]; exact fun h4 => ⟨up 1 (h.c4 h4).1, up 2 (h.c4 h4).2.1, up 3 (h.c4 h4).2.2⟩
  · rw [e4]; exact h.w
  · rw [e4]; exact h.e

set_option maxRecDepth 100000 in
set_option maxHeartbeats 1000000 in
theorem from1_in (A : Int × (Option Addr) → Prop) (n l N : Nat) (P : Nat → Prop) (J Jx : List (Int × (Option Addr)) → World → Prop) (f : Int) (p q : Option Addr) (t : BT (Option Addr)) (Bt Bk : Nat)
    (hY : ∀ (pre : List (Int × (Option Addr))) (x : Int × (Option Addr)) (W : World), A x → J pre W → pre.length < N → YieldAt Fence.wide (n - 1) Try.prog l #[.int .i64 x.1, (Value.pointer x.2)] W fun e W' =>
      (e = .returned (.bool true) ∧ J (pre ++ [x]) W' ∧ Kept P W W') ∨ (e = .returned (.bool false) ∧ Jx (pre ++ [x]) W'))
    (hJd : ∀ pre W, J pre W → J pre W.drew) (W : World) (hBt : W.cell? ⟨Bt, 0, none⟩ = some (.pointer p)) (hBk : W.cell? ⟨Bk, 0, none⟩ = some (.int .i64 f)) (hroot : Root W p q) (hT : InT P W q t) (hN : (tellT f t).length ≤ N) (hall : ∀ x ∈ tellT f t, A x) (h0 : J [] W) :
    CallsIn Fence.wide n Try.prog 82 #[.func (.yield l) #[] #[], .pointer (some ⟨Bt, 0, none⟩), .pointer (some ⟨Bk, 0, none⟩)] W fun e W' => (∃ v, e = .returned v) ∧
      ((∃ ys, ys = tellT f t ∧ J ys W') ∨ (∃ pre, pre <+: tellT f t ∧ Jx pre W')) := by
  have htell := tell_any A l P N J Jx f (fun m pre x W ha hj hl => yield_any m (hY pre x W ha hj hl)) hJd t hall
  clear hY
  have hrun : Sem.run Try.prog (binOp BinOp.neq 143 (Value.func (Fn.yield l) #[] #[]) Value.nilFunc) W = .ok (.bool true) W := rfl
  refine callsIn_of_wp Try.func82 rfl trivial ?_ rfl
  simp only [Try.ntmps82, List.size_toArray, List.length_cons, List.length_nil, Nat.reduceAdd, Nat.reduceSub, Array.replicate_succ, Array.replicate_zero, List.push_toArray, List.append_toArray, List.nil_append, List.cons_append]
  gi_wp2
  refine wpIn_region_steps (by kernel_rfl) (by kernel_rfl) (fun xs => { tmps := (Value.func (Fn.yield l) #[] #[] :: Value.pointer (some (⟨Bt, 0, none⟩ : Addr)) :: Value.pointer (some (⟨Bk, 0, none⟩ : Addr)) :: undef :: Value.func (Fn.yield l) #[] #[] :: Value.bool true :: xs 0 :: xs 1 :: xs 2 :: xs 3 :: xs 4 :: []).toArray, defers := [] })
    (fun li xs W' => FromI p q f l W.drew (fun W' => (∃ ys, ys = tellT f t ∧ J ys W') ∨ (∃ pre, pre <+: tellT f t ∧ Jx pre W')) li xs W') (fun | _ => undef) (by repeat (first | exact trivial | refine ⟨fun _ _ => rfl, ?_⟩)) ?_ ⟨?_, ?_, ?_, ?_, ?_, trivial⟩ ?_
  · exact ⟨fun h => (by cases h), fun h => (by cases h), fun h => (by cases h), fun h => (by cases h), fun h => (by cases h), fun h => (by cases h), fun _ => rfl, fun h => (by cases h)⟩
  · intro li xs W1 hI hli hp K hK
    have n4 : li 4 = false := not_on (fun h => hI.c1 (hI.c4 h).1) hli
    obtain rfl := hI.w n4
    go_simp
    exact hK _ _ (hI.mark 0 _ (by decide) (fun _ => rfl) (fun h => by cases h) (fun h => by cases h) (fun h => by cases h) (fun h => by cases h))
  · intro li xs W1 hI hli hp K hK
    have n4 : li 4 = false := not_on (fun h => (hI.c4 h).1) hli
    have k0 : Hid (li 0 = true) := hp.1 rfl
    have h0' : xs 0 = .pointer p := hI.v0 k0.out
    obtain rfl := hI.w n4
    simp only [h0'] at hK
    go_simp
    refine ⟨trivial, fun h => (by cases h), ?_⟩
    refine (callsIn_wide.2 (tree_root p q W.drew (hroot.grow (Below.refl _ _).drew))).mono ?_
    rintro e w' ⟨rfl, rfl⟩
    exact hK _ _ (hI.mark 1 _ (by decide) (fun h => by cases h) (fun _ => rfl) (fun h => by cases h) (fun h => by cases h) (fun _ => k0.out))
  · intro li xs W1 hI hli hp K hK
    have n4 : li 4 = false := not_on (fun h => (hI.c4 h).2.1) hli
    obtain rfl := hI.w n4
    go_simp
    exact hK _ _ (hI.mark 2 _ (by decide) (fun h => by cases h) (fun h => by cases h) (fun _ => rfl) (fun h => by cases h) (fun h => by cases h))
  · intro li xs W1 hI hli hp K hK
    go_simp
    exact hK _ _ (hI.mark 3 _ (by decide) (fun h => by cases h) (fun h => by cases h) (fun h => by cases h) (fun _ => rfl) (fun h => by cases h))
  · intro li xs W1 hI hli hp K hK
    have l1 : li 1 = true := hp.1 rfl
    have l2 : li 2 = true := hp.2.1 rfl
    have l3 : li 3 = true := hp.2.2.1 rfl
    have hI' := hI
    have k1 : Hid (li 1 = true) := l1
    have k2 : Hid (li 2 = true) := l2
    have k3 : Hid (li 3 = true) := l3
    have h1' : xs 1 = .pointer q := hI.v1 l1
    have h2' : xs 2 = .int .i64 f := hI.v2 l2
    have h3' : xs 3 = .func (.yield l) #[] #[] := hI.v3 l3
    obtain rfl := hI.w hli
    simp only [h1', h2', h3'] at hK
    clear l1 l2 l3
    go_simp
    refine ⟨trivial, fun h => (by cases h), ?_⟩
    refine (htell _ q [] W.drew (InT.kept (P := P) (A := W) (B := W.drew) (fun _ _ => rfl) hT) (hJd _ _ h0) (by simpa using hN)).mono ?_
    have fin : ∀ (x : Value) (W' : World), ((∃ ys, ys = tellT f t ∧ J ys W') ∨ (∃ pre, pre <+: tellT f t ∧ Jx pre W')) → FromI p q f l W.drew (fun W' => (∃ ys, ys = tellT f t ∧ J ys W') ∨ (∃ pre, pre <+: tellT f t ∧ Jx pre W')) (upd li 4 true) (upd xs 4 x) W' := fun x W' hF => by
      have u : ∀ j, j < 4 → upd li 4 true j = li j := fun j hj => upd_other _ _ (by omega)
      have u' : ∀ j, j < 4 → upd xs 4 x j = xs j := fun j hj => upd_other _ _ (by omega)
      refine ⟨?_, ?_, ?_, ?_, ?_, ?_, ?_, fun _ => hF⟩
      · rw [u 0 (by decide), u' 0 (by decide)]; exact hI'.v0
      · rw [u 1 (by decide), u' 1 (by decide)]; exact hI'.v1
      · rw [u 2 (by decide), u' 2 (by decide)]; exact hI'.v2
      · rw [u 3 (by decide), u' 3 (by decide)]; exact hI'.v3
      · rw [u 0 (by decide), u 1 (by decide)]; exact hI'.c1
      · rw [u 1 (by decide), u 2 (by decide), u 3 (by decide)]; exact fun _ => ⟨k1.out, k2.out, k3.out⟩
      · intro h; rw [upd_same] at h; cases h
    rintro e w' (⟨rfl, hJ1, _⟩ | ⟨rfl, qq, hq, hx⟩)
    · exact hK _ _ (fin _ _ (.inl ⟨_, rfl, by simpa using hJ1⟩))
    · exact hK _ _ (fin _ _ (.inr ⟨qq, hq, by simpa using hx⟩))
  · rintro li xs W1 hI hall
    have hF := hI.e (hall 4 (by simp))
    gi_wp2
    go_end0
    exact ⟨⟨_, rfl⟩, hF⟩

end Go.Proofs.Ytoihfhlelbdboab.Pp
