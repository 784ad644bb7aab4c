/- A partition's log, pure: writers, records, transactions. No condition. -/
import Derived.Test.YtjinhahfpkcilaaDigLaw
namespace Go.Proofs.Ytjinhahfpkcilaa
open Go.RowKit
set_option linter.unusedVariables false
set_option linter.unusedSimpArgs false

/-- a record: producer, epoch, transaction, number, value -/
structure Rc where
  p : Int
  e : Int
  t : Int
  s : Int
  v : List Int
  deriving DecidableEq
/-- a transaction: producer, epoch, number, first offset, how it ended -/
structure Sp where
  p : Int
  e : Int
  t : Int
  f : Int
  k : Int
  deriving DecidableEq
/-- a producer in the epoch that is known of it: the offsets of its records -/
structure Wt where
  ep : Int
  of : List Int
  deriving DecidableEq
abbrev Ky := Int × Int × Int
def Rc.key (r : Rc) : Ky := (r.p, r.e, r.t)
def Sp.key (s : Sp) : Ky := (s.p, s.e, s.t)
structure Pl where
  ws : List (Option Wt)
  rs : List Rc
  sp : List Sp
def Pl.none : Pl := ⟨List.replicate 8 .none, [], []⟩
/-- where a key stands -/
def idxK (x : Ky) : List Ky → Option Nat
  | [] => .none
  | y :: r => if y = x then some 0 else (idxK x r).map (· + 1)
def Pl.place (x : Pl) (k : Ky) : Option Nat := idxK k (x.sp.map Sp.key)
def Pl.ended (x : Pl) (k : Ky) : Bool := match x.place k with | some i => (match x.sp[i]? with | some s => !decide (s.k = 0) | .none => false) | .none => false
def okW (p e : Int) : Bool := decide (0 ≤ p ∧ p ≤ 7) && decide (0 ≤ e ∧ e ≤ 100)
def okT (t : Int) : Bool := decide (1 ≤ t ∧ t ≤ 100)
def Rc.ok (r : Rc) : Bool := okW r.p r.e && okT r.t && decide (0 ≤ r.s ∧ r.s ≤ 1048576) && decide (r.v.length ≤ 200)
def Pl.wr (x : Pl) (p : Int) : Option Wt := (x.ws[p.toNat]?).join
def Pl.learn (x : Pl) (p e : Int) : Int × Pl :=
  if okW p e then (0, match x.wr p with
    | some w => if w.ep < e then ⟨x.ws.set p.toNat (some ⟨e, []⟩), x.rs, x.sp⟩ else x
    | .none => ⟨x.ws.set p.toNat (some ⟨e, []⟩), x.rs, x.sp⟩)
  else (1, x)
/-- is another transaction of this writer's open: the last one that was written to? -/
def Pl.busy (x : Pl) (w : Wt) (t : Int) : Bool := match w.of.getLast? with
  | .none => false
  | some o => match x.rs[o.toNat]? with | some l => !decide (l.t = t) && !x.ended l.key | .none => false
def Pl.takes (x : Pl) (w : Wt) (r : Rc) : Int :=
  if r.s ≠ (w.of.length : Int) then 8 else if x.ended r.key || x.busy w r.t then 6 else if 128 ≤ x.rs.length then 3 else 0
def Pl.open1 (x : Pl) (k : Ky) (f : Int) : List Sp := match x.place k with | some _ => x.sp | .none => x.sp ++ [⟨k.1, k.2.1, k.2.2, f, 0⟩]
def Pl.lay (x : Pl) (w : Wt) (r : Rc) : Pl := ⟨x.ws.set r.p.toNat (some ⟨w.ep, w.of ++ [(x.rs.length : Int)]⟩), x.rs ++ [r], x.open1 r.key x.rs.length⟩
/-- the offset, the error, what lies then -/
def Pl.append (x : Pl) (r : Rc) : Int × Int × Pl :=
  if r.ok then
    match x.wr r.p with
    | .none => (0, 4, x)
    | some w =>
      if r.e < w.ep then (0, 5, x)
      else if w.ep < r.e then (0, 6, x)
      else if r.s < (w.of.length : Int) then
        match w.of[r.s.toNat]? with
        | some o => (match x.rs[o.toNat]? with | some q => if q.t = r.t ∧ q.v = r.v then (o, 0, x) else (0, 1, x) | .none => (0, 1, x))
        | .none => (0, 1, x)
      else if x.takes w r = 0 then (x.rs.length, 0, x.lay w r) else (0, x.takes w r, x)
  else (0, 1, x)
def kindP (c : Bool) : Int := if c then 2 else 3
def Pl.fin (x : Pl) (p e t : Int) (c : Bool) : Int × Pl :=
  if okW p e && okT t then
    match x.place (p, e, t) with
    | some i => (match x.sp[i]? with
      | some s => if s.k ≠ 0 ∧ s.k ≠ kindP c then (6, x) else (0, ⟨x.ws, x.rs, x.sp.set i ⟨s.p, s.e, s.t, s.f, kindP c⟩⟩)
      | .none => (6, x))
    | .none => (0, ⟨x.ws, x.rs, x.sp ++ [⟨p, e, t, -1, kindP c⟩]⟩)
  else (1, x)
/-- the first offset of an open transaction, from i on -/
def stab (x : Pl) : Nat → List Rc → Int
  | i, [] => i
  | i, r :: l => if x.ended r.key then stab x (i + 1) l else i
def Pl.stable (x : Pl) : Int := stab x 0 x.rs
def Pl.epoch (x : Pl) (p : Int) : Int × Bool := if 0 ≤ p ∧ p ≤ 7 then (match x.wr p with | some w => (w.ep, true) | .none => (0, false)) else (0, false)
/-- what may be known of it -/
structure Pl.Ok (x : Pl) : Prop where
  ws : x.ws.length = 8
  off : ∀ (p : Nat) (w : Wt), x.ws[p]? = some (some w) → (∀ o ∈ w.of, 0 ≤ o ∧ o < (x.rs.length : Int)) ∧ w.of.length ≤ x.rs.length ∧ 0 ≤ w.ep ∧ w.ep ≤ 100
  rs : x.rs.length ≤ 128 ∧ ∀ r ∈ x.rs, r.ok = true
  sp : ∀ s ∈ x.sp, okW s.p s.e = true ∧ okT s.t = true
  nd : (x.sp.map Sp.key).Nodup
theorem idxK_some : ∀ {x : Ky} {l : List Ky} {i : Nat}, idxK x l = some i → l[i]? = some x
  | x, [], i, h => by cases h
  | x, y :: r, i, h => by
    unfold idxK at h
    split at h
    · rename_i e; cases h; simp [e]
    · cases hr : idxK x r with
      | none => rw [hr] at h; cases h
      | some j => rw [hr] at h; cases h; simpa using idxK_some hr
theorem idxK_none : ∀ {x : Ky} {l : List Ky}, idxK x l = Option.none ↔ x ∉ l
  | x, [] => by simp [idxK]
  | x, y :: r => by
    unfold idxK
    split
    · rename_i e; simp [e]
    · rename_i e
      have := idxK_none (x := x) (l := r)
      simp [this]
      exact fun _ h => e h.symm
theorem idxK_app {x : Ky} {y : Ky} : ∀ {l : List Ky}, y ∉ l → idxK x (l ++ [y]) = if x = y then some l.length else idxK x l
  | [], _ => by
    by_cases h : x = y
    · simp [h, idxK]
    · rw [if_neg h, List.nil_append]
      have h' : ¬ y = x := fun e => h e.symm
      simp [idxK, h']
  | a :: r, h => by
    have hr : y ∉ r := fun e => h (List.mem_cons_of_mem _ e)
    have ih := idxK_app (x := x) (l := r) hr
    have hay : ¬ a = y := fun e => h (by rw [e]; exact List.mem_cons_self ..)
    rw [List.cons_append]
    by_cases ha : a = x
    · have : ¬ x = y := fun e => hay (ha.trans e)
      simp [idxK, ha, this]
    · by_cases hx : x = y
      · rw [if_pos hx] at ih ⊢
        simp [idxK, ha, ih]
      · rw [if_neg hx] at ih ⊢
        simp [idxK, ha, ih]
theorem none_ok : Pl.none.Ok := by
  refine ⟨rfl, fun p w h => ?_, ⟨by simp [Pl.none], fun r hr => by cases hr⟩, fun s hs => (by cases hs), List.nodup_nil⟩
  unfold Pl.none at h
  dsimp only at h
  rw [List.getElem?_replicate] at h
  split at h <;> cases h
end Go.Proofs.Ytjinhahfpkcilaa
