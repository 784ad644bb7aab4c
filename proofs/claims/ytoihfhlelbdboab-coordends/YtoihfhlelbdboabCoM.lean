/- The coordinator, pure: producers, replies, marks, ticks. No condition. -/
import Derived.Test.YtoihfhlelbdboabTabRpE
namespace Go.Proofs.Ytoihfhlelbdboab
open Go.RowKit Go.Hold
set_option linter.unusedVariables false
set_option linter.unusedSimpArgs false

/-- a mark's numbers -/
structure Mk where
  k : Int
  p : Int
  e : Int
  t : Int
  deriving DecidableEq
/-- a producer: its name, epoch, how its transactions of this epoch ended, the open one: since when, its parts -/
structure Pr where
  nm : ByteArray
  ep : Int
  ends : List Int
  op : Option (Int × List Bool)
def Pr.last (p : Pr) : Int := (p.ends.length : Int) + (if p.op.isSome then 1 else 0)
def Pr.close (p : Pr) (k : Int) : Pr := ⟨p.nm, p.ep, p.ends ++ [k], none⟩
def Pr.mark (i : Nat) (p : Pr) (k : Int) : Mk := ⟨k, i, p.ep, p.last⟩
def Pr.renew (p : Pr) : Pr := ⟨p.nm, p.ep + 1, [], none⟩
def Pr.renewM (i : Nat) (p : Pr) : List Mk := if p.op.isSome then [p.mark i 3] else []
def noParts : List Bool := [false, false, false, false]
def Pr.opened (p : Pr) (b : Int) (l : List Bool) : Pr := ⟨p.nm, p.ep, p.ends, some (b, l)⟩
def Pr.add (p : Pr) (t r now : Int) : Pr × Int :=
  match p.op with
  | some (b, l) => if t = p.last then (p.opened b (l.set r.toNat true), 0) else (p, 6)
  | none => if 100 ≤ p.last then (p, 7) else if t = p.last + 1 then (p.opened now (noParts.set r.toNat true), 0) else (p, 6)
def kindC (c : Bool) : Int := if c then 2 else 3
def Pr.fin (i : Nat) (p : Pr) (t : Int) (c : Bool) : Pr × List Mk × Int :=
  if p.op.isSome = true ∧ t = p.last then (p.close (kindC c), [p.mark i (kindC c)], 0)
  else if 1 ≤ t ∧ t ≤ (p.ends.length : Int) ∧ p.ends.getD (t.toNat - 1) 0 = kindC c then (p, [], 0) else (p, [], 6)
def Pr.due (p : Pr) (now : Int) : Bool := match p.op with | some (b, _) => decide (5 ≤ now - b) | none => false
def Pr.age (p : Pr) (now : Int) : Pr := if p.due now then p.close 3 else p
def Pr.ageM (i : Nat) (p : Pr) (now : Int) : List Mk := if p.due now then [p.mark i 3] else []
def ageMs (now : Int) : Nat → List Pr → List Mk
  | _, [] => []
  | i, p :: r => p.ageM i now ++ ageMs now (i + 1) r
/-- what was decided, and is -/
structure Co where
  ps : List Pr
  rs : List (Int × Rp.Rp3)
  ms : List Mk
  now : Int
/-- an operation's fields -/
structure OpF where
  k : Int
  c : Int
  s : Int
  n : ByteArray
  p : Int
  e : Int
  t : Int
  r : Int
  b : Bool
def OpF.key (o : OpF) : Int := o.c * 1048577 + o.s
def err (e : Int) : Rp.Rp3 := ⟨e, 0, 0⟩
def Co.none : Co := ⟨[], [], [], 0⟩
def findN (n : ByteArray) : List Pr → Nat → Option Nat
  | [], _ => .none
  | p :: r, i => if p.nm = n then some i else findN n r (i + 1)
def fresh (n : ByteArray) : Pr := ⟨n, 0, [], none⟩
/-- what an operation does that was not applied ahead: the reply, the marks, the producers, the tick -/
def Co.admit (x : Co) (n : ByteArray) : Rp.Rp3 × List Mk × List Pr :=
  match findN n x.ps 0 with
  | some i => match x.ps[i]? with
    | some p => if 100 ≤ p.ep then (err 7, [], x.ps) else (⟨0, i, p.ep + 1⟩, p.renewM i ++ [⟨1, i, p.ep + 1, 0⟩], x.ps.set i p.renew)
    | .none => (err 0, [], x.ps)
  | .none => if 8 ≤ x.ps.length then (err 3, [], x.ps) else (⟨0, x.ps.length, 0⟩, [⟨1, x.ps.length, 0, 0⟩], x.ps ++ [fresh n])
def Co.at (x : Co) (p : Int) : Option (Nat × Pr) := if 0 ≤ p then (x.ps[p.toNat]?).map fun q => (p.toNat, q) else .none
def Co.run (x : Co) (o : OpF) : Rp.Rp3 × List Mk × List Pr × Int :=
  if o.k = 1 then ((x.admit o.n).1, (x.admit o.n).2.1, (x.admit o.n).2.2, x.now)
  else if o.k = 4 then (err 0, ageMs (x.now + 1) 0 x.ps, x.ps.map (·.age (x.now + 1)), x.now + 1)
  else match x.at o.p with
  | .none => (err 4, [], x.ps, x.now)
  | some (i, q) =>
    if o.e ≠ q.ep then (err 5, [], x.ps, x.now)
    else if o.k = 2 then (err (q.add o.t o.r x.now).2, [], x.ps.set i (q.add o.t o.r x.now).1, x.now)
    else (err (q.fin i o.t o.b).2.2, (q.fin i o.t o.b).2.1, x.ps.set i (q.fin i o.t o.b).1, x.now)
def Co.apply (x : Co) (ok : Bool) (o : OpF) : Rp.Rp3 × List Mk × Co :=
  if ok then
    match lookL o.key x.rs with
    | some r => (r, [], x)
    | .none => ((x.run o).1, (x.run o).2.1, ⟨(x.run o).2.2.1, insL o.key (x.run o).1 x.rs, x.ms ++ (x.run o).2.1, (x.run o).2.2.2⟩)
  else (err 6, [], x)
end Go.Proofs.Ytoihfhlelbdboab
