/- A coordinator as it lies, and what a call may turn of it. No condition. -/
import Derived.Test.YtoihfhlelbdboabCoA
namespace Go.Proofs.Ytoihfhlelbdboab
open Go.RowKit Go.Dig Go.Inv Go.Hold
set_option linter.unusedVariables false
set_option linter.unusedSimpArgs false

/-- whose a block is: the coordinator's own, its two tables', its marks', a call's own, a producer's own, its endings', its open transaction's -/
inductive Lab where
  | co | tp | tr | ms | tmp
  | prod (i : Nat) | ends (i : Nat) | opn (i : Nat)
abbrev Own := Nat → Option Lab
def Owned (own : Own) (w : World) : Prop := ∀ k l, own k = some l → k < w.heap.size
/-- Of what lay only blocks of P's labels have turned, none of which is a table's node; blocks that lay keep their labels. -/
structure Step (P : Lab → Prop) (own own' : Own) (w w' : World) : Prop where
  frm : Frm (fun k => (∃ l, own k = some l ∧ P l) ∧ NoLow w k) w w'
  old : ∀ k, k < w.heap.size → own' k = own k
  new : Owned own' w'
  non : ∀ (k : Nat) (o : Obj), w.heap[k]? = some o → o.isCells = false → w'.heap[k]? = some o
theorem Step.size {P : Lab → Prop} {own own' : Own} {w w' : World} (h : Step P own own' w w') : w.heap.size ≤ w'.heap.size := h.frm.size
theorem Step.block {P : Lab → Prop} {own own' : Own} {w w' : World} (h : Step P own own' w w') {k : Nat} (hk : k < w.heap.size) (hn : ∀ l, own k = some l → ¬ P l) : w'.heap[k]? = w.heap[k]? :=
  h.frm.block k hk fun ⟨⟨l, h1, h2⟩, _⟩ => hn l h1 h2
theorem NoLow.same {A B : World} {k : Nat} (h : NoLow B k) (e : B.heap[k]? = A.heap[k]?) : NoLow A k := fun z =>
  ⟨fun h1 => (h z).1 ((World.cell?_of_block (a := ⟨k, 3, none⟩) e).trans h1), fun h1 => (h z).2 ((World.cell?_of_block (a := ⟨k, 5, none⟩) e).trans h1)⟩
theorem Step.trans {P : Lab → Prop} {a b c : Own} {u v w : World} (h : Step P a b u v) (g : Step P b c v w) : Step P a c u w := by
  refine ⟨⟨g.frm.os.trans h.frm.os, g.frm.tape.trans h.frm.tape, g.frm.output.trans h.frm.output, Nat.le_trans h.size g.size, fun k hk hn => ?_⟩, fun k hk => (g.old k (Nat.lt_of_lt_of_le hk h.size)).trans (h.old k hk), g.new, fun k o h1 h2 => g.non k o (h.non k o h1 h2) h2⟩
  have e1 := h.frm.block k hk hn
  refine (g.frm.block k (Nat.lt_of_lt_of_le hk h.size) fun ⟨⟨l, h1, h2⟩, h3⟩ => hn ⟨⟨l, (h.old k hk).symm.trans h1, h2⟩, h3.same e1⟩).trans e1
theorem Step.mono {P Q : Lab → Prop} {a b : Own} {u v : World} (h : Step P a b u v) (hPQ : ∀ l, P l → Q l) : Step Q a b u v :=
  ⟨h.frm.mono fun k _ ⟨⟨l, h1, h2⟩, h3⟩ => ⟨⟨l, h1, hPQ l h2⟩, h3⟩, h.old, h.new, h.non⟩
theorem Owned.mono {own : Own} {w w' : World} (h : Owned own w) (hs : w.heap.size ≤ w'.heap.size) : Owned own w' := fun k l hk => Nat.lt_of_lt_of_le (h k l hk) hs
theorem Step.of_below {P : Lab → Prop} {own : Own} {w w' : World} (h : Below w.heap.size w w') (ho : Owned own w) : Step P own own w w' := ⟨Frm.of_below h, fun _ _ => rfl, ho.mono h.size, fun k o h1 _ => (h.block k (lt_blk h1)).trans h1⟩
theorem Step.refl {P : Lab → Prop} {own : Own} {w : World} (ho : Owned own w) : Step P own own w w := Step.of_below (Below.refl _ _) ho
/-- one block has turned -/
theorem Step.one {P : Lab → Prop} {own : Own} {w w' : World} {b : Nat} {l : Lab} (h : Frm (· = b) w w') (hb : own b = some l) (hP : P l) (hl : NoLow w b) (ho : Owned own w) {c : Array Value} {t : TypeId} {fr : Nat × Nat} (hc : w.heap[b]? = some (.cells c t fr)) : Step P own own w w' :=
  ⟨h.mono fun k _ e => by subst e; exact ⟨⟨l, hb, hP⟩, hl⟩, fun _ _ => rfl, ho.mono h.size, fun k o h1 h2 => (h.block k (lt_blk h1) (fun e => by subst e; rw [hc] at h1; cases h1; cases h2)).trans h1⟩
/-- a row's block has a label -/
def Own.row (own : Own) (v : Value) (l : Lab) : Own := fun k => if v.ownBlock = some k then some l else own k
/-- and then nothing turned of what lay at first -/
theorem Step.tail {P : Lab → Prop} {a b : Own} {u v w : World} (h : Step P a b u v) (hB : Below u.heap.size v w) : Step P a b u w :=
  ⟨⟨hB.os.trans h.frm.os, hB.tape.trans h.frm.tape, hB.output.trans h.frm.output, Nat.le_trans h.size hB.size, fun k hk hn => (hB.block k hk).trans (h.frm.block k hk hn)⟩, h.old, h.new.mono hB.size, fun k o h1 h2 => (hB.block k (lt_blk h1)).trans (h.non k o h1 h2)⟩
theorem Own.row_not {own : Own} {v : Value} {l : Lab} {k : Nat} (h : v.ownBlock ≠ some k) : own.row v l k = own k := by unfold Own.row; rw [if_neg h]
theorem Own.row_yes {own : Own} {v : Value} {l : Lab} {k : Nat} (h : v.ownBlock = some k) : own.row v l k = some l := by unfold Own.row; rw [if_pos h]
/-- a row has grown -/
theorem Step.gr {P : Lab → Prop} {own : Own} {w w' : World} {v v' : Value} {l : Lab} (h : Gr w w' v v') (hv : ∀ k, v.ownBlock = some k → own k = some l) (hP : P l) (hl : ∀ k, v.ownBlock = some k → NoLow w k) (hlt : ∀ k, v'.ownBlock = some k → k < w'.heap.size) (ho : Owned own w) (hc : ∀ k, v.ownBlock = some k → ∃ c t fr, w.heap[k]? = some (.cells c t fr)) :
    Step P own (own.row v' l) w w' := by
  refine ⟨⟨h.os, h.tape, h.output, h.size, fun k hk hn => h.block k hk fun e => hn ⟨⟨l, hv k e, hP⟩, hl k e⟩⟩, fun k hk => ?_, fun k m hk => ?_, fun k o h1 h2 => (h.block k (lt_blk h1) (fun e => by
    obtain ⟨c, t, fr, h3⟩ := hc k e
    rw [h1] at h3; cases h3; cases h2)).trans h1⟩
  · unfold Own.row
    split
    · rename_i e
      rcases h.own k e with h1 | h1
      · exact (hv k h1).symm
      · omega
    · rfl
  · unfold Own.row at hk
    split at hk
    · rename_i e; exact hlt k e
    · exact Nat.lt_of_lt_of_le (ho k m hk) h.size
/-- a row has grown out of none -/
theorem Step.gr' {P : Lab → Prop} {own : Own} {w w' : World} {v' : Value} {l : Lab} (h : Gr w w' (.slice none 0 0) v') (hlt : ∀ k, v'.ownBlock = some k → k < w'.heap.size) (ho : Owned own w) : Step P own (own.row v' l) w w' := by
  refine ⟨⟨h.os, h.tape, h.output, h.size, fun k hk hn => h.block k hk (by simp [Value.ownBlock])⟩, fun k hk => ?_, fun k m hk => ?_, fun k o h1 h2 => (h.block k (lt_blk h1) (by simp [Value.ownBlock])).trans h1⟩
  · unfold Own.row
    split
    · rename_i e
      rcases h.own k e with h1 | h1
      · cases h1
      · omega
    · rfl
  · unfold Own.row at hk
    split at hk
    · rename_i e; exact hlt k e
    · exact Nat.lt_of_lt_of_le (ho k m hk) h.size
def Own.put (own : Own) (b : Nat) (l : Lab) : Own := fun k => if k = b then some l else own k
theorem Own.put_same (own : Own) (b : Nat) (l : Lab) : own.put b l b = some l := by simp [Own.put]
/-- a new block has a label -/
theorem Step.alloc {P : Lab → Prop} {own : Own} {w w' : World} {b : Nat} {l : Lab} (h : Below w.heap.size w w') (hb : w.heap.size ≤ b) (hlt : b < w'.heap.size) (ho : Owned own w) : Step P own (own.put b l) w w' :=
  ⟨Frm.of_below h, fun k hk => by unfold Own.put; rw [if_neg (by omega)], fun k m hk => by
    unfold Own.put at hk
    split at hk
    · rename_i e; subst e; exact hlt
    · exact Nat.lt_of_lt_of_le (ho k m hk) h.size, fun k o h1 _ => (h.block k (lt_blk h1)).trans h1⟩

/-- how the transactions of an epoch ended -/
def EndsAt (own : Own) (w : World) (i : Nat) (v : Value) (L : List Int) : Prop := OwnI w 0 v L ∧ ∀ k, v.ownBlock = some k → own k = some (.ends i)
def txnC (b : Int) (l : List Bool) : Array Value := #[.int .i64 b, .bool (l.getD 0 false), .bool (l.getD 1 false), .bool (l.getD 2 false), .bool (l.getD 3 false)]
/-- the open transaction -/
def OpAt (own : Own) (w : World) (i : Nat) (v : Option Addr) : Option (Int × List Bool) → Prop
  | none => v = none
  | some (b, l) => ∃ ob, v = some ⟨ob, 0, none⟩ ∧ own ob = some (.opn i) ∧ l.length = 4 ∧ w.heap[ob]? = some (.cells (txnC b l) 91 (0, 0))
def prC (nm : ByteArray) (i ep : Int) (ev : Value) (ov : Option Addr) : Array Value := #[.string nm, .int .i64 i, .int .i64 ep, ev, .pointer ov]
structure PrC (own : Own) (w : World) (i qb : Nat) (p : Pr) (ev : Value) (ov : Option Addr) : Prop where
  blk : w.heap[qb]? = some (.cells (prC p.nm i p.ep ev ov) 62 (0, 0))
  lab : own qb = some (.prod i)
  ends : EndsAt own w i ev p.ends
  op : OpAt own w i ov p.op
def PrAt (own : Own) (w : World) (i qb : Nat) (p : Pr) : Prop := ∃ ev ov, PrC own w i qb p ev ov
theorem EndsAt.same {own own' : Own} {w w' : World} {i : Nat} {v : Value} {L : List Int} (h : EndsAt own w i v L) (ho : ∀ k, k < w.heap.size → own' k = own k) (hs : ∀ k, own k = some (.ends i) → w'.heap[k]? = w.heap[k]?) : EndsAt own' w' i v L :=
  ⟨h.1.same fun k hk => hs k (h.2 k hk), fun k hk => (ho k (h.1.lt k hk).2).trans (h.2 k hk)⟩
theorem OpAt.same {own own' : Own} {w w' : World} {i : Nat} {v : Option Addr} : ∀ {op : Option (Int × List Bool)}, OpAt own w i v op → (∀ k, k < w.heap.size → own' k = own k) → (∀ k, own k = some (.opn i) → w'.heap[k]? = w.heap[k]?) → OpAt own' w' i v op
  | none, h, _, _ => h
  | some (b, l), ⟨ob, h1, h2, h3, h4⟩, ho, hs => ⟨ob, h1, (ho ob (lt_blk h4)).trans h2, h3, (hs ob h2).trans h4⟩
/-- a producer lies on where none of its blocks has turned -/
theorem PrC.step {P : Lab → Prop} {own own' : Own} {w w' : World} {i qb : Nat} {p : Pr} {ev : Value} {ov : Option Addr} (h : PrC own w i qb p ev ov) (hs : Step P own own' w w') (ho : Owned own w) (h1 : ¬ P (.prod i)) (h2 : ¬ P (.ends i)) (h3 : ¬ P (.opn i)) : PrC own' w' i qb p ev ov :=
  ⟨(hs.block (lt_blk h.blk) fun l e => by rw [h.lab] at e; cases e; exact h1).trans h.blk, (hs.old qb (lt_blk h.blk)).trans h.lab,
   h.ends.same hs.old fun k hk => hs.block (ho k _ hk) fun l e => by rw [hk] at e; cases e; exact h2,
   h.op.same hs.old fun k hk => hs.block (ho k _ hk) fun l e => by rw [hk] at e; cases e; exact h3⟩
theorem PrAt.step {P : Lab → Prop} {own own' : Own} {w w' : World} {i qb : Nat} {p : Pr} (h : PrAt own w i qb p) (hs : Step P own own' w w') (ho : Owned own w) (h1 : ¬ P (.prod i)) (h2 : ¬ P (.ends i)) (h3 : ¬ P (.opn i)) : PrAt own' w' i qb p := by
  obtain ⟨ev, ov, h⟩ := h
  exact ⟨ev, ov, h.step hs ho h1 h2 h3⟩
theorem PrC.below {own : Own} {w w' : World} {i qb : Nat} {p : Pr} {ev : Value} {ov : Option Addr} (h : PrC own w i qb p ev ov) (hB : Below w.heap.size w w') (ho : Owned own w) : PrC own w' i qb p ev ov :=
  h.step (P := fun _ => False) (Step.of_below hB ho) ho (fun h => h) (fun h => h) (fun h => h)
theorem PrC.low {own : Own} {w : World} {i qb : Nat} {p : Pr} {ev : Value} {ov : Option Addr} (h : PrC own w i qb p ev ov) : NoLow w qb := fun z => by
  obtain ⟨ao, cap, rfl⟩ := h.ends.1.form
  exact ⟨fun e => by rw [cell_blk h.blk] at e; simp [prC] at e, fun e => by rw [cell_blk h.blk] at e; simp [prC] at e⟩
theorem OpAt.isSome {own : Own} {w : World} {i : Nat} {v : Option Addr} {op : Option (Int × List Bool)} (h : OpAt own w i v op) : v.isSome = op.isSome := by
  cases op with
  | none => cases (show v = none from h); rfl
  | some x => obtain ⟨b, l⟩ := x; obtain ⟨ob, rfl, _⟩ := h; rfl
/-- the labels of the producer i -/
def OfP (i : Nat) (l : Lab) : Prop := l = .prod i ∨ l = .ends i ∨ l = .opn i

set_option maxHeartbeats 400000 in
theorem last_at (own : Own) (w : World) (i qb : Nat) (p : Pr) (ev : Value) (ov : Option Addr) (h : PrC own w i qb p ev ov) (hn : p.ends.length ≤ 1000) :
    Calls Try.prog 24 #[.pointer (some ⟨qb, 0, none⟩)] w fun e w' => e = .returned (.int .i64 p.last) ∧ w' = w := by
  obtain ⟨ao, cap, rfl⟩ := h.ends.1.form
  have hv := h.op.isSome
  have c3 : w.cell? ⟨qb, 3, none⟩ = some (.slice ao p.ends.length cap) := cell_blk h.blk 3
  have c4 : w.cell? ⟨qb, 4, none⟩ = some (.pointer ov) := cell_blk h.blk 4
  clear h
  go_enter Try.func24, Try.ntmps24
  cases ov with
  | none =>
    have hL : p.last = (p.ends.length : Int) := by unfold Pr.last; rw [← hv]; simp
    rw [hL]
    clear hL hv
    go_wp2
    go_ret
    exact ⟨rfl, rfl⟩
  | some a =>
    have hL : p.last = (p.ends.length : Int) + 1 := by unfold Pr.last; rw [← hv]; simp
    rw [hL]
    clear hL hv
    go_wp2
    go_ret
    exact ⟨rfl, rfl⟩
end Go.Proofs.Ytoihfhlelbdboab
