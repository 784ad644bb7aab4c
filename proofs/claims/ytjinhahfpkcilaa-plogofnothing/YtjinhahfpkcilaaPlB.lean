/- A log as it lies: whose a block is. No condition. -/
import Derived.Test.YtjinhahfpkcilaaPlA
namespace Go.Proofs.Ytjinhahfpkcilaa
open Go.RowKit Go.Dig Go.Inv
set_option linter.unusedVariables false
set_option linter.unusedSimpArgs false

/-- whose a block is: the log's own, a writer's, its offsets', the records', the transactions', the map's, a value's -/
inductive Lb where
  | lg | wr (i : Nat) | of (i : Nat) | rs | sp | mp | vl
  deriving DecidableEq
abbrev Own := Nat → Option Lb
def Owned (own : Own) (w : World) : Prop := ∀ k l, own k = some l → k < w.heap.size
theorem Owned.mono {own : Own} {w w' : World} (h : Owned own w) (hs : w.heap.size ≤ w'.heap.size) : Owned own w' := fun k l hk => Nat.lt_of_lt_of_le (h k l hk) hs
theorem Owned.fresh {own : Own} {w : World} (h : Owned own w) {k : Nat} (hk : w.heap.size ≤ k) : own k = none := by
  cases hh : own k with
  | none => rfl
  | some l => have := h k l hh; omega
/-- labels go on -/
def Ext (own own' : Own) : Prop := ∀ k l, own k = some l → own' k = some l
theorem Ext.refl (own : Own) : Ext own own := fun _ _ h => h
theorem Ext.trans {a b c : Own} (h : Ext a b) (g : Ext b c) : Ext a c := fun k l hk => g k l (h k l hk)
def Own.put (own : Own) (b : Nat) (l : Lb) : Own := fun k => if k = b then some l else own k
theorem Own.put_same (own : Own) (b : Nat) (l : Lb) : own.put b l b = some l := by simp [Own.put]
theorem Own.put_ext {own : Own} {b : Nat} {l : Lb} (h : own b = none) : Ext own (own.put b l) := fun k m hk => by
  unfold Own.put
  rw [if_neg (fun e => by rw [e, h] at hk; cases hk)]
  exact hk
def Own.row (own : Own) (v : Value) (l : Lb) : Own := fun k => if v.ownBlock = some k then some l else own k
theorem Own.row_yes {own : Own} {v : Value} {l : Lb} {k : Nat} (h : v.ownBlock = some k) : own.row v l k = some l := by unfold Own.row; rw [if_pos h]
theorem Own.row_ext {own : Own} {v : Value} {l : Lb} (h : ∀ k, v.ownBlock = some k → own k = none ∨ own k = some l) : Ext own (own.row v l) := fun k m hk => by
  unfold Own.row
  split
  · rename_i e
    rcases h k e with h1 | h1
    · rw [h1] at hk; cases hk
    · rw [h1] at hk; exact hk
  · exact hk
/-- what is not labelled, and what is labelled with none of P, lies as it lay; labels go on -/
structure Stp (P : Lb → Prop) (own own' : Own) (w w' : World) : Prop where
  os : w'.os = w.os
  tape : w'.tape = w.tape
  output : w'.output = w.output
  size : w.heap.size ≤ w'.heap.size
  block : ∀ k, k < w.heap.size → (∀ l, own k = some l → ¬ P l) → w'.heap[k]? = w.heap[k]?
  old : ∀ k, k < w.heap.size → own' k = own k
  new : Owned own' w'
theorem Stp.ext {P : Lb → Prop} {own own' : Own} {w w' : World} (h : Stp P own own' w w') (ho : Owned own w) : Ext own own' := fun k l hk => (h.old k (ho k l hk)).trans hk
theorem Stp.trans {P : Lb → Prop} {a b c : Own} {u v w : World} (h : Stp P a b u v) (g : Stp P b c v w) : Stp P a c u w :=
  ⟨g.os.trans h.os, g.tape.trans h.tape, g.output.trans h.output, Nat.le_trans h.size g.size, fun k hk hn => (g.block k (Nat.lt_of_lt_of_le hk h.size) (by rw [h.old k hk]; exact hn)).trans (h.block k hk hn),
   fun k hk => (g.old k (Nat.lt_of_lt_of_le hk h.size)).trans (h.old k hk), g.new⟩
theorem Stp.mono {P Q : Lb → Prop} {a b : Own} {u v : World} (h : Stp P a b u v) (hPQ : ∀ l, P l → Q l) : Stp Q a b u v :=
  ⟨h.os, h.tape, h.output, h.size, fun k hk hn => h.block k hk fun l e hp => hn l e (hPQ l hp), h.old, h.new⟩
theorem Stp.of_below {P : Lb → Prop} {own : Own} {w w' : World} (h : Below w.heap.size w w') (ho : Owned own w) : Stp P own own w w' :=
  ⟨h.os, h.tape, h.output, h.size, fun k hk _ => h.block k hk, fun _ _ => rfl, ho.mono h.size⟩
theorem Stp.refl {P : Lb → Prop} {own : Own} {w : World} (ho : Owned own w) : Stp P own own w w := Stp.of_below (Below.refl _ _) ho
/-- and then nothing turned of what lay at first -/
theorem Stp.tail {P : Lb → Prop} {a b : Own} {u v w : World} (h : Stp P a b u v) (hB : Below u.heap.size v w) : Stp P a b u w :=
  ⟨hB.os.trans h.os, hB.tape.trans h.tape, hB.output.trans h.output, Nat.le_trans h.size hB.size, fun k hk hn => (hB.block k hk).trans (h.block k hk hn), h.old, h.new.mono hB.size⟩
/-- a row has grown -/
theorem Stp.gr {P : Lb → Prop} {own : Own} {w w' : World} {v v' : Value} {l : Lb} (h : Gr w w' v v') (hv : ∀ k, v.ownBlock = some k → own k = some l) (hP : P l) (hlt : ∀ k, v'.ownBlock = some k → k < w'.heap.size) (ho : Owned own w) :
    Stp P own (own.row v' l) w w' := by
  refine ⟨h.os, h.tape, h.output, h.size, fun k hk hn => h.block k hk fun e => hn l (hv k e) hP, fun k hk => ?_, fun k m hk => ?_⟩
  · unfold Own.row
    split
    · rename_i e
      rcases h.own k e with h1 | h1
      · exact (hv k h1).symm
      · omega
    · rfl
  · unfold Own.row at hk
    split at hk
    · rename_i e; exact hlt k e
    · exact Nat.lt_of_lt_of_le (ho k m hk) h.size
/-- a new block has a label -/
theorem Stp.alloc {P : Lb → Prop} {own : Own} {w w' : World} {b : Nat} {l : Lb} (h : Below w.heap.size w w') (hb : w.heap.size ≤ b) (hlt : b < w'.heap.size) (ho : Owned own w) : Stp P own (own.put b l) w w' :=
  ⟨h.os, h.tape, h.output, h.size, fun k hk _ => h.block k hk, fun k hk => by unfold Own.put; rw [if_neg (by omega)], fun k m hk => by
    unfold Own.put at hk
    split at hk
    · rename_i e; subst e; exact hlt
    · exact Nat.lt_of_lt_of_le (ho k m hk) h.size⟩
/-- a cell of a labelled block has turned -/
theorem Stp.cell {P : Lb → Prop} {own : Own} {w : World} {b : Nat} {l : Lb} (i : Nat) (v : Value) (hb : own b = some l) (hP : P l) (ho : Owned own w) : Stp P own own w (w.setCell ⟨b, i, none⟩ v) :=
  ⟨rfl, rfl, rfl, by simp [World.setCell], fun k _ hn => Below.heap_setCell _ _ _ k fun e => hn l (by rw [e]; exact hb) hP, fun _ _ => rfl, ho.mono (by simp [World.setCell])⟩
/-- all labels lie from B on -/
def Over (B : Nat) (own : Own) : Prop := ∀ k l, own k = some l → B ≤ k
theorem Over.step {B : Nat} {P : Lb → Prop} {own own' : Own} {w w' : World} (h : Over B own) (hs : Stp P own own' w w') (hB : B ≤ w.heap.size) : Over B own' := fun k l hk => by
  by_cases hlt : k < w.heap.size
  · rw [hs.old k hlt] at hk; exact h k l hk
  · omega
theorem Over.below {B : Nat} {P : Lb → Prop} {own own' : Own} {w w' : World} (h : Over B own) (hs : Stp P own own' w w') (hB : B ≤ w.heap.size) : Below B w w' :=
  ⟨hs.os, hs.tape, hs.output, hs.size, fun k hk => hs.block k (Nat.lt_of_lt_of_le hk hB) fun l hl => by have := h k l hl; omega⟩

/-- a writer -/
def WrAt (own : Own) (w : World) (i : Nat) : Option Nat → Option Wt → Prop
  | none, none => True
  | some b, some t => ∃ v, w.heap[b]? = some (.cells #[.int .i64 t.ep, v] 83 (0, 0)) ∧ own b = some (.wr i) ∧ OwnNn w 0 v t.of ∧ ∀ k, v.ownBlock = some k → own k = some (.of i)
  | _, _ => False
theorem WrAt.keep {own own' : Own} {w w' : World} {i : Nat} : ∀ {q : Option Nat} {t : Option Wt}, WrAt own w i q t → Ext own own' → (∀ k, own k = some (.wr i) ∨ own k = some (.of i) → w'.heap[k]? = w.heap[k]?) → WrAt own' w' i q t
  | none, none, _, _, _ => trivial
  | some b, some t, ⟨v, h1, h2, h3, h4⟩, hm, hb => ⟨v, (hb b (.inl h2)).trans h1, hm b _ h2, h3.same fun k hk => hb k (.inr (h4 k hk)), fun k hk => hm k _ (h4 k hk)⟩
  | none, some _, h, _, _ => h.elim
  | some _, none, h, _, _ => h.elim
/-- a record's value -/
def ValAt (own : Own) (w : World) (u : Value) (P : List Int) : Prop := ∃ ao cap, u = .slice ao P.length cap ∧ P.length ≤ cap ∧ Rowed w ao P cap ∧ ∀ ad, ao = some ad → own ad.block = some .vl
theorem ValAt.keep {own own' : Own} {w w' : World} {u : Value} {P : List Int} (h : ValAt own w u P) (hm : Ext own own') (hb : ∀ k, own k = some .vl → w'.heap[k]? = w.heap[k]?) : ValAt own' w' u P := by
  obtain ⟨ao, cap, h1, h2, h3, h4⟩ := h
  refine ⟨ao, cap, h1, h2, ?_, fun ad e => hm _ _ (h4 ad e)⟩
  rcases h3 with h3 | ⟨ad, e, hc⟩
  · exact .inl h3
  · refine .inr ⟨ad, e, fun j hj => ?_⟩
    rw [← hc j hj]
    have e2 : (ad.add j).block = ad.block := by unfold Addr.add; split <;> rfl
    exact World.cell?_of_block (a := ad.add j) (by rw [e2]; exact hb _ (h4 ad e))
def lgC (q : List (Option Nat)) (rv sv : Value) (mb : Option Nat) : Array Value := ((q.map fun b => Value.pointer (b.map fun k => ⟨k, 0, none⟩)) ++ [rv, sv, .map mb]).toArray
def MpAt (own : Own) (w : World) (K : List Ky) : Option Nat → Prop
  | none => K = []
  | some b => MapP w b K ∧ own b = some .mp
theorem MpAt.keep {own own' : Own} {w w' : World} {K : List Ky} : ∀ {mb : Option Nat}, MpAt own w K mb → Ext own own' → (∀ k, own k = some .mp → w'.heap[k]? = w.heap[k]?) → MpAt own' w' K mb
  | none, h, _, _ => h
  | some b, ⟨h1, h2⟩, hm, hb => ⟨h1.same (hb b h2), hm b _ h2⟩
/-- a log as it lies, block by block -/
structure LgS (own : Own) (w : World) (lb : Nat) (x : Pl) (q : List (Option Nat)) (rv sv : Value) (mb : Option Nat) (us : List Value) : Prop where
  owned : Owned own w
  blk : w.heap[lb]? = some (.cells (lgC q rv sv mb) 68 (0, 0))
  ll : own lb = some .lg
  ql : q.length = 8
  wl : x.ws.length = 8
  wr : ∀ (i : Nat) (b : Option Nat) (t : Option Wt), q[i]? = some b → x.ws[i]? = some t → WrAt own w i b t
  rs : OwnRr w 0 rv (x.rs.zip us)
  ul : us.length = x.rs.length
  lr : ∀ k, rv.ownBlock = some k → own k = some .rs
  vl : ∀ (i : Nat) (r : Rc) (u : Value), x.rs[i]? = some r → us[i]? = some u → ValAt own w u r.v
  sp : OwnSs w 0 sv x.sp
  ls : ∀ k, sv.ownBlock = some k → own k = some .sp
  mp : MpAt own w (x.sp.map Sp.key) mb
def LogAt (own : Own) (w : World) (lb : Nat) (x : Pl) : Prop := ∃ q rv sv mb us, LgS own w lb x q rv sv mb us
theorem LgS.keep {own : Own} {w w' : World} {lb : Nat} {x : Pl} {q : List (Option Nat)} {rv sv : Value} {mb : Option Nat} {us : List Value} (h : LgS own w lb x q rv sv mb us) (hs : w.heap.size ≤ w'.heap.size) (hb : ∀ k l, own k = some l → w'.heap[k]? = w.heap[k]?) : LgS own w' lb x q rv sv mb us :=
  ⟨h.owned.mono hs, (hb lb _ h.ll).trans h.blk, h.ll, h.ql, h.wl, fun i b t h1 h2 => (h.wr i b t h1 h2).keep (Ext.refl _) fun k hk => hk.elim (hb k _) (hb k _), h.rs.same fun k hk => hb k _ (h.lr k hk), h.ul, h.lr,
   fun i r u h1 h2 => (h.vl i r u h1 h2).keep (Ext.refl _) fun k hk => hb k _ hk, h.sp.same fun k hk => hb k _ (h.ls k hk), h.ls, h.mp.keep (Ext.refl _) fun k hk => hb k _ hk⟩
theorem LgS.below {own : Own} {w w' : World} {lb : Nat} {x : Pl} {q : List (Option Nat)} {rv sv : Value} {mb : Option Nat} {us : List Value} (h : LgS own w lb x q rv sv mb us) (hB : Below w.heap.size w w') : LgS own w' lb x q rv sv mb us :=
  h.keep hB.size fun k l hk => hB.block k (h.owned k l hk)
theorem LogAt.below {own : Own} {w w' : World} {lb : Nat} {x : Pl} (h : LogAt own w lb x) (hB : Below w.heap.size w w') : LogAt own w' lb x := by
  obtain ⟨q, rv, sv, mb, us, h⟩ := h
  exact ⟨q, rv, sv, mb, us, h.below hB⟩
theorem LogAt.owned {own : Own} {w : World} {lb : Nat} {x : Pl} (h : LogAt own w lb x) : Owned own w := by obtain ⟨_, _, _, _, _, h⟩ := h; exact h.owned
theorem lgC_get {q : List (Option Nat)} {rv sv : Value} {mb : Option Nat} {i : Nat} {b : Option Nat} (h : q[i]? = some b) : (lgC q rv sv mb)[i]? = some (.pointer (b.map fun k => ⟨k, 0, none⟩)) := by
  have hi := (List.getElem?_eq_some_iff.1 h).1
  unfold lgC
  rw [List.getElem?_toArray, List.getElem?_append_left (by simpa using hi), List.getElem?_map, h]; rfl
theorem LgS.c8 {own : Own} {w : World} {lb : Nat} {x : Pl} {q : List (Option Nat)} {rv sv : Value} {mb : Option Nat} {us : List Value} (h : LgS own w lb x q rv sv mb us) : w.cell? ⟨lb, 8, none⟩ = some rv ∧ w.cell? ⟨lb, 9, none⟩ = some sv ∧ w.cell? ⟨lb, 10, none⟩ = some (.map mb) := by
  have hl : (q.map fun b => Value.pointer (b.map fun k => (⟨k, 0, none⟩ : Addr))).length = 8 := by simp [h.ql]
  refine ⟨?_, ?_, ?_⟩ <;> rw [cell_blk h.blk] <;> unfold lgC <;> rw [List.getElem?_toArray, List.getElem?_append_right (by rw [hl]; omega), hl] <;> rfl
end Go.Proofs.Ytjinhahfpkcilaa
