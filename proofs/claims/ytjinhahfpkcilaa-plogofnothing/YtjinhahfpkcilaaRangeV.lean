/- A range over a function that itself ranges over one: the invariant must lie on through that one's books; and what is told may speak of the world in which it is told. No condition. -/
import Derived.Test.YtjinhahfpkcilaaInv2
import Derived.RangeFuncNested
import Derived.RangeFuncRecord
import Derived.RangeFuncCalls
namespace Go.Inv
set_option linter.unusedVariables false
open Go Go.RowKit
/-- From A to A' cells lie on, and so does whatever lay below B. -/
structure Lies (B : Nat) (A A' : World) : Prop where
  os : A'.os = A.os
  tape : A'.tape = A.tape
  output : A'.output = A.output
  size : A.heap.size ≤ A'.heap.size
  low : ∀ k, k < B → k < A.heap.size → A'.heap[k]? = A.heap[k]?
  cells : ∀ (k : Nat) (o : Obj), A.heap[k]? = some o → o.isCells = true → A'.heap[k]? = some o
theorem Lies.refl (B : Nat) (A : World) : Lies B A A := ⟨rfl, rfl, rfl, Nat.le_refl _, fun _ _ _ => rfl, fun _ _ h _ => h⟩
theorem Lies.trans {B : Nat} {X Y Z : World} (h : Lies B X Y) (g : Lies B Y Z) : Lies B X Z :=
  ⟨g.os.trans h.os, g.tape.trans h.tape, g.output.trans h.output, Nat.le_trans h.size g.size, fun k hk hx => (g.low k hk (Nat.lt_of_lt_of_le hx h.size)).trans (h.low k hk hx), fun k o hx ho => g.cells k o (h.cells k o hx ho) ho⟩
theorem Lies.of_below {B : Nat} {X Y : World} (h : Below X.heap.size X Y) : Lies B X Y :=
  ⟨h.os, h.tape, h.output, h.size, fun k _ hx => h.block k hx, fun k o hx _ => (h.block k (Array.getElem?_eq_some_iff.1 hx).1).trans hx⟩
theorem Lies.of_grown {B : Nat} {X Y : World} {row : Option Nat} (hg : X.grownBy Y row) (hr : ∀ k, row = some k → B ≤ k ∧ ∃ o : Obj, X.heap[k]? = some o ∧ o.isCells = false) : Lies B X Y :=
  ⟨hg.os, hg.tape, hg.output, hg.size, fun k hk hx => hg.block k hx (fun e => by have := (hr k e.symm).1; omega), fun k o hx ho => (hg.block k (Array.getElem?_eq_some_iff.1 hx).1 (fun e => by
    obtain ⟨-, o', h1, h2⟩ := hr k e.symm
    rw [hx] at h1; cases h1; rw [ho] at h2; cases h2)).trans hx⟩
theorem Lies.put {B : Nat} {X : World} {l : Nat} {o : Obj} (o' : Obj) (hB : B ≤ l) (hl : X.heap[l]? = some o) (ho : o.isCells = false) : Lies B X (X.putObj l o') :=
  ⟨rfl, rfl, rfl, by simp [World.putObj], fun k hk _ => World.putObj_heap_other (by omega), fun k p hx hp => (World.putObj_heap_other (fun e => by subst e; rw [hl] at hx; cases hx; rw [hp] at ho; cases ho)).trans hx⟩
theorem Lies.mono {B B' : Nat} {X Y : World} (h : Lies B X Y) (hB : B' ≤ B) : Lies B' X Y := ⟨h.os, h.tape, h.output, h.size, fun k hk => h.low k (by omega), h.cells⟩
/-- an invariant that does so -/
def LiesOn {β : Type} (B : Nat) (J : β → World → Prop) : Prop := ∀ s A A', J s A → Lies B A A' → J s A'
section
variable {F : Fence} {n : Nat} {P : Program}
/-- what such a function promises: V is what is known of an element where it is told -/
def SeqV {α : Type} (F : Fence) (n : Nat) (P : Program) (gf : Nat) (lb : Array Value) (encs : α → Array Value) (V : α → World → Prop) (Kp : World → World → Prop) (S Sp : List α → Prop) (N : Nat) (w : World) : Prop :=
  ∀ (l : Nat) (J Jx : List α → World → Prop) (W : World), Below w.heap.size w W → w.heap.size + 2 ≤ W.heap.size → LiesOn W.heap.size J → LiesOn W.heap.size Jx →
    (∀ pre x W1, J pre W1 → V x W1 → pre.length < N → YieldAt F (n - 1) P l (encs x) W1 fun e W' => (e = .returned (.bool true) ∧ J (pre ++ [x]) W' ∧ Kp W1 W') ∨ (e = .returned (.bool false) ∧ Jx (pre ++ [x]) W' ∧ KeepsFrom (w.heap.size + 2) W1 W')) →
    J [] W → CallsIn F n P gf (#[.func (.yield l) #[] #[]] ++ lb) W fun e W' => (∃ v, e = .returned v) ∧ ((∃ xs, S xs ∧ J xs W') ∨ (∃ pre, Sp pre ∧ Jx pre W'))
/-- a loop's books: its record, and the row of what its rounds defer -/
structure Books (W : World) (d : Nat) (r : Loop) : Prop where
  lp : W.heap[d + 1]? = some (.loop r)
  df : W.heap[d]? = some (.deferred (some []))
theorem Books.lt {A : World} {d : Nat} {r : Loop} (h : Books A d r) : d + 1 < A.heap.size := (Array.getElem?_eq_some_iff.1 h.lp).1
theorem Books.keeps {A B : World} {d : Nat} {r : Loop} (h : Books A d r) (k : KeepsFrom d A B) : Books B d r := ⟨k.same _ _ (by omega) h.lp rfl, k.same _ _ (Nat.le_refl _) h.df rfl⟩
theorem Books.put {A : World} {d : Nat} {r : Loop} (h : Books A d r) (r' : Loop) : Books (A.putObj (d + 1) (.loop r')) d r' := ⟨World.putObj_heap_same h.lt, (World.putObj_heap_other (by omega)).trans h.df⟩
theorem Books.lies {A B : World} {d b : Nat} {r : Loop} (h : Books A d r) (hl : Lies b A B) (hb : d + 2 ≤ b) : Books B d r :=
  have hs := h.lt
  ⟨(hl.low (d + 1) (by omega) hs).trans h.lp, (hl.low d (by omega) (by omega)).trans h.df⟩
/-- how a round ends -/
theorem Books.go {A : World} {d : Nat} {r : Loop} (h : Books A d { r with state := .busy }) (hr : r.state = .ready) (hp : r.pending = none) :
    (Instr.endRound (d + 1) none).run P A = .ok (.bool true) (A.putObj (d + 1) (.loop r)) := by
  have := run_endRound (P := P) none h.lp
  cases r
  simp at hr hp
  subst hr hp
  simpa using this
theorem Books.stop {A : World} {d : Nat} {r : Loop} (h : Books A d { r with state := .busy }) (c : Code) :
    (Instr.endRound (d + 1) (some c)).run P A = .ok (.bool false) (A.putObj (d + 1) (.loop { r with state := .done, pending := some c })) := by
  have := run_endRound (P := P) (some c) h.lp
  simpa using this
theorem rangeV {α : Type} {g : Operand} {ps : Array Tmp} {assign body : Code} {Q : Exit → Act → World → Prop} {a : Act} {w : World}
    (hro : F.round = none) (h1 : 1 ≤ n) {gf : Nat} {lb : Array Value} (hg : a.eval g = .func (.func gf) #[] lb) (hFg : F.fn gf) (eg : ∀ args w, (callFunc gf args).run P w = .ok (.enter gf args) w)
    {encs : α → Array Value} {V : α → World → Prop} {Kp : World → World → Prop} {S Sp : List α → Prop} {N : Nat} (hseq : SeqV F (n - 1) P gf lb encs V Kp S Sp N w)
    (hKt : ∀ {A B C : World}, Kp A B → Kp B C → Kp A C) (hKb : ∀ (W : World) (o o' : Obj), W.heap[w.heap.size + 1]? = some o → o.isCells = false → Kp W (W.putObj (w.heap.size + 1) o')) (hps : ∀ x, (encs x).size = ps.size)
    (I : List α → World → Prop) (Ix : Code → List α → World → Prop) (hI : LiesOn w.heap.size I) (hIx : ∀ c, LiesOn w.heap.size (Ix c)) (h0 : I [] w) (Ax : List α → α → Act → World → Prop) (hAx : ∀ pre x a', LiesOn w.heap.size (fun (_ : Unit) W => Ax pre x a' W))
    (hassign : ∀ (l : Nat) (pre : List α) (x : α) (W : World) (K : Act → World → Prop), I pre W → V x W → (∀ a' W', KeepsFrom w.heap.size W W' → Kp W W' → I pre W' → Ax pre x a' W' → K a' W') →
      assign.wpIn (F.inRound l) (n - 1 - 1) P (Exit.then K (fun _ _ _ => False)) { tmps := (ps.zip (encs x)).foldl (fun t (p, v) => t.setIfInBounds p v) a.tmps, defers := [] } W)
    (hbody : ∀ (l : Nat) (pre : List α) (x : α) (a' : Act) (W : World), I pre W → Ax pre x a' W → pre.length < N → body.wpIn (F.inRound l) (n - 1 - 1) P (ownPostG w.heap.size Kp I Ix (pre ++ [x]) W) a' W)
    (hdone : ∀ (D : Nat) (xs : List α) (W : World), w.heap.size ≤ D → S xs → I xs W → W.heap[D]? = some (.deferred (some [])) → Q .normal { a with defers := { target := .collected D, args := #[] } :: a.defers } W)
    (hstop : ∀ (D : Nat) (c : Code) (pre : List α) (W : World), w.heap.size ≤ D → Sp pre → Ix c pre W → W.heap[D]? = some (.deferred (some [])) → c.wpIn F n P Q { a with defers := { target := .collected D, args := #[] } :: a.defers } W) :
    (Code.rangeFunc g ps assign body).wpIn F n P Q a w := by
  refine wpIn_rangeFunc fun fn hfn => ?_
  obtain ⟨r, hr⟩ : ∃ r : Loop, r = { state := .ready, pending := none, fn, tmps := a.tmps, params := ps, assign, body, defers := w.heap.size } := ⟨_, rfl⟩
  have hst : r.state = .ready := by rw [hr]
  have hpe : r.pending = none := by rw [hr]
  have hen := run_enterLoop_outer (P := P) (w := w) fn a.tmps ps assign body
  rw [← hr] at hen
  obtain ⟨W1, hW1⟩ : ∃ W1, (w.alloc (.deferred (some []))).alloc (.loop r) = W1 := ⟨_, rfl⟩
  have hsz : W1.heap.size = w.heap.size + 2 := by rw [← hW1]; simp
  have hB : Books W1 w.heap.size r := by
    rw [← hW1]
    refine ⟨?_, (Below.heap_alloc _ _ _ (by simp)).trans (World.alloc_heap_new w _)⟩
    have := World.alloc_heap_new (w.alloc (.deferred (some []))) (.loop r)
    rwa [World.size_alloc] at this
  have hW : Below w.heap.size w W1 := by rw [← hW1]; exact ((Below.refl _ w).alloc (Nat.le_refl _) _).alloc (by simp) _
  have hI1 : I [] W1 := hI _ _ _ h0 (Lies.of_below hW)
  rw [hW1] at hen
  rw [hro]
  refine ⟨w.heap.size + 1, _, W1, { target := .fn (.func gf) lb, args := #[.func (.yield (w.heap.size + 1)) #[] #[]] }, W1, gf, #[.func (.yield (w.heap.size + 1)) #[] #[]] ++ lb, W1, hen, ?_, ?_, ?_, fun _ => h1, ?_⟩
  · simp only [resolve, hg]; simp [go_sem]
  · intro f' hf'; simp [Target.leads] at hf'; subst hf'; exact hFg
  · simp [invoke, go_sem, eg]
  refine (hseq (w.heap.size + 1) (fun pre W => I pre W ∧ Books W w.heap.size r) (fun pre W => ∃ c, Ix c pre W ∧ Books W w.heap.size { r with state := .done, pending := some c }) W1 hW (by omega)
    (fun s A B hs hl => ⟨hI s A B hs.1 (hl.mono (by omega)), hs.2.lies hl (by omega)⟩)
    (fun s A B hs hl => by obtain ⟨c, hc, hb⟩ := hs; exact ⟨c, hIx c s A B hc (hl.mono (by omega)), hb.lies hl (by omega)⟩) ?_ ⟨hI1, hB⟩).mono ?_
  · rintro pre x W ⟨hi, hb⟩ hv hlen
    have hy := run_yield (P := P) (args := encs x) hb.lp (by rw [hr]; exact hps x)
    refine ⟨r.fn, _, r.assign, r.body, hy, ?_⟩
    have hfr : F.fn r.fn := by rw [hr]; exact hfn
    refine roundIn_of_wpIn hfr ?_
    have ha : ∀ K : Act → World → Prop, (∀ a' W', KeepsFrom w.heap.size W W' → Kp W W' → I pre W' → Ax pre x a' W' → K a' W') →
        r.assign.wpIn (F.inRound (w.heap.size + 1)) (n - 1 - 1) P (Exit.then K (fun _ _ _ => False)) { tmps := (r.params.zip (encs x)).foldl (fun t (p, v) => t.setIfInBounds p v) r.tmps, defers := [] } W := fun K hK => by
      rw [hr]; exact hassign (w.heap.size + 1) pre x W K hi hv hK
    refine ha _ fun a' Wa hka hpa hia hax => ?_
    have hba := hb.keeps hka
    refine ⟨_, run_beginRound hba.lp hst, ?_⟩
    have hbb := hba.put { r with state := .busy }
    have hk1 : Kp Wa (Wa.putObj (w.heap.size + 1) (.loop { r with state := .busy })) := hKb _ _ _ hba.lp rfl
    have hbo := hbody (w.heap.size + 1) pre x a' _ (hI _ _ _ hia (Lies.put (.loop { r with state := .busy }) (by omega) hba.lp rfl)) (hAx pre x a' () _ _ hax (Lies.put (.loop { r with state := .busy }) (by omega) hba.lp rfl)) hlen
    rw [show body = r.body by rw [hr]] at hbo
    refine wpIn_mono hbo ?_
    rintro e a3 W3 hp
    have keep : ∀ (W4 : World) (r' : Loop), KeepsFrom w.heap.size (Wa.putObj (w.heap.size + 1) (.loop { r with state := .busy })) W4 → KeepsFrom (w.heap.size + 2) W (W4.putObj (w.heap.size + 1) (.loop r')) := fun W4 r' hk =>
      ⟨by have h1 := hka.size; have h2 := hk.size; simp [World.putObj] at h2 ⊢; omega, fun k o h1 h2 h3 => (World.putObj_heap_other (by omega)).trans (hk.same k o (by omega) ((World.putObj_heap_other (by omega)).trans (hka.same k o (by omega) h2 h3)) h3)⟩
    have jump : ∀ c, KeepsFrom w.heap.size (Wa.putObj (w.heap.size + 1) (.loop { r with state := .busy })) W3 → Ix c (pre ++ [x]) W3 →
        ∃ c', Ix c' (pre ++ [x]) (W3.putObj (w.heap.size + 1) (.loop { r with state := .done, pending := some c })) ∧ Books (W3.putObj (w.heap.size + 1) (.loop { r with state := .done, pending := some c })) w.heap.size { r with state := .done, pending := some c' } := fun c hk hx => by
      have hb3 := hbb.keeps hk
      exact ⟨c, hIx c _ _ _ hx (Lies.put _ (by omega) hb3.lp rfl), hb3.put _⟩
    cases e with
    | normal =>
      obtain ⟨hk3, hp3, hi3⟩ := hp
      have hb3 := hbb.keeps hk3
      exact ⟨_, _, hb3.go hst hpe, .inl ⟨rfl, ⟨hI _ _ _ hi3 (Lies.put _ (by omega) hb3.lp rfl), hb3.put r⟩, hKt hpa (hKt (hKt hk1 hp3) (hKb _ _ _ hb3.lp rfl))⟩⟩
    | ret => exact ⟨_, _, (hbb.keeps hp.1).stop .ret, .inr ⟨rfl, jump _ hp.1 hp.2, keep _ _ hp.1⟩⟩
    | exit id => exact ⟨_, _, (hbb.keeps hp.1).stop (.exit id), .inr ⟨rfl, jump _ hp.1 hp.2, keep _ _ hp.1⟩⟩
    | goto t => exact ⟨_, _, (hbb.keeps hp.1).stop (.goto t), .inr ⟨rfl, jump _ hp.1 hp.2, keep _ _ hp.1⟩⟩
    | panic ch => exact hp.elim
    | outgrown => exact hp.elim
  · rintro e W2 ⟨⟨v, rfl⟩, (⟨xs, hS, hi, hb⟩ | ⟨pre, hSp, c, hi, hb⟩)⟩
    · exact ⟨none, _, by have := run_endLoop (P := P) hb.lp (by rw [hst]; simp); rwa [show r.pending = none by rw [hr]] at this, hdone _ xs _ (Nat.le_refl _) hS (hI _ _ _ hi (Lies.put _ (by omega) hb.lp rfl)) ((World.putObj_heap_other (by omega)).trans hb.df)⟩
    · exact ⟨some c, _, run_endLoop (P := P) hb.lp (by simp), hstop _ c pre _ (Nat.le_refl _) hSp (hIx c _ _ _ hi (Lies.put _ (by omega) hb.lp rfl)) ((World.putObj_heap_other (by omega)).trans hb.df)⟩
theorem SeqV.of {α : Type} {gf : Nat} {lb : Array Value} {encs : α → Array Value} {Kp Kp' : World → World → Prop} {S Sp : List α → Prop} {N : Nat} {w : World} (h : SeqStopsK F n P gf lb encs Kp S Sp N w) (hk : ∀ A B, Kp' A B → Kp A B) : SeqV F n P gf lb encs (fun _ _ => True) Kp' S Sp N w :=
  fun l J Jx W hW _ hJ hJx hY h0 => h l J Jx W hW (fun s A B row hs hg hr => hJ s A B hs (Lies.of_grown hg (fun r e => ⟨(hr r e).1, by obtain ⟨-, o, ho, hw⟩ := hr r e; exact ⟨o, ho, Obj.not_cells_of_walk hw⟩⟩)))
    (fun s A B row hs hg hr => hJx s A B hs (Lies.of_grown hg (fun r e => ⟨(hr r e).1, by obtain ⟨-, o, ho, hw⟩ := hr r e; exact ⟨o, ho, Obj.not_cells_of_walk hw⟩⟩)))
    (fun pre x W1 a b => by
      obtain ⟨fn, tmps, assign, body, c1, c2⟩ := hY pre x W1 a trivial b
      refine ⟨fn, tmps, assign, body, c1, c2.mono ?_⟩
      rintro e W3 (⟨d1, d2, d3⟩ | d)
      · exact .inl ⟨d1, d2, hk _ _ d3⟩
      · exact .inr ⟨d.1, d.2.1⟩) h0
end
end Go.Inv
