/- What kept tells, to whoever ranges over it. -/
import Derived.Test.YtjinhahfpkcilaaPlR
import Derived.Test.YtjinhahfpkcilaaInvIn
import Derived.RangeFuncNested
import Derived.RangeFuncBound
import Derived.RangeFuncBox
import Derived.RangeFuncCalls
import Derived.RangeFuncLeaves
import Derived.Shelf.Abstract
import Derived.Shelf.RegionOpen
import Derived.WalkKit
import Derived.OwnWalkIn
import Derived.TacticsInMore
import Derived.LoopNIn
import Derived.LoopIn
namespace Go.Proofs.Ytjinhahfpkcilaa
open Go.RowKit Go.Dig Go.Inv Go.Oct
attribute [local go_sem] Oper.semAt_some
set_option linter.unusedVariables false
set_option linter.unusedSimpArgs false

section
variable {F : Fence} {n : Nat} {ops : Array Oper} {rest : List Oper} {o : Oper} {a : Act} {w : World} {Q : Exit → Act → World → Prop}
theorem about_none {P : Program} {ρ : Operand → Value} (hc : ∀ c, o.op ≠ .call c) : o.about P w ρ = none := by
  unfold Oper.about
  split
  · rename_i c h; exact absurd h (hc c)
  · rfl
theorem wpListIn_value {P : Program} (hw : Region.wanted o (yielded ops a.tmps) = true) (hc : ∀ c, o.op ≠ .call c) (hd : ∀ c, o.op ≠ .defer c) {v : Value} {w' : World} (hr : (execOp a.eval o).run P w = .ok (.value v) w') (h : wpListIn F n P ops Q rest (a.put o.dst v) w') : wpListIn F n P ops Q (o :: rest) a w :=
  wpListIn_step fun K hK => by
    rw [if_pos hw]
    refine ⟨fun f hf => (by rw [about_none hc] at hf; cases hf), ?_⟩
    rw [Oper.semAt_plain F _ _ hd, hr]
    exact hK _ _ h
theorem wpListIn_loadRr (hw : Region.wanted o (yielded ops a.tmps) = true) (x : Operand) (ho : o.op = .load 32 x) (g off : Nat) (r : Rc × Value) (hx : a.eval x = .pointer (some ⟨g, off, none⟩)) (hc : ∀ i u, (rrC r)[i]? = some u → w.cell? ⟨g, off + i, none⟩ = some u)
    (h : wpListIn F n Try.prog ops Q rest (a.put o.dst (.agg (rrC r))) w) : wpListIn F n Try.prog ops Q (o :: rest) a w := by
  obtain ⟨d, hd1, hd2⟩ := row_of (ty := 32) (by kernel_rfl)
  have hr := run_loadVar_mid (P := Try.prog) w g off 32 (rrC r).toList d (fun j v hv => hc j v (by simpa using hv)) hd1 hd2 (by kernel_rfl)
  refine wpListIn_value hw (fun c => by rw [ho]; intro e; cases e) (fun c => by rw [ho]; intro e; cases e) (v := .agg (rrC r)) (w' := w) ?_ h
  unfold execOp
  simp only [ho, hx, Instr.loadAt, Instr.sureAddr, Sem.run_bind, Sem.run_pure, Result.andThen_ok, hr]
end
/-- Blocks of which P holds are as they were. -/
def Kept (P : Nat → Prop) (W W' : World) : Prop := ∀ b, P b → W'.heap[b]? = W.heap[b]?
theorem Kept.refl (P : Nat → Prop) (W : World) : Kept P W W := fun _ _ => rfl
theorem Kept.trans {P : Nat → Prop} {A B C : World} (h : Kept P A B) (k : Kept P B C) : Kept P A C := fun b hb => (k b hb).trans (h b hb)
theorem Kept.cell {P : Nat → Prop} {A B : World} (h : Kept P A B) {b : Nat} (hb : P b) (i : Nat) : B.cell? ⟨b, i, none⟩ = A.cell? ⟨b, i, none⟩ := World.cell?_of_block (h b hb)
theorem kept_below {P : Nat → Prop} {A B : World} (hP : ∀ b, P b → b < A.heap.size) (h : Below A.heap.size A B) : Kept P A B := fun b hb => h.block b (hP b hb)
/-- an offset of a row of records -/
abbrev Off (L : List (Rc × Value)) := Fin L.length
def offC (L : List (Rc × Value)) (j : Off L) : Array Value := #[.int .i64 (j.1 : Int), .agg (rrC L[j.1])]
def toldK (L : List (Rc × Value)) (f : Nat) : List (Off L) := (List.finRange L.length).drop f
theorem toldK_length (L : List (Rc × Value)) (f : Nat) : (toldK L f).length = L.length - f := by simp [toldK]
theorem toldK_at (L : List (Rc × Value)) (f j : Nat) (h : f + j < L.length) : (toldK L f)[j]? = some ⟨f + j, h⟩ := by
  unfold toldK
  rw [List.getElem?_drop, List.getElem?_eq_getElem (by simpa using h)]
  simp
theorem toldK_take (L : List (Rc × Value)) (f j : Nat) (h : f + j < L.length) : (toldK L f).take (j + 1) = (toldK L f).take j ++ [⟨f + j, h⟩] := by
  rw [List.take_add_one, toldK_at L f j h]; rfl
/-- what the closure holds -/
structure KeptAt (P : Nat → Prop) (W : World) (from_ : Int) (v : Value) (L : List (Rc × Value)) (B0 B1 : Nat) : Prop where
  b0 : W.cell? ⟨B0, 0, none⟩ = some (.int .i64 from_)
  b1 : W.cell? ⟨B1, 0, none⟩ = some v
  p0 : P B0
  p1 : P B1
  form : ∃ ao cap, v = .slice ao L.length cap
  at_ : 0 < L.length → ∃ g c, v = .slice (some ⟨g, 0, none⟩) L.length c ∧ P g ∧ ∀ (j : Nat) (m : Rc × Value), L[j]? = some m → ∀ i u, (rrC m)[i]? = some u → W.cell? ⟨g, j * 5 + i, none⟩ = some u
theorem KeptAt.kept {P : Nat → Prop} {A B : World} {f : Int} {v : Value} {L : List (Rc × Value)} {B0 B1 : Nat} (h : KeptAt P A f v L B0 B1) (hk : Kept P A B) : KeptAt P B f v L B0 B1 :=
  ⟨(hk.cell h.p0 0).trans h.b0, (hk.cell h.p1 0).trans h.b1, h.p0, h.p1, h.form, fun hn => by
    obtain ⟨g, c, e, hg, hc⟩ := h.at_ hn
    exact ⟨g, c, e, hg, fun j m hj i u hu => (hk.cell hg _).trans (hc j m hj i u hu)⟩⟩
set_option maxRecDepth 100000 in
set_option maxHeartbeats 4000000 in
theorem kept1_in (n l : Nat) (P : Nat → Prop) (f : Nat) (from_ : Int) (hf : max from_ 0 = (f : Int)) (v : Value) (L : List (Rc × Value)) (hL : L.length ≤ 100000) (J Jx : List (Off L) → World → Prop) (B0 B1 : Nat) (hn : 1 ≤ n)
    (hY : ∀ (pre : List (Off L)) (x : Off L) (W : World), J pre W → pre.length < 100000 → YieldAt Fence.wide (n - 1) Try.prog l (offC L x) W fun e W' =>
      (e = .returned (.bool true) ∧ J (pre ++ [x]) W' ∧ Kept P W W') ∨ (e = .returned (.bool false) ∧ Jx (pre ++ [x]) W'))
    (W : World) (hP : ∀ b, P b → b < W.heap.size) (hO : KeptAt P W from_ v L B0 B1) (h0 : J [] W) :
    CallsIn Fence.wide n Try.prog 50 #[.func (.yield l) #[] #[], .pointer (some ⟨B0, 0, none⟩), .pointer (some ⟨B1, 0, none⟩)] W fun e W' => (∃ v, e = .returned v) ∧
      ((∃ xs, xs = toldK L f ∧ J xs W') ∨ (∃ pre, pre <+: toldK L f ∧ Jx pre W')) := by
  have HY : Hid _ := hY
  have HO : Hid _ := hO
  have HP : Hid _ := hP
  have hc0 := hO.b0
  clear hY hO hP
  refine callsIn_of_wp Try.func50 rfl trivial ?_ rfl
  simp only [Try.ntmps50, List.size_toArray, List.length_cons, List.length_nil, Nat.reduceAdd, Nat.reduceSub, Array.replicate_succ, Array.replicate_zero, List.push_toArray, List.append_toArray, List.nil_append, List.cons_append]
  gi_wp2
  all_goals
    gi_loopw [4] (fun i wr => ∃ k m : Nat, k = f + m ∧ (m = 0 ∨ k ≤ L.length) ∧ i = .int .i64 (k : Int) ∧ J ((toldK L f).take m) wr ∧ Kept P W wr)
      (fun i _ => L.length - (intOf i).toNat)
    case atStart => exact ⟨f, 0, rfl, .inl rfl, by congr 1; omega, h0, Kept.refl _ _⟩
    case round =>
      obtain ⟨k, m, hkm, hm, rfl, hJ, hk⟩ := hrel
      have hO := HO.out.kept hk
      have hw0 := hO.b0
      have hb1 := hO.b1
      obtain ⟨ao, cap, rfl⟩ := hO.form
      by_cases hlt : k < L.length
      · obtain ⟨g, c, ev, hPg, hcg⟩ := hO.at_ (by omega)
        cases ev
        have HC : Hid (∀ i u, (rrC L[k])[i]? = some u → wr.cell? ⟨g, k * 5 + i, none⟩ = some u) := fun i u hu => hcg _ _ (List.getElem?_eq_getElem hlt) i u hu
        have HT : Hid ((toldK L f).take (m + 1) = (toldK L f).take m ++ [⟨k, hlt⟩]) := by
          subst hkm
          exact toldK_take L f m hlt
        have hpl : ((toldK L f).take m).length < 100000 := by rw [List.length_take, toldK_length]; omega
        obtain ⟨fn, tmps, assign, body, hy, hR⟩ := HY.out _ ⟨k, hlt⟩ wr hJ hpl
        have hi9 : (k : Int) < (L.length : Int) := by omega
        have hy1 : Sem.run Try.prog (Instr.yield l #[.int .i64 (k : Int), .agg (rrC L[k])]) wr = .ok (Next.round l fn tmps assign body) wr := hy
        have HKM : Hid (k = f + m) := hkm
        have HK : Hid _ := hk
        obtain ⟨r, hr⟩ : ∃ r, L[k] = r := ⟨_, rfl⟩
        rw [hr] at hy1 HC
        clear hy hk hpl hO hcg hr hw0 hc0 hkm
        gi_wp2_with (first | (refine wpListIn_loadRr rfl _ rfl g (k * 5) r ?_ HC.out ?_; rfl))
        refine hR.mono ?_
        rintro e W3 (⟨rfl, hJ3, hk3⟩ | ⟨rfl, hJx3⟩)
        · gi_wp2
          go_roundw
          case rel => exact ⟨k + 1, m + 1, by have := HKM.out; omega, .inr (by omega), by go_num, by rw [HT.out]; exact hJ3, Kept.trans HK.out hk3⟩
          case measure => simp [intOf]; omega
        · gi_wp2
          refine bodyPost_ret (results_none rfl _ _ _) rfl ?_
          refine ⟨⟨_, rfl⟩, .inr ⟨_, ?_, hJx3⟩⟩
          rw [← HT.out]
          exact List.take_prefix _ _
      · have hi9 : ¬ (k : Int) < (L.length : Int) := by omega
        have hi8 : (L.length : Int) ≤ (k : Int) := by omega
        have HKM : Hid (k = f + m) := hkm
        clear hw0 hkm
        gi_wp2
        go_end0
        refine ⟨⟨_, rfl⟩, .inl ?_⟩
        rw [List.take_of_length_le (by have := HKM.out; rw [toldK_length]; omega)] at hJ
        exact hJ
theorem kept_stops (P : Nat → Prop) (f : Nat) (from_ : Int) (hf : max from_ 0 = (f : Int)) (v : Value) (L : List (Rc × Value)) (hL : L.length ≤ 100000) (B0 B1 : Nat) (w : World) (hP : ∀ b, P b → b < w.heap.size) (hO : KeptAt P w from_ v L B0 B1) (n : Nat) (hn : 1 ≤ n) :
    SeqStopsK Fence.wide n Try.prog 50 #[.pointer (some ⟨B0, 0, none⟩), .pointer (some ⟨B1, 0, none⟩)] (offC L) (Kept P) (fun xs => xs = toldK L f) (fun pre => pre <+: toldK L f) 100000 w :=
  fun l J Jx W hW hJ _ hY h0 => kept1_in n l P f from_ hf v L hL J Jx B0 B1 hn hY W (fun b hb => Nat.lt_of_lt_of_le (hP b hb) hW.size) (hO.kept (kept_below hP hW)) h0
set_option maxRecDepth 10000 in
set_option maxHeartbeats 1000000 in
theorem kept_at (own : Own) (w : World) (lb : Nat) (x : Pl) (q : List (Option Nat)) (rv sv : Value) (mb : Option Nat) (us : List Value) (h : LgS own w lb x q rv sv mb us) (from_ : Int) :
    Calls Try.prog 30 #[.pointer (some ⟨lb, 0, none⟩), .int .i64 from_] w fun e w' => e = .returned (.func (.func 50) #[] #[.pointer (some ⟨w.heap.size, 0, none⟩), .pointer (some ⟨w.heap.size + 1, 0, none⟩)]) ∧ w' = (w.alloc (.cells #[.int .i64 from_] 3)).alloc (.cells #[rv] 40) := by
  obtain ⟨ao, cap, rfl⟩ := h.rs.form
  have c8 := h.c8.1
  have h8 := ((h.below (below_alloc w (.cells #[.int .i64 from_] 3))).below (below_alloc _ (.cells #[.slice none 0 0] 40))).c8.1
  clear h
  go_enter Try.func30, Try.ntmps30
  go_wp2
  go_ret
  exact ⟨rfl, by rw [List.length_zip]⟩
set_option maxRecDepth 10000 in
set_option maxHeartbeats 1000000 in
theorem kept_nil (w : World) (from_ : Int) :
    Calls Try.prog 30 #[.pointer none, .int .i64 from_] w fun e w' => e = .returned (.func (.func 50) #[] #[.pointer (some ⟨w.heap.size, 0, none⟩), .pointer (some ⟨w.heap.size + 1, 0, none⟩)]) ∧ w' = (w.alloc (.cells #[.int .i64 from_] 3)).alloc (.cells #[.slice none 0 0] 40) := by
  go_enter Try.func30, Try.ntmps30
  go_wp2
  go_ret
  exact ⟨rfl, rfl⟩
end Go.Proofs.Ytjinhahfpkcilaa
