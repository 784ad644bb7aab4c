/- cert's votesOn: what the sequence tells, to whoever ranges over it; of every row of votes. -/
import Derived.Test.YticpkpphjpgdbaaCertA
import Derived.RangeFuncNested
import Derived.RangeFuncBound
import Derived.RangeFuncBox
import Derived.RangeFuncCalls
import Derived.RangeFuncLeaves
import Derived.Shelf.Abstract
import Derived.Shelf.RegionOpen
import Derived.WalkKit
import Derived.OwnWalkIn
import Derived.TacticsInMore
import Derived.LoopNIn
import Derived.LoopIn
namespace Go.Proofs.Yticpkpphjpgdbaa
open Go.RowKit Go.Dig Go.Sha Go.Inv Go.Oct Go.Shelf

attribute [local go_sem] Oper.semAt_some

section
variable {F : Fence} {n : Nat} {ops : Array Oper} {rest : List Oper} {o : Oper} {a : Act} {w : World} {Q : Exit → Act → World → Prop}
theorem about_none {P : Program} {ρ : Operand → Value} (hc : ∀ c, o.op ≠ .call c) : o.about P w ρ = none := by
  unfold Oper.about
  split
  · rename_i c h; exact absurd h (hc c)
  · rfl
theorem wpListIn_value {P : Program} (hw : Region.wanted o (yielded ops a.tmps) = true) (hc : ∀ c, o.op ≠ .call c) (hd : ∀ c, o.op ≠ .defer c) {v : Value} {w' : World} (hr : (execOp a.eval o).run P w = .ok (.value v) w') (h : wpListIn F n P ops Q rest (a.put o.dst v) w') : wpListIn F n P ops Q (o :: rest) a w :=
  wpListIn_step fun K hK => by
    rw [if_pos hw]
    refine ⟨fun f hf => (by rw [about_none hc] at hf; cases hf), ?_⟩
    rw [Oper.semAt_plain F _ _ hd, hr]
    exact hK _ _ h
theorem wpListIn_skipped {P : Program} (hw : Region.wanted o (yielded ops a.tmps) = true) (hc : ∀ c, o.op ≠ .call c) (hd : ∀ c, o.op ≠ .defer c) {w' : World} (hr : (execOp a.eval o).run P w = .ok .skip w') (h : wpListIn F n P ops Q rest (a.put o.dst undef) w') : wpListIn F n P ops Q (o :: rest) a w :=
  wpListIn_step fun K hK => by
    rw [if_pos hw]
    refine ⟨fun f hf => (by rw [about_none hc] at hf; cases hf), ?_⟩
    rw [Oper.semAt_plain F _ _ hd, hr]
    exact hK _ _ h
theorem wpListIn_load_vote (hw : Region.wanted o (yielded ops a.tmps) = true) (x : Operand) (ho : o.op = .load 51 x) (b off : Nat) (hx : a.eval x = .pointer (some ⟨b, off, none⟩)) (y : VoteR) (hc : VoteAt w b off y)
    (h : wpListIn F n Try.prog ops Q rest (a.put o.dst (.agg y.cells)) w) : wpListIn F n Try.prog ops Q (o :: rest) a w := by
  obtain ⟨d, hd1, hd2⟩ := vote_row
  have hr := run_loadVar_mid (P := Try.prog) w b off 51 y.cells.toList d (fun j v hv => by
    have hv' : y.cells[j]? = some v := by simpa using hv
    have hj : j < 68 := by have := (Array.getElem?_eq_some_iff.1 hv').1; rwa [VoteR.size] at this
    rw [hc j hj]; exact hv') hd1 hd2 (by rw [Array.length_toList]; exact vote_info y)
  refine wpListIn_value hw (fun c => by rw [ho]; intro e; cases e) (fun c => by rw [ho]; intro e; cases e) (v := .agg y.cells) (w' := w) ?_ h
  unfold execOp
  simp only [ho, hx, Instr.loadAt, Instr.sureAddr, Sem.run_bind, Sem.run_pure, Result.andThen_ok, hr]
theorem wpListIn_load_hash (hw : Region.wanted o (yielded ops a.tmps) = true) (x : Operand) (ho : o.op = .load 30 x) (b off : Nat) (hx : a.eval x = .pointer (some ⟨b, off, none⟩)) (f : Nat → Int) (hc : HashAt w b off f)
    (h : wpListIn F n Try.prog ops Q rest (a.put o.dst (.agg (row .u8 32 f))) w) : wpListIn F n Try.prog ops Q (o :: rest) a w := by
  obtain ⟨d, hd1, hd2⟩ := hash_row
  have hr := run_loadVar_mid (P := Try.prog) w b off 30 (row .u8 32 f).toList d (fun j v hv => by
    have hv' : (row .u8 32 f)[j]? = some v := by simpa using hv
    have hj : j < 32 := by have := (Array.getElem?_eq_some_iff.1 hv').1; rwa [row_size] at this
    rw [hc j hj, ← hv', row_get hj]) hd1 hd2 (by rw [Array.length_toList]; exact row_info size_hash _)
  refine wpListIn_value hw (fun c => by rw [ho]; intro e; cases e) (fun c => by rw [ho]; intro e; cases e) (v := .agg (row .u8 32 f)) (w' := w) ?_ h
  unfold execOp
  simp only [ho, hx, Instr.loadAt, Instr.sureAddr, Sem.run_bind, Sem.run_pure, Result.andThen_ok, hr]
theorem wpListIn_alloc_vote (hw : Region.wanted o (yielded ops a.tmps) = true) (ho : o.op = .alloc 51) (h : wpListIn F n Try.prog ops Q rest (a.put o.dst (.pointer (some ⟨w.heap.size, 0, none⟩))) (w.alloc (.cells VoteR.zero.cells 51))) :
    wpListIn F n Try.prog ops Q (o :: rest) a w := by
  refine wpListIn_value hw (fun c => by rw [ho]; intro e; cases e) (fun c => by rw [ho]; intro e; cases e) (v := .pointer (some ⟨w.heap.size, 0, none⟩)) (w' := w.alloc (.cells VoteR.zero.cells 51)) ?_ h
  have hz := zero_vote
  cases hq : Try.prog.info? 51 with
  | none => rw [hq] at hz; cases hz
  | some i =>
    simp [hq] at hz
    unfold execOp
    simp [ho, Instr.alloc, zeroValue, typeInfo, hq, hz, newVar, newRow, Value.cells]
theorem wpListIn_store_vote (hw : Region.wanted o (yielded ops a.tmps) = true) (x y : Operand) (ho : o.op = .store 51 x y) (w0 : World) (z : VoteR) (hx : a.eval x = .pointer (some ⟨w0.heap.size, 0, none⟩)) (hy : a.eval y = .agg z.cells) (hww : w = w0.alloc (.cells VoteR.zero.cells 51))
    (h : wpListIn F n Try.prog ops Q rest (a.put o.dst undef) (w0.alloc (.cells z.cells 51))) : wpListIn F n Try.prog ops Q (o :: rest) a w := by
  subst hww
  have hr := run_storeVar_row (P := Try.prog) (w0.alloc (.cells VoteR.zero.cells 51)) w0.heap.size 51 51 VoteR.zero.cells z.cells (alloc_blk _ _) (vote_info z) (by rw [VoteR.size, VoteR.size]) z.all
  rw [setRow_new] at hr
  refine wpListIn_skipped hw (fun c => by rw [ho]; intro e; cases e) (fun c => by rw [ho]; intro e; cases e) (w' := w0.alloc (.cells z.cells 51)) ?_ h
  unfold execOp
  simp only [ho, hx, hy, Instr.storeAt, Instr.sureAddr, Sem.run_bind, Sem.run_pure, Result.andThen_ok, hr]
end
/-- Blocks of which P holds are as they were. -/
def Kept (P : Nat → Prop) (W W' : World) : Prop := ∀ b, P b → W'.heap[b]? = W.heap[b]?
theorem Kept.refl (P : Nat → Prop) (W : World) : Kept P W W := fun _ _ => rfl
theorem Kept.trans {P : Nat → Prop} {A B C : World} (h : Kept P A B) (k : Kept P B C) : Kept P A C := fun b hb => (k b hb).trans (h b hb)
theorem Kept.cell {P : Nat → Prop} {A B : World} (h : Kept P A B) {b : Nat} (hb : P b) (i : Nat) : B.cell? ⟨b, i, none⟩ = A.cell? ⟨b, i, none⟩ := World.cell?_of_block (h b hb)
theorem kept_below {P : Nat → Prop} {A B : World} (hP : ∀ b, P b → b < A.heap.size) (h : Below A.heap.size A B) : Kept P A B := fun b hb => h.block b (hP b hb)
/-- a vote that may come in -/
abbrev VoteW := { x : VoteR // x.wf }
/-- is a vote of that kind, slot, view and sum? -/
def askedB (k s v : Int) (sum : Nat → Int) (x : VoteR) : Bool := decide (x.k = k) && decide (x.s = s) && decide (x.v = v) && rowEq 32 x.sum sum
def toldL (k s v : Int) (sum : Nat → Int) (ys : List VoteW) : List VoteW := (ys.take 10).filter fun x => askedB k s v sum x.1
theorem toldL_length (k s v : Int) (sum : Nat → Int) (ys : List VoteW) : (toldL k s v sum ys).length ≤ 10 := Nat.le_trans (List.length_filter_le _ _) (by rw [List.length_take]; omega)
def voteCells (x : VoteW) : Array Value := #[.agg x.1.cells]
/-- what the closure holds -/
structure OnAt (P : Nat → Prop) (W : World) (k s v : Int) (sum : Nat → Int) (ao : Option Addr) (cap : Nat) (ys : List VoteW) (B0 B1 B2 B3 B4 : Nat) : Prop where
  b0 : W.cell? ⟨B0, 0, none⟩ = some (.slice ao ys.length cap)
  b1 : W.cell? ⟨B1, 0, none⟩ = some (.int .i64 k)
  b2 : W.cell? ⟨B2, 0, none⟩ = some (.int .i64 s)
  b3 : W.cell? ⟨B3, 0, none⟩ = some (.int .i64 v)
  b4 : HashAt W B4 0 sum
  p0 : P B0
  p1 : P B1
  p2 : P B2
  p3 : P B3
  p4 : P B4
  le : ys.length ≤ cap
  big : cap ≤ maxLen
  nil : ao = none → cap = 0
  at_ : ∀ j (hj : j < ys.length), ∃ b o, ao = some ⟨b, o, none⟩ ∧ P b ∧ VoteAt W b (o + j * 68) ys[j].1
theorem OnAt.kept {P : Nat → Prop} {A B : World} {k s v : Int} {sum : Nat → Int} {ao : Option Addr} {cap : Nat} {ys : List VoteW} {B0 B1 B2 B3 B4 : Nat} (h : OnAt P A k s v sum ao cap ys B0 B1 B2 B3 B4) (hk : Kept P A B) : OnAt P B k s v sum ao cap ys B0 B1 B2 B3 B4 :=
  ⟨(hk.cell h.p0 0).trans h.b0, (hk.cell h.p1 0).trans h.b1, (hk.cell h.p2 0).trans h.b2, (hk.cell h.p3 0).trans h.b3, h.b4.same (hk _ h.p4), h.p0, h.p1, h.p2, h.p3, h.p4, h.le, h.big, h.nil,
   fun j hj => by obtain ⟨b, o, e, hb, hv⟩ := h.at_ j hj; exact ⟨b, o, e, hb, hv.same (hk b hb)⟩⟩
theorem taken_succ (k s v : Int) (sum : Nat → Int) (ys : List VoteW) {m : Nat} (h : m < ys.length) : ((ys.take (m + 1)).filter fun x => askedB k s v sum x.1) = ((ys.take m).filter fun x => askedB k s v sum x.1) ++ (if askedB k s v sum ys[m].1 then [ys[m]] else []) := by
  rw [List.take_add_one, List.getElem?_eq_getElem h, List.filter_append]
  congr 1
  simp [List.filter_cons]
set_option maxRecDepth 100000 in
set_option maxHeartbeats 4000000 in
theorem votesOn1_in (n l : Nat) (P : Nat → Prop) (J Jx : List VoteW → World → Prop) (k s v : Int) (sum : Nat → Int) (ao : Option Addr) (cap : Nat) (ys : List VoteW) (B0 B1 B2 B3 B4 : Nat) (hn : 1 ≤ n)
    (hY : ∀ (pre : List VoteW) (x : VoteW) (W : World), J pre W → pre.length < 10 → YieldAt Fence.wide (n - 1) Try.prog l #[.agg x.1.cells] W fun e W' =>
      (e = .returned (.bool true) ∧ J (pre ++ [x]) W' ∧ Kept P W W') ∨ (e = .returned (.bool false) ∧ Jx (pre ++ [x]) W'))
    (W : World) (hJa : ∀ pre A o, J pre A → J pre (A.alloc o)) (hP : ∀ b, P b → b < W.heap.size) (hO : OnAt P W k s v sum ao cap ys B0 B1 B2 B3 B4) (h0 : J [] W) :
    CallsIn Fence.wide n Try.prog 64 #[.func (.yield l) #[] #[], .pointer (some ⟨B0, 0, none⟩), .pointer (some ⟨B1, 0, none⟩), .pointer (some ⟨B2, 0, none⟩), .pointer (some ⟨B3, 0, none⟩), .pointer (some ⟨B4, 0, none⟩)] W fun e W' => (∃ v, e = .returned v) ∧
      ((∃ xs, xs = toldL k s v sum ys ∧ J xs W') ∨ (∃ pre, pre <+: toldL k s v sum ys ∧ Jx pre W')) := by
  have HY : Hid _ := hY
  have HO : Hid _ := hO
  have HP : Hid _ := hP
  have hc0 := hO.b0
  have hle := hO.le
  have hbig : cap ≤ 9223372036854775807 := by have := hO.big; unfold maxLen at this; omega
  clear hY hO hP
  refine callsIn_of_wp Try.func64 rfl trivial ?_ rfl
  simp only [Try.ntmps64, List.size_toArray, List.length_cons, List.length_nil, Nat.reduceAdd, Nat.reduceSub, Array.replicate_succ, Array.replicate_zero, List.push_toArray, List.append_toArray, List.nil_append, List.cons_append]
  gi_wp2
  obtain ⟨M, hM⟩ : ∃ M : Nat, min ys.length 10 = M := ⟨_, rfl⟩
  rw [show min (ys.length : Int) 10 = (M : Int) by omega, show max (M : Int) 0 = (M : Int) by omega, Int.toNat_natCast]
  gi_loopw [16] (fun i wr => ∃ m : Nat, m ≤ M ∧ i = .int .i64 (m : Int) ∧ J ((ys.take m).filter fun x => askedB k s v sum x.1) wr ∧ Kept P W wr)
    (fun i _ => M - (intOf i).toNat)
  case atStart => exact ⟨0, Nat.zero_le _, rfl, h0, Kept.refl _ _⟩
  case round =>
    obtain ⟨m, hm, rfl, hJ, hk⟩ := hrel
    have hPr : ∀ b, P b → b < wr.heap.size := fun b hb => by
      have h1 := hk b hb
      rw [Array.getElem?_eq_getElem (HP.out b hb)] at h1
      exact (Array.getElem?_eq_some_iff.1 h1).1
    by_cases hlt : m < M
    · have hml : m < ys.length := by omega
      have hO := HO.out.kept hk
      obtain ⟨b, o, rfl, hb, hv⟩ := hO.at_ m hml
      have hts := taken_succ k s v sum ys hml
      have hpl : ((ys.take m).filter fun x => askedB k s v sum x.1).length < 10 := by
        have := List.length_filter_le (fun x : VoteW => askedB k s v sum x.1) (ys.take m)
        rw [List.length_take] at this; omega
      generalize hpre : ((ys.take m).filter fun x => askedB k s v sum x.1) = pre at *
      have HPRE : Hid _ := hpre
      generalize hy0 : ys[m] = y at *
      have HTS : Hid _ := hts
      have HV : Hid (VoteAt wr b (o + m * 68) y.1) := hv
      have HA : Hid ((wr.alloc (.cells y.1.cells 51)).heap[wr.heap.size]? = some (.cells y.1.cells 51 (0, 0))) := alloc_blk _ _
      have ha0 : (wr.alloc (.cells y.1.cells 51)).cell? ⟨wr.heap.size, 0, none⟩ = some (.int .i64 y.1.k) := (cell_blk HA.out _).trans y.1.at0
      have ha1 : (wr.alloc (.cells y.1.cells 51)).cell? ⟨wr.heap.size, 1, none⟩ = some (.int .i64 y.1.s) := (cell_blk HA.out _).trans y.1.at1
      have ha2 : (wr.alloc (.cells y.1.cells 51)).cell? ⟨wr.heap.size, 2, none⟩ = some (.int .i64 y.1.v) := (cell_blk HA.out _).trans y.1.at2
      have HV1 : Hid (VoteAt (wr.alloc (.cells y.1.cells 51)) wr.heap.size 0 y.1) := voteAt_blk HA.out
      have HS1 : Hid (HashAt (wr.alloc (.cells y.1.cells 51)) wr.heap.size 3 y.1.sum) := by have := HV1.out.sum; rw [Nat.zero_add] at this; exact this
      have hk1 : Kept P W (wr.alloc (.cells y.1.cells 51)) := hk.trans (kept_below hPr (below_alloc _ _))
      have hO1 := HO.out.kept hk1
      have hb1 := hO1.b1
      have hb2 := hO1.b2
      have hb3 := hO1.b3
      have HS4 : Hid (HashAt (wr.alloc (.cells y.1.cells 51)) B4 0 sum) := hO1.b4
      have HK1 : Hid _ := hk1
      have hJ1 := hJa pre wr (.cells y.1.cells 51) hJ
      have heq := equalIn_hash y.1.sum sum
      clear hO hO1 hv hts hk hk1 hpre hy0 hc0
      by_cases e1 : y.1.k = k
      · by_cases e2 : y.1.s = s
        · by_cases e3 : y.1.v = v
          · cases e4 : rowEq 32 y.1.sum sum
            · have hask : askedB k s v sum y.1 = false := by simp [askedB, e1, e2, e3, e4]
              rw [e4] at heq
              gi_wp2_with (first | (refine wpListIn_load_vote rfl _ rfl b (o + m * 68) ?_ y.1 ?_ ?_; rfl; exact HV.out) | (refine wpListIn_alloc_vote rfl rfl ?_) | (refine wpListIn_store_vote rfl _ _ rfl wr y.1 ?_ ?_ ?_ ?_; rfl; rfl; rfl) | (refine wpListIn_load_hash rfl _ rfl wr.heap.size 3 ?_ y.1.sum ?_ ?_; rfl; exact HS1.out) | (refine wpListIn_load_hash rfl _ rfl B4 0 ?_ sum ?_ ?_; rfl; exact HS4.out) | (refine wpListIn_load_vote rfl _ rfl wr.heap.size 0 ?_ y.1 ?_ ?_; rfl; exact HV1.out))
              refine ⟨fun _ h => (by cases h), ?_⟩
              gi_wp2
              go_roundw
              case rel => exact ⟨m + 1, by omega, by go_num, by rw [HTS.out, if_neg (by rw [hask]; decide), List.append_nil]; exact hJ1, HK1.out⟩
              case measure => simp [intOf]; omega
            · have hask : askedB k s v sum y.1 = true := by simp [askedB, e1, e2, e3, e4]
              obtain ⟨fn, tmps, assign, body, hy, hR⟩ := HY.out pre y _ hJ1 hpl
              rw [e4] at heq
              gi_wp2_with (first | (refine wpListIn_load_vote rfl _ rfl b (o + m * 68) ?_ y.1 ?_ ?_; rfl; exact HV.out) | (refine wpListIn_alloc_vote rfl rfl ?_) | (refine wpListIn_store_vote rfl _ _ rfl wr y.1 ?_ ?_ ?_ ?_; rfl; rfl; rfl) | (refine wpListIn_load_hash rfl _ rfl wr.heap.size 3 ?_ y.1.sum ?_ ?_; rfl; exact HS1.out) | (refine wpListIn_load_hash rfl _ rfl B4 0 ?_ sum ?_ ?_; rfl; exact HS4.out) | (refine wpListIn_load_vote rfl _ rfl wr.heap.size 0 ?_ y.1 ?_ ?_; rfl; exact HV1.out))
              refine hR.mono ?_
              rintro e W3 (⟨rfl, hJ3, hk3⟩ | ⟨rfl, hJx3⟩)
              · gi_wp2
                go_roundw
                case rel => exact ⟨m + 1, by omega, by go_num, by rw [HTS.out, if_pos hask]; exact hJ3, Kept.trans HK1.out hk3⟩
                case measure => simp [intOf]; omega
              · gi_wp2
                refine bodyPost_ret (results_none rfl _ _ _) rfl ?_
                refine ⟨⟨_, rfl⟩, .inr ⟨pre ++ [y], ?_, hJx3⟩⟩
                have h10 := HTS.out
                rw [if_pos hask] at h10
                rw [← h10]
                refine List.IsPrefix.filter _ ?_
                rw [show ys.take (m + 1) = (ys.take 10).take (m + 1) by rw [List.take_take, Nat.min_eq_left (by omega)]]
                exact List.take_prefix _ _
          · have hask : askedB k s v sum y.1 = false := by simp [askedB, e3]
            gi_wp2_with (first | (refine wpListIn_load_vote rfl _ rfl b (o + m * 68) ?_ y.1 ?_ ?_; rfl; exact HV.out) | (refine wpListIn_alloc_vote rfl rfl ?_) | (refine wpListIn_store_vote rfl _ _ rfl wr y.1 ?_ ?_ ?_ ?_; rfl; rfl; rfl) | (refine wpListIn_load_hash rfl _ rfl wr.heap.size 3 ?_ y.1.sum ?_ ?_; rfl; exact HS1.out) | (refine wpListIn_load_hash rfl _ rfl B4 0 ?_ sum ?_ ?_; rfl; exact HS4.out) | (refine wpListIn_load_vote rfl _ rfl wr.heap.size 0 ?_ y.1 ?_ ?_; rfl; exact HV1.out))
            refine ⟨fun _ h => (by cases h), ?_⟩
            gi_wp2
            go_roundw
            case rel => exact ⟨m + 1, by omega, by go_num, by rw [HTS.out, if_neg (by rw [hask]; decide), List.append_nil]; exact hJ1, HK1.out⟩
            case measure => simp [intOf]; omega
        · have hask : askedB k s v sum y.1 = false := by simp [askedB, e2]
          gi_wp2_with (first | (refine wpListIn_load_vote rfl _ rfl b (o + m * 68) ?_ y.1 ?_ ?_; rfl; exact HV.out) | (refine wpListIn_alloc_vote rfl rfl ?_) | (refine wpListIn_store_vote rfl _ _ rfl wr y.1 ?_ ?_ ?_ ?_; rfl; rfl; rfl) | (refine wpListIn_load_hash rfl _ rfl wr.heap.size 3 ?_ y.1.sum ?_ ?_; rfl; exact HS1.out) | (refine wpListIn_load_hash rfl _ rfl B4 0 ?_ sum ?_ ?_; rfl; exact HS4.out) | (refine wpListIn_load_vote rfl _ rfl wr.heap.size 0 ?_ y.1 ?_ ?_; rfl; exact HV1.out))
          refine ⟨fun _ h => (by cases h), ?_⟩
          gi_wp2
          go_roundw
          case rel => exact ⟨m + 1, by omega, by go_num, by rw [HTS.out, if_neg (by rw [hask]; decide), List.append_nil]; exact hJ1, HK1.out⟩
          case measure => simp [intOf]; omega
      · have hask : askedB k s v sum y.1 = false := by simp [askedB, e1]
        gi_wp2_with (first | (refine wpListIn_load_vote rfl _ rfl b (o + m * 68) ?_ y.1 ?_ ?_; rfl; exact HV.out) | (refine wpListIn_alloc_vote rfl rfl ?_) | (refine wpListIn_store_vote rfl _ _ rfl wr y.1 ?_ ?_ ?_ ?_; rfl; rfl; rfl) | (refine wpListIn_load_hash rfl _ rfl wr.heap.size 3 ?_ y.1.sum ?_ ?_; rfl; exact HS1.out) | (refine wpListIn_load_hash rfl _ rfl B4 0 ?_ sum ?_ ?_; rfl; exact HS4.out) | (refine wpListIn_load_vote rfl _ rfl wr.heap.size 0 ?_ y.1 ?_ ?_; rfl; exact HV1.out))
        refine ⟨fun _ h => (by cases h), ?_⟩
        gi_wp2
        go_roundw
        case rel => exact ⟨m + 1, by omega, by go_num, by rw [HTS.out, if_neg (by rw [hask]; decide), List.append_nil]; exact hJ1, HK1.out⟩
        case measure => simp [intOf]; omega
    · obtain rfl : m = M := by omega
      gi_wp2
      go_end0
      refine ⟨⟨_, rfl⟩, .inl ⟨_, rfl, ?_⟩⟩
      unfold toldL
      rw [List.take_eq_take_min, Nat.min_comm, hM]
      exact hJ
theorem votesOn_stops (P : Nat → Prop) (k s v : Int) (sum : Nat → Int) (ao : Option Addr) (cap : Nat) (ys : List VoteW) (B0 B1 B2 B3 B4 : Nat) (w : World) (hP : ∀ b, P b → b < w.heap.size) (hO : OnAt P w k s v sum ao cap ys B0 B1 B2 B3 B4) (n : Nat) (hn : 1 ≤ n) :
    SeqStopsK Fence.wide n Try.prog 64 #[.pointer (some ⟨B0, 0, none⟩), .pointer (some ⟨B1, 0, none⟩), .pointer (some ⟨B2, 0, none⟩), .pointer (some ⟨B3, 0, none⟩), .pointer (some ⟨B4, 0, none⟩)] voteCells (Kept P) (fun xs => xs = toldL k s v sum ys) (fun pre => pre <+: toldL k s v sum ys) 10 w :=
  fun l J Jx W hW hJ _ hY h0 => votesOn1_in n l P J Jx k s v sum ao cap ys B0 B1 B2 B3 B4 hn hY W (fun pre A o h => hJ pre A (A.alloc o) none h (World.grownBy_alloc A o none) (fun r e => by cases e))
    (fun b hb => Nat.lt_of_lt_of_le (hP b hb) hW.size) (hO.kept (kept_below hP hW)) h0
set_option maxHeartbeats 1000000 in
set_option maxRecDepth 10000 in
theorem votesOn_any (vs : Value) (k s v : Int) (sum : Nat → Int) (w : World) (hv : ∃ ao n c, vs = .slice ao n c) : Calls Try.prog 54 #[vs, .int .i64 k, .int .i64 s, .int .i64 v, .agg (row .u8 32 sum)] w fun e w' =>
    e = .returned (.func (.func 64) #[] #[.pointer (some ⟨w.heap.size, 0, none⟩), .pointer (some ⟨w.heap.size + 1, 0, none⟩), .pointer (some ⟨w.heap.size + 2, 0, none⟩), .pointer (some ⟨w.heap.size + 3, 0, none⟩), .pointer (some ⟨w.heap.size + 4, 0, none⟩)]) ∧
    w' = ((((w.alloc (.cells #[vs] 23)).alloc (.cells #[.int .i64 k] 3)).alloc (.cells #[.int .i64 s] 3)).alloc (.cells #[.int .i64 v] 3)).alloc (.cells (row .u8 32 sum) 30) := by
  obtain ⟨ao, n, c, rfl⟩ := hv
  go_enter Try.func54, Try.ntmps54
  go_wp2_with (refine wpList_box_row rfl 30 _ rfl _ rfl ?_)
  go_ret
  exact ⟨rfl, rfl⟩
end Go.Proofs.Yticpkpphjpgdbaa
