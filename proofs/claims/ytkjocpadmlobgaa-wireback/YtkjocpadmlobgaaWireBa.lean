/- WireBack's walk: what may be is read as it was. No condition. -/
import Derived.Test.YtkjocpadmlobgaaWireDg
import Derived.Test.YtkjocpadmlobgaaWireDo
import Derived.Test.YtkjocpadmlobgaaWireDm
import Derived.Test.YtkjocpadmlobgaaWireX
import Derived.Test.YtkjocpadmlobgaaWireS
import Derived.Test.YtkjocpadmlobgaaWireL
import Derived.Test.YtkjocpadmlobgaaWireTu
import Derived.Test.YtkjocpadmlobgaaOLaw
namespace Go.Proofs.Ytkjocpadmlobgaa
open Go.RowKit Go.Dig Go.Inv Go.Oct
set_option linter.unusedVariables false

theorem encOp_inj2 {k c s : Int} {n : ByteArray} {p e t q : Int} {b : Bool} {k1 c1 s1 : Int} {n1 : ByteArray} {p1 e1 t1 q1 : Int} {b1 : Bool} (ho : opB k c s n p e t q b = true) (h1 : opB k1 c1 s1 n1 p1 e1 t1 q1 b1 = true) (h : encOp k c s n p e t q b = encOp k1 c1 s1 n1 p1 e1 t1 q1 b1) : opC k c s n p e t q b = opC k1 c1 s1 n1 p1 e1 t1 q1 b1 := by
  obtain ⟨a1, a2, a3, a4, a5, a6, a7, a8⟩ := opB_nums ho
  obtain ⟨d1, d2, d3, d4, d5, d6, d7, d8⟩ := opB_nums h1
  rw [← List.append_nil (encOp k c s n p e t q b), ← List.append_nil (encOp k1 c1 s1 n1 p1 e1 t1 q1 b1)] at h
  unfold encOp at h
  simp only [List.append_assoc] at h
  have h2 : NumOk 2 := ⟨by decide, by decide⟩
  obtain ⟨x1, x2⟩ := nums_inj [2, k, c, s] [2, k1, c1, s1] _ _ rfl (numOk_cons h2 (numOk_cons a1 (numOk_cons a2 (numOk_cons a3 numOk_nil)))) (numOk_cons h2 (numOk_cons d1 (numOk_cons d2 (numOk_cons d3 numOk_nil)))) h
  rw [byL_length] at a4 d4
  obtain ⟨x3, x4⟩ := num_inj a4 d4 x2
  obtain ⟨x5, x6⟩ := List.append_inj x4 (by rw [byL_length, byL_length]; omega)
  have hb : ∀ b : Bool, NumOk (if b = true then 1 else 0) := fun b => by cases b <;> exact ⟨by decide, by decide⟩
  obtain ⟨x7, -⟩ := nums_inj [p, e, t, q, if b = true then 1 else 0] [p1, e1, t1, q1, if b1 = true then 1 else 0] _ _ rfl (numOk_cons a5 (numOk_cons a6 (numOk_cons a7 (numOk_cons a8 (numOk_cons (hb b) numOk_nil))))) (numOk_cons d5 (numOk_cons d6 (numOk_cons d7 (numOk_cons d8 (numOk_cons (hb b1) numOk_nil))))) x6
  simp only [List.cons.injEq, and_true, true_and] at x1 x7
  obtain ⟨y1, y2, y3⟩ := x1
  obtain ⟨y4, y5, y6, y7, y8⟩ := x7
  have hbb : b = b1 := by cases b <;> cases b1 <;> simp_all
  have hnn : n = n1 := by rw [← strOf_byL n, ← strOf_byL n1, x5]
  rw [y1, y2, y3, y4, y5, y6, y7, hbb, hnn]
theorem encOp_lenB (k c s : Int) (n : ByteArray) (p e t q : Int) (b : Bool) (hn : n.size ≤ 8) : (encOp k c s n p e t q b).length ≤ 200 := by
  unfold encOp
  have h1 := nums_length [2, k, c, s]
  have h2 := num_length n.size
  have h3 := nums_length [p, e, t, q, if b = true then 1 else 0]
  simp only [List.length_append, byL_length, List.length_cons, List.length_nil] at *
  omega
theorem encMark_lenB (k p e t : Int) : (encMark k p e t).length ≤ 200 := by
  unfold encMark
  have h1 := nums_length [3, k, p, e, t]
  simp only [List.length_cons, List.length_nil] at *
  omega
theorem op_no_mark (k c s : Int) (n : ByteArray) (p e t q : Int) (b : Bool) (k1 p1 e1 t1 : Int) : ¬ encMark k1 p1 e1 t1 = encOp k c s n p e t q b := fun h => by
  unfold encMark encOp at h
  simp only [nums_cons, nums_nil, List.append_assoc] at h
  rw [show num 3 = [3] from by decide, show num 2 = [2] from by decide] at h
  simp at h
theorem encMark_injB {k p e t k1 p1 e1 t1 : Int} (ho : markB k p e t = true) (h1 : markB k1 p1 e1 t1 = true) (h : encMark k p e t = encMark k1 p1 e1 t1) : k = k1 ∧ p = p1 ∧ e = e1 ∧ t = t1 := by
  obtain ⟨a1, a2, a3, a4⟩ := markB_nums ho
  obtain ⟨d1, d2, d3, d4⟩ := markB_nums h1
  rw [← List.append_nil (encMark k p e t), ← List.append_nil (encMark k1 p1 e1 t1)] at h
  unfold encMark at h
  have h3 : NumOk 3 := ⟨by decide, by decide⟩
  obtain ⟨x1, -⟩ := nums_inj [3, k, p, e, t] [3, k1, p1, e1, t1] _ _ rfl (numOk_cons h3 (numOk_cons a1 (numOk_cons a2 (numOk_cons a3 (numOk_cons a4 numOk_nil))))) (numOk_cons h3 (numOk_cons d1 (numOk_cons d2 (numOk_cons d3 (numOk_cons d4 numOk_nil))))) h
  simp only [List.cons.injEq, and_true, true_and] at x1
  exact x1
theorem encMsg_inj {m n : MsgR} {P Q : List Int} {ys zs : List VoteR} (hm : MsgOk m P ys) (hn : MsgOk n Q zs) (h : encMsg m P ys = encMsg n Q zs) : m.k = n.k ∧ m.f = n.f ∧ m.t = n.t ∧ m.s = n.s ∧ m.v = n.v ∧ P = Q ∧ VotesEq ys zs ∧ ∀ j, j < 32 → m.tag j = n.tag j := by
  rw [← List.append_nil (encMsg m P ys), ← List.append_nil (encMsg n Q zs)] at h
  unfold encMsg at h
  simp only [List.append_assoc] at h
  obtain ⟨h1, h2⟩ := nums_inj [1, m.k, m.f, m.t, m.s, m.v] [1, n.k, n.f, n.t, n.s, n.v] _ _ rfl (numOk_cons ⟨by decide, by decide⟩ (numOk_cons hm.k (numOk_cons hm.f (numOk_cons hm.t (numOk_cons hm.s (numOk_cons hm.v numOk_nil)))))) (numOk_cons ⟨by decide, by decide⟩ (numOk_cons hn.k (numOk_cons hn.f (numOk_cons hn.t (numOk_cons hn.s (numOk_cons hn.v numOk_nil)))))) h
  simp only [List.cons.injEq, and_true, true_and] at h1
  have := hm.vb; have := hn.vb; have := hm.yb; have := hn.yb
  obtain ⟨h3, h4⟩ := num_inj (num_len (by omega)) (num_len (by omega)) h2
  obtain ⟨rfl, h5⟩ := List.append_inj h4 (by omega)
  obtain ⟨h6, h7⟩ := num_inj (num_len (by omega)) (num_len (by omega)) h5
  obtain ⟨h8, h9⟩ := flat_inj ys zs _ _ (by omega) hm.ys hn.ys h7
  exact ⟨h1.1, h1.2.1, h1.2.2.1, h1.2.2.2.1, h1.2.2.2.2, rfl, h8, (ofF_inj h9).1⟩
theorem self_op (n : ByteArray) (p e t q : Int) (b : Bool) : (n == n && (p == p && (e == e && (t == t && (q == q && (b == b)))))) = true := by
  have hb : (n == n) = true := by rw [beq_toListBytes]; simp
  simp [hb]
theorem self_mark (a : Nat → Int) : (a 0 == a 0 && (a 1 == a 1 && (a 2 == a 2 && a 3 == a 3))) = true := by simp
theorem encMsg_len (m : MsgR) (P : List Int) (ys : List VoteR) (h1 : P.length ≤ 500) (h2 : ys.length ≤ 20) : (encMsg m P ys).length ≤ 5000 := by
  have hf : ∀ l : List VoteR, (l.flatMap voteL).length ≤ 100 * l.length := fun l => by
    induction l with
    | nil => simp
    | cons y t ih => rw [List.flatMap_cons, List.length_append, List.length_cons]; have := voteL_length y; omega
  unfold encMsg
  have a1 := nums_length [1, m.k, m.f, m.t, m.s, m.v]
  have a2 := num_length P.length
  have a3 := num_length ys.length
  have a4 := hf ys
  simp only [List.length_append, ofF_length, List.length_cons, List.length_nil] at *
  omega
theorem MsgIn.below {w w' : World} {B : Nat} {m : MsgR} {P : List Int} {ys : List VoteR} (h : MsgIn w m P ys) (hB : Below B w w') (hl : w.heap.size ≤ B) : MsgIn w' m P ys := { h with val := h.val.below hB hl, vot := h.vot.below hB hl }
theorem MsgGot.in_ {w : World} {b0 : Nat} {m : MsgR} {P : List Int} {ys : List VoteR} (h : MsgGot w b0 m P ys) : MsgIn w m P ys := ⟨h.at_.vl, h.at_.val, h.at_.yl, h.at_.vot, h.at_.wf, h.at_.ywf, h.pb, h.yb, fun j _ => h.tb j⟩
/-- what was encoded is decoded -/
theorem DecMsg.back {B : List Int} {b0 : Nat} {e : Ending} {w : World} {m : MsgR} {P : List Int} {ys : List VoteR} (h : DecMsg B b0 e w) (hE : MsgEnc m P ys B) : ∃ (m2 : MsgR) (P2 : List Int) (ys2 : List VoteR), e = .returned (.tuple #[.agg m2.cells, .int .i64 0]) ∧ MsgGot w b0 m2 P2 ys2 ∧ sameMsgB m m2 P P2 ys ys2 = true := by
  obtain ⟨m2, f, he, hd⟩ := h
  rcases hd with ⟨rfl, P2, ys2, hg, hE2⟩ | ⟨-, -, hn⟩
  · refine ⟨m2, P2, ys2, he, hg, ?_⟩
    obtain ⟨e1, e2, e3, e4, e5, e6, e7, e8⟩ := encMsg_inj (msgB_ok hE.2.2.1 hE.1 hE.2.1) (msgB_ok hE2.2.2.1 hE2.1 hE2.2.1) (hE.2.2.2.trans hE2.2.2.2.symm)
    have h7 := votesEqB_iff.2 e7
    have h8 := rowEq_iff.2 e8
    simp only [sameMsgB, e1, e2, e3, e4, e5, e6, h7, h8, decide_true, Bool.and_self]
  · exact absurd hE (hn _ _ _)
theorem DecOp.back {B : List Int} {x : Ending} {k c s : Int} {n : ByteArray} {p e t q : Int} {b : Bool} (h : DecOp B x) (ho : opB k c s n p e t q b = true) (hE : encOp k c s n p e t q b = B) : x = .returned (.tuple #[.agg (opC k c s n p e t q b), .int .i64 0]) := by
  obtain ⟨k1, c1, s1, n1, p1, e1, t1, q1, b1, f, he, hd⟩ := h
  rcases hd with ⟨rfl, ho1, hE1⟩ | ⟨-, -, hn⟩
  · rw [he, encOp_inj2 ho ho1 (hE.trans hE1.symm)]
  · exact absurd hE (hn _ _ _ _ _ _ _ _ _ ho)
theorem DecOp.none {B : List Int} {x : Ending} (h : DecOp B x) (hn : ∀ k1 c1 s1 n1 p1 e1 t1 q1 b1, opB k1 c1 s1 n1 p1 e1 t1 q1 b1 = true → ¬ encOp k1 c1 s1 n1 p1 e1 t1 q1 b1 = B) : x = .returned (.tuple #[.agg (opC 0 0 0 eN 0 0 0 0 false), .int .i64 2]) := by
  obtain ⟨k1, c1, s1, n1, p1, e1, t1, q1, b1, f, he, hd⟩ := h
  rcases hd with ⟨-, ho1, hE1⟩ | ⟨rfl, hz, -⟩
  · exact absurd hE1 (hn _ _ _ _ _ _ _ _ _ ho1)
  · rw [he, hz]
theorem DecMark.back {B : List Int} {x : Ending} {a : Nat → Int} (h : DecMark B x) (ho : markB (a 0) (a 1) (a 2) (a 3) = true) (hE : encMark (a 0) (a 1) (a 2) (a 3) = B) : x = .returned (.tuple #[.agg (markC a), .int .i64 0]) := by
  obtain ⟨a1, f, he, hd⟩ := h
  rcases hd with ⟨rfl, ho1, hE1⟩ | ⟨-, -, hn⟩
  · obtain ⟨e0, e1, e2, e3⟩ := encMark_injB ho ho1 (hE.trans hE1.symm)
    rw [he]
    unfold markC
    rw [e0, e1, e2, e3]
  · exact absurd hE (hn _ _ _ _ ho)
theorem DecMark.none {B : List Int} {x : Ending} (h : DecMark B x) (hn : ∀ k p e t, markB k p e t = true → ¬ encMark k p e t = B) : x = .returned (.tuple #[.agg (markC (fun _ => 0)), .int .i64 2]) := by
  obtain ⟨a1, f, he, hd⟩ := h
  rcases hd with ⟨-, ho1, hE1⟩ | ⟨rfl, hz, -⟩
  · exact absurd hE1 (hn _ _ _ _ ho1)
  · rw [he, hz]
theorem wpList_load_msgGP {ops : Array Oper} {rest : List Oper} {o : Oper} {a : Act} {w : World} {Q : Exit → Act → World → Prop} {j : Nat} {c : Bool} (hgd : o.guard = some (j, c)) (hy : yielded ops a.tmps j = some c) (x : Operand) (ho : o.op = .load 27 x) (g : Nat) (m : MsgR) (t : TypeId) (fr : Nat × Nat) (hx : a.eval x = .pointer (some ⟨g, 0, none⟩)) (hg : w.heap[g]? = some (.cells m.cells t fr)) (h : wpList Try.prog ops Q rest (a.put o.dst (.agg m.cells)) w) : wpList Try.prog ops Q (o :: rest) a w :=
  wpList_step fun _ hK => by
    rw [if_pos (by simp [Region.wanted, hgd, hy])]
    exact wp_load_msg x ho g m t fr hx hg (hK _ _ h)
/-- the world of WireBack's walk: its three arguments lie there -/
structure BaW (w : World) (m : MsgR) (P : List Int) (ys : List VoteR) (oc : Array Value) (a : Nat → Int) (W : World) : Prop where
  bel : Below w.heap.size w W
  msg : W.heap[w.heap.size]? = some (.cells m.cells 27 (0, 0))
  op : W.heap[w.heap.size + 1]? = some (.cells oc 42 (0, 0))
  mark : W.heap[w.heap.size + 2]? = some (.cells (markC a) 44 (0, 0))
  inn : MsgIn W m P ys
theorem BaW.size {w W : World} {m : MsgR} {P : List Int} {ys : List VoteR} {oc : Array Value} {a : Nat → Int} (h : BaW w m P ys oc a W) : w.heap.size + 3 ≤ W.heap.size := by have := lt_blk h.mark; omega
theorem BaW.next {w W W' : World} {m : MsgR} {P : List Int} {ys : List VoteR} {oc : Array Value} {a : Nat → Int} (h : BaW w m P ys oc a W) {B : Nat} (hB : Below B W W') (hb : W.heap.size ≤ B) : BaW w m P ys oc a W' := by
  have hs := h.size
  exact ⟨h.bel.trans (hB.mono (by omega)), (hB.block _ (by omega)).trans h.msg, (hB.block _ (by omega)).trans h.op, (hB.block _ (by omega)).trans h.mark, h.inn.below hB hb⟩
set_option maxRecDepth 10000 in
set_option maxHeartbeats 16000000 in
theorem wireBack_any (m : MsgR) (P : List Int) (ys : List VoteR) (k c s : Int) (n : ByteArray) (p e t q : Int) (b : Bool) (mk mp me mt : Int) (w : World) (hm : MsgIn w m P ys) (ik : inI k) (ic : inI c) (is : inI s) (hn : n.size ≤ maxLen) (ip : inI p) (ie : inI e) (it : inI t) (iq : inI q) (jk : inI mk) (jp : inI mp) (je : inI me) (jt : inI mt) :
    Calls Try.prog 5 #[.agg m.cells, .agg (opC k c s n p e t q b), .agg #[.int .i64 mk, .int .i64 mp, .int .i64 me, .int .i64 mt]] w fun x w' => x = .returned (.bool true) ∧ Below w.heap.size w w' := by
  have hn' : n.size < 9223372036854775808 := by unfold maxLen at hn; omega
  clear hn
  rw [← mf_c]
  have HW1 : Hid (BaW w m P ys (opC k c s n p e t q b) (mf mk mp me mt) (((w.alloc (.cells m.cells 27)).alloc (.cells (opC k c s n p e t q b) 42)).alloc (.cells (markC (mf mk mp me mt)) 44))) := by
    have hB : Below w.heap.size w (((w.alloc (.cells m.cells 27)).alloc (.cells (opC k c s n p e t q b) 42)).alloc (.cells (markC (mf mk mp me mt)) 44)) := (((Below.refl _ _).alloc (Nat.le_refl _) _).alloc (by simp) _).alloc (by simp; omega) _
    have h1 : (w.alloc (.cells m.cells 27)).heap.size = w.heap.size + 1 := by simp
    have h2 : ((w.alloc (.cells m.cells 27)).alloc (.cells (opC k c s n p e t q b) 42)).heap.size = w.heap.size + 2 := by simp
    refine ⟨hB, alloc_blk_old (alloc_blk_old (alloc_blk _ _) _) _, ?_, ?_, hm.below hB (Nat.le_refl _)⟩
    · have := alloc_blk_old (alloc_blk (w.alloc (.cells m.cells 27)) (.cells (opC k c s n p e t q b) 42)) (.cells (markC (mf mk mp me mt)) 44)
      rw [h1] at this
      exact this
    · have := alloc_blk ((w.alloc (.cells m.cells 27)).alloc (.cells (opC k c s n p e t q b) 42)) (.cells (markC (mf mk mp me mt)) 44)
      rw [h2] at this
      exact this
  obtain ⟨ma, HMA⟩ : ∃ ma, Hid (mf mk mp me mt = ma) := ⟨_, rfl⟩
  have HMI : Hid (inI (ma 0) ∧ inI (ma 1) ∧ inI (ma 2) ∧ inI (ma 3)) := by rw [← HMA.out]; exact ⟨jk, jp, je, jt⟩
  rw [HMA.out] at HW1 ⊢
  have HIS : Hid (∀ w, Calls Try.prog 27 #[.agg (markC ma)] w fun x w' => x = .returned (.bool (markB (ma 0) (ma 1) (ma 2) (ma 3))) ∧ Below w.heap.size w w') := fun w => rIsMark_any (ma 0) (ma 1) (ma 2) (ma 3) w
  have HML : Hid (m.vl = P.length ∧ m.yl = ys.length) := ⟨hm.vl, hm.yl⟩
  clear hm
  go_enter Try.func5, Try.ntmps5
  go_upto_region 1 with (first | (refine wpList_box_row rfl 27 _ rfl _ rfl ?_) | (refine wpList_box_row rfl 42 _ rfl _ rfl ?_) | (refine wpList_box_row rfl 44 _ rfl _ rfl ?_))
  generalize ((w.alloc (.cells m.cells 27)).alloc (.cells (opC k c s n p e t q b) 42)).alloc (.cells (markC ma) 44) = w1 at *
  go_wp2_with (refine wpList_load_msgP rfl _ rfl w.heap.size m 27 (0, 0) ?_ ?_ ?_; rfl; exact HW1.out.msg)
  refine (long5_any m w1).mono ?_
  rintro x w2 ⟨rfl, hB2⟩
  have HW2 : Hid (BaW w m P ys (opC k c s n p e t q b) ma w2) := HW1.out.next hB2 (Nat.le_refl _)
  clear hB2 HW1
  obtain ⟨lo, HLO⟩ : ∃ lo, Hid (longM m = lo) := ⟨_, rfl⟩
  rw [HLO.out]
  cases lo
  case true =>
    have hW := HW2.out.bel
    go_wp2_with fail
    go_ret
    exact ⟨rfl, hW⟩
  have hc3 : w2.cell? ⟨w.heap.size + 1, 3, none⟩ = some (.string n) := (cell_blk HW2.out.op _).trans rfl
  by_cases h100 : 100 < n.size
  · have hW := HW2.out.bel
    have h100' : 100 < (n.size : Int) := by omega
    go_wp2_with fail
    go_ret
    exact ⟨rfl, hW⟩
  have h100' : ¬ 100 < (n.size : Int) := by omega
  have HLEN : Hid (P.length ≤ 500 ∧ ys.length ≤ 20) := by
    have h1 := HLO.out
    have h2 := HML.out
    simp only [longM, Bool.or_eq_false_iff, decide_eq_false_iff_not] at h1
    exact ⟨by omega, by omega⟩
  go_wp2_with (refine wpList_load_msgP rfl _ rfl w.heap.size m 27 (0, 0) ?_ ?_ ?_; rfl; exact HW2.out.msg)
  refine (rIsMsg_any m P ys w2 HW2.out.inn).mono ?_
  rintro x w3 ⟨rfl, hB3⟩
  have HW3 : Hid (BaW w m P ys (opC k c s n p e t q b) ma w3) := HW2.out.next hB3 (Nat.le_refl _)
  clear hB3 HW2 hc3
  cases hmb : msgB m ys
  case false =>
    go_wp2_with (refine wpList_load_op rfl _ rfl (w.heap.size + 1) k c s n p e t q b 42 (0, 0) ?_ ?_ ?_; rfl; exact HW3.out.op)
    refine (rIsOp_any k c s n p e t q b w3 hn').mono ?_
    rintro x v3 ⟨rfl, hB3⟩
    have HV3 : Hid (BaW w m P ys (opC k c s n p e t q b) ma v3) := HW3.out.next hB3 (Nat.le_refl _)
    clear hB3 HW3
    cases hob : opB k c s n p e t q b
    case false =>
      go_wp2_with (refine wpList_load_mark rfl _ rfl (w.heap.size + 2) ma 44 (0, 0) ?_ ?_ ?_; rfl; exact HV3.out.mark)
      refine (HIS.out v3).mono ?_
      rintro x u3 ⟨rfl, hB3⟩
      have HU3 : Hid (BaW w m P ys (opC k c s n p e t q b) ma u3) := HV3.out.next hB3 (Nat.le_refl _)
      clear hB3 HV3
      cases hkb : markB (ma 0) (ma 1) (ma 2) (ma 3)
      case false =>
        go_wp2_with fail
        refine (known5_any u3).mono ?_
        rintro x u9 ⟨rfl, hB9⟩
        have hW9 : Below w.heap.size w u9 := (HU3.out.next hB9 (Nat.le_refl _)).bel
        go_wp2_with fail
        go_ret
        exact ⟨rfl, hW9⟩
      case true =>
        go_wp2_with (refine wpList_load_mark rfl _ rfl (w.heap.size + 2) ma 44 (0, 0) ?_ ?_ ?_; rfl; exact HU3.out.mark)
        refine (encodeMark_any (ma 0) (ma 1) (ma 2) (ma 3) u3 HMI.out.1 HMI.out.2.1 HMI.out.2.2.1 HMI.out.2.2.2).mono ?_
        rintro x u4 ⟨vv, rfl, hO4, hB4⟩
        rw [hkb] at hO4 ⊢
        simp only [if_true] at hO4 ⊢
        obtain ⟨B, HBB⟩ : ∃ B, Hid (encMark (ma 0) (ma 1) (ma 2) (ma 3) = B) := ⟨_, rfl⟩
        rw [HBB.out] at hO4
        obtain ⟨ao, cap, rfl, -, hR4, -⟩ := hO4.form2
        have HU4 : Hid (BaW w m P ys (opC k c s n p e t q b) ma u4) := HU3.out.next hB4 (Nat.le_refl _)
        have hBB : ByteL B ∧ B.length < 1073741824 := by rw [← HBB.out]; exact ⟨nums_bytes _, by have := encMark_lenB (ma 0) (ma 1) (ma 2) (ma 3); omega⟩
        have HBY : Hid (ByteL B ∧ B.length < 1073741824) := hBB
        have HR4 : Hid (Rowed u4 ao B cap) := hR4
        obtain ⟨bl, HBL⟩ : ∃ bl, Hid (B.length = bl) := ⟨_, rfl⟩
        have HD : Hid (Calls Try.prog 23 #[.slice ao bl cap] u4 fun e w' => DecMark B e ∧ Below u4.heap.size u4 w') := by rw [← HBL.out]; exact dMark_str B ao cap u4 hR4 hBB.1 hBB.2
        rw [HBL.out]
        clear hO4 hB4 hR4 hBB HU3
        go_wp2_with fail
        refine HD.out.mono ?_
        rintro x u5 ⟨hd, hB5⟩
        obtain rfl := hd.back hkb HBB.out
        have HU5 : Hid (BaW w m P ys (opC k c s n p e t q b) ma u5) := HU4.out.next hB5 (Nat.le_refl _)
        have HR5 : Hid (Rowed u5 ao B cap) := HR4.out.below hB5 (Nat.le_refl _)
        clear hd hB5 HD HU4 HR4
        go_upto_region 17 with (refine wpList_store_mark rfl _ _ rfl u5.heap.size ma (fun _ => 0) ?_ ?_ (alloc_blk _ _) ?_; rfl; rfl)
        rw [setRow_zero]
        have HU6 : Hid (BaW w m P ys (opC k c s n p e t q b) ma (u5.alloc (.cells (markC ma) 44))) := HU5.out.next (below_alloc _ _) (Nat.le_refl _)
        have HR6 : Hid (Rowed (u5.alloc (.cells (markC ma) 44)) ao B cap) := HR5.out.below (below_alloc _ _) (Nat.le_refl _)
        have HX6 : Hid ((u5.alloc (.cells (markC ma) 44)).heap[u5.heap.size]? = some (.cells (markC ma) 44 (0, 0))) := alloc_blk _ _
        generalize u5.alloc (.cells (markC ma) 44) = u6 at *
        obtain ⟨g6, hg6⟩ : ∃ g6, u5.heap.size = g6 := ⟨_, rfl⟩
        rw [hg6] at HX6
        simp only [hg6]
        clear hg6 HU5 HR5
        have HD2 : Hid (Calls Try.prog 19 #[.slice ao bl cap] u6 fun e w' => DecOp B e ∧ Below u6.heap.size u6 w') := by rw [← HBL.out]; exact dOp_str B ao cap u6 HR6.out HBY.out.1 HBY.out.2
        go_wp2_with fail
        refine HD2.out.mono ?_
        rintro x u7 ⟨hd, hB7⟩
        obtain rfl := hd.none (fun k1 c1 s1 n1 p1 e1 t1 q1 b1 _ h => op_no_mark k1 c1 s1 n1 p1 e1 t1 q1 b1 (ma 0) (ma 1) (ma 2) (ma 3) (HBB.out.trans h.symm))
        have HU7 : Hid (BaW w m P ys (opC k c s n p e t q b) ma u7) := HU6.out.next hB7 (Nat.le_refl _)
        have HX7 : Hid (u7.heap[g6]? = some (.cells (markC ma) 44 (0, 0))) := (hB7.block _ (lt_blk HX6.out)).trans HX6.out
        clear hd hB7 HD2 HU6 HX6 HR6
        go_upto_region 18 with (refine wpList_store_op rfl _ _ rfl u7.heap.size 0 0 0 eN 0 0 0 0 false (opC 0 0 0 eN 0 0 0 0 false) ?_ ?_ (alloc_blk _ _) ?_ ?_; rfl; rfl; rfl)
        rw [setRow_new]
        have HU8 : Hid (BaW w m P ys (opC k c s n p e t q b) ma (u7.alloc (.cells (opC 0 0 0 eN 0 0 0 0 false) 42))) := HU7.out.next (below_alloc _ _) (Nat.le_refl _)
        have HX8 : Hid ((u7.alloc (.cells (opC 0 0 0 eN 0 0 0 0 false) 42)).heap[g6]? = some (.cells (markC ma) 44 (0, 0))) := alloc_blk_old HX7.out _
        generalize u7.alloc (.cells (opC 0 0 0 eN 0 0 0 0 false) 42) = u3 at *
        obtain ⟨g7, hg7⟩ : ∃ g7, u7.heap.size = g7 := ⟨_, rfl⟩
        simp only [hg7]
        clear hg7 HU7 HX7
        have HU3 : Hid (BaW w m P ys (opC k c s n p e t q b) ma u3) := HU8.out
        have hEQ := fun w => (equal_marks ma ma w).trans (by rw [self_mark])
        clear HBB HBY HBL HU8
        go_upto_region 20 with (first | (refine wpList_load_markG rfl rfl _ rfl g6 ma 44 (0, 0) ?_ ?_ ?_; rfl; exact HX8.out) | (refine wpList_load_markG rfl rfl _ rfl (w.heap.size + 2) ma 44 (0, 0) ?_ ?_ ?_; rfl; exact HU3.out.mark))
        clear hEQ HX8
        go_wp2_with fail
        refine (known5_any u3).mono ?_
        rintro x u9 ⟨rfl, hB9⟩
        have hW9 : Below w.heap.size w u9 := (HU3.out.next hB9 (Nat.le_refl _)).bel
        go_wp2_with fail
        go_ret
        exact ⟨rfl, hW9⟩
    case true =>
      have hb8 := (opB_bounds hob).1
      go_wp2_with (refine wpList_load_op rfl _ rfl (w.heap.size + 1) k c s n p e t q b 42 (0, 0) ?_ ?_ ?_; rfl; exact HV3.out.op)
      refine (encodeOp_any k c s n p e t q b v3 ik ic is ip ie it iq (by omega)).mono ?_
      rintro x v4 ⟨vv, rfl, hO4, hB4⟩
      rw [hob] at hO4 ⊢
      simp only [if_true] at hO4 ⊢
      obtain ⟨B, HBB⟩ : ∃ B, Hid (encOp k c s n p e t q b = B) := ⟨_, rfl⟩
      rw [HBB.out] at hO4
      obtain ⟨ao, cap, rfl, -, hR4, -⟩ := hO4.form2
      have HV4 : Hid (BaW w m P ys (opC k c s n p e t q b) ma v4) := HV3.out.next hB4 (Nat.le_refl _)
      have hBB : ByteL B ∧ B.length < 1073741824 := by rw [← HBB.out]; exact ⟨encOp_bytes _ _ _ _ _ _ _ _ _, by have := encOp_lenB k c s n p e t q b hb8; omega⟩
      have HBY : Hid (ByteL B ∧ B.length < 1073741824) := hBB
      have HR4 : Hid (Rowed v4 ao B cap) := hR4
      obtain ⟨bl, HBL⟩ : ∃ bl, Hid (B.length = bl) := ⟨_, rfl⟩
      have HD : Hid (Calls Try.prog 19 #[.slice ao bl cap] v4 fun e w' => DecOp B e ∧ Below v4.heap.size v4 w') := by rw [← HBL.out]; exact dOp_str B ao cap v4 hR4 hBB.1 hBB.2
      rw [HBL.out]
      clear hO4 hB4 hR4 hBB HV3
      go_wp2_with fail
      refine HD.out.mono ?_
      rintro x v5 ⟨hd, hB5⟩
      obtain rfl := hd.back hob HBB.out
      have HV5 : Hid (BaW w m P ys (opC k c s n p e t q b) ma v5) := HV4.out.next hB5 (Nat.le_refl _)
      have HR5 : Hid (Rowed v5 ao B cap) := HR4.out.below hB5 (Nat.le_refl _)
      clear hd hB5 HD HV4 HR4
      go_upto_region 11 with (refine wpList_store_op rfl _ _ rfl v5.heap.size k c s n p e t q b (opC 0 0 0 eN 0 0 0 0 false) ?_ ?_ (alloc_blk _ _) ?_ ?_; rfl; rfl; rfl)
      rw [setRow_new]
      have HV6 : Hid (BaW w m P ys (opC k c s n p e t q b) ma (v5.alloc (.cells (opC k c s n p e t q b) 42))) := HV5.out.next (below_alloc _ _) (Nat.le_refl _)
      have HR6 : Hid (Rowed (v5.alloc (.cells (opC k c s n p e t q b) 42)) ao B cap) := HR5.out.below (below_alloc _ _) (Nat.le_refl _)
      have HX6 : Hid ((v5.alloc (.cells (opC k c s n p e t q b) 42)).heap[v5.heap.size]? = some (.cells (opC k c s n p e t q b) 42 (0, 0))) := alloc_blk _ _
      generalize v5.alloc (.cells (opC k c s n p e t q b) 42) = v6 at *
      obtain ⟨g6, hg6⟩ : ∃ g6, v5.heap.size = g6 := ⟨_, rfl⟩
      rw [hg6] at HX6
      simp only [hg6]
      clear hg6 HV5 HR5
      have HD2 : Hid (Calls Try.prog 23 #[.slice ao bl cap] v6 fun e w' => DecMark B e ∧ Below v6.heap.size v6 w') := by rw [← HBL.out]; exact dMark_str B ao cap v6 HR6.out HBY.out.1 HBY.out.2
      go_wp2_with fail
      refine HD2.out.mono ?_
      rintro x v7 ⟨hd, hB7⟩
      obtain rfl := hd.none (fun k1 p1 e1 t1 _ h => op_no_mark k c s n p e t q b k1 p1 e1 t1 (h.trans HBB.out.symm))
      have HV7 : Hid (BaW w m P ys (opC k c s n p e t q b) ma v7) := HV6.out.next hB7 (Nat.le_refl _)
      have HX7 : Hid (v7.heap[g6]? = some (.cells (opC k c s n p e t q b) 42 (0, 0))) := (hB7.block _ (lt_blk HX6.out)).trans HX6.out
      clear hd hB7 HD2 HV6 HX6 HR6
      go_upto_region 12 with (refine wpList_store_mark rfl _ _ rfl v7.heap.size (fun _ => 0) (fun _ => 0) ?_ ?_ (alloc_blk _ _) ?_; rfl; rfl)
      rw [setRow_zero]
      have HV8 : Hid (BaW w m P ys (opC k c s n p e t q b) ma (v7.alloc (.cells (markC (fun _ => 0)) 44))) := HV7.out.next (below_alloc _ _) (Nat.le_refl _)
      have HX8 : Hid ((v7.alloc (.cells (markC (fun _ => 0)) 44)).heap[g6]? = some (.cells (opC k c s n p e t q b) 42 (0, 0))) := alloc_blk_old HX7.out _
      generalize v7.alloc (.cells (markC (fun _ => 0)) 44) = v3 at *
      obtain ⟨g7, hg7⟩ : ∃ g7, v7.heap.size = g7 := ⟨_, rfl⟩
      simp only [hg7]
      clear hg7 HV7 HX7
      have HV3 : Hid (BaW w m P ys (opC k c s n p e t q b) ma v3) := HV8.out
      have hEQ := fun w => (equal_ops k c s n n p e t q p e t q b b w).trans (by rw [self_op])
      clear HBB HBY HBL HV8
      go_upto_region 14 with (first | (refine wpList_load_opG rfl rfl _ rfl g6 k c s n p e t q b 42 (0, 0) ?_ ?_ ?_; rfl; exact HX8.out) | (refine wpList_load_opG rfl rfl _ rfl (w.heap.size + 1) k c s n p e t q b 42 (0, 0) ?_ ?_ ?_; rfl; exact HV3.out.op))
      clear hEQ HX8
      go_wp2_with (refine wpList_load_mark rfl _ rfl (w.heap.size + 2) ma 44 (0, 0) ?_ ?_ ?_; rfl; exact HV3.out.mark)
      refine (HIS.out v3).mono ?_
      rintro x u3 ⟨rfl, hB3⟩
      have HU3 : Hid (BaW w m P ys (opC k c s n p e t q b) ma u3) := HV3.out.next hB3 (Nat.le_refl _)
      clear hB3 HV3
      cases hkb : markB (ma 0) (ma 1) (ma 2) (ma 3)
      case false =>
        go_wp2_with fail
        refine (known5_any u3).mono ?_
        rintro x u9 ⟨rfl, hB9⟩
        have hW9 : Below w.heap.size w u9 := (HU3.out.next hB9 (Nat.le_refl _)).bel
        go_wp2_with fail
        go_ret
        exact ⟨rfl, hW9⟩
      case true =>
        go_wp2_with (refine wpList_load_mark rfl _ rfl (w.heap.size + 2) ma 44 (0, 0) ?_ ?_ ?_; rfl; exact HU3.out.mark)
        refine (encodeMark_any (ma 0) (ma 1) (ma 2) (ma 3) u3 HMI.out.1 HMI.out.2.1 HMI.out.2.2.1 HMI.out.2.2.2).mono ?_
        rintro x u4 ⟨vv, rfl, hO4, hB4⟩
        rw [hkb] at hO4 ⊢
        simp only [if_true] at hO4 ⊢
        obtain ⟨B, HBB⟩ : ∃ B, Hid (encMark (ma 0) (ma 1) (ma 2) (ma 3) = B) := ⟨_, rfl⟩
        rw [HBB.out] at hO4
        obtain ⟨ao, cap, rfl, -, hR4, -⟩ := hO4.form2
        have HU4 : Hid (BaW w m P ys (opC k c s n p e t q b) ma u4) := HU3.out.next hB4 (Nat.le_refl _)
        have hBB : ByteL B ∧ B.length < 1073741824 := by rw [← HBB.out]; exact ⟨nums_bytes _, by have := encMark_lenB (ma 0) (ma 1) (ma 2) (ma 3); omega⟩
        have HBY : Hid (ByteL B ∧ B.length < 1073741824) := hBB
        have HR4 : Hid (Rowed u4 ao B cap) := hR4
        obtain ⟨bl, HBL⟩ : ∃ bl, Hid (B.length = bl) := ⟨_, rfl⟩
        have HD : Hid (Calls Try.prog 23 #[.slice ao bl cap] u4 fun e w' => DecMark B e ∧ Below u4.heap.size u4 w') := by rw [← HBL.out]; exact dMark_str B ao cap u4 hR4 hBB.1 hBB.2
        rw [HBL.out]
        clear hO4 hB4 hR4 hBB HU3
        go_wp2_with fail
        refine HD.out.mono ?_
        rintro x u5 ⟨hd, hB5⟩
        obtain rfl := hd.back hkb HBB.out
        have HU5 : Hid (BaW w m P ys (opC k c s n p e t q b) ma u5) := HU4.out.next hB5 (Nat.le_refl _)
        have HR5 : Hid (Rowed u5 ao B cap) := HR4.out.below hB5 (Nat.le_refl _)
        clear hd hB5 HD HU4 HR4
        go_upto_region 17 with (refine wpList_store_mark rfl _ _ rfl u5.heap.size ma (fun _ => 0) ?_ ?_ (alloc_blk _ _) ?_; rfl; rfl)
        rw [setRow_zero]
        have HU6 : Hid (BaW w m P ys (opC k c s n p e t q b) ma (u5.alloc (.cells (markC ma) 44))) := HU5.out.next (below_alloc _ _) (Nat.le_refl _)
        have HR6 : Hid (Rowed (u5.alloc (.cells (markC ma) 44)) ao B cap) := HR5.out.below (below_alloc _ _) (Nat.le_refl _)
        have HX6 : Hid ((u5.alloc (.cells (markC ma) 44)).heap[u5.heap.size]? = some (.cells (markC ma) 44 (0, 0))) := alloc_blk _ _
        generalize u5.alloc (.cells (markC ma) 44) = u6 at *
        obtain ⟨g6, hg6⟩ : ∃ g6, u5.heap.size = g6 := ⟨_, rfl⟩
        rw [hg6] at HX6
        simp only [hg6]
        clear hg6 HU5 HR5
        have HD2 : Hid (Calls Try.prog 19 #[.slice ao bl cap] u6 fun e w' => DecOp B e ∧ Below u6.heap.size u6 w') := by rw [← HBL.out]; exact dOp_str B ao cap u6 HR6.out HBY.out.1 HBY.out.2
        go_wp2_with fail
        refine HD2.out.mono ?_
        rintro x u7 ⟨hd, hB7⟩
        obtain rfl := hd.none (fun k1 c1 s1 n1 p1 e1 t1 q1 b1 _ h => op_no_mark k1 c1 s1 n1 p1 e1 t1 q1 b1 (ma 0) (ma 1) (ma 2) (ma 3) (HBB.out.trans h.symm))
        have HU7 : Hid (BaW w m P ys (opC k c s n p e t q b) ma u7) := HU6.out.next hB7 (Nat.le_refl _)
        have HX7 : Hid (u7.heap[g6]? = some (.cells (markC ma) 44 (0, 0))) := (hB7.block _ (lt_blk HX6.out)).trans HX6.out
        clear hd hB7 HD2 HU6 HX6 HR6
        go_upto_region 18 with (refine wpList_store_op rfl _ _ rfl u7.heap.size 0 0 0 eN 0 0 0 0 false (opC 0 0 0 eN 0 0 0 0 false) ?_ ?_ (alloc_blk _ _) ?_ ?_; rfl; rfl; rfl)
        rw [setRow_new]
        have HU8 : Hid (BaW w m P ys (opC k c s n p e t q b) ma (u7.alloc (.cells (opC 0 0 0 eN 0 0 0 0 false) 42))) := HU7.out.next (below_alloc _ _) (Nat.le_refl _)
        have HX8 : Hid ((u7.alloc (.cells (opC 0 0 0 eN 0 0 0 0 false) 42)).heap[g6]? = some (.cells (markC ma) 44 (0, 0))) := alloc_blk_old HX7.out _
        generalize u7.alloc (.cells (opC 0 0 0 eN 0 0 0 0 false) 42) = u3 at *
        obtain ⟨g7, hg7⟩ : ∃ g7, u7.heap.size = g7 := ⟨_, rfl⟩
        simp only [hg7]
        clear hg7 HU7 HX7
        have HU3 : Hid (BaW w m P ys (opC k c s n p e t q b) ma u3) := HU8.out
        have hEQ := fun w => (equal_marks ma ma w).trans (by rw [self_mark])
        clear HBB HBY HBL HU8
        go_upto_region 20 with (first | (refine wpList_load_markG rfl rfl _ rfl g6 ma 44 (0, 0) ?_ ?_ ?_; rfl; exact HX8.out) | (refine wpList_load_markG rfl rfl _ rfl (w.heap.size + 2) ma 44 (0, 0) ?_ ?_ ?_; rfl; exact HU3.out.mark))
        clear hEQ HX8
        go_wp2_with fail
        refine (known5_any u3).mono ?_
        rintro x u9 ⟨rfl, hB9⟩
        have hW9 : Below w.heap.size w u9 := (HU3.out.next hB9 (Nat.le_refl _)).bel
        go_wp2_with fail
        go_ret
        exact ⟨rfl, hW9⟩
  case true =>
    go_wp2_with (refine wpList_load_msgP rfl _ rfl w.heap.size m 27 (0, 0) ?_ ?_ ?_; rfl; exact HW3.out.msg)
    have hlen := HLEN.out
    refine (encodeMsg_any m P ys w3 (HW3.out.inn.at (by have := HML.out; omega) (by have := HML.out; omega))).mono ?_
    rintro x w4 ⟨v4, rfl, hO4, hB4⟩
    rw [hmb] at hO4 ⊢
    simp only [if_true] at hO4 ⊢
    obtain ⟨B, HBB⟩ : ∃ B, Hid (encMsg m P ys = B) := ⟨_, rfl⟩
    rw [HBB.out] at hO4
    obtain ⟨ao, cap, rfl, -, hR4, -⟩ := hO4.form2
    have HW4 : Hid (BaW w m P ys (opC k c s n p e t q b) ma w4) := HW3.out.next hB4 (Nat.le_refl _)
    have HD : Hid (Calls Try.prog 12 #[.slice ao B.length cap] w4 fun e w' => DecMsg B w4.heap.size e w' ∧ Below w4.heap.size w4 w') := dMsg_str B ao cap w4 hR4 (by rw [← HBB.out]; exact encMsg_bytes HW4.out.inn.pb HW4.out.inn.yb HW4.out.inn.tb) (by rw [← HBB.out]; have := encMsg_len m P ys hlen.1 hlen.2; omega)
    obtain ⟨bl, hbl⟩ : ∃ bl, B.length = bl := ⟨_, rfl⟩
    rw [hbl] at HD ⊢
    clear hO4 hB4 hR4 HW3 hlen hbl
    go_wp2_with fail
    refine HD.out.mono ?_
    rintro x w5 ⟨hd, hB5⟩
    obtain ⟨m2, P2, ys2, rfl, hg, hsm⟩ := hd.back ⟨HML.out.1, HML.out.2, hmb, HBB.out⟩
    have HW5 : Hid (BaW w m P ys (opC k c s n p e t q b) ma w5) := HW4.out.next hB5 (Nat.le_refl _)
    have HG5 : Hid (MsgIn w5 m2 P2 ys2) := hg.in_
    have HSM : Hid (sameMsgB m m2 P P2 ys ys2 = true) := hsm
    clear hd hB5 HD hg hsm HW4
    go_upto_region 6 with (refine wpList_store_msgP rfl _ _ rfl w5.heap.size m2 MsgR.zero ?_ ?_ (alloc_blk _ _) ?_; rfl; rfl)
    rw [setRow_new]
    have HW6 : Hid (BaW w m P ys (opC k c s n p e t q b) ma (w5.alloc (.cells m2.cells 27))) := HW5.out.next (below_alloc _ _) (Nat.le_refl _)
    have HG6 : Hid (MsgIn (w5.alloc (.cells m2.cells 27)) m2 P2 ys2) := HG5.out.below (below_alloc _ _) (Nat.le_refl _)
    have HX6 : Hid ((w5.alloc (.cells m2.cells 27)).heap[w5.heap.size]? = some (.cells m2.cells 27 (0, 0))) := alloc_blk _ _
    generalize w5.alloc (.cells m2.cells 27) = w6 at *
    obtain ⟨g6, hg6⟩ : ∃ g6, w5.heap.size = g6 := ⟨_, rfl⟩
    rw [hg6] at HX6
    simp only [hg6]
    clear hg6 HW5 HG5
    go_wp2_with (first | (refine wpList_load_msgGP rfl rfl _ rfl w.heap.size m 27 (0, 0) ?_ ?_ ?_; rfl; exact HW6.out.msg) | (refine wpList_load_msgGP rfl rfl _ rfl g6 m2 27 (0, 0) ?_ ?_ ?_; rfl; exact HX6.out))
    refine (rSameMsg_any m m2 P P2 ys ys2 w6 HW6.out.inn HG6.out (by have := HLEN.out; omega)).mono ?_
    rintro x w3 ⟨rfl, hB7⟩
    rw [HSM.out]
    have HW3 : Hid (BaW w m P ys (opC k c s n p e t q b) ma w3) := HW6.out.next hB7 (Nat.le_refl _)
    clear hB7 HW6 HG6 HX6 HSM HBB
    go_wp2_with (refine wpList_load_op rfl _ rfl (w.heap.size + 1) k c s n p e t q b 42 (0, 0) ?_ ?_ ?_; rfl; exact HW3.out.op)
    refine (rIsOp_any k c s n p e t q b w3 hn').mono ?_
    rintro x v3 ⟨rfl, hB3⟩
    have HV3 : Hid (BaW w m P ys (opC k c s n p e t q b) ma v3) := HW3.out.next hB3 (Nat.le_refl _)
    clear hB3 HW3
    cases hob : opB k c s n p e t q b
    case false =>
      go_wp2_with (refine wpList_load_mark rfl _ rfl (w.heap.size + 2) ma 44 (0, 0) ?_ ?_ ?_; rfl; exact HV3.out.mark)
      refine (HIS.out v3).mono ?_
      rintro x u3 ⟨rfl, hB3⟩
      have HU3 : Hid (BaW w m P ys (opC k c s n p e t q b) ma u3) := HV3.out.next hB3 (Nat.le_refl _)
      clear hB3 HV3
      cases hkb : markB (ma 0) (ma 1) (ma 2) (ma 3)
      case false =>
        go_wp2_with fail
        refine (known5_any u3).mono ?_
        rintro x u9 ⟨rfl, hB9⟩
        have hW9 : Below w.heap.size w u9 := (HU3.out.next hB9 (Nat.le_refl _)).bel
        go_wp2_with fail
        go_ret
        exact ⟨rfl, hW9⟩
      case true =>
        go_wp2_with (refine wpList_load_mark rfl _ rfl (w.heap.size + 2) ma 44 (0, 0) ?_ ?_ ?_; rfl; exact HU3.out.mark)
        refine (encodeMark_any (ma 0) (ma 1) (ma 2) (ma 3) u3 HMI.out.1 HMI.out.2.1 HMI.out.2.2.1 HMI.out.2.2.2).mono ?_
        rintro x u4 ⟨vv, rfl, hO4, hB4⟩
        rw [hkb] at hO4 ⊢
        simp only [if_true] at hO4 ⊢
        obtain ⟨B, HBB⟩ : ∃ B, Hid (encMark (ma 0) (ma 1) (ma 2) (ma 3) = B) := ⟨_, rfl⟩
        rw [HBB.out] at hO4
        obtain ⟨ao, cap, rfl, -, hR4, -⟩ := hO4.form2
        have HU4 : Hid (BaW w m P ys (opC k c s n p e t q b) ma u4) := HU3.out.next hB4 (Nat.le_refl _)
        have hBB : ByteL B ∧ B.length < 1073741824 := by rw [← HBB.out]; exact ⟨nums_bytes _, by have := encMark_lenB (ma 0) (ma 1) (ma 2) (ma 3); omega⟩
        have HBY : Hid (ByteL B ∧ B.length < 1073741824) := hBB
        have HR4 : Hid (Rowed u4 ao B cap) := hR4
        obtain ⟨bl, HBL⟩ : ∃ bl, Hid (B.length = bl) := ⟨_, rfl⟩
        have HD : Hid (Calls Try.prog 23 #[.slice ao bl cap] u4 fun e w' => DecMark B e ∧ Below u4.heap.size u4 w') := by rw [← HBL.out]; exact dMark_str B ao cap u4 hR4 hBB.1 hBB.2
        rw [HBL.out]
        clear hO4 hB4 hR4 hBB HU3
        go_wp2_with fail
        refine HD.out.mono ?_
        rintro x u5 ⟨hd, hB5⟩
        obtain rfl := hd.back hkb HBB.out
        have HU5 : Hid (BaW w m P ys (opC k c s n p e t q b) ma u5) := HU4.out.next hB5 (Nat.le_refl _)
        have HR5 : Hid (Rowed u5 ao B cap) := HR4.out.below hB5 (Nat.le_refl _)
        clear hd hB5 HD HU4 HR4
        go_upto_region 17 with (refine wpList_store_mark rfl _ _ rfl u5.heap.size ma (fun _ => 0) ?_ ?_ (alloc_blk _ _) ?_; rfl; rfl)
        rw [setRow_zero]
        have HU6 : Hid (BaW w m P ys (opC k c s n p e t q b) ma (u5.alloc (.cells (markC ma) 44))) := HU5.out.next (below_alloc _ _) (Nat.le_refl _)
        have HR6 : Hid (Rowed (u5.alloc (.cells (markC ma) 44)) ao B cap) := HR5.out.below (below_alloc _ _) (Nat.le_refl _)
        have HX6 : Hid ((u5.alloc (.cells (markC ma) 44)).heap[u5.heap.size]? = some (.cells (markC ma) 44 (0, 0))) := alloc_blk _ _
        generalize u5.alloc (.cells (markC ma) 44) = u6 at *
        obtain ⟨g6, hg6⟩ : ∃ g6, u5.heap.size = g6 := ⟨_, rfl⟩
        rw [hg6] at HX6
        simp only [hg6]
        clear hg6 HU5 HR5
        have HD2 : Hid (Calls Try.prog 19 #[.slice ao bl cap] u6 fun e w' => DecOp B e ∧ Below u6.heap.size u6 w') := by rw [← HBL.out]; exact dOp_str B ao cap u6 HR6.out HBY.out.1 HBY.out.2
        go_wp2_with fail
        refine HD2.out.mono ?_
        rintro x u7 ⟨hd, hB7⟩
        obtain rfl := hd.none (fun k1 c1 s1 n1 p1 e1 t1 q1 b1 _ h => op_no_mark k1 c1 s1 n1 p1 e1 t1 q1 b1 (ma 0) (ma 1) (ma 2) (ma 3) (HBB.out.trans h.symm))
        have HU7 : Hid (BaW w m P ys (opC k c s n p e t q b) ma u7) := HU6.out.next hB7 (Nat.le_refl _)
        have HX7 : Hid (u7.heap[g6]? = some (.cells (markC ma) 44 (0, 0))) := (hB7.block _ (lt_blk HX6.out)).trans HX6.out
        clear hd hB7 HD2 HU6 HX6 HR6
        go_upto_region 18 with (refine wpList_store_op rfl _ _ rfl u7.heap.size 0 0 0 eN 0 0 0 0 false (opC 0 0 0 eN 0 0 0 0 false) ?_ ?_ (alloc_blk _ _) ?_ ?_; rfl; rfl; rfl)
        rw [setRow_new]
        have HU8 : Hid (BaW w m P ys (opC k c s n p e t q b) ma (u7.alloc (.cells (opC 0 0 0 eN 0 0 0 0 false) 42))) := HU7.out.next (below_alloc _ _) (Nat.le_refl _)
        have HX8 : Hid ((u7.alloc (.cells (opC 0 0 0 eN 0 0 0 0 false) 42)).heap[g6]? = some (.cells (markC ma) 44 (0, 0))) := alloc_blk_old HX7.out _
        generalize u7.alloc (.cells (opC 0 0 0 eN 0 0 0 0 false) 42) = u3 at *
        obtain ⟨g7, hg7⟩ : ∃ g7, u7.heap.size = g7 := ⟨_, rfl⟩
        simp only [hg7]
        clear hg7 HU7 HX7
        have HU3 : Hid (BaW w m P ys (opC k c s n p e t q b) ma u3) := HU8.out
        have hEQ := fun w => (equal_marks ma ma w).trans (by rw [self_mark])
        clear HBB HBY HBL HU8
        go_upto_region 20 with (first | (refine wpList_load_markG rfl rfl _ rfl g6 ma 44 (0, 0) ?_ ?_ ?_; rfl; exact HX8.out) | (refine wpList_load_markG rfl rfl _ rfl (w.heap.size + 2) ma 44 (0, 0) ?_ ?_ ?_; rfl; exact HU3.out.mark))
        clear hEQ HX8
        go_wp2_with fail
        refine (known5_any u3).mono ?_
        rintro x u9 ⟨rfl, hB9⟩
        have hW9 : Below w.heap.size w u9 := (HU3.out.next hB9 (Nat.le_refl _)).bel
        go_wp2_with fail
        go_ret
        exact ⟨rfl, hW9⟩
    case true =>
      have hb8 := (opB_bounds hob).1
      go_wp2_with (refine wpList_load_op rfl _ rfl (w.heap.size + 1) k c s n p e t q b 42 (0, 0) ?_ ?_ ?_; rfl; exact HV3.out.op)
      refine (encodeOp_any k c s n p e t q b v3 ik ic is ip ie it iq (by omega)).mono ?_
      rintro x v4 ⟨vv, rfl, hO4, hB4⟩
      rw [hob] at hO4 ⊢
      simp only [if_true] at hO4 ⊢
      obtain ⟨B, HBB⟩ : ∃ B, Hid (encOp k c s n p e t q b = B) := ⟨_, rfl⟩
      rw [HBB.out] at hO4
      obtain ⟨ao, cap, rfl, -, hR4, -⟩ := hO4.form2
      have HV4 : Hid (BaW w m P ys (opC k c s n p e t q b) ma v4) := HV3.out.next hB4 (Nat.le_refl _)
      have hBB : ByteL B ∧ B.length < 1073741824 := by rw [← HBB.out]; exact ⟨encOp_bytes _ _ _ _ _ _ _ _ _, by have := encOp_lenB k c s n p e t q b hb8; omega⟩
      have HBY : Hid (ByteL B ∧ B.length < 1073741824) := hBB
      have HR4 : Hid (Rowed v4 ao B cap) := hR4
      obtain ⟨bl, HBL⟩ : ∃ bl, Hid (B.length = bl) := ⟨_, rfl⟩
      have HD : Hid (Calls Try.prog 19 #[.slice ao bl cap] v4 fun e w' => DecOp B e ∧ Below v4.heap.size v4 w') := by rw [← HBL.out]; exact dOp_str B ao cap v4 hR4 hBB.1 hBB.2
      rw [HBL.out]
      clear hO4 hB4 hR4 hBB HV3
      go_wp2_with fail
      refine HD.out.mono ?_
      rintro x v5 ⟨hd, hB5⟩
      obtain rfl := hd.back hob HBB.out
      have HV5 : Hid (BaW w m P ys (opC k c s n p e t q b) ma v5) := HV4.out.next hB5 (Nat.le_refl _)
      have HR5 : Hid (Rowed v5 ao B cap) := HR4.out.below hB5 (Nat.le_refl _)
      clear hd hB5 HD HV4 HR4
      go_upto_region 11 with (refine wpList_store_op rfl _ _ rfl v5.heap.size k c s n p e t q b (opC 0 0 0 eN 0 0 0 0 false) ?_ ?_ (alloc_blk _ _) ?_ ?_; rfl; rfl; rfl)
      rw [setRow_new]
      have HV6 : Hid (BaW w m P ys (opC k c s n p e t q b) ma (v5.alloc (.cells (opC k c s n p e t q b) 42))) := HV5.out.next (below_alloc _ _) (Nat.le_refl _)
      have HR6 : Hid (Rowed (v5.alloc (.cells (opC k c s n p e t q b) 42)) ao B cap) := HR5.out.below (below_alloc _ _) (Nat.le_refl _)
      have HX6 : Hid ((v5.alloc (.cells (opC k c s n p e t q b) 42)).heap[v5.heap.size]? = some (.cells (opC k c s n p e t q b) 42 (0, 0))) := alloc_blk _ _
      generalize v5.alloc (.cells (opC k c s n p e t q b) 42) = v6 at *
      obtain ⟨g6, hg6⟩ : ∃ g6, v5.heap.size = g6 := ⟨_, rfl⟩
      rw [hg6] at HX6
      simp only [hg6]
      clear hg6 HV5 HR5
      have HD2 : Hid (Calls Try.prog 23 #[.slice ao bl cap] v6 fun e w' => DecMark B e ∧ Below v6.heap.size v6 w') := by rw [← HBL.out]; exact dMark_str B ao cap v6 HR6.out HBY.out.1 HBY.out.2
      go_wp2_with fail
      refine HD2.out.mono ?_
      rintro x v7 ⟨hd, hB7⟩
      obtain rfl := hd.none (fun k1 p1 e1 t1 _ h => op_no_mark k c s n p e t q b k1 p1 e1 t1 (h.trans HBB.out.symm))
      have HV7 : Hid (BaW w m P ys (opC k c s n p e t q b) ma v7) := HV6.out.next hB7 (Nat.le_refl _)
      have HX7 : Hid (v7.heap[g6]? = some (.cells (opC k c s n p e t q b) 42 (0, 0))) := (hB7.block _ (lt_blk HX6.out)).trans HX6.out
      clear hd hB7 HD2 HV6 HX6 HR6
      go_upto_region 12 with (refine wpList_store_mark rfl _ _ rfl v7.heap.size (fun _ => 0) (fun _ => 0) ?_ ?_ (alloc_blk _ _) ?_; rfl; rfl)
      rw [setRow_zero]
      have HV8 : Hid (BaW w m P ys (opC k c s n p e t q b) ma (v7.alloc (.cells (markC (fun _ => 0)) 44))) := HV7.out.next (below_alloc _ _) (Nat.le_refl _)
      have HX8 : Hid ((v7.alloc (.cells (markC (fun _ => 0)) 44)).heap[g6]? = some (.cells (opC k c s n p e t q b) 42 (0, 0))) := alloc_blk_old HX7.out _
      generalize v7.alloc (.cells (markC (fun _ => 0)) 44) = v3 at *
      obtain ⟨g7, hg7⟩ : ∃ g7, v7.heap.size = g7 := ⟨_, rfl⟩
      simp only [hg7]
      clear hg7 HV7 HX7
      have HV3 : Hid (BaW w m P ys (opC k c s n p e t q b) ma v3) := HV8.out
      have hEQ := fun w => (equal_ops k c s n n p e t q p e t q b b w).trans (by rw [self_op])
      clear HBB HBY HBL HV8
      go_upto_region 14 with (first | (refine wpList_load_opG rfl rfl _ rfl g6 k c s n p e t q b 42 (0, 0) ?_ ?_ ?_; rfl; exact HX8.out) | (refine wpList_load_opG rfl rfl _ rfl (w.heap.size + 1) k c s n p e t q b 42 (0, 0) ?_ ?_ ?_; rfl; exact HV3.out.op))
      clear hEQ HX8
      go_wp2_with (refine wpList_load_mark rfl _ rfl (w.heap.size + 2) ma 44 (0, 0) ?_ ?_ ?_; rfl; exact HV3.out.mark)
      refine (HIS.out v3).mono ?_
      rintro x u3 ⟨rfl, hB3⟩
      have HU3 : Hid (BaW w m P ys (opC k c s n p e t q b) ma u3) := HV3.out.next hB3 (Nat.le_refl _)
      clear hB3 HV3
      cases hkb : markB (ma 0) (ma 1) (ma 2) (ma 3)
      case false =>
        go_wp2_with fail
        refine (known5_any u3).mono ?_
        rintro x u9 ⟨rfl, hB9⟩
        have hW9 : Below w.heap.size w u9 := (HU3.out.next hB9 (Nat.le_refl _)).bel
        go_wp2_with fail
        go_ret
        exact ⟨rfl, hW9⟩
      case true =>
        go_wp2_with (refine wpList_load_mark rfl _ rfl (w.heap.size + 2) ma 44 (0, 0) ?_ ?_ ?_; rfl; exact HU3.out.mark)
        refine (encodeMark_any (ma 0) (ma 1) (ma 2) (ma 3) u3 HMI.out.1 HMI.out.2.1 HMI.out.2.2.1 HMI.out.2.2.2).mono ?_
        rintro x u4 ⟨vv, rfl, hO4, hB4⟩
        rw [hkb] at hO4 ⊢
        simp only [if_true] at hO4 ⊢
        obtain ⟨B, HBB⟩ : ∃ B, Hid (encMark (ma 0) (ma 1) (ma 2) (ma 3) = B) := ⟨_, rfl⟩
        rw [HBB.out] at hO4
        obtain ⟨ao, cap, rfl, -, hR4, -⟩ := hO4.form2
        have HU4 : Hid (BaW w m P ys (opC k c s n p e t q b) ma u4) := HU3.out.next hB4 (Nat.le_refl _)
        have hBB : ByteL B ∧ B.length < 1073741824 := by rw [← HBB.out]; exact ⟨nums_bytes _, by have := encMark_lenB (ma 0) (ma 1) (ma 2) (ma 3); omega⟩
        have HBY : Hid (ByteL B ∧ B.length < 1073741824) := hBB
        have HR4 : Hid (Rowed u4 ao B cap) := hR4
        obtain ⟨bl, HBL⟩ : ∃ bl, Hid (B.length = bl) := ⟨_, rfl⟩
        have HD : Hid (Calls Try.prog 23 #[.slice ao bl cap] u4 fun e w' => DecMark B e ∧ Below u4.heap.size u4 w') := by rw [← HBL.out]; exact dMark_str B ao cap u4 hR4 hBB.1 hBB.2
        rw [HBL.out]
        clear hO4 hB4 hR4 hBB HU3
        go_wp2_with fail
        refine HD.out.mono ?_
        rintro x u5 ⟨hd, hB5⟩
        obtain rfl := hd.back hkb HBB.out
        have HU5 : Hid (BaW w m P ys (opC k c s n p e t q b) ma u5) := HU4.out.next hB5 (Nat.le_refl _)
        have HR5 : Hid (Rowed u5 ao B cap) := HR4.out.below hB5 (Nat.le_refl _)
        clear hd hB5 HD HU4 HR4
        go_upto_region 17 with (refine wpList_store_mark rfl _ _ rfl u5.heap.size ma (fun _ => 0) ?_ ?_ (alloc_blk _ _) ?_; rfl; rfl)
        rw [setRow_zero]
        have HU6 : Hid (BaW w m P ys (opC k c s n p e t q b) ma (u5.alloc (.cells (markC ma) 44))) := HU5.out.next (below_alloc _ _) (Nat.le_refl _)
        have HR6 : Hid (Rowed (u5.alloc (.cells (markC ma) 44)) ao B cap) := HR5.out.below (below_alloc _ _) (Nat.le_refl _)
        have HX6 : Hid ((u5.alloc (.cells (markC ma) 44)).heap[u5.heap.size]? = some (.cells (markC ma) 44 (0, 0))) := alloc_blk _ _
        generalize u5.alloc (.cells (markC ma) 44) = u6 at *
        obtain ⟨g6, hg6⟩ : ∃ g6, u5.heap.size = g6 := ⟨_, rfl⟩
        rw [hg6] at HX6
        simp only [hg6]
        clear hg6 HU5 HR5
        have HD2 : Hid (Calls Try.prog 19 #[.slice ao bl cap] u6 fun e w' => DecOp B e ∧ Below u6.heap.size u6 w') := by rw [← HBL.out]; exact dOp_str B ao cap u6 HR6.out HBY.out.1 HBY.out.2
        go_wp2_with fail
        refine HD2.out.mono ?_
        rintro x u7 ⟨hd, hB7⟩
        obtain rfl := hd.none (fun k1 c1 s1 n1 p1 e1 t1 q1 b1 _ h => op_no_mark k1 c1 s1 n1 p1 e1 t1 q1 b1 (ma 0) (ma 1) (ma 2) (ma 3) (HBB.out.trans h.symm))
        have HU7 : Hid (BaW w m P ys (opC k c s n p e t q b) ma u7) := HU6.out.next hB7 (Nat.le_refl _)
        have HX7 : Hid (u7.heap[g6]? = some (.cells (markC ma) 44 (0, 0))) := (hB7.block _ (lt_blk HX6.out)).trans HX6.out
        clear hd hB7 HD2 HU6 HX6 HR6
        go_upto_region 18 with (refine wpList_store_op rfl _ _ rfl u7.heap.size 0 0 0 eN 0 0 0 0 false (opC 0 0 0 eN 0 0 0 0 false) ?_ ?_ (alloc_blk _ _) ?_ ?_; rfl; rfl; rfl)
        rw [setRow_new]
        have HU8 : Hid (BaW w m P ys (opC k c s n p e t q b) ma (u7.alloc (.cells (opC 0 0 0 eN 0 0 0 0 false) 42))) := HU7.out.next (below_alloc _ _) (Nat.le_refl _)
        have HX8 : Hid ((u7.alloc (.cells (opC 0 0 0 eN 0 0 0 0 false) 42)).heap[g6]? = some (.cells (markC ma) 44 (0, 0))) := alloc_blk_old HX7.out _
        generalize u7.alloc (.cells (opC 0 0 0 eN 0 0 0 0 false) 42) = u3 at *
        obtain ⟨g7, hg7⟩ : ∃ g7, u7.heap.size = g7 := ⟨_, rfl⟩
        simp only [hg7]
        clear hg7 HU7 HX7
        have HU3 : Hid (BaW w m P ys (opC k c s n p e t q b) ma u3) := HU8.out
        have hEQ := fun w => (equal_marks ma ma w).trans (by rw [self_mark])
        clear HBB HBY HBL HU8
        go_upto_region 20 with (first | (refine wpList_load_markG rfl rfl _ rfl g6 ma 44 (0, 0) ?_ ?_ ?_; rfl; exact HX8.out) | (refine wpList_load_markG rfl rfl _ rfl (w.heap.size + 2) ma 44 (0, 0) ?_ ?_ ?_; rfl; exact HU3.out.mark))
        clear hEQ HX8
        go_wp2_with fail
        refine (known5_any u3).mono ?_
        rintro x u9 ⟨rfl, hB9⟩
        have hW9 : Below w.heap.size w u9 := (HU3.out.next hB9 (Nat.le_refl _)).bel
        go_wp2_with fail
        go_ret
        exact ⟨rfl, hW9⟩
end Go.Proofs.Ytkjocpadmlobgaa
