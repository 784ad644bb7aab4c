/- What was encoded of a message is decoded as it was. No condition. -/
import Derived.Test.YtkjocpadmlobgaaWireDg
import Derived.Test.YtkjocpadmlobgaaWireS
namespace Go.Proofs.Ytkjocpadmlobgaa
open Go.RowKit Go.Dig Go.Inv Go.Oct
set_option linter.unusedVariables false

theorem encMsg_inj {m n : MsgR} {P Q : List Int} {ys zs : List VoteR} (hm : MsgOk m P ys) (hn : MsgOk n Q zs) (h : encMsg m P ys = encMsg n Q zs) : m.k = n.k ∧ m.f = n.f ∧ m.t = n.t ∧ m.s = n.s ∧ m.v = n.v ∧ P = Q ∧ VotesEq ys zs ∧ ∀ j, j < 32 → m.tag j = n.tag j := by
  rw [← List.append_nil (encMsg m P ys), ← List.append_nil (encMsg n Q zs)] at h
  unfold encMsg at h
  simp only [List.append_assoc] at h
  obtain ⟨h1, h2⟩ := nums_inj [1, m.k, m.f, m.t, m.s, m.v] [1, n.k, n.f, n.t, n.s, n.v] _ _ rfl (numOk_cons ⟨by decide, by decide⟩ (numOk_cons hm.k (numOk_cons hm.f (numOk_cons hm.t (numOk_cons hm.s (numOk_cons hm.v numOk_nil)))))) (numOk_cons ⟨by decide, by decide⟩ (numOk_cons hn.k (numOk_cons hn.f (numOk_cons hn.t (numOk_cons hn.s (numOk_cons hn.v numOk_nil)))))) h
  simp only [List.cons.injEq, and_true, true_and] at h1
  have := hm.vb; have := hn.vb; have := hm.yb; have := hn.yb
  obtain ⟨h3, h4⟩ := num_inj (num_len (by omega)) (num_len (by omega)) h2
  obtain ⟨rfl, h5⟩ := List.append_inj h4 (by omega)
  obtain ⟨h6, h7⟩ := num_inj (num_len (by omega)) (num_len (by omega)) h5
  obtain ⟨h8, h9⟩ := flat_inj ys zs _ _ (by omega) hm.ys hn.ys h7
  exact ⟨h1.1, h1.2.1, h1.2.2.1, h1.2.2.2.1, h1.2.2.2.2, rfl, h8, (ofF_inj h9).1⟩
theorem encMsg_len (m : MsgR) (P : List Int) (ys : List VoteR) (h1 : P.length ≤ 500) (h2 : ys.length ≤ 20) : (encMsg m P ys).length ≤ 5000 := by
  have hf : ∀ l : List VoteR, (l.flatMap voteL).length ≤ 100 * l.length := fun l => by
    induction l with
    | nil => simp
    | cons y t ih => rw [List.flatMap_cons, List.length_append, List.length_cons]; have := voteL_length y; omega
  unfold encMsg
  have a1 := nums_length [1, m.k, m.f, m.t, m.s, m.v]
  have a2 := num_length P.length
  have a3 := num_length ys.length
  have a4 := hf ys
  simp only [List.length_append, ofF_length, List.length_cons, List.length_nil] at *
  omega
theorem MsgIn.below {w w' : World} {B : Nat} {m : MsgR} {P : List Int} {ys : List VoteR} (h : MsgIn w m P ys) (hB : Below B w w') (hl : w.heap.size ≤ B) : MsgIn w' m P ys := { h with val := h.val.below hB hl, vot := h.vot.below hB hl }
theorem MsgGot.in_ {w : World} {b0 : Nat} {m : MsgR} {P : List Int} {ys : List VoteR} (h : MsgGot w b0 m P ys) : MsgIn w m P ys := ⟨h.at_.vl, h.at_.val, h.at_.yl, h.at_.vot, h.at_.wf, h.at_.ywf, h.pb, h.yb, fun j _ => h.tb j⟩
/-- what was encoded is decoded -/
theorem DecMsg.back {B : List Int} {b0 : Nat} {e : Ending} {w : World} {m : MsgR} {P : List Int} {ys : List VoteR} (h : DecMsg B b0 e w) (hE : MsgEnc m P ys B) : ∃ (m2 : MsgR) (P2 : List Int) (ys2 : List VoteR), e = .returned (.tuple #[.agg m2.cells, .int .i64 0]) ∧ MsgGot w b0 m2 P2 ys2 ∧ sameMsgB m m2 P P2 ys ys2 = true := by
  obtain ⟨m2, f, he, hd⟩ := h
  rcases hd with ⟨rfl, P2, ys2, hg, hE2⟩ | ⟨-, -, hn⟩
  · refine ⟨m2, P2, ys2, he, hg, ?_⟩
    obtain ⟨e1, e2, e3, e4, e5, e6, e7, e8⟩ := encMsg_inj (msgB_ok hE.2.2.1 hE.1 hE.2.1) (msgB_ok hE2.2.2.1 hE2.1 hE2.2.1) (hE.2.2.2.trans hE2.2.2.2.symm)
    have h7 := votesEqB_iff.2 e7
    have h8 := rowEq_iff.2 e8
    simp only [sameMsgB, e1, e2, e3, e4, e5, e6, h7, h8, decide_true, Bool.and_self]
  · exact absurd hE (hn _ _ _)
theorem wpList_load_msgGP {ops : Array Oper} {rest : List Oper} {o : Oper} {a : Act} {w : World} {Q : Exit → Act → World → Prop} {j : Nat} {c : Bool} (hgd : o.guard = some (j, c)) (hy : yielded ops a.tmps j = some c) (x : Operand) (ho : o.op = .load 27 x) (g : Nat) (m : MsgR) (t : TypeId) (fr : Nat × Nat) (hx : a.eval x = .pointer (some ⟨g, 0, none⟩)) (hg : w.heap[g]? = some (.cells m.cells t fr)) (h : wpList Try.prog ops Q rest (a.put o.dst (.agg m.cells)) w) : wpList Try.prog ops Q (o :: rest) a w :=
  wpList_step fun _ hK => by
    rw [if_pos (by simp [Region.wanted, hgd, hy])]
    exact wp_load_msg x ho g m t fr hx hg (hK _ _ h)
theorem sameMsgB_comm {m n : MsgR} {P Q : List Int} {ys zs : List VoteR} (h : sameMsgB m n P Q ys zs = true) : sameMsgB n m Q P zs ys = true := by
  simp only [sameMsgB, Bool.and_eq_true, decide_eq_true_eq] at h ⊢
  obtain ⟨⟨⟨⟨⟨⟨⟨e1, e2⟩, e3⟩, e4⟩, e5⟩, e6⟩, e7⟩, e8⟩ := h
  refine ⟨⟨⟨⟨⟨⟨⟨e1.symm, e2.symm⟩, e3.symm⟩, e4.symm⟩, e5.symm⟩, e6.symm⟩, ?_⟩, by rw [rowEq_comm]; exact e8⟩
  have key : ∀ (l k : List VoteR), VotesEq l k → VotesEq k l := by
    intro l
    induction l with
    | nil => intro k h; cases k with | nil => trivial | cons => exact h.elim
    | cons x l ih =>
      intro k h
      cases k with
      | nil => exact h.elim
      | cons y k =>
        obtain ⟨⟨a1, a2, a3, a4, a5, a6⟩, ht⟩ := h
        exact ⟨⟨a1.symm, a2.symm, a3.symm, fun j hj => (a4 j hj).symm, a5.symm, fun j hj => (a6 j hj).symm⟩, ih k ht⟩
  exact votesEqB_iff.2 (key _ _ (votesEqB_iff.1 e7))
theorem sameMsgB_val {m n : MsgR} {P Q : List Int} {ys zs : List VoteR} (h : sameMsgB m n P Q ys zs = true) : P = Q := by
  simp only [sameMsgB, Bool.and_eq_true, decide_eq_true_eq] at h
  exact h.1.1.2
end Go.Proofs.Ytkjocpadmlobgaa
