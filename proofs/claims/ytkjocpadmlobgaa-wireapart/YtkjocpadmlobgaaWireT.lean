/- WireApart's pure side: unlike bodies are unlike texts. Laws for guarded loads. -/
import Derived.Test.YtkjocpadmlobgaaWireS
import Derived.Deep.CutRange
namespace Go.Oct
def ByteL (L : List Int) : Prop := ∀ x ∈ L, 0 ≤ x ∧ x < 256
theorem ByteL.append {a b : List Int} (h : ByteL a) (k : ByteL b) : ByteL (a ++ b) := fun x hx => (List.mem_append.1 hx).elim (h x) (k x)
theorem numA_bytes : ∀ f n, n < 128 ^ (f + 1) → ByteL (numA f n)
  | 0, n, h => fun x hx => by
    simp [numA] at hx
    simp at h
    omega
  | f + 1, n, h => fun x hx => by
    unfold numA at hx
    split at hx
    · simp at hx; omega
    · rcases List.mem_cons.1 hx with rfl | hx
      · omega
      · exact numA_bytes f _ (Nat.div_lt_of_lt_mul (by rw [Nat.mul_comm, ← Nat.pow_succ]; exact h)) x hx
theorem num_bytes (z : Int) : ByteL (num z) := numA_bytes 8 _ (cutN_lt z)
theorem nums_bytes (l : List Int) : ByteL (nums l) := fun x hx => by
  obtain ⟨z, _, hz⟩ := List.mem_flatMap.1 hx
  exact num_bytes z x hz
end Go.Oct
namespace Go.Proofs.Ytkjocpadmlobgaa
open Go.RowKit Go.Dig Go.Inv Go.Oct

theorem ofF_bytes {n : Nat} {f : Nat → Int} (h : ∀ j, j < n → 0 ≤ f j ∧ f j < 256) : ByteL (ofF n f) := fun x hx => by
  obtain ⟨j, hj, rfl⟩ := List.mem_map.1 hx
  exact h j (by simpa using hj)
theorem sealedL_bytes {y : VoteR} (h : VBytes y) : ByteL (sealedL y) := ((nums_bytes _).append (ofF_bytes fun j hj => (h j hj).1)).append (num_bytes _)
theorem voteL_bytes {y : VoteR} (h : VBytes y) : ByteL (voteL y) := (sealedL_bytes h).append (ofF_bytes fun j hj => (h j hj).2)
theorem vbody_bytes {y : VoteR} (h : VBytes y) : ByteL (vbody y) := (num_bytes _).append (sealedL_bytes h)
theorem flat_bytes {ys : List VoteR} (h : ∀ y ∈ ys, VBytes y) : ByteL (ys.flatMap voteL) := fun x hx => by
  obtain ⟨y, hy, hx⟩ := List.mem_flatMap.1 hx
  exact voteL_bytes (h y hy) x hx
theorem bodyL_bytes {m : MsgR} {P : List Int} {ys : List VoteR} (hP : ByteL P) (h : ∀ y ∈ ys, VBytes y) : ByteL (bodyL m P ys) := ((((nums_bytes _).append (num_bytes _)).append hP).append (num_bytes _)).append (flat_bytes h)
theorem strOf_beq {A B : List Int} (hA : ByteL A) (hB : ByteL B) : (strOf A == strOf B) = decide (A = B) := by
  by_cases h : A = B
  · subst h
    rw [decide_eq_true rfl, beq_toListBytes]; simp
  · rw [decide_eq_false h]
    cases he : (strOf A == strOf B) with
    | false => rfl
    | true => exact absurd (strOf_inj hA hB (ByteArray.ext (eq_of_beq (show ((strOf A).data == (strOf B).data) = true from he)))) h
theorem sameMsg_body {m n : MsgR} {P Q : List Int} {ys zs : List VoteR} (hm : MsgOk m P ys) (hn : MsgOk n Q zs) : sameMsgB m { n with t := m.t, tag := m.tag } P Q ys zs = decide (bodyL m P ys = bodyL n Q zs) := by
  rw [Bool.eq_iff_iff, decide_eq_true_eq]
  simp only [sameMsgB, Bool.and_eq_true, decide_eq_true_eq, votesEqB_iff]
  constructor
  · rintro ⟨⟨⟨⟨⟨⟨⟨h1, h2⟩, -⟩, h3⟩, h4⟩, rfl⟩, h5⟩, -⟩
    exact bodyL_same h1 h2 h3 h4 h5
  · intro h
    obtain ⟨h1, h2, h3, h4, h5, h6⟩ := bodyL_inj hm hn h
    exact ⟨⟨⟨⟨⟨⟨⟨h1, h2⟩, trivial⟩, h3⟩, h4⟩, h5⟩, h6⟩, rowEq_self _ _⟩
theorem voteEq_body {v u : VoteR} (hv : VoteOk v) (hu : VoteOk u) (ht : u.tag = v.tag) : voteEqB v u = decide (vbody v = vbody u) := by
  rw [Bool.eq_iff_iff, decide_eq_true_eq, voteEqB_iff]
  constructor
  · rintro ⟨h1, h2, h3, h4, h5, -⟩
    unfold vbody sealedL
    rw [h1, h2, h3, h5, ofF_same h4]
  · intro h
    unfold vbody at h
    have h' := List.append_cancel_left h
    rw [← List.append_nil (sealedL v), ← List.append_nil (sealedL u)] at h'
    obtain ⟨h1, h2, h3, h4, h5, -⟩ := sealedL_inj hv hu h'
    exact ⟨h1, h2, h3, h4, h5, fun j _ => by rw [ht]⟩
section
variable {ops : Array Oper} {rest : List Oper} {o : Oper} {a : Act} {w : World} {Q : Exit → Act → World → Prop}
theorem wpList_load_msgG {j : Nat} {c : Bool} (hgd : o.guard = some (j, c)) (hy : yielded ops a.tmps j = some c) (x : Operand) (ho : o.op = .load 27 x) (g : Nat) (m : MsgR) (t : TypeId) (fr : Nat × Nat) (hx : a.eval x = .pointer (some ⟨g, 0, none⟩)) (hg : w.heap[g]? = some (.cells m.cells t fr)) (h : wpList Try.prog ops Q rest (a.put o.dst (.agg m.cells)) w) : wpList Try.prog ops Q (o :: rest) a w :=
  wpList_step fun _ hK => by
    rw [if_pos (by simp [Region.wanted, hgd, hy])]
    exact wp_load_msg x ho g m t fr hx hg (hK _ _ h)
theorem wpList_load_voteG {j : Nat} {c : Bool} (hgd : o.guard = some (j, c)) (hy : yielded ops a.tmps j = some c) (x : Operand) (ho : o.op = .load 62 x) (g : Nat) (m : VoteR) (t : TypeId) (fr : Nat × Nat) (hx : a.eval x = .pointer (some ⟨g, 0, none⟩)) (hg : w.heap[g]? = some (.cells m.cells t fr)) (h : wpList Try.prog ops Q rest (a.put o.dst (.agg m.cells)) w) : wpList Try.prog ops Q (o :: rest) a w :=
  wpList_step fun _ hK => by
    rw [if_pos (by simp [Region.wanted, hgd, hy])]
    exact wp_load_voteB x ho g m t fr hx hg (hK _ _ h)
theorem wpList_alloc_msg (hgd : o.guard = none) (ho : o.op = .alloc 27) (h : wpList Try.prog ops Q rest (a.put o.dst (.pointer (some ⟨w.heap.size, 0, none⟩))) (w.alloc (.cells MsgR.zero.cells 27))) : wpList Try.prog ops Q (o :: rest) a w := wpList_alloc_row hgd 27 ho _ zero_msg h
theorem wpList_store_msg (hgd : o.guard = none) (x y : Operand) (ho : o.op = .store 27 x y) (w0 : World) (z : MsgR) (hx : a.eval x = .pointer (some ⟨w0.heap.size, 0, none⟩)) (hy : a.eval y = .agg z.cells) (hw : w = w0.alloc (.cells MsgR.zero.cells 27))
    (h : wpList Try.prog ops Q rest (a.put o.dst undef) (w0.alloc (.cells z.cells 27))) : wpList Try.prog ops Q (o :: rest) a w := by
  subst hw
  refine wpList_store_blk hgd 27 x y ho w0.heap.size z.cells hx hy 27 _ (alloc_blk _ _) (msg_info z) (by rw [MsgR.size, MsgR.size]) z.all ?_
  rw [setRow_new]; exact h
theorem wpList_load_hashN (hgd : o.guard = none) (x : Operand) (ho : o.op = .load 25 x) (b off : Nat) (hx : a.eval x = .pointer (some ⟨b, off, none⟩)) (f : Nat → Int) (hc : HashAt w b off f) (h : wpList Try.prog ops Q rest (a.put o.dst (.agg (row .u8 32 f))) w) : wpList Try.prog ops Q (o :: rest) a w :=
  wpList_plain hgd fun _ hK => wp_load_hash x ho b off hx f hc (hK _ _ h)
theorem wpList_store_tagV (hgd : o.guard = none) (x y : Operand) (ho : o.op = .store 25 x y) (g : Nat) (f : Nat → Int) (m : VoteR) (hx : a.eval x = .pointer (some ⟨g, 36, none⟩)) (hy : a.eval y = .agg (row .u8 32 f)) (t : TypeId) (hg : w.heap[g]? = some (.cells m.cells t (0, 0)))
    (h : ∀ w', w'.heap[g]? = some (.cells ({ m with tag := f } : VoteR).cells t (0, 0)) → Keeps g w w' → wpList Try.prog ops Q rest (a.put o.dst undef) w') : wpList Try.prog ops Q (o :: rest) a w :=
  wpList_plain hgd fun _ hK => wp_store_tagV x y ho g f m hx hy t hg (fun w' h1 h2 => hK _ _ (h w' h1 h2))
end
/-- whom it goes to and the tag are written, in whatever order -/
structure Wri2 (w0 : World) (B g : Nat) (m : MsgR) (tn : Int) (tag : Nat → Int) (val : Nat → Option Value) (li : Nat → Bool) (xs : Nat → Value) (W : World) : Prop where
  bel : Below B w0 W
  keep : ∀ k, k < w0.heap.size → k ≠ g → W.heap[k]? = w0.heap[k]?
  size : w0.heap.size ≤ W.heap.size
  det : ∀ i u, li i = true → val i = some u → xs i = u
  m : W.heap[g]? = some (.cells ({ m with t := if li 5 = true then tn else m.t, tag := if li 7 = true then tag else m.tag } : MsgR).cells 27 (0, 0))
  lo : B ≤ g ∧ B ≤ w0.heap.size
section
variable {w0 : World} {B g : Nat} {m : MsgR} {tn : Int} {tag : Nat → Int} {val : Nat → Option Value} {li : Nat → Bool} {xs : Nat → Value} {W W' : World}
theorem Wri2.detStep (h : Wri2 w0 B g m tn tag val li xs W) (i : Nat) (x : Value) (hf : ∀ u, val i = some u → x = u) : ∀ j u, upd li i true j = true → val j = some u → upd xs i x j = u := fun j u hl hu => by
  by_cases hji : j = i
  · subst hji; rw [upd_same]; exact hf u hu
  · rw [upd_other _ _ hji] at hl ⊢; exact h.det j u hl hu
theorem Wri2.pure (h : Wri2 w0 B g m tn tag val li xs W) {i : Nat} (x : Value) (hi : 5 ≠ i ∧ 7 ≠ i) (hv : val i = some x) : Wri2 w0 B g m tn tag val (upd li i true) (upd xs i x) W :=
  ⟨h.bel, h.keep, h.size, h.detStep i x (fun u hu => by rw [hv] at hu; injection hu), by rw [upd_other _ _ hi.1, upd_other _ _ hi.2]; exact h.m, h.lo⟩
theorem Wri2.put (h : Wri2 w0 B g m tn tag val li xs W) {i : Nat} (x : Value) (hv : val i = none) (hk : Keeps g W W')
    (hm : W'.heap[g]? = some (.cells ({ m with t := if upd li i true 5 = true then tn else m.t, tag := if upd li i true 7 = true then tag else m.tag } : MsgR).cells 27 (0, 0))) : Wri2 w0 B g m tn tag val (upd li i true) (upd xs i x) W' :=
  ⟨h.bel.trans (hk.below h.lo.1 (Nat.le_trans h.lo.2 h.size)), fun k h1 h2 => (hk.block k (Nat.lt_of_lt_of_le h1 h.size) h2).trans (h.keep k h1 h2), Nat.le_trans h.size hk.size, h.detStep i x (fun u hu => by rw [hv] at hu; cases hu), hm, h.lo⟩
end
end Go.Proofs.Ytkjocpadmlobgaa
