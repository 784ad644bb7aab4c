/- Bytes tell what was laid: numbers, rows of bytes, votes, bodies of messages. -/
import Derived.Test.YtkjocpadmlobgaaWireV
namespace Go.Oct

theorem numA_inj : ∀ f n m R S, n < 128 ^ (f + 1) → m < 128 ^ (f + 1) → numA f n ++ R = numA f m ++ S → n = m ∧ R = S
  | 0, n, m, R, S, _, _, h => by
    simp [numA] at h
    exact ⟨by omega, h.2⟩
  | f + 1, n, m, R, S, hn, hm, h => by
    unfold numA at h
    have hn' : n / 128 < 128 ^ (f + 1) := Nat.div_lt_of_lt_mul (by rw [Nat.mul_comm, ← Nat.pow_succ]; exact hn)
    have hm' : m / 128 < 128 ^ (f + 1) := Nat.div_lt_of_lt_mul (by rw [Nat.mul_comm, ← Nat.pow_succ]; exact hm)
    split at h <;> split at h
    · simp at h; exact ⟨by omega, h.2⟩
    · simp at h; omega
    · simp at h; omega
    · simp only [List.cons_append, List.cons.injEq] at h
      obtain ⟨h1, h2⟩ := numA_inj f _ _ R S hn' hm' h.2
      exact ⟨by omega, h2⟩
theorem cutN_lt (z : Int) : cutN z < 128 ^ (8 + 1) := Nat.lt_of_le_of_lt (cutN_le z) (by decide)
theorem cutN_same {y z : Int} (hy : 0 ≤ y) (hy' : y ≤ 4611686018427387904) (hz : 0 ≤ z) (hz' : z ≤ 4611686018427387904) (h : cutN y = cutN z) : y = z := by unfold cutN at h; omega
/-- numbers from 0 to 2^62 -/
def NumOk (z : Int) : Prop := 0 ≤ z ∧ z ≤ 4611686018427387904
theorem numOk_nil : ∀ z ∈ ([] : List Int), NumOk z := fun z h => by cases h
theorem numOk_cons {x : Int} {l : List Int} (h : NumOk x) (t : ∀ z ∈ l, NumOk z) : ∀ z ∈ x :: l, NumOk z := fun z hz => by
  rcases List.mem_cons.1 hz with rfl | hz
  · exact h
  · exact t z hz
theorem num_inj {y z : Int} {R S : List Int} (hy : NumOk y) (hz : NumOk z) (h : num y ++ R = num z ++ S) : y = z ∧ R = S := by
  obtain ⟨h1, h2⟩ := numA_inj 8 _ _ R S (cutN_lt y) (cutN_lt z) h
  exact ⟨cutN_same hy.1 hy.2 hz.1 hz.2 h1, h2⟩
theorem nums_inj : ∀ (l k : List Int) (R S : List Int), l.length = k.length → (∀ z ∈ l, NumOk z) → (∀ z ∈ k, NumOk z) → nums l ++ R = nums k ++ S → l = k ∧ R = S
  | [], [], R, S, _, _, _, h => ⟨rfl, by simpa [nums] using h⟩
  | [], _ :: _, _, _, h, _, _, _ => by simp at h
  | _ :: _, [], _, _, h, _, _, _ => by simp at h
  | x :: l, y :: k, R, S, hl, h1, h2, h => by
    rw [nums_cons, nums_cons, List.append_assoc, List.append_assoc] at h
    obtain ⟨rfl, h'⟩ := num_inj (h1 x (by simp)) (h2 y (by simp)) h
    obtain ⟨rfl, h''⟩ := nums_inj l k R S (by simpa using hl) (fun z hz => h1 z (by simp [hz])) (fun z hz => h2 z (by simp [hz])) h'
    exact ⟨rfl, h''⟩
end Go.Oct
namespace Go.Proofs.Ytkjocpadmlobgaa
open Go.RowKit Go.Dig Go.Inv Go.Oct

theorem ofF_inj {n : Nat} {f g : Nat → Int} {R S : List Int} (h : ofF n f ++ R = ofF n g ++ S) : (∀ j, j < n → f j = g j) ∧ R = S := by
  obtain ⟨h1, h2⟩ := List.append_inj h (by rw [ofF_length, ofF_length])
  refine ⟨fun j hj => ?_, h2⟩
  have h3 : (ofF n f).getD j 0 = (ofF n g).getD j 0 := by rw [h1]
  rwa [ofF_getD hj, ofF_getD hj] at h3
theorem ofF_same {n : Nat} {f g : Nat → Int} (h : ∀ j, j < n → f j = g j) : ofF n f = ofF n g := List.map_congr_left fun j hj => h j (by simpa using hj)
/-- a vote that may be -/
def VoteOk (x : VoteR) : Prop := NumOk x.k ∧ NumOk x.s ∧ NumOk x.v ∧ NumOk x.f
/-- two votes are one -/
def VoteEq (x y : VoteR) : Prop := x.k = y.k ∧ x.s = y.s ∧ x.v = y.v ∧ (∀ j, j < 32 → x.sum j = y.sum j) ∧ x.f = y.f ∧ ∀ j, j < 32 → x.tag j = y.tag j
theorem sealedL_inj {x y : VoteR} {R S : List Int} (hx : VoteOk x) (hy : VoteOk y) (h : sealedL x ++ R = sealedL y ++ S) : x.k = y.k ∧ x.s = y.s ∧ x.v = y.v ∧ (∀ j, j < 32 → x.sum j = y.sum j) ∧ x.f = y.f ∧ R = S := by
  unfold sealedL at h
  simp only [List.append_assoc] at h
  obtain ⟨h1, h2⟩ := nums_inj [x.k, x.s, x.v] [y.k, y.s, y.v] _ _ rfl (numOk_cons hx.1 (numOk_cons hx.2.1 (numOk_cons hx.2.2.1 numOk_nil))) (numOk_cons hy.1 (numOk_cons hy.2.1 (numOk_cons hy.2.2.1 numOk_nil))) h
  simp only [List.cons.injEq, and_true] at h1
  obtain ⟨h3, h4⟩ := ofF_inj h2
  obtain ⟨h5, h6⟩ := num_inj hx.2.2.2 hy.2.2.2 h4
  exact ⟨h1.1, h1.2.1, h1.2.2, h3, h5, h6⟩
theorem voteL_inj {x y : VoteR} {R S : List Int} (hx : VoteOk x) (hy : VoteOk y) (h : voteL x ++ R = voteL y ++ S) : VoteEq x y ∧ R = S := by
  unfold voteL at h
  simp only [List.append_assoc] at h
  obtain ⟨h1, h2, h3, h4, h5, h6⟩ := sealedL_inj hx hy h
  obtain ⟨h7, h8⟩ := ofF_inj h6
  exact ⟨⟨h1, h2, h3, h4, h5, h7⟩, h8⟩
theorem voteL_same {x y : VoteR} (h : VoteEq x y) : voteL x = voteL y := by
  obtain ⟨h1, h2, h3, h4, h5, h6⟩ := h
  unfold voteL sealedL
  rw [h1, h2, h3, h5, ofF_same h4, ofF_same h6]
/-- two rows of votes are one -/
def VotesEq : List VoteR → List VoteR → Prop
  | [], [] => True
  | x :: l, y :: k => VoteEq x y ∧ VotesEq l k
  | _, _ => False
theorem flat_inj : ∀ (l k : List VoteR) (R S : List Int), l.length = k.length → (∀ x ∈ l, VoteOk x) → (∀ x ∈ k, VoteOk x) → l.flatMap voteL ++ R = k.flatMap voteL ++ S → VotesEq l k ∧ R = S
  | [], [], R, S, _, _, _, h => ⟨trivial, by simpa using h⟩
  | [], _ :: _, _, _, h, _, _, _ => by simp at h
  | _ :: _, [], _, _, h, _, _, _ => by simp at h
  | x :: l, y :: k, R, S, hl, h1, h2, h => by
    rw [List.flatMap_cons, List.flatMap_cons, List.append_assoc, List.append_assoc] at h
    obtain ⟨ha, h'⟩ := voteL_inj (h1 x (by simp)) (h2 y (by simp)) h
    obtain ⟨hb, h''⟩ := flat_inj l k R S (by simpa using hl) (fun z hz => h1 z (by simp [hz])) (fun z hz => h2 z (by simp [hz])) h'
    exact ⟨⟨ha, hb⟩, h''⟩
theorem flat_same : ∀ (l k : List VoteR), VotesEq l k → l.flatMap voteL = k.flatMap voteL ∧ l.length = k.length
  | [], [], _ => ⟨rfl, rfl⟩
  | [], _ :: _, h => h.elim
  | _ :: _, [], h => h.elim
  | x :: l, y :: k, h => by
    obtain ⟨h1, h2⟩ := flat_same l k h.2
    exact ⟨by rw [List.flatMap_cons, List.flatMap_cons, voteL_same h.1, h1], by simp [h2]⟩
theorem inB_num {n a b : Int} (h : inB n a b = true) (ha : 0 ≤ a) (hb : b ≤ 1000000000) : NumOk n := by
  have := inB_iff.1 h
  unfold NumOk
  omega
theorem voteB_ok {x : VoteR} (h : voteB x = true) : VoteOk x := by
  simp only [voteB, roundB, Bool.and_eq_true] at h
  exact ⟨inB_num h.1.1 (by decide) (by decide), inB_num h.1.2.1 (by decide) (by decide), inB_num h.1.2.2 (by decide) (by decide), inB_num h.2 (by decide) (by decide)⟩
structure MsgOk (m : MsgR) (P : List Int) (ys : List VoteR) : Prop where
  k : NumOk m.k
  f : NumOk m.f
  t : NumOk m.t
  s : NumOk m.s
  v : NumOk m.v
  vb : P.length ≤ 200
  yb : ys.length ≤ 10
  ys : ∀ y ∈ ys, VoteOk y
theorem msgB_ok {m : MsgR} {P : List Int} {ys : List VoteR} (h : msgB m ys = true) (hv : m.vl = P.length) (hy : m.yl = ys.length) : MsgOk m P ys := by
  simp only [msgB, roundB, Bool.and_eq_true, decide_eq_true_eq, List.all_eq_true] at h
  obtain ⟨⟨⟨⟨⟨⟨h1, h2⟩, h3⟩, h4, h5⟩, h6⟩, h7⟩, h8⟩ := h
  exact ⟨inB_num h1 (by decide) (by decide), inB_num h2 (by decide) (by decide), inB_num h3 (by decide) (by decide), inB_num h4 (by decide) (by decide), inB_num h5 (by decide) (by decide), by omega, by omega, fun y hm => voteB_ok (h8 y hm)⟩
theorem num_len {n : Nat} (h : n ≤ 1000) : NumOk (n : Int) := ⟨by omega, by omega⟩
theorem bodyL_inj {m n : MsgR} {P Q : List Int} {ys zs : List VoteR} (hm : MsgOk m P ys) (hn : MsgOk n Q zs) (h : bodyL m P ys = bodyL n Q zs) : m.k = n.k ∧ m.f = n.f ∧ m.s = n.s ∧ m.v = n.v ∧ P = Q ∧ VotesEq ys zs := by
  unfold bodyL at h
  rw [← List.append_nil (nums [4, m.k, m.f, m.s, m.v] ++ num P.length ++ P ++ num ys.length ++ ys.flatMap voteL), ← List.append_nil (nums [4, n.k, n.f, n.s, n.v] ++ num Q.length ++ Q ++ num zs.length ++ zs.flatMap voteL)] at h
  simp only [List.append_assoc] at h
  obtain ⟨h1, h2⟩ := nums_inj [4, m.k, m.f, m.s, m.v] [4, n.k, n.f, n.s, n.v] _ _ rfl (numOk_cons ⟨by decide, by decide⟩ (numOk_cons hm.k (numOk_cons hm.f (numOk_cons hm.s (numOk_cons hm.v numOk_nil))))) (numOk_cons ⟨by decide, by decide⟩ (numOk_cons hn.k (numOk_cons hn.f (numOk_cons hn.s (numOk_cons hn.v numOk_nil))))) h
  simp only [List.cons.injEq, and_true, true_and] at h1
  have := hm.vb; have := hn.vb; have := hm.yb; have := hn.yb
  obtain ⟨h3, h4⟩ := num_inj (num_len (by omega)) (num_len (by omega)) h2
  obtain ⟨rfl, h5⟩ := List.append_inj h4 (by omega)
  obtain ⟨h6, h7⟩ := num_inj (num_len (by omega)) (num_len (by omega)) h5
  obtain ⟨h8, -⟩ := flat_inj ys zs [] [] (by omega) hm.ys hn.ys h7
  exact ⟨h1.1, h1.2.1, h1.2.2.1, h1.2.2.2, rfl, h8⟩
theorem bodyL_same {m n : MsgR} {P : List Int} {ys zs : List VoteR} (h1 : m.k = n.k) (h2 : m.f = n.f) (h3 : m.s = n.s) (h4 : m.v = n.v) (h5 : VotesEq ys zs) : bodyL m P ys = bodyL n P zs := by
  obtain ⟨h6, h7⟩ := flat_same ys zs h5
  unfold bodyL
  rw [h1, h2, h3, h4, h6, h7]
end Go.Proofs.Ytkjocpadmlobgaa
