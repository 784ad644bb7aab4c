/- cert's Who: the nodes that voted so, rising, each once. For every ring and row of votes. -/
import Derived.Test.YticpkpphjpgdbaaCertB
namespace Go.Proofs.Yticpkpphjpgdbaa
open Go.RowKit Go.Dig Go.Sha Go.Inv Go.Oct Go.Shelf

attribute [local go_sem] Oper.semAt_some

/-- a number goes into a row that rises -/
def insL (L : List Int) (x : Int) : List Int := L.take (L.countP (· < x)) ++ x :: L.drop (L.countP (· < x))
def whoStep (R : RingO) (acc : List Int) (x : VoteW) : List Int := if acc.contains x.1.f || !goodR R x.1 then acc else insL acc x.1.f
def whoL (R : RingO) (xs : List VoteW) : List Int := xs.foldl (whoStep R) []
theorem whoL_snoc (R : RingO) (xs : List VoteW) (x : VoteW) : whoL R (xs ++ [x]) = whoStep R (whoL R xs) x := by simp [whoL]
def Rise (L : List Int) : Prop := L.Pairwise (· < ·)
theorem Rise.low {L : List Int} {x : Int} (h : Rise L) : (∀ y ∈ L.take (L.countP (· < x)), y < x) ∧ (∀ y ∈ L.drop (L.countP (· < x)), x ≤ y) := by
  induction L with
  | nil => simp
  | cons a t ih =>
    have ht := List.pairwise_cons.1 h
    by_cases ha : a < x
    · rw [List.countP_cons_of_pos (by simpa using ha)]
      refine ⟨fun y hy => ?_, fun y hy => ?_⟩
      · rw [List.take_succ_cons] at hy
        rcases List.mem_cons.1 hy with rfl | hy
        · exact ha
        · exact (ih ht.2).1 y hy
      · rw [List.drop_succ_cons] at hy
        exact (ih ht.2).2 y hy
    · have h0 : (a :: t).countP (· < x) = 0 := by
        rw [List.countP_eq_zero]
        intro y hy
        rcases List.mem_cons.1 hy with rfl | hy
        · simpa using ha
        · have := ht.1 y hy; simp; omega
      rw [h0]
      refine ⟨fun y hy => by simp at hy, fun y hy => ?_⟩
      rw [List.drop_zero] at hy
      rcases List.mem_cons.1 hy with rfl | hy
      · omega
      · have := ht.1 y hy; omega
theorem insL_mem {L : List Int} {x y : Int} : y ∈ insL L x ↔ y = x ∨ y ∈ L := by
  unfold insL
  rw [List.mem_append, List.mem_cons]
  conv => rhs; rw [← List.take_append_drop (L.countP (· < x)) L, List.mem_append]
  grind
theorem insL_rise {L : List Int} {x : Int} (h : Rise L) (hx : x ∉ L) : Rise (insL L x) := by
  have hl := h.low (x := x)
  have h' := h
  unfold Rise at h' ⊢
  rw [← List.take_append_drop (L.countP (· < x)) L] at h'
  have hp := List.pairwise_append.1 h'
  unfold insL
  refine List.pairwise_append.2 ⟨hp.1, List.pairwise_cons.2 ⟨fun y hy => ?_, hp.2.1⟩, fun y hy z hz => ?_⟩
  · have := hl.2 y hy
    have hne : y ≠ x := fun e => hx (e ▸ List.mem_of_mem_drop hy)
    omega
  · rcases List.mem_cons.1 hz with rfl | hz
    · exact hl.1 y hy
    · exact hp.2.2 y hy z hz
theorem insL_length (L : List Int) (x : Int) : (insL L x).length = L.length + 1 := by
  unfold insL
  have := List.countP_le_length (p := (· < x)) (l := L)
  simp; omega
theorem whoStep_rise {R : RingO} {acc : List Int} {x : VoteW} (h : Rise acc) : Rise (whoStep R acc x) := by
  unfold whoStep
  split
  · exact h
  · rename_i hc
    refine insL_rise h (fun hm => hc ?_)
    rw [List.contains_iff_mem.2 hm]; rfl
theorem whoL_rise (R : RingO) : ∀ (xs : List VoteW) (acc : List Int), Rise acc → Rise (xs.foldl (whoStep R) acc)
  | [], _, h => h
  | _ :: t, _, h => whoL_rise R t _ (whoStep_rise h)
theorem whoStep_length (R : RingO) (acc : List Int) (x : VoteW) : (whoStep R acc x).length ≤ acc.length + 1 := by
  unfold whoStep
  split
  · omega
  · rw [insL_length]; exact Nat.le_refl _
theorem whoL_length (R : RingO) : ∀ (xs : List VoteW) (acc : List Int), (xs.foldl (whoStep R) acc).length ≤ acc.length + xs.length
  | [], acc => by simp
  | x :: t, acc => by
    have h1 := whoL_length R t (whoStep R acc x)
    have h2 := whoStep_length R acc x
    simp only [List.foldl_cons, List.length_cons]; omega
/-- who is told: those with a good vote among these -/
theorem whoStep_mem {R : RingO} {acc : List Int} {x : VoteW} {i : Int} : i ∈ whoStep R acc x ↔ i ∈ acc ∨ (i = x.1.f ∧ goodR R x.1 = true) := by
  unfold whoStep
  split
  · rename_i hc
    rw [Bool.or_eq_true] at hc
    refine ⟨.inl, fun h => h.elim id (fun h => ?_)⟩
    rcases hc with hc | hc
    · rw [h.1]; exact List.contains_iff_mem.1 hc
    · rw [h.2] at hc; cases hc
  · rename_i hc
    rw [insL_mem]
    have hg : goodR R x.1 = true := by
      cases hg : goodR R x.1
      · exact absurd (by rw [hg]; simp) hc
      · rfl
    rw [hg]
    grind
theorem whoL_mem {R : RingO} {i : Int} : ∀ (xs : List VoteW) (acc : List Int), i ∈ xs.foldl (whoStep R) acc ↔ i ∈ acc ∨ ∃ x ∈ xs, i = x.1.f ∧ goodR R x.1 = true
  | [], acc => by simp
  | x :: t, acc => by
    rw [List.foldl_cons, whoL_mem t, whoStep_mem]
    simp only [List.mem_cons, exists_eq_or_imp]
    grind

/-- votes that come in -/
structure VotesIn (w : World) (ao : Option Addr) (cap : Nat) (ys : List VoteW) : Prop where
  le : ys.length ≤ cap
  big : cap ≤ maxLen
  nil : ao = none → cap = 0
  at_ : ∀ j (hj : j < ys.length), ∃ b o, ao = some ⟨b, o, none⟩ ∧ VoteAt w b (o + j * 68) ys[j].1
theorem VoteAt.lt {w : World} {b o : Nat} {y : VoteR} (h : VoteAt w b o y) : b < w.heap.size := World.block_lt_of_cell? w ⟨b, o + 0, none⟩ ((h 0 (by omega)).trans y.at0)
theorem VotesIn.below {w w' : World} {ao : Option Addr} {cap : Nat} {ys : List VoteW} (h : VotesIn w ao cap ys) (hB : Below w.heap.size w w') : VotesIn w' ao cap ys :=
  ⟨h.le, h.big, h.nil, fun j hj => by obtain ⟨b, o, e, hv⟩ := h.at_ j hj; exact ⟨b, o, e, hv.same (hB.block b hv.lt)⟩⟩
theorem own_turn {A B : World} {row : Option Nat} {base : Nat} {v : Value} {L : List Int} (h : OwnI A base v L) (hg : A.grownBy B row) (hr : ∀ r, row = some r → ∃ o : Obj, A.heap[r]? = some o ∧ o.isCells = false) : OwnI B base v L :=
  h.same fun k hk => hg.block k (h.lt k hk).2 (fun e => by
    obtain ⟨o, h1, h2⟩ := hr k e.symm
    rcases h.2 with ⟨rfl, _⟩ | ⟨g, cap, cur, rfl, _, hgg, _⟩
    · cases hk
    · cases hk; rw [hgg] at h1; cases h1; cases h2)
theorem blk_turn {A B : World} {row : Option Nat} {b : Nat} {c : Array Value} {t : TypeId} {fr : Nat × Nat} (h : A.heap[b]? = some (.cells c t fr)) (hg : A.grownBy B row) (hr : ∀ r, row = some r → ∃ o : Obj, A.heap[r]? = some o ∧ o.isCells = false) : B.heap[b]? = some (.cells c t fr) :=
  (hg.block b (lt_blk h) (fun e => by obtain ⟨o, h1, h2⟩ := hr b e.symm; rw [h] at h1; cases h1; cases h2)).trans h
/-- an own row is no vote's block -/
theorem own_ne_vote {W : World} {base b : Nat} {v : Value} {L : List Int} {c : Array Value} (h : OwnI W base v L) (hb : W.heap[b]? = some (.cells c 51 (0, 0))) : v.ownBlock ≠ some b := fun e => by
  rcases h.2 with ⟨rfl, _⟩ | ⟨g, cap, cur, rfl, _, hgg, _⟩
  · cases e
  · cases e; rw [hb] at hgg; injection hgg with h1; injection h1 with _ h2; exact absurd h2 (by decide)
theorem OwnI.form {w : World} {base : Nat} {v : Value} {L : List Int} (h : OwnI w base v L) : ∃ ao n cap, v = .slice ao n cap := by
  rcases h.2 with ⟨rfl, _⟩ | ⟨g, cap, cur, rfl, _⟩
  · exact ⟨_, _, _, rfl⟩
  · exact ⟨_, _, _, rfl⟩
/-- what lies between two rounds -/
def WhoI (w W0 : World) (R : RingO) (pre : List VoteW) (W : World) : Prop :=
  (∃ v, Boxed W (w.heap.size + 2) 73 v ∧ OwnI W W0.heap.size v (whoL R pre)) ∧ Kept (fun b => b < W0.heap.size ∧ b ≠ w.heap.size + 2) W0 W ∧ W0.heap.size ≤ W.heap.size ∧ Below w.heap.size w W ∧ pre.length ≤ 10
theorem WhoI.own {w W0 : World} {R : RingO} (h8 : W0.heap.size = w.heap.size + 8) : OwnFrom W0.heap.size (WhoI w W0 R) := fun s A B row hs hg hr => by
  obtain ⟨⟨v, hb, ho⟩, hk, hz, hB, hl⟩ := hs
  refine ⟨⟨v, blk_turn hb hg (fun r e => (hr r e).2), own_turn ho hg (fun r e => (hr r e).2)⟩, fun b hb => (hg.block b (by omega) (fun e => by have := (hr b e.symm).1; omega)).trans (hk b hb), Nat.le_trans hz hg.size, ?_, hl⟩
  exact hB.trans ⟨hg.os, hg.tape, hg.output, hg.size, fun k hk' => hg.block k (by omega) (fun e => by have := (hr k e.symm).1; omega)⟩
theorem who_same {w W0 W W1 : World} {R : RingO} {pre : List VoteW} {x : VoteW} {u : Value} (hb : Boxed W (w.heap.size + 2) 73 u) (ho : OwnI W W0.heap.size u (whoL R pre)) (hk : Kept (fun b => b < W0.heap.size ∧ b ≠ w.heap.size + 2) W0 W) (hz : W0.heap.size ≤ W.heap.size) (hB : Below w.heap.size w W)
    (hB1 : Below W.heap.size W W1) (hst : whoL R (pre ++ [x]) = whoL R pre) (hl : (pre ++ [x]).length ≤ 10) : KeepsFrom W0.heap.size W W1 ∧ Kept (fun b => b < W0.heap.size ∧ b ≠ w.heap.size + 2) W W1 ∧ WhoI w W0 R (pre ++ [x]) W1 := by
  have hK : Kept (fun b => b < W0.heap.size ∧ b ≠ w.heap.size + 2) W W1 := kept_below (fun b hb => Nat.lt_of_lt_of_le hb.1 hz) hB1
  refine ⟨⟨hB1.size, fun k o _ h _ => (hB1.block k (Array.getElem?_eq_some_iff.1 h).1).trans h⟩, hK, ⟨u, (hB1.block _ hb.lt).trans hb, ?_⟩, hk.trans hK, Nat.le_trans hz hB1.size, hB.trans (hB1.mono hB.size), hl⟩
  rw [hst]; exact ho.below hB1
theorem who_put {w W0 W W2 w4 : World} {R : RingO} {pre : List VoteW} {x : VoteW} {u u' : Value} (h8 : W0.heap.size = w.heap.size + 8) (hb : Boxed W (w.heap.size + 2) 73 u) (ho : OwnI W W0.heap.size u (whoL R pre)) (hk : Kept (fun b => b < W0.heap.size ∧ b ≠ w.heap.size + 2) W0 W) (hz : W0.heap.size ≤ W.heap.size) (hB : Below w.heap.size w W)
    (hB2 : Below W.heap.size W W2) (o : Obj) (hg : Gr (W2.alloc o) w4 u u') (ho4 : OwnI w4 W0.heap.size u' (whoL R (pre ++ [x]))) (hl : (pre ++ [x]).length ≤ 10) :
    KeepsFrom W0.heap.size W (w4.setCell ⟨w.heap.size + 2, 0, none⟩ u') ∧ Kept (fun b => b < W0.heap.size ∧ b ≠ w.heap.size + 2) W (w4.setCell ⟨w.heap.size + 2, 0, none⟩ u') ∧ WhoI w W0 R (pre ++ [x]) (w4.setCell ⟨w.heap.size + 2, 0, none⟩ u') := by
  have hsz : W.heap.size ≤ w4.heap.size := by have := hB2.size; have := hg.size; simp at this; omega
  have key : ∀ k, k < W.heap.size → u.ownBlock ≠ some k → w4.heap[k]? = W.heap[k]? := fun k hk1 hn =>
    ((hg.block k (by have := hB2.size; simp; omega) hn).trans (Below.heap_alloc W2 o k (by have := hB2.size; omega))).trans (hB2.block k hk1)
  have key2 : ∀ k, k < W.heap.size → u.ownBlock ≠ some k → k ≠ w.heap.size + 2 → (w4.setCell ⟨w.heap.size + 2, 0, none⟩ u').heap[k]? = W.heap[k]? := fun k hk1 hn hne => (Below.heap_setCell _ _ _ k hne).trans (key k hk1 hn)
  have hsz' : (w4.setCell ⟨w.heap.size + 2, 0, none⟩ u').heap.size = w4.heap.size := by simp [World.setCell]
  have hK : Kept (fun b => b < W0.heap.size ∧ b ≠ w.heap.size + 2) W (w4.setCell ⟨w.heap.size + 2, 0, none⟩ u') := fun b hb' => key2 b (Nat.lt_of_lt_of_le hb'.1 hz) (fun e => by have := (ho.lt b e).1; have := hb'.1; omega) hb'.2
  refine ⟨⟨by rw [hsz']; exact hsz, fun k ob hk1 h hc => (key2 k (Array.getElem?_eq_some_iff.1 h).1 (fun e => ?_) (by omega)).trans h⟩, hK, ⟨u', ?_, ho4.same fun k hk1 => Below.heap_setCell _ _ _ k (by have := (ho4.lt k hk1).1; show k ≠ w.heap.size + 2; omega)⟩, hk.trans hK, by rw [hsz']; omega, ?_, hl⟩
  · rcases ho.2 with ⟨rfl, _⟩ | ⟨g, cap, cur, rfl, _, hgg, _⟩
    · cases e
    · cases e; rw [hgg] at h; cases h; cases hc
  · have : Boxed w4 (w.heap.size + 2) 73 u := (key _ hb.lt (fun e => by have := (ho.lt _ e).1; omega)).trans hb
    exact this.set _
  · exact ⟨hg.os.trans (hB2.os.trans hB.os), hg.tape.trans (hB2.tape.trans hB.tape), hg.output.trans (hB2.output.trans hB.output), by rw [hsz']; have := hB.size; omega, fun k hk1 => (key2 k (by omega) (fun e => by have := (ho.lt k e).1; omega) (by omega)).trans (hB.block k hk1)⟩
theorem five_new (w : World) (o0 o1 o2 o3 o4 : Obj) {W : World} (hW : ((((w.alloc o0).alloc o1).alloc o2).alloc o3).alloc o4 = W) :
    W.heap.size = w.heap.size + 5 ∧ W.heap[w.heap.size]? = some o0 ∧ W.heap[w.heap.size + 1]? = some o1 ∧ W.heap[w.heap.size + 2]? = some o2 ∧ W.heap[w.heap.size + 3]? = some o3 ∧ W.heap[w.heap.size + 4]? = some o4 ∧ Below w.heap.size w W := by
  subst hW
  refine ⟨by simp, ?_, ?_, ?_, ?_, ?_, (((((Below.refl _ w).alloc (Nat.le_refl _) _).alloc (by simp) _).alloc (by simp; omega) _).alloc (by simp; omega) _).alloc (by simp; omega) _⟩
  all_goals
    have hp : ∀ (X : World) (o : Obj), (X.alloc o).heap = X.heap.push o := fun _ _ => rfl
    simp only [hp, Array.getElem?_push, Array.size_push]
    simp
    try (repeat rw [if_neg (by omega)])
theorem three_new (w : World) (o0 o1 o2 : Obj) {W : World} (hW : ((w.alloc o0).alloc o1).alloc o2 = W) :
    W.heap.size = w.heap.size + 3 ∧ W.heap[w.heap.size]? = some o0 ∧ W.heap[w.heap.size + 1]? = some o1 ∧ W.heap[w.heap.size + 2]? = some o2 ∧ Below w.heap.size w W := by
  subst hW
  refine ⟨by simp, ?_, ?_, ?_, (((Below.refl _ w).alloc (Nat.le_refl _) _).alloc (by simp) _).alloc (by simp; omega) _⟩
  all_goals
    have hp : ∀ (X : World) (o : Obj), (X.alloc o).heap = X.heap.push o := fun _ _ => rfl
    simp only [hp, Array.getElem?_push, Array.size_push]
    simp
    try omega
set_option maxRecDepth 100000 in
set_option maxHeartbeats 4000000 in
theorem who_any (pr : Value) (R : RingO) (ao : Option Addr) (cap : Nat) (ys : List VoteW) (k s v : Int) (sum : Nat → Int) (w : World) (hR : RingV w pr R) (hV : VotesIn w ao cap ys) :
    Calls Try.prog 40 #[pr, .slice ao ys.length cap, .int .i64 k, .int .i64 s, .int .i64 v, .agg (row .u8 32 sum)] w fun e w' => ∃ u, e = .returned u ∧ OwnI w' w.heap.size u (whoL R (toldL k s v sum ys)) ∧ Below w.heap.size w w' := by
  refine (callsIn_wide (n := 9)).1 ?_
  obtain ⟨a, rfl⟩ := hR.form
  have HR : Hid (RingV w (.pointer a) R) := hR
  have HV : Hid (VotesIn w ao cap ys) := hV
  clear hR hV
  obtain ⟨W3, hW3⟩ : ∃ W3, ((w.alloc (.cells #[.pointer a] 27)).alloc (.cells (row .u8 32 sum) 30)).alloc (.cells #[.slice none 0 0] 73) = W3 := ⟨_, rfl⟩
  obtain ⟨hs3, e0, e1, e2, hB3⟩ := three_new w _ _ _ hW3
  have HS : Hid (HashAt W3 (w.heap.size + 1) 0 sum) := hashAt_blk e1
  have HE : Hid (W3.heap.size = w.heap.size + 3 ∧ W3.heap[w.heap.size]? = some (.cells #[.pointer a] 27 (0, 0)) ∧ W3.heap[w.heap.size + 2]? = some (.cells #[.slice none 0 0] 73 (0, 0)) ∧ Below w.heap.size w W3) := ⟨hs3, e0, e2, hB3⟩
  clear hs3 e0 e1 e2 hB3
  refine callsIn_of_wp_marks Try.func40 rfl trivial ?_ rfl
  simp only [Try.ntmps40, List.size_toArray, List.length_cons, List.length_nil, Nat.reduceAdd, Nat.reduceSub, Array.replicate_succ, Array.replicate_zero, List.push_toArray, List.append_toArray, List.nil_append, List.cons_append]
  gi_wp2_with (first | (refine wpListIn_load_hash rfl _ rfl (w.heap.size + 1) 0 ?_ sum ?_ ?_; rfl; exact HS.out))
  refine ⟨trivial, ?_⟩
  clear hW3
  refine (callsIn_wide.2 (votesOn_any (.slice ao ys.length cap) k s v sum W3 ⟨_, _, _, rfl⟩)).mono ?_
  rintro e W0 ⟨rfl, hW0⟩
  obtain ⟨hs3, e0, e2, hB3⟩ := HE.out
  rw [hs3]
  obtain ⟨hs0, f0, f1, f2, f3, f4, hB0⟩ := five_new W3 _ _ _ _ _ hW0.symm
  rw [hs3] at hs0 f0 f1 f2 f3 f4
  simp only [Nat.add_assoc, Nat.reduceAdd] at hs0 f0 f1 f2 f3 f4 ⊢
  have hBw : Below w.heap.size w W0 := hB3.trans (hB0.mono (by omega))
  have x0 : Boxed W0 w.heap.size 27 (.pointer a) := (hB0.block _ (by omega)).trans e0
  have x2 : Boxed W0 (w.heap.size + 2) 73 (.slice none 0 0) := (hB0.block _ (by omega)).trans e2
  have hP : ∀ b, (fun b => b < W0.heap.size ∧ b ≠ w.heap.size + 2) b → b < W0.heap.size := fun b hb => hb.1
  have hV0 := HV.out.below hBw
  have hon : OnAt (fun b => b < W0.heap.size ∧ b ≠ w.heap.size + 2) W0 k s v sum ao cap ys (w.heap.size + 3) (w.heap.size + 4) (w.heap.size + 5) (w.heap.size + 6) (w.heap.size + 7) :=
    ⟨(cell_blk f0 0).trans rfl, (cell_blk f1 0).trans rfl, (cell_blk f2 0).trans rfl, (cell_blk f3 0).trans rfl, hashAt_blk f4, ⟨by omega, by omega⟩, ⟨by omega, by omega⟩, ⟨by omega, by omega⟩, ⟨by omega, by omega⟩, ⟨by omega, by omega⟩, hV0.le, hV0.big, hV0.nil,
     fun j hj => by
      obtain ⟨b, o, e, hv⟩ := hV0.at_ j hj
      obtain ⟨b', o', e', hv'⟩ := HV.out.at_ j hj
      rw [e] at e'; cases e'
      exact ⟨b, o, e, ⟨hv.lt, by have := hv'.lt; omega⟩, hv⟩⟩
  have hseq := votesOn_stops _ k s v sum ao cap ys _ _ _ _ _ W0 hP hon
  have HX : Hid (Boxed W0 w.heap.size 27 (.pointer a)) := x0
  have HX2 : Hid (Boxed W0 (w.heap.size + 2) 73 (.slice none 0 0)) := x2
  have HBw : Hid (Below w.heap.size w W0) := hBw
  have HS0 : Hid (W0.heap.size = w.heap.size + 8) := hs0
  have hrun : ∀ W, Sem.run Try.prog (binOp BinOp.eql 97 (Value.func (Fn.func 64) #[] #[.pointer (some ⟨w.heap.size + 3, 0, none⟩), .pointer (some ⟨w.heap.size + 4, 0, none⟩), .pointer (some ⟨w.heap.size + 5, 0, none⟩), .pointer (some ⟨w.heap.size + 6, 0, none⟩), .pointer (some ⟨w.heap.size + 7, 0, none⟩)]) Value.nilFunc) W = .ok (.bool false) W := fun _ => rfl
  have HQ : Hid _ := hseq
  clear hseq hW0 hs3 e0 e2 hB3 hs0 f0 f1 f2 f3 f4 hB0 hBw x0 x2 hP hV0 hon HE HS
  gi_wp2_with fail
  refine wpIn_rangeFunc_ownH rfl (by decide) (gf := 64) (lb := #[.pointer (some ⟨w.heap.size + 3, 0, none⟩), .pointer (some ⟨w.heap.size + 4, 0, none⟩), .pointer (some ⟨w.heap.size + 5, 0, none⟩), .pointer (some ⟨w.heap.size + 6, 0, none⟩), .pointer (some ⟨w.heap.size + 7, 0, none⟩)]) rfl trivial (enters_of Try.func64 (by kernel_rfl) rfl) (HQ.out _ (by decide)) (fun h k => Kept.trans h k)
    (fun W l o o' hl _ _ _ b hb => World.putObj_heap_other (by have := hb.1; omega)) (Below.refl _ _) (fun _ => rfl)
    (WhoI w W0 R) (fun _ _ _ => False) (WhoI.own HS0.out) (fun _ _ _ _ _ hs _ _ => hs)
    ⟨⟨_, HX2.out, OwnI.nil _ _⟩, Kept.refl _ _, Nat.le_refl _, HBw.out, by simp⟩
    (fun x a' W => ∃ Bx, W0.heap.size ≤ Bx ∧ W.heap[Bx]? = some (.cells x.1.cells 51 (0, 0)) ∧ a' = { tmps := (Value.pointer a :: Value.slice ao ys.length cap :: Value.int .i64 k :: Value.int .i64 s :: Value.int .i64 v :: Value.agg (row .u8 32 sum) :: Value.pointer (some ⟨w.heap.size, 0, none⟩) :: undef :: undef :: undef :: undef :: Value.pointer (some ⟨w.heap.size + 1, 0, none⟩) :: Value.slice none 0 0 :: Value.pointer (some ⟨w.heap.size + 2, 0, none⟩) :: Value.pointer (some ⟨Bx, 0, none⟩) :: undef :: undef :: Value.slice ao ys.length cap :: Value.int .i64 k :: Value.int .i64 s :: Value.int .i64 v :: Value.agg (row .u8 32 sum) :: Value.func (Fn.func 64) #[] #[.pointer (some ⟨w.heap.size + 3, 0, none⟩), .pointer (some ⟨w.heap.size + 4, 0, none⟩), .pointer (some ⟨w.heap.size + 5, 0, none⟩), .pointer (some ⟨w.heap.size + 6, 0, none⟩), .pointer (some ⟨w.heap.size + 7, 0, none⟩)] :: Value.agg x.1.cells :: undef :: undef :: undef :: undef :: undef :: undef :: undef :: undef :: undef :: undef :: undef :: undef :: undef :: undef :: undef :: undef :: undef :: undef :: undef :: undef :: undef :: []).toArray, defers := [] })
    (fun x a' s A B row hs hg hr => by
      obtain ⟨Bx, h1, h2, h3⟩ := hs
      exact ⟨Bx, h1, blk_turn h2 hg (fun r e => (hr r e).2), h3⟩) ?assign ?body ?done ?stop
  case assign =>
    rintro l pre x W K ⟨⟨u, hb, ho⟩, hk, hz, hB, hl⟩ hK
    have hs0 := HS0.out
    simp only [voteCells, List.zip_toArray, List.zip_cons_cons, List.zip_nil_right, List.foldl_toArray', List.size_toArray, List.length_cons, List.length_nil, List.foldl_cons, List.foldl_nil, List.setIfInBounds_toArray, List.set_cons_succ, List.set_cons_zero]
    gi_wp2_with (first | (refine wpListIn_alloc_vote rfl rfl ?_) | (refine wpListIn_store_vote rfl _ _ rfl W x.1 ?_ ?_ ?_ ?_; rfl; rfl; rfl))
    have hBa := below_alloc W (.cells x.1.cells 51)
    have hKa : Kept (fun b => b < W0.heap.size ∧ b ≠ w.heap.size + 2) W (W.alloc (.cells x.1.cells 51)) := kept_below (fun b hb => Nat.lt_of_lt_of_le hb.1 hz) hBa
    exact hK _ _ ((KeepsOthers.alloc _ _).from _) hKa ⟨⟨u, alloc_blk_old hb _, ho.alloc _⟩, hk.trans hKa, Nat.le_trans hz hBa.size, hB.trans (hBa.mono hB.size), hl⟩ ⟨W.heap.size, hz, alloc_blk _ _, rfl⟩
  case body =>
    rintro l pre x a' W hl ⟨r, hr⟩ ⟨⟨u, hb, ho⟩, hk, hz, hB, hpl⟩ ⟨Bx, hBx, hx, rfl⟩ hlt
    have hs0 := HS0.out
    obtain ⟨uo, ul, uc, rfl⟩ := ho.form
    have hw8 : w.heap.size < W.heap.size := by omega
    have HO : Hid (OwnI W W0.heap.size (.slice uo ul uc) (whoL R pre)) := ho
    have HX1 : Hid (W.heap[Bx]? = some (.cells x.1.cells 51 (0, 0))) := hx
    have HB1 : Hid (Boxed W (w.heap.size + 2) 73 (.slice uo ul uc)) := hb
    have HR1 : Hid (Boxed W w.heap.size 27 (.pointer a)) := (hk _ ⟨by omega, by omega⟩).trans HX.out
    have hcN := hb.cell
    have hcF : W.cell? ⟨Bx, 35, none⟩ = some (.int .i64 x.1.f) := (cell_blk hx _).trans x.1.at35
    have hrise : Rise (whoL R pre) := whoL_rise R pre [] List.Pairwise.nil
    have hlen : (whoL R pre).length ≤ 10 := by have := whoL_length R pre []; simp only [List.length_nil] at this; unfold whoL; omega
    have hpl1 : (pre ++ [x]).length ≤ 10 := by simp only [List.length_append, List.length_cons, List.length_nil]; omega
    clear ho hx hb
    gi_wp2_with fail
    refine ⟨trivial, ?_⟩
    refine (CallsIn.inRound l (callsIn_wide.2 (search_any W0.heap.size (.slice uo ul uc) (whoL R pre) x.1.f W HO.out (hrise.imp (fun h => by omega)) (by omega)))).mono ?_
    rintro e W1 ⟨rfl, q, hW1⟩
    have hB1 : Below W.heap.size W W1 := by rw [hW1]; exact ⟨rfl, rfl, rfl, Nat.le_refl _, fun _ _ => rfl⟩
    have hz1 : W1.heap.size = W.heap.size := by rw [hW1]; rfl
    clear hcN hcF
    clear hW1
    cases hcon : (whoL R pre).contains x.1.f
    · have hcR : W1.cell? ⟨w.heap.size, 0, none⟩ = some (.pointer a) := (cell_blk ((hB1.block _ (by omega)).trans HR1.out) 0).trans rfl
      have HV1 : Hid (VoteAt W1 Bx 0 x.1) := voteAt_blk ((hB1.block _ (lt_blk HX1.out)).trans HX1.out)
      gi_wp2_with (first | (refine wpListIn_load_vote rfl _ rfl Bx 0 ?_ x.1 ?_ ?_; rfl; exact HV1.out))
      refine ⟨trivial, ?_⟩
      refine (CallsIn.inRound l (callsIn_wide.2 (good_any (.pointer a) R x.1 W1 (HR.out.below (hB.trans (hB1.mono hB.size))) x.2))).mono ?_
      rintro e W2 ⟨rfl, hB2'⟩
      have hB2 : Below W.heap.size W W2 := hB1.trans (hB2'.mono hB1.size)
      have HB2 : Hid (Below W.heap.size W W2) := hB2
      clear hB2' hB1 hcR HV1 hz1
      cases hgood : goodR R x.1
      · gi_wp2_with fail
        have hst : whoL R (pre ++ [x]) = whoL R pre := by rw [whoL_snoc, whoStep, hcon, hgood]; rfl
        exact who_same HB1.out HO.out hk hz hB HB2.out hst hpl1
      · have hst : whoL R (pre ++ [x]) = insL (whoL R pre) x.1.f := by rw [whoL_snoc, whoStep, hcon, hgood]; rfl
        have hcN : W2.cell? ⟨w.heap.size + 2, 0, none⟩ = some (.slice uo ul uc) := (cell_blk ((hB2.block _ (by omega)).trans HB1.out) 0).trans rfl
        have hcF : W2.cell? ⟨Bx, 35, none⟩ = some (.int .i64 x.1.f) := (cell_blk ((hB2.block _ (lt_blk HX1.out)).trans HX1.out) _).trans x.1.at35
        have hO2 := HO.out.below hB2
        have hz2 : W.heap.size ≤ W2.heap.size := hB2.size
        have hne : (Value.slice uo ul uc).ownBlock ≠ some W2.heap.size := fun e => by have := (hO2.lt _ e).2; omega
        have HI : Hid _ := insert_any W0.heap.size (.slice uo ul uc) (whoL R pre) ((whoL R pre).countP (· < x.1.f)) W2.heap.size x.1.f (W2.alloc (.cells #[.int .i64 x.1.f] 3)) (hO2.alloc _) List.countP_le_length (by omega) (by simp; omega) 3 (alloc_blk _ _) hne
        clear hB2 hO2 hne
        gi_wp2_with fail
        refine ⟨trivial, ?_⟩
        refine (CallsIn.inRound l (callsIn_wide.2 HI.out)).mono ?_
        rintro e W4 ⟨u', rfl, hO4, hG4⟩
        obtain ⟨uo', ul', uc', rfl⟩ := hO4.form
        have hcf : W4.frozen? ⟨w.heap.size + 2, 0, none⟩ = false := by
          have h1 : W4.heap[w.heap.size + 2]? = W2.heap[w.heap.size + 2]? := (hG4.block _ (by simp; omega) (fun e => by have := (HO.out.lt _ e).1; omega)).trans (Below.heap_alloc W2 _ _ (by omega))
          exact frozen_blk (h1.trans ((HB2.out.block _ (by omega)).trans HB1.out)) 0
        have hcs : (W4.cell? ⟨w.heap.size + 2, 0, none⟩) = some (.slice uo ul uc) := by
          have h1 : W4.heap[w.heap.size + 2]? = W2.heap[w.heap.size + 2]? := (hG4.block _ (by simp; omega) (fun e => by have := (HO.out.lt _ e).1; omega)).trans (Below.heap_alloc W2 _ _ (by omega))
          exact (cell_blk (h1.trans ((HB2.out.block _ (by omega)).trans HB1.out)) 0).trans rfl
        have HO4 : Hid (OwnI W4 W0.heap.size (.slice uo' ul' uc') (whoL R (pre ++ [x]))) := by rw [hst]; exact hO4
        have HG4 : Hid _ := hG4
        clear hO4 hG4 hcN hcF HI
        gi_wp2_with fail
        exact who_put hs0 HB1.out HO.out hk hz hB HB2.out _ HG4.out HO4.out hpl1
    · gi_wp2_with fail
      refine ⟨trivial, ?_⟩
      gi_wp2_with fail
      have hst : whoL R (pre ++ [x]) = whoL R pre := by rw [whoL_snoc, whoStep, hcon]; rfl
      exact who_same HB1.out HO.out hk hz hB hB1 hst hpl1
  case done =>
    rintro D ys' W hD rfl ⟨⟨u, hb, ho⟩, hk, hz, hB, hpl⟩ hK
    have hs0 := HS0.out
    have hc := hb.cell
    obtain ⟨uo, ul, uc, rfl⟩ := ho.form
    gi_wp2
    refine ⟨by simp, .inl ⟨_, _, rfl, run_takeDeferred hK, ?_⟩⟩
    refine ⟨_, results_tmp rfl _ _ _, _, rfl, ?_, ?_⟩
    · exact (ho.mono (by omega)).same fun k hk1 => World.putObj_heap_other (fun e => by
        rcases ho.2 with ⟨h1, _⟩ | ⟨g, cap, cur, h1, _, hgg, _⟩
        · rw [h1] at hk1; cases hk1
        · rw [h1] at hk1; cases hk1; have e2 : g = D := e; rw [e2, hK] at hgg; cases hgg)
    · exact hB.trans ⟨rfl, rfl, rfl, by simp [World.putObj], fun k hk1 => World.putObj_heap_other (by omega)⟩
  case stop =>
    rintro D c pre W _ _ h _
    exact h.elim
end Go.Proofs.Yticpkpphjpgdbaa
