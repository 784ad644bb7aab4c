/- A message out of bytes: takeMsg. For rows of up to 2^37 bytes. -/
import Derived.Test.YtkjocpadmlobgaaWireVo
namespace Go.Proofs.Ytkjocpadmlobgaa
open Go.RowKit Go.Dig Go.Inv Go.Oct
set_option linter.unusedVariables false

/-- a row whose cells may be written -/
def VaOk (w : World) (ao : Option Addr) : Prop := ∀ ad, ao = some ad → ∃ cur, w.heap[ad.block]? = some (.cells cur 5 (0, 0))
theorem VaOk.same {w w' : World} {ao : Option Addr} (h : VaOk w ao) (hs : ∀ ad, ao = some ad → w'.heap[ad.block]? = w.heap[ad.block]?) : VaOk w' ao := fun ad e => by
  obtain ⟨cur, hc⟩ := h ad e
  exact ⟨cur, (hs ad e).trans hc⟩
def RowF (w : World) (ao : Option Addr) (P : List Int) (cap : Nat) : Prop := Rowed w ao P cap ∧ VaOk w ao
theorem RowF.same {w w' : World} {ao : Option Addr} {P : List Int} {cap : Nat} (h : RowF w ao P cap) (hs : ∀ ad, ao = some ad → w'.heap[ad.block]? = w.heap[ad.block]?) : RowF w' ao P cap := ⟨h.1.same hs, h.2.same hs⟩
theorem OwnB.rowF {w : World} {base : Nat} {ao : Option Addr} {n cap : Nat} {L : List Int} (h : OwnB w base (.slice ao n cap) L) (hR : Rowed w ao L cap) : RowF w ao L cap := ⟨hR, fun ad e => by
  rcases h.2 with ⟨e1, _⟩ | ⟨g, cp, cur, e1, _, hgg, _⟩
  · cases e1; cases e
  · cases e1; cases e; exact ⟨cur, hgg⟩⟩
theorem OwnB.form2 {w : World} {base : Nat} {v : Value} {L : List Int} (h : OwnB w base v L) : ∃ ao cap, v = .slice ao L.length cap ∧ L.length ≤ cap ∧ Rowed w ao L cap ∧ ∀ ad, ao = some ad → base ≤ ad.block ∧ ad.block < w.heap.size := by
  obtain ⟨ao, n, cap, rfl, hF⟩ := h.form
  obtain ⟨rfl, hc, hR⟩ := hF.out
  refine ⟨ao, cap, rfl, hc, hR, fun ad e => ?_⟩
  subst e
  exact h.lt ad.block (by simp [Value.ownBlock])
theorem MsgR.set_k (x : MsgR) (z : Int) : ({ x with k := z } : MsgR).cells = x.cells.setIfInBounds 0 (.int .i64 z) := by
  unfold MsgR.cells
  rw [Array.setIfInBounds_append_left (by simp)]
  rfl
theorem MsgR.set_f (x : MsgR) (z : Int) : ({ x with f := z } : MsgR).cells = x.cells.setIfInBounds 1 (.int .i64 z) := by
  unfold MsgR.cells
  rw [Array.setIfInBounds_append_left (by simp)]
  rfl
theorem MsgR.set_t (x : MsgR) (z : Int) : ({ x with t := z } : MsgR).cells = x.cells.setIfInBounds 2 (.int .i64 z) := by
  unfold MsgR.cells
  rw [Array.setIfInBounds_append_left (by simp)]
  rfl
theorem MsgR.set_s (x : MsgR) (z : Int) : ({ x with s := z } : MsgR).cells = x.cells.setIfInBounds 3 (.int .i64 z) := by
  unfold MsgR.cells
  rw [Array.setIfInBounds_append_left (by simp)]
  rfl
theorem MsgR.set_v (x : MsgR) (z : Int) : ({ x with v := z } : MsgR).cells = x.cells.setIfInBounds 4 (.int .i64 z) := by
  unfold MsgR.cells
  rw [Array.setIfInBounds_append_left (by simp)]
  rfl
theorem MsgR.set_va (x : MsgR) (ao : Option Addr) (n c : Nat) : ({ x with va := ao, vl := n, vc := c } : MsgR).cells = x.cells.setIfInBounds 5 (.slice ao n c) := by
  unfold MsgR.cells
  rw [Array.setIfInBounds_append_left (by simp)]
  rfl
theorem MsgR.set_ya (x : MsgR) (ao : Option Addr) (n c : Nat) : ({ x with ya := ao, yl := n, yc := c } : MsgR).cells = x.cells.setIfInBounds 6 (.slice ao n c) := by
  unfold MsgR.cells
  rw [Array.setIfInBounds_append_left (by simp)]
  rfl
theorem wpList_load_msgP {ops : Array Oper} {rest : List Oper} {o : Oper} {a : Act} {w : World} {Q : Exit → Act → World → Prop} (hgd : o.guard = none) (x : Operand) (ho : o.op = .load 27 x) (g : Nat) (m : MsgR) (t : TypeId) (fr : Nat × Nat) (hx : a.eval x = .pointer (some ⟨g, 0, none⟩)) (hg : w.heap[g]? = some (.cells m.cells t fr)) (h : wpList Try.prog ops Q rest (a.put o.dst (.agg m.cells)) w) : wpList Try.prog ops Q (o :: rest) a w :=
  wpList_plain hgd fun _ hK => wp_load_msg x ho g m t fr hx hg (hK _ _ h)
theorem wpList_store_msgP {ops : Array Oper} {rest : List Oper} {o : Oper} {a : Act} {w : World} {Q : Exit → Act → World → Prop} (hgd : o.guard = none) (x y : Operand) (ho : o.op = .store 27 x y) (g : Nat) (m old : MsgR) (hx : a.eval x = .pointer (some ⟨g, 0, none⟩)) (hy : a.eval y = .agg m.cells) (hg : w.heap[g]? = some (.cells old.cells 27 (0, 0)))
    (h : wpList Try.prog ops Q rest (a.put o.dst undef) (w.setRow g m.cells)) : wpList Try.prog ops Q (o :: rest) a w :=
  wpList_store_blk hgd 27 x y ho g m.cells hx hy 27 _ hg (msg_info m) (by rw [MsgR.size, MsgR.size]) m.all h
theorem wpList_store_tagMP {ops : Array Oper} {rest : List Oper} {o : Oper} {a : Act} {w : World} {Q : Exit → Act → World → Prop} (hgd : o.guard = none) (x y : Operand) (ho : o.op = .store 25 x y) (g : Nat) (f : Nat → Int) (m : MsgR) (hx : a.eval x = .pointer (some ⟨g, 7, none⟩)) (hy : a.eval y = .agg (row .u8 32 f)) (t : TypeId) (hg : w.heap[g]? = some (.cells m.cells t (0, 0)))
    (h : ∀ w', w'.heap[g]? = some (.cells ({ m with tag := f } : MsgR).cells t (0, 0)) → Keeps g w w' → wpList Try.prog ops Q rest (a.put o.dst undef) w') : wpList Try.prog ops Q (o :: rest) a w :=
  wpList_plain hgd fun _ hK => wp_store_tagM x y ho g f m hx hy t hg (fun w' h1 h2 => hK _ _ (h w' h1 h2))
theorem VotesAt.same {w w' : World} {ao : Option Addr} {ys : List VoteR} (h : VotesAt w ao ys) (hs : ∀ ad, ao = some ad → w'.heap[ad.block]? = w.heap[ad.block]?) : VotesAt w' ao ys := fun hne => by
  obtain ⟨b, o, rfl, hv⟩ := h hne
  exact ⟨b, o, rfl, fun j hj => (hv j hj).same (hs _ rfl)⟩
/-- a message that was taken, and what it was laid as -/
def MTook (L : List Int) (m : MsgR) (P : List Int) (ys : List VoteR) : Prop := ∀ (m1 : MsgR) (P1 : List Int) (ys1 : List VoteR) (R : List Int), NumOk m1.k → NumOk m1.f → NumOk m1.t → NumOk m1.s → NumOk m1.v → NumOk (P1.length : Int) → ys1.length ≤ 10 → (∀ z ∈ ys1, VoteOk z) →
  L = nums [m1.k, m1.f, m1.t, m1.s, m1.v] ++ (num (P1.length : Int) ++ (P1 ++ (votesL ys1 ++ (ofF 32 m1.tag ++ R)))) → m.k = m1.k ∧ m.f = m1.f ∧ m.t = m1.t ∧ m.s = m1.s ∧ m.v = m1.v ∧ P = P1 ∧ VotesEq ys ys1 ∧ ∀ j, j < 32 → m.tag j = m1.tag j
set_option maxRecDepth 10000 in
set_option maxHeartbeats 4000000 in
theorem takeMsg_str (r : Nat) (L : List Int) (w : World) (h : RdL w r L) (hL37 : L.length < 137438953472) : Calls Try.prog 45 #[.pointer (some ⟨r, 0, none⟩)] w fun e w' => ∃ m P ys, e = .returned (.agg (MsgR.cells m)) ∧ MsgAt w' m P ys ∧ (∀ x ∈ P, 0 ≤ x ∧ x < 256) ∧ (∀ y ∈ ys, VBytes y) ∧ (∀ j, 0 ≤ m.tag j ∧ m.tag j < 256) ∧ ((∀ ad, m.va = some ad → w.heap.size ≤ ad.block) ∧ ∀ ad, m.ya = some ad → w.heap.size ≤ ad.block) ∧ ys.length ≤ 10 ∧ P.length ≤ L.length ∧ P.length ≤ m.vc ∧ VaOk w' m.va ∧ MTook L m P ys ∧ Below r w w' := by
  have HZM : Hid ((Try.prog.info? 27).map (·.zero) = some (some (.agg MsgR.zero.cells))) := zero_msg
  have hrw := h.lt
  have HL37 : Hid (L.length < 137438953472) := hL37
  have hs1 : (w.alloc (.cells MsgR.zero.cells 27)).heap.size = w.heap.size + 1 := by simp
  have hs2 : ((w.alloc (.cells MsgR.zero.cells 27)).alloc (.cells MsgR.zero.cells 27)).heap.size = w.heap.size + 2 := by simp
  have HS3 : Hid ((((w.alloc (.cells MsgR.zero.cells 27)).alloc (.cells MsgR.zero.cells 27)).alloc (.cells #[.pointer (some ⟨w.heap.size + 1, 0, none⟩), .pointer (some ⟨w.heap.size + 1, 1, none⟩), .pointer (some ⟨w.heap.size + 1, 2, none⟩), .pointer (some ⟨w.heap.size + 1, 3, none⟩), .pointer (some ⟨w.heap.size + 1, 4, none⟩)] 107)).heap.size = w.heap.size + 3) := by show _ = _; simp
  have HB3 : Hid (Below w.heap.size w (((w.alloc (.cells MsgR.zero.cells 27)).alloc (.cells MsgR.zero.cells 27)).alloc (.cells #[.pointer (some ⟨w.heap.size + 1, 0, none⟩), .pointer (some ⟨w.heap.size + 1, 1, none⟩), .pointer (some ⟨w.heap.size + 1, 2, none⟩), .pointer (some ⟨w.heap.size + 1, 3, none⟩), .pointer (some ⟨w.heap.size + 1, 4, none⟩)] 107))) := (((Below.refl _ _).alloc (Nat.le_refl _) _).alloc (by simp) _).alloc (by simp; omega) _
  have HR : Hid (RdL (((w.alloc (.cells MsgR.zero.cells 27)).alloc (.cells MsgR.zero.cells 27)).alloc (.cells #[.pointer (some ⟨w.heap.size + 1, 0, none⟩), .pointer (some ⟨w.heap.size + 1, 1, none⟩), .pointer (some ⟨w.heap.size + 1, 2, none⟩), .pointer (some ⟨w.heap.size + 1, 3, none⟩), .pointer (some ⟨w.heap.size + 1, 4, none⟩)] 107)) r L) := h.same (fun k hk => HB3.out.block k (by omega))
  have HG : Hid ((((w.alloc (.cells MsgR.zero.cells 27)).alloc (.cells MsgR.zero.cells 27)).alloc (.cells #[.pointer (some ⟨w.heap.size + 1, 0, none⟩), .pointer (some ⟨w.heap.size + 1, 1, none⟩), .pointer (some ⟨w.heap.size + 1, 2, none⟩), .pointer (some ⟨w.heap.size + 1, 3, none⟩), .pointer (some ⟨w.heap.size + 1, 4, none⟩)] 107)).heap[w.heap.size + 1]? = some (.cells MsgR.zero.cells 27 (0, 0))) := by
    have := alloc_blk_old (alloc_blk (w.alloc (.cells MsgR.zero.cells 27)) (.cells MsgR.zero.cells 27)) (.cells #[.pointer (some ⟨w.heap.size + 1, 0, none⟩), .pointer (some ⟨w.heap.size + 1, 1, none⟩), .pointer (some ⟨w.heap.size + 1, 2, none⟩), .pointer (some ⟨w.heap.size + 1, 3, none⟩), .pointer (some ⟨w.heap.size + 1, 4, none⟩)] 107)
    rw [hs1] at this
    exact this
  have H0 : Hid ((((w.alloc (.cells MsgR.zero.cells 27)).alloc (.cells MsgR.zero.cells 27)).alloc (.cells #[.pointer (some ⟨w.heap.size + 1, 0, none⟩), .pointer (some ⟨w.heap.size + 1, 1, none⟩), .pointer (some ⟨w.heap.size + 1, 2, none⟩), .pointer (some ⟨w.heap.size + 1, 3, none⟩), .pointer (some ⟨w.heap.size + 1, 4, none⟩)] 107)).heap[w.heap.size]? = some (.cells MsgR.zero.cells 27 (0, 0))) := alloc_blk_old (alloc_blk_old (alloc_blk _ _) _) _
  have HPB : Hid ((((w.alloc (.cells MsgR.zero.cells 27)).alloc (.cells MsgR.zero.cells 27)).alloc (.cells #[.pointer (some ⟨w.heap.size + 1, 0, none⟩), .pointer (some ⟨w.heap.size + 1, 1, none⟩), .pointer (some ⟨w.heap.size + 1, 2, none⟩), .pointer (some ⟨w.heap.size + 1, 3, none⟩), .pointer (some ⟨w.heap.size + 1, 4, none⟩)] 107)).heap[w.heap.size + 2]? = some (.cells #[.pointer (some ⟨w.heap.size + 1, 0, none⟩), .pointer (some ⟨w.heap.size + 1, 1, none⟩), .pointer (some ⟨w.heap.size + 1, 2, none⟩), .pointer (some ⟨w.heap.size + 1, 3, none⟩), .pointer (some ⟨w.heap.size + 1, 4, none⟩)] 107 (0, 0))) := by
    have := alloc_blk ((w.alloc (.cells MsgR.zero.cells 27)).alloc (.cells MsgR.zero.cells 27)) (.cells #[.pointer (some ⟨w.heap.size + 1, 0, none⟩), .pointer (some ⟨w.heap.size + 1, 1, none⟩), .pointer (some ⟨w.heap.size + 1, 2, none⟩), .pointer (some ⟨w.heap.size + 1, 3, none⟩), .pointer (some ⟨w.heap.size + 1, 4, none⟩)] 107)
    rw [hs2] at this
    exact this
  clear h hs1 hs2 hL37
  go_enter Try.func45, Try.ntmps45
  go_wp2_with (first | refine wpList_alloc_row rfl 27 rfl _ HZM.out ?_ | fail)
  change Calls _ _ _ (((w.alloc (.cells MsgR.zero.cells 27)).alloc (.cells MsgR.zero.cells 27)).alloc (.cells #[.pointer (some ⟨w.heap.size + 1, 0, none⟩), .pointer (some ⟨w.heap.size + 1, 1, none⟩), .pointer (some ⟨w.heap.size + 1, 2, none⟩), .pointer (some ⟨w.heap.size + 1, 3, none⟩), .pointer (some ⟨w.heap.size + 1, 4, none⟩)] 107)) _
  generalize (((w.alloc (.cells MsgR.zero.cells 27)).alloc (.cells MsgR.zero.cells 27)).alloc (.cells #[.pointer (some ⟨w.heap.size + 1, 0, none⟩), .pointer (some ⟨w.heap.size + 1, 1, none⟩), .pointer (some ⟨w.heap.size + 1, 2, none⟩), .pointer (some ⟨w.heap.size + 1, 3, none⟩), .pointer (some ⟨w.heap.size + 1, 4, none⟩)] 107)) = w3 at *
  refine (rdNums_str r (w.heap.size + 2) [(w.heap.size + 1, 0), (w.heap.size + 1, 1), (w.heap.size + 1, 2), (w.heap.size + 1, 3), (w.heap.size + 1, 4)] L w3 HR.out (fun j p hp => ?_) (fun p hp => ?_) (by omega) (by show 5 < 1000; decide)).mono ?_
  · rw [cell_blk HPB.out]
    match j, hp with
    | 0, hp => cases hp; rfl
    | 1, hp => cases hp; rfl
    | 2, hp => cases hp; rfl
    | 3, hp => cases hp; rfl
    | 4, hp => cases hp; rfl
    | j + 5, hp => cases hp
  · simp only [List.mem_cons, List.not_mem_nil, or_false] at hp
    rcases hp with rfl | rfl | rfl | rfl | rfl
    · exact ⟨⟨_, _, _, HG.out, MsgR.at0 _⟩, by simp; omega, by simp⟩
    · exact ⟨⟨_, _, _, HG.out, MsgR.at1 _⟩, by simp; omega, by simp⟩
    · exact ⟨⟨_, _, _, HG.out, MsgR.at2 _⟩, by simp; omega, by simp⟩
    · exact ⟨⟨_, _, _, HG.out, MsgR.at3 _⟩, by simp; omega, by simp⟩
    · exact ⟨⟨_, _, _, HG.out, MsgR.at4 _⟩, by simp; omega, by simp⟩
  rintro e w4 ⟨rfl, zs, L4, hzl, hzi, hr4, ht4, hl4, hk4, hs4⟩
  obtain ⟨k, f, t, s, v, rfl⟩ : ∃ k f t s v, zs = [k, f, t, s, v] := by
    match zs, hzl with
    | [k, f, t, s, v], _ => exact ⟨k, f, t, s, v, rfl⟩
  obtain ⟨m4, HM4⟩ : ∃ m4 : MsgR, Hid (m4 = { MsgR.zero with k := k, f := f, t := t, s := s, v := v }) := ⟨_, rfl⟩
  have hg4 : (((((w3.setCell ⟨w.heap.size + 1, 0, none⟩ (.int .i64 k)).setCell ⟨w.heap.size + 1, 1, none⟩ (.int .i64 f)).setCell ⟨w.heap.size + 1, 2, none⟩ (.int .i64 t)).setCell ⟨w.heap.size + 1, 3, none⟩ (.int .i64 s)).setCell ⟨w.heap.size + 1, 4, none⟩ (.int .i64 v)).heap[w.heap.size + 1]? = some (.cells m4.cells 27 (0, 0)) := by
    have a0 := set_blk HG.out 0 (.int .i64 k)
    rw [← MsgR.set_k] at a0
    have a1 := set_blk a0 1 (.int .i64 f)
    rw [← MsgR.set_f] at a1
    have a2 := set_blk a1 2 (.int .i64 t)
    rw [← MsgR.set_t] at a2
    have a3 := set_blk a2 3 (.int .i64 s)
    rw [← MsgR.set_s] at a3
    have a4 := set_blk a3 4 (.int .i64 v)
    rw [← MsgR.set_v] at a4
    rw [HM4.out]
    exact a4
  have hn4 : ∀ q, q ≠ w.heap.size + 1 → (setN w3 [(w.heap.size + 1, 0), (w.heap.size + 1, 1), (w.heap.size + 1, 2), (w.heap.size + 1, 3), (w.heap.size + 1, 4)] [k, f, t, s, v]).heap[q]? = w3.heap[q]? := fun q hq => by
    show (((((w3.setCell _ _).setCell _ _).setCell _ _).setCell _ _).setCell _ _).heap[q]? = _
    rw [Below.heap_setCell _ _ _ _ hq, Below.heap_setCell _ _ _ _ hq, Below.heap_setCell _ _ _ _ hq, Below.heap_setCell _ _ _ _ hq, Below.heap_setCell _ _ _ _ hq]
  have hz4 : (setN w3 [(w.heap.size + 1, 0), (w.heap.size + 1, 1), (w.heap.size + 1, 2), (w.heap.size + 1, 3), (w.heap.size + 1, 4)] [k, f, t, s, v]).heap.size = w3.heap.size := by simp [setN, World.setCell]
  have HG4 : Hid (w4.heap[w.heap.size + 1]? = some (.cells m4.cells 27 (0, 0))) := (hk4.block _ (by rw [hz4, HS3.out]; omega) (by omega)).trans hg4
  have H04 : Hid (w4.heap[w.heap.size]? = some (.cells MsgR.zero.cells 27 (0, 0))) := ((hk4.block _ (by rw [hz4, HS3.out]; omega) (by omega)).trans (hn4 _ (by omega))).trans H0.out
  have HW4 : Hid (Below r w w4) := (HB3.out.mono (by omega)).trans ⟨hk4.os, hk4.tape, hk4.output, by rw [hs4]; exact Nat.le_refl _, fun q hq => (hk4.block q (by rw [hz4, HS3.out]; omega) (by omega)).trans (hn4 q (by omega))⟩
  have HX4 : Hid (RdL w4 r L4 ∧ Took L L4 [k, f, t, s, v] ∧ L4.length ≤ L.length ∧ (inI k ∧ inI f ∧ inI t ∧ inI s ∧ inI v) ∧ w4.heap.size = w.heap.size + 3) := ⟨hr4, ht4, hl4, ⟨hzi k (by simp), hzi f (by simp), hzi t (by simp), hzi s (by simp), hzi v (by simp)⟩, by rw [hs4, HS3.out]⟩
  clear hzl hzi hr4 ht4 hl4 hk4 hs4 hg4 hn4 hz4 HG H0 HR HB3 HS3 HPB
  go_wp2_with fail
  refine (rdBytes_str r L4 w4 HX4.out.1).mono ?_
  rintro e w5 ⟨v5, rfl, P, hO, hDl, hDb, hk5, L5, hr5, ht5, hl5⟩
  have hz4 := HX4.out.2.2.2.2
  obtain ⟨va, vc, rfl, hvc, hvR, hvb⟩ := hO.form2
  have HG5 : Hid (w5.heap[w.heap.size + 1]? = some (.cells m4.cells 27 (0, 0))) := (hk5.block _ (by omega) (by omega)).trans HG4.out
  have H05 : Hid (w5.heap[w.heap.size]? = some (.cells MsgR.zero.cells 27 (0, 0))) := (hk5.block _ (by omega) (by omega)).trans H04.out
  have HW5 : Hid (Below r w w5) := HW4.out.trans (hk5.below (Nat.le_refl _) (by omega))
  have hs5 : w.heap.size + 3 ≤ w5.heap.size := by have := hk5.size; omega
  have HX5 : Hid (RdL w5 r L5 ∧ (∀ D' R, NumOk (D'.length : Int) → L4 = num (D'.length : Int) ++ (D' ++ R) → P = D' ∧ L5 = R) ∧ L5.length ≤ L.length) := ⟨hr5, ht5, by have := HX4.out.2.2.1; omega⟩
  have HP5 : Hid (P.length ≤ L.length ∧ (∀ x ∈ P, 0 ≤ x ∧ x < 256) ∧ P.length ≤ vc ∧ RowF w5 va P vc ∧ ∀ ad, va = some ad → w.heap.size + 3 ≤ ad.block ∧ ad.block < w5.heap.size) := ⟨by have := HX4.out.2.2.1; omega, hDb, hvc, hO.rowF hvR, fun ad e => by have := hvb ad e; omega⟩
  obtain ⟨pl, HPL⟩ : ∃ pl, Hid (P.length = pl) := ⟨_, rfl⟩
  have cg : w5.cell? ⟨w.heap.size + 1, 5, none⟩ = some (.slice m4.va m4.vl m4.vc) := (cell_blk HG5.out _).trans (MsgR.at5 _)
  have fg : w5.frozen? ⟨w.heap.size + 1, 5, none⟩ = false := frozen_blk HG5.out _
  obtain ⟨m5, HM5⟩ : ∃ m5 : MsgR, Hid (m5 = { m4 with va := va, vl := pl, vc := vc }) := ⟨_, rfl⟩
  have HG6 : Hid ((w5.setCell ⟨w.heap.size + 1, 5, none⟩ (.slice va pl vc)).heap[w.heap.size + 1]? = some (.cells m5.cells 27 (0, 0))) := by rw [HM5.out, MsgR.set_va]; exact set_blk HG5.out _ _
  have HN6 : Hid ((∀ q, q ≠ w.heap.size + 1 → (w5.setCell ⟨w.heap.size + 1, 5, none⟩ (.slice va pl vc)).heap[q]? = w5.heap[q]?) ∧ (w5.setCell ⟨w.heap.size + 1, 5, none⟩ (.slice va pl vc)).heap.size = w5.heap.size ∧ Below r w (w5.setCell ⟨w.heap.size + 1, 5, none⟩ (.slice va pl vc))) := ⟨fun q hq => Below.heap_setCell _ _ _ _ hq, by simp [World.setCell], HW5.out.setCell (p := ⟨w.heap.size + 1, 5, none⟩) (by simp; omega) _⟩
  rw [HPL.out]
  clear hO hDl hDb hk5 hr5 ht5 hl5 hvc hvR hvb HG4 H04 HW4
  go_upto_region 4 with fail
  generalize w5.setCell ⟨w.heap.size + 1, 5, none⟩ (.slice va pl vc) = w6 at *
  have HR6 : Hid (RdL w6 r L5) := HX5.out.1.same (fun q hq => HN6.out.1 q (by omega))
  have hs6 : w6.heap.size = w5.heap.size := HN6.out.2.1
  clear cg fg
  go_wp2_with fail
  refine (takeVotes_str r L5 w6 HR6.out).mono ?_
  rintro e w7 ⟨ya, yl, yc, ys, rfl, hyl, hy10, hyat, hywf, hyfr, hk7, L7, hr7, hl7, ht7⟩
  have HG7 : Hid (w7.heap[w.heap.size + 1]? = some (.cells m5.cells 27 (0, 0))) := (hk7.block _ (by omega) (by omega)).trans HG6.out
  have H07 : Hid (w7.heap[w.heap.size]? = some (.cells MsgR.zero.cells 27 (0, 0))) := ((hk7.block _ (by omega) (by omega)).trans (HN6.out.1 _ (by omega))).trans H05.out
  have hs7 : w5.heap.size ≤ w7.heap.size := by have := hk7.size; omega
  have HP7 : Hid (P.length ≤ L.length ∧ (∀ x ∈ P, 0 ≤ x ∧ x < 256) ∧ P.length ≤ vc ∧ RowF w7 va P vc ∧ ∀ ad, va = some ad → w.heap.size + 3 ≤ ad.block ∧ ad.block < w7.heap.size) := by
    obtain ⟨a1, a2, a3, a4, a5⟩ := HP5.out
    refine ⟨a1, a2, a3, a4.same (fun ad e => ?_), fun ad e => by have := a5 ad e; omega⟩
    have := a5 ad e
    exact (hk7.block _ (by omega) (by omega)).trans (HN6.out.1 _ (by omega))
  have HV7 : Hid (yl = ys.length ∧ ys.length ≤ 10 ∧ VotesAt w7 ya ys ∧ (∀ y ∈ ys, y.wf ∧ VBytes y) ∧ ∀ ad, ya = some ad → w.heap.size + 3 ≤ ad.block) := ⟨hyl, by omega, hyat, hywf, fun ad e => by
    rcases hyfr with h | ⟨g, h, hg⟩
    · rw [h] at e; cases e
    · rw [h] at e; cases e; show w.heap.size + 3 ≤ g; omega⟩
  have HX7 : Hid (RdL w7 r L7 ∧ L7.length ≤ L5.length ∧ ∀ (zs : List VoteR) (R : List Int), zs.length ≤ 10 → (∀ z ∈ zs, VoteOk z) → L5 = votesL zs ++ R → VotesEq ys zs ∧ L7 = R) := ⟨hr7, hl7, ht7⟩
  have HW7 : Hid (Below r w w7) := HN6.out.2.2.trans (hk7.below (Nat.le_refl _) (by omega))
  have cg : w7.cell? ⟨w.heap.size + 1, 6, none⟩ = some (.slice m5.ya m5.yl m5.yc) := (cell_blk HG7.out _).trans (MsgR.at6 _)
  have fg : w7.frozen? ⟨w.heap.size + 1, 6, none⟩ = false := frozen_blk HG7.out _
  obtain ⟨m7, HM7⟩ : ∃ m7 : MsgR, Hid (m7 = { m5 with ya := ya, yl := yl, yc := yc }) := ⟨_, rfl⟩
  have HG8 : Hid ((w7.setCell ⟨w.heap.size + 1, 6, none⟩ (.slice ya yl yc)).heap[w.heap.size + 1]? = some (.cells m7.cells 27 (0, 0))) := by rw [HM7.out, MsgR.set_ya]; exact set_blk HG7.out _ _
  have HN8 : Hid ((∀ q, q ≠ w.heap.size + 1 → (w7.setCell ⟨w.heap.size + 1, 6, none⟩ (.slice ya yl yc)).heap[q]? = w7.heap[q]?) ∧ (w7.setCell ⟨w.heap.size + 1, 6, none⟩ (.slice ya yl yc)).heap.size = w7.heap.size ∧ Below r w (w7.setCell ⟨w.heap.size + 1, 6, none⟩ (.slice ya yl yc))) := ⟨fun q hq => Below.heap_setCell _ _ _ _ hq, by simp [World.setCell], HW7.out.setCell (p := ⟨w.heap.size + 1, 6, none⟩) (by simp; omega) _⟩
  clear hyl hy10 hyat hywf hyfr hk7 hr7 hl7 ht7 HG5 HG6 H05 HP5 HN6 HR6 HW5
  go_upto_region 5 with fail
  generalize w7.setCell ⟨w.heap.size + 1, 6, none⟩ (.slice ya yl yc) = w8 at *
  have HR8 : Hid (RdL w8 r L7) := HX7.out.1.same (fun q hq => HN8.out.1 q (by omega))
  have hs8 : w8.heap.size = w7.heap.size := HN8.out.2.1
  clear cg fg
  go_wp2_with fail
  refine (takeHash_str r L7 w8 HR8.out).mono ?_
  rintro e w9 ⟨D, rfl, hD, ⟨L9, hr9, ht9, hl9⟩, hk9⟩
  have HG9 : Hid (w9.heap[w.heap.size + 1]? = some (.cells m7.cells 27 (0, 0))) := (hk9.block _ (by omega) (by omega)).trans HG8.out
  have H09 : Hid (w9.heap[w.heap.size]? = some (.cells MsgR.zero.cells 27 (0, 0))) := ((hk9.block _ (by omega) (by omega)).trans (HN8.out.1 _ (by omega))).trans H07.out
  have hs9 : w7.heap.size ≤ w9.heap.size := by have := hk9.size; omega
  have HVB : Hid (∀ ad, ya = some ad → ys ≠ [] → ad.block < w7.heap.size) := fun ad e hne => by
    obtain ⟨b, o, e2, hv⟩ := HV7.out.2.2.1 hne
    rw [e] at e2
    cases e2
    have hpos : 0 < ys.length := List.length_pos_iff.2 hne
    have := hv 0 hpos 0 (by decide)
    rw [VoteR.at0] at this
    exact World.block_lt_of_cell? w7 _ this
  have HP9 : Hid (RowF w9 va P vc ∧ VotesAt w9 ya ys) := by
    refine ⟨HP7.out.2.2.2.1.same (fun ad e => ?_), fun hne => ?_⟩
    · have := HP7.out.2.2.2.2 ad e
      exact (hk9.block _ (by omega) (by omega)).trans (HN8.out.1 _ (by omega))
    · refine (HV7.out.2.2.1.same (fun ad e => ?_)) hne
      have h1 := HVB.out ad e hne
      have h2 := HV7.out.2.2.2.2 ad e
      exact (hk9.block _ (by omega) (by omega)).trans (HN8.out.1 _ (by omega))
  have HX9 : Hid (TookB L7 L9 D 32 ∧ (∀ x ∈ D, 0 ≤ x ∧ x < 256)) := ⟨ht9, hD⟩
  have HW9 : Hid (Below r w w9) := HN8.out.2.2.trans (hk9.below (Nat.le_refl _) (by omega))
  clear hr9 ht9 hl9 hk9 hD HG7 HG8 H07 HN8 HR8 HW7
  go_upto_region 6 with (refine wpList_store_tagMP rfl _ _ rfl (w.heap.size + 1) (hashF D) m7 ?_ ?_ 27 HG9.out ?_; rfl; rfl)
  intro w10 hg10 hk10
  obtain ⟨m, HM⟩ : ∃ m : MsgR, Hid (m = { m7 with tag := hashF D }) := ⟨_, rfl⟩
  have HG10 : Hid (w10.heap[w.heap.size + 1]? = some (.cells m.cells 27 (0, 0))) := by rw [HM.out]; exact hg10
  have H10 : Hid (w10.heap[w.heap.size]? = some (.cells MsgR.zero.cells 27 (0, 0))) := (hk10.block _ (by have := lt_blk H09.out; omega) (by omega)).trans H09.out
  have hs10 : w9.heap.size ≤ w10.heap.size := hk10.size
  have HP10 : Hid (RowF w10 va P vc ∧ VotesAt w10 ya ys) := by
    refine ⟨HP9.out.1.same (fun ad e => ?_), fun hne => ?_⟩
    · have := HP7.out.2.2.2.2 ad e
      exact hk10.block _ (by omega) (by omega)
    · refine (HP9.out.2.same (fun ad e => ?_)) hne
      have h1 := HVB.out ad e hne
      have h2 := HV7.out.2.2.2.2 ad e
      exact hk10.block _ (by omega) (by omega)
  have HW10 : Hid (Below r w w10) := HW9.out.trans (hk10.below (by omega) (by have := lt_blk H09.out; omega))
  clear hg10 hk10 HG9 H09 HP9 HW9
  go_wp2_with (first | (refine wpList_load_msgP rfl _ rfl (w.heap.size + 1) m 27 (0, 0) ?_ ?_ ?_; rfl; exact HG10.out) | (refine wpList_store_msgP rfl _ _ rfl w.heap.size m MsgR.zero ?_ ?_ H10.out ?_; rfl; rfl))
  have HE : Hid ((w10.setRow w.heap.size m.cells).heap[w.heap.size]? = some (.cells m.cells 27 (0, 0))) := setRow_blk H10.out _
  have hWE : Below r w (w10.setRow w.heap.size m.cells) := HW10.out.trans ((keeps_setRow w10 _ _).below (by omega) (by have := lt_blk H10.out; omega))
  have hkE := keeps_setRow w10 w.heap.size m.cells
  have hRF : RowF (w10.setRow w.heap.size m.cells) va P vc := HP10.out.1.same (fun ad e => by
    have := HP7.out.2.2.2.2 ad e
    exact hkE.block _ (by omega) (by omega))
  have hme : m = ⟨k, f, t, s, v, va, pl, vc, ya, yl, yc, hashF D⟩ := by rw [HM.out, HM7.out, HM5.out, HM4.out]
  obtain ⟨d, hd1, hd2⟩ := msg_row
  refine bodyPost_ret (v := .agg m.cells) ?_ rfl ⟨m, P, ys, rfl, ?_, HP7.out.2.1, fun y hy => (HV7.out.2.2.2.1 y hy).2, fun j => by rw [hme]; exact hashF_bytes HX9.out.2 j, ⟨fun ad e => ?_, fun ad e => ?_⟩, HV7.out.2.1, HP7.out.1, by rw [hme]; exact HP7.out.2.2.1, by rw [show m.va = va by rw [hme]]; exact hRF.2, ?_, hWE⟩
  · exact results_cell_row rfl _ _ w.heap.size _ _ _ d rfl HE.out hd1 (by cases d <;> simp_all [TypeDesc.isRow]) (msg_info m)
  · have hlen : P.length < 137438953472 := by have := HP7.out.1; have := HL37.out; omega
    rw [hme]
    refine ⟨HPL.out.symm, ?_, HV7.out.1, fun hne => ?_, HX4.out.2.2.2.1, fun y hy => (HV7.out.2.2.2.1 y hy).1, hlen, by have := HV7.out.2.1; omega⟩
    · rw [← hme]
      exact (show m.va = va by rw [hme]) ▸ (show m.vc = vc by rw [hme]) ▸ hRF.1
    · rw [← hme]
      have hya : m.ya = ya := by rw [hme]
      rw [hya]
      refine (HP10.out.2.same (fun ad e => ?_)) hne
      have h1 := HVB.out ad e hne
      have h2 := HV7.out.2.2.2.2 ad e
      exact hkE.block _ (by omega) (by omega)
  · rw [hme] at e
    have := HP7.out.2.2.2.2 ad e
    omega
  · rw [hme] at e
    have := HV7.out.2.2.2.2 ad e
    omega
  · intro m1 P1 ys1 R n1 n2 n3 n4 n5 n6 n7 n8 e
    obtain ⟨a1, a2⟩ := HX4.out.2.1 [m1.k, m1.f, m1.t, m1.s, m1.v] _ (numOk_cons n1 (numOk_cons n2 (numOk_cons n3 (numOk_cons n4 (numOk_cons n5 numOk_nil))))) rfl e
    obtain ⟨a3, a4⟩ := HX5.out.2.1 P1 _ n6 a2
    obtain ⟨a5, a6⟩ := HX7.out.2.2 ys1 _ n7 n8 a4
    obtain ⟨a7, -⟩ := HX9.out.1 _ _ (by rw [ofF_length]; rfl) a6
    injection a1 with x1 y1; injection y1 with x2 y2; injection y2 with x3 y3; injection y3 with x4 y4; injection y4 with x5 y5
    rw [hme]
    exact ⟨x1, x2, x3, x4, x5, a3, a5, fun j hj => by show hashF D j = _; unfold hashF; rw [a7, ofF_getD hj]⟩
end Go.Proofs.Ytkjocpadmlobgaa
