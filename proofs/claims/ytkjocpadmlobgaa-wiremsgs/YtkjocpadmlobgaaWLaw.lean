/- Arguments of seneschallaw5's laws, as they come in: marks, votes, messages, digests. -/
import Derived.Test.YtkjocpadmlobgaaWireLaw
import Derived.Test.YtkjocpadmlobgaaWireP
import Derived.Deep.Slices
namespace Go.Proofs.Ytkjocpadmlobgaa
open Go.ChangeShapes Go.WideShapes Go.ChangeAt Go.RowKit Go.Dig Go.Deep

/-- a vote's digests are bytes -/
def VBytes (y : VoteR) : Prop := ∀ j, j < 32 → (0 ≤ y.sum j ∧ y.sum j < 256) ∧ (0 ≤ y.tag j ∧ y.tag j < 256)
/-- a message that came in, and what lies behind it -/
structure MsgIn (w : World) (m : MsgR) (P : List Int) (ys : List VoteR) : Prop where
  vl : m.vl = P.length
  val : Rowed w m.va P m.vc
  yl : m.yl = ys.length
  vot : VotesAt w m.ya ys
  wf : inI m.k ∧ inI m.f ∧ inI m.t ∧ inI m.s ∧ inI m.v
  ywf : ∀ y ∈ ys, y.wf
  pb : ∀ x ∈ P, 0 ≤ x ∧ x < 256
  yb : ∀ y ∈ ys, VBytes y
  tb : ∀ j, j < 32 → 0 ≤ m.tag j ∧ m.tag j < 256
theorem MsgIn.at {w : World} {m : MsgR} {P : List Int} {ys : List VoteR} (h : MsgIn w m P ys) (h1 : m.vl < 137438953472) (h2 : m.yl < 1073741824) : MsgAt w m P ys := ⟨h.vl, h.val, h.yl, h.vot, h.wf, h.ywf, by rw [← h.vl]; exact h1, by rw [← h.yl]; exact h2⟩
theorem one_cell {cs : List Value} {o : Nat} {c : Value} (h : cs[o]? = some c) : (cs.drop o).take 1 = [c] := by
  have ho := (List.getElem?_eq_some_iff.1 h).1
  rw [List.drop_eq_getElem_cons ho]
  have := (List.getElem?_eq_some_iff.1 h).2
  simp [this]
set_option maxRecDepth 100000 in
theorem okWide_array {w : World} {r : Reach} {base : Nat} {t : TypeId} {v : Value} {n : Nat} {e : TypeId} (ht : Try.prog.underlying t = some (.array n e)) (h : Value.okWide Try.prog w r base t v) : ∃ cs, v = .agg cs ∧ cs.size = Try.prog.cellsOf t := by
  simp only [Value.okWide, ht] at h
  obtain ⟨cs, h1, h2, _⟩ := h
  exact ⟨cs, h1, h2⟩
set_option maxRecDepth 100000 in
/-- a digest that came in -/
theorem open_hash {H : Type} {enc : TypeId × Value → H} {W : World} {r : Reach} {b0 base : Nat} {spare : Nat → Bool} {held : Bool} {v : Value} {d : DataW H} {ps : List MemPlace} (hval : Value.okWide Try.prog W r b0 25 v) (h : DataW.Trod enc Try.prog W base spare held 25 v d ps) :
    ∃ f : Nat → Int, v = .agg (row .u8 32 f) ∧ ∀ j, j < 32 → 0 ≤ f j ∧ f j < 256 := by
  obtain ⟨cs, rfl, hsz⟩ := okWide_array (n := 32) (e := 5) (by kernel_rfl) hval
  have hsz' : cs.size = 32 := hsz.trans (by kernel_rfl)
  obtain ⟨fuel, hf⟩ := h
  obtain ⟨xs, m, rfl, _, hl, hx, hi⟩ := DataW.trod_array (n := 32) (e := 5) (by kernel_rfl) hf
  have hc1 : Try.prog.cellsOf 5 = 1 := by kernel_rfl
  have hel : ∀ j, j < 32 → ∃ y : Int, cs[j]? = some (.int .u8 y) ∧ 0 ≤ y ∧ y < 256 := fun j hj => by
    have hj' := hi j hj
    rw [hc1, Nat.mul_one, List.getElem?_eq_getElem (by omega)] at hj'
    obtain ⟨y, hy, _, hw⟩ := DataW.trod_int Try.underlying5 hj'
    have hjs : j < cs.size := by omega
    have e : ((Value.agg cs).cells.toList.drop j).take 1 = [cs[j]] := by
      simp only [Value.cells]
      rw [List.drop_eq_getElem_cons (by simpa using hjs)]
      simp
    rw [e] at hy
    simp at hy
    exact ⟨y, by rw [Array.getElem?_eq_getElem hjs, hy], wf_u8 hw⟩
  refine ⟨fun j => match cs[j]? with | some (.int _ y) => y | _ => 0, ?_, fun j hj => ?_⟩
  · congr 1
    apply Array.ext_getElem?
    intro j
    by_cases hj : j < 32
    · obtain ⟨y, hy, _⟩ := hel j hj
      rw [row_get hj, hy]
    · rw [row_get_none (by omega), Array.getElem?_eq_none (by omega)]
  · obtain ⟨y, hy, hb⟩ := hel j hj
    simp only [hy]; exact hb
section
variable {H : Type} {enc : TypeId × Value → H} {W : World} {base : Nat} {spare : Nat → Bool} {held : Bool} {fuel : Nat} {cs : List Value} {x : DataW H × List MemPlace}
theorem inI_of {n : Int} (h : (Lit.int .i64 n).wf = true) : inI n := wf_i64 h
/-- a number among cells -/
theorem int_cell (o : Nat) (h : DataW.trod enc Try.prog W base spare held fuel 3 ((cs.drop o).take (Try.prog.cellsOf 3)) = some x) : ∃ z : Int, cs[o]? = some (.int .i64 z) ∧ inI z := by
  have hc : Try.prog.cellsOf 3 = 1 := by kernel_rfl
  obtain ⟨z, e, _, hw⟩ := DataW.trod_int Try.underlying3 h
  rw [hc] at e
  refine ⟨z, ?_, inI_of hw⟩
  have := congrArg (fun l => l[0]?) e
  simpa [List.getElem?_take, List.getElem?_drop] using this
set_option maxRecDepth 100000 in
/-- a digest among cells -/
theorem hash_cells (o : Nat) (h : DataW.trod enc Try.prog W base spare held fuel 25 ((cs.drop o).take (Try.prog.cellsOf 25)) = some x) : ∃ f : Nat → Int, ∀ j, j < 32 → cs[o + j]? = some (.int .u8 (f j)) ∧ 0 ≤ f j ∧ f j < 256 := by
  have hc : Try.prog.cellsOf 25 = 32 := by kernel_rfl
  have hc1 : Try.prog.cellsOf 5 = 1 := by kernel_rfl
  rw [hc] at h
  obtain ⟨xs, m, rfl, _, hl, hx, hi⟩ := DataW.trod_array (n := 32) (e := 5) (by kernel_rfl) h
  have hel : ∀ j, j < 32 → ∃ y : Int, cs[o + j]? = some (.int .u8 y) ∧ 0 ≤ y ∧ y < 256 := fun j hj => by
    have hj' := hi j hj
    rw [hc1, Nat.mul_one, List.getElem?_eq_getElem (by omega)] at hj'
    obtain ⟨y, hy, _, hw⟩ := DataW.trod_int Try.underlying5 hj'
    have e := congrArg (fun l => l[0]?) hy
    simp only [List.getElem?_take, List.getElem?_drop, Nat.add_zero] at e
    simp [hj] at e
    exact ⟨y, e, wf_u8 hw⟩
  refine ⟨fun j => match cs[o + j]? with | some (.int _ y) => y | _ => 0, fun j hj => ?_⟩
  obtain ⟨y, hy, h0, h1⟩ := hel j hj
  simp only [hy]
  exact ⟨trivial, h0, h1⟩
set_option maxRecDepth 100000 in
/-- a mark's cells -/
theorem mark_cells (h : DataW.trod enc Try.prog W base spare held fuel 44 cs = some x) : ∃ k p e t : Int, cs = [.int .i64 k, .int .i64 p, .int .i64 e, .int .i64 t] ∧ inI k ∧ inI p ∧ inI e ∧ inI t := by
  obtain ⟨xs, n, _, rfl, hl, hlen, hf⟩ := DataW.trod_struct Try.underlying44 h
  have hc : Try.prog.cellsOf 44 = 4 := by kernel_rfl
  rw [hc] at hl
  match xs, hlen with
  | [y0, y1, y2, y3], _ =>
    obtain ⟨k, e0, i0⟩ := int_cell 0 (hf 0 _ rfl)
    obtain ⟨p, e1, i1⟩ := int_cell 1 (hf 1 _ rfl)
    obtain ⟨e, e2, i2⟩ := int_cell 2 (hf 2 _ rfl)
    obtain ⟨t, e3, i3⟩ := int_cell 3 (hf 3 _ rfl)
    match cs, hl with
    | [c0, c1, c2, c3], _ =>
      simp at e0 e1 e2 e3
      subst e0 e1 e2 e3
      exact ⟨k, p, e, t, rfl, i0, i1, i2, i3⟩
set_option maxRecDepth 100000 in
/-- a vote's cells -/
theorem vote_cells (h : DataW.trod enc Try.prog W base spare held fuel 62 cs = some x) : ∃ y : VoteR, cs = y.cells.toList ∧ y.wf ∧ VBytes y := by
  obtain ⟨xs, n, _, rfl, hl, hlen, hf⟩ := DataW.trod_struct Try.underlying62 h
  have hc : Try.prog.cellsOf 62 = 68 := by kernel_rfl
  rw [hc] at hl
  match xs, hlen with
  | [y0, y1, y2, y3, y4, y5], _ =>
    obtain ⟨k, e0, i0⟩ := int_cell 0 (hf 0 _ rfl)
    obtain ⟨s, e1, i1⟩ := int_cell 1 (hf 1 _ rfl)
    obtain ⟨v, e2, i2⟩ := int_cell 2 (hf 2 _ rfl)
    obtain ⟨sum, e3⟩ := hash_cells 3 (hf 3 _ rfl)
    obtain ⟨f, e4, i4⟩ := int_cell 35 (hf 4 _ rfl)
    obtain ⟨tag, e5⟩ := hash_cells 36 (hf 5 _ rfl)
    refine ⟨⟨k, s, v, sum, f, tag⟩, List.ext_getElem? fun j => ?_, ⟨i0, i1, i2, i4⟩, fun j hj => ⟨(e3 j hj).2, (e5 j hj).2⟩⟩
    show cs[j]? = (VoteR.cells ⟨k, s, v, sum, f, tag⟩).toList[j]?
    rw [Array.getElem?_toList (xs := VoteR.cells ⟨k, s, v, sum, f, tag⟩)]
    by_cases h68 : j < 68
    · by_cases h3 : j < 3
      · have : j = 0 ∨ j = 1 ∨ j = 2 := by omega
        rcases this with rfl | rfl | rfl
        · rw [e0, VoteR.at0]
        · rw [e1, VoteR.at1]
        · rw [e2, VoteR.at2]
      · by_cases h35 : j < 35
        · have := (e3 (j - 3) (by omega)).1
          rw [show 3 + (j - 3) = j by omega] at this
          have h2 := VoteR.atSum ⟨k, s, v, sum, f, tag⟩ (j := j - 3) (by omega)
          rw [show 3 + (j - 3) = j by omega] at h2
          rw [this, h2]
        · by_cases h36 : j = 35
          · subst h36; rw [e4, VoteR.at35]
          · have := (e5 (j - 36) (by omega)).1
            rw [show 36 + (j - 36) = j by omega] at this
            have h2 := VoteR.atTag ⟨k, s, v, sum, f, tag⟩ (j := j - 36) (by omega)
            rw [show 36 + (j - 36) = j by omega] at h2
            rw [this, h2]
    · rw [List.getElem?_eq_none (by omega), Array.getElem?_eq_none (by rw [VoteR.size]; omega)]
theorem add_add (a : Addr) (i j : Nat) : (a.add i).add j = a.add (i + j) := by
  unfold Addr.add
  by_cases hi : i = 0
  · subst hi; simp
  · by_cases hj : j = 0
    · subst hj; simp [hi]
    · simp [hi, hj, Nat.add_assoc]
theorem cells_vote : Try.prog.cellsOf 62 = 68 := by kernel_rfl
/-- a row of votes -/
theorem votes_cells {a : Option Addr} {len cap : Nat} (h : DataW.trod enc Try.prog W base spare held fuel 23 [.slice a len cap] = some x) : ∃ ys : List VoteR, len = ys.length ∧ VotesAt W a ys ∧ (∀ y ∈ ys, y.wf ∧ VBytes y) := by
  rcases open_slice Try.underlying23 h with ⟨hcs, _⟩ | ⟨ad, l, c, m, n, D, Pl, hcs, _, hl, hm, hmm, _, hx⟩
  · simp at hcs
    obtain ⟨rfl, rfl, rfl⟩ := hcs
    exact ⟨[], rfl, fun hp => absurd rfl hp, fun y hy => by cases hy⟩
  · simp at hcs
    obtain ⟨rfl, rfl, rfl⟩ := hcs
    have hlm : len ≤ m := by rw [hmm]; split <;> omega
    have each : ∀ i, i < len → ∃ y : VoteR, (∀ j, j < 68 → W.cell? (ad.add (i * 68 + j)) = y.cells[j]?) ∧ y.wf ∧ VBytes y := by
      intro i hi
      obtain ⟨cs', h1, h2⟩ := hx i (by omega)
      rw [cells_vote] at h1
      obtain ⟨_, hlen, hcell⟩ := World.cells?_some h1
      obtain ⟨y, hy, hyw⟩ := vote_cells h2
      refine ⟨y, fun j hj => ?_, hyw⟩
      have hc := hcell j hj
      rw [hy, Array.getElem?_toList] at hc
      rw [← hc, add_add]
    obtain ⟨f, hf, hfw⟩ : ∃ f : Nat → VoteR, (∀ i, i < len → ∀ j, j < 68 → W.cell? (ad.add (i * 68 + j)) = (f i).cells[j]?) ∧ ∀ i, i < len → (f i).wf ∧ VBytes (f i) := by
      refine ⟨fun i => if h : i < len then (each i h).choose else VoteR.zero, fun i hi => ?_, fun i hi => ?_⟩
      · simp only [dif_pos hi]
        exact (each i hi).choose_spec.1
      · simp only [dif_pos hi]
        exact (each i hi).choose_spec.2
    refine ⟨(List.range len).map f, by simp, fun hp => ?_, fun y hy => ?_⟩
    · have h0 : 0 < len := by
        have := List.length_pos_iff.2 hp
        simpa using this
      obtain ⟨g, off, sp⟩ := ad
      have hs : sp = none := by
        have h0 := hf 0 (by omega) 0 (by omega)
        rw [VoteR.at0] at h0
        have := spot_none h0
        simpa [Addr.add] using this
      subst hs
      refine ⟨g, off, rfl, fun j hj i hi => ?_⟩
      have hj' : j < len := by simpa using hj
      have := hf j hj' i hi
      rw [Addr.add_lit, ← Nat.add_assoc] at this
      rw [this]
      simp
    · obtain ⟨i, hi, rfl⟩ := List.mem_map.1 hy
      exact hfw i (by simpa using hi)
/-- a row of bytes -/
theorem bytes_cells {a : Option Addr} {len cap : Nat} (h : DataW.trod enc Try.prog W base spare held fuel 22 [.slice a len cap] = some x) : ∃ P : List Int, len = P.length ∧ Rowed W a P cap ∧ (∀ y ∈ P, 0 ≤ y ∧ y < 256) ∧ P.length ≤ cap ∧ cap ≤ maxLen := by
  rcases ChangeShapes.open_ints Try.underlying22 Try.underlying5 (by kernel_rfl) h with ⟨hcs, _⟩ | ⟨b, l, c, zs, hcs, _, hl, hm, hz, _, hcell, hwz⟩
  · simp at hcs
    obtain ⟨rfl, rfl, rfl⟩ := hcs
    exact ⟨[], rfl, .inl ⟨rfl, rfl, rfl⟩, (fun y hy => by cases hy), Nat.le_refl _, by unfold maxLen; omega⟩
  · simp at hcs
    obtain ⟨rfl, rfl, rfl⟩ := hcs
    have hz' : len ≤ zs.length := by rw [hz]; split <;> omega
    have hlen : (zs.take len).length = len := by simp; omega
    refine ⟨zs.take len, hlen.symm, .inr ⟨b, rfl, fun j hj => ?_⟩, fun y hy => wf_u8 (hwz y (List.mem_of_mem_take hy)), by rw [hlen]; exact hl, hm⟩
    rw [hlen] at hj
    rw [hcell j (by omega)]
    simp [List.getD, hj]
theorem slice_cell {t e : TypeId} {c0 : Value} (ht : Try.prog.underlying t = some (.slice e)) (h : DataW.trod enc Try.prog W base spare held fuel t [c0] = some x) : ∃ a l c, c0 = .slice a l c := by
  rcases open_slice ht h with ⟨hcs, _⟩ | ⟨ad, l, c, m, n, D, Pl, hcs, _⟩
  · simp at hcs; exact ⟨_, _, _, hcs⟩
  · simp at hcs; exact ⟨_, _, _, hcs⟩
set_option maxRecDepth 100000 in
/-- a message's cells -/
theorem msg_cells (h : DataW.trod enc Try.prog W base spare held fuel 27 cs = some x) : ∃ (m : MsgR) (P : List Int) (ys : List VoteR), cs = m.cells.toList ∧ MsgIn W m P ys := by
  obtain ⟨xs, n, _, rfl, hl, hlen, hf⟩ := DataW.trod_struct Try.underlying27 h
  have hc : Try.prog.cellsOf 27 = 39 := by kernel_rfl
  have hcb : Try.prog.cellsOf 22 = 1 := by kernel_rfl
  have hcv : Try.prog.cellsOf 23 = 1 := by kernel_rfl
  rw [hc] at hl
  match xs, hlen with
  | [y0, y1, y2, y3, y4, y5, y6, y7], _ =>
    obtain ⟨k, e0, i0⟩ := int_cell 0 (hf 0 _ rfl)
    obtain ⟨f, e1, i1⟩ := int_cell 1 (hf 1 _ rfl)
    obtain ⟨t, e2, i2⟩ := int_cell 2 (hf 2 _ rfl)
    obtain ⟨s, e3, i3⟩ := int_cell 3 (hf 3 _ rfl)
    obtain ⟨v, e4, i4⟩ := int_cell 4 (hf 4 _ rfl)
    have g5 := hf 5 _ rfl
    have g6 := hf 6 _ rfl
    obtain ⟨tag, e7⟩ := hash_cells 7 (hf 7 _ rfl)
    obtain ⟨c5, h5⟩ : ∃ c, cs[5]? = some c := ⟨_, List.getElem?_eq_getElem (by omega)⟩
    obtain ⟨c6, h6⟩ : ∃ c, cs[6]? = some c := ⟨_, List.getElem?_eq_getElem (by omega)⟩
    have t5 : (cs.drop 5).take 1 = [c5] := one_cell h5
    have t6 : (cs.drop 6).take 1 = [c6] := one_cell h6
    have g5' : DataW.trod enc Try.prog W base spare held n 22 ((cs.drop 5).take (Try.prog.cellsOf 22)) = some y5 := g5
    have g6' : DataW.trod enc Try.prog W base spare held n 23 ((cs.drop 6).take (Try.prog.cellsOf 23)) = some y6 := g6
    rw [hcb, t5] at g5'
    rw [hcv, t6] at g6'
    obtain ⟨va, vl, vc, rfl⟩ := slice_cell Try.underlying22 g5'
    obtain ⟨ya, yl, yc, rfl⟩ := slice_cell Try.underlying23 g6'
    obtain ⟨P, hP, hR, hPb, hPc, hPm⟩ := bytes_cells g5'
    obtain ⟨ys, hy, hv, hyw⟩ := votes_cells g6'
    refine ⟨⟨k, f, t, s, v, va, vl, vc, ya, yl, yc, tag⟩, P, ys, List.ext_getElem? fun j => ?_, ⟨hP, hR, hy, hv, ⟨i0, i1, i2, i3, i4⟩, fun y hm => (hyw y hm).1, hPb, fun y hm => (hyw y hm).2, fun j hj => (e7 j hj).2⟩⟩
    show cs[j]? = (MsgR.cells ⟨k, f, t, s, v, va, vl, vc, ya, yl, yc, tag⟩).toList[j]?
    rw [Array.getElem?_toList (xs := MsgR.cells ⟨k, f, t, s, v, va, vl, vc, ya, yl, yc, tag⟩)]
    by_cases h39 : j < 39
    · by_cases h7 : j < 7
      · have : j = 0 ∨ j = 1 ∨ j = 2 ∨ j = 3 ∨ j = 4 ∨ j = 5 ∨ j = 6 := by omega
        rcases this with rfl | rfl | rfl | rfl | rfl | rfl | rfl
        · rw [e0, MsgR.at0]
        · rw [e1, MsgR.at1]
        · rw [e2, MsgR.at2]
        · rw [e3, MsgR.at3]
        · rw [e4, MsgR.at4]
        · rw [h5, MsgR.at5]
        · rw [h6, MsgR.at6]
      · have := (e7 (j - 7) (by omega)).1
        rw [show 7 + (j - 7) = j by omega] at this
        have h2 := MsgR.atTag ⟨k, f, t, s, v, va, vl, vc, ya, yl, yc, tag⟩ (j := j - 7) (by omega)
        rw [show 7 + (j - 7) = j by omega] at h2
        rw [this, h2]
    · rw [List.getElem?_eq_none (by omega), Array.getElem?_eq_none (by rw [MsgR.size]; omega)]
end
section
variable {H : Type} {enc : TypeId × Value → H} {W : World} {r : Reach} {b0 base : Nat} {spare : Nat → Bool} {held : Bool} {v : Value} {d : DataW H} {ps : List MemPlace}
set_option maxRecDepth 100000 in
theorem okWide_struct {w : World} {r : Reach} {base : Nat} {t : TypeId} {v : Value} {fs : Array Field} (ht : Try.prog.underlying t = some (.struct fs)) (h : Value.okWide Try.prog w r base t v) : ∃ cs, v = .agg cs := by
  simp only [Value.okWide, ht] at h
  obtain ⟨cs, h1, _⟩ := h
  exact ⟨cs, h1⟩
set_option maxRecDepth 100000 in
theorem open_mark (hval : Value.okWide Try.prog W r b0 44 v) (h : DataW.Trod enc Try.prog W base spare held 44 v d ps) : ∃ k p e t : Int, v = .agg #[.int .i64 k, .int .i64 p, .int .i64 e, .int .i64 t] ∧ inI k ∧ inI p ∧ inI e ∧ inI t := by
  obtain ⟨cs, rfl⟩ := okWide_struct Try.underlying44 hval
  obtain ⟨fuel, hf⟩ := h
  obtain ⟨k, p, e, t, hc, hi⟩ := mark_cells hf
  refine ⟨k, p, e, t, ?_, hi⟩
  congr 1
  exact Array.toList_inj.1 hc
set_option maxRecDepth 100000 in
theorem open_vote (hval : Value.okWide Try.prog W r b0 62 v) (h : DataW.Trod enc Try.prog W base spare held 62 v d ps) : ∃ y : VoteR, v = .agg y.cells ∧ y.wf ∧ VBytes y := by
  obtain ⟨cs, rfl⟩ := okWide_struct Try.underlying62 hval
  obtain ⟨fuel, hf⟩ := h
  obtain ⟨y, hc, hw⟩ := vote_cells hf
  exact ⟨y, congrArg Value.agg (Array.toList_inj.1 hc), hw⟩
set_option maxRecDepth 100000 in
theorem open_msg (hval : Value.okWide Try.prog W r b0 27 v) (h : DataW.Trod enc Try.prog W base spare held 27 v d ps) : ∃ (m : MsgR) (P : List Int) (ys : List VoteR), v = .agg m.cells ∧ MsgIn W m P ys := by
  obtain ⟨cs, rfl⟩ := okWide_struct Try.underlying27 hval
  obtain ⟨fuel, hf⟩ := h
  obtain ⟨m, P, ys, hc, hw⟩ := msg_cells hf
  exact ⟨m, P, ys, congrArg Value.agg (Array.toList_inj.1 hc), hw⟩
end
end Go.Proofs.Ytkjocpadmlobgaa
