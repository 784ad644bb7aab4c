/- Arguments of seneschallaw6's laws, as they come in: marks, votes, rows of votes, certificates. -/
import Derived.Test.YticpkpphjpgdbaaRows
import Derived.Test.YticpkpphjpgdbaaCertC
import Derived.Test.YticpkpphjpgdbaaSealLaw
import Derived.ProofKit
import Derived.OpenShut
import Derived.ShutString
import Derived.ChangeOld
import Derived.Deep.Slices
namespace Go.Proofs.Yticpkpphjpgdbaa
open Go.ChangeShapes Go.WideShapes Go.ChangeAt Go.RowKit Go.Dig Go.Deep

section
variable {H : Type} {enc : TypeId × Value → H} {W : World} {base : Nat} {spare : Nat → Bool} {held : Bool} {fuel : Nat} {cs : List Value} {x : DataW H × List MemPlace}
theorem inI_of {n : Int} (h : (Lit.int .i64 n).wf = true) : inI n := wf_i64 h
/-- a number among cells -/
theorem int_cell (o : Nat) (h : DataW.trod enc Try.prog W base spare held fuel 3 ((cs.drop o).take (Try.prog.cellsOf 3)) = some x) : ∃ z : Int, cs[o]? = some (.int .i64 z) ∧ inI z := by
  have hc : Try.prog.cellsOf 3 = 1 := by kernel_rfl
  obtain ⟨z, e, _, hw⟩ := DataW.trod_int Try.underlying3 h
  rw [hc] at e
  refine ⟨z, ?_, inI_of hw⟩
  have := congrArg (fun l => l[0]?) e
  simpa [List.getElem?_take, List.getElem?_drop] using this
set_option maxRecDepth 100000 in
/-- a digest among cells -/
theorem hash_cells (o : Nat) (h : DataW.trod enc Try.prog W base spare held fuel 30 ((cs.drop o).take (Try.prog.cellsOf 30)) = some x) : ∃ f : Nat → Int, ∀ j, j < 32 → cs[o + j]? = some (.int .u8 (f j)) ∧ 0 ≤ f j ∧ f j < 256 := by
  have hc : Try.prog.cellsOf 30 = 32 := by kernel_rfl
  have hc1 : Try.prog.cellsOf 5 = 1 := by kernel_rfl
  rw [hc] at h
  obtain ⟨xs, m, rfl, _, hl, hx, hi⟩ := DataW.trod_array (n := 32) (e := 5) (by kernel_rfl) h
  have hel : ∀ j, j < 32 → ∃ y : Int, cs[o + j]? = some (.int .u8 y) ∧ 0 ≤ y ∧ y < 256 := fun j hj => by
    have hj' := hi j hj
    rw [hc1, Nat.mul_one, List.getElem?_eq_getElem (by omega)] at hj'
    obtain ⟨y, hy, _, hw⟩ := DataW.trod_int Try.underlying5 hj'
    have e := congrArg (fun l => l[0]?) hy
    simp only [List.getElem?_take, List.getElem?_drop, Nat.add_zero] at e
    simp [hj] at e
    exact ⟨y, e, wf_u8 hw⟩
  refine ⟨fun j => match cs[o + j]? with | some (.int _ y) => y | _ => 0, fun j hj => ?_⟩
  obtain ⟨y, hy, h0, h1⟩ := hel j hj
  simp only [hy]
  exact ⟨trivial, h0, h1⟩
set_option maxRecDepth 100000 in
/-- a vote's cells -/
theorem vote_cells (h : DataW.trod enc Try.prog W base spare held fuel 51 cs = some x) : ∃ y : VoteW, cs = y.1.cells.toList := by
  obtain ⟨xs, n, _, rfl, hl, hlen, hf⟩ := DataW.trod_struct Try.underlying51 h
  have hc : Try.prog.cellsOf 51 = 68 := by kernel_rfl
  rw [hc] at hl
  match xs, hlen with
  | [y0, y1, y2, y3, y4, y5], _ =>
    obtain ⟨k, e0, i0⟩ := int_cell 0 (hf 0 _ rfl)
    obtain ⟨s, e1, i1⟩ := int_cell 1 (hf 1 _ rfl)
    obtain ⟨v, e2, i2⟩ := int_cell 2 (hf 2 _ rfl)
    obtain ⟨sum, e3⟩ := hash_cells 3 (hf 3 _ rfl)
    obtain ⟨f, e4, i4⟩ := int_cell 35 (hf 4 _ rfl)
    obtain ⟨tag, e5⟩ := hash_cells 36 (hf 5 _ rfl)
    refine ⟨⟨⟨k, s, v, sum, f, tag⟩, ⟨i0, i1, i2, i4⟩⟩, List.ext_getElem? fun j => ?_⟩
    show cs[j]? = (VoteR.cells ⟨k, s, v, sum, f, tag⟩).toList[j]?
    rw [Array.getElem?_toList (xs := VoteR.cells ⟨k, s, v, sum, f, tag⟩)]
    by_cases h68 : j < 68
    · by_cases h3 : j < 3
      · have : j = 0 ∨ j = 1 ∨ j = 2 := by omega
        rcases this with rfl | rfl | rfl
        · rw [e0, VoteR.at0]
        · rw [e1, VoteR.at1]
        · rw [e2, VoteR.at2]
      · by_cases h35 : j < 35
        · have := (e3 (j - 3) (by omega)).1
          rw [show 3 + (j - 3) = j by omega] at this
          have h2 := VoteR.atSum ⟨k, s, v, sum, f, tag⟩ (j := j - 3) (by omega)
          rw [show 3 + (j - 3) = j by omega] at h2
          rw [this, h2]
        · by_cases h36 : j = 35
          · subst h36; rw [e4, VoteR.at35]
          · have := (e5 (j - 36) (by omega)).1
            rw [show 36 + (j - 36) = j by omega] at this
            have h2 := VoteR.atTag ⟨k, s, v, sum, f, tag⟩ (j := j - 36) (by omega)
            rw [show 36 + (j - 36) = j by omega] at h2
            rw [this, h2]
    · rw [List.getElem?_eq_none (by omega), Array.getElem?_eq_none (by rw [VoteR.size]; omega)]
theorem add_add (a : Addr) (i j : Nat) : (a.add i).add j = a.add (i + j) := by
  unfold Addr.add
  by_cases hi : i = 0
  · subst hi; simp
  · by_cases hj : j = 0
    · subst hj; simp [hi]
    · simp [hi, hj, Nat.add_assoc]
theorem cells_vote : Try.prog.cellsOf 51 = 68 := by kernel_rfl
/-- a row of votes -/
theorem votes_cells {a : Option Addr} {len cap : Nat} (h : DataW.trod enc Try.prog W base spare held fuel 23 [.slice a len cap] = some x) : ∃ ys : List VoteW, len = ys.length ∧ VotesIn W a cap ys := by
  rcases open_slice Try.underlying23 h with ⟨hcs, _⟩ | ⟨ad, l, c, m, n, D, Pl, hcs, _, hl, hm, hmm, _, hx⟩
  · simp at hcs
    obtain ⟨rfl, rfl, rfl⟩ := hcs
    exact ⟨[], rfl, Nat.le_refl _, by unfold maxLen; omega, fun _ => rfl, fun j hj => by simp at hj⟩
  · simp at hcs
    obtain ⟨rfl, rfl, rfl⟩ := hcs
    have hlm : len ≤ m := by rw [hmm]; split <;> omega
    have each : ∀ i, i < len → ∃ y : VoteW, ∀ j, j < 68 → W.cell? (ad.add (i * 68 + j)) = y.1.cells[j]? := by
      intro i hi
      obtain ⟨cs', h1, h2⟩ := hx i (by omega)
      rw [cells_vote] at h1
      obtain ⟨_, hlen, hcell⟩ := World.cells?_some h1
      obtain ⟨y, hy⟩ := vote_cells h2
      refine ⟨y, fun j hj => ?_⟩
      have hc := hcell j hj
      rw [hy, Array.getElem?_toList] at hc
      rw [← hc, add_add]
    obtain ⟨f, hf⟩ : ∃ f : Nat → VoteW, ∀ i, i < len → ∀ j, j < 68 → W.cell? (ad.add (i * 68 + j)) = (f i).1.cells[j]? := by
      refine ⟨fun i => if h : i < len then (each i h).choose else ⟨VoteR.zero, ⟨⟨by decide, by decide⟩, ⟨by decide, by decide⟩, ⟨by decide, by decide⟩, ⟨by decide, by decide⟩⟩⟩, fun i hi => ?_⟩
      simp only [dif_pos hi]
      exact (each i hi).choose_spec
    refine ⟨(List.range len).map f, by simp, by simpa using hl, hm, (fun e => by cases e), fun j hj => ?_⟩
    have hj' : j < len := by simpa using hj
    obtain ⟨g, off, sp⟩ := ad
    have hs : sp = none := by
      have h0 := hf 0 (by omega) 0 (by omega)
      rw [VoteR.at0] at h0
      have := spot_none h0
      simpa [Addr.add] using this
    subst hs
    refine ⟨g, off, rfl, fun i hi => ?_⟩
    have := hf j hj' i hi
    rw [Addr.add_lit, ← Nat.add_assoc] at this
    rw [this]
    simp
end
section
variable {H : Type} {enc : TypeId × Value → H} {W : World} {r : Reach} {b0 base : Nat} {spare : Nat → Bool} {held : Bool} {v : Value} {d : DataW H} {ps : List MemPlace}
set_option maxRecDepth 100000 in
theorem okWide_struct {w : World} {r : Reach} {base : Nat} {t : TypeId} {v : Value} {fs : Array Field} (ht : Try.prog.underlying t = some (.struct fs)) (h : Value.okWide Try.prog w r base t v) : ∃ cs, v = .agg cs := by
  simp only [Value.okWide, ht] at h
  obtain ⟨cs, h1, _⟩ := h
  exact ⟨cs, h1⟩
set_option maxRecDepth 100000 in
theorem open_vote (hval : Value.okWide Try.prog W r b0 51 v) (h : DataW.Trod enc Try.prog W base spare held 51 v d ps) : ∃ y : VoteW, v = .agg y.1.cells := by
  obtain ⟨cs, rfl⟩ := okWide_struct Try.underlying51 hval
  obtain ⟨fuel, hf⟩ := h
  obtain ⟨y, hc⟩ := vote_cells hf
  exact ⟨y, congrArg Value.agg (Array.toList_inj.1 hc)⟩
end
end Go.Proofs.Yticpkpphjpgdbaa
