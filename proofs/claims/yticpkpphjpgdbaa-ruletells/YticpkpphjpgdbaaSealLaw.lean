/- Arguments of seneschallaw4's laws, as they come in: slices of bytes, digests, numbers. -/
import Derived.Test.YticpkpphjpgdbaaSealX
import Derived.ProofKit
import Derived.OpenShut
import Derived.ShutString
import Derived.ChangeOld
namespace Go.Proofs.Yticpkpphjpgdbaa
open Go.ChangeShapes Go.WideShapes Go.ChangeAt Go.RowKit Go.Dig

theorem wf_i64 {n : Int} (h : (Lit.int .i64 n).wf = true) : -9223372036854775808 ≤ n ∧ n ≤ 9223372036854775807 := by
  simp [Lit.wf, IntKind.min, IntKind.max, IntKind.signed, IntKind.bits] at h; omega
theorem wf_u8 {n : Int} (h : (Lit.int .u8 n).wf = true) : 0 ≤ n ∧ n < 256 := by
  simp [Lit.wf, IntKind.min, IntKind.max, IntKind.signed, IntKind.bits] at h; omega

theorem spot_none {W : World} {a : Addr} {v : Value} (h : W.cell? a = some v) : a.spot = none := by
  cases hs : a.spot with
  | none => rfl
  | some z =>
    simp [World.cell?, hs] at h
    split at h <;> cases h
/-- a slice of bytes that came in -/
theorem open_bytes {H : Type} {enc : TypeId × Value → H} {W : World} {base : Nat} {spare : Nat → Bool} {held : Bool} {fuel : Nat} {a : Option Addr} {len cap : Nat} {x : DataW H × List MemPlace} (h : DataW.trod enc Try.prog W base spare held fuel 22 (Value.slice a len cap).cells.toList = some x) :
    ∃ P : List Int, len = P.length ∧ Lies W a P ∧ P.length ≤ cap ∧ ∀ y ∈ P, 0 ≤ y ∧ y < 256 := by
  rcases ChangeShapes.open_ints Try.underlying22 Try.underlying5 (by kernel_rfl) h with ⟨hcs, _⟩ | ⟨b, l, c, zs, hcs, _, hl, hm, hz, _, hcell, hwz⟩
  · simp [Value.cells] at hcs
    obtain ⟨rfl, rfl, rfl⟩ := hcs
    exact ⟨[], rfl, lies_nil _ _, Nat.le_refl _, fun y hy => (by cases hy)⟩
  · simp [Value.cells] at hcs
    obtain ⟨rfl, rfl, rfl⟩ := hcs
    have hz' : len ≤ zs.length := by rw [hz]; split <;> omega
    have hlen : (zs.take len).length = len := by simp; omega
    refine ⟨zs.take len, hlen.symm, fun hp => ?_, by rw [hlen]; exact hl, fun y hy => wf_u8 (hwz y (List.mem_of_mem_take hy))⟩
    have h0 : 0 < len := by
      rw [← hlen]
      exact List.length_pos_iff.2 hp
    obtain ⟨g, off, sp⟩ := b
    have hs : sp = none := by
      have := spot_none (hcell 0 (by omega))
      simpa [Addr.add] using this
    subst hs
    refine ⟨g, off, rfl, fun j hj => ?_⟩
    rw [hlen] at hj
    have hc := hcell j (by omega)
    rw [Addr.add_lit] at hc
    rw [hc]
    simp [List.getD, hj]
set_option maxRecDepth 100000 in
theorem okWide_array {w : World} {r : Reach} {base : Nat} {t : TypeId} {v : Value} {n : Nat} {e : TypeId} (ht : Try.prog.underlying t = some (.array n e)) (h : Value.okWide Try.prog w r base t v) : ∃ cs, v = .agg cs ∧ cs.size = Try.prog.cellsOf t := by
  simp only [Value.okWide, ht] at h
  obtain ⟨cs, h1, h2, _⟩ := h
  exact ⟨cs, h1, h2⟩
set_option maxRecDepth 100000 in
/-- a digest that came in -/
theorem open_hash {H : Type} {enc : TypeId × Value → H} {W : World} {r : Reach} {b0 base : Nat} {spare : Nat → Bool} {held : Bool} {v : Value} {d : DataW H} {ps : List MemPlace} (hval : Value.okWide Try.prog W r b0 30 v) (h : DataW.Trod enc Try.prog W base spare held 30 v d ps) :
    ∃ f : Nat → Int, v = .agg (row .u8 32 f) ∧ ∀ j, j < 32 → 0 ≤ f j ∧ f j < 256 := by
  obtain ⟨cs, rfl, hsz⟩ := okWide_array (n := 32) (e := 5) (by kernel_rfl) hval
  have hsz' : cs.size = 32 := hsz.trans (by kernel_rfl)
  obtain ⟨fuel, hf⟩ := h
  obtain ⟨xs, m, rfl, _, hl, hx, hi⟩ := DataW.trod_array (n := 32) (e := 5) (by kernel_rfl) hf
  have hc1 : Try.prog.cellsOf 5 = 1 := by kernel_rfl
  have hel : ∀ j, j < 32 → ∃ y : Int, cs[j]? = some (.int .u8 y) ∧ 0 ≤ y ∧ y < 256 := fun j hj => by
    have hj' := hi j hj
    rw [hc1, Nat.mul_one, List.getElem?_eq_getElem (by omega)] at hj'
    obtain ⟨y, hy, _, hw⟩ := DataW.trod_int Try.underlying5 hj'
    have hjs : j < cs.size := by omega
    have e : ((Value.agg cs).cells.toList.drop j).take 1 = [cs[j]] := by
      simp only [Value.cells]
      rw [List.drop_eq_getElem_cons (by simpa using hjs)]
      simp
    rw [e] at hy
    simp at hy
    exact ⟨y, by rw [Array.getElem?_eq_getElem hjs, hy], wf_u8 hw⟩
  refine ⟨fun j => match cs[j]? with | some (.int _ y) => y | _ => 0, ?_, fun j hj => ?_⟩
  · congr 1
    apply Array.ext_getElem?
    intro j
    by_cases hj : j < 32
    · obtain ⟨y, hy, _⟩ := hel j hj
      rw [row_get hj, hy]
    · rw [row_get_none (by omega), Array.getElem?_eq_none (by omega)]
  · obtain ⟨y, hy, hb⟩ := hel j hj
    simp only [hy]; exact hb
end Go.Proofs.Yticpkpphjpgdbaa
