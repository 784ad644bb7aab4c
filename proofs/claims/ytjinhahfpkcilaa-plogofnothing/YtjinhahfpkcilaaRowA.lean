/- Rows that one owns, all of whose cells, spare room too, are of a kind: that they grow. No condition. -/
import Derived.Test.YtjinhahfpkcilaaDigLaw
import Derived.Test.YtjinhahfpkcilaaOctA
import Derived.Maps.AppendAt
namespace Go.Inv
open Go Go.RowKit Go.Dig Go.Proofs.Ytjinhahfpkcilaa

/-- each cell of the row's block is of the kind A -/
def AllRow (w : World) (v : Value) (A : Value → Prop) : Prop := ∀ k, v.ownBlock = some k → ∀ j u, w.cell? ⟨k, j, none⟩ = some u → A u
theorem zeroCells_mem {z : Array Value} {n : Nat} {u : Value} (h : u ∈ Builtin.zeroCells z n) : u ∈ z := by
  unfold Builtin.zeroCells at h
  obtain ⟨i, hi, rfl⟩ := Array.mem_map.1 h
  have hi' : i < n * z.size := by simpa using hi
  have hz : 0 < z.size := by
    rcases Nat.eq_zero_or_pos z.size with h0 | h0
    · rw [h0] at hi'; omega
    · exact h0
  have hm := Nat.mod_lt i hz
  rw [getElem!_pos z (i % z.size) hm]
  exact Array.getElem_mem hm
variable {P : Program} {w : World}
theorem run_append_all (base : Nat) (t ty e : TypeId) (i : TypeInfo) (z : Value) (size bytes : Nat) (ht : P.underlying t = some (.slice e)) (hi : P.info? e = some i) (hz : i.zero = some z)
    (hsize : i.size = size) (hby : i.bytes = bytes) (hzs : z.cells.size = size) (hsz : 0 < size)
    (v : Value) (n : Nat) (xs : List Value) (hown : w.ownsRow base e size v n xs)
    (a : Addr) (m c : Nat) (news : List Value) (hl : news.length = m * size) (hnews : ∀ j u, news[j]? = some u → w.cell? (a.add j) = some u) (h1 : ∀ u ∈ news, u.oneCell' = true)
    (h63 : n + m ≤ maxLen) (hbytes : (n + m) * bytes ≤ 140737488355328) (hbase : base ≤ w.heap.size) (A : Value → Prop) (hA : AllRow w v A) (hAn : ∀ u ∈ news, A u) (hAz : ∀ u ∈ z.cells, A u) :
    ∃ v' w', (Builtin.append_ #[t, t] ty #[v, .slice (some a) m c]).run P w = .ok v' w' ∧ w'.ownsRow base e size v' (n + m) (xs ++ news) ∧ Gr w w' v v' ∧ AllRow w' v' A := by
  obtain ⟨v', w', hr, h1', hg, hnil, h5⟩ := run_append_own_at (P := P) w base t ty e i z size bytes ht hi hz hsize hby hzs hsz v n xs hown a m c news hl hnews h1 h63 hbytes hbase
  refine ⟨v', w', hr, h1', ⟨hg.os, hg.tape, hg.output, hg.size, fun k hk hne => hg.block k hk (fun e => hne e.symm), fun k hk => ?_⟩, ?_⟩
  · rcases h5 with h5 | h5
    · exact .inl (h5.symm.trans hk)
    · rw [h5] at hk; cases hk; exact .inr (Nat.le_refl _)
  · subst hsize; subst hby
    have hsmall : n + m ≤ 9223372036854775807 := by simp only [maxLen] at h63; omega
    rcases hown.2 with ⟨rfl, hn0⟩ | ⟨g, cap, cur, rfl, hbg, hgg, hnc, hcm, hsz', htake⟩
    · by_cases hm0 : m = 0
      · rw [hnil.2 ⟨rfl, hm0⟩]
        intro k hk; cases hk
      · have h := run_append_nil (P := P) w t ty e i z ht hi hz a m c news hl hnews (by omega) (by omega) (by subst hn0; rw [Nat.zero_add] at hbytes; omega)
        rw [h] at hr
        injection hr with e1 e2
        subst e1; subst e2
        intro k hk j u hu
        cases hk
        have hb := alloc_blk w.drew (.cells (news.toArray ++ Builtin.zeroCells z.cells (grownCap w m 0 e - m)) e)
        rw [show w.heap.size = w.drew.heap.size from rfl, cell_blk hb j] at hu
        have hm := Array.mem_of_getElem? hu
        rw [Array.mem_append] at hm
        rcases hm with hm | hm
        · exact hAn u (by simpa using hm)
        · exact hAz u (zeroCells_mem hm)
    · by_cases hroom : n + m ≤ cap
      · have hfit : n * i.size + news.length ≤ cur.size := by rw [hl, hsz', ← Nat.add_mul]; exact Nat.mul_le_mul_right _ hroom
        have h := run_append_room (P := P) w t ty e i ht hi g n cap cur hgg a m c news hl hnews h1 hroom hfit
        rw [h] at hr
        injection hr with e1 e2
        subst e1; subst e2
        intro k hk j u hu
        cases hk
        rw [cell_blk (setRow_heap w g cur _ e _ hgg) j] at hu
        have hm := Array.mem_of_getElem? hu
        have hcur : ∀ x ∈ cur.toList, A x := fun x hx => by
          obtain ⟨q, hq, hq2⟩ := List.getElem_of_mem hx
          exact hA g rfl q x (by rw [cell_blk hgg, ← Array.getElem?_toList, List.getElem?_eq_getElem hq, hq2])
        have hm' : u ∈ cur.toList.take (n * i.size) ∨ u ∈ news ∨ u ∈ cur.toList.drop (n * i.size + news.length) := by simpa using hm
        rcases hm' with hm | hm | hm
        · exact hcur u (List.mem_of_mem_take hm)
        · exact hAn u hm
        · exact hcur u (List.mem_of_mem_drop hm)
      · have holds : ∀ j u, xs[j]? = some u → w.cell? ((⟨g, 0, none⟩ : Addr).add j) = some u := World.ownsRow.cells hown (g := g) rfl
        have h := run_append_grow (P := P) w t ty e i z ht hi hz ⟨g, 0, none⟩ n cap xs hown.1 holds a m c news hl hnews (by omega) (by omega) (growslice_fits (by omega) (by omega))
        rw [h] at hr
        injection hr with e1 e2
        subst e1; subst e2
        intro k hk j u hu
        cases hk
        have hb := alloc_blk w.drew (.cells (xs.toArray ++ news.toArray ++ Builtin.zeroCells z.cells (grownCap w (n + m) cap e - (n + m))) e)
        rw [show w.heap.size = w.drew.heap.size from rfl, cell_blk hb j] at hu
        have hm := Array.mem_of_getElem? hu
        rw [Array.mem_append, Array.mem_append] at hm
        rcases hm with (hm | hm) | hm
        · have hx : u ∈ xs := by simpa using hm
          obtain ⟨q, hq, hq2⟩ := List.getElem_of_mem hx
          have := holds q u (by rw [List.getElem?_eq_getElem hq, hq2])
          rw [addr_add] at this
          exact hA g rfl _ u this
        · exact hAn u (by simpa using hm)
        · exact hAz u (zeroCells_mem hm)
end Go.Inv
