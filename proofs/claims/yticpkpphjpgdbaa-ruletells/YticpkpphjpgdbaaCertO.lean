/- CertOrder's walk. For every two numbers. -/
import Derived.Test.YticpkpphjpgdbaaCertV
namespace Go.Proofs.Yticpkpphjpgdbaa
open Go.RowKit Go.Dig Go.Sha Go.Inv Go.Oct

theorem and3 : ∀ n, n < 20 → bits .and .i64 ((n : Nat) : Int) 3 = (n : Int) % 4 := by decide
theorem inI_nat {n : Nat} (h : n < 1000) : inI (n : Int) := ⟨by omega, by omega⟩
theorem who_len (R : RingO) : ∀ (xs : List VoteW) (acc : List Int), (∀ x ∈ xs, goodR R x.1 = true) → (xs.map (fun x => x.1.f)).Pairwise (· ≠ ·) → (∀ x ∈ xs, x.1.f ∉ acc) → (xs.foldl (whoStep R) acc).length = acc.length + xs.length
  | [], acc, _, _, _ => by simp
  | x :: t, acc, hg, hp, hn => by
    rw [List.foldl_cons]
    have hx : whoStep R acc x = insL acc x.1.f := by
      unfold whoStep
      rw [hg x (by simp)]
      have : acc.contains x.1.f = false := by
        cases hc : acc.contains x.1.f
        · rfl
        · exact absurd (List.contains_iff_mem.1 hc) (hn x (by simp))
      rw [this]; rfl
    rw [List.map_cons, List.pairwise_cons] at hp
    rw [hx, who_len R t (insL acc x.1.f) (fun y hy => hg y (by simp [hy])) hp.2 (fun y hy hm => by
      rcases insL_mem.1 hm with e | e
      · exact hp.1 y.1.f (List.mem_map.2 ⟨y, hy, rfl⟩) e.symm
      · exact hn y (by simp [hy]) e), insL_length]
    simp; omega
/-- a vote on something else -/
def jv (i : Nat) : VoteW := ⟨⟨2, 0, 1, zeroF, (i : Int) % 4, zeroF⟩, ⟨inI_lit (n := 2) (by decide) (by decide), inI_lit (n := 0) (by decide) (by decide), inI_lit (n := 1) (by decide) (by decide), inI_lit (n := (i : Int) % 4) (by omega) (by omega)⟩⟩
def cv (first i : Nat) : VoteW := castW ring4 2 0 1 (oneF 5) (((first : Int) + (i : Int)) % 4) ⟨by decide, by decide⟩ ⟨by decide, by decide⟩ ⟨by decide, by decide⟩ ⟨by omega, by omega⟩
def junkL (n : Nat) : List VoteW := (List.range n).map jv
def castL (first n : Nat) : List VoteW := (List.range n).map (cv first)
theorem junkL_succ (n : Nat) : junkL (n + 1) = junkL n ++ [jv n] := by simp [junkL, List.range_succ]
theorem castL_succ (first n : Nat) : castL first (n + 1) = castL first n ++ [cv first n] := by simp [castL, List.range_succ]
theorem told_order (first j : Nat) (hj : j ≤ 9) : toldL 2 0 1 (oneF 5) (junkL j ++ castL first 4) = castL first (min 4 (10 - j)) := by
  have h1 : (junkL j).length = j := by simp [junkL]
  unfold toldL
  rw [List.take_append, List.filter_append, h1, List.take_of_length_le (by omega)]
  have h2 : (junkL j).filter (fun x => askedB 2 0 1 (oneF 5) x.1) = [] := by
    rw [List.filter_eq_nil_iff]
    intro x hx
    unfold junkL at hx
    obtain ⟨i, -, rfl⟩ := List.mem_map.1 hx
    have : rowEq 32 zeroF (oneF 5) = false := by decide
    simp [askedB, jv, this]
  have h3 : (castL first 4).take (10 - j) = castL first (min 4 (10 - j)) := by
    unfold castL
    rw [← List.map_take, List.take_range, Nat.min_comm]
  rw [h2, List.nil_append, h3, List.filter_eq_self]
  intro x hx
  unfold castL at hx
  obtain ⟨i, -, rfl⟩ := List.mem_map.1 hx
  exact asked_cast _ _ _ _ _ _
theorem who_order (first m : Nat) (hm : m ≤ 4) : (whoL ring4 (castL first m)).length = m := by
  have h1 : (castL first m).length = m := by simp [castL]
  have := who_len ring4 (castL first m) [] (fun x hx => by
    unfold castL at hx
    obtain ⟨i, -, rfl⟩ := List.mem_map.1 hx
    refine good_cast ?_
    unfold hasB
    exact decide_eq_true ⟨by omega, by omega⟩) (by
    unfold castL
    rw [List.map_map, List.pairwise_map]
    have hlt : (List.range m).Pairwise (fun a b => a < b ∧ b < m) := by
      refine List.Pairwise.imp_of_mem ?_ List.pairwise_lt_range
      intro a b _ hb h
      exact ⟨h, List.mem_range.1 hb⟩
    refine hlt.imp ?_
    intro a b h
    show ((first : Int) + (a : Int)) % 4 ≠ ((first : Int) + (b : Int)) % 4
    omega) (fun x _ => by simp)
  rw [h1] at this
  simpa [whoL] using this
theorem built_jv (i : Nat) : Try.prog.built 51 [(0, .int .i64 2), (2, .int .i64 1), (4, .int .i64 ((i : Int) % 4))] = some (jv i).1.cells := by kernel_rfl
end Go.Proofs.Yticpkpphjpgdbaa
