/- Whom the law's votes prove; a vote is laid over another in a row that the call owns. -/
import Derived.Test.YticpkpphjpgdbaaRuleV
import Derived.Test.YticpkpphjpgdbaaCertO
namespace Go.Proofs.Yticpkpphjpgdbaa
open Go.RowKit Go.Dig Go.Sha Go.Inv Go.Oct

theorem pv_f (k s v : Int) (P : List Int) (b : Bd k s v) (i : Nat) : (pv k s v P b i).1.f = ((i % 4 : Nat) : Int) := rfl
theorem pv_good (k s v : Int) (P : List Int) (b : Bd k s v) (i : Nat) : goodR ring4 (pv k s v P b i).1 = true := good_cast (by unfold hasB; exact decide_eq_true ⟨by omega, by omega⟩)
theorem pv_asked (k s v : Int) (P : List Int) (b : Bd k s v) (i : Nat) : askedB k s v (sha P) (pv k s v P b i).1 = true := asked_cast _ _ _ _ _ _
theorem pv_not (k s v : Int) (P : List Int) (b : Bd k s v) (i : Nat) {k' s' v' : Int} (sum : Nat → Int) (h : ¬ (k = k' ∧ s = s' ∧ v = v')) : askedB k' s' v' sum (pv k s v P b i).1 = false := by
  cases ha : askedB k' s' v' sum (pv k s v P b i).1 with
  | false => rfl
  | true =>
    simp only [askedB, pv, castW, castR, Bool.and_eq_true] at ha
    exact absurd ⟨of_decide_eq_true ha.1.1.1, of_decide_eq_true ha.1.1.2, of_decide_eq_true ha.1.2⟩ h
theorem who_pvL (k s v : Int) (P : List Int) (b : Bd k s v) {m : Nat} (hm : m ≤ 4) : (whoL ring4 (pvL k s v P b m)).length = m := by
  have h1 := pvL_length k s v P b m
  have := who_len ring4 (pvL k s v P b m) [] (fun x hx => by
    unfold pvL at hx
    obtain ⟨i, -, rfl⟩ := List.mem_map.1 hx
    exact pv_good k s v P b i) (by
    unfold pvL
    rw [List.map_map, List.pairwise_map]
    have hlt : (List.range m).Pairwise (fun a b => a < b ∧ b < m) := by
      refine List.Pairwise.imp_of_mem ?_ List.pairwise_lt_range
      intro a b _ hb h
      exact ⟨h, List.mem_range.1 hb⟩
    refine hlt.imp ?_
    intro a b h
    show ((a % 4 : Nat) : Int) ≠ ((b % 4 : Nat) : Int)
    omega) (fun x _ => by simp)
  rw [h1] at this
  unfold whoL
  simpa using this
theorem told_pvL (k s v : Int) (P : List Int) (b : Bd k s v) {m : Nat} (hm : m ≤ 10) : toldL k s v (sha P) (pvL k s v P b m) = pvL k s v P b m := by
  unfold toldL
  rw [List.take_of_length_le (by rw [pvL_length]; exact hm), List.filter_eq_self]
  intro x hx
  unfold pvL at hx
  obtain ⟨i, -, rfl⟩ := List.mem_map.1 hx
  exact pv_asked k s v P b i
theorem told_none {k s v : Int} {sum : Nat → Int} {l : List VoteW} (h : ∀ x ∈ l, askedB k s v sum x.1 = false) : toldL k s v sum l = [] := by
  unfold toldL
  rw [List.filter_eq_nil_iff]
  intro x hx
  rw [h x (List.mem_of_mem_take hx)]; simp
theorem meets_len {k s v : Int} {sum : Nat → Int} {l : List VoteW} {m : Nat} (h : (whoL ring4 (toldL k s v sum l)).length = m) : meetsR ring4 l k s v sum = decide (3 ≤ m) := by
  unfold meetsR
  rw [h, show quorumI (nodesR ring4) = 3 by decide, show decide (0 < nodesR ring4) = true by decide, Bool.true_and, Bool.eq_iff_iff, decide_eq_true_iff, decide_eq_true_iff]
  omega
theorem meets_pvL (s v : Int) (P : List Int) (b : Bd 1 s v) {m : Nat} (hm : m ≤ 4) : meetsR ring4 (pvL 1 s v P b m) 1 s v (sha P) = decide (3 ≤ m) := meets_len (by rw [told_pvL _ _ _ _ _ (by omega), who_pvL _ _ _ _ _ hm])
theorem meets_not {k s v k' s' v' : Int} (P : List Int) (b : Bd k s v) (sum : Nat → Int) (m : Nat) (h : ¬ (k = k' ∧ s = s' ∧ v = v')) : meetsR ring4 (pvL k s v P b m) k' s' v' sum = false := by
  rw [meets_len (m := 0)]
  · rfl
  · rw [told_none (fun x hx => by
      unfold pvL at hx
      obtain ⟨i, -, rfl⟩ := List.mem_map.1 hx
      exact pv_not k s v P b i sum h)]
    rfl
theorem pvL_cons (k s v : Int) (P : List Int) (b : Bd k s v) (m : Nat) : pvL k s v P b (m + 1) = pv k s v P b 0 :: (List.range m).map (fun i => pv k s v P b (i + 1)) := by
  unfold pvL
  rw [List.range_succ_eq_map, List.map_cons, List.map_map]
  rfl
theorem provesR_cons (R : RingO) (y : VoteW) (t : List VoteW) (slot below : Int) (P : List Int) : provesR R (y :: t) slot below P = if 0 ≤ y.1.v ∧ y.1.v < below ∧ meetsR R (y :: t) 1 slot y.1.v (sha P) = true then some y.1.v else none := rfl
/-- enough of them prove their view -/
theorem proves_pvL (s v below : Int) (P : List Int) (b : Bd 1 s v) {m : Nat} (hm : m ≤ 4) (hv : 0 ≤ v) : provesR ring4 (pvL 1 s v P b m) s below P = if 3 ≤ m ∧ v < below then some v else none := by
  cases m with
  | zero => rfl
  | succ m =>
    have h := meets_pvL s v P b hm
    rw [pvL_cons] at h ⊢
    rw [provesR_cons, show (pv 1 s v P b 0).1.v = v from rfl, h]
    by_cases q : 3 ≤ m + 1
    · by_cases q2 : v < below
      · rw [if_pos ⟨hv, q2, decide_eq_true q⟩, if_pos ⟨q, q2⟩]
      · rw [if_neg (fun e => q2 e.2.1), if_neg (fun e => q2 e.2)]
    · rw [if_neg (fun e => q (of_decide_eq_true e.2.2)), if_neg (fun e => q e.1)]
/-- those of another kind or slot prove nothing -/
theorem proves_not {k s : Int} (v s' below : Int) (P Q : List Int) (b : Bd k s v) (m : Nat) (h : ¬ (k = 1 ∧ s = s')) : provesR ring4 (pvL k s v P b m) s' below Q = none := by
  cases m with
  | zero => rfl
  | succ m =>
    have h' : meetsR ring4 (pvL k s v P b (m + 1)) 1 s' v (sha Q) = false := meets_not P b _ _ (fun e => h ⟨e.1, e.2.1⟩)
    rw [pvL_cons] at h' ⊢
    rw [provesR_cons, show (pv k s v P b 0).1.v = v from rfl, h']
    simp
section
variable {ops : Array Oper} {rest : List Oper} {o : Oper} {a : Act} {w : World} {Q : Exit → Act → World → Prop}
theorem wpList_setV (hgd : o.guard = none) (x y : Operand) (ho : o.op = .store 51 x y) (base g cap n : Nat) (zs : List VoteW) (i : Nat) (hi : i < zs.length) (z : VoteW) (hx : a.eval x = .pointer (some ⟨g, i * 68, none⟩)) (hy : a.eval y = .agg z.1.cells) (hown : OwnV w base (.slice (some ⟨g, 0, none⟩) n cap) zs)
    (h : ∀ w', OwnV w' base (.slice (some ⟨g, 0, none⟩) n cap) (zs.set i z) → Keeps g w w' → wpList Try.prog ops Q rest (a.put o.dst undef) w') : wpList Try.prog ops Q (o :: rest) a w := by
  rcases hown.2 with ⟨e, _⟩ | ⟨g', cap', cur, e, hb, hgg, hc, hm, hs, ht⟩
  · cases e
  · cases e
    have hin : i * 68 + 68 ≤ cur.size := by
      have : (i + 1) * 68 ≤ cap * 68 := Nat.mul_le_mul_right _ (by omega)
      omega
    refine wpList_store_mid hgd 51 x y ho g (i * 68) z.1.cells hx hy (fun j hj => ?_) (vote_info z.1) z.1.all (h _ ?_ (Keeps.setCells _ _ (Keeps.refl _ _)))
    · rw [VoteR.size] at hj
      refine ⟨?_, frozen_blk hgg _⟩
      rw [cell_blk hgg, Array.getElem?_eq_getElem (by omega)]; rfl
    · obtain ⟨c, h1, h2, h3⟩ := setCells_blk g 51 z.1.cells.toList (i * 68) w cur hgg
      have hl : (zs.set i z).length = zs.length := by simp
      refine ⟨votesC_length _, .inr ⟨g, cap, c, by rw [hl], hb, h1, by rw [hl]; exact hc, hm, by rw [h2]; exact hs, ?_⟩⟩
      rw [hl]
      refine List.ext_getElem? fun q => ?_
      have hcl := votesC_length (zs.set i z)
      rw [hl] at hcl
      by_cases hq : q < zs.length * 68
      · have hold : (votesC zs)[q]? = cur[q]? := by rw [← ht, List.getElem?_take, if_pos hq, Array.getElem?_toList]
        rw [List.getElem?_take, if_pos hq, Array.getElem?_toList, h3, Array.length_toList, VoteR.size]
        have hd : q / 68 < zs.length := by omega
        have e1 := votesC_at (zs.set i z) (q / 68) (by rw [hl]; exact hd) (q % 68) (by omega)
        have e2 := votesC_at zs (q / 68) hd (q % 68) (by omega)
        rw [show q / 68 * 68 + q % 68 = q by omega] at e1 e2
        rw [e1]
        by_cases hqi : q / 68 = i
        · rw [if_pos (by omega), List.getElem_set, if_pos hqi.symm, Array.getElem?_toList, show q - i * 68 = q % 68 by omega]
        · rw [if_neg (by omega), List.getElem_set, if_neg (fun e => hqi e.symm), ← hold, e2]
      · rw [List.getElem?_eq_none (by rw [List.length_take]; omega), List.getElem?_eq_none (by rw [hcl]; omega)]
end
end Go.Proofs.Yticpkpphjpgdbaa
