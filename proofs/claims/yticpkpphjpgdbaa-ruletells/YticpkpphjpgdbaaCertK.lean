/- The example that each of seneschallaw6's laws asks. No condition. -/
import Derived.Test.YticpkpphjpgdbaaCertD
import Derived.Great.BuildSlice
namespace Go.Proofs.Yticpkpphjpgdbaa
open Go.RowKit Go.Dig Go.Sha Go.Inv Go.Oct

/-- a vote that a node of the ring casts is good -/
theorem good_cast {seed : Nat → Int} {n : Nat} {k s v : Int} {sum : Nat → Int} {f : Int} (h : hasB n f = true) : goodR (some (seed, n)) (castR (some (seed, n)) k s v sum f) = true := check_own h
def castW (R : RingO) (k s v : Int) (sum : Nat → Int) (f : Int) (ik : inI k) (is : inI s) (iv : inI v) (if_ : inI f) : VoteW := ⟨castR R k s v sum f, ik, is, iv, if_⟩
theorem asked_cast (R : RingO) (k s v : Int) (sum : Nat → Int) (f : Int) : askedB k s v sum (castR R k s v sum f) = true := by simp [askedB, castR, rowEq_self]
theorem vote_partsK : (Try.prog.info? 51).map (fun i => (i.zero, i.size)) = some (some (.agg VoteR.zero.cells), 68) := by kernel_rfl
def rowV (zs : List VoteR) : Array Value := (zs.flatMap fun z => z.cells.toList).toArray
theorem rowV_at (zs : List VoteR) : ∀ (j : Nat) (hj : j < zs.length) (i : Nat), i < 68 → (zs.flatMap fun z => z.cells.toList)[j * 68 + i]? = zs[j].cells[i]? := by
  induction zs with
  | nil => intro j hj; simp at hj
  | cons z t ih =>
    intro j hj i hi
    rw [List.flatMap_cons, List.getElem?_append]
    have hz : z.cells.toList.length = 68 := by rw [Array.length_toList, VoteR.size]
    rw [hz]
    cases j with
    | zero => rw [if_pos (by omega)]; simp
    | succ j => rw [if_neg (by omega), show (j + 1) * 68 + i - 68 = j * 68 + i by omega, ih j (by simpa using hj) i hi]; simp
theorem rowV_in {w : World} {b : Nat} {zs : List VoteW} {t : TypeId} {fr : Nat × Nat} (h : w.heap[b]? = some (.cells (rowV (zs.map (·.1))) t fr)) (hl : zs.length ≤ 1000) : VotesIn w (some ⟨b, 0, none⟩) zs.length zs :=
  ⟨Nat.le_refl _, by unfold maxLen; omega, (fun e => by cases e), fun j hj => ⟨b, 0, rfl, fun i hi => by
    rw [cell_blk h, Nat.zero_add]
    have := rowV_at (zs.map (·.1)) j (by simpa using hj) i hi
    simp only [rowV, List.getElem?_toArray, List.getElem_map] at this ⊢
    exact this⟩⟩
section
variable {ops : Array Oper} {rest : List Oper} {o : Oper} {a : Act} {w : World} {Q : Exit → Act → World → Prop}
theorem wpList_rowV (hw : Region.wanted o (yielded ops a.tmps) = true) (m : Nat) (parts : Array (Nat × Operand)) (ho : o.op = .buildSlice 23 m parts) (zs : List VoteR) (hm : zs.length = m) (h0 : 0 < m) (hb : m ≤ 100)
    (hx : (parts.map fun (p : Nat × Operand) => (p.1, a.eval p.2)).toList = ((zs.map fun z => Value.agg z.cells).zipIdx 0).map fun x => (x.2, x.1))
    (h : wpList Try.prog ops Q rest (a.put o.dst (.slice (some ⟨w.heap.size, 0, none⟩) m m)) (w.alloc (.cells (rowV zs) 51))) : wpList Try.prog ops Q (o :: rest) a w := by
  have hp := vote_partsK
  cases hie : Try.prog.info? 51 with
  | none => rw [hie] at hp; cases hp
  | some ie =>
    rw [hie] at hp
    simp at hp
    obtain ⟨hz, hs⟩ := hp
    refine wpList_by hw fun K hK => wp_buildSlice 23 51 m parts ho (rowV zs) ie _ (by kernel_rfl) hie hz (by rw [hs]; omega) (by rw [hs]; omega) ?_ (hK _ _ h)
    have hf := Great.fill_whole (s := 68) (by decide) (zs.map fun z => Value.agg z.cells) ((Array.range (m * ie.size)).map ((Value.agg VoteR.zero.cells).cells[· % (Value.agg VoteR.zero.cells).cells.size]!)) (fun v hv => by
      obtain ⟨z, -, rfl⟩ := List.mem_map.1 hv; exact z.size) (by rw [List.length_map, hm, Array.size_map, Array.size_range, hs])
    rw [hx, hs]
    rw [hs] at hf
    rw [hf, List.flatMap_map]
    rfl
end
/-- one node's vote, told once, twice or thrice, is one node's -/
theorem who_same_vote (R : RingO) (x : VoteW) (hg : goodR R x.1 = true) (xs : List VoteW) (h : ∀ y ∈ xs, y = x) (hne : xs ≠ []) : whoL R xs = [x.1.f] := by
  have key : ∀ (xs : List VoteW), (∀ y ∈ xs, y = x) → xs.foldl (whoStep R) [x.1.f] = [x.1.f] := by
    intro xs
    induction xs with
    | nil => intro _; rfl
    | cons y t ih =>
      intro h
      obtain rfl := h y (by simp)
      rw [List.foldl_cons]
      have : whoStep R [y.1.f] y = [y.1.f] := by simp [whoStep]
      rw [this]
      exact ih (fun z hz => h z (by simp [hz]))
  cases xs with
  | nil => exact absurd rfl hne
  | cons y t =>
    obtain rfl := h y (by simp)
    unfold whoL
    rw [List.foldl_cons]
    have : whoStep R [] y = [y.1.f] := by simp [whoStep, hg, insL]
    rw [this]
    exact key t (fun z hz => h z (by simp [hz]))
abbrev ring4 : RingO := some (oneF 1, 4)
/-- known's vote -/
def kv : VoteW := castW ring4 2 1 2 (oneF 3) 0 (inI_lit (by decide) (by decide)) (inI_lit (by decide) (by decide)) (inI_lit (by decide) (by decide)) (inI_lit (by decide) (by decide))
theorem kv_good : goodR ring4 kv.1 = true := good_cast (by decide)
theorem kv_told (m : Nat) (hm : m ≤ 10) : toldL 2 1 2 (oneF 3) (List.replicate m kv) = List.replicate m kv := by
  unfold toldL
  rw [List.take_of_length_le (by simpa using hm), List.filter_eq_self]
  intro x hx
  rw [List.eq_of_mem_replicate hx]
  exact asked_cast _ _ _ _ _ _
theorem kv_who (m : Nat) (h0 : 0 < m) (hm : m ≤ 10) : whoL ring4 (toldL 2 1 2 (oneF 3) (List.replicate m kv)) = [0] := by
  rw [kv_told m hm]
  exact who_same_vote ring4 kv kv_good _ (fun y hy => List.eq_of_mem_replicate hy) (by intro e; have := congrArg List.length e; simp at this; omega)
end Go.Proofs.Yticpkpphjpgdbaa
