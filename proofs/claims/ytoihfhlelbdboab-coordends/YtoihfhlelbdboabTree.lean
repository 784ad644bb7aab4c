/- The plain side of tables in order: trees as the code turns them, their entries as a list, and what setting, deleting, looking up and telling from a key on do to that list. No condition but that the keys rise. -/
namespace Go.Hold

inductive BT (α : Type) where
  | nil
  | node (l : BT α) (k : Int) (v : α) (r : BT α)

variable {α : Type}

def BT.size : BT α → Nat
  | .nil => 0
  | .node l _ _ r => l.size + 1 + r.size
def BT.toL : BT α → List (Int × α)
  | .nil => []
  | .node l k v r => l.toL ++ (k, v) :: r.toL

theorem BT.size_eq : ∀ t : BT α, t.size = t.toL.length
  | .nil => rfl
  | .node l _ _ r => by simp [BT.size, BT.toL, l.size_eq, r.size_eq]; omega

def turnLow (l : BT α) (k : Int) (v : α) : BT α → BT α
  | .nil => .node l k v .nil
  | .node i rk rv o =>
    if i.size + 1 < 2 * (o.size + 1) then .node (.node l k v i) rk rv o
    else match i with
      | .nil => .node l k v (.node .nil rk rv o)
      | .node a ik iv b => .node (.node l k v a) ik iv (.node b rk rv o)
def turnHigh (l : BT α) (k : Int) (v : α) (r : BT α) : BT α :=
  match l with
  | .nil => .node .nil k v r
  | .node o lk lv i =>
    if i.size + 1 < 2 * (o.size + 1) then .node o lk lv (.node i k v r)
    else match i with
      | .nil => .node (.node o lk lv .nil) k v r
      | .node a ik iv b => .node (.node o lk lv a) ik iv (.node b k v r)
def bal (l : BT α) (k : Int) (v : α) (r : BT α) : BT α :=
  if 3 * (l.size + 1) < r.size + 1 then turnLow l k v r
  else if 3 * (r.size + 1) < l.size + 1 then turnHigh l k v r
  else .node l k v r

theorem toL_turnLow (l : BT α) (k : Int) (v : α) (r : BT α) : (turnLow l k v r).toL = l.toL ++ (k, v) :: r.toL := by
  unfold turnLow
  split
  · rfl
  · split
    · simp [BT.toL]
    · split <;> simp [BT.toL]
theorem toL_turnHigh (l : BT α) (k : Int) (v : α) (r : BT α) : (turnHigh l k v r).toL = l.toL ++ (k, v) :: r.toL := by
  unfold turnHigh
  split
  · rfl
  · split
    · simp [BT.toL]
    · split <;> simp [BT.toL]
theorem toL_bal (l : BT α) (k : Int) (v : α) (r : BT α) : (bal l k v r).toL = l.toL ++ (k, v) :: r.toL := by
  unfold bal
  split
  · exact toL_turnLow ..
  · split
    · exact toL_turnHigh ..
    · rfl
theorem size_bal (l : BT α) (k : Int) (v : α) (r : BT α) : (bal l k v r).size = l.size + 1 + r.size := by
  rw [BT.size_eq, toL_bal, BT.size_eq, BT.size_eq]; simp; omega

def ins (k : Int) (v : α) : BT α → BT α
  | .nil => .node .nil k v .nil
  | .node l k' v' r => if k < k' then bal (ins k v l) k' v' r else if k' < k then bal l k' v' (ins k v r) else .node l k v r

def least : BT α → Int → α → Int × α
  | .nil, k, v => (k, v)
  | .node l k v _, _, _ => least l k v

/-- both trees, with nothing between them; dr: what the high one is without a key -/
def mergeW (l r : BT α) (dr : Int → BT α) : BT α :=
  match r with
  | .nil => l
  | .node a k v _ => bal l (least a k v).1 (least a k v).2 (dr (least a k v).1)

def del : BT α → Int → BT α
  | .nil, _ => .nil
  | .node l k' v' r, k => if k < k' then bal (del l k) k' v' r else if k' < k then bal l k' v' (del r k) else mergeW l r (del r)

def lookT (k : Int) : BT α → Option α
  | .nil => none
  | .node l k' v r => if k' = k then some v else if k < k' then lookT k l else lookT k r

def tellT (f : Int) : BT α → List (Int × α)
  | .nil => []
  | .node l k v r => if k < f then tellT f r else tellT f l ++ (k, v) :: tellT f r

/-! ### Lists whose keys rise -/
def Rises (l : List (Int × α)) : Prop := l.Pairwise fun a b => a.1 < b.1

def insL (k : Int) (v : α) : List (Int × α) → List (Int × α)
  | [] => [(k, v)]
  | (a, b) :: r => if a < k then (a, b) :: insL k v r else if a = k then (k, v) :: r else (k, v) :: (a, b) :: r
def delL (k : Int) (l : List (Int × α)) : List (Int × α) := l.filter fun e => e.1 != k
def lookL (k : Int) : List (Int × α) → Option α
  | [] => none
  | (a, b) :: r => if a = k then some b else lookL k r
def fromL (k : Int) (l : List (Int × α)) : List (Int × α) := l.filter fun e => !decide (e.1 < k)

theorem Rises.nil : Rises ([] : List (Int × α)) := List.Pairwise.nil
theorem rises_mid {l r : List (Int × α)} {e : Int × α} : Rises (l ++ e :: r) ↔ Rises l ∧ Rises r ∧ (∀ x ∈ l, x.1 < e.1) ∧ (∀ x ∈ r, e.1 < x.1) := by
  unfold Rises
  rw [List.pairwise_append, List.pairwise_cons]
  constructor
  · rintro ⟨h1, ⟨h2, h3⟩, h4⟩
    exact ⟨h1, h3, fun x hx => h4 x hx e (by simp), fun x hx => h2 x hx⟩
  · rintro ⟨h1, h2, h3, h4⟩
    refine ⟨h1, ⟨h4, h2⟩, fun x hx y hy => ?_⟩
    rcases List.mem_cons.1 hy with rfl | hy
    · exact h3 x hx
    · have := h3 x hx; have := h4 y hy; omega

theorem insL_low {l r : List (Int × α)} {e : Int × α} {k : Int} (v : α) (h : k < e.1) : insL k v (l ++ e :: r) = insL k v l ++ e :: r := by
  induction l with
  | nil =>
    obtain ⟨a, b⟩ := e
    simp only [List.nil_append, insL]
    rw [if_neg (by simp at h; omega), if_neg (by simp at h; omega)]; rfl
  | cons x l ih =>
    obtain ⟨a, b⟩ := x
    simp only [List.cons_append, insL]
    split
    · rw [ih]; rfl
    · split <;> rfl
theorem insL_high {l r : List (Int × α)} {k : Int} (v : α) (h : ∀ x ∈ l, x.1 < k) : insL k v (l ++ r) = l ++ insL k v r := by
  induction l with
  | nil => rfl
  | cons x l ih =>
    obtain ⟨a, b⟩ := x
    simp only [List.cons_append, insL]
    rw [if_pos (h (a, b) (by simp)), ih (fun x hx => h x (by simp [hx]))]

theorem mem_insL {l : List (Int × α)} {k : Int} {v : α} {x : Int × α} (h : x ∈ insL k v l) : x = (k, v) ∨ x ∈ l := by
  induction l with
  | nil => simp [insL] at h; exact .inl h
  | cons y l ih =>
    obtain ⟨a, b⟩ := y
    simp only [insL] at h
    split at h
    · rcases List.mem_cons.1 h with rfl | h
      · exact .inr (by simp)
      · rcases ih h with h | h
        · exact .inl h
        · exact .inr (by simp [h])
    · split at h
      · rcases List.mem_cons.1 h with rfl | h
        · exact .inl rfl
        · exact .inr (by simp [h])
      · rcases List.mem_cons.1 h with rfl | h
        · exact .inl rfl
        · exact .inr h

theorem rises_insL {l : List (Int × α)} (k : Int) (v : α) (h : Rises l) : Rises (insL k v l) := by
  induction l with
  | nil => exact List.pairwise_singleton _ _
  | cons y l ih =>
    obtain ⟨a, b⟩ := y
    have h' := List.pairwise_cons.1 h
    simp only [insL]
    split
    · rename_i hlt
      refine List.pairwise_cons.2 ⟨fun x hx => ?_, ih h'.2⟩
      rcases mem_insL hx with rfl | hx
      · exact hlt
      · exact h'.1 x hx
    · split
      · rename_i heq
        refine List.pairwise_cons.2 ⟨fun x hx => ?_, h'.2⟩
        have := h'.1 x hx
        simp at this ⊢; omega
      · refine List.pairwise_cons.2 ⟨fun x hx => ?_, h⟩
        rcases List.mem_cons.1 hx with rfl | hx
        · simp; omega
        · have := h'.1 x hx
          simp at this ⊢; omega

theorem rises_delL {l : List (Int × α)} (k : Int) (h : Rises l) : Rises (delL k l) := List.Pairwise.filter _ h

theorem length_insL (k : Int) (v : α) (l : List (Int × α)) : (insL k v l).length ≤ l.length + 1 := by
  induction l with
  | nil => simp [insL]
  | cons y l ih =>
    obtain ⟨a, b⟩ := y
    simp only [insL]
    split
    · simp; omega
    · split <;> simp
theorem length_delL (k : Int) (l : List (Int × α)) : (delL k l).length ≤ l.length := List.length_filter_le _ _

theorem delL_append (k : Int) (l r : List (Int × α)) : delL k (l ++ r) = delL k l ++ delL k r := by simp [delL]
theorem delL_none {k : Int} {l : List (Int × α)} (h : ∀ x ∈ l, x.1 ≠ k) : delL k l = l := by
  unfold delL
  rw [List.filter_eq_self]
  intro x hx
  simpa using h x hx

/-! ### The trees' lists -/
theorem toL_ins (k : Int) (v : α) : ∀ t : BT α, Rises t.toL → (ins k v t).toL = insL k v t.toL
  | .nil, _ => rfl
  | .node l k' v' r, h => by
    obtain ⟨h1, h2, h3, h4⟩ := rises_mid.1 h
    simp only [ins, BT.toL]
    split
    · rename_i hlt
      rw [toL_bal, toL_ins k v l h1, insL_low v hlt]
    · split
      · rename_i hlt hgt
        rw [toL_bal, toL_ins k v r h2, insL_high v (fun x hx => by have := h3 x hx; simp at this; omega)]
        simp only [insL]
        rw [if_pos hgt]
      · rename_i hlt hgt
        rw [insL_high v (fun x hx => by have := h3 x hx; simp at this; omega)]
        simp only [insL, BT.toL]
        rw [if_neg (by omega), if_pos (by omega)]

theorem least_spec : ∀ (l : BT α) (k : Int) (v : α) (r : BT α), ∃ rest, (BT.node l k v r).toL = least l k v :: rest
  | .nil, k, v, r => ⟨r.toL, rfl⟩
  | .node a k' v' b, k, v, r => by
    obtain ⟨rest, h⟩ := least_spec a k' v' b
    refine ⟨rest ++ (k, v) :: r.toL, ?_⟩
    rw [BT.toL, h]; rfl

theorem toL_del : ∀ (t : BT α) (k : Int), Rises t.toL → (del t k).toL = delL k t.toL
  | .nil, _, _ => rfl
  | .node l k' v' r, k, h => by
    obtain ⟨h1, h2, h3, h4⟩ := rises_mid.1 h
    have e : delL k ((BT.node l k' v' r).toL) = delL k l.toL ++ (if k' = k then [] else [(k', v')]) ++ delL k r.toL := by
      rw [BT.toL, delL_append]
      simp only [delL, List.filter_cons]
      by_cases hk : k' = k <;> simp [hk]
    rw [e]
    simp only [del]
    split
    · rename_i hlt
      rw [toL_bal, toL_del l k h1, if_neg (by omega), delL_none (l := r.toL) (fun x hx => by have := h4 x hx; simp at this; omega)]
      simp
    · split
      · rename_i hlt hgt
        rw [toL_bal, toL_del r k h2, if_neg (by omega), delL_none (l := l.toL) (fun x hx => by have := h3 x hx; simp at this; omega)]
        simp
      · rename_i hlt hgt
        have hk : k' = k := by omega
        rw [if_pos hk, delL_none (l := l.toL) (fun x hx => by have := h3 x hx; simp at this; omega), delL_none (l := r.toL) (fun x hx => by have := h4 x hx; simp at this; omega)]
        unfold mergeW
        split
        · simp [BT.toL]
        · rename_i a k2 v2 b
          obtain ⟨rest, hr⟩ := least_spec a k2 v2 b
          rw [toL_bal, toL_del (BT.node a k2 v2 b) _ h2, hr]
          have h5 : Rises (least a k2 v2 :: rest) := by rw [← hr]; exact h2
          have h6 := (List.pairwise_cons.1 h5).1
          have h7 : delL (least a k2 v2).1 (least a k2 v2 :: rest) = rest := by
            have := delL_none (k := (least a k2 v2).1) (l := rest) (fun x hx => by have := h6 x hx; omega)
            simp only [delL, List.filter_cons] at this ⊢
            simpa using this
          rw [h7]; simp

theorem lookL_append {k : Int} {l r : List (Int × α)} (h : ∀ x ∈ l, x.1 ≠ k) : lookL k (l ++ r) = lookL k r := by
  induction l with
  | nil => rfl
  | cons y l ih =>
    obtain ⟨a, b⟩ := y
    simp only [List.cons_append, lookL]
    rw [if_neg (h (a, b) (by simp)), ih (fun x hx => h x (by simp [hx]))]
theorem lookL_none {k : Int} {l : List (Int × α)} (h : ∀ x ∈ l, x.1 ≠ k) : lookL k l = none := by
  have := lookL_append (r := []) h
  rw [List.append_nil] at this
  rw [this]; rfl
theorem lookL_append_none {k : Int} {l r : List (Int × α)} (h : ∀ x ∈ r, x.1 ≠ k) : lookL k (l ++ r) = lookL k l := by
  induction l with
  | nil => rw [List.nil_append, lookL_none h]; rfl
  | cons y l ih =>
    obtain ⟨a, b⟩ := y
    simp only [List.cons_append, lookL]
    rw [ih]

theorem look_eq (k : Int) : ∀ t : BT α, Rises t.toL → lookT k t = lookL k t.toL
  | .nil, _ => rfl
  | .node l k' v r, h => by
    obtain ⟨h1, h2, h3, h4⟩ := rises_mid.1 h
    simp only [lookT, BT.toL]
    split
    · rename_i he
      rw [lookL_append (fun x hx => by have := h3 x hx; simp at this; omega)]
      simp [lookL, he]
    · rename_i he
      split
      · rename_i hlt
        rw [look_eq k l h1, lookL_append_none]
        intro x hx
        rcases List.mem_cons.1 hx with rfl | hx
        · exact he
        · have := h4 x hx; simp at this; omega
      · rename_i hlt
        rw [look_eq k r h2, lookL_append (fun x hx => by have := h3 x hx; simp at this; omega)]
        simp [lookL, he]

theorem fromL_all {k : Int} {l : List (Int × α)} (h : ∀ x ∈ l, ¬ x.1 < k) : fromL k l = l := by
  unfold fromL
  rw [List.filter_eq_self]
  intro x hx
  simpa using h x hx
theorem fromL_none {k : Int} {l : List (Int × α)} (h : ∀ x ∈ l, x.1 < k) : fromL k l = [] := by
  unfold fromL
  rw [List.filter_eq_nil_iff]
  intro x hx
  simpa using h x hx
theorem tellT_eq (f : Int) : ∀ t : BT α, Rises t.toL → tellT f t = fromL f t.toL
  | .nil, _ => rfl
  | .node l k v r, h => by
    obtain ⟨h1, h2, h3, h4⟩ := rises_mid.1 h
    simp only [tellT, BT.toL]
    have e : fromL f (l.toL ++ (k, v) :: r.toL) = fromL f l.toL ++ fromL f ((k, v) :: r.toL) := by simp [fromL]
    rw [e]
    split
    · rename_i hlt
      rw [tellT_eq f r h2, fromL_none (l := l.toL) (fun x hx => by have := h3 x hx; simp at this; omega)]
      simp [fromL, hlt]
    · rename_i hlt
      rw [tellT_eq f l h1, tellT_eq f r h2]
      simp [fromL, hlt]

theorem length_tellT (f : Int) : ∀ t : BT α, (tellT f t).length ≤ t.size
  | .nil => Nat.le_refl _
  | .node l k v r => by
    have h1 := length_tellT f l
    have h2 := length_tellT f r
    simp only [tellT, BT.size]
    split
    · omega
    · simp; omega

theorem lookL_isSome {k : Int} {l : List (Int × α)} : (lookL k l).isSome = true ↔ ∃ x ∈ l, x.1 = k := by
  induction l with
  | nil => simp [lookL]
  | cons y l ih =>
    obtain ⟨a, b⟩ := y
    simp only [lookL]
    split
    · rename_i h; simp [h]
    · rename_i h; rw [ih]; simp [h]
theorem delL_of_look {k : Int} {l : List (Int × α)} (h : lookL k l = none) : delL k l = l := by
  refine delL_none fun x hx e => ?_
  have := lookL_isSome.2 ⟨x, hx, e⟩
  rw [h] at this; cases this

theorem size_ins (k : Int) (v : α) : ∀ t : BT α, (ins k v t).size ≤ t.size + 1
  | .nil => Nat.le_refl _
  | .node l k' v' r => by
    have h1 := size_ins k v l
    have h2 := size_ins k v r
    simp only [ins]
    split
    · rw [size_bal]; simp only [BT.size]; omega
    · split
      · rw [size_bal]; simp only [BT.size]; omega
      · simp only [BT.size]; omega
theorem size_del : ∀ (t : BT α) (k : Int), (del t k).size ≤ t.size
  | .nil, _ => Nat.le_refl _
  | .node l k' v' r, k => by
    have h1 := size_del l k
    have h2 := size_del r
    simp only [del]
    split
    · rw [size_bal]; simp only [BT.size]; omega
    · split
      · rw [size_bal]; have := h2 k; simp only [BT.size]; omega
      · unfold mergeW
        split
        · simp only [BT.size]; omega
        · rename_i a k2 v2 b
          rw [size_bal]
          have := h2 (least a k2 v2).1
          simp only [BT.size] at this ⊢; omega

end Go.Hold
