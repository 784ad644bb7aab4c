/- A coordinator as it lies; what it tells. -/
import Derived.Test.YtoihfhlelbdboabCoF
namespace Go.Proofs.Ytoihfhlelbdboab
open Go.RowKit Go.Dig Go.Inv Go.Oct Go.Hold
set_option linter.unusedVariables false
set_option linter.unusedSimpArgs false

/-- the table of the producers: by rising numbers, from i on -/
def tabP : Nat → List Nat → List (Int × Option Addr)
  | _, [] => []
  | i, b :: r => ((i : Int), some ⟨b, 0, none⟩) :: tabP (i + 1) r
theorem tabP_length : ∀ (i : Nat) (q : List Nat), (tabP i q).length = q.length
  | _, [] => rfl
  | i, b :: r => by simp [tabP, tabP_length (i + 1) r]
theorem tabP_look : ∀ (i : Nat) (q : List Nat) (k : Int), lookL k (tabP i q) = if (i : Int) ≤ k then (q[(k - i).toNat]?).map (fun b => some ⟨b, 0, none⟩) else none
  | i, [], k => by simp [tabP, lookL]
  | i, b :: r, k => by
    unfold tabP lookL
    by_cases h : (i : Int) = k
    · rw [if_pos h, if_pos (by omega)]
      have : (k - (i : Int)).toNat = 0 := by omega
      rw [this]; rfl
    · rw [if_neg h, tabP_look (i + 1) r k]
      by_cases h2 : (i : Int) ≤ k
      · rw [if_pos h2, if_pos (by omega)]
        have : (k - (i : Int)).toNat = (k - ((i + 1 : Nat) : Int)).toNat + 1 := by omega
        rw [this]; rfl
      · rw [if_neg h2, if_neg (by omega)]
theorem tabP_ins : ∀ (i : Nat) (q : List Nat) (b : Nat), insL ((i + q.length : Nat) : Int) (some ⟨b, 0, none⟩) (tabP i q) = tabP i (q ++ [b])
  | i, [], b => by simp [tabP, insL]
  | i, c :: r, b => by
    have h := tabP_ins (i + 1) r b
    have e : ((i + (c :: r).length : Nat) : Int) = ((i + 1 + r.length : Nat) : Int) := by simp; omega
    unfold tabP
    rw [e]
    unfold insL
    rw [if_pos (by omega), h]
    rfl
/-- a coordinator as it lies, block by block -/
structure CoS (own : Own) (w : World) (cb : Nat) (x : Co) (pb rb : Nat) (mv : Value) (q : List Nat) : Prop where
  owned : Owned own w
  blk : w.heap[cb]? = some (.cells #[.pointer (some ⟨pb, 0, none⟩), .pointer (some ⟨rb, 0, none⟩), mv, .int .i64 x.now] 51 (0, 0))
  lc : own cb = some .co
  lp : own pb = some .tp
  lr : own rb = some .tr
  tp : Pp.Tab w pb (tabP 0 q)
  tr : Rp.Tab w rb x.rs
  ms : OwnM w 0 mv x.ms
  lm : ∀ k, mv.ownBlock = some k → own k = some .ms
  len : q.length = x.ps.length
  pr : ∀ (i : Nat) (p : Pr), x.ps[i]? = some p → ∃ b, q[i]? = some b ∧ PrAt own w i b p
def CoAt (own : Own) (w : World) (cb : Nat) (x : Co) : Prop := ∃ pb rb mv q, CoS own w cb x pb rb mv q
/-- what may be known of it: after at most N operations -/
structure Co.Ok (x : Co) (N : Nat) : Prop where
  ps : x.ps.length ≤ 8
  ends : ∀ p ∈ x.ps, p.ends.length + (if p.op.isSome then 1 else 0) ≤ 100 ∧ 0 ≤ p.ep ∧ p.ep ≤ 100 ∧ p.nm.size < 1073741824
  opn : ∀ p ∈ x.ps, ∀ b l, p.op = some (b, l) → 0 ≤ b ∧ b ≤ x.now ∧ l.length = 4
  rs : x.rs.length ≤ N
  ms : x.ms.length ≤ 8 * N
  now : 0 ≤ x.now ∧ x.now ≤ N
  n : N ≤ 1000
theorem pp_cell {w : World} {pb : Nat} {l : List (Int × Option Addr)} (h : Pp.Tab w pb l) : ∃ p, w.heap[pb]? = some (.cells #[.pointer p] 100 (0, 0)) := by
  obtain ⟨p, t, hb, _⟩ := h
  exact ⟨p, hb⟩
theorem rp_cell {w : World} {pb : Nat} {l : List (Int × Rp.Rp3)} (h : Rp.Tab w pb l) : ∃ p, w.heap[pb]? = some (.cells #[.pointer p] 86 (0, 0)) := by
  obtain ⟨p, t, hb, _⟩ := h
  exact ⟨p, hb⟩
theorem pp_low {w : World} {pb : Nat} {l : List (Int × Option Addr)} (h : Pp.Tab w pb l) : NoLow w pb := fun z => by
  obtain ⟨p, hb⟩ := pp_cell h
  exact ⟨fun e => (by rw [cell_blk hb] at e; simp at e), fun e => (by rw [cell_blk hb] at e; simp at e)⟩
theorem rp_low {w : World} {pb : Nat} {l : List (Int × Rp.Rp3)} (h : Rp.Tab w pb l) : NoLow w pb := fun z => by
  obtain ⟨p, hb⟩ := rp_cell h
  exact ⟨fun e => (by rw [cell_blk hb] at e; simp at e), fun e => (by rw [cell_blk hb] at e; simp at e)⟩
theorem CoS.low {own : Own} {w : World} {cb : Nat} {x : Co} {pb rb : Nat} {mv : Value} {q : List Nat} (h : CoS own w cb x pb rb mv q) : NoLow w cb := fun z =>
  ⟨fun e => (by rw [cell_blk h.blk] at e; simp at e), fun e => (by rw [cell_blk h.blk] at e; simp at e)⟩
/-- tables lie on where their own block has not turned -/
theorem pp_step {P : Lab → Prop} {own own' : Own} {w w' : World} {pb : Nat} {l : List (Int × Option Addr)} (h : Pp.Tab w pb l) (hs : Step P own own' w w') (hl : own pb = some .tp) (hn : ¬ P .tp) : Pp.Tab w' pb l :=
  h.frmL hs.frm (fun ⟨⟨l', h1, h2⟩, _⟩ => by rw [hl] at h1; cases h1; exact hn h2) (fun k ⟨_, hk⟩ z => (hk z).1)
theorem rp_step {P : Lab → Prop} {own own' : Own} {w w' : World} {pb : Nat} {l : List (Int × Rp.Rp3)} (h : Rp.Tab w pb l) (hs : Step P own own' w w') (hl : own pb = some .tr) (hn : ¬ P .tr) : Rp.Tab w' pb l :=
  h.frmL hs.frm (fun ⟨⟨l', h1, h2⟩, _⟩ => by rw [hl] at h1; cases h1; exact hn h2) (fun k ⟨_, hk⟩ z => (hk z).2)
/-- none of it has turned -/
theorem CoS.step {own own' : Own} {w w' : World} {cb : Nat} {x : Co} {pb rb : Nat} {mv : Value} {q : List Nat} (h : CoS own w cb x pb rb mv q) (hs : Step (fun _ => False) own own' w w') : CoS own' w' cb x pb rb mv q :=
  ⟨hs.new, (hs.block (lt_blk h.blk) fun _ _ h => h).trans h.blk, (hs.old _ (lt_blk h.blk)).trans h.lc, (hs.old _ h.tp.lt).trans h.lp, (hs.old _ h.tr.lt).trans h.lr, pp_step h.tp hs h.lp (fun h => h), rp_step h.tr hs h.lr (fun h => h),
   h.ms.same fun k hk => hs.block (h.ms.lt k hk).2 fun _ _ h => h, fun k hk => (hs.old k (h.ms.lt k hk).2).trans (h.lm k hk), h.len,
   fun i p hp => by obtain ⟨b, h1, h2⟩ := h.pr i p hp; exact ⟨b, h1, h2.step hs h.owned (fun h => h) (fun h => h) (fun h => h)⟩⟩
theorem CoS.below {own : Own} {w w' : World} {cb : Nat} {x : Co} {pb rb : Nat} {mv : Value} {q : List Nat} (h : CoS own w cb x pb rb mv q) (hB : Below w.heap.size w w') : CoS own w' cb x pb rb mv q := h.step (Step.of_below hB h.owned)
theorem CoAt.below {own : Own} {w w' : World} {cb : Nat} {x : Co} (h : CoAt own w cb x) (hB : Below w.heap.size w w') : CoAt own w' cb x := by
  obtain ⟨pb, rb, mv, q, h⟩ := h
  exact ⟨pb, rb, mv, q, h.below hB⟩
/-- where one's producers lie -/
def ptrAt (q : List Nat) (k : Int) : Option Addr := if 0 ≤ k then (q[k.toNat]?).map (fun b => ⟨b, 0, none⟩) else none
theorem ptrAt_look (q : List Nat) (k : Int) : (lookL k (tabP 0 q)).getD (none : Option Addr) = ptrAt q k := by
  rw [tabP_look]
  unfold ptrAt
  by_cases h : 0 ≤ k
  · rw [if_pos (by simpa using h), if_pos h]
    simp
    cases q[k.toNat]? <;> rfl
  · rw [if_neg (by simpa using h), if_neg h]; rfl
set_option maxHeartbeats 400000 in
theorem producer_at (own : Own) (w : World) (cb : Nat) (x : Co) (pb rb : Nat) (mv : Value) (q : List Nat) (h : CoS own w cb x pb rb mv q) (k : Int) :
    Calls Try.prog 23 #[.pointer (some ⟨cb, 0, none⟩), .int .i64 k] w fun e w' => e = .returned (.pointer (ptrAt q k)) ∧ w' = w := by
  have c0 : w.cell? ⟨cb, 0, none⟩ = some (.pointer (some ⟨pb, 0, none⟩)) := cell_blk h.blk 0
  have hT := h.tp
  clear h
  go_enter Try.func23, Try.ntmps23
  go_wp2_with (first | (go_at_call 39; refine (Pp.Get_any _ (tabP 0 q) k _ (.inr ⟨pb, rfl, hT⟩)).mono ?_; rintro e w2 ⟨rfl, rfl⟩; rw [ptrAt_look]))
  go_ret
  exact ⟨rfl, rfl⟩
set_option maxHeartbeats 400000 in
theorem Now_at (own : Own) (w : World) (cb : Nat) (x : Co) (h : CoAt own w cb x) : Calls Try.prog 15 #[.pointer (some ⟨cb, 0, none⟩)] w fun e w' => e = .returned (.int .i64 x.now) ∧ w' = w := by
  obtain ⟨pb, rb, mv, q, h⟩ := h
  have c3 : w.cell? ⟨cb, 3, none⟩ = some (.int .i64 x.now) := cell_blk h.blk 3
  clear h
  go_enter Try.func15, Try.ntmps15
  go_wp2
  go_ret
  exact ⟨rfl, rfl⟩
theorem Now_nil (w : World) : Calls Try.prog 15 #[.pointer none] w fun e w' => e = .returned (.int .i64 0) ∧ w' = w := by
  go_enter Try.func15, Try.ntmps15
  go_wp2
  go_ret
  exact ⟨rfl, rfl⟩
/-- the epoch that is told: of a producer that is there -/
def Co.ep (x : Co) (k : Int) : Int × Bool := match x.at k with | some (_, p) => (p.ep, true) | .none => (0, false)
theorem at_ptr {own : Own} {w : World} {cb : Nat} {x : Co} {pb rb : Nat} {mv : Value} {q : List Nat} (h : CoS own w cb x pb rb mv q) (k : Int) :
    (x.at k = none ∧ ptrAt q k = none) ∨ ∃ i p b, x.at k = some (i, p) ∧ x.ps[i]? = some p ∧ ptrAt q k = some ⟨b, 0, none⟩ ∧ q[i]? = some b ∧ PrAt own w i b p := by
  unfold Co.at ptrAt
  by_cases h0 : 0 ≤ k
  · rw [if_pos h0, if_pos h0]
    cases hp : x.ps[k.toNat]? with
    | none =>
      have : q[k.toNat]? = none := by
        rw [List.getElem?_eq_none_iff] at hp ⊢
        rw [h.len]; exact hp
      rw [this]
      exact .inl ⟨rfl, rfl⟩
    | some p =>
      obtain ⟨b, h1, h2⟩ := h.pr _ p hp
      exact .inr ⟨k.toNat, p, b, rfl, hp, by rw [h1]; rfl, h1, h2⟩
  · rw [if_neg h0, if_neg h0]
    exact .inl ⟨rfl, rfl⟩
end Go.Proofs.Ytoihfhlelbdboab
