/- A producer adds a part to a transaction, ends one, begins a new epoch. -/
import Derived.Test.YtoihfhlelbdboabCoC
namespace Go.Proofs.Ytoihfhlelbdboab
open Go.RowKit Go.Dig Go.Inv Go.Hold
set_option linter.unusedVariables false
set_option linter.unusedSimpArgs false

theorem four_of {l : List Bool} (h : l.length = 4) : ∃ a b c d, l = [a, b, c, d] := by
  match l, h with
  | [a, b, c, d], _ => exact ⟨a, b, c, d, rfl⟩
theorem txn_set (b : Int) (l : List Bool) (r : Int) (h : l.length = 4) (hr : 0 ≤ r ∧ r ≤ 3) : (txnC b l).setIfInBounds (1 + r.toNat) (.bool true) = txnC b (l.set r.toNat true) := by
  obtain ⟨a, c, d, e, rfl⟩ := four_of h
  have : r = 0 ∨ r = 1 ∨ r = 2 ∨ r = 3 := by omega
  rcases this with rfl | rfl | rfl | rfl <;> rfl
theorem low_txn {w : World} {ob : Nat} {b : Int} {l : List Bool} (h : w.heap[ob]? = some (.cells (txnC b l) 91 (0, 0))) : NoLow w ob := fun z =>
  ⟨fun e => (by rw [cell_blk h] at e; simp [txnC] at e), fun e => (by rw [cell_blk h] at e; simp [txnC] at e)⟩
/-- the open transaction has a part more -/
theorem add_open {own : Own} {w : World} {i qb ob : Nat} {p : Pr} {ev : Value} {b r : Int} {l : List Bool} (h : PrC own w i qb p ev (some ⟨ob, 0, none⟩)) (ho : Owned own w) (hlab : own ob = some (.opn i)) (hl : l.length = 4) (hob : w.heap[ob]? = some (.cells (txnC b l) 91 (0, 0))) (hr : 0 ≤ r ∧ r ≤ 3) :
    PrAt own (w.setCell ⟨ob, 1 + r.toNat, none⟩ (.bool true)) i qb (p.opened b (l.set r.toNat true)) ∧ Step (OfP i) own own w (w.setCell ⟨ob, 1 + r.toNat, none⟩ (.bool true)) := by
  have hne : qb ≠ ob := fun e => by have := h.lab; rw [e, hlab] at this; cases this
  refine ⟨⟨ev, _, (set_blk_other _ _ hne).trans h.blk, h.lab, ⟨h.ends.1.same fun k hk => set_blk_other _ _ (fun e => ?_), h.ends.2⟩, ob, rfl, hlab, by simp [hl], ?_⟩, Step.one (Frm.setCell _ _ _ _) hlab (.inr (.inr rfl)) (low_txn hob) ho hob⟩
  · have := h.ends.2 k hk
    rw [e, hlab] at this; cases this
  · rw [← txn_set b l r hl hr]
    exact set_blk hob _ _
theorem addr_part (ob : Nat) (r : Int) : (⟨ob, 1, none⟩ : Addr).add r.toNat = ⟨ob, 1 + r.toNat, none⟩ := by rw [addr_add]
set_option maxRecDepth 10000 in
set_option maxHeartbeats 1000000 in
theorem add_some (own : Own) (w : World) (i qb : Nat) (p : Pr) (t r now b : Int) (l : List Bool) (hp : p.op = some (b, l)) (h : PrAt own w i qb p) (ho : Owned own w) (hn : p.ends.length ≤ 1000) (hr : 0 ≤ r ∧ r ≤ 3) (ht : t = p.last) :
    Calls Try.prog 36 #[.pointer (some ⟨qb, 0, none⟩), .int .i64 t, .int .i64 r, .int .i64 now] w fun e w' => e = .returned (.int .i64 0) ∧ ∃ own', PrAt own' w' i qb (p.opened b (l.set r.toNat true)) ∧ Step (OfP i) own own' w w' := by
  obtain ⟨ev, ov, h⟩ := h
  have h4 := h.op
  rw [hp] at h4
  obtain ⟨ob, rfl, hlab, hl, hob⟩ := h4
  have HA : Hid _ := add_open h ho hlab hl hob hr
  have c4 : w.cell? ⟨qb, 4, none⟩ = some (.pointer (some ⟨ob, 0, none⟩)) := cell_blk h.blk 4
  have HP : Hid (PrC own w i qb p ev (some ⟨ob, 0, none⟩)) := h
  obtain ⟨L, HL⟩ : ∃ L, Hid (p.last = L) := ⟨_, rfl⟩
  obtain rfl : t = L := ht.trans HL.out
  have HB : Hid (w.heap[ob]? = some (.cells (txnC b l) 91 (0, 0))) := hob
  clear h hob ht
  go_enter Try.func36, Try.ntmps36
  have : r = 0 ∨ r = 1 ∨ r = 2 ∨ r = 3 := by omega
  rcases this with rfl | rfl | rfl | rfl
  all_goals
    have k1 : w.cell? ⟨ob, 1, none⟩ = some (.bool (l.getD 0 false)) := cell_blk HB.out 1
    have k2 : w.cell? ⟨ob, 2, none⟩ = some (.bool (l.getD 1 false)) := cell_blk HB.out 2
    have k3 : w.cell? ⟨ob, 3, none⟩ = some (.bool (l.getD 2 false)) := cell_blk HB.out 3
    have k4 : w.cell? ⟨ob, 4, none⟩ = some (.bool (l.getD 3 false)) := cell_blk HB.out 4
    have f1 := frozen_blk HB.out 1
    have f2 := frozen_blk HB.out 2
    have f3 := frozen_blk HB.out 3
    have f4 := frozen_blk HB.out 4
    go_wp2_with (go_at_call 24; refine (last_at own _ i qb p ev _ HP.out hn).mono ?_; rintro e w' ⟨rfl, rfl⟩; rw [HL.out])
    go_ret
    exact ⟨rfl, own, HA.out⟩
/-- one is opened: its memory is new -/
theorem add_new {own : Own} {w : World} {i qb : Nat} {p : Pr} {ev : Value} {ov : Option Addr} {now r : Int} (h : PrC own w i qb p ev ov) (ho : Owned own w) (hr : 0 ≤ r ∧ r ≤ 3) :
    ∃ own', PrAt own' (((w.alloc (.cells (txnC now noParts) 91)).setCell ⟨qb, 4, none⟩ (.pointer (some ⟨w.heap.size, 0, none⟩))).setCell ⟨w.heap.size, 1 + r.toNat, none⟩ (.bool true)) i qb (p.opened now (noParts.set r.toNat true)) ∧
      Step (OfP i) own own' w (((w.alloc (.cells (txnC now noParts) 91)).setCell ⟨qb, 4, none⟩ (.pointer (some ⟨w.heap.size, 0, none⟩))).setCell ⟨w.heap.size, 1 + r.toNat, none⟩ (.bool true)) := by
  have hq := lt_blk h.blk
  have hne : qb ≠ w.heap.size := by omega
  have hB := below_alloc w (.cells (txnC now noParts) 91)
  have hS1 : Step (OfP i) own (own.put w.heap.size (.opn i)) w (w.alloc (.cells (txnC now noParts) 91)) := Step.alloc hB (Nat.le_refl _) (by simp) ho
  have h1 : PrC own (w.alloc (.cells (txnC now noParts) 91)) i qb p ev ov := h.below hB ho
  have hlq : own.put w.heap.size (.opn i) qb = some (.prod i) := (hS1.old qb hq).trans h.lab
  have hb2 : ((w.alloc (.cells (txnC now noParts) 91)).setCell ⟨qb, 4, none⟩ (.pointer (some ⟨w.heap.size, 0, none⟩))).heap[w.heap.size]? = some (.cells (txnC now noParts) 91 (0, 0)) := (set_blk_other _ _ (fun e => hne e.symm)).trans (alloc_blk _ _)
  have hS2 := Step.one (P := OfP i) (Frm.setCell (w.alloc (.cells (txnC now noParts) 91)) qb 4 (.pointer (some ⟨w.heap.size, 0, none⟩))) hlq (.inl rfl) h1.low hS1.new h1.blk
  have hS3 := Step.one (P := OfP i) (Frm.setCell ((w.alloc (.cells (txnC now noParts) 91)).setCell ⟨qb, 4, none⟩ (.pointer (some ⟨w.heap.size, 0, none⟩))) w.heap.size (1 + r.toNat) (.bool true)) (Own.put_same own w.heap.size (.opn i)) (.inr (.inr rfl)) (low_txn hb2) hS2.new hb2
  refine ⟨own.put w.heap.size (.opn i), ⟨ev, some ⟨w.heap.size, 0, none⟩, ?_, hlq, ⟨h1.ends.1.same fun k hk => ?_, fun k hk => ?_⟩, w.heap.size, rfl, Own.put_same _ _ _, by simp [noParts], ?_⟩, (hS1.trans hS2).trans hS3⟩
  · exact (set_blk_other _ _ hne).trans (set_blk h1.blk 4 (.pointer (some ⟨w.heap.size, 0, none⟩)))
  · have hk2 := (h.ends.1.lt k hk).2
    have hl := h.ends.2 k hk
    refine (set_blk_other _ _ (by omega)).trans (set_blk_other _ _ (fun e => ?_))
    rw [e, h.lab] at hl; cases hl
  · have hk2 := (h.ends.1.lt k hk).2
    exact (hS1.old k hk2).trans (h.ends.2 k hk)
  · rw [← txn_set now noParts r rfl hr]
    exact set_blk hb2 _ _
set_option maxRecDepth 10000 in
set_option maxHeartbeats 1000000 in
theorem add_none (own : Own) (w : World) (i qb : Nat) (p : Pr) (t r now : Int) (hp : p.op = none) (h : PrAt own w i qb p) (ho : Owned own w) (hn : p.ends.length ≤ 1000) (hr : 0 ≤ r ∧ r ≤ 3) (hl : ¬ 100 ≤ p.last) (ht : t = p.last + 1) :
    Calls Try.prog 36 #[.pointer (some ⟨qb, 0, none⟩), .int .i64 t, .int .i64 r, .int .i64 now] w fun e w' => e = .returned (.int .i64 0) ∧ ∃ own', PrAt own' w' i qb (p.opened now (noParts.set r.toNat true)) ∧ Step (OfP i) own own' w w' := by
  obtain ⟨ev, ov, h⟩ := h
  have h4 := h.op
  rw [hp] at h4
  obtain rfl : ov = none := h4
  have HA : Hid _ := add_new (now := now) h ho hr
  have c4 : w.cell? ⟨qb, 4, none⟩ = some (.pointer none) := cell_blk h.blk 4
  have hB := below_alloc w (.cells (txnC now noParts) 91)
  have h1 := h.below hB ho
  have d4 : (w.alloc (.cells (txnC now noParts) 91)).cell? ⟨qb, 4, none⟩ = some (.pointer none) := cell_blk h1.blk 4
  have e4 : (w.alloc (.cells (txnC now noParts) 91)).frozen? ⟨qb, 4, none⟩ = false := frozen_blk h1.blk 4
  have hb2 : (w.alloc (.cells (txnC now noParts) 91)).heap[w.heap.size]? = some (.cells (txnC now noParts) 91 (0, 0)) := alloc_blk _ _
  have hqw : qb < w.heap.size := lt_blk h.blk
  have hne : ¬ qb = w.heap.size := by omega
  have hne' : ¬ w.heap.size = qb := by omega
  obtain ⟨W1, HW1⟩ : ∃ W1, Hid (w.alloc (.cells (txnC now noParts) 91) = W1) := ⟨_, rfl⟩
  have HP : Hid (PrC own w i qb p ev none) := h
  obtain ⟨L, HL⟩ : ∃ L, Hid (p.last = L) := ⟨_, rfl⟩
  have hL := HL.out
  have hl0 : 0 ≤ L := by rw [← hL]; unfold Pr.last; split <;> omega
  rw [hL] at hl ht
  subst ht
  clear hL h
  go_enter Try.func36, Try.ntmps36
  have : r = 0 ∨ r = 1 ∨ r = 2 ∨ r = 3 := by omega
  rw [HW1.out] at hb2 d4 e4
  rcases this with rfl | rfl | rfl | rfl
  all_goals
    have k1 : W1.cell? ⟨w.heap.size, 1, none⟩ = some (.bool false) := cell_blk hb2 1
    have k2 : W1.cell? ⟨w.heap.size, 2, none⟩ = some (.bool false) := cell_blk hb2 2
    have k3 : W1.cell? ⟨w.heap.size, 3, none⟩ = some (.bool false) := cell_blk hb2 3
    have k4 : W1.cell? ⟨w.heap.size, 4, none⟩ = some (.bool false) := cell_blk hb2 4
    have f1 := frozen_blk hb2 1
    have f2 := frozen_blk hb2 2
    have f3 := frozen_blk hb2 3
    have f4 := frozen_blk hb2 4
    go_wp2_with (first | (go_at_call 24; refine (last_at own _ i qb p ev _ HP.out hn).mono ?_; rintro e w' ⟨rfl, rfl⟩; rw [HL.out]) | (refine wpList_build_to rfl 91 _ rfl (txnC now noParts) (by kernel_rfl) ?_) | (refine wpList_box_row rfl 91 _ rfl (txnC now noParts) ?_ ?_; rfl; rw [HW1.out]))
    rw [← HW1.out]
    go_ret
    exact ⟨rfl, HA.out⟩
set_option maxRecDepth 10000 in
set_option maxHeartbeats 1000000 in
theorem add_no (own : Own) (w : World) (i qb : Nat) (p : Pr) (t r now z : Int) (h : PrAt own w i qb p) (hn : p.ends.length ≤ 1000)
    (hz : (p.op.isSome = true ∧ t ≠ p.last ∧ z = 6) ∨ (p.op.isSome = false ∧ 100 ≤ p.last ∧ z = 7) ∨ (p.op.isSome = false ∧ ¬ 100 ≤ p.last ∧ t ≠ p.last + 1 ∧ z = 6)) :
    Calls Try.prog 36 #[.pointer (some ⟨qb, 0, none⟩), .int .i64 t, .int .i64 r, .int .i64 now] w fun e w' => e = .returned (.int .i64 z) ∧ w' = w := by
  obtain ⟨ev, ov, h⟩ := h
  have hs := h.op.isSome
  have c4 : w.cell? ⟨qb, 4, none⟩ = some (.pointer ov) := cell_blk h.blk 4
  have HP : Hid (PrC own w i qb p ev ov) := h
  have hl0 : 0 ≤ p.last := by unfold Pr.last; split <;> omega
  have hl1 : p.last ≤ 1001 := by unfold Pr.last; split <;> omega
  obtain ⟨L, HL⟩ : ∃ L, Hid (p.last = L) := ⟨_, rfl⟩
  rw [HL.out] at hz hl0 hl1
  rw [← hs] at hz
  clear h hs
  go_enter Try.func36, Try.ntmps36
  rcases hz with ⟨h1, h2, rfl⟩ | ⟨h1, h2, rfl⟩ | ⟨h1, h3, h2, rfl⟩
  · obtain ⟨a, rfl⟩ := Option.isSome_iff_exists.1 h1
    have hb : (t != L) = true := by simpa using h2
    go_wp2_with (first | (go_at_call 24; refine (last_at own _ i qb p ev _ HP.out hn).mono ?_; rintro e w' ⟨rfl, rfl⟩; rw [HL.out]))
    all_goals first
      | (go_ret; exact ⟨rfl, rfl⟩)
      | (exfalso; simp_all)
  · obtain rfl : ov = none := by cases ov with | none => rfl | some _ => cases h1
    go_wp2_with (first | (go_at_call 24; refine (last_at own _ i qb p ev _ HP.out hn).mono ?_; rintro e w' ⟨rfl, rfl⟩; rw [HL.out]))
    all_goals first
      | (go_ret; exact ⟨rfl, rfl⟩)
      | (exfalso; simp_all)
  · obtain rfl : ov = none := by cases ov with | none => rfl | some _ => cases h1
    have hb : (t != L + 1) = true := by simpa using h2
    have hd : decide (100 ≤ L) = false := by simpa using h3
    go_wp2_with (first | (go_at_call 24; refine (last_at own _ i qb p ev _ HP.out hn).mono ?_; rintro e w' ⟨rfl, rfl⟩; rw [HL.out]))
    all_goals first
      | (go_ret; exact ⟨rfl, rfl⟩)
      | (exfalso; simp_all)
/-- a part is added -/
theorem add_at (own : Own) (w : World) (i qb : Nat) (p : Pr) (t r now : Int) (h : PrAt own w i qb p) (ho : Owned own w) (hn : p.ends.length ≤ 1000) (hr : 0 ≤ r ∧ r ≤ 3) :
    Calls Try.prog 36 #[.pointer (some ⟨qb, 0, none⟩), .int .i64 t, .int .i64 r, .int .i64 now] w fun e w' => e = .returned (.int .i64 (p.add t r now).2) ∧ ∃ own', PrAt own' w' i qb (p.add t r now).1 ∧ Step (OfP i) own own' w w' := by
  have no : ∀ z, ((p.op.isSome = true ∧ t ≠ p.last ∧ z = 6) ∨ (p.op.isSome = false ∧ 100 ≤ p.last ∧ z = 7) ∨ (p.op.isSome = false ∧ ¬ 100 ≤ p.last ∧ t ≠ p.last + 1 ∧ z = 6)) → p.add t r now = (p, z) →
      Calls Try.prog 36 #[.pointer (some ⟨qb, 0, none⟩), .int .i64 t, .int .i64 r, .int .i64 now] w fun e w' => e = .returned (.int .i64 (p.add t r now).2) ∧ ∃ own', PrAt own' w' i qb (p.add t r now).1 ∧ Step (OfP i) own own' w w' := fun z hz e => by
    rw [e]
    refine (add_no own w i qb p t r now z h hn hz).mono ?_
    rintro e w' ⟨rfl, rfl⟩
    exact ⟨rfl, own, h, Step.refl ho⟩
  cases hp : p.op with
  | some x =>
    obtain ⟨b, l⟩ := x
    by_cases ht : t = p.last
    · have e : p.add t r now = (p.opened b (l.set r.toNat true), 0) := by unfold Pr.add; rw [hp]; simp [ht]
      rw [e]
      exact add_some own w i qb p t r now b l hp h ho hn hr ht
    · exact no 6 (.inl ⟨by rw [hp]; rfl, ht, rfl⟩) (by unfold Pr.add; rw [hp]; simp [ht])
  | none =>
    by_cases hl : 100 ≤ p.last
    · exact no 7 (.inr (.inl ⟨by rw [hp]; rfl, hl, rfl⟩)) (by unfold Pr.add; rw [hp]; simp [hl])
    · by_cases ht : t = p.last + 1
      · have e : p.add t r now = (p.opened now (noParts.set r.toNat true), 0) := by unfold Pr.add; rw [hp]; simp [hl, ht]
        rw [e]
        exact add_none own w i qb p t r now hp h ho hn hr hl ht
      · exact no 6 (.inr (.inr ⟨by rw [hp]; rfl, hl, ht, rfl⟩)) (by unfold Pr.add; rw [hp]; simp [hl, ht])
end Go.Proofs.Ytoihfhlelbdboab
