/- coord: what is open for so many ticks. -/
import Derived.Test.YtoihfhlelbdboaaCoX
import Derived.Laws.StructEq
import Derived.Test.YtoihfhlelbdboaaRows
import Derived.Test.YtoihfhlelbdboaaCoF
import Derived.ProofKit
import Derived.OpenShut
import Derived.ShutString
import Derived.ChangeOld
import Derived.Deep.Slices
namespace Go.Proofs.Ytoihfhlelbdboaa
open Go.RowKit Go.Dig Go.Inv Go.Oct Go.Hold
set_option linter.unusedVariables false
set_option linter.unusedSimpArgs false

def coC (a b : Option Addr) : Array Value := #[.pointer a, .pointer b, .slice none 0 0, .int .i64 0]
theorem coS_none (w : World) (cb pb rb : Nat) (hc : w.heap[cb]? = some (.cells (coC (some ⟨pb, 0, none⟩) (some ⟨rb, 0, none⟩)) 56 (0, 0))) (hp : Pp.Tab w pb []) (hr : Rp.Tab w rb []) (h1 : cb ≠ pb) (h2 : cb ≠ rb) (h3 : pb ≠ rb) :
    CoS (fun k => if k = cb then some .co else if k = pb then some .tp else if k = rb then some .tr else none) w cb Co.none pb rb (.slice none 0 0) [] := by
  refine ⟨fun k l hk => ?_, hc, by simp, by simp [h1.symm], by simp [h2.symm, h3.symm], hp, hr, OwnM.nil _ _, fun k hk => (by cases hk), rfl, fun i p hi => by simp [Co.none] at hi⟩
  try dsimp only at hk
  split at hk
  · rename_i e; subst e; exact lt_blk hc
  · split at hk
    · rename_i e; subst e; exact hp.lt
    · split at hk
      · rename_i e; subst e; exact hr.lt
      · cases hk
set_option maxRecDepth 100000 in
set_option maxHeartbeats 1000000 in
theorem prepare_new (w : World) (cb : Nat) (hc : w.heap[cb]? = some (.cells (coC none none) 56 (0, 0))) :
    Calls Try.prog 18 #[.pointer (some ⟨cb, 0, none⟩)] w fun e w' => (∃ v, e = .returned v) ∧ ∃ pb rb, w'.heap[cb]? = some (.cells (coC (some ⟨pb, 0, none⟩) (some ⟨rb, 0, none⟩)) 56 (0, 0)) ∧ Pp.Tab w' pb [] ∧ Rp.Tab w' rb [] ∧ w.heap.size ≤ pb ∧ pb < rb ∧ Frm (· = cb) w w' := by
  have c0 : w.cell? ⟨cb, 0, none⟩ = some (.pointer none) := cell_blk hc 0
  have hcl := lt_blk hc
  go_enter Try.func18, Try.ntmps18
  go_wp2_with fail
  refine (Pp.New_any _).mono ?_
  rintro e w1 ⟨rfl, hT1, hB1⟩
  have hb1 := (hB1.block _ hcl).trans hc
  have d0 : w1.cell? ⟨cb, 0, none⟩ = some (.pointer none) := cell_blk hb1 0
  have f0 := frozen_blk hb1 0
  have hb2 := set_blk hb1 0 (.pointer (some ⟨w.heap.size, 0, none⟩))
  have hT2 : Pp.Tab (w1.setCell ⟨cb, 0, none⟩ (.pointer (some ⟨w.heap.size, 0, none⟩))) w.heap.size [] := hT1.frmL (Frm.setCell _ _ _ _) (by omega) (fun k e z => by subst e; rw [cell_blk hb1]; simp [coC])
  have hF2 : Frm (· = cb) w (w1.setCell ⟨cb, 0, none⟩ (.pointer (some ⟨w.heap.size, 0, none⟩))) := (Frm.of_below hB1).trans (Frm.setCell _ _ _ _)
  obtain ⟨w2, HW2⟩ : ∃ w2, Hid (w1.setCell ⟨cb, 0, none⟩ (.pointer (some ⟨w.heap.size, 0, none⟩)) = w2) := ⟨_, rfl⟩
  rw [HW2.out] at hb2 hT2 hF2
  have HT2 : Hid (Pp.Tab w2 w.heap.size []) := hT2
  have HF2 : Hid (Frm (· = cb) w w2) := hF2
  have HB2 : Hid (w2.heap[cb]? = some (.cells (coC (some ⟨w.heap.size, 0, none⟩) none) 56 (0, 0))) := hb2
  clear hT2 hF2 hb2 hT1 hB1 hb1 c0 hc
  go_wp2_with (rw [HW2.out])
  refine (Rp.New_any _).mono ?_
  rintro e w3 ⟨rfl, hT3, hB3⟩
  have hb3 := (hB3.block _ (lt_blk HB2.out)).trans HB2.out
  have d1 : w3.cell? ⟨cb, 1, none⟩ = some (.pointer none) := cell_blk hb3 1
  have f1 := frozen_blk hb3 1
  have hne : w2.heap.size ≠ cb := by have := lt_blk HB2.out; omega
  have hsz : w.heap.size < w2.heap.size := HT2.out.lt
  have hpc : w.heap.size ≠ cb := by omega
  clear d0 f0
  go_wp2_with fail
  have hlo : ∀ k, k = cb → (∀ z, w3.cell? ⟨k, 3, none⟩ ≠ some (.pointer z)) ∧ ∀ z, w3.cell? ⟨k, 5, none⟩ ≠ some (.pointer z) := fun k e => by
    subst e
    exact ⟨fun z => by rw [cell_blk hb3]; simp [coC], fun z => by rw [cell_blk hb3]; simp [coC]⟩
  exact bodyPost_end (v := .tuple #[]) (by simp [results, Try.results18, go_sem]) rfl ⟨⟨_, rfl⟩, w.heap.size, w2.heap.size, set_blk hb3 1 (.pointer (some ⟨w2.heap.size, 0, none⟩)), (HT2.out.grow hB3).frmL (Frm.setCell _ _ _ _) hpc (fun k e => (hlo k e).1), hT3.frmL (Frm.setCell _ _ _ _) hne (fun k e => (hlo k e).2), Nat.le_refl _, hsz, (HF2.out.trans (Frm.of_below hB3)).trans (Frm.setCell _ _ _ _)⟩
set_option maxRecDepth 100000 in
set_option maxHeartbeats 1000000 in
theorem New_at (w : World) : Calls Try.prog 10 #[] w fun e w' => ∃ own, e = .returned (.pointer (some ⟨w.heap.size, 0, none⟩)) ∧ CoAt own w' w.heap.size Co.none ∧ Over w.heap.size own ∧ Below w.heap.size w w' := by
  have hB0 := below_alloc w (.cells (coC none none) 56)
  have hc : (w.alloc (.cells (coC none none) 56)).heap[w.heap.size]? = some (.cells (coC none none) 56 (0, 0)) := alloc_blk _ _
  go_enter Try.func10, Try.ntmps10
  go_wp2_with (first | (refine wpList_build_to rfl 56 _ rfl (coC none none) (by kernel_rfl) ?_) | (refine wpList_box_row rfl 56 _ rfl (coC none none) ?_ ?_; rfl) | (go_at_call 18; refine (prepare_new _ w.heap.size hc).mono ?_; rintro e w1 ⟨⟨v1, rfl⟩, pb, rb, h1, h2, h3, h4, h5, h6⟩))
  have hs : (w.alloc (.cells (coC none none) 56)).heap.size = w.heap.size + 1 := by simp
  go_ret
  refine ⟨_, rfl, ⟨pb, rb, _, [], coS_none w1 w.heap.size pb rb h1 h2 h3 (by omega) (by omega) (by omega)⟩, fun k l hk => ?_, hB0.trans (h6.below (by omega) (fun k hk e => by omega))⟩
  try dsimp only at hk
  split at hk
  · omega
  · split at hk
    · omega
    · split at hk
      · omega
      · cases hk
end Go.Proofs.Ytoihfhlelbdboaa
namespace Go.Proofs.Ytoihfhlelbdboaa
open Go.RowKit Go.Dig Go.Inv Go.Oct Go.Hold
set_option linter.unusedVariables false
set_option linter.unusedSimpArgs false

def Mk.eqB (m n : Mk) : Bool := m.k == n.k && (m.p == n.p && (m.e == n.e && m.t == n.t))
def rpE (r s : Rp.Rp3) : Bool := r.err == s.err && (r.pr == s.pr && r.ep == s.ep)
theorem Mk.eqB_self (m : Mk) : m.eqB m = true := by simp [Mk.eqB]
theorem rpE_self (r : Rp.Rp3) : rpE r r = true := by simp [rpE]
theorem equal_mk (m n : Mk) (w : World) : (Op.equalIn 10000 36 (.agg m.cells) (.agg n.cells)).run Try.prog w = .ok (m.eqB n) w := by
  have h := run_equalIn_struct (P := Try.prog) w 9999 36 m.cells n.cells (by kernel_rfl) (by kernel_rfl)
  refine h.trans ?_
  have hf : (Try.prog.fieldsOf 36).toList.map (fun f => (f.type, f.offset)) = [(3, 0), (3, 1), (3, 2), (3, 3)] := by kernel_rfl
  clear h hf
  simp [Op.eqFields, Mk.cells, Mk.eqB, go_sem]
  repeat' split
  all_goals simp_all
theorem equal_rp (r s : Rp.Rp3) (w : World) : (Op.equalIn 10000 28 (.agg (rpC r)) (.agg (rpC s))).run Try.prog w = .ok (rpE r s) w := by
  have h := run_equalIn_struct (P := Try.prog) w 9999 28 (rpC r) (rpC s) (by kernel_rfl) (by kernel_rfl)
  refine h.trans ?_
  have hf : (Try.prog.fieldsOf 28).toList.map (fun f => (f.type, f.offset)) = [(26, 0), (3, 1), (3, 2)] := by kernel_rfl
  clear h hf
  simp [Op.eqFields, rpC, rpE, go_sem]
  repeat' split
  all_goals simp_all
/-- Apply of one that may be, its answer known -/
theorem apply_lit (own : Own) (w : World) (cb : Nat) (x : Co) (n : Nat) (h : CoAt own w cb x) (o : OpF) (hin : o.In) (hi : x.Inv n) (hn : n ≤ 1000) (hb : o.ok = true) (r : Rp.Rp3) (ms : List Mk) (x' : Co) (hx : x.apply true o = (r, ms, x')) :
    Calls Try.prog 11 #[.pointer (some ⟨cb, 0, none⟩), .agg o.cells] w fun e w' => ApR own w cb r ms x' e w' ∧ x'.Inv (n + 1) := by
  refine (apply_at own w cb x n h o hin hi hn).mono fun e w' h => ?_
  rw [hb, hx] at h
  have := hi.apply true o
  rw [hx] at this
  exact ⟨h, this⟩
def op1 : OpF := ⟨1, 0, 0, ⟨#[97]⟩, 0, 0, 0, 0, false⟩
def op2 : OpF := ⟨2, 0, 1, ⟨#[]⟩, 0, 0, 1, 0, false⟩
def op3 : OpF := ⟨3, 0, 2, ⟨#[]⟩, 0, 0, 1, 0, true⟩
def co1 : Co := ⟨[⟨⟨#[97]⟩, 0, [], none⟩], [(0, ⟨0, 0, 0⟩)], [⟨1, 0, 0, 0⟩], 0⟩
def co2 : Co := ⟨[⟨⟨#[97]⟩, 0, [], some (0, [true, false, false, false])⟩], [(0, ⟨0, 0, 0⟩), (1, ⟨0, 0, 0⟩)], [⟨1, 0, 0, 0⟩], 0⟩
def co3 : Co := ⟨[⟨⟨#[97]⟩, 0, [2], none⟩], [(0, ⟨0, 0, 0⟩), (1, ⟨0, 0, 0⟩), (2, ⟨0, 0, 0⟩)], [⟨1, 0, 0, 0⟩, ⟨2, 0, 0, 1⟩], 0⟩
theorem op1_in : op1.In := by constructor <;> simp [op1, inI] <;> decide
theorem op2_in : op2.In := by constructor <;> simp [op2, inI] <;> decide
theorem op3_in : op3.In := by constructor <;> simp [op3, inI] <;> decide
theorem op1_ok : op1.ok = true := by kernel_rfl
theorem op2_ok : op2.ok = true := by kernel_rfl
theorem op3_ok : op3.ok = true := by kernel_rfl
theorem co1_eq : Co.none.apply true op1 = (⟨0, 0, 0⟩, [⟨1, 0, 0, 0⟩], co1) := by kernel_rfl
theorem co2_eq : co1.apply true op2 = (⟨0, 0, 0⟩, [], co2) := by kernel_rfl
theorem co3_eq : co2.apply true op3 = (⟨0, 0, 0⟩, [⟨2, 0, 0, 1⟩], co3) := by kernel_rfl
end Go.Proofs.Ytoihfhlelbdboaa
namespace Go.Proofs.Ytoihfhlelbdboaa
open Go.RowKit Go.Dig Go.Inv Go.Oct Go.Hold
set_option linter.unusedVariables false
set_option linter.unusedSimpArgs false

/-- a block without a label lies on -/
theorem Step.keep {P : Lab → Prop} {own own' : Own} {w w' : World} (h : Step P own own' w w') {k : Nat} {o : Obj} (hk : w.heap[k]? = some o) (hn : own k = none) : w'.heap[k]? = some o :=
  (h.block (lt_blk hk) fun l e => by rw [hn] at e; cases e).trans hk
theorem Step.unlab {P : Lab → Prop} {own own' : Own} {w w' : World} (h : Step P own own' w w') {k : Nat} {o : Obj} (hk : w.heap[k]? = some o) (hn : own k = none) : own' k = none := (h.old k (lt_blk hk)).trans hn
theorem CoAt.owned {own : Own} {w : World} {cb : Nat} {x : Co} (h : CoAt own w cb x) : Owned own w := by obtain ⟨_, _, _, _, h⟩ := h; exact h.owned
theorem Owned.fresh {own : Own} {w : World} (h : Owned own w) {k : Nat} (hk : w.heap.size ≤ k) : own k = none := by
  cases hh : own k with
  | none => rfl
  | some l => have := h k l hh; omega
/-- a row of marks, cell by cell -/
theorem OwnM.cell1 {w : World} {base : Nat} {v : Value} {m : Mk} (h : OwnM w base v [m]) : ∃ g c, v = .slice (some ⟨g, 0, none⟩) 1 c ∧ base ≤ g ∧ ∀ j u, (mkC [m])[j]? = some u → w.cell? ⟨g, j, none⟩ = some u := by
  obtain ⟨ao, c, rfl⟩ := h.form
  rcases h.1.2 with ⟨e, h0⟩ | ⟨g, cap, cur, e, hb, _⟩
  · simp at h0
  · cases e
    refine ⟨g, c, rfl, hb, fun j u hu => ?_⟩
    have := h.cells.2 j u hu
    rwa [addr_add, Nat.zero_add] at this
set_option maxRecDepth 100000 in
set_option maxHeartbeats 4000000 in
theorem known_at (w : World) : Calls Try.prog 15 #[] w fun e w' => e = .returned (.bool true) ∧ Below w.heap.size w w' := by
  go_enter Try.func15, Try.ntmps15
  go_wp2_with (first | (refine wpList_build_to rfl 33 #[(0, .const (.int .i64 1)), (3, .const (.string ⟨#[97]⟩))] rfl op1.cells (by kernel_rfl) ?_) | (go_at_call 10; refine (New_at _).mono ?_; rintro e w1 ⟨own1, rfl, h1, ho1, hB1⟩) | (go_at_call 11; refine (apply_lit own1 _ _ Co.none 0 h1 op1 op1_in Co.inv_none (by omega) op1_ok _ _ _ co1_eq).mono ?_; rintro e w2 ⟨⟨v2, own2, rfl, hO2, hl2, hC2, hS2⟩, hI2⟩) | (refine wpList_alloc_row rfl 28 rfl (rpC rp0) (by kernel_rfl) ?_) | (refine wpList_store_whole rfl 28 _ _ rfl w2.heap.size (rpC ⟨0, 0, 0⟩) (rpC rp0) ?_ ?_ 28 (alloc_blk _ _) (by kernel_rfl) (rpC_all _) rfl ?_; rfl; rfl))
  intro w3 h3 hK3
  have hB3 : Below w2.heap.size w2 w3 := (below_alloc _ _).trans (hK3.below (Nat.le_refl _) (by simp))
  have hO2' := ho1.step hS2 hB1.size
  have hBt2 : Below w.heap.size w w2 := hB1.trans (ho1.below hS2 hB1.size)
  obtain ⟨g2, n2, rfl, hg2, hc2⟩ := hO2.cell1
  have hgl2 : g2 < w2.heap.size := (hO2.lt g2 rfl).2
  have hn2 : own2 g2 = none := hl2 g2 rfl
  have hz2 : own2 w2.heap.size = none := hC2.owned.fresh (Nat.le_refl _)
  have hC3 := hC2.below hB3
  clear hC2 hO2 hl2 h1 hS2 ho1
  go_wp2_with (first | (refine wpList_build_to rfl 33 #[(0, .const (.int .i64 2)), (2, .const (.int .i64 1)), (6, .const (.int .i64 1))] rfl op2.cells (by kernel_rfl) ?_) | (refine wpList_build_to rfl 33 #[(0, .const (.int .i64 3)), (2, .const (.int .i64 2)), (6, .const (.int .i64 1)), (8, .const (.bool true))] rfl op3.cells (by kernel_rfl) ?_) | (go_at_call 11; refine (apply_lit own2 _ _ co1 1 hC3 op2 op2_in hI2 (by omega) op2_ok _ _ _ co2_eq).mono ?_; rintro e w4 ⟨⟨v4, own4, rfl, hO4, hl4, hC4, hS4⟩, hI4⟩; have hL4 : w.heap.size ≤ w3.heap.size := Nat.le_trans hBt2.size hB3.size; have hBt4 := (hBt2.trans (hB3.mono hBt2.size)).trans ((hO2'.below hS4 hL4)); have h4 := hS4.keep h3 hz2; have hO4' := hO2'.step hS4 hL4; have hn4 := (hS4.old g2 (Nat.lt_of_lt_of_le hgl2 hB3.size)).trans hn2; have hz4 := (hS4.old _ (lt_blk h3)).trans hz2; have hE4 : ∀ j, w4.cell? ⟨g2, j, none⟩ = w2.cell? ⟨g2, j, none⟩ := fun j => (World.cell?_of_block (a := ⟨g2, j, none⟩) (hS4.block (Nat.lt_of_lt_of_le hgl2 hB3.size) fun l e => by rw [hn2] at e; cases e)).trans (World.cell?_of_block (a := ⟨g2, j, none⟩) (hB3.block g2 hgl2)); clear hS4 hC3 hI2) | (go_at_call 11; refine (apply_lit own4 _ _ co2 2 hC4 op3 op3_in hI4 (by omega) op3_ok _ _ _ co3_eq).mono ?_; rintro e w6 ⟨⟨v6, own6, rfl, hO6, hl6, hC6, hS6⟩, hI6⟩) | (refine wpList_alloc_row rfl 28 rfl (rpC rp0) (by kernel_rfl) ?_) | (refine wpList_store_whole rfl 28 _ _ rfl w6.heap.size (rpC ⟨0, 0, 0⟩) (rpC rp0) ?_ ?_ 28 (alloc_blk _ _) (by kernel_rfl) (rpC_all _) rfl ?_; rfl; rfl))
  intro w7 h7 hK7
  have hB7 : Below w6.heap.size w6 w7 := (below_alloc _ _).trans (hK7.below (Nat.le_refl _) (by simp))
  have hL4 : w.heap.size ≤ w4.heap.size := hBt4.size
  have hBt6 : Below w.heap.size w w6 := hBt4.trans (hO4'.below hS6 hL4)
  have hBt7 : Below w.heap.size w w7 := hBt6.trans (hB7.mono hBt6.size)
  obtain ⟨g6, n6, rfl, hg6, hc6⟩ := hO6.cell1
  have hgl6 : g6 < w6.heap.size := (hO6.lt g6 rfl).2
  have hcl4 : g2 < w4.heap.size := by have := lt_blk h4; omega
  have hh : w7.heap[w2.heap.size]? = some (.cells (rpC ⟨0, 0, 0⟩) 28 (0, 0)) := (hB7.block _ (Nat.lt_of_lt_of_le (lt_blk h4) hS6.size)).trans (hS6.keep h4 hz4)
  have r0 : w7.cell? ⟨w2.heap.size, 0, none⟩ = some (.int .i64 0) := cell_blk hh 0
  have m0 : w7.cell? ⟨g2, 0, none⟩ = some (.int .i64 1) := by
    refine (hB7.cell (p := ⟨g2, 0, none⟩) (Nat.lt_of_lt_of_le hcl4 hS6.size)).trans ((World.cell?_of_block (a := ⟨g2, 0, none⟩) (hS6.block hcl4 fun l e => by rw [hn4] at e; cases e)).trans ((hE4 0).trans (hc2 0 _ rfl)))
  have n0 : ∀ j u, (mkC [⟨2, 0, 0, 1⟩])[j]? = some u → w7.cell? ⟨g6, j, none⟩ = some u := fun j u hu => (hB7.cell (p := ⟨g6, j, none⟩) hgl6).trans (hc6 j u hu)
  have q0 : w7.cell? ⟨g6, 0, none⟩ = some (.int .i64 2) := n0 0 _ rfl
  have q1 : w7.cell? ⟨g6, 1, none⟩ = some (.int .i64 0) := n0 1 _ rfl
  have q2 : w7.cell? ⟨g6, 2, none⟩ = some (.int .i64 0) := n0 2 _ rfl
  have q3 : w7.cell? ⟨g6, 3, none⟩ = some (.int .i64 1) := n0 3 _ rfl
  clear n0 hc6
  clear hB7 hK7 h7 hC6 hS6 hI6 hO6 hl6 hO4' hC4 hO4 hl4 hI4 hE4 hBt4 hBt6 h4 hz4 hn4 hh hB3 hK3 h3 hc2 hn2 hz2 hO2'
  go_wp2_with fail
  go_ret
  exact ⟨rfl, hBt7⟩
end Go.Proofs.Ytoihfhlelbdboaa
namespace Go.Proofs.Ytoihfhlelbdboaa
open Go.RowKit Go.Dig Go.Inv Go.Oct Go.Hold
set_option linter.unusedVariables false
set_option linter.unusedSimpArgs false

set_option maxRecDepth 100000 in
set_option maxHeartbeats 1000000 in
theorem CloneM_any (w : World) (base : Nat) (v : Value) (L : List Mk) (h : OwnM w base v L) (hL : L.length ≤ 50000) : Calls Try.prog 25 #[v] w fun e w' => ∃ v', e = .returned v' ∧ OwnM w' w.heap.size v' L ∧ Below w.heap.size w w' := by
  rcases h.1.2 with ⟨rfl, h0⟩ | ⟨g, cap, cur, rfl, hb, hg, _⟩
  · obtain rfl : L = [] := List.eq_nil_of_length_eq_zero h0
    have hn := Lib.run_eql_slice_nil (P := Try.prog) w 29 36 none 0 0 0 0 (by kernel_rfl)
    go_enter Try.func25, Try.ntmps25
    go_wp2
    go_ret
    exact ⟨_, rfl, OwnM.nil _ _, Below.refl _ _⟩
  · have hn := Lib.run_eql_slice_nil (P := Try.prog) w 29 36 (some ⟨g, 0, none⟩) L.length cap 0 0 (by kernel_rfl)
    have hE : OwnM (w.alloc (.cells #[] 36)) w.heap.size (.slice (some ⟨w.heap.size, 0, none⟩) 0 0) [] := by
      refine ⟨⟨rfl, .inr ⟨w.heap.size, 0, #[], rfl, Nat.le_refl _, alloc_blk _ _, Nat.le_refl _, Nat.zero_le _, rfl, rfl⟩⟩, fun k hk j u hu => ?_⟩
      cases hk
      rw [cell_blk (alloc_blk _ _)] at hu
      simp at hu
    have hO : OwnM (w.alloc (.cells #[] 36)) base (.slice (some ⟨g, 0, none⟩) L.length cap) L := h.below (below_alloc _ _)
    have hs : (w.alloc (.cells #[] 36)).heap.size = w.heap.size + 1 := by simp
    go_enter Try.func25, Try.ntmps25
    go_wp2_with (refine wpList_appM rfl _ _ rfl w.heap.size base (.slice (some ⟨w.heap.size, 0, none⟩) 0 0) (.slice (some ⟨g, 0, none⟩) L.length cap) [] L ?_ ?_ hE hO (by simp; omega) (by omega) ?_; rfl; rfl)
    intro v' w' hv hG
    go_wp2_with fail
    go_ret
    refine ⟨_, rfl, hv, (below_alloc _ _).trans (hG.frm.below (by omega) fun k hk e => ?_)⟩
    cases e
    exact Nat.lt_irrefl _ hk
theorem last_any (own : Own) (w : World) (i b : Nat) (p : Pr) (h : PrAt own w i b p) (hn : p.ends.length ≤ 1000) : Calls Try.prog 27 #[.pointer (some ⟨b, 0, none⟩)] w fun e w' => e = .returned (.int .i64 p.last) ∧ w' = w := by
  obtain ⟨ev, ov, h⟩ := h
  exact last_at own w i b p ev ov h hn
/-- all marks -/
theorem Marks_at (own : Own) (w : World) (cb : Nat) (x : Co) (h : CoAt own w cb x) (hm : x.ms.length ≤ 50000) : Calls Try.prog 12 #[.pointer (some ⟨cb, 0, none⟩)] w fun e w' => ∃ v', e = .returned v' ∧ OwnM w' w.heap.size v' x.ms ∧ Below w.heap.size w w' := by
  obtain ⟨pb, rb, mv, q, h⟩ := h
  have c2 : w.cell? ⟨cb, 2, none⟩ = some mv := cell_blk h.blk 2
  have hO := h.ms
  clear h
  obtain ⟨ao, c, rfl⟩ := hO.form
  go_enter Try.func12, Try.ntmps12
  go_wp2_with (go_at_call 25; refine (CloneM_any _ 0 _ x.ms hO hm).mono ?_; rintro e w2 ⟨v2, rfl, hv, hB⟩)
  go_ret
  exact ⟨_, rfl, hv, hB⟩
theorem run_index_cell (t e : TypeId) (m : Nat) (cs : Array Value) (v : Value) (ki : IntKind) (k : Nat) (hu : Try.prog.underlying t = some (.array m e)) (hk : k < m) (hv : cs[k]? = some v) (hs : (Try.prog.info? e).map (·.size) = some 1)
    (hp : ∀ (cs : Array Value) (off : Nat) (v : Value) (w : World), cs[off]? = some v → (part e cs off).run Try.prog w = .ok v w) (w : World) :
    (Instr.index t (.agg cs) (.int ki (k : Int))).run Try.prog w = .ok v w := by
  have hz : (sizeOf e).run Try.prog w = .ok 1 w := by
    cases hq : Try.prog.info? e with
    | none => simp [hq] at hs
    | some i => simp [hq] at hs; simp [sizeOf, typeInfo, hq, hs]
  have hk' : (0 : Int) ≤ (k : Int) ∧ (k : Int) < (m : Int) := by omega
  simp [Instr.index, run_underlying hu, asIntOf, hk, hz, hp _ _ _ w hv]
/-- the parts of which one has -/
def partsTo (l : List Bool) (k : Nat) : List Int := ((List.range k).filter fun i => l.getD i false).map fun (i : Nat) => (i : Int)
theorem partsTo_succ (l : List Bool) (k : Nat) : partsTo l (k + 1) = partsTo l k ++ if l.getD k false then [(k : Int)] else [] := by
  unfold partsTo
  rw [List.range_succ, List.filter_append, List.map_append]
  cases h : l.getD k false <;> simp [h] <;> simp_all
theorem partsTo_len (l : List Bool) (k : Nat) : (partsTo l k).length ≤ k := by
  unfold partsTo
  rw [List.length_map]
  exact Nat.le_trans (List.length_filter_le _ _) (by simp)
def partS (l : List Bool) : Nat → Bool := fun i => l.getD i false
set_option maxRecDepth 100000 in
set_option maxHeartbeats 4000000 in
theorem list_at (w : World) (ob : Nat) (b : Int) (l : List Bool) (hb : w.heap[ob]? = some (.cells (txnC b l) 93 (0, 0))) : Calls Try.prog 28 #[.pointer (some ⟨ob, 0, none⟩)] w fun e w' => ∃ v, e = .returned v ∧ OwnI w' w.heap.size v (partsTo l 4) ∧ Below w.heap.size w w' := by
  have c1 : w.cell? ⟨ob, 1, none⟩ = some (.bool (partS l 0)) := cell_blk hb 1
  have c2 : w.cell? ⟨ob, 2, none⟩ = some (.bool (partS l 1)) := cell_blk hb 2
  have c3 : w.cell? ⟨ob, 3, none⟩ = some (.bool (partS l 2)) := cell_blk hb 3
  have c4 : w.cell? ⟨ob, 4, none⟩ = some (.bool (partS l 3)) := cell_blk hb 4
  go_enter Try.func28, Try.ntmps28
  go_wp2
  clear c1 c2 c3 c4
  go_loopw [3, 10] (fun pv iv wr => ∃ i : Nat, i ≤ 4 ∧ iv = .int .i64 (i : Int) ∧ OwnI wr w.heap.size pv (partsTo l i) ∧ Below w.heap.size w wr) (fun _ iv _ => 4 - (intOf iv).toNat)
  case atStart => exact ⟨0, Nat.zero_le _, rfl, OwnI.nil _ _, Below.refl _ _⟩
  case round =>
    obtain ⟨i, hi, rfl, hO, hB⟩ := hrel
    obtain ⟨ao, cap, rfl⟩ := hO.form
    have hlen := partsTo_len l i
    have hO1 : OwnI (wr.alloc (.cells #[.int .i64 (i : Int)] 3)) w.heap.size (.slice ao (partsTo l i).length cap) (partsTo l i) := hO.below (below_alloc _ _)
    have hg : (wr.alloc (.cells #[.int .i64 (i : Int)] 3)).heap[wr.heap.size]? = some (.cells #[.int .i64 (i : Int)] 3 (0, 0)) := alloc_blk _ _
    have hsz : w.heap.size ≤ (wr.alloc (.cells #[.int .i64 (i : Int)] 3)).heap.size := by have := hB.size; simp; omega
    have hn : (partsTo l i).length + 1 ≤ 100000 := by omega
    have HLT : Hid (∀ k, (Value.slice ao (partsTo l i).length cap).ownBlock = some k → w.heap.size ≤ k) := fun k hk => (hO.lt k hk).1
    have HSUC : Hid (partsTo l (i + 1) = partsTo l i ++ if partS l i then [(i : Int)] else []) := partsTo_succ l i
    have HI : Hid (i ≤ 4) := hi
    by_cases h4 : i = 4
    · subst h4
      clear hO1 hg hsz hn HLT HSUC
      go_wp2_with fail
      go_ret
      exact ⟨_, rfl, hO, hB⟩
    · have hix : i = 0 ∨ i = 1 ∨ i = 2 ∨ i = 3 := by omega
      have hidx : (Instr.index 91 (.agg #[.bool (partS l 0), .bool (partS l 1), .bool (partS l 2), .bool (partS l 3)]) (.int .i64 (i : Int))).run Try.prog wr = .ok (.bool (partS l i)) wr := by
        refine run_index_cell 91 4 4 _ _ .i64 i (by kernel_rfl) (by omega) ?_ (by kernel_rfl) (fun cs off v w hv => by simp [part, go_sem, hv]) wr
        rcases hix with rfl | rfl | rfl | rfl <;> rfl
      have hlt : decide ((i : Int) < 4) = true := by simp; omega
      generalize hLe : partsTo l i = L at *
      generalize partS l 0 = s0 at *
      generalize partS l 1 = s1 at *
      generalize partS l 2 = s2 at *
      generalize partS l 3 = s3 at *
      cases hp : partS l i
      · rw [hp] at hidx
        clear hO1 hg hsz hn
        go_wp2_with fail
        go_roundw
        case rel => exact ⟨i + 1, by omega, by go_num, by rw [HSUC.out]; simpa [hp] using hO, hB⟩
        case measure => simp [intOf]; omega
      · rw [hp] at hidx
        clear hO
        go_wp2_with (first | (refine wpList_rowI rfl _ rfl (i : Int) ?_ ?_; rfl) | (refine wpList_appI1 rfl _ _ rfl w.heap.size (.slice ao L.length cap) L ?_ wr.heap.size (i : Int) ?_ hO1 3 hg hn hsz ?_; rfl; rfl))
        intro v4 w4 hO4 hG4
        have hB4 : Below w.heap.size w w4 := (hB.trans ((below_alloc _ _).mono hB.size)).trans (hG4.frm.below hsz fun k hk e => Nat.lt_irrefl _ (Nat.lt_of_lt_of_le hk (HLT.out k e)))
        obtain ⟨a4, c4, rfl⟩ := hO4.form
        clear hG4 hO1 hg
        have HS4 : Hid (partsTo l (i + 1) = L ++ [(i : Int)]) := by show partsTo l (i + 1) = _; rw [HSUC.out, hp]; rfl
        go_wp2_with fail
        go_roundw
        case rel => exact ⟨i + 1, by omega, by go_num, by rw [HS4.out]; exact hO4, hB4⟩
        case measure => simp [intOf]; omega
/-- the open transaction that is told -/
def Co.opn (x : Co) (k : Int) : Int × List Int × Bool := match x.at k with
  | some (_, p) => match p.op with
    | some (_, l) => (p.last, partsTo l 4, true)
    | .none => (0, [], false)
  | .none => (0, [], false)
end Go.Proofs.Ytoihfhlelbdboaa
namespace Go.Proofs.Ytoihfhlelbdboaa
open Go.RowKit Go.Dig Go.Inv Go.Oct Go.Hold
set_option linter.unusedVariables false
set_option linter.unusedSimpArgs false

theorem at_some {x : Co} {k : Int} {i : Nat} {p : Pr} (h : x.at k = some (i, p)) : x.ps[i]? = some p ∧ k = (i : Int) := by
  unfold Co.at at h
  split at h
  · cases hp : x.ps[k.toNat]? with
    | none => rw [hp] at h; cases h
    | some q =>
      rw [hp] at h
      simp at h
      obtain ⟨rfl, rfl⟩ := h
      exact ⟨hp, by omega⟩
  · cases h
def OpnQ (w : World) (z : Int × List Int × Bool) (e : Ending) (w' : World) : Prop := ∃ v, e = .returned (.tuple #[.int .i64 z.1, v, .bool z.2.2]) ∧ OwnI w' w.heap.size v z.2.1 ∧ Below w.heap.size w w'
set_option maxRecDepth 100000 in
set_option maxHeartbeats 4000000 in
theorem Open_at (own : Own) (w : World) (cb : Nat) (x : Co) (h : CoAt own w cb x) (hok : ∀ p ∈ x.ps, p.ends.length ≤ 1000) (k : Int) : Calls Try.prog 14 #[.pointer (some ⟨cb, 0, none⟩), .int .i64 k] w (OpnQ w (x.opn k)) := by
  obtain ⟨pb, rb, mv, q, h⟩ := h
  have HS : Hid (CoS own w cb x pb rb mv q) := h
  go_enter Try.func14, Try.ntmps14
  rcases at_ptr h k with ⟨h1, h2⟩ | ⟨i, p, b, h1, h3, h2, h4, hp⟩
  · have e : x.opn k = (0, [], false) := by unfold Co.opn; rw [h1]
    rw [e]
    clear h
    go_wp2_with (first | (go_at_call 26; refine (producer_at own _ cb x pb rb mv q HS.out k).mono ?_; rintro e w2 ⟨rfl, rfl⟩; rw [h2]))
    exact bodyPost_ret (v := .tuple #[.int .i64 0, .slice none 0 0, .bool false]) (by simp [results, Try.results14, go_sem]) rfl ⟨_, rfl, OwnI.nil _ _, Below.refl _ _⟩
  · have hpe := hok p (List.mem_of_getElem? h3)
    have HP : Hid (PrAt own w i b p) := hp
    obtain ⟨ev, ov, hp⟩ := hp
    have c4 : w.cell? ⟨b, 4, none⟩ = some (.pointer ov) := cell_blk hp.blk 4
    have hbl : b < w.heap.size := lt_blk hp.blk
    have hop := hp.op
    clear h hp
    cases ho : p.op with
    | none =>
      rw [ho] at hop
      obtain rfl : ov = none := hop
      have e : x.opn k = (0, [], false) := by unfold Co.opn; rw [h1]; dsimp only; rw [ho]
      rw [e]
      go_wp2_with (first | (go_at_call 26; refine (producer_at own _ cb x pb rb mv q HS.out k).mono ?_; rintro e w2 ⟨rfl, rfl⟩; rw [h2]))
      exact bodyPost_ret (v := .tuple #[.int .i64 0, .slice none 0 0, .bool false]) (by simp [results, Try.results14, go_sem]) rfl ⟨_, rfl, OwnI.nil _ _, Below.refl _ _⟩
    | some z =>
      obtain ⟨bg, l⟩ := z
      rw [ho] at hop
      obtain ⟨ob, rfl, -, -, hob⟩ := hop
      have e : x.opn k = (p.last, partsTo l 4, true) := by unfold Co.opn; rw [h1]; dsimp only; rw [ho]
      rw [e]
      have HOB : Hid (w.heap[ob]? = some (.cells (txnC bg l) 93 (0, 0))) := hob
      clear e hob
      go_upto_region 4 with (first | (go_at_call 26; refine (producer_at own _ cb x pb rb mv q HS.out k).mono ?_; rintro e w2 ⟨rfl, hw2⟩; subst hw2; rw [h2]))
      refine wp_region_growG (by kernel_rfl) (by kernel_rfl) (fun xS => { tmps := (Value.pointer (some (⟨cb, 0, none⟩ : Addr)) :: Value.int IntKind.i64 k :: undef :: undef :: xS 7 :: xS 8 :: xS 9 :: Value.pointer (some (⟨b, 0, none⟩ : Addr)) :: Value.pointer (some (⟨cb, 0, none⟩ : Addr)) :: Value.int IntKind.i64 k :: Value.pointer (some (⟨b, 0, none⟩ : Addr)) :: Value.pointer (some (⟨b, 0, none⟩ : Addr)) :: Value.bool false :: Value.bool false :: Value.pointer (some (⟨b, 0, none⟩ : Addr)) :: Value.pointer (some (⟨b, 0, none⟩ : Addr)) :: Value.pointer (some (⟨b, 4, none⟩ : Addr)) :: Value.pointer (some (⟨ob, 0, none⟩ : Addr)) :: Value.bool false :: Value.bool false :: xS 0 :: xS 1 :: xS 2 :: xS 3 :: xS 4 :: xS 5 :: xS 6 :: []).toArray, defers := [] })
        (fun ii xx WW => match ii with | 0 => xx = Value.pointer (some (⟨b, 0, none⟩ : Addr)) | 1 => xx = .int .i64 p.last | 2 => xx = Value.pointer (some (⟨b, 0, none⟩ : Addr)) | 3 => xx = Value.pointer (some (⟨b, 0, none⟩ : Addr)) | 4 => xx = .pointer (some ⟨b, 4, none⟩) | 5 => xx = .pointer (some ⟨ob, 0, none⟩) | 6 => OwnI WW w2.heap.size xx (partsTo l 4) | 7 => xx = .int .i64 p.last | 8 => OwnI WW w2.heap.size xx (partsTo l 4) | 9 => xx = (Value.bool true) | _ => True) (fun | 0 => undef | 1 => undef | 2 => undef | 3 => undef | 4 => undef | 5 => undef | 6 => undef | 7 => Value.int IntKind.i64 0 | 8 => Value.slice none 0 0 | 9 => Value.bool false | _ => undef) (by repeat (first | exact trivial | refine ⟨fun _ _ => rfl, ?_⟩)) (by intro ii xx A B hB hh; revert hh; split <;> first | exact fun hh => hh | exact fun hh => OwnI.below hh hB) ⟨?_, ?_, ?_, ?_, ?_, ?_, ?_, ?_, ?_, ?_, trivial⟩ ?_
      · intro xS W hB hp K hK
        rw [if_pos (wanted_none rfl _)]
        clear hp
        go_simp
        exact hK _ _ (Below.refl _ _) rfl
      · intro xS W hB hp K hK
        rw [if_pos (wanted_none rfl _)]
        have h0 : xS 0 = Value.pointer (some (⟨b, 0, none⟩ : Addr)) := hp.1 rfl
        clear hp
        simp only [h0] at hK ⊢
        clear h0
        go_simp
        obtain ⟨ev5, ov5, hp5⟩ := HP.out
        refine (last_at own W i b p ev5 ov5 (hp5.below hB HS.out.owned) hpe).mono ?_
        rintro e W5 ⟨rfl, rfl⟩
        exact hK _ _ (Below.refl _ _) rfl
      · intro xS W hB hp K hK
        rw [if_pos (wanted_none rfl _)]
        clear hp
        go_simp
        exact hK _ _ (Below.refl _ _) rfl
      · intro xS W hB hp K hK
        rw [if_pos (wanted_none rfl _)]
        have h2 : xS 2 = Value.pointer (some (⟨b, 0, none⟩ : Addr)) := hp.1 rfl
        clear hp
        simp only [h2] at hK ⊢
        clear h2
        go_simp
        exact hK _ _ (Below.refl _ _) rfl
      · intro xS W hB hp K hK
        rw [if_pos (wanted_none rfl _)]
        have h3 : xS 3 = Value.pointer (some (⟨b, 0, none⟩ : Addr)) := hp.1 rfl
        clear hp
        simp only [h3] at hK ⊢
        clear h3
        go_simp
        exact hK _ _ (Below.refl _ _) rfl
      · intro xS W hB hp K hK
        rw [if_pos (wanted_none rfl _)]
        have h4 : xS 4 = .pointer (some ⟨b, 4, none⟩) := hp.1 rfl
        clear hp
        have hc := (hB.cell (p := ⟨b, 4, none⟩) hbl).trans c4
        simp only [h4] at hK ⊢
        clear h4
        go_simp
        exact hK _ _ (Below.refl _ _) rfl
      · intro xS W hB hp K hK
        rw [if_pos (wanted_none rfl _)]
        have h5 : xS 5 = .pointer (some ⟨ob, 0, none⟩) := hp.1 rfl
        clear hp
        simp only [h5] at hK ⊢
        clear h5
        go_simp
        refine (list_at W ob bg l ((hB.block _ (lt_blk HOB.out)).trans HOB.out)).mono ?_
        rintro e W5 ⟨v5, rfl, hO5, hB5⟩
        exact hK _ _ hB5 (hO5.mono hB.size)
      · intro xS W hB hp K hK
        rw [if_pos (wanted_none rfl _)]
        have h1 : xS 1 = .int .i64 p.last := hp.1 rfl
        clear hp
        simp only [h1] at hK ⊢
        clear h1
        go_simp
        exact hK _ _ (Below.refl _ _) rfl
      · intro xS W hB hp K hK
        rw [if_pos (wanted_none rfl _)]
        have h6 : OwnI W w2.heap.size (xS 6) (partsTo l 4) := hp.1 rfl
        clear hp
        go_simp
        exact hK _ _ (Below.refl _ _) h6
      · intro xS W hB hp K hK
        rw [if_pos (wanted_none rfl _)]
        clear hp
        go_simp
        exact hK _ _ (Below.refl _ _) rfl
      intro xS W3 hB3 hs
      have h7 : xS 7 = .int .i64 p.last := hs 7 (by simp)
      have h8 : OwnI W3 w2.heap.size (xS 8) (partsTo l 4) := hs 8 (by simp)
      have h9 : xS 9 = .bool true := hs 9 (by simp)
      clear hs
      simp only [h7, h9]
      go_wp2_with fail
      exact bodyPost_ret (v := .tuple #[.int .i64 p.last, xS 8, .bool true]) (by simp [results, Try.results14, go_sem]) rfl ⟨_, rfl, h8, hB3⟩
end Go.Proofs.Ytoihfhlelbdboaa
namespace Go.Proofs.Ytoihfhlelbdboaa
open Go.RowKit Go.Dig Go.Inv Go.Oct Go.Hold
set_option linter.unusedVariables false
set_option linter.unusedSimpArgs false

def opG : OpF := ⟨2, 0, 1, ⟨#[]⟩, 0, 0, 1, 2, false⟩
def tickG (i : Nat) : OpF := ⟨4, 1, i, ⟨#[]⟩, 0, 0, 0, 0, false⟩
def endG (c : Bool) : OpF := ⟨3, 0, 2, ⟨#[]⟩, 0, 0, 1, 0, c⟩
def ageSt : Nat → Co
  | 0 => ⟨[⟨⟨#[97]⟩, 0, [], some (0, [false, false, true, false])⟩], [(0, ⟨0, 0, 0⟩), (1, ⟨0, 0, 0⟩)], [⟨1, 0, 0, 0⟩], 0⟩
  | i + 1 => ((ageSt i).apply true (tickG i)).2.2
theorem ageSt_eq : co1.apply true opG = (⟨0, 0, 0⟩, [], ageSt 0) := by kernel_rfl
theorem opG_in : opG.In := by constructor <;> simp [opG, inI] <;> decide
theorem opG_ok : opG.ok = true := by kernel_rfl
theorem tickG_in {i : Nat} (h : i < 13) : (tickG i).In := by constructor <;> simp [tickG, inI] <;> first | omega | decide
theorem tickG_ok : ∀ i, i < 13 → (tickG i).ok = true := by decide +kernel
theorem endG_in (c : Bool) : (endG c).In := by constructor <;> simp [endG, inI] <;> decide
theorem endG_ok : ∀ c, (endG c).ok = true := by decide +kernel
theorem tick_err : ∀ i, i < 12 → ((ageSt i).apply true (tickG i)).1.err = 0 ∧ ((ageSt i).apply true (tickG i)).2.1.length = if i = 4 then 1 else 0 := by decide +kernel
theorem age_now : ∀ i, i < 13 → (ageSt i).now = i := by decide +kernel
theorem end_err : ∀ c i, i < 13 → ((ageSt i).apply true (endG c)).1.err = (if 5 ≤ i ∧ c = true then 6 else 0) ∧ ((ageSt i).apply true (endG c)).2.1.length = (if 5 ≤ i then 0 else 1) ∧ (((ageSt i).apply true (endG c)).2.2.opn 0).2.2 = false ∧ ((ageSt i).apply true (endG c)).2.2.now = i := by decide +kernel
theorem end_ends : ∀ c i, i < 13 → ∀ p ∈ ((ageSt i).apply true (endG c)).2.2.ps, p.ends.length ≤ 1000 := by decide +kernel
theorem ageSt_inv : ∀ i, (ageSt i).Inv (i + 2)
  | 0 => by
    have h := (Co.inv_none.apply true op1).apply true opG
    rw [co1_eq] at h
    dsimp only at h
    rw [ageSt_eq] at h
    exact h
  | i + 1 => (ageSt_inv i).apply true (tickG i)
theorem coAt_none {own : Own} {w : World} {cb : Nat} {x : Co} (h : CoAt own w cb x) : own w.heap.size = none := h.owned.fresh (Nat.le_refl _)
set_option maxRecDepth 100000 in
set_option maxHeartbeats 4000000 in
theorem Ages_law (w : World) (n : Int) (c : Bool) : Calls Try.prog 6 #[.int .i64 n, .bool c] w fun e w' => e = .returned (.bool true) ∧ Below w.heap.size w w' := by
  by_cases hr : n < 0 ∨ 12 < n
  · go_enter Try.func6, Try.ntmps6
    rcases hr with hr | hr
    · go_wp2_with (go_at_call 15; refine (known_at _).mono ?_; rintro e w2 ⟨rfl, hB2⟩)
      go_ret
      exact ⟨rfl, hB2⟩
    · have h0 : ¬ n < 0 := by omega
      go_wp2_with (go_at_call 15; refine (known_at _).mono ?_; rintro e w2 ⟨rfl, hB2⟩)
      go_ret
      exact ⟨rfl, hB2⟩
  · obtain ⟨m, rfl⟩ : ∃ m : Nat, n = (m : Int) := ⟨n.toNat, by omega⟩
    have hm : m ≤ 12 := by omega
    have h0 : ¬ ((m : Int) < 0) := by omega
    have h12 : ¬ (12 < (m : Int)) := by omega
    clear hr
    go_enter Try.func6, Try.ntmps6
    go_wp2_with (first | (go_at_call 10; refine (New_at _).mono ?_; rintro e w1 ⟨own1, rfl, h1, ho1, hB1⟩) | (refine wpList_build_to rfl 33 #[(0, .const (.int .i64 1)), (3, .const (.string ⟨#[97]⟩))] rfl op1.cells (by kernel_rfl) ?_) | (refine wpList_build_to rfl 33 #[(0, .const (.int .i64 2)), (2, .const (.int .i64 1)), (6, .const (.int .i64 1)), (7, .const (.int .i64 2))] rfl opG.cells (by kernel_rfl) ?_) | (go_at_call 11; refine (apply_lit own1 _ _ Co.none 0 h1 op1 op1_in Co.inv_none (by omega) op1_ok _ _ _ co1_eq).mono ?_; rintro e w2 ⟨⟨v2, own2, rfl, hO2, hl2, hC2, hS2⟩, hI2⟩; have ho2 := ho1.step hS2 hB1.size; have hB2 := hB1.trans (ho1.below hS2 hB1.size); clear hS2 h1 hO2 hl2) | (go_at_call 11; refine (apply_lit own2 _ _ co1 1 hC2 opG opG_in hI2 (by omega) opG_ok _ _ _ ageSt_eq).mono ?_; rintro e w3 ⟨⟨v3, own3, rfl, hO3, hl3, hC3, hS3⟩, hI3⟩; have ho3 := ho2.step hS3 hB2.size; have hB3 := hB2.trans (ho2.below hS3 hB2.size); clear hS3 hC2 hO3 hl3 hI3))
    go_loopw [6] (fun iv wr => ∃ (i : Nat) (own : Own), i ≤ m ∧ iv = .int .i64 (i : Int) ∧ CoAt own wr w.heap.size (ageSt i) ∧ Over w.heap.size own ∧ Below w.heap.size w wr) (fun iv _ => m - (intOf iv).toNat)
    case atStart => exact ⟨0, own3, Nat.zero_le _, rfl, hC3, ho3, hB3⟩
    case round =>
      obtain ⟨i, own, hi, rfl, hC, ho, hB⟩ := hrel
      by_cases hlt : i < m
      · have hd : ((i : Int) < (m : Int)) = True := by simp; omega
        obtain ⟨he, hl⟩ := tick_err i (by omega)
        obtain ⟨r, ms, x', hx⟩ : ∃ r ms x', (ageSt i).apply true (tickG i) = (r, ms, x') := ⟨_, _, _, rfl⟩
        have hx2 : x' = ageSt (i + 1) := by show x' = ((ageSt i).apply true (tickG i)).2.2; rw [hx]
        rw [hx] at he hl
        dsimp only at he hl
        by_cases h4 : i = 4
        · subst h4
          rw [if_pos rfl] at hl
          have hBs := hB.size
          go_wp2_with (first | (refine wpList_build_to rfl 33 #[(0, .const (.int .i64 4)), (1, .const (.int .i64 1)), (2, .tmp 38)] rfl (tickG 4).cells (by kernel_rfl) ?_) | (go_at_call 11; refine (apply_lit own _ _ (ageSt 4) (4 + 2) hC (tickG 4) (tickG_in (by omega)) (ageSt_inv 4) (by omega) (tickG_ok 4 (by omega)) r ms x' hx).mono ?_; rintro e w4 ⟨⟨v4, own4, rfl, hO4, hl4, hC4, hS4⟩, hI4⟩; obtain ⟨ao, cap, rfl⟩ := hO4.form; have ho4 := ho.step hS4 hBs; have hB4 := hB.trans (ho.below hS4 hBs); clear hS4 hC hO4 hl4 hI4) | (refine wpList_alloc_row rfl 28 rfl (rpC rp0) (by kernel_rfl) ?_) | (refine wpList_store_whole rfl 28 _ _ rfl w4.heap.size (rpC r) (rpC rp0) ?_ ?_ 28 (alloc_blk _ _) (by kernel_rfl) (rpC_all _) rfl ?_; rfl; rfl))
          intro w5 h5 hK5
          have hB5 : Below w4.heap.size w4 w5 := (below_alloc _ _).trans (hK5.below (Nat.le_refl _) (by simp))
          have hC5 := hC4.below hB5
          have hB6 := hB4.trans (hB5.mono hB4.size)
          subst hx2
          clear hK5 hB5 hC4 hB4 hx h5
          go_wp2_with fail
          go_roundw
          case rel => exact ⟨5, own4, by omega, rfl, hC5, ho4, hB6⟩
          case measure => simp [intOf]; omega
        · rw [if_neg h4] at hl
          have h4' : ¬ ((i : Int) = 4) := by omega
          have hBs := hB.size
          go_wp2_with (first | (refine wpList_build_to rfl 33 #[(0, .const (.int .i64 4)), (1, .const (.int .i64 1)), (2, .tmp 38)] rfl (tickG i).cells (by kernel_rfl) ?_) | (go_at_call 11; refine (apply_lit own _ _ (ageSt i) (i + 2) hC (tickG i) (tickG_in (by omega)) (ageSt_inv i) (by omega) (tickG_ok i (by omega)) r ms x' hx).mono ?_; rintro e w4 ⟨⟨v4, own4, rfl, hO4, hl4, hC4, hS4⟩, hI4⟩; obtain ⟨ao, cap, rfl⟩ := hO4.form; have ho4 := ho.step hS4 hBs; have hB4 := hB.trans (ho.below hS4 hBs); clear hS4 hC hO4 hl4 hI4) | (refine wpList_alloc_row rfl 28 rfl (rpC rp0) (by kernel_rfl) ?_) | (refine wpList_store_whole rfl 28 _ _ rfl w4.heap.size (rpC r) (rpC rp0) ?_ ?_ 28 (alloc_blk _ _) (by kernel_rfl) (rpC_all _) rfl ?_; rfl; rfl))
          intro w5 h5 hK5
          have hB5 : Below w4.heap.size w4 w5 := (below_alloc _ _).trans (hK5.below (Nat.le_refl _) (by simp))
          have hC5 := hC4.below hB5
          have hB6 := hB4.trans (hB5.mono hB4.size)
          subst hx2
          clear hK5 hB5 hC4 hB4 hx h5
          go_wp2_with fail
          go_roundw
          case rel => exact ⟨i + 1, own4, by omega, by go_num, hC5, ho4, hB6⟩
          case measure => simp [intOf]; omega
      · obtain rfl : i = m := by omega
        obtain ⟨he, hl, ho0, hn⟩ := end_err c i (by omega)
        have hen := end_ends c i (by omega)
        obtain ⟨r, ms, x', hx⟩ : ∃ r ms x', (ageSt i).apply true (endG c) = (r, ms, x') := ⟨_, _, _, rfl⟩
        rw [hx] at he hl ho0 hn hen
        dsimp only at he hl ho0 hn hen
        obtain ⟨rE, rP, rN⟩ := r
        dsimp only at he
        have hcs : (rE = 0 ∧ ms.length = 1 ∧ ¬ 5 ≤ i) ∨ (rE = 6 ∧ ms.length = 0 ∧ 5 ≤ i ∧ c = true) ∨ (rE = 0 ∧ ms.length = 0 ∧ 5 ≤ i ∧ c = false) := by
          by_cases h5 : 5 ≤ i
          · rw [if_pos h5] at hl
            cases c
            · exact .inr (.inr ⟨by simpa using he, hl, h5, rfl⟩)
            · exact .inr (.inl ⟨by simpa [h5] using he, hl, h5, rfl⟩)
          · rw [if_neg h5] at hl
            exact .inl ⟨by simpa [h5] using he, hl, h5⟩
        clear he hl
        have HO0 : Hid ((x'.opn 0).2.2 = false) := ho0
        have HN : Hid (x'.now = (i : Int)) := hn
        have HEN : Hid (∀ p ∈ x'.ps, p.ends.length ≤ 1000) := hen
        clear ho0 hn hen
        rcases hcs with ⟨hE, hl, h5⟩ | ⟨hE, hl, h5, hc⟩ | ⟨hE, hl, h5, hc⟩
        · subst hE
          have HDEC : Hid (decide ((5 : Int) ≤ (i : Int)) = false) := by show decide ((5 : Int) ≤ (i : Int)) = false; simp; omega
          have hBs := hB.size
          go_wp2_with (first | (refine wpList_build_to rfl 33 #[(0, .const (.int .i64 3)), (2, .const (.int .i64 2)), (6, .const (.int .i64 1)), (8, .tmp 51)] rfl (endG c).cells (by kernel_rfl) ?_) | (go_at_call 11; refine (apply_lit own _ _ (ageSt i) (i + 2) hC (endG c) (endG_in c) (ageSt_inv i) (by omega) (endG_ok c) ⟨0, rP, rN⟩ ms x' hx).mono ?_; rintro e w4 ⟨⟨v4, own4, rfl, hO4, hl4, hC4, hS4⟩, hI4⟩; obtain ⟨ao, cap, rfl⟩ := hO4.form; have ho4 := ho.step hS4 hBs; have hB4 := hB.trans (ho.below hS4 hBs); clear hS4 hC hO4 hl4 hI4) | (refine wpList_alloc_row rfl 28 rfl (rpC rp0) (by kernel_rfl) ?_) | (refine wpList_store_whole rfl 28 _ _ rfl w4.heap.size (rpC ⟨0, rP, rN⟩) (rpC rp0) ?_ ?_ 28 (alloc_blk _ _) (by kernel_rfl) (rpC_all _) rfl ?_; rfl; rfl))
          intro w5 h5 hK5
          have hB5 : Below w4.heap.size w4 w5 := (below_alloc _ _).trans (hK5.below (Nat.le_refl _) (by simp))
          have hC5 := hC4.below hB5
          have hB6 := hB4.trans (hB5.mono hB4.size)
          have hc0 := cell_blk h5 0
          have hgl : w4.heap.size < w5.heap.size := lt_blk h5
          clear hK5 hC4 hB4 hx h5 hl hB5
          go_wp2_with (first | (go_at_call 14; refine (Open_at own4 _ _ x' hC5 HEN.out 0).mono ?_; rintro e w6 ⟨v6, rfl, -, hB7⟩; rw [HO0.out, HDEC.out]; have hd0 : w6.cell? ⟨w4.heap.size, 0, none⟩ = some (.int .i64 0) := (hB7.cell (p := ⟨w4.heap.size, 0, none⟩) hgl).trans hc0; have hC6 := hC5.below hB7; have hB8 := hB6.trans (hB7.mono hB6.size); clear hc0 hC5 hB7) | (go_at_call 17; refine (Now_at own4 _ _ x' hC6).mono ?_; rintro e w7 ⟨rfl, rfl⟩; rw [HN.out]) | (go_at_call 15; refine (known_at _).mono ?_; rintro e w8 ⟨rfl, hB9⟩))
          go_ret
          exact ⟨rfl, hB8.trans (hB9.mono hB8.size)⟩
        · subst hE
          subst hc
          have h5' : (5 : Int) ≤ (i : Int) := by omega
          have hBs := hB.size
          go_wp2_with (first | (refine wpList_build_to rfl 33 #[(0, .const (.int .i64 3)), (2, .const (.int .i64 2)), (6, .const (.int .i64 1)), (8, .tmp 51)] rfl (endG true).cells (by kernel_rfl) ?_) | (go_at_call 11; refine (apply_lit own _ _ (ageSt i) (i + 2) hC (endG true) (endG_in true) (ageSt_inv i) (by omega) (endG_ok true) ⟨6, rP, rN⟩ ms x' hx).mono ?_; rintro e w4 ⟨⟨v4, own4, rfl, hO4, hl4, hC4, hS4⟩, hI4⟩; obtain ⟨ao, cap, rfl⟩ := hO4.form; have ho4 := ho.step hS4 hBs; have hB4 := hB.trans (ho.below hS4 hBs); clear hS4 hC hO4 hl4 hI4) | (refine wpList_alloc_row rfl 28 rfl (rpC rp0) (by kernel_rfl) ?_) | (refine wpList_store_whole rfl 28 _ _ rfl w4.heap.size (rpC ⟨6, rP, rN⟩) (rpC rp0) ?_ ?_ 28 (alloc_blk _ _) (by kernel_rfl) (rpC_all _) rfl ?_; rfl; rfl))
          intro w5 h5 hK5
          have hB5 : Below w4.heap.size w4 w5 := (below_alloc _ _).trans (hK5.below (Nat.le_refl _) (by simp))
          have hC5 := hC4.below hB5
          have hB6 := hB4.trans (hB5.mono hB4.size)
          have hc0 := cell_blk h5 0
          have hgl : w4.heap.size < w5.heap.size := lt_blk h5
          clear hK5 hC4 hB4 hx h5 hl hB5
          go_wp2_with (first | (go_at_call 14; refine (Open_at own4 _ _ x' hC5 HEN.out 0).mono ?_; rintro e w6 ⟨v6, rfl, -, hB7⟩; rw [HO0.out]; have hd0 : w6.cell? ⟨w4.heap.size, 0, none⟩ = some (.int .i64 6) := (hB7.cell (p := ⟨w4.heap.size, 0, none⟩) hgl).trans hc0; have hC6 := hC5.below hB7; have hB8 := hB6.trans (hB7.mono hB6.size); clear hc0 hC5 hB7) | (go_at_call 17; refine (Now_at own4 _ _ x' hC6).mono ?_; rintro e w7 ⟨rfl, rfl⟩; rw [HN.out]) | (go_at_call 15; refine (known_at _).mono ?_; rintro e w8 ⟨rfl, hB9⟩))
          go_ret
          exact ⟨rfl, hB8.trans (hB9.mono hB8.size)⟩
        · subst hE
          subst hc
          have h5' : (5 : Int) ≤ (i : Int) := by omega
          have hBs := hB.size
          go_wp2_with (first | (refine wpList_build_to rfl 33 #[(0, .const (.int .i64 3)), (2, .const (.int .i64 2)), (6, .const (.int .i64 1)), (8, .tmp 51)] rfl (endG false).cells (by kernel_rfl) ?_) | (go_at_call 11; refine (apply_lit own _ _ (ageSt i) (i + 2) hC (endG false) (endG_in false) (ageSt_inv i) (by omega) (endG_ok false) ⟨0, rP, rN⟩ ms x' hx).mono ?_; rintro e w4 ⟨⟨v4, own4, rfl, hO4, hl4, hC4, hS4⟩, hI4⟩; obtain ⟨ao, cap, rfl⟩ := hO4.form; have ho4 := ho.step hS4 hBs; have hB4 := hB.trans (ho.below hS4 hBs); clear hS4 hC hO4 hl4 hI4) | (refine wpList_alloc_row rfl 28 rfl (rpC rp0) (by kernel_rfl) ?_) | (refine wpList_store_whole rfl 28 _ _ rfl w4.heap.size (rpC ⟨0, rP, rN⟩) (rpC rp0) ?_ ?_ 28 (alloc_blk _ _) (by kernel_rfl) (rpC_all _) rfl ?_; rfl; rfl))
          intro w5 h5 hK5
          have hB5 : Below w4.heap.size w4 w5 := (below_alloc _ _).trans (hK5.below (Nat.le_refl _) (by simp))
          have hC5 := hC4.below hB5
          have hB6 := hB4.trans (hB5.mono hB4.size)
          have hc0 := cell_blk h5 0
          have hgl : w4.heap.size < w5.heap.size := lt_blk h5
          clear hK5 hC4 hB4 hx h5 hl hB5
          go_wp2_with (first | (go_at_call 14; refine (Open_at own4 _ _ x' hC5 HEN.out 0).mono ?_; rintro e w6 ⟨v6, rfl, -, hB7⟩; rw [HO0.out]; have hd0 : w6.cell? ⟨w4.heap.size, 0, none⟩ = some (.int .i64 0) := (hB7.cell (p := ⟨w4.heap.size, 0, none⟩) hgl).trans hc0; have hC6 := hC5.below hB7; have hB8 := hB6.trans (hB7.mono hB6.size); clear hc0 hC5 hB7) | (go_at_call 17; refine (Now_at own4 _ _ x' hC6).mono ?_; rintro e w7 ⟨rfl, rfl⟩; rw [HN.out]) | (go_at_call 15; refine (known_at _).mono ?_; rintro e w8 ⟨rfl, hB9⟩))
          go_ret
          exact ⟨rfl, hB8.trans (hB9.mono hB8.size)⟩
end Go.Proofs.Ytoihfhlelbdboaa
namespace Go.Proofs.Ytoihfhlelbdboaa
open Go.ChangeShapes Go.WideShapes Go.ChangeAt Go.RowKit Go.Dig Go.Deep

theorem wf_i64 {n : Int} (h : (Lit.int .i64 n).wf = true) : -9223372036854775808 ≤ n ∧ n ≤ 9223372036854775807 := by
  simp [Lit.wf, IntKind.min, IntKind.max, IntKind.signed, IntKind.bits] at h; omega
theorem inI_of {n : Int} (h : (Lit.int .i64 n).wf = true) : inI n := wf_i64 h
set_option maxRecDepth 100000 in
theorem okWide_struct {w : World} {r : Reach} {base : Nat} {t : TypeId} {v : Value} {fs : Array Field} (ht : Try.prog.underlying t = some (.struct fs)) (h : Value.okWide Try.prog w r base t v) : ∃ cs, v = .agg cs := by
  simp only [Value.okWide, ht] at h
  obtain ⟨cs, h1, _⟩ := h
  exact ⟨cs, h1⟩
section
variable {H : Type} {enc : TypeId × Value → H} {W : World} {base : Nat} {spare : Nat → Bool} {held : Bool} {fuel : Nat} {cs : List Value} {x : DataW H × List MemPlace}
theorem int_cell (o : Nat) (h : DataW.trod enc Try.prog W base spare held fuel 3 ((cs.drop o).take (Try.prog.cellsOf 3)) = some x) : ∃ z : Int, cs[o]? = some (.int .i64 z) ∧ inI z := by
  have hc : Try.prog.cellsOf 3 = 1 := by kernel_rfl
  obtain ⟨z, e, _, hw⟩ := DataW.trod_int Try.underlying3 h
  rw [hc] at e
  refine ⟨z, ?_, inI_of hw⟩
  have := congrArg (fun l => l[0]?) e
  simpa [List.getElem?_take, List.getElem?_drop] using this
end
section
variable {H : Type} {enc : TypeId × Value → H} {W : World} {base : Nat} {spare : Nat → Bool} {held : Bool} {fuel : Nat} {cs : List Value} {x : DataW H × List MemPlace}
set_option maxRecDepth 100000 in
/-- an operation's cells -/
theorem op_cells (h : DataW.trod enc Try.prog W base spare held fuel 33 cs = some x) : ∃ (k c s : Int) (n : ByteArray) (p e t r : Int) (b : Bool), cs = (opC k c s n p e t r b).toList ∧ inI k ∧ inI c ∧ inI s ∧ n.size ≤ maxLen ∧ inI p ∧ inI e ∧ inI t ∧ inI r := by
  obtain ⟨xs, m, _, rfl, hl, hlen, hf⟩ := DataW.trod_struct Try.underlying33 h
  have hc : Try.prog.cellsOf 33 = 9 := by kernel_rfl
  have hcs : Try.prog.cellsOf 9 = 1 := by kernel_rfl
  have hcb : Try.prog.cellsOf 4 = 1 := by kernel_rfl
  rw [hc] at hl
  match xs, hlen with
  | [y0, y1, y2, y3, y4, y5, y6, y7, y8], _ =>
    obtain ⟨k, e0, i0⟩ := int_cell 0 (hf 0 _ rfl)
    obtain ⟨c, e1, i1⟩ := int_cell 1 (hf 1 _ rfl)
    obtain ⟨s, e2, i2⟩ := int_cell 2 (hf 2 _ rfl)
    have g3 : DataW.trod enc Try.prog W base spare held m 9 ((cs.drop 3).take (Try.prog.cellsOf 9)) = some y3 := hf 3 _ rfl
    obtain ⟨p, e4, i4⟩ := int_cell 4 (hf 4 _ rfl)
    obtain ⟨e, e5, i5⟩ := int_cell 5 (hf 5 _ rfl)
    obtain ⟨t, e6, i6⟩ := int_cell 6 (hf 6 _ rfl)
    obtain ⟨r, e7, i7⟩ := int_cell 7 (hf 7 _ rfl)
    have g8 : DataW.trod enc Try.prog W base spare held m 4 ((cs.drop 8).take (Try.prog.cellsOf 4)) = some y8 := hf 8 _ rfl
    obtain ⟨n, hn, _, hnl⟩ := DataW.trod_string Try.underlying9 g3
    obtain ⟨b, hb, _⟩ := DataW.trod_bool Try.underlying4 g8
    rw [hcs] at hn
    rw [hcb] at hb
    match cs, hl with
    | [c0, c1, c2, c3, c4, c5, c6, c7, c8], _ =>
      simp at e0 e1 e2 hn e4 e5 e6 e7 hb
      subst e0 e1 e2 hn e4 e5 e6 e7 hb
      exact ⟨k, c, s, n, p, e, t, r, b, rfl, i0, i1, i2, hnl, i4, i5, i6, i7⟩
end
section
variable {H : Type} {enc : TypeId × Value → H} {W : World} {r : Reach} {b0 base : Nat} {spare : Nat → Bool} {held : Bool} {v : Value} {d : DataW H} {ps : List MemPlace}
set_option maxRecDepth 100000 in
theorem open_op (hval : Value.okWide Try.prog W r b0 33 v) (h : DataW.Trod enc Try.prog W base spare held 33 v d ps) : ∃ (k c s : Int) (n : ByteArray) (p e t r : Int) (b : Bool), v = .agg (opC k c s n p e t r b) ∧ inI k ∧ inI c ∧ inI s ∧ n.size ≤ maxLen ∧ inI p ∧ inI e ∧ inI t ∧ inI r := by
  obtain ⟨cs, rfl⟩ := okWide_struct Try.underlying33 hval
  obtain ⟨fuel, hf⟩ := h
  obtain ⟨k, c, s, n, p, e, t, r, b, hc, hi⟩ := op_cells hf
  exact ⟨k, c, s, n, p, e, t, r, b, congrArg Value.agg (Array.toList_inj.1 hc), hi⟩
end
end Go.Proofs.Ytoihfhlelbdboaa
namespace Go.Proofs.Ytoihfhlelbdboaa.coordAges
open Go.ChangeShapes Go.WideShapes Go.ChangeAt Go.RowKit Go.Dig
open Go.ChangeMaps (open_string shut_string)
set_option linter.unusedVariables false

theorem laidOut : laidOutB Try.prog = true := by kernel_rfl
theorem own : ownKnob Try.prog.godebug = none := by kernel_rfl

set_option maxRecDepth 100000 in
theorem lifted (os : Os) (started : os.Started) (H : Type) (enc : TypeId × Value → H) :
    ReturnsInHanded {} Try.checked os 6 .any (Rows.coordAgesSpec.pre6 enc Try.prog Try.f6 Rows.coordAgesRow.domain false) (Rows.coordAgesSpec.post enc Try.prog Try.f6 false true false false) := by
  refine returnsInHanded_of_change (C := Try.checked) own started (by kernel_rfl) Try.func6
    (ChangeSpec.witness6 (enc := enc) (C := Try.checked) false ⟨#[], #[.int .i64 0, .bool false], []⟩ 8 (by kernel_rfl) (by kernel_rfl) (by kernel_rfl) (by kernel_rfl)) ?_
  intro W base args ds gs before hval0 hW hcnd _
  have hval : ∀ (j : Nat) t v, Try.f6.params[j]? = some t → args[j]? = some v → Value.okWide Try.prog W .any base t v := hval0
  have hW' := hW
  obtain ⟨p, q, hA0, hV, rfl, hfz, hnd⟩ := hW
  have hA : DataW.TrodAll enc Try.prog W 0 (fun _ => true) true Try.f6.params.toList args.toList ds p := hA0
  rw [Try.params6] at hA hval
  obtain ⟨v0, vs0, d0, ds0, p0, q0, hargs, rfl, rfl, h0, r0⟩ := trodAll_cons hA
  obtain ⟨v1, vs1, d1, ds1, p1, q1, rfl, rfl, rfl, h1, r1⟩ := trodAll_cons r0
  obtain ⟨rfl, rfl, rfl⟩ := trodAll_nil r1
  obtain rfl : args = #[v0, v1] := by cases args; simp_all
  obtain ⟨rfl, rfl⟩ := trodVars_none hV
  obtain ⟨a0, rfl, rfl, rfl, w0⟩ := open_int Try.underlying3 (hval 0 3 v0 rfl rfl) h0
  have b0 := wf_i64 w0
  obtain ⟨a1, rfl, rfl, rfl⟩ := open_bool Try.underlying4 (hval 1 4 v1 rfl rfl) h1
  clear hA0 hval0
  refine (Ages_law W a0 a1).mono fun e W' ⟨he, bel⟩ => ?_
  subst he
  exact ⟨_, rfl, _, _, _, [], _, [], hW', trodAll_mk1 (shut_bool Try.underlying4 _), (trodAll_cons_mk (shut_int Try.underlying3 w0) (trodAll_cons_mk (shut_bool Try.underlying4 _) trodAll_mk0)), rfl, bel.frame _, fun h => by cases h⟩

theorem over : Rows.coordAgesRow.holds Try.pinned (OpenSpec.ofChange Rows.coordAgesSpec) :=
  OpenClaim.holds_of_wide 6 Try.f6 rfl rfl rfl rfl rfl rfl rfl ⟨rfl, rfl, rfl, rfl, rfl⟩ rfl rfl rfl rfl rfl (by kernel_rfl) Try.func6 (by kernel_rfl)
    (of_decide_eq_true (by kernel_rfl)) (by unfold Func.isWrapper; first | (rw [if_pos (by decide +kernel)]; kernel_rfl) | (rw [if_neg (by decide +kernel)]; exact ⟨rfl, rfl⟩))
    (fun os started H enc _ => lifted os started H enc)

theorem proved : Rows.CoordAgesSaid := over
#print axioms proved
end Go.Proofs.Ytoihfhlelbdboaa.coordAges
