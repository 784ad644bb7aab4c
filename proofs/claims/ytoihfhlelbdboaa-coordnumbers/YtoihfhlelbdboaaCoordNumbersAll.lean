/- coord: producers are numbered as they come. -/
import Derived.Test.YtoihfhlelbdboaaCoX
import Derived.Laws.StructEq
import Derived.Test.YtoihfhlelbdboaaRows
import Derived.Test.YtoihfhlelbdboaaCoF
import Derived.ProofKit
import Derived.OpenShut
import Derived.ShutString
import Derived.ChangeOld
import Derived.Deep.Slices
namespace Go.Proofs.Ytoihfhlelbdboaa
open Go.RowKit Go.Dig Go.Inv Go.Oct Go.Hold
set_option linter.unusedVariables false
set_option linter.unusedSimpArgs false

def coC (a b : Option Addr) : Array Value := #[.pointer a, .pointer b, .slice none 0 0, .int .i64 0]
theorem coS_none (w : World) (cb pb rb : Nat) (hc : w.heap[cb]? = some (.cells (coC (some ⟨pb, 0, none⟩) (some ⟨rb, 0, none⟩)) 56 (0, 0))) (hp : Pp.Tab w pb []) (hr : Rp.Tab w rb []) (h1 : cb ≠ pb) (h2 : cb ≠ rb) (h3 : pb ≠ rb) :
    CoS (fun k => if k = cb then some .co else if k = pb then some .tp else if k = rb then some .tr else none) w cb Co.none pb rb (.slice none 0 0) [] := by
  refine ⟨fun k l hk => ?_, hc, by simp, by simp [h1.symm], by simp [h2.symm, h3.symm], hp, hr, OwnM.nil _ _, fun k hk => (by cases hk), rfl, fun i p hi => by simp [Co.none] at hi⟩
  try dsimp only at hk
  split at hk
  · rename_i e; subst e; exact lt_blk hc
  · split at hk
    · rename_i e; subst e; exact hp.lt
    · split at hk
      · rename_i e; subst e; exact hr.lt
      · cases hk
set_option maxRecDepth 100000 in
set_option maxHeartbeats 1000000 in
theorem prepare_new (w : World) (cb : Nat) (hc : w.heap[cb]? = some (.cells (coC none none) 56 (0, 0))) :
    Calls Try.prog 18 #[.pointer (some ⟨cb, 0, none⟩)] w fun e w' => (∃ v, e = .returned v) ∧ ∃ pb rb, w'.heap[cb]? = some (.cells (coC (some ⟨pb, 0, none⟩) (some ⟨rb, 0, none⟩)) 56 (0, 0)) ∧ Pp.Tab w' pb [] ∧ Rp.Tab w' rb [] ∧ w.heap.size ≤ pb ∧ pb < rb ∧ Frm (· = cb) w w' := by
  have c0 : w.cell? ⟨cb, 0, none⟩ = some (.pointer none) := cell_blk hc 0
  have hcl := lt_blk hc
  go_enter Try.func18, Try.ntmps18
  go_wp2_with fail
  refine (Pp.New_any _).mono ?_
  rintro e w1 ⟨rfl, hT1, hB1⟩
  have hb1 := (hB1.block _ hcl).trans hc
  have d0 : w1.cell? ⟨cb, 0, none⟩ = some (.pointer none) := cell_blk hb1 0
  have f0 := frozen_blk hb1 0
  have hb2 := set_blk hb1 0 (.pointer (some ⟨w.heap.size, 0, none⟩))
  have hT2 : Pp.Tab (w1.setCell ⟨cb, 0, none⟩ (.pointer (some ⟨w.heap.size, 0, none⟩))) w.heap.size [] := hT1.frmL (Frm.setCell _ _ _ _) (by omega) (fun k e z => by subst e; rw [cell_blk hb1]; simp [coC])
  have hF2 : Frm (· = cb) w (w1.setCell ⟨cb, 0, none⟩ (.pointer (some ⟨w.heap.size, 0, none⟩))) := (Frm.of_below hB1).trans (Frm.setCell _ _ _ _)
  obtain ⟨w2, HW2⟩ : ∃ w2, Hid (w1.setCell ⟨cb, 0, none⟩ (.pointer (some ⟨w.heap.size, 0, none⟩)) = w2) := ⟨_, rfl⟩
  rw [HW2.out] at hb2 hT2 hF2
  have HT2 : Hid (Pp.Tab w2 w.heap.size []) := hT2
  have HF2 : Hid (Frm (· = cb) w w2) := hF2
  have HB2 : Hid (w2.heap[cb]? = some (.cells (coC (some ⟨w.heap.size, 0, none⟩) none) 56 (0, 0))) := hb2
  clear hT2 hF2 hb2 hT1 hB1 hb1 c0 hc
  go_wp2_with (rw [HW2.out])
  refine (Rp.New_any _).mono ?_
  rintro e w3 ⟨rfl, hT3, hB3⟩
  have hb3 := (hB3.block _ (lt_blk HB2.out)).trans HB2.out
  have d1 : w3.cell? ⟨cb, 1, none⟩ = some (.pointer none) := cell_blk hb3 1
  have f1 := frozen_blk hb3 1
  have hne : w2.heap.size ≠ cb := by have := lt_blk HB2.out; omega
  have hsz : w.heap.size < w2.heap.size := HT2.out.lt
  have hpc : w.heap.size ≠ cb := by omega
  clear d0 f0
  go_wp2_with fail
  have hlo : ∀ k, k = cb → (∀ z, w3.cell? ⟨k, 3, none⟩ ≠ some (.pointer z)) ∧ ∀ z, w3.cell? ⟨k, 5, none⟩ ≠ some (.pointer z) := fun k e => by
    subst e
    exact ⟨fun z => by rw [cell_blk hb3]; simp [coC], fun z => by rw [cell_blk hb3]; simp [coC]⟩
  exact bodyPost_end (v := .tuple #[]) (by simp [results, Try.results18, go_sem]) rfl ⟨⟨_, rfl⟩, w.heap.size, w2.heap.size, set_blk hb3 1 (.pointer (some ⟨w2.heap.size, 0, none⟩)), (HT2.out.grow hB3).frmL (Frm.setCell _ _ _ _) hpc (fun k e => (hlo k e).1), hT3.frmL (Frm.setCell _ _ _ _) hne (fun k e => (hlo k e).2), Nat.le_refl _, hsz, (HF2.out.trans (Frm.of_below hB3)).trans (Frm.setCell _ _ _ _)⟩
set_option maxRecDepth 100000 in
set_option maxHeartbeats 1000000 in
theorem New_at (w : World) : Calls Try.prog 10 #[] w fun e w' => ∃ own, e = .returned (.pointer (some ⟨w.heap.size, 0, none⟩)) ∧ CoAt own w' w.heap.size Co.none ∧ Over w.heap.size own ∧ Below w.heap.size w w' := by
  have hB0 := below_alloc w (.cells (coC none none) 56)
  have hc : (w.alloc (.cells (coC none none) 56)).heap[w.heap.size]? = some (.cells (coC none none) 56 (0, 0)) := alloc_blk _ _
  go_enter Try.func10, Try.ntmps10
  go_wp2_with (first | (refine wpList_build_to rfl 56 _ rfl (coC none none) (by kernel_rfl) ?_) | (refine wpList_box_row rfl 56 _ rfl (coC none none) ?_ ?_; rfl) | (go_at_call 18; refine (prepare_new _ w.heap.size hc).mono ?_; rintro e w1 ⟨⟨v1, rfl⟩, pb, rb, h1, h2, h3, h4, h5, h6⟩))
  have hs : (w.alloc (.cells (coC none none) 56)).heap.size = w.heap.size + 1 := by simp
  go_ret
  refine ⟨_, rfl, ⟨pb, rb, _, [], coS_none w1 w.heap.size pb rb h1 h2 h3 (by omega) (by omega) (by omega)⟩, fun k l hk => ?_, hB0.trans (h6.below (by omega) (fun k hk e => by omega))⟩
  try dsimp only at hk
  split at hk
  · omega
  · split at hk
    · omega
    · split at hk
      · omega
      · cases hk
end Go.Proofs.Ytoihfhlelbdboaa
namespace Go.Proofs.Ytoihfhlelbdboaa
open Go.RowKit Go.Dig Go.Inv Go.Oct Go.Hold
set_option linter.unusedVariables false
set_option linter.unusedSimpArgs false

def Mk.eqB (m n : Mk) : Bool := m.k == n.k && (m.p == n.p && (m.e == n.e && m.t == n.t))
def rpE (r s : Rp.Rp3) : Bool := r.err == s.err && (r.pr == s.pr && r.ep == s.ep)
theorem Mk.eqB_self (m : Mk) : m.eqB m = true := by simp [Mk.eqB]
theorem rpE_self (r : Rp.Rp3) : rpE r r = true := by simp [rpE]
theorem equal_mk (m n : Mk) (w : World) : (Op.equalIn 10000 36 (.agg m.cells) (.agg n.cells)).run Try.prog w = .ok (m.eqB n) w := by
  have h := run_equalIn_struct (P := Try.prog) w 9999 36 m.cells n.cells (by kernel_rfl) (by kernel_rfl)
  refine h.trans ?_
  have hf : (Try.prog.fieldsOf 36).toList.map (fun f => (f.type, f.offset)) = [(3, 0), (3, 1), (3, 2), (3, 3)] := by kernel_rfl
  clear h hf
  simp [Op.eqFields, Mk.cells, Mk.eqB, go_sem]
  repeat' split
  all_goals simp_all
theorem equal_rp (r s : Rp.Rp3) (w : World) : (Op.equalIn 10000 28 (.agg (rpC r)) (.agg (rpC s))).run Try.prog w = .ok (rpE r s) w := by
  have h := run_equalIn_struct (P := Try.prog) w 9999 28 (rpC r) (rpC s) (by kernel_rfl) (by kernel_rfl)
  refine h.trans ?_
  have hf : (Try.prog.fieldsOf 28).toList.map (fun f => (f.type, f.offset)) = [(26, 0), (3, 1), (3, 2)] := by kernel_rfl
  clear h hf
  simp [Op.eqFields, rpC, rpE, go_sem]
  repeat' split
  all_goals simp_all
/-- Apply of one that may be, its answer known -/
theorem apply_lit (own : Own) (w : World) (cb : Nat) (x : Co) (n : Nat) (h : CoAt own w cb x) (o : OpF) (hin : o.In) (hi : x.Inv n) (hn : n ≤ 1000) (hb : o.ok = true) (r : Rp.Rp3) (ms : List Mk) (x' : Co) (hx : x.apply true o = (r, ms, x')) :
    Calls Try.prog 11 #[.pointer (some ⟨cb, 0, none⟩), .agg o.cells] w fun e w' => ApR own w cb r ms x' e w' ∧ x'.Inv (n + 1) := by
  refine (apply_at own w cb x n h o hin hi hn).mono fun e w' h => ?_
  rw [hb, hx] at h
  have := hi.apply true o
  rw [hx] at this
  exact ⟨h, this⟩
def op1 : OpF := ⟨1, 0, 0, ⟨#[97]⟩, 0, 0, 0, 0, false⟩
def op2 : OpF := ⟨2, 0, 1, ⟨#[]⟩, 0, 0, 1, 0, false⟩
def op3 : OpF := ⟨3, 0, 2, ⟨#[]⟩, 0, 0, 1, 0, true⟩
def co1 : Co := ⟨[⟨⟨#[97]⟩, 0, [], none⟩], [(0, ⟨0, 0, 0⟩)], [⟨1, 0, 0, 0⟩], 0⟩
def co2 : Co := ⟨[⟨⟨#[97]⟩, 0, [], some (0, [true, false, false, false])⟩], [(0, ⟨0, 0, 0⟩), (1, ⟨0, 0, 0⟩)], [⟨1, 0, 0, 0⟩], 0⟩
def co3 : Co := ⟨[⟨⟨#[97]⟩, 0, [2], none⟩], [(0, ⟨0, 0, 0⟩), (1, ⟨0, 0, 0⟩), (2, ⟨0, 0, 0⟩)], [⟨1, 0, 0, 0⟩, ⟨2, 0, 0, 1⟩], 0⟩
theorem op1_in : op1.In := by constructor <;> simp [op1, inI] <;> decide
theorem op2_in : op2.In := by constructor <;> simp [op2, inI] <;> decide
theorem op3_in : op3.In := by constructor <;> simp [op3, inI] <;> decide
theorem op1_ok : op1.ok = true := by kernel_rfl
theorem op2_ok : op2.ok = true := by kernel_rfl
theorem op3_ok : op3.ok = true := by kernel_rfl
theorem co1_eq : Co.none.apply true op1 = (⟨0, 0, 0⟩, [⟨1, 0, 0, 0⟩], co1) := by kernel_rfl
theorem co2_eq : co1.apply true op2 = (⟨0, 0, 0⟩, [], co2) := by kernel_rfl
theorem co3_eq : co2.apply true op3 = (⟨0, 0, 0⟩, [⟨2, 0, 0, 1⟩], co3) := by kernel_rfl
end Go.Proofs.Ytoihfhlelbdboaa
namespace Go.Proofs.Ytoihfhlelbdboaa
open Go.RowKit Go.Dig Go.Inv Go.Oct Go.Hold
set_option linter.unusedVariables false
set_option linter.unusedSimpArgs false

/-- a block without a label lies on -/
theorem Step.keep {P : Lab → Prop} {own own' : Own} {w w' : World} (h : Step P own own' w w') {k : Nat} {o : Obj} (hk : w.heap[k]? = some o) (hn : own k = none) : w'.heap[k]? = some o :=
  (h.block (lt_blk hk) fun l e => by rw [hn] at e; cases e).trans hk
theorem Step.unlab {P : Lab → Prop} {own own' : Own} {w w' : World} (h : Step P own own' w w') {k : Nat} {o : Obj} (hk : w.heap[k]? = some o) (hn : own k = none) : own' k = none := (h.old k (lt_blk hk)).trans hn
theorem CoAt.owned {own : Own} {w : World} {cb : Nat} {x : Co} (h : CoAt own w cb x) : Owned own w := by obtain ⟨_, _, _, _, h⟩ := h; exact h.owned
theorem Owned.fresh {own : Own} {w : World} (h : Owned own w) {k : Nat} (hk : w.heap.size ≤ k) : own k = none := by
  cases hh : own k with
  | none => rfl
  | some l => have := h k l hh; omega
/-- a row of marks, cell by cell -/
theorem OwnM.cell1 {w : World} {base : Nat} {v : Value} {m : Mk} (h : OwnM w base v [m]) : ∃ g c, v = .slice (some ⟨g, 0, none⟩) 1 c ∧ base ≤ g ∧ ∀ j u, (mkC [m])[j]? = some u → w.cell? ⟨g, j, none⟩ = some u := by
  obtain ⟨ao, c, rfl⟩ := h.form
  rcases h.1.2 with ⟨e, h0⟩ | ⟨g, cap, cur, e, hb, _⟩
  · simp at h0
  · cases e
    refine ⟨g, c, rfl, hb, fun j u hu => ?_⟩
    have := h.cells.2 j u hu
    rwa [addr_add, Nat.zero_add] at this
set_option maxRecDepth 100000 in
set_option maxHeartbeats 4000000 in
theorem known_at (w : World) : Calls Try.prog 15 #[] w fun e w' => e = .returned (.bool true) ∧ Below w.heap.size w w' := by
  go_enter Try.func15, Try.ntmps15
  go_wp2_with (first | (refine wpList_build_to rfl 33 #[(0, .const (.int .i64 1)), (3, .const (.string ⟨#[97]⟩))] rfl op1.cells (by kernel_rfl) ?_) | (go_at_call 10; refine (New_at _).mono ?_; rintro e w1 ⟨own1, rfl, h1, ho1, hB1⟩) | (go_at_call 11; refine (apply_lit own1 _ _ Co.none 0 h1 op1 op1_in Co.inv_none (by omega) op1_ok _ _ _ co1_eq).mono ?_; rintro e w2 ⟨⟨v2, own2, rfl, hO2, hl2, hC2, hS2⟩, hI2⟩) | (refine wpList_alloc_row rfl 28 rfl (rpC rp0) (by kernel_rfl) ?_) | (refine wpList_store_whole rfl 28 _ _ rfl w2.heap.size (rpC ⟨0, 0, 0⟩) (rpC rp0) ?_ ?_ 28 (alloc_blk _ _) (by kernel_rfl) (rpC_all _) rfl ?_; rfl; rfl))
  intro w3 h3 hK3
  have hB3 : Below w2.heap.size w2 w3 := (below_alloc _ _).trans (hK3.below (Nat.le_refl _) (by simp))
  have hO2' := ho1.step hS2 hB1.size
  have hBt2 : Below w.heap.size w w2 := hB1.trans (ho1.below hS2 hB1.size)
  obtain ⟨g2, n2, rfl, hg2, hc2⟩ := hO2.cell1
  have hgl2 : g2 < w2.heap.size := (hO2.lt g2 rfl).2
  have hn2 : own2 g2 = none := hl2 g2 rfl
  have hz2 : own2 w2.heap.size = none := hC2.owned.fresh (Nat.le_refl _)
  have hC3 := hC2.below hB3
  clear hC2 hO2 hl2 h1 hS2 ho1
  go_wp2_with (first | (refine wpList_build_to rfl 33 #[(0, .const (.int .i64 2)), (2, .const (.int .i64 1)), (6, .const (.int .i64 1))] rfl op2.cells (by kernel_rfl) ?_) | (refine wpList_build_to rfl 33 #[(0, .const (.int .i64 3)), (2, .const (.int .i64 2)), (6, .const (.int .i64 1)), (8, .const (.bool true))] rfl op3.cells (by kernel_rfl) ?_) | (go_at_call 11; refine (apply_lit own2 _ _ co1 1 hC3 op2 op2_in hI2 (by omega) op2_ok _ _ _ co2_eq).mono ?_; rintro e w4 ⟨⟨v4, own4, rfl, hO4, hl4, hC4, hS4⟩, hI4⟩; have hL4 : w.heap.size ≤ w3.heap.size := Nat.le_trans hBt2.size hB3.size; have hBt4 := (hBt2.trans (hB3.mono hBt2.size)).trans ((hO2'.below hS4 hL4)); have h4 := hS4.keep h3 hz2; have hO4' := hO2'.step hS4 hL4; have hn4 := (hS4.old g2 (Nat.lt_of_lt_of_le hgl2 hB3.size)).trans hn2; have hz4 := (hS4.old _ (lt_blk h3)).trans hz2; have hE4 : ∀ j, w4.cell? ⟨g2, j, none⟩ = w2.cell? ⟨g2, j, none⟩ := fun j => (World.cell?_of_block (a := ⟨g2, j, none⟩) (hS4.block (Nat.lt_of_lt_of_le hgl2 hB3.size) fun l e => by rw [hn2] at e; cases e)).trans (World.cell?_of_block (a := ⟨g2, j, none⟩) (hB3.block g2 hgl2)); clear hS4 hC3 hI2) | (go_at_call 11; refine (apply_lit own4 _ _ co2 2 hC4 op3 op3_in hI4 (by omega) op3_ok _ _ _ co3_eq).mono ?_; rintro e w6 ⟨⟨v6, own6, rfl, hO6, hl6, hC6, hS6⟩, hI6⟩) | (refine wpList_alloc_row rfl 28 rfl (rpC rp0) (by kernel_rfl) ?_) | (refine wpList_store_whole rfl 28 _ _ rfl w6.heap.size (rpC ⟨0, 0, 0⟩) (rpC rp0) ?_ ?_ 28 (alloc_blk _ _) (by kernel_rfl) (rpC_all _) rfl ?_; rfl; rfl))
  intro w7 h7 hK7
  have hB7 : Below w6.heap.size w6 w7 := (below_alloc _ _).trans (hK7.below (Nat.le_refl _) (by simp))
  have hL4 : w.heap.size ≤ w4.heap.size := hBt4.size
  have hBt6 : Below w.heap.size w w6 := hBt4.trans (hO4'.below hS6 hL4)
  have hBt7 : Below w.heap.size w w7 := hBt6.trans (hB7.mono hBt6.size)
  obtain ⟨g6, n6, rfl, hg6, hc6⟩ := hO6.cell1
  have hgl6 : g6 < w6.heap.size := (hO6.lt g6 rfl).2
  have hcl4 : g2 < w4.heap.size := by have := lt_blk h4; omega
  have hh : w7.heap[w2.heap.size]? = some (.cells (rpC ⟨0, 0, 0⟩) 28 (0, 0)) := (hB7.block _ (Nat.lt_of_lt_of_le (lt_blk h4) hS6.size)).trans (hS6.keep h4 hz4)
  have r0 : w7.cell? ⟨w2.heap.size, 0, none⟩ = some (.int .i64 0) := cell_blk hh 0
  have m0 : w7.cell? ⟨g2, 0, none⟩ = some (.int .i64 1) := by
    refine (hB7.cell (p := ⟨g2, 0, none⟩) (Nat.lt_of_lt_of_le hcl4 hS6.size)).trans ((World.cell?_of_block (a := ⟨g2, 0, none⟩) (hS6.block hcl4 fun l e => by rw [hn4] at e; cases e)).trans ((hE4 0).trans (hc2 0 _ rfl)))
  have n0 : ∀ j u, (mkC [⟨2, 0, 0, 1⟩])[j]? = some u → w7.cell? ⟨g6, j, none⟩ = some u := fun j u hu => (hB7.cell (p := ⟨g6, j, none⟩) hgl6).trans (hc6 j u hu)
  have q0 : w7.cell? ⟨g6, 0, none⟩ = some (.int .i64 2) := n0 0 _ rfl
  have q1 : w7.cell? ⟨g6, 1, none⟩ = some (.int .i64 0) := n0 1 _ rfl
  have q2 : w7.cell? ⟨g6, 2, none⟩ = some (.int .i64 0) := n0 2 _ rfl
  have q3 : w7.cell? ⟨g6, 3, none⟩ = some (.int .i64 1) := n0 3 _ rfl
  clear n0 hc6
  clear hB7 hK7 h7 hC6 hS6 hI6 hO6 hl6 hO4' hC4 hO4 hl4 hI4 hE4 hBt4 hBt6 h4 hz4 hn4 hh hB3 hK3 h3 hc2 hn2 hz2 hO2'
  go_wp2_with fail
  go_ret
  exact ⟨rfl, hBt7⟩
end Go.Proofs.Ytoihfhlelbdboaa
namespace Go.Proofs.Ytoihfhlelbdboaa
open Go.RowKit Go.Dig Go.Inv Go.Oct Go.Hold
set_option linter.unusedVariables false
set_option linter.unusedSimpArgs false

set_option maxRecDepth 100000 in
set_option maxHeartbeats 1000000 in
theorem CloneM_any (w : World) (base : Nat) (v : Value) (L : List Mk) (h : OwnM w base v L) (hL : L.length ≤ 50000) : Calls Try.prog 25 #[v] w fun e w' => ∃ v', e = .returned v' ∧ OwnM w' w.heap.size v' L ∧ Below w.heap.size w w' := by
  rcases h.1.2 with ⟨rfl, h0⟩ | ⟨g, cap, cur, rfl, hb, hg, _⟩
  · obtain rfl : L = [] := List.eq_nil_of_length_eq_zero h0
    have hn := Lib.run_eql_slice_nil (P := Try.prog) w 29 36 none 0 0 0 0 (by kernel_rfl)
    go_enter Try.func25, Try.ntmps25
    go_wp2
    go_ret
    exact ⟨_, rfl, OwnM.nil _ _, Below.refl _ _⟩
  · have hn := Lib.run_eql_slice_nil (P := Try.prog) w 29 36 (some ⟨g, 0, none⟩) L.length cap 0 0 (by kernel_rfl)
    have hE : OwnM (w.alloc (.cells #[] 36)) w.heap.size (.slice (some ⟨w.heap.size, 0, none⟩) 0 0) [] := by
      refine ⟨⟨rfl, .inr ⟨w.heap.size, 0, #[], rfl, Nat.le_refl _, alloc_blk _ _, Nat.le_refl _, Nat.zero_le _, rfl, rfl⟩⟩, fun k hk j u hu => ?_⟩
      cases hk
      rw [cell_blk (alloc_blk _ _)] at hu
      simp at hu
    have hO : OwnM (w.alloc (.cells #[] 36)) base (.slice (some ⟨g, 0, none⟩) L.length cap) L := h.below (below_alloc _ _)
    have hs : (w.alloc (.cells #[] 36)).heap.size = w.heap.size + 1 := by simp
    go_enter Try.func25, Try.ntmps25
    go_wp2_with (refine wpList_appM rfl _ _ rfl w.heap.size base (.slice (some ⟨w.heap.size, 0, none⟩) 0 0) (.slice (some ⟨g, 0, none⟩) L.length cap) [] L ?_ ?_ hE hO (by simp; omega) (by omega) ?_; rfl; rfl)
    intro v' w' hv hG
    go_wp2_with fail
    go_ret
    refine ⟨_, rfl, hv, (below_alloc _ _).trans (hG.frm.below (by omega) fun k hk e => ?_)⟩
    cases e
    exact Nat.lt_irrefl _ hk
theorem last_any (own : Own) (w : World) (i b : Nat) (p : Pr) (h : PrAt own w i b p) (hn : p.ends.length ≤ 1000) : Calls Try.prog 27 #[.pointer (some ⟨b, 0, none⟩)] w fun e w' => e = .returned (.int .i64 p.last) ∧ w' = w := by
  obtain ⟨ev, ov, h⟩ := h
  exact last_at own w i b p ev ov h hn
/-- all marks -/
theorem Marks_at (own : Own) (w : World) (cb : Nat) (x : Co) (h : CoAt own w cb x) (hm : x.ms.length ≤ 50000) : Calls Try.prog 12 #[.pointer (some ⟨cb, 0, none⟩)] w fun e w' => ∃ v', e = .returned v' ∧ OwnM w' w.heap.size v' x.ms ∧ Below w.heap.size w w' := by
  obtain ⟨pb, rb, mv, q, h⟩ := h
  have c2 : w.cell? ⟨cb, 2, none⟩ = some mv := cell_blk h.blk 2
  have hO := h.ms
  clear h
  obtain ⟨ao, c, rfl⟩ := hO.form
  go_enter Try.func12, Try.ntmps12
  go_wp2_with (go_at_call 25; refine (CloneM_any _ 0 _ x.ms hO hm).mono ?_; rintro e w2 ⟨v2, rfl, hv, hB⟩)
  go_ret
  exact ⟨_, rfl, hv, hB⟩
theorem run_index_cell (t e : TypeId) (m : Nat) (cs : Array Value) (v : Value) (ki : IntKind) (k : Nat) (hu : Try.prog.underlying t = some (.array m e)) (hk : k < m) (hv : cs[k]? = some v) (hs : (Try.prog.info? e).map (·.size) = some 1)
    (hp : ∀ (cs : Array Value) (off : Nat) (v : Value) (w : World), cs[off]? = some v → (part e cs off).run Try.prog w = .ok v w) (w : World) :
    (Instr.index t (.agg cs) (.int ki (k : Int))).run Try.prog w = .ok v w := by
  have hz : (sizeOf e).run Try.prog w = .ok 1 w := by
    cases hq : Try.prog.info? e with
    | none => simp [hq] at hs
    | some i => simp [hq] at hs; simp [sizeOf, typeInfo, hq, hs]
  have hk' : (0 : Int) ≤ (k : Int) ∧ (k : Int) < (m : Int) := by omega
  simp [Instr.index, run_underlying hu, asIntOf, hk, hz, hp _ _ _ w hv]
/-- the parts of which one has -/
def partsTo (l : List Bool) (k : Nat) : List Int := ((List.range k).filter fun i => l.getD i false).map fun (i : Nat) => (i : Int)
theorem partsTo_succ (l : List Bool) (k : Nat) : partsTo l (k + 1) = partsTo l k ++ if l.getD k false then [(k : Int)] else [] := by
  unfold partsTo
  rw [List.range_succ, List.filter_append, List.map_append]
  cases h : l.getD k false <;> simp [h] <;> simp_all
theorem partsTo_len (l : List Bool) (k : Nat) : (partsTo l k).length ≤ k := by
  unfold partsTo
  rw [List.length_map]
  exact Nat.le_trans (List.length_filter_le _ _) (by simp)
def partS (l : List Bool) : Nat → Bool := fun i => l.getD i false
set_option maxRecDepth 100000 in
set_option maxHeartbeats 4000000 in
theorem list_at (w : World) (ob : Nat) (b : Int) (l : List Bool) (hb : w.heap[ob]? = some (.cells (txnC b l) 93 (0, 0))) : Calls Try.prog 28 #[.pointer (some ⟨ob, 0, none⟩)] w fun e w' => ∃ v, e = .returned v ∧ OwnI w' w.heap.size v (partsTo l 4) ∧ Below w.heap.size w w' := by
  have c1 : w.cell? ⟨ob, 1, none⟩ = some (.bool (partS l 0)) := cell_blk hb 1
  have c2 : w.cell? ⟨ob, 2, none⟩ = some (.bool (partS l 1)) := cell_blk hb 2
  have c3 : w.cell? ⟨ob, 3, none⟩ = some (.bool (partS l 2)) := cell_blk hb 3
  have c4 : w.cell? ⟨ob, 4, none⟩ = some (.bool (partS l 3)) := cell_blk hb 4
  go_enter Try.func28, Try.ntmps28
  go_wp2
  clear c1 c2 c3 c4
  go_loopw [3, 10] (fun pv iv wr => ∃ i : Nat, i ≤ 4 ∧ iv = .int .i64 (i : Int) ∧ OwnI wr w.heap.size pv (partsTo l i) ∧ Below w.heap.size w wr) (fun _ iv _ => 4 - (intOf iv).toNat)
  case atStart => exact ⟨0, Nat.zero_le _, rfl, OwnI.nil _ _, Below.refl _ _⟩
  case round =>
    obtain ⟨i, hi, rfl, hO, hB⟩ := hrel
    obtain ⟨ao, cap, rfl⟩ := hO.form
    have hlen := partsTo_len l i
    have hO1 : OwnI (wr.alloc (.cells #[.int .i64 (i : Int)] 3)) w.heap.size (.slice ao (partsTo l i).length cap) (partsTo l i) := hO.below (below_alloc _ _)
    have hg : (wr.alloc (.cells #[.int .i64 (i : Int)] 3)).heap[wr.heap.size]? = some (.cells #[.int .i64 (i : Int)] 3 (0, 0)) := alloc_blk _ _
    have hsz : w.heap.size ≤ (wr.alloc (.cells #[.int .i64 (i : Int)] 3)).heap.size := by have := hB.size; simp; omega
    have hn : (partsTo l i).length + 1 ≤ 100000 := by omega
    have HLT : Hid (∀ k, (Value.slice ao (partsTo l i).length cap).ownBlock = some k → w.heap.size ≤ k) := fun k hk => (hO.lt k hk).1
    have HSUC : Hid (partsTo l (i + 1) = partsTo l i ++ if partS l i then [(i : Int)] else []) := partsTo_succ l i
    have HI : Hid (i ≤ 4) := hi
    by_cases h4 : i = 4
    · subst h4
      clear hO1 hg hsz hn HLT HSUC
      go_wp2_with fail
      go_ret
      exact ⟨_, rfl, hO, hB⟩
    · have hix : i = 0 ∨ i = 1 ∨ i = 2 ∨ i = 3 := by omega
      have hidx : (Instr.index 91 (.agg #[.bool (partS l 0), .bool (partS l 1), .bool (partS l 2), .bool (partS l 3)]) (.int .i64 (i : Int))).run Try.prog wr = .ok (.bool (partS l i)) wr := by
        refine run_index_cell 91 4 4 _ _ .i64 i (by kernel_rfl) (by omega) ?_ (by kernel_rfl) (fun cs off v w hv => by simp [part, go_sem, hv]) wr
        rcases hix with rfl | rfl | rfl | rfl <;> rfl
      have hlt : decide ((i : Int) < 4) = true := by simp; omega
      generalize hLe : partsTo l i = L at *
      generalize partS l 0 = s0 at *
      generalize partS l 1 = s1 at *
      generalize partS l 2 = s2 at *
      generalize partS l 3 = s3 at *
      cases hp : partS l i
      · rw [hp] at hidx
        clear hO1 hg hsz hn
        go_wp2_with fail
        go_roundw
        case rel => exact ⟨i + 1, by omega, by go_num, by rw [HSUC.out]; simpa [hp] using hO, hB⟩
        case measure => simp [intOf]; omega
      · rw [hp] at hidx
        clear hO
        go_wp2_with (first | (refine wpList_rowI rfl _ rfl (i : Int) ?_ ?_; rfl) | (refine wpList_appI1 rfl _ _ rfl w.heap.size (.slice ao L.length cap) L ?_ wr.heap.size (i : Int) ?_ hO1 3 hg hn hsz ?_; rfl; rfl))
        intro v4 w4 hO4 hG4
        have hB4 : Below w.heap.size w w4 := (hB.trans ((below_alloc _ _).mono hB.size)).trans (hG4.frm.below hsz fun k hk e => Nat.lt_irrefl _ (Nat.lt_of_lt_of_le hk (HLT.out k e)))
        obtain ⟨a4, c4, rfl⟩ := hO4.form
        clear hG4 hO1 hg
        have HS4 : Hid (partsTo l (i + 1) = L ++ [(i : Int)]) := by show partsTo l (i + 1) = _; rw [HSUC.out, hp]; rfl
        go_wp2_with fail
        go_roundw
        case rel => exact ⟨i + 1, by omega, by go_num, by rw [HS4.out]; exact hO4, hB4⟩
        case measure => simp [intOf]; omega
/-- the open transaction that is told -/
def Co.opn (x : Co) (k : Int) : Int × List Int × Bool := match x.at k with
  | some (_, p) => match p.op with
    | some (_, l) => (p.last, partsTo l 4, true)
    | .none => (0, [], false)
  | .none => (0, [], false)
end Go.Proofs.Ytoihfhlelbdboaa
namespace Go.Proofs.Ytoihfhlelbdboaa
open Go.RowKit Go.Dig Go.Inv Go.Oct Go.Hold
set_option linter.unusedVariables false
set_option linter.unusedSimpArgs false

def nameG (i : Nat) : OpF := ⟨1, 0, i, strOf [97 + (i : Int)], 0, 0, 0, 0, false⟩
def againG (s : Nat) : OpF := ⟨1, 0, s, ⟨#[97]⟩, 0, 0, 0, 0, false⟩
def numSt : Nat → Co
  | 0 => Co.none
  | i + 1 => ((numSt i).apply true (nameG i)).2.2
def agSt (n : Nat) : Nat → Co
  | 0 => numSt n
  | j + 1 => ((agSt n j).apply true (againG (n + j))).2.2
theorem nameG_in {i : Nat} (h : i < 13) : (nameG i).In := by
  refine ⟨?_, ?_, ?_, ?_, ?_, ?_, ?_, by show (1 : Nat) < 1073741824; decide⟩ <;> simp [nameG, inI] <;> first | omega | decide
theorem nameG_ok : ∀ i, i < 13 → (nameG i).ok = true := by decide +kernel
theorem againG_in {i : Nat} (h : i < 20) : (againG i).In := by
  constructor <;> simp [againG, inI] <;> first | omega | decide
theorem againG_ok : ∀ i, i < 20 → (againG i).ok = true := by decide +kernel
theorem num_err : ∀ i, i < 12 → ((numSt i).apply true (nameG i)).1.err = (if i < 8 then 0 else 3) ∧ (i < 8 → ((numSt i).apply true (nameG i)).1.pr = i ∧ ((numSt i).apply true (nameG i)).1.ep = 0) := by decide +kernel
theorem ag_err : ∀ n, n < 13 → 0 < n → ∀ j, j < 5 → ((agSt n j).apply true (againG (n + j))).1.err = 0 ∧ ((agSt n j).apply true (againG (n + j))).1.pr = 0 ∧ ((agSt n j).apply true (againG (n + j))).1.ep = j + 1 := by decide +kernel
theorem ag_ms : ∀ n, n < 13 → 0 < n → ∀ j, j < 6 → (agSt n j).ms.length = min n 8 + j := by decide +kernel
theorem numSt_inv : ∀ i, (numSt i).Inv i
  | 0 => Co.inv_none
  | i + 1 => (numSt_inv i).apply true (nameG i)
theorem agSt_inv (n : Nat) : ∀ j, (agSt n j).Inv (n + j)
  | 0 => numSt_inv n
  | j + 1 => (agSt_inv n j).apply true (againG (n + j))
set_option maxRecDepth 100000 in
set_option maxHeartbeats 4000000 in
theorem Numbers_law (w : World) (n a : Int) : Calls Try.prog 8 #[.int .i64 n, .int .i64 a] w fun e w' => e = .returned (.bool true) ∧ Below w.heap.size w w' := by
  by_cases hr : n < 0 ∨ 12 < n ∨ a < 0 ∨ 5 < a
  · go_enter Try.func8, Try.ntmps8
    by_cases h1 : n < 0
    · go_wp2_with (go_at_call 15; refine (known_at _).mono ?_; rintro e w2 ⟨rfl, hB2⟩)
      go_ret
      exact ⟨rfl, hB2⟩
    · by_cases h2 : 12 < n
      · go_wp2_with (go_at_call 15; refine (known_at _).mono ?_; rintro e w2 ⟨rfl, hB2⟩)
        go_ret
        exact ⟨rfl, hB2⟩
      · by_cases h3 : a < 0
        · go_wp2_with (go_at_call 15; refine (known_at _).mono ?_; rintro e w2 ⟨rfl, hB2⟩)
          go_ret
          exact ⟨rfl, hB2⟩
        · have h4 : 5 < a := by omega
          go_wp2_with (go_at_call 15; refine (known_at _).mono ?_; rintro e w2 ⟨rfl, hB2⟩)
          go_ret
          exact ⟨rfl, hB2⟩
  · obtain ⟨m, rfl⟩ : ∃ m : Nat, n = (m : Int) := ⟨n.toNat, by omega⟩
    obtain ⟨k, rfl⟩ : ∃ k : Nat, a = (k : Int) := ⟨a.toNat, by omega⟩
    have hm : m ≤ 12 := by omega
    have hk : k ≤ 5 := by omega
    have h0 : ¬ ((m : Int) < 0) := by omega
    have h12 : ¬ (12 < (m : Int)) := by omega
    have h1 : ¬ ((k : Int) < 0) := by omega
    have h5 : ¬ (5 < (k : Int)) := by omega
    clear hr
    go_enter Try.func8, Try.ntmps8
    go_wp2_with (first | (go_at_call 10; refine (New_at _).mono ?_; rintro e w1 ⟨own1, rfl, hN1, ho1, hB1⟩))
    go_loopw [6, 7] (fun sv iv wr => ∃ (i : Nat) (own : Own), i ≤ m ∧ sv = .int .i64 (i : Int) ∧ iv = .int .i64 (i : Int) ∧ CoAt own wr w.heap.size (numSt i) ∧ Over w.heap.size own ∧ Below w.heap.size w wr) (fun _ iv _ => m - (intOf iv).toNat)
    case atStart => exact ⟨0, own1, Nat.zero_le _, rfl, rfl, hN1, ho1, hB1⟩
    case round =>
      obtain ⟨i, own, hi, rfl, rfl, hC, ho, hB⟩ := hrel
      by_cases hlt : i < m
      · obtain ⟨he, hl⟩ := num_err i (by omega)
        obtain ⟨r, ms, x', hx⟩ : ∃ r ms x', (numSt i).apply true (nameG i) = (r, ms, x') := ⟨_, _, _, rfl⟩
        have hx2 : x' = numSt (i + 1) := by show x' = ((numSt i).apply true (nameG i)).2.2; rw [hx]
        rw [hx] at he hl
        dsimp only at he hl
        have hBs := hB.size
        have hcv : (convert 51 9 (.slice (some ⟨wr.heap.size, 0, none⟩) 1 1)).run Try.prog (wr.alloc (.cells #[.int .u8 (97 + (i : Int))] 5)) = .ok (.string (strOf [97 + (i : Int)])) (wr.alloc (.cells #[.int .u8 (97 + (i : Int))] 5)) := by
          refine conv_str (L := [97 + (i : Int)]) (.inr ⟨_, rfl, fun j hj => ?_⟩) rfl
          obtain rfl : j = 0 := by simpa using hj
          rw [addr_add, cell_blk (alloc_blk _ _)]; rfl
        have hCa := hC.below (below_alloc wr (.cells #[.int .u8 (97 + (i : Int))] 5))
        have hBa : Below w.heap.size w (wr.alloc (.cells #[.int .u8 (97 + (i : Int))] 5)) := hB.trans ((below_alloc _ _).mono hBs)
        have hBas := hBa.size
        clear h0 h12 h5 hC
        go_wp2_with (first | (refine wpList_build_to rfl 33 #[(0, .const (.int .i64 1)), (2, .tmp 38), (3, .tmp 43)] rfl (nameG i).cells (by kernel_rfl) ?_) | (go_at_call 11; refine (apply_lit own _ _ (numSt i) i hCa (nameG i) (nameG_in (by omega)) (numSt_inv i) (by omega) (nameG_ok i (by omega)) r ms x' hx).mono ?_; rintro e w4 ⟨⟨v4, own4, rfl, hO4, hl4, hC4, hS4⟩, hI4⟩; have ho4 := ho.step hS4 hBas; have hB4 := hBa.trans (ho.below hS4 hBas); clear hS4 hCa hO4 hl4 hI4) | (refine wpList_alloc_row rfl 28 rfl (rpC rp0) (by kernel_rfl) ?_) | (refine wpList_store_whole rfl 28 _ _ rfl w4.heap.size (rpC r) (rpC rp0) ?_ ?_ 28 (alloc_blk _ _) (by kernel_rfl) (rpC_all _) rfl ?_; rfl; rfl))
        intro w5 h5 hK5
        have hB5 : Below w4.heap.size w4 w5 := (below_alloc _ _).trans (hK5.below (Nat.le_refl _) (by simp))
        have hC5 := hC4.below hB5
        have hB6 := hB4.trans (hB5.mono hB4.size)
        subst hx2
        clear hK5 hB5 hC4 hB4 hx hcv
        by_cases h8 : i < 8
        · obtain ⟨hp, hq⟩ := hl h8
          rw [if_pos h8] at he
          have c0 : w5.cell? ⟨w4.heap.size, 0, none⟩ = some (.int .i64 0) := he ▸ cell_blk h5 0
          have c1 : w5.cell? ⟨w4.heap.size, 1, none⟩ = some (.int .i64 (i : Int)) := hp ▸ cell_blk h5 1
          have c2 : w5.cell? ⟨w4.heap.size, 2, none⟩ = some (.int .i64 0) := hq ▸ cell_blk h5 2
          have h8' : ((i : Int) < 8) := by omega
          clear h5 he hp hq hl
          go_wp2_with fail
          go_roundw
          case rel => exact ⟨i + 1, own4, by omega, by go_num, by go_num, hC5, ho4, hB6⟩
          case measure => simp [intOf]; omega
        · rw [if_neg h8] at he
          have c0 : w5.cell? ⟨w4.heap.size, 0, none⟩ = some (.int .i64 3) := he ▸ cell_blk h5 0
          have HD : Hid (decide ((i : Int) < 8) = false) := by show decide ((i : Int) < 8) = false; simp; omega
          have h8' : ¬ ((i : Int) < 8) := by omega
          clear h5 he hl
          go_wp2_with fail
          go_roundw
          case rel => exact ⟨i + 1, own4, by omega, by go_num, by go_num, hC5, ho4, hB6⟩
          case measure => simp [intOf]; omega
      · obtain rfl : i = m := by omega
        clear h0 h12 h5 hlt
        go_wp2_with fail
        go_loopw [6, 10] (fun sv jv wq => ∃ (j : Nat) (own : Own), j ≤ k ∧ (i = 0 → j = 0) ∧ sv = .int .i64 (((i + j : Nat)) : Int) ∧ jv = .int .i64 (j : Int) ∧ CoAt own wq w.heap.size (agSt i j) ∧ Over w.heap.size own ∧ Below w.heap.size w wq) (fun _ jv _ => k - (intOf jv).toNat)
        case atStart => exact ⟨0, own, Nat.zero_le _, fun _ => rfl, rfl, rfl, hC, ho, hB⟩
        case round =>
          clear hC ho hB own
          obtain ⟨j, own, hj, hj0, rfl, rfl, hC, ho, hB⟩ := hrel
          have HI : Hid (i ≤ 12) := hm
          have HJ : Hid (j ≤ k ∧ k ≤ 5) := ⟨hj, hk⟩
          have hBs := hB.size
          by_cases hi0 : i = 0
          · subst hi0
            obtain rfl := hj0 rfl
            have hms : (agSt 0 0).ms.length = 0 := rfl
            by_cases hk0 : (0 : Int) < (k : Int)
            · go_wp2_with (first | (go_at_call 12; refine (Marks_at own _ _ (agSt 0 0) hC (by rw [hms]; omega)).mono ?_; rintro e w6 ⟨v6, rfl, hO6, hB6⟩; obtain ⟨a6, c6, rfl⟩ := hO6.form; rw [hms]) | (go_at_call 15; refine (known_at _).mono ?_; rintro e w8 ⟨rfl, hB8⟩))
              go_ret
              exact ⟨rfl, (hB.trans (hB6.mono hBs)).trans (hB8.mono (hB.trans (hB6.mono hBs)).size)⟩
            · go_wp2_with (first | (go_at_call 12; refine (Marks_at own _ _ (agSt 0 0) hC (by rw [hms]; omega)).mono ?_; rintro e w6 ⟨v6, rfl, hO6, hB6⟩; obtain ⟨a6, c6, rfl⟩ := hO6.form; rw [hms]) | (go_at_call 15; refine (known_at _).mono ?_; rintro e w8 ⟨rfl, hB8⟩))
              go_ret
              exact ⟨rfl, (hB.trans (hB6.mono hBs)).trans (hB8.mono (hB.trans (hB6.mono hBs)).size)⟩
          · have hip : (0 : Int) < (i : Int) := by omega
            by_cases hjk : j < k
            · have hjk' : (j : Int) < (k : Int) := by omega
              obtain ⟨he, hp, hq⟩ := ag_err i (by omega) (by omega) j (by omega)
              obtain ⟨r, ms, x', hx⟩ : ∃ r ms x', (agSt i j).apply true (againG (i + j)) = (r, ms, x') := ⟨_, _, _, rfl⟩
              have hx2 : x' = agSt i (j + 1) := by show x' = ((agSt i j).apply true (againG (i + j))).2.2; rw [hx]
              rw [hx] at he hp hq
              dsimp only at he hp hq
              go_wp2_with (first | (refine wpList_build_to rfl 33 #[(0, .const (.int .i64 1)), (2, .tmp 83), (3, .const (.string ⟨#[97]⟩))] rfl (againG (i + j)).cells (by kernel_rfl) ?_) | (go_at_call 11; refine (apply_lit own _ _ (agSt i j) (i + j) hC (againG (i + j)) (againG_in (by omega)) (agSt_inv i j) (by omega) (againG_ok (i + j) (by omega)) r ms x' hx).mono ?_; rintro e w4 ⟨⟨v4, own4, rfl, hO4, hl4, hC4, hS4⟩, hI4⟩; have ho4 := ho.step hS4 hBs; have hB4 := hB.trans (ho.below hS4 hBs); clear hS4 hC hO4 hl4 hI4) | (refine wpList_alloc_row rfl 28 rfl (rpC rp0) (by kernel_rfl) ?_) | (refine wpList_store_whole rfl 28 _ _ rfl w4.heap.size (rpC r) (rpC rp0) ?_ ?_ 28 (alloc_blk _ _) (by kernel_rfl) (rpC_all _) rfl ?_; rfl; rfl))
              intro w5 h5 hK5
              have hB5 : Below w4.heap.size w4 w5 := (below_alloc _ _).trans (hK5.below (Nat.le_refl _) (by simp))
              have hC5 := hC4.below hB5
              have hB6 := hB4.trans (hB5.mono hB4.size)
              subst hx2
              have c0 : w5.cell? ⟨w4.heap.size, 0, none⟩ = some (.int .i64 0) := he ▸ cell_blk h5 0
              have c1 : w5.cell? ⟨w4.heap.size, 1, none⟩ = some (.int .i64 0) := hp ▸ cell_blk h5 1
              have c2 : w5.cell? ⟨w4.heap.size, 2, none⟩ = some (.int .i64 ((j : Int) + 1)) := hq ▸ cell_blk h5 2
              clear hK5 hB5 hC4 hB4 hx h5 he hp hq
              go_wp2_with fail
              go_roundw
              case rel => exact ⟨j + 1, own4, by omega, fun h => absurd h hi0, by go_num, by go_num, hC5, ho4, hB6⟩
              case measure => simp [intOf]; omega
            · obtain rfl : j = k := by omega
              have hms := ag_ms i (by omega) (by omega) j (by omega)
              by_cases hi8 : i ≤ 8
              · have hi8' : (i : Int) ≤ 8 := by omega
                have HMS : Hid ((agSt i j).ms.length = i + j) := by show (agSt i j).ms.length = i + j; omega
                have hi0' : ¬ ((i : Int) = 0) := by omega
                clear hms hi8 hi0 hj0 hjk hj HJ h1
                go_wp2_with fail
                refine (Marks_at own _ _ (agSt i j) hC (by rw [HMS.out]; omega)).mono ?_
                rintro e w6 ⟨v6, rfl, hO6, hB6⟩
                obtain ⟨a6, c6, rfl⟩ := hO6.form
                rw [HMS.out]
                have hmn : ∀ (ts : Array TypeId) (t : TypeId) (W : World), (Builtin.min_ ts t #[.int .i64 (i : Int), .int .i64 8]).run Try.prog W = .ok (.int .i64 (i : Int)) W := fun ts t W => by
                  rw [run_min_int2, if_neg (by omega)]
                have hcast : ((i + j : Nat) : Int) = (i : Int) + (j : Int) := by omega
                clear hi8' hip hO6 hC
                go_wp2_with (go_at_call 15; refine (known_at _).mono ?_; rintro e w8 ⟨rfl, hB8⟩)
                go_ret
                exact ⟨rfl, (hB.trans (hB6.mono hBs)).trans (hB8.mono (hB.trans (hB6.mono hBs)).size)⟩
              · have hi8' : ¬ ((i : Int) ≤ 8) := by omega
                have HMS : Hid ((agSt i j).ms.length = 8 + j) := by show (agSt i j).ms.length = 8 + j; omega
                have hi0' : ¬ ((i : Int) = 0) := by omega
                clear hms hi8 hi0 hj0 hjk hj HJ h1
                go_wp2_with fail
                refine (Marks_at own _ _ (agSt i j) hC (by rw [HMS.out]; omega)).mono ?_
                rintro e w6 ⟨v6, rfl, hO6, hB6⟩
                obtain ⟨a6, c6, rfl⟩ := hO6.form
                rw [HMS.out]
                have hmn : ∀ (ts : Array TypeId) (t : TypeId) (W : World), (Builtin.min_ ts t #[.int .i64 (i : Int), .int .i64 8]).run Try.prog W = .ok (.int .i64 8) W := fun ts t W => by
                  rw [run_min_int2, if_pos (by omega)]
                have hcast : ((8 + j : Nat) : Int) = 8 + (j : Int) := by omega
                clear hi8' hip hO6 hC
                go_wp2_with (go_at_call 15; refine (known_at _).mono ?_; rintro e w8 ⟨rfl, hB8⟩)
                go_ret
                exact ⟨rfl, (hB.trans (hB6.mono hBs)).trans (hB8.mono (hB.trans (hB6.mono hBs)).size)⟩
end Go.Proofs.Ytoihfhlelbdboaa
namespace Go.Proofs.Ytoihfhlelbdboaa
open Go.ChangeShapes Go.WideShapes Go.ChangeAt Go.RowKit Go.Dig Go.Deep

theorem wf_i64 {n : Int} (h : (Lit.int .i64 n).wf = true) : -9223372036854775808 ≤ n ∧ n ≤ 9223372036854775807 := by
  simp [Lit.wf, IntKind.min, IntKind.max, IntKind.signed, IntKind.bits] at h; omega
theorem inI_of {n : Int} (h : (Lit.int .i64 n).wf = true) : inI n := wf_i64 h
set_option maxRecDepth 100000 in
theorem okWide_struct {w : World} {r : Reach} {base : Nat} {t : TypeId} {v : Value} {fs : Array Field} (ht : Try.prog.underlying t = some (.struct fs)) (h : Value.okWide Try.prog w r base t v) : ∃ cs, v = .agg cs := by
  simp only [Value.okWide, ht] at h
  obtain ⟨cs, h1, _⟩ := h
  exact ⟨cs, h1⟩
section
variable {H : Type} {enc : TypeId × Value → H} {W : World} {base : Nat} {spare : Nat → Bool} {held : Bool} {fuel : Nat} {cs : List Value} {x : DataW H × List MemPlace}
theorem int_cell (o : Nat) (h : DataW.trod enc Try.prog W base spare held fuel 3 ((cs.drop o).take (Try.prog.cellsOf 3)) = some x) : ∃ z : Int, cs[o]? = some (.int .i64 z) ∧ inI z := by
  have hc : Try.prog.cellsOf 3 = 1 := by kernel_rfl
  obtain ⟨z, e, _, hw⟩ := DataW.trod_int Try.underlying3 h
  rw [hc] at e
  refine ⟨z, ?_, inI_of hw⟩
  have := congrArg (fun l => l[0]?) e
  simpa [List.getElem?_take, List.getElem?_drop] using this
end
section
variable {H : Type} {enc : TypeId × Value → H} {W : World} {base : Nat} {spare : Nat → Bool} {held : Bool} {fuel : Nat} {cs : List Value} {x : DataW H × List MemPlace}
set_option maxRecDepth 100000 in
/-- an operation's cells -/
theorem op_cells (h : DataW.trod enc Try.prog W base spare held fuel 33 cs = some x) : ∃ (k c s : Int) (n : ByteArray) (p e t r : Int) (b : Bool), cs = (opC k c s n p e t r b).toList ∧ inI k ∧ inI c ∧ inI s ∧ n.size ≤ maxLen ∧ inI p ∧ inI e ∧ inI t ∧ inI r := by
  obtain ⟨xs, m, _, rfl, hl, hlen, hf⟩ := DataW.trod_struct Try.underlying33 h
  have hc : Try.prog.cellsOf 33 = 9 := by kernel_rfl
  have hcs : Try.prog.cellsOf 9 = 1 := by kernel_rfl
  have hcb : Try.prog.cellsOf 4 = 1 := by kernel_rfl
  rw [hc] at hl
  match xs, hlen with
  | [y0, y1, y2, y3, y4, y5, y6, y7, y8], _ =>
    obtain ⟨k, e0, i0⟩ := int_cell 0 (hf 0 _ rfl)
    obtain ⟨c, e1, i1⟩ := int_cell 1 (hf 1 _ rfl)
    obtain ⟨s, e2, i2⟩ := int_cell 2 (hf 2 _ rfl)
    have g3 : DataW.trod enc Try.prog W base spare held m 9 ((cs.drop 3).take (Try.prog.cellsOf 9)) = some y3 := hf 3 _ rfl
    obtain ⟨p, e4, i4⟩ := int_cell 4 (hf 4 _ rfl)
    obtain ⟨e, e5, i5⟩ := int_cell 5 (hf 5 _ rfl)
    obtain ⟨t, e6, i6⟩ := int_cell 6 (hf 6 _ rfl)
    obtain ⟨r, e7, i7⟩ := int_cell 7 (hf 7 _ rfl)
    have g8 : DataW.trod enc Try.prog W base spare held m 4 ((cs.drop 8).take (Try.prog.cellsOf 4)) = some y8 := hf 8 _ rfl
    obtain ⟨n, hn, _, hnl⟩ := DataW.trod_string Try.underlying9 g3
    obtain ⟨b, hb, _⟩ := DataW.trod_bool Try.underlying4 g8
    rw [hcs] at hn
    rw [hcb] at hb
    match cs, hl with
    | [c0, c1, c2, c3, c4, c5, c6, c7, c8], _ =>
      simp at e0 e1 e2 hn e4 e5 e6 e7 hb
      subst e0 e1 e2 hn e4 e5 e6 e7 hb
      exact ⟨k, c, s, n, p, e, t, r, b, rfl, i0, i1, i2, hnl, i4, i5, i6, i7⟩
end
section
variable {H : Type} {enc : TypeId × Value → H} {W : World} {r : Reach} {b0 base : Nat} {spare : Nat → Bool} {held : Bool} {v : Value} {d : DataW H} {ps : List MemPlace}
set_option maxRecDepth 100000 in
theorem open_op (hval : Value.okWide Try.prog W r b0 33 v) (h : DataW.Trod enc Try.prog W base spare held 33 v d ps) : ∃ (k c s : Int) (n : ByteArray) (p e t r : Int) (b : Bool), v = .agg (opC k c s n p e t r b) ∧ inI k ∧ inI c ∧ inI s ∧ n.size ≤ maxLen ∧ inI p ∧ inI e ∧ inI t ∧ inI r := by
  obtain ⟨cs, rfl⟩ := okWide_struct Try.underlying33 hval
  obtain ⟨fuel, hf⟩ := h
  obtain ⟨k, c, s, n, p, e, t, r, b, hc, hi⟩ := op_cells hf
  exact ⟨k, c, s, n, p, e, t, r, b, congrArg Value.agg (Array.toList_inj.1 hc), hi⟩
end
end Go.Proofs.Ytoihfhlelbdboaa
namespace Go.Proofs.Ytoihfhlelbdboaa.coordNumbers
open Go.ChangeShapes Go.WideShapes Go.ChangeAt Go.RowKit Go.Dig
open Go.ChangeMaps (open_string shut_string)
set_option linter.unusedVariables false

theorem laidOut : laidOutB Try.prog = true := by kernel_rfl
theorem own : ownKnob Try.prog.godebug = none := by kernel_rfl

set_option maxRecDepth 100000 in
theorem lifted (os : Os) (started : os.Started) (H : Type) (enc : TypeId × Value → H) :
    ReturnsInHanded {} Try.checked os 8 .any (Rows.coordNumbersSpec.pre6 enc Try.prog Try.f8 Rows.coordNumbersRow.domain false) (Rows.coordNumbersSpec.post enc Try.prog Try.f8 false true false false) := by
  refine returnsInHanded_of_change (C := Try.checked) own started (by kernel_rfl) Try.func8
    (ChangeSpec.witness6 (enc := enc) (C := Try.checked) false ⟨#[], #[.int .i64 0, .int .i64 0], []⟩ 8 (by kernel_rfl) (by kernel_rfl) (by kernel_rfl) (by kernel_rfl)) ?_
  intro W base args ds gs before hval0 hW hcnd _
  have hval : ∀ (j : Nat) t v, Try.f8.params[j]? = some t → args[j]? = some v → Value.okWide Try.prog W .any base t v := hval0
  have hW' := hW
  obtain ⟨p, q, hA0, hV, rfl, hfz, hnd⟩ := hW
  have hA : DataW.TrodAll enc Try.prog W 0 (fun _ => true) true Try.f8.params.toList args.toList ds p := hA0
  rw [Try.params8] at hA hval
  obtain ⟨v0, vs0, d0, ds0, p0, q0, hargs, rfl, rfl, h0, r0⟩ := trodAll_cons hA
  obtain ⟨v1, vs1, d1, ds1, p1, q1, rfl, rfl, rfl, h1, r1⟩ := trodAll_cons r0
  obtain ⟨rfl, rfl, rfl⟩ := trodAll_nil r1
  obtain rfl : args = #[v0, v1] := by cases args; simp_all
  obtain ⟨rfl, rfl⟩ := trodVars_none hV
  obtain ⟨a0, rfl, rfl, rfl, w0⟩ := open_int Try.underlying3 (hval 0 3 v0 rfl rfl) h0
  have b0 := wf_i64 w0
  obtain ⟨a1, rfl, rfl, rfl, w1⟩ := open_int Try.underlying3 (hval 1 3 v1 rfl rfl) h1
  have b1 := wf_i64 w1
  clear hA0 hval0
  refine (Numbers_law W a0 a1).mono fun e W' ⟨he, bel⟩ => ?_
  subst he
  exact ⟨_, rfl, _, _, _, [], _, [], hW', trodAll_mk1 (shut_bool Try.underlying4 _), (trodAll_cons_mk (shut_int Try.underlying3 w0) (trodAll_cons_mk (shut_int Try.underlying3 w1) trodAll_mk0)), rfl, bel.frame _, fun h => by cases h⟩

theorem over : Rows.coordNumbersRow.holds Try.pinned (OpenSpec.ofChange Rows.coordNumbersSpec) :=
  OpenClaim.holds_of_wide 8 Try.f8 rfl rfl rfl rfl rfl rfl rfl ⟨rfl, rfl, rfl, rfl, rfl⟩ rfl rfl rfl rfl rfl (by kernel_rfl) Try.func8 (by kernel_rfl)
    (of_decide_eq_true (by kernel_rfl)) (by unfold Func.isWrapper; first | (rw [if_pos (by decide +kernel)]; kernel_rfl) | (rw [if_neg (by decide +kernel)]; exact ⟨rfl, rfl⟩))
    (fun os started H enc _ => lifted os started H enc)

theorem proved : Rows.CoordNumbersSaid := over
#print axioms proved
end Go.Proofs.Ytoihfhlelbdboaa.coordNumbers
