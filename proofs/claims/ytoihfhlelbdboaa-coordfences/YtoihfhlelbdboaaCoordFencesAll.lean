/- coord: behind a new epoch nothing of an elder one is taken. -/
import Derived.Test.YtoihfhlelbdboaaCoX
import Derived.Laws.StructEq
import Derived.Test.YtoihfhlelbdboaaRows
import Derived.Test.YtoihfhlelbdboaaCoF
import Derived.ProofKit
import Derived.OpenShut
import Derived.ShutString
import Derived.ChangeOld
import Derived.Deep.Slices
namespace Go.Proofs.Ytoihfhlelbdboaa
open Go.RowKit Go.Dig Go.Inv Go.Oct Go.Hold
set_option linter.unusedVariables false
set_option linter.unusedSimpArgs false

def coC (a b : Option Addr) : Array Value := #[.pointer a, .pointer b, .slice none 0 0, .int .i64 0]
theorem coS_none (w : World) (cb pb rb : Nat) (hc : w.heap[cb]? = some (.cells (coC (some ⟨pb, 0, none⟩) (some ⟨rb, 0, none⟩)) 56 (0, 0))) (hp : Pp.Tab w pb []) (hr : Rp.Tab w rb []) (h1 : cb ≠ pb) (h2 : cb ≠ rb) (h3 : pb ≠ rb) :
    CoS (fun k => if k = cb then some .co else if k = pb then some .tp else if k = rb then some .tr else none) w cb Co.none pb rb (.slice none 0 0) [] := by
  refine ⟨fun k l hk => ?_, hc, by simp, by simp [h1.symm], by simp [h2.symm, h3.symm], hp, hr, OwnM.nil _ _, fun k hk => (by cases hk), rfl, fun i p hi => by simp [Co.none] at hi⟩
  try dsimp only at hk
  split at hk
  · rename_i e; subst e; exact lt_blk hc
  · split at hk
    · rename_i e; subst e; exact hp.lt
    · split at hk
      · rename_i e; subst e; exact hr.lt
      · cases hk
set_option maxRecDepth 100000 in
set_option maxHeartbeats 1000000 in
theorem prepare_new (w : World) (cb : Nat) (hc : w.heap[cb]? = some (.cells (coC none none) 56 (0, 0))) :
    Calls Try.prog 18 #[.pointer (some ⟨cb, 0, none⟩)] w fun e w' => (∃ v, e = .returned v) ∧ ∃ pb rb, w'.heap[cb]? = some (.cells (coC (some ⟨pb, 0, none⟩) (some ⟨rb, 0, none⟩)) 56 (0, 0)) ∧ Pp.Tab w' pb [] ∧ Rp.Tab w' rb [] ∧ w.heap.size ≤ pb ∧ pb < rb ∧ Frm (· = cb) w w' := by
  have c0 : w.cell? ⟨cb, 0, none⟩ = some (.pointer none) := cell_blk hc 0
  have hcl := lt_blk hc
  go_enter Try.func18, Try.ntmps18
  go_wp2_with fail
  refine (Pp.New_any _).mono ?_
  rintro e w1 ⟨rfl, hT1, hB1⟩
  have hb1 := (hB1.block _ hcl).trans hc
  have d0 : w1.cell? ⟨cb, 0, none⟩ = some (.pointer none) := cell_blk hb1 0
  have f0 := frozen_blk hb1 0
  have hb2 := set_blk hb1 0 (.pointer (some ⟨w.heap.size, 0, none⟩))
  have hT2 : Pp.Tab (w1.setCell ⟨cb, 0, none⟩ (.pointer (some ⟨w.heap.size, 0, none⟩))) w.heap.size [] := hT1.frmL (Frm.setCell _ _ _ _) (by omega) (fun k e z => by subst e; rw [cell_blk hb1]; simp [coC])
  have hF2 : Frm (· = cb) w (w1.setCell ⟨cb, 0, none⟩ (.pointer (some ⟨w.heap.size, 0, none⟩))) := (Frm.of_below hB1).trans (Frm.setCell _ _ _ _)
  obtain ⟨w2, HW2⟩ : ∃ w2, Hid (w1.setCell ⟨cb, 0, none⟩ (.pointer (some ⟨w.heap.size, 0, none⟩)) = w2) := ⟨_, rfl⟩
  rw [HW2.out] at hb2 hT2 hF2
  have HT2 : Hid (Pp.Tab w2 w.heap.size []) := hT2
  have HF2 : Hid (Frm (· = cb) w w2) := hF2
  have HB2 : Hid (w2.heap[cb]? = some (.cells (coC (some ⟨w.heap.size, 0, none⟩) none) 56 (0, 0))) := hb2
  clear hT2 hF2 hb2 hT1 hB1 hb1 c0 hc
  go_wp2_with (rw [HW2.out])
  refine (Rp.New_any _).mono ?_
  rintro e w3 ⟨rfl, hT3, hB3⟩
  have hb3 := (hB3.block _ (lt_blk HB2.out)).trans HB2.out
  have d1 : w3.cell? ⟨cb, 1, none⟩ = some (.pointer none) := cell_blk hb3 1
  have f1 := frozen_blk hb3 1
  have hne : w2.heap.size ≠ cb := by have := lt_blk HB2.out; omega
  have hsz : w.heap.size < w2.heap.size := HT2.out.lt
  have hpc : w.heap.size ≠ cb := by omega
  clear d0 f0
  go_wp2_with fail
  have hlo : ∀ k, k = cb → (∀ z, w3.cell? ⟨k, 3, none⟩ ≠ some (.pointer z)) ∧ ∀ z, w3.cell? ⟨k, 5, none⟩ ≠ some (.pointer z) := fun k e => by
    subst e
    exact ⟨fun z => by rw [cell_blk hb3]; simp [coC], fun z => by rw [cell_blk hb3]; simp [coC]⟩
  exact bodyPost_end (v := .tuple #[]) (by simp [results, Try.results18, go_sem]) rfl ⟨⟨_, rfl⟩, w.heap.size, w2.heap.size, set_blk hb3 1 (.pointer (some ⟨w2.heap.size, 0, none⟩)), (HT2.out.grow hB3).frmL (Frm.setCell _ _ _ _) hpc (fun k e => (hlo k e).1), hT3.frmL (Frm.setCell _ _ _ _) hne (fun k e => (hlo k e).2), Nat.le_refl _, hsz, (HF2.out.trans (Frm.of_below hB3)).trans (Frm.setCell _ _ _ _)⟩
set_option maxRecDepth 100000 in
set_option maxHeartbeats 1000000 in
theorem New_at (w : World) : Calls Try.prog 10 #[] w fun e w' => ∃ own, e = .returned (.pointer (some ⟨w.heap.size, 0, none⟩)) ∧ CoAt own w' w.heap.size Co.none ∧ Over w.heap.size own ∧ Below w.heap.size w w' := by
  have hB0 := below_alloc w (.cells (coC none none) 56)
  have hc : (w.alloc (.cells (coC none none) 56)).heap[w.heap.size]? = some (.cells (coC none none) 56 (0, 0)) := alloc_blk _ _
  go_enter Try.func10, Try.ntmps10
  go_wp2_with (first | (refine wpList_build_to rfl 56 _ rfl (coC none none) (by kernel_rfl) ?_) | (refine wpList_box_row rfl 56 _ rfl (coC none none) ?_ ?_; rfl) | (go_at_call 18; refine (prepare_new _ w.heap.size hc).mono ?_; rintro e w1 ⟨⟨v1, rfl⟩, pb, rb, h1, h2, h3, h4, h5, h6⟩))
  have hs : (w.alloc (.cells (coC none none) 56)).heap.size = w.heap.size + 1 := by simp
  go_ret
  refine ⟨_, rfl, ⟨pb, rb, _, [], coS_none w1 w.heap.size pb rb h1 h2 h3 (by omega) (by omega) (by omega)⟩, fun k l hk => ?_, hB0.trans (h6.below (by omega) (fun k hk e => by omega))⟩
  try dsimp only at hk
  split at hk
  · omega
  · split at hk
    · omega
    · split at hk
      · omega
      · cases hk
end Go.Proofs.Ytoihfhlelbdboaa
namespace Go.Proofs.Ytoihfhlelbdboaa
open Go.RowKit Go.Dig Go.Inv Go.Oct Go.Hold
set_option linter.unusedVariables false
set_option linter.unusedSimpArgs false

def Mk.eqB (m n : Mk) : Bool := m.k == n.k && (m.p == n.p && (m.e == n.e && m.t == n.t))
def rpE (r s : Rp.Rp3) : Bool := r.err == s.err && (r.pr == s.pr && r.ep == s.ep)
theorem Mk.eqB_self (m : Mk) : m.eqB m = true := by simp [Mk.eqB]
theorem rpE_self (r : Rp.Rp3) : rpE r r = true := by simp [rpE]
theorem equal_mk (m n : Mk) (w : World) : (Op.equalIn 10000 36 (.agg m.cells) (.agg n.cells)).run Try.prog w = .ok (m.eqB n) w := by
  have h := run_equalIn_struct (P := Try.prog) w 9999 36 m.cells n.cells (by kernel_rfl) (by kernel_rfl)
  refine h.trans ?_
  have hf : (Try.prog.fieldsOf 36).toList.map (fun f => (f.type, f.offset)) = [(3, 0), (3, 1), (3, 2), (3, 3)] := by kernel_rfl
  clear h hf
  simp [Op.eqFields, Mk.cells, Mk.eqB, go_sem]
  repeat' split
  all_goals simp_all
theorem equal_rp (r s : Rp.Rp3) (w : World) : (Op.equalIn 10000 28 (.agg (rpC r)) (.agg (rpC s))).run Try.prog w = .ok (rpE r s) w := by
  have h := run_equalIn_struct (P := Try.prog) w 9999 28 (rpC r) (rpC s) (by kernel_rfl) (by kernel_rfl)
  refine h.trans ?_
  have hf : (Try.prog.fieldsOf 28).toList.map (fun f => (f.type, f.offset)) = [(26, 0), (3, 1), (3, 2)] := by kernel_rfl
  clear h hf
  simp [Op.eqFields, rpC, rpE, go_sem]
  repeat' split
  all_goals simp_all
/-- Apply of one that may be, its answer known -/
theorem apply_lit (own : Own) (w : World) (cb : Nat) (x : Co) (n : Nat) (h : CoAt own w cb x) (o : OpF) (hin : o.In) (hi : x.Inv n) (hn : n ≤ 1000) (hb : o.ok = true) (r : Rp.Rp3) (ms : List Mk) (x' : Co) (hx : x.apply true o = (r, ms, x')) :
    Calls Try.prog 11 #[.pointer (some ⟨cb, 0, none⟩), .agg o.cells] w fun e w' => ApR own w cb r ms x' e w' ∧ x'.Inv (n + 1) := by
  refine (apply_at own w cb x n h o hin.wide hi hn).mono fun e w' h => ?_
  rw [hb, hx] at h
  have := hi.apply true o
  rw [hx] at this
  exact ⟨h, this⟩
def op1 : OpF := ⟨1, 0, 0, ⟨#[97]⟩, 0, 0, 0, 0, false⟩
def op2 : OpF := ⟨2, 0, 1, ⟨#[]⟩, 0, 0, 1, 0, false⟩
def op3 : OpF := ⟨3, 0, 2, ⟨#[]⟩, 0, 0, 1, 0, true⟩
def co1 : Co := ⟨[⟨⟨#[97]⟩, 0, [], none⟩], [(0, ⟨0, 0, 0⟩)], [⟨1, 0, 0, 0⟩], 0⟩
def co2 : Co := ⟨[⟨⟨#[97]⟩, 0, [], some (0, [true, false, false, false])⟩], [(0, ⟨0, 0, 0⟩), (1, ⟨0, 0, 0⟩)], [⟨1, 0, 0, 0⟩], 0⟩
def co3 : Co := ⟨[⟨⟨#[97]⟩, 0, [2], none⟩], [(0, ⟨0, 0, 0⟩), (1, ⟨0, 0, 0⟩), (2, ⟨0, 0, 0⟩)], [⟨1, 0, 0, 0⟩, ⟨2, 0, 0, 1⟩], 0⟩
theorem op1_in : op1.In := by constructor <;> simp [op1, inI] <;> decide
theorem op2_in : op2.In := by constructor <;> simp [op2, inI] <;> decide
theorem op3_in : op3.In := by constructor <;> simp [op3, inI] <;> decide
theorem op1_ok : op1.ok = true := by kernel_rfl
theorem op2_ok : op2.ok = true := by kernel_rfl
theorem op3_ok : op3.ok = true := by kernel_rfl
theorem co1_eq : Co.none.apply true op1 = (⟨0, 0, 0⟩, [⟨1, 0, 0, 0⟩], co1) := by kernel_rfl
theorem co2_eq : co1.apply true op2 = (⟨0, 0, 0⟩, [], co2) := by kernel_rfl
theorem co3_eq : co2.apply true op3 = (⟨0, 0, 0⟩, [⟨2, 0, 0, 1⟩], co3) := by kernel_rfl
end Go.Proofs.Ytoihfhlelbdboaa
namespace Go.Proofs.Ytoihfhlelbdboaa
open Go.RowKit Go.Dig Go.Inv Go.Oct Go.Hold
set_option linter.unusedVariables false
set_option linter.unusedSimpArgs false

/-- a block without a label lies on -/
theorem Step.keep {P : Lab → Prop} {own own' : Own} {w w' : World} (h : Step P own own' w w') {k : Nat} {o : Obj} (hk : w.heap[k]? = some o) (hn : own k = none) : w'.heap[k]? = some o :=
  (h.block (lt_blk hk) fun l e => by rw [hn] at e; cases e).trans hk
theorem Step.unlab {P : Lab → Prop} {own own' : Own} {w w' : World} (h : Step P own own' w w') {k : Nat} {o : Obj} (hk : w.heap[k]? = some o) (hn : own k = none) : own' k = none := (h.old k (lt_blk hk)).trans hn
theorem CoAt.owned {own : Own} {w : World} {cb : Nat} {x : Co} (h : CoAt own w cb x) : Owned own w := by obtain ⟨_, _, _, _, h⟩ := h; exact h.owned
theorem Owned.fresh {own : Own} {w : World} (h : Owned own w) {k : Nat} (hk : w.heap.size ≤ k) : own k = none := by
  cases hh : own k with
  | none => rfl
  | some l => have := h k l hh; omega
/-- a row of marks, cell by cell -/
theorem OwnM.cell1 {w : World} {base : Nat} {v : Value} {m : Mk} (h : OwnM w base v [m]) : ∃ g c, v = .slice (some ⟨g, 0, none⟩) 1 c ∧ base ≤ g ∧ ∀ j u, (mkC [m])[j]? = some u → w.cell? ⟨g, j, none⟩ = some u := by
  obtain ⟨ao, c, rfl⟩ := h.form
  rcases h.1.2 with ⟨e, h0⟩ | ⟨g, cap, cur, e, hb, _⟩
  · simp at h0
  · cases e
    refine ⟨g, c, rfl, hb, fun j u hu => ?_⟩
    have := h.cells.2 j u hu
    rwa [addr_add, Nat.zero_add] at this
set_option maxRecDepth 100000 in
set_option maxHeartbeats 4000000 in
theorem known_at (w : World) : Calls Try.prog 15 #[] w fun e w' => e = .returned (.bool true) ∧ Below w.heap.size w w' := by
  go_enter Try.func15, Try.ntmps15
  go_wp2_with (first | (refine wpList_build_to rfl 33 #[(0, .const (.int .i64 1)), (3, .const (.string ⟨#[97]⟩))] rfl op1.cells (by kernel_rfl) ?_) | (go_at_call 10; refine (New_at _).mono ?_; rintro e w1 ⟨own1, rfl, h1, ho1, hB1⟩) | (go_at_call 11; refine (apply_lit own1 _ _ Co.none 0 h1 op1 op1_in Co.inv_none (by omega) op1_ok _ _ _ co1_eq).mono ?_; rintro e w2 ⟨⟨v2, own2, rfl, hO2, hl2, hC2, hS2⟩, hI2⟩) | (refine wpList_alloc_row rfl 28 rfl (rpC rp0) (by kernel_rfl) ?_) | (refine wpList_store_whole rfl 28 _ _ rfl w2.heap.size (rpC ⟨0, 0, 0⟩) (rpC rp0) ?_ ?_ 28 (alloc_blk _ _) (by kernel_rfl) (rpC_all _) rfl ?_; rfl; rfl))
  intro w3 h3 hK3
  have hB3 : Below w2.heap.size w2 w3 := (below_alloc _ _).trans (hK3.below (Nat.le_refl _) (by simp))
  have hO2' := ho1.step hS2 hB1.size
  have hBt2 : Below w.heap.size w w2 := hB1.trans (ho1.below hS2 hB1.size)
  obtain ⟨g2, n2, rfl, hg2, hc2⟩ := hO2.cell1
  have hgl2 : g2 < w2.heap.size := (hO2.lt g2 rfl).2
  have hn2 : own2 g2 = none := hl2 g2 rfl
  have hz2 : own2 w2.heap.size = none := hC2.owned.fresh (Nat.le_refl _)
  have hC3 := hC2.below hB3
  clear hC2 hO2 hl2 h1 hS2 ho1
  go_wp2_with (first | (refine wpList_build_to rfl 33 #[(0, .const (.int .i64 2)), (2, .const (.int .i64 1)), (6, .const (.int .i64 1))] rfl op2.cells (by kernel_rfl) ?_) | (refine wpList_build_to rfl 33 #[(0, .const (.int .i64 3)), (2, .const (.int .i64 2)), (6, .const (.int .i64 1)), (8, .const (.bool true))] rfl op3.cells (by kernel_rfl) ?_) | (go_at_call 11; refine (apply_lit own2 _ _ co1 1 hC3 op2 op2_in hI2 (by omega) op2_ok _ _ _ co2_eq).mono ?_; rintro e w4 ⟨⟨v4, own4, rfl, hO4, hl4, hC4, hS4⟩, hI4⟩; have hL4 : w.heap.size ≤ w3.heap.size := Nat.le_trans hBt2.size hB3.size; have hBt4 := (hBt2.trans (hB3.mono hBt2.size)).trans ((hO2'.below hS4 hL4)); have h4 := hS4.keep h3 hz2; have hO4' := hO2'.step hS4 hL4; have hn4 := (hS4.old g2 (Nat.lt_of_lt_of_le hgl2 hB3.size)).trans hn2; have hz4 := (hS4.old _ (lt_blk h3)).trans hz2; have hE4 : ∀ j, w4.cell? ⟨g2, j, none⟩ = w2.cell? ⟨g2, j, none⟩ := fun j => (World.cell?_of_block (a := ⟨g2, j, none⟩) (hS4.block (Nat.lt_of_lt_of_le hgl2 hB3.size) fun l e => by rw [hn2] at e; cases e)).trans (World.cell?_of_block (a := ⟨g2, j, none⟩) (hB3.block g2 hgl2)); clear hS4 hC3 hI2) | (go_at_call 11; refine (apply_lit own4 _ _ co2 2 hC4 op3 op3_in hI4 (by omega) op3_ok _ _ _ co3_eq).mono ?_; rintro e w6 ⟨⟨v6, own6, rfl, hO6, hl6, hC6, hS6⟩, hI6⟩) | (refine wpList_alloc_row rfl 28 rfl (rpC rp0) (by kernel_rfl) ?_) | (refine wpList_store_whole rfl 28 _ _ rfl w6.heap.size (rpC ⟨0, 0, 0⟩) (rpC rp0) ?_ ?_ 28 (alloc_blk _ _) (by kernel_rfl) (rpC_all _) rfl ?_; rfl; rfl))
  intro w7 h7 hK7
  have hB7 : Below w6.heap.size w6 w7 := (below_alloc _ _).trans (hK7.below (Nat.le_refl _) (by simp))
  have hL4 : w.heap.size ≤ w4.heap.size := hBt4.size
  have hBt6 : Below w.heap.size w w6 := hBt4.trans (hO4'.below hS6 hL4)
  have hBt7 : Below w.heap.size w w7 := hBt6.trans (hB7.mono hBt6.size)
  obtain ⟨g6, n6, rfl, hg6, hc6⟩ := hO6.cell1
  have hgl6 : g6 < w6.heap.size := (hO6.lt g6 rfl).2
  have hcl4 : g2 < w4.heap.size := by have := lt_blk h4; omega
  have hh : w7.heap[w2.heap.size]? = some (.cells (rpC ⟨0, 0, 0⟩) 28 (0, 0)) := (hB7.block _ (Nat.lt_of_lt_of_le (lt_blk h4) hS6.size)).trans (hS6.keep h4 hz4)
  have r0 : w7.cell? ⟨w2.heap.size, 0, none⟩ = some (.int .i64 0) := cell_blk hh 0
  have m0 : w7.cell? ⟨g2, 0, none⟩ = some (.int .i64 1) := by
    refine (hB7.cell (p := ⟨g2, 0, none⟩) (Nat.lt_of_lt_of_le hcl4 hS6.size)).trans ((World.cell?_of_block (a := ⟨g2, 0, none⟩) (hS6.block hcl4 fun l e => by rw [hn4] at e; cases e)).trans ((hE4 0).trans (hc2 0 _ rfl)))
  have n0 : ∀ j u, (mkC [⟨2, 0, 0, 1⟩])[j]? = some u → w7.cell? ⟨g6, j, none⟩ = some u := fun j u hu => (hB7.cell (p := ⟨g6, j, none⟩) hgl6).trans (hc6 j u hu)
  have q0 : w7.cell? ⟨g6, 0, none⟩ = some (.int .i64 2) := n0 0 _ rfl
  have q1 : w7.cell? ⟨g6, 1, none⟩ = some (.int .i64 0) := n0 1 _ rfl
  have q2 : w7.cell? ⟨g6, 2, none⟩ = some (.int .i64 0) := n0 2 _ rfl
  have q3 : w7.cell? ⟨g6, 3, none⟩ = some (.int .i64 1) := n0 3 _ rfl
  clear n0 hc6
  clear hB7 hK7 h7 hC6 hS6 hI6 hO6 hl6 hO4' hC4 hO4 hl4 hI4 hE4 hBt4 hBt6 h4 hz4 hn4 hh hB3 hK3 h3 hc2 hn2 hz2 hO2'
  go_wp2_with fail
  go_ret
  exact ⟨rfl, hBt7⟩
end Go.Proofs.Ytoihfhlelbdboaa
namespace Go.Proofs.Ytoihfhlelbdboaa
open Go.ChangeShapes Go.WideShapes Go.ChangeAt Go.RowKit Go.Dig Go.Deep

theorem wf_i64 {n : Int} (h : (Lit.int .i64 n).wf = true) : -9223372036854775808 ≤ n ∧ n ≤ 9223372036854775807 := by
  simp [Lit.wf, IntKind.min, IntKind.max, IntKind.signed, IntKind.bits] at h; omega
theorem inI_of {n : Int} (h : (Lit.int .i64 n).wf = true) : inI n := wf_i64 h
set_option maxRecDepth 100000 in
theorem okWide_struct {w : World} {r : Reach} {base : Nat} {t : TypeId} {v : Value} {fs : Array Field} (ht : Try.prog.underlying t = some (.struct fs)) (h : Value.okWide Try.prog w r base t v) : ∃ cs, v = .agg cs := by
  simp only [Value.okWide, ht] at h
  obtain ⟨cs, h1, _⟩ := h
  exact ⟨cs, h1⟩
section
variable {H : Type} {enc : TypeId × Value → H} {W : World} {base : Nat} {spare : Nat → Bool} {held : Bool} {fuel : Nat} {cs : List Value} {x : DataW H × List MemPlace}
theorem int_cell (o : Nat) (h : DataW.trod enc Try.prog W base spare held fuel 3 ((cs.drop o).take (Try.prog.cellsOf 3)) = some x) : ∃ z : Int, cs[o]? = some (.int .i64 z) ∧ inI z := by
  have hc : Try.prog.cellsOf 3 = 1 := by kernel_rfl
  obtain ⟨z, e, _, hw⟩ := DataW.trod_int Try.underlying3 h
  rw [hc] at e
  refine ⟨z, ?_, inI_of hw⟩
  have := congrArg (fun l => l[0]?) e
  simpa [List.getElem?_take, List.getElem?_drop] using this
end
section
variable {H : Type} {enc : TypeId × Value → H} {W : World} {base : Nat} {spare : Nat → Bool} {held : Bool} {fuel : Nat} {cs : List Value} {x : DataW H × List MemPlace}
set_option maxRecDepth 100000 in
/-- an operation's cells -/
theorem op_cells (h : DataW.trod enc Try.prog W base spare held fuel 33 cs = some x) : ∃ (k c s : Int) (n : ByteArray) (p e t r : Int) (b : Bool), cs = (opC k c s n p e t r b).toList ∧ inI k ∧ inI c ∧ inI s ∧ n.size ≤ maxLen ∧ inI p ∧ inI e ∧ inI t ∧ inI r := by
  obtain ⟨xs, m, _, rfl, hl, hlen, hf⟩ := DataW.trod_struct Try.underlying33 h
  have hc : Try.prog.cellsOf 33 = 9 := by kernel_rfl
  have hcs : Try.prog.cellsOf 9 = 1 := by kernel_rfl
  have hcb : Try.prog.cellsOf 4 = 1 := by kernel_rfl
  rw [hc] at hl
  match xs, hlen with
  | [y0, y1, y2, y3, y4, y5, y6, y7, y8], _ =>
    obtain ⟨k, e0, i0⟩ := int_cell 0 (hf 0 _ rfl)
    obtain ⟨c, e1, i1⟩ := int_cell 1 (hf 1 _ rfl)
    obtain ⟨s, e2, i2⟩ := int_cell 2 (hf 2 _ rfl)
    have g3 : DataW.trod enc Try.prog W base spare held m 9 ((cs.drop 3).take (Try.prog.cellsOf 9)) = some y3 := hf 3 _ rfl
    obtain ⟨p, e4, i4⟩ := int_cell 4 (hf 4 _ rfl)
    obtain ⟨e, e5, i5⟩ := int_cell 5 (hf 5 _ rfl)
    obtain ⟨t, e6, i6⟩ := int_cell 6 (hf 6 _ rfl)
    obtain ⟨r, e7, i7⟩ := int_cell 7 (hf 7 _ rfl)
    have g8 : DataW.trod enc Try.prog W base spare held m 4 ((cs.drop 8).take (Try.prog.cellsOf 4)) = some y8 := hf 8 _ rfl
    obtain ⟨n, hn, _, hnl⟩ := DataW.trod_string Try.underlying9 g3
    obtain ⟨b, hb, _⟩ := DataW.trod_bool Try.underlying4 g8
    rw [hcs] at hn
    rw [hcb] at hb
    match cs, hl with
    | [c0, c1, c2, c3, c4, c5, c6, c7, c8], _ =>
      simp at e0 e1 e2 hn e4 e5 e6 e7 hb
      subst e0 e1 e2 hn e4 e5 e6 e7 hb
      exact ⟨k, c, s, n, p, e, t, r, b, rfl, i0, i1, i2, hnl, i4, i5, i6, i7⟩
end
section
variable {H : Type} {enc : TypeId × Value → H} {W : World} {r : Reach} {b0 base : Nat} {spare : Nat → Bool} {held : Bool} {v : Value} {d : DataW H} {ps : List MemPlace}
set_option maxRecDepth 100000 in
theorem open_op (hval : Value.okWide Try.prog W r b0 33 v) (h : DataW.Trod enc Try.prog W base spare held 33 v d ps) : ∃ (k c s : Int) (n : ByteArray) (p e t r : Int) (b : Bool), v = .agg (opC k c s n p e t r b) ∧ inI k ∧ inI c ∧ inI s ∧ n.size ≤ maxLen ∧ inI p ∧ inI e ∧ inI t ∧ inI r := by
  obtain ⟨cs, rfl⟩ := okWide_struct Try.underlying33 hval
  obtain ⟨fuel, hf⟩ := h
  obtain ⟨k, c, s, n, p, e, t, r, b, hc, hi⟩ := op_cells hf
  exact ⟨k, c, s, n, p, e, t, r, b, congrArg Value.agg (Array.toList_inj.1 hc), hi⟩
end
end Go.Proofs.Ytoihfhlelbdboaa
namespace Go.Proofs.Ytoihfhlelbdboaa
open Go.ChangeShapes Go.WideShapes Go.ChangeAt Go.RowKit Go.Dig Go.Inv Go.Oct Go.Hold Go.Deep
set_option linter.unusedVariables false
set_option linter.unusedSimpArgs false

/-- a row of operations -/
def OpsAt (w : World) (a : Option Addr) (L : List OpF) : Prop := L ≠ [] → ∃ b o, a = some ⟨b, o, none⟩ ∧ ∀ (j : Nat) (x : OpF), L[j]? = some x → ∀ i, i < 9 → w.cell? ⟨b, o + j * 9 + i, none⟩ = x.cells[i]?
theorem cells_op : Try.prog.cellsOf 33 = 9 := by kernel_rfl
theorem OpF.cells_none (x : OpF) {i : Nat} (h : ¬ i < 9) : x.cells[i]? = none := by
  rw [Array.getElem?_eq_none_iff]; simp [OpF.cells, opC]; omega
theorem OpsAt.below {w w' : World} {B : Nat} {a : Option Addr} {L : List OpF} (h : OpsAt w a L) (hB : Below B w w') (hl : ∀ x : Addr, a = some x → x.block < B) : OpsAt w' a L := fun hn => by
  obtain ⟨b, o, rfl, hc⟩ := h hn
  exact ⟨b, o, rfl, fun j x hx i hi => (hB.cell (p := ⟨b, o + j * 9 + i, none⟩) (hl ⟨b, o, none⟩ rfl : b < B)).trans (hc j x hx i hi)⟩
theorem op_add_add (a : Addr) (i j : Nat) : (a.add i).add j = a.add (i + j) := by
  unfold Addr.add
  by_cases hi : i = 0
  · subst hi; simp
  · by_cases hj : j = 0
    · subst hj; simp [hi]
    · simp [hi, hj, Nat.add_assoc]
def OpF.zero : OpF := ⟨0, 0, 0, ⟨#[]⟩, 0, 0, 0, 0, false⟩
section
variable {H : Type} {enc : TypeId × Value → H} {W : World} {base : Nat} {spare : Nat → Bool} {held : Bool} {fuel : Nat} {cs : List Value} {x : DataW H × List MemPlace}
theorem ops_cells {a : Option Addr} {len cap : Nat} (h : DataW.trod enc Try.prog W base spare held fuel 22 [.slice a len cap] = some x) : ∃ L : List OpF, len = L.length ∧ OpsAt W a L ∧ (∀ o ∈ L, o.Wide) := by
  rcases open_slice Try.underlying22 h with ⟨hcs, _⟩ | ⟨ad, l, c, m, n, D, Pl, hcs, _, hl, hm, hmm, _, hx⟩
  · simp at hcs
    obtain ⟨rfl, rfl, rfl⟩ := hcs
    exact ⟨[], rfl, fun hp => absurd rfl hp, fun y hy => by cases hy⟩
  · simp at hcs
    obtain ⟨rfl, rfl, rfl⟩ := hcs
    have hlm : len ≤ m := by rw [hmm]; split <;> omega
    have each : ∀ i, i < len → ∃ y : OpF, (∀ j, j < 9 → W.cell? (ad.add (i * 9 + j)) = y.cells[j]?) ∧ y.Wide := by
      intro i hi
      obtain ⟨cs', h1, h2⟩ := hx i (by omega)
      rw [cells_op] at h1
      obtain ⟨_, hlen, hcell⟩ := World.cells?_some h1
      obtain ⟨k, c, s, n, p, e, t, r, b, hy, i0, i1, i2, i3, i4, i5, i6, i7⟩ := op_cells h2
      refine ⟨⟨k, c, s, n, p, e, t, r, b⟩, fun j hj => ?_, ⟨i0, i1, i2, i4, i5, i6, i7, Nat.lt_of_le_of_lt (show n.size ≤ 2 ^ 63 - 1 from i3) (by decide)⟩⟩
      have hc := hcell j hj
      rw [hy, Array.getElem?_toList] at hc
      rw [← op_add_add]
      exact hc.symm ▸ rfl
    obtain ⟨f, hf, hfw⟩ : ∃ f : Nat → OpF, (∀ i, i < len → ∀ j, j < 9 → W.cell? (ad.add (i * 9 + j)) = (f i).cells[j]?) ∧ ∀ i, i < len → (f i).Wide := by
      refine ⟨fun i => if h : i < len then (each i h).choose else OpF.zero, fun i hi => ?_, fun i hi => ?_⟩
      · simp only [dif_pos hi]
        exact (each i hi).choose_spec.1
      · simp only [dif_pos hi]
        exact (each i hi).choose_spec.2
    refine ⟨(List.range len).map f, by simp, fun hp => ?_, fun y hy => ?_⟩
    · have h0 : 0 < len := by
        have := List.length_pos_iff.2 hp
        simpa using this
      obtain ⟨g, off, sp⟩ := ad
      have hs : sp = none := by
        have h0 := hf 0 (by omega) 0 (by omega)
        have := spot_none h0
        simpa [Addr.add] using this
      subst hs
      refine ⟨g, off, rfl, fun j x hx i hi => ?_⟩
      have hj' : j < len := by
        have := (List.getElem?_eq_some_iff.1 hx).1
        simpa using this
      have e : x = f j := by
        rw [List.getElem?_map, List.getElem?_range hj'] at hx
        simpa using hx.symm
      subst e
      have := hf j hj' i hi
      rw [addr_add, ← Nat.add_assoc] at this
      exact this
    · obtain ⟨i, hi, rfl⟩ := List.mem_map.1 hy
      exact hfw i (by simpa using hi)
end
set_option maxRecDepth 100000 in
set_option maxHeartbeats 4000000 in
/-- whether operations are long: it answers, and leaves all as it is -/
theorem long_at (w : World) (a : Option Addr) (cap : Nat) (L : List OpF) (hL : OpsAt w a L) : Calls Try.prog 9 #[.slice a L.length cap] w fun e w' => (∃ b, e = .returned (.bool b)) ∧ w' = w := by
  go_enter Try.func9, Try.ntmps9
  go_wp2
  go_loopw [3, 4] (fun nv iv wr => ∃ (i : Nat) (N : Int), i ≤ L.length ∧ i ≤ 80 ∧ iv = .int .i64 (i : Int) ∧ nv = .int .i64 N ∧ wr = w) (fun _ iv _ => 80 - (intOf iv).toNat)
  case atStart => exact ⟨0, 0, Nat.zero_le _, Nat.zero_le _, rfl, rfl, rfl⟩
  case round =>
    obtain ⟨i, N, hi, h80, rfl, rfl, rfl⟩ := hrel
    by_cases hlt : i < L.length
    · by_cases h79 : i < 80
      · obtain ⟨b, o, rfl, hcell⟩ := hL (by rintro rfl; simp at hlt)
        obtain ⟨x, hx⟩ : ∃ x, L[i]? = some x := ⟨L[i], List.getElem?_eq_getElem hlt⟩
        have c3 : wr.cell? ⟨b, o + i * 9 + 3, none⟩ = some (.string x.n) := hcell i x hx 3 (by decide)
        have hlt' : (i : Int) < (L.length : Int) := by omega
        have h79' : (i : Int) < 80 := by omega
        clear hcell hL hx
        go_wp2
        · go_ret
          exact ⟨⟨_, rfl⟩, rfl⟩
        · exact ⟨⟨i + 1, _, by omega, by omega, by go_num, rfl, trivial⟩, by simp [intOf]; omega⟩
      · obtain rfl : i = 80 := by omega
        have hlt' : ((80 : Nat) : Int) < (L.length : Int) := by omega
        go_wp2
        go_ret
        exact ⟨⟨_, rfl⟩, rfl⟩
    · obtain rfl : i = L.length := by omega
      go_wp2
      go_ret
      exact ⟨⟨_, rfl⟩, rfl⟩
/-- the cells of one of a row -/
theorem OpsAt.get {w : World} {a : Option Addr} {L : List OpF} (h : OpsAt w a L) {i : Nat} {x : OpF} (hx : L[i]? = some x) : ∃ b o, a = some ⟨b, o, none⟩ ∧ w.cell? ⟨b, o + i * 9, none⟩ = some (.int .i64 x.k) ∧ w.cell? ⟨b, o + i * 9 + 1, none⟩ = some (.int .i64 x.c) ∧ w.cell? ⟨b, o + i * 9 + 2, none⟩ = some (.int .i64 x.s) ∧ w.cell? ⟨b, o + i * 9 + 3, none⟩ = some (.string x.n) ∧ w.cell? ⟨b, o + i * 9 + 4, none⟩ = some (.int .i64 x.p) ∧ w.cell? ⟨b, o + i * 9 + 5, none⟩ = some (.int .i64 x.e) ∧ w.cell? ⟨b, o + i * 9 + 6, none⟩ = some (.int .i64 x.t) ∧ w.cell? ⟨b, o + i * 9 + 7, none⟩ = some (.int .i64 x.r) ∧ w.cell? ⟨b, o + i * 9 + 8, none⟩ = some (.bool x.b) := by
  obtain ⟨b, o, e, hc⟩ := h (by rintro rfl; simp at hx)
  exact ⟨b, o, e, hc i x hx 0 (by decide), hc i x hx 1 (by decide), hc i x hx 2 (by decide), hc i x hx 3 (by decide), hc i x hx 4 (by decide), hc i x hx 5 (by decide), hc i x hx 6 (by decide), hc i x hx 7 (by decide), hc i x hx 8 (by decide)⟩
/-- all operations of a row are applied -/
def Co.all (x : Co) : List OpF → Co
  | [] => x
  | o :: r => ((x.apply o.ok o).2.2).all r
theorem Co.all_snoc : ∀ (x : Co) (l : List OpF) (o : OpF), x.all (l ++ [o]) = ((x.all l).apply o.ok o).2.2
  | x, [], o => rfl
  | x, a :: r, o => by simp only [List.cons_append, Co.all]; exact Co.all_snoc _ r o
theorem Co.all_inv : ∀ {x : Co} {n : Nat} (l : List OpF), x.Inv n → (x.all l).Inv (n + l.length)
  | x, n, [], h => h
  | x, n, a :: r, h => by
    have := Co.all_inv r (h.apply a.ok a)
    simp only [Co.all, List.length_cons]
    rw [show n + (r.length + 1) = n + 1 + r.length by omega]
    exact this
theorem take_snoc {L : List OpF} {j : Nat} {o : OpF} (h : L[j]? = some o) : L.take (j + 1) = L.take j ++ [o] := by
  rw [List.take_add_one, h]; rfl
end Go.Proofs.Ytoihfhlelbdboaa
namespace Go.Proofs.Ytoihfhlelbdboaa
open Go.RowKit Go.Dig Go.Inv Go.Oct Go.Hold
set_option linter.unusedVariables false
set_option linter.unusedSimpArgs false

/-- all keys lie below -/
def KeysLt (x : Co) (K : Int) : Prop := ∀ z ∈ x.rs, z.1 < K
theorem look_lt : ∀ {l : List (Int × Rp.Rp3)} {K : Int}, (∀ z ∈ l, z.1 < K) → lookL K l = none
  | [], K, h => rfl
  | (a, b) :: r, K, h => by
    unfold lookL
    have := h (a, b) (List.mem_cons_self ..)
    rw [if_neg (by simp at this; omega)]
    exact look_lt fun z hz => h z (List.mem_cons_of_mem _ hz)
theorem ins_mem {k : Int} {v : Rp.Rp3} : ∀ {l : List (Int × Rp.Rp3)} {z : Int × Rp.Rp3}, z ∈ insL k v l → z = (k, v) ∨ z ∈ l
  | [], z, h => by simp [insL] at h; exact .inl h
  | (a, b) :: r, z, h => by
    unfold insL at h
    split at h
    · rcases List.mem_cons.1 h with h | h
      · exact .inr (h ▸ List.mem_cons_self ..)
      · rcases ins_mem h with h | h
        · exact .inl h
        · exact .inr (List.mem_cons_of_mem _ h)
    · split at h
      · rcases List.mem_cons.1 h with h | h
        · exact .inl h
        · exact .inr (List.mem_cons_of_mem _ h)
      · rcases List.mem_cons.1 h with h | h
        · exact .inl h
        · exact .inr h
/-- one that was not applied ahead -/
theorem apply_new {x : Co} {o : OpF} (h : lookL o.key x.rs = none) : x.apply true o = ((x.run o).1, (x.run o).2.1, ⟨(x.run o).2.2.1, insL o.key (x.run o).1 x.rs, x.ms ++ (x.run o).2.1, (x.run o).2.2.2⟩) := by
  unfold Co.apply
  rw [if_pos rfl, h]
theorem keys_apply {x : Co} {o : OpF} {b : Bool} {K : Int} (h : KeysLt x K) (hk : b = true → o.key < K) : KeysLt (x.apply b o).2.2 K := by
  unfold Co.apply
  split
  · rename_i hb
    split
    · exact h
    · intro z hz
      rcases ins_mem hz with rfl | hz
      · exact hk hb
      · exact h z hz
  · exact h
def kF : Int := 15 * 1048577
theorem keys_other {x : Co} {o : OpF} (h : KeysLt x (kF + 1)) (hc : o.c ≠ 15) : KeysLt (x.apply o.ok o).2.2 (kF + 1) := by
  refine keys_apply h fun hb => ?_
  obtain ⟨-, h1, h2, -⟩ := OpF.ok_b hb
  unfold OpF.key kF
  omega
theorem keys_none : KeysLt Co.none (kF + 1) := fun z hz => by cases hz
/-- the operations of the client -/
def initF (s : Nat) : OpF := ⟨1, 15, s, ⟨#[102]⟩, 0, 0, 0, 0, false⟩
def addF (s : Nat) (p e t : Int) : OpF := ⟨2, 15, s, ⟨#[]⟩, p, e, t, 0, false⟩
def endF (s : Nat) (p e t : Int) (c : Bool) : OpF := ⟨3, 15, s, ⟨#[]⟩, p, e, t, 0, c⟩
theorem findN_get : ∀ {n : ByteArray} {ps : List Pr} {i k : Nat}, findN n ps i = some k → i ≤ k ∧ ∃ p, ps[k - i]? = some p ∧ p.nm = n
  | n, [], i, k, h => by cases h
  | n, p :: r, i, k, h => by
    unfold findN at h
    split at h
    · rename_i hn
      injection h with h
      subst h
      exact ⟨Nat.le_refl _, p, by simp, hn⟩
    · obtain ⟨h1, q, h2, h3⟩ := findN_get h
      refine ⟨by omega, q, ?_, h3⟩
      rw [show k - i = (k - (i + 1)) + 1 by omega, List.getElem?_cons_succ]
      exact h2
theorem findN_set : ∀ {n : ByteArray} {ps : List Pr} {i k j : Nat} {p p' : Pr}, ps[j]? = some p → p'.nm = p.nm → findN n (ps.set j p') i = findN n ps i
  | n, [], i, k, j, p, p', h, hn => by simp at h
  | n, q :: r, i, k, 0, p, p', h, hn => by
    simp at h
    subst h
    simp only [List.set_cons_zero, findN, hn]
  | n, q :: r, i, k, j + 1, p, p', h, hn => by
    simp at h
    simp only [List.set_cons_succ, findN]
    rw [findN_set (k := k) h hn]
theorem findN_app : ∀ {n : ByteArray} {ps : List Pr} {i : Nat}, findN n ps i = none → findN n (ps ++ [fresh n]) i = some (i + ps.length)
  | n, [], i, h => by simp [findN, fresh]
  | n, q :: r, i, h => by
    unfold findN at h
    split at h
    · cases h
    · rename_i hn
      simp only [List.cons_append, findN, if_neg hn, List.length_cons]
      rw [findN_app h]
      congr 1
      omega
/-- the producer, its epoch, what is open -/
structure Held (x : Co) (i : Nat) (q : Pr) : Prop where
  loc : x.ps[i]? = some q
  nm : q.nm = ⟨#[102]⟩
  fd : findN ⟨#[102]⟩ x.ps 0 = some i
theorem at_of {x : Co} {i : Nat} {q : Pr} (h : x.ps[i]? = some q) : x.at (i : Int) = some (i, q) := by
  unfold Co.at
  rw [if_pos (by omega), Int.toNat_natCast, h]; rfl
theorem first_f {x : Co} (hk : KeysLt x (kF + 1)) (hp : x.ps.length ≤ 8 ∧ ∀ p ∈ x.ps, 0 ≤ p.ep ∧ p.ep ≤ 100 ∧ PrOk x.now p) :
    ∃ r ms x1, x.apply true (initF 1) = (r, ms, x1) ∧ KeysLt x1 (kF + 2) ∧ ((r.err = 3 ∨ r.err = 7) ∨ ∃ (i : Nat) (e : Int), r = ⟨0, i, e⟩ ∧ i < 8 ∧ 0 ≤ e ∧ e ≤ 100 ∧ Held x1 i ⟨⟨#[102]⟩, e, [], none⟩) := by
  have hl : lookL (initF 1).key x.rs = none := look_lt (K := kF + 1) hk
  refine ⟨_, _, _, apply_new hl, fun z hz => ?_, ?_⟩
  · rcases ins_mem hz with rfl | hz
    · show (15 * 1048577 + (1 : Int)) < kF + 2
      unfold kF; omega
    · have := hk z hz; omega
  · have hr : x.run (initF 1) = ((x.admit ⟨#[102]⟩).1, (x.admit ⟨#[102]⟩).2.1, (x.admit ⟨#[102]⟩).2.2, x.now) := by
      unfold Co.run; rw [if_pos (show (initF 1).k = 1 from rfl)]; rfl
    rw [hr]
    unfold Co.admit
    cases hf : findN ⟨#[102]⟩ x.ps 0 with
    | none =>
      by_cases h8 : 8 ≤ x.ps.length
      · simp only [if_pos h8]
        exact .inl (.inl rfl)
      · simp only [if_neg h8]
        refine .inr ⟨x.ps.length, 0, rfl, by omega, by omega, by omega, ⟨by simp [fresh], rfl, ?_⟩⟩
        have := findN_app hf
        simpa using this
    | some i =>
      obtain ⟨-, p, h1, h2⟩ := findN_get hf
      rw [Nat.sub_zero] at h1
      simp only [h1]
      by_cases he : 100 ≤ p.ep
      · simp only [if_pos he]
        exact .inl (.inr rfl)
      · simp only [if_neg he]
        obtain ⟨h3, h4, -⟩ := hp.2 p (List.mem_of_getElem? h1)
        have hil := (List.getElem?_eq_some_iff.1 h1).1
        refine .inr ⟨i, p.ep + 1, rfl, by omega, by omega, by omega, ⟨?_, rfl, ?_⟩⟩
        · rw [List.getElem?_set_self hil]
          simp [Pr.renew, h2]
        · exact (findN_set (k := 0) (p' := p.renew) h1 rfl).trans hf
theorem keys_ins {rs : List (Int × Rp.Rp3)} {k K : Int} {v : Rp.Rp3} (h : ∀ z ∈ rs, z.1 < k) (hk : k < K) : ∀ z ∈ insL k v rs, z.1 < K := fun z hz => by
  rcases ins_mem hz with rfl | hz
  · exact hk
  · have := h z hz; omega
/-- the first part opens its transaction -/
theorem add_f {x : Co} {i : Nat} {e : Int} (hh : Held x i ⟨⟨#[102]⟩, e, [], none⟩) (hk : KeysLt x (kF + 2)) :
    ∃ b l x2, x.apply true (addF 2 i e 1) = (⟨0, 0, 0⟩, [], x2) ∧ KeysLt x2 (kF + 3) ∧ Held x2 i ⟨⟨#[102]⟩, e, [], some (b, l)⟩ := by
  have hl : lookL (addF 2 i e 1).key x.rs = none := look_lt (K := kF + 2) hk
  have hr : x.run (addF 2 i e 1) = (err 0, [], x.ps.set i ⟨⟨#[102]⟩, e, [], some (x.now, noParts.set 0 true)⟩, x.now) := by
    unfold Co.run
    rw [if_neg (show ¬ (addF 2 i e 1).k = 1 by simp [addF]), if_neg (show ¬ (addF 2 i e 1).k = 4 by simp [addF]), show (addF 2 i e 1).p = (i : Int) from rfl, at_of hh.loc]
    dsimp only
    rw [if_neg (show ¬ ((addF 2 i e 1).e ≠ e) by simp [addF]), if_pos (show (addF 2 i e 1).k = 2 from rfl)]
    rfl
  have hil := (List.getElem?_eq_some_iff.1 hh.loc).1
  refine ⟨x.now, noParts.set 0 true, ⟨x.ps.set i ⟨⟨#[102]⟩, e, [], some (x.now, noParts.set 0 true)⟩, insL (addF 2 i e 1).key (err 0) x.rs, x.ms ++ [], x.now⟩, ?_, keys_ins (k := kF + 2) hk (by omega), ⟨List.getElem?_set_self hil, rfl, ?_⟩⟩
  · rw [apply_new hl, hr]; rfl
  · exact (findN_set (k := 0) (p' := ⟨⟨#[102]⟩, e, [], some (x.now, noParts.set 0 true)⟩) hh.loc rfl).trans hh.fd
/-- the second epoch -/
theorem second_f {x : Co} {i : Nat} {e b : Int} {l : List Bool} (hh : Held x i ⟨⟨#[102]⟩, e, [], some (b, l)⟩) (hk : KeysLt x (kF + 3)) :
    ∃ r ms x3, x.apply true (initF 3) = (r, ms, x3) ∧ (r.err = 7 ∨ (r = ⟨0, i, e + 1⟩ ∧ ms = [⟨3, i, e, 1⟩, ⟨1, i, e + 1, 0⟩] ∧ x3.ps[i]? = some ⟨⟨#[102]⟩, e + 1, [], none⟩ ∧ KeysLt x3 (kF + 4))) := by
  have hl : lookL (initF 3).key x.rs = none := look_lt (K := kF + 3) hk
  refine ⟨_, _, _, apply_new hl, ?_⟩
  have hr : x.run (initF 3) = ((x.admit ⟨#[102]⟩).1, (x.admit ⟨#[102]⟩).2.1, (x.admit ⟨#[102]⟩).2.2, x.now) := by
    unfold Co.run; rw [if_pos (show (initF 3).k = 1 from rfl)]; rfl
  rw [hr]
  unfold Co.admit
  rw [hh.fd]
  simp only [hh.loc]
  have hil := (List.getElem?_eq_some_iff.1 hh.loc).1
  by_cases he : 100 ≤ e
  · simp only [if_pos he]
    exact .inl rfl
  · simp only [if_neg he]
    refine .inr ⟨?_, ?_, List.getElem?_set_self hil, keys_ins (k := kF + 3) hk (by omega)⟩ <;> first | rfl | trivial
/-- nothing of another epoch is taken -/
theorem fenced_f {x : Co} {i : Nat} {q : Pr} {o : OpF} {K : Int} (hq : x.ps[i]? = some q) (hp : o.p = (i : Int)) (h1 : o.k ≠ 1) (h4 : o.k ≠ 4) (he : o.e ≠ q.ep) (hk : KeysLt x K) (hK : o.key = K) :
    ∃ x', x.apply true o = (err 5, [], x') ∧ x'.ps = x.ps ∧ KeysLt x' (K + 1) := by
  have hl : lookL o.key x.rs = none := look_lt (by rw [hK]; exact hk)
  have hr : x.run o = (err 5, [], x.ps, x.now) := by
    unfold Co.run
    rw [if_neg h1, if_neg h4, hp, at_of hq]
    dsimp only
    rw [if_pos he]
  refine ⟨⟨x.ps, insL o.key (err 5) x.rs, x.ms ++ [], x.now⟩, ?_, rfl, keys_ins (by rw [hK]; exact hk) (by omega)⟩
  rw [apply_new hl, hr]
theorem initF_in (s : Nat) (h : s < 9) : (initF s).In := by
  refine ⟨?_, ?_, ?_, ?_, ?_, ?_, ?_, by show (1 : Nat) < 1073741824; decide⟩ <;> simp [initF, inI] <;> first | omega | decide
theorem initF_ok : ∀ s, s < 9 → (initF s).ok = true := by decide +kernel
theorem addF_in (s : Nat) (p e t : Int) (h : s < 9) (hp : 0 ≤ p ∧ p < 8) (he : 0 ≤ e ∧ e ≤ 100) (ht : 1 ≤ t ∧ t ≤ 3) : (addF s p e t).In := by
  refine ⟨?_, ?_, ?_, ?_, ?_, ?_, ?_, by show (0 : Nat) < 1073741824; decide⟩ <;> simp [addF, inI] <;> omega
theorem endF_in (s : Nat) (p e t : Int) (c : Bool) (h : s < 9) (hp : 0 ≤ p ∧ p < 8) (he : 0 ≤ e ∧ e ≤ 100) (ht : 1 ≤ t ∧ t ≤ 3) : (endF s p e t c).In := by
  refine ⟨?_, ?_, ?_, ?_, ?_, ?_, ?_, by show (0 : Nat) < 1073741824; decide⟩ <;> simp [endF, inI] <;> omega
theorem eN_beq : ((⟨#[]⟩ : ByteArray) == eN) = true := by kernel_rfl
theorem addF_ok (s : Nat) (p e t : Int) (h : s < 9) (hp : 0 ≤ p ∧ p < 8) (he : 0 ≤ e ∧ e ≤ 100) (ht : 1 ≤ t ∧ t ≤ 3) : (addF s p e t).ok = true := by
  have h1 := eN_beq
  show opB 2 15 (s : Int) ⟨#[]⟩ p e t 0 false = true
  simp [opB, sameB, inB, txnB, h1]
  omega
theorem endF_ok (s : Nat) (p e t : Int) (c : Bool) (h : s < 9) (hp : 0 ≤ p ∧ p < 8) (he : 0 ≤ e ∧ e ≤ 100) (ht : 1 ≤ t ∧ t ≤ 3) : (endF s p e t c).ok = true := by
  have h1 := eN_beq
  show opB 3 15 (s : Int) ⟨#[]⟩ p e t 0 c = true
  simp [opB, sameB, inB, txnB, h1]
  omega
end Go.Proofs.Ytoihfhlelbdboaa
namespace Go.Proofs.Ytoihfhlelbdboaa
open Go.RowKit Go.Dig Go.Inv Go.Oct Go.Hold
set_option linter.unusedVariables false
set_option linter.unusedSimpArgs false

theorem OpsAt.keep {w w' : World} {a : Option Addr} {L : List OpF} (h : OpsAt w a L) (hB : Below w.heap.size w w') : OpsAt w' a L := fun hn => by
  obtain ⟨b, o, rfl, hc⟩ := h hn
  refine ⟨b, o, rfl, fun j x hx i hi => ?_⟩
  have h1 := hc j x hx i hi
  obtain ⟨v, hv⟩ : ∃ v, x.cells[i]? = some v := ⟨x.cells[i]'(by simp [OpF.cells, opC]; omega), Array.getElem?_eq_getElem _⟩
  rw [hv] at h1 ⊢
  exact (hB.cell (World.block_lt_of_cell? w _ h1)).trans h1
/-- a row of two marks -/
theorem OwnM.cell2 {w : World} {base : Nat} {v : Value} {m1 m2 : Mk} (h : OwnM w base v [m1, m2]) : ∃ g, v.ownBlock = some g ∧ ∀ j u, (mkC [m1, m2])[j]? = some u → w.cell? ⟨g, j, none⟩ = some u := by
  obtain ⟨ao, c, rfl⟩ := h.form
  rcases h.1.2 with ⟨e, h0⟩ | ⟨g, cap, cur, e, hb, _⟩
  · simp at h0
  · cases e
    refine ⟨g, rfl, fun j u hu => ?_⟩
    have := h.cells.2 j u hu
    rwa [addr_add, Nat.zero_add] at this
theorem OwnM.addr {w : World} {base : Nat} {ao : Option Addr} {n c g : Nat} {L : List Mk} (h : OwnM w base (.slice ao n c) L) (hg : (Value.slice ao n c).ownBlock = some g) : ao = some ⟨g, 0, none⟩ := by
  rcases h.1.2 with ⟨e, h0⟩ | ⟨k, cap, cur, e, hb, _⟩
  · cases e; cases hg
  · cases e; cases hg; rfl
/-- all but the client's -/
def FenI (w1 : World) (L : List OpF) (a : Option Addr) (wr : World) (i : Nat) (own : Own) (x : Co) (n : Nat) : Prop :=
  CoAt own wr w1.heap.size x ∧ x.Inv n ∧ n ≤ i ∧ KeysLt x (kF + 1) ∧ Over w1.heap.size own ∧ Below w1.heap.size w1 wr
set_option maxRecDepth 100000 in
set_option maxHeartbeats 8000000 in
theorem Fences_law (w : World) (a : Option Addr) (cap : Nat) (L : List OpF) (t : Int) (c : Bool) (hL : OpsAt w a L) (hW : ∀ o ∈ L, o.Wide) : Calls Try.prog 5 #[.slice a L.length cap, .int .i64 t, .bool c] w fun e w' => e = .returned (.bool true) ∧ Below w.heap.size w w' := by
  go_enter Try.func5, Try.ntmps5
  go_wp2_with fail
  refine (long_at w a cap L hL).mono ?_
  rintro e w1 ⟨⟨b, rfl⟩, rfl⟩
  have HL : Hid (OpsAt w1 a L) := hL
  have HW : Hid (∀ o ∈ L, o.Wide) := hW
  clear hL hW
  cases b
  · by_cases h40 : 40 < (L.length : Int)
    · go_wp2_with fail
      go_ret
      exact ⟨rfl, Below.refl _ _⟩
    · by_cases ht1 : t < 1
      · go_wp2_with fail
        go_ret
        exact ⟨rfl, Below.refl _ _⟩
      · by_cases ht3 : 3 < t
        · go_wp2_with fail
          go_ret
          exact ⟨rfl, Below.refl _ _⟩
        · go_wp2_with (go_at_call 10; refine (New_at _).mono ?_; rintro e w2 ⟨own1, rfl, hN1, ho1, hB1⟩)
          have HT : Hid (1 ≤ t ∧ t ≤ 3) := by show 1 ≤ t ∧ t ≤ 3; omega
          have HN : Hid (L.length ≤ 40) := by show L.length ≤ 40; omega
          clear h40 ht1 ht3
          go_loopw [8] (fun iv wr => ∃ (i : Nat) (own : Own) (x : Co) (n : Nat), i ≤ L.length ∧ iv = .int .i64 (i : Int) ∧ FenI w1 L a wr i own x n) (fun iv _ => L.length - (intOf iv).toNat)
          case atStart => exact ⟨0, own1, Co.none, 0, Nat.zero_le _, rfl, hN1, Co.inv_none, Nat.le_refl _, keys_none, ho1, hB1⟩
          case round =>
            obtain ⟨i, own, x, n, hi, rfl, hC, hI, hn, hK, ho, hB⟩ := hrel
            by_cases hlt : i < L.length
            · obtain ⟨o, hox⟩ : ∃ o, L[i]? = some o := ⟨L[i], List.getElem?_eq_getElem hlt⟩
              obtain ⟨ob, oo, rfl, c0, c1, c2, c3, c4, c5, c6, c7, c8⟩ := (HL.out.keep hB).get hox
              have hlt' : (i : Int) < (L.length : Int) := by omega
              have hwo := HW.out o (List.mem_of_getElem? hox)
              have hBs := hB.size
              have HH : Hid (L.length ≤ 40 ∧ n ≤ i ∧ i < L.length) := ⟨HN.out, hn, hlt⟩
              by_cases hc15 : o.c = 15
              · go_wp2_with fail
                go_roundw
                case rel => exact ⟨i + 1, own, x, n, by omega, by go_num, hC, hI, by omega, hK, ho, hB⟩
                case measure => simp [intOf]; omega
              · have hk2 := keys_other hK hc15
                have hi2 := hI.apply o.ok o
                clear hox hn hi hlt
                go_wp2_with (go_at_call 11; refine (apply_at own _ _ x n hC o hwo hI (by have := HH.out; omega)).mono ?_; rintro e w4 ⟨v4, own4, rfl, hO4, hl4, hC4, hS4⟩; have ho4 := ho.step hS4 hBs; have hB4 := hB.trans (ho.below hS4 hBs); clear hS4 hC hO4 hl4)
                have hh := HH.out
                go_roundw
                case rel => exact ⟨i + 1, own4, _, n + 1, by omega, by go_num, hC4, hi2, by omega, hk2, ho4, hB4⟩
                case measure => simp [intOf]; omega
            · obtain rfl : i = L.length := by omega
              have HH : Hid (n ≤ 40) := by have := HN.out; show n ≤ 40; omega
              obtain ⟨r, ms, x1, hx, hk1, hcase⟩ := first_f hK hI.ok
              have hBs := hB.size
              clear hn hi hlt HL HW
              go_wp2_with (first | (refine wpList_build_to rfl 33 #[(0, .const (.int .i64 1)), (1, .const (.int .i64 15)), (2, .const (.int .i64 1)), (3, .const (.string ⟨#[102]⟩))] rfl (initF 1).cells (by kernel_rfl) ?_) | (go_at_call 11; refine (apply_lit own _ _ x n hC (initF 1) (initF_in 1 (by decide)) hI (by have := HH.out; omega) (initF_ok 1 (by decide)) r ms x1 hx).mono ?_; rintro e w4 ⟨⟨v4, own4, rfl, hO4, hl4, hC4, hS4⟩, hI4⟩; have ho4 := ho.step hS4 hBs; have hB4 := hB.trans (ho.below hS4 hBs); clear hS4 hC hO4 hl4) | (refine wpList_alloc_row rfl 28 rfl (rpC rp0) (by kernel_rfl) ?_) | (refine wpList_store_whole rfl 28 _ _ rfl w4.heap.size (rpC r) (rpC rp0) ?_ ?_ 28 (alloc_blk _ _) (by kernel_rfl) (rpC_all _) rfl ?_; rfl; rfl))
              intro w5 h5 hK5
              have hB5 : Below w4.heap.size w4 w5 := (below_alloc _ _).trans (hK5.below (Nat.le_refl _) (by simp))
              have hC5 := hC4.below hB5
              have hB6 := hB4.trans (hB5.mono hB4.size)
              clear hK5 hC4 hx hK ho hB
              rcases hcase with (he | he) | ⟨j, ep, rfl, hj8, he0, he1, hh⟩
              · have d0 : w5.cell? ⟨w4.heap.size, 0, none⟩ = some (.int .i64 3) := he ▸ cell_blk h5 0
                clear he h5
                go_wp2_with (go_at_call 15; refine (known_at _).mono ?_; rintro e w8 ⟨rfl, hB8⟩)
                go_ret
                exact ⟨rfl, hB6.trans (hB8.mono hB6.size)⟩
              · have d0 : w5.cell? ⟨w4.heap.size, 0, none⟩ = some (.int .i64 7) := he ▸ cell_blk h5 0
                clear he h5
                go_wp2_with (go_at_call 15; refine (known_at _).mono ?_; rintro e w8 ⟨rfl, hB8⟩)
                go_ret
                exact ⟨rfl, hB6.trans (hB8.mono hB6.size)⟩
              · have d0 : w5.cell? ⟨w4.heap.size, 0, none⟩ = some (.int .i64 0) := cell_blk h5 0
                have d1 : w5.cell? ⟨w4.heap.size, 1, none⟩ = some (.int .i64 (j : Int)) := cell_blk h5 1
                have d2 : w5.cell? ⟨w4.heap.size, 2, none⟩ = some (.int .i64 ep) := cell_blk h5 2
                have hgl : w4.heap.size < w5.heap.size := lt_blk h5
                have HJ : Hid (j < 8 ∧ 0 ≤ ep ∧ ep ≤ 100) := ⟨hj8, he0, he1⟩
                have HHD : Hid (Held x1 j ⟨⟨#[102]⟩, ep, [], none⟩) := hh
                clear h5 hj8 he0 he1 hh hB5
                go_upto_region 14 with fail
                refine wp_region_growG (by kernel_rfl) (by kernel_rfl) (fun xS => { tmps := (Value.slice a L.length cap :: Value.int IntKind.i64 t :: Value.bool c :: undef :: undef :: undef :: Value.bool false :: Value.pointer (some (⟨w1.heap.size, 0, none⟩ : Addr)) :: Value.int IntKind.i64 (L.length : Int) :: Value.pointer (some (⟨w4.heap.size, 0, none⟩ : Addr)) :: v4 :: xS 4 :: xS 5 :: undef :: undef :: undef :: undef :: undef :: undef :: undef :: undef :: Value.slice a L.length cap :: Value.bool false :: Value.bool false :: Value.slice a L.length cap :: Value.int IntKind.i64 (L.length : Int) :: Value.bool (decide (40 < (L.length : Int))) :: Value.bool (decide (40 < (L.length : Int))) :: Value.bool (decide (40 < (L.length : Int))) :: Value.int IntKind.i64 t :: Value.bool (decide (t < 1)) :: Value.bool (decide (40 < (L.length : Int)) || decide (t < 1)) :: Value.bool (decide (40 < (L.length : Int)) || decide (t < 1)) :: Value.int IntKind.i64 t :: Value.bool (decide (3 < t)) :: Value.bool (decide (40 < (L.length : Int)) || decide (t < 1) || decide (3 < t)) :: Value.pointer (some (⟨w1.heap.size, 0, none⟩ : Addr)) :: Value.pointer (some (⟨w1.heap.size, 0, none⟩ : Addr)) :: Value.bool false :: Value.int IntKind.i64 (L.length : Int) :: Value.slice a L.length cap :: Value.int IntKind.i64 (L.length : Int) :: Value.bool false :: u43 :: u44 :: u45 :: u46 :: u47 :: u48 :: u49 :: u50 :: u51 :: u52 :: u53 :: u54 :: u55 :: u56 :: Value.tuple #[Value.agg (rpC { err := 0, pr := (j : Int), ep := ep }), v4] :: Value.pointer (some (⟨w1.heap.size, 0, none⟩ : Addr)) :: Value.agg (initF 1).cells :: Value.tuple #[Value.agg (rpC { err := 0, pr := (j : Int), ep := ep }), v4] :: Value.agg (rpC { err := 0, pr := (j : Int), ep := ep }) :: v4 :: Value.pointer (some (⟨w4.heap.size, 0, none⟩ : Addr)) :: Value.int IntKind.i64 0 :: Value.bool false :: undef :: undef :: undef :: undef :: undef :: undef :: undef :: undef :: undef :: undef :: undef :: xS 0 :: xS 1 :: xS 2 :: xS 3 :: undef :: undef :: undef :: undef :: undef :: undef :: undef :: undef :: undef :: undef :: undef :: undef :: undef :: undef :: undef :: undef :: undef :: undef :: undef :: undef :: undef :: undef :: undef :: undef :: undef :: undef :: undef :: undef :: undef :: undef :: undef :: undef :: undef :: undef :: undef :: undef :: undef :: undef :: undef :: undef :: undef :: undef :: undef :: undef :: undef :: undef :: undef :: undef :: undef :: undef :: undef :: undef :: undef :: undef :: undef :: undef :: undef :: undef :: undef :: undef :: undef :: undef :: undef :: undef :: undef :: undef :: undef :: undef :: undef :: undef :: undef :: undef :: undef :: undef :: undef :: undef :: undef :: undef :: undef :: undef :: undef :: undef :: undef :: undef :: undef :: undef :: undef :: undef :: undef :: undef :: undef :: undef :: undef :: undef :: undef :: undef :: undef :: undef :: undef :: undef :: undef :: []).toArray, defers := [] })
                  (fun ii xx WW => match ii with | 0 => xx = .pointer (some ⟨w4.heap.size, 1, none⟩) | 1 => xx = .int .i64 (j : Int) | 2 => xx = .pointer (some ⟨w4.heap.size, 2, none⟩) | 3 => xx = .int .i64 ep | 4 => xx = .int .i64 (j : Int) | 5 => xx = .int .i64 ep | _ => True) (fun | 0 => undef | 1 => undef | 2 => undef | 3 => undef | 4 => undef | 5 => undef | _ => undef) (by repeat (first | exact trivial | refine ⟨fun _ _ => rfl, ?_⟩)) (fun _ _ _ _ _ h => h) ⟨?_, ?_, ?_, ?_, ?_, ?_, trivial⟩ ?_
                · intro xS W hB hp K hK
                  rw [if_pos (wanted_none rfl _)]
                  clear hp
                  go_simp
                  exact hK _ _ (Below.refl _ _) rfl
                · intro xS W hB hp K hK
                  rw [if_pos (wanted_none rfl _)]
                  have h0 : xS 0 = .pointer (some ⟨w4.heap.size, 1, none⟩) := hp.1 rfl
                  clear hp
                  have hc := (hB.cell (p := ⟨w4.heap.size, 1, none⟩) hgl).trans d1
                  simp only [h0] at hK ⊢
                  clear h0
                  go_simp
                  exact hK _ _ (Below.refl _ _) rfl
                · intro xS W hB hp K hK
                  rw [if_pos (wanted_none rfl _)]
                  clear hp
                  go_simp
                  exact hK _ _ (Below.refl _ _) rfl
                · intro xS W hB hp K hK
                  rw [if_pos (wanted_none rfl _)]
                  have h2 : xS 2 = .pointer (some ⟨w4.heap.size, 2, none⟩) := hp.1 rfl
                  clear hp
                  have hc := (hB.cell (p := ⟨w4.heap.size, 2, none⟩) hgl).trans d2
                  simp only [h2] at hK ⊢
                  clear h2
                  go_simp
                  exact hK _ _ (Below.refl _ _) rfl
                · intro xS W hB hp K hK
                  rw [if_pos (wanted_none rfl _)]
                  have h1 : xS 1 = .int .i64 (j : Int) := hp.1 rfl
                  clear hp
                  simp only [h1] at hK ⊢
                  clear h1
                  go_simp
                  exact hK _ _ (Below.refl _ _) rfl
                · intro xS W hB hp K hK
                  rw [if_pos (wanted_none rfl _)]
                  have h3 : xS 3 = .int .i64 ep := hp.1 rfl
                  clear hp
                  simp only [h3] at hK ⊢
                  clear h3
                  go_simp
                  exact hK _ _ (Below.refl _ _) rfl
                intro xS W6 hBW hs
                have h4 : xS 4 = .int .i64 (j : Int) := hs 4 (by simp)
                have h5 : xS 5 = .int .i64 ep := hs 5 (by simp)
                clear hs
                simp only [h4, h5]
                have hC6 := hC5.below hBW
                have hT6 := hB6.trans (hBW.mono hB6.size)
                have hZ6 := hT6.size
                obtain ⟨ob, ol, x2, hx2, hk2, hh2⟩ := add_f HHD.out hk1
                obtain ⟨r3, ms3, x3, hx3, hcase3⟩ := second_f hh2 hk2
                clear hC5 hBW hB6 d0 d1 d2 hgl hk1 hk2 hBs h4 h5
                go_wp2_with (first | (refine wpList_build_to rfl 33 #[(0, .const (.int .i64 2)), (1, .const (.int .i64 15)), (2, .const (.int .i64 2)), (4, .tmp 83), (5, .tmp 84), (6, .const (.int .i64 1))] rfl (addF 2 (j : Int) ep 1).cells (by kernel_rfl) ?_) | (go_at_call 11; refine (apply_lit own4 _ _ x1 (n + 1) hC6 (addF 2 (j : Int) ep 1) (addF_in 2 _ _ _ (by decide) (by have := HJ.out; omega) (by have := HJ.out; omega) (by omega)) hI4 (by have := HH.out; omega) (addF_ok 2 _ _ _ (by decide) (by have := HJ.out; omega) (by have := HJ.out; omega) (by omega)) (⟨0, 0, 0⟩) ([]) x2 hx2).mono ?_; rintro e w8 ⟨⟨v8, own8, rfl, hO8, hl8, hC8, hS8⟩, hI8⟩; obtain ⟨ao8, cap8, rfl⟩ := hO8.form) | (refine wpList_alloc_row rfl 28 rfl (rpC rp0) (by kernel_rfl) ?_) | (refine wpList_store_whole rfl 28 _ _ rfl w8.heap.size (rpC (⟨0, 0, 0⟩)) (rpC rp0) ?_ ?_ 28 (alloc_blk _ _) (by kernel_rfl) (rpC_all _) rfl ?_; rfl; rfl))
                intro w9 h9 hK9
                have hB9 : Below w8.heap.size w8 w9 := (below_alloc _ _).trans (hK9.below (Nat.le_refl _) (by simp))
                have hn9 : own8 w8.heap.size = none := hC8.owned.fresh (Nat.le_refl _)
                have ho8 := ho4.step hS8 hZ6
                have hT8 := hT6.trans (ho4.below hS8 hZ6)
                have hC9 := hC8.below hB9
                have hT9 := hT8.trans (hB9.mono hT8.size)
                have hZ9 := hT9.size
                clear hK9 hC8 hO8 hl8 hS8 hC6 hx2 hT8 hB9
                go_wp2_with (first | (refine wpList_build_to rfl 33 #[(0, .const (.int .i64 1)), (1, .const (.int .i64 15)), (2, .const (.int .i64 3)), (3, .const (.string ⟨#[102]⟩))] rfl (initF 3).cells (by kernel_rfl) ?_) | (go_at_call 11; refine (apply_lit own8 _ _ x2 (n + 1 + 1) hC9 (initF 3) (initF_in 3 (by decide)) hI8 (by have := HH.out; omega) (initF_ok 3 (by decide)) (r3) (ms3) x3 hx3).mono ?_; rintro e w11 ⟨⟨v11, own11, rfl, hO11, hl11, hC11, hS11⟩, hI11⟩; obtain ⟨ao11, cap11, rfl⟩ := hO11.form) | (refine wpList_alloc_row rfl 28 rfl (rpC rp0) (by kernel_rfl) ?_) | (refine wpList_store_whole rfl 28 _ _ rfl w11.heap.size (rpC (r3)) (rpC rp0) ?_ ?_ 28 (alloc_blk _ _) (by kernel_rfl) (rpC_all _) rfl ?_; rfl; rfl))
                intro w12 h12 hK12
                have hB12 : Below w11.heap.size w11 w12 := (below_alloc _ _).trans (hK12.below (Nat.le_refl _) (by simp))
                have hn12 : own11 w11.heap.size = none := hC11.owned.fresh (Nat.le_refl _)
                have ho11 := ho8.step hS11 hZ9
                have hT11 := hT9.trans (ho8.below hS11 hZ9)
                have hC12 := hC11.below hB12
                have hT12 := hT11.trans (hB12.mono hT11.size)
                have hZ12 := hT12.size
                have a9 := hS11.keep h9 hn9
                have a12 := (hB12.block _ (lt_blk a9)).trans a9
                have hO12 := hO11.below hB12
                have e0 : w12.cell? ⟨w8.heap.size, 0, none⟩ = some (.int .i64 0) := cell_blk a12 0
                clear hK12 hC11 hO11 hS11 hC9 hx3 hT11 hB12 h9 hn9 a9 a12
                rcases hcase3 with he7 | ⟨rfl, rfl, hps, hk4⟩
                · have f0 : w12.cell? ⟨w11.heap.size, 0, none⟩ = some (.int .i64 7) := he7 ▸ cell_blk h12 0
                  clear he7 h12
                  go_wp2_with (go_at_call 15; refine (known_at _).mono ?_; rintro e w99 ⟨rfl, hB99⟩)
                  go_ret
                  exact ⟨rfl, hT12.trans (hB99.mono hT12.size)⟩
                · have f0 : w12.cell? ⟨w11.heap.size, 0, none⟩ = some (.int .i64 0) := cell_blk h12 0
                  obtain ⟨g, hg, hcg⟩ := hO12.cell2
                  have hlg : own11 g = none := hl11 g hg
                  obtain ⟨cR, tR, fR, hR⟩ := hO12.blk (k := g) hg
                  obtain rfl : ao11 = some ⟨g, 0, none⟩ := hO12.addr hg
                  obtain ⟨x4, hx4, hps4, hk5⟩ := fenced_f (o := addF 4 (j : Int) ep t) hps rfl (by simp [addF]) (by simp [addF]) (by show ep ≠ ep + 1; omega) hk4 rfl
                  obtain ⟨x5, hx5, -, -⟩ := fenced_f (o := endF 5 (j : Int) ep t c) (hps4 ▸ hps) rfl (by simp [endF]) (by simp [endF]) (by show ep ≠ ep + 1; omega) hk5 rfl
                  clear hps hps4 hk4 hk5 hO12 hl11 hg
                  have HT2 := HT.out
                  have hE := HJ.out
                  go_wp2_with (first | (refine wpList_build_to rfl 33 #[(0, .const (.int .i64 2)), (1, .const (.int .i64 15)), (2, .const (.int .i64 4)), (4, .tmp 109), (5, .tmp 110), (6, .tmp 111)] rfl (addF 4 (j : Int) ep t).cells (by kernel_rfl) ?_) | (go_at_call 11; refine (apply_lit own11 _ _ x3 (n + 1 + 1 + 1) hC12 (addF 4 (j : Int) ep t) (addF_in 4 _ _ _ (by decide) (by have := HJ.out; omega) (by have := HJ.out; omega) HT.out) hI11 (by have := HH.out; omega) (addF_ok 4 _ _ _ (by decide) (by have := HJ.out; omega) (by have := HJ.out; omega) HT.out) (err 5) ([]) x4 hx4).mono ?_; rintro e w14 ⟨⟨v14, own14, rfl, hO14, hl14, hC14, hS14⟩, hI14⟩; obtain ⟨ao14, cap14, rfl⟩ := hO14.form) | (refine wpList_alloc_row rfl 28 rfl (rpC rp0) (by kernel_rfl) ?_) | (refine wpList_store_whole rfl 28 _ _ rfl w14.heap.size (rpC (err 5)) (rpC rp0) ?_ ?_ 28 (alloc_blk _ _) (by kernel_rfl) (rpC_all _) rfl ?_; rfl; rfl))
                  intro w15 h15 hK15
                  have hB15 : Below w14.heap.size w14 w15 := (below_alloc _ _).trans (hK15.below (Nat.le_refl _) (by simp))
                  have hn15 : own14 w14.heap.size = none := hC14.owned.fresh (Nat.le_refl _)
                  have ho14 := ho11.step hS14 hZ12
                  have hT14 := hT12.trans (ho11.below hS14 hZ12)
                  have hC15 := hC14.below hB15
                  have hT15 := hT14.trans (hB15.mono hT14.size)
                  have hZ15 := hT15.size
                  have a12 := hS14.keep h12 hn12
                  have m12 := hS14.unlab h12 hn12
                  have aR := hS14.keep hR hlg
                  have mR := hS14.unlab hR hlg
                  have b12 := (hB15.block _ (lt_blk a12)).trans a12
                  have bR := (hB15.block _ (lt_blk aR)).trans aR
                  clear hK15 hC14 hO14 hl14 hS14 hC12 hx4 hT14 hB15 h12 hn12 a12 aR hlg e0 f0
                  go_wp2_with (first | (refine wpList_build_to rfl 33 #[(0, .const (.int .i64 3)), (1, .const (.int .i64 15)), (2, .const (.int .i64 5)), (4, .tmp 118), (5, .tmp 119), (6, .tmp 120), (8, .tmp 121)] rfl (endF 5 (j : Int) ep t c).cells (by kernel_rfl) ?_) | (go_at_call 11; refine (apply_lit own14 _ _ x4 (n + 1 + 1 + 1 + 1) hC15 (endF 5 (j : Int) ep t c) (endF_in 5 _ _ _ c (by decide) (by have := HJ.out; omega) (by have := HJ.out; omega) HT.out) hI14 (by have := HH.out; omega) (endF_ok 5 _ _ _ c (by decide) (by have := HJ.out; omega) (by have := HJ.out; omega) HT.out) (err 5) ([]) x5 hx5).mono ?_; rintro e w17 ⟨⟨v17, own17, rfl, hO17, hl17, hC17, hS17⟩, hI17⟩; obtain ⟨ao17, cap17, rfl⟩ := hO17.form) | (refine wpList_alloc_row rfl 28 rfl (rpC rp0) (by kernel_rfl) ?_) | (refine wpList_store_whole rfl 28 _ _ rfl w17.heap.size (rpC (err 5)) (rpC rp0) ?_ ?_ 28 (alloc_blk _ _) (by kernel_rfl) (rpC_all _) rfl ?_; rfl; rfl))
                  intro w18 h18 hK18
                  have hB18 : Below w17.heap.size w17 w18 := (below_alloc _ _).trans (hK18.below (Nat.le_refl _) (by simp))
                  have hn18 : own17 w17.heap.size = none := hC17.owned.fresh (Nat.le_refl _)
                  have ho17 := ho14.step hS17 hZ15
                  have hT17 := hT15.trans (ho14.below hS17 hZ15)
                  have hC18 := hC17.below hB18
                  have hT18 := hT17.trans (hB18.mono hT17.size)
                  have hZ18 := hT18.size
                  have c12 := (hB18.block _ (lt_blk (hS17.keep b12 m12))).trans (hS17.keep b12 m12)
                  have cR2 := (hB18.block _ (lt_blk (hS17.keep bR mR))).trans (hS17.keep bR mR)
                  have c15 := (hB18.block _ (lt_blk (hS17.keep h15 hn15))).trans (hS17.keep h15 hn15)
                  have hEq : ∀ z, w18.cell? ⟨g, z, none⟩ = w12.cell? ⟨g, z, none⟩ := fun z => World.cell?_of_block (a := ⟨g, z, none⟩) (cR2.trans hR.symm)
                  have p1 : w18.cell? ⟨w11.heap.size, 1, none⟩ = some (.int .i64 (j : Int)) := cell_blk c12 1
                  have p2 : w18.cell? ⟨w11.heap.size, 2, none⟩ = some (.int .i64 (ep + 1)) := cell_blk c12 2
                  have p3 : w18.cell? ⟨w14.heap.size, 0, none⟩ = some (.int .i64 5) := cell_blk c15 0
                  have p4 : w18.cell? ⟨w17.heap.size, 0, none⟩ = some (.int .i64 5) := cell_blk h18 0
                  have z0 : w18.cell? ⟨g, 0, none⟩ = some (.int .i64 3) := (hEq 0).trans (hcg 0 _ rfl)
                  have z1 : w18.cell? ⟨g, 1, none⟩ = some (.int .i64 (j : Int)) := (hEq 1).trans (hcg 1 _ rfl)
                  have z2 : w18.cell? ⟨g, 2, none⟩ = some (.int .i64 ep) := (hEq 2).trans (hcg 2 _ rfl)
                  have z3 : w18.cell? ⟨g, 3, none⟩ = some (.int .i64 1) := (hEq 3).trans (hcg 3 _ rfl)
                  have z4 : w18.cell? ⟨g, 4, none⟩ = some (.int .i64 1) := (hEq 4).trans (hcg 4 _ rfl)
                  have z5 : w18.cell? ⟨g, 5, none⟩ = some (.int .i64 (j : Int)) := (hEq 5).trans (hcg 5 _ rfl)
                  have z6 : w18.cell? ⟨g, 6, none⟩ = some (.int .i64 (ep + 1)) := (hEq 6).trans (hcg 6 _ rfl)
                  have z7 : w18.cell? ⟨g, 7, none⟩ = some (.int .i64 0) := (hEq 7).trans (hcg 7 _ rfl)
                  clear hEq hcg cR2 hR c12 c15 hK18 hC17 hO17 hl17 hS17 hC15 hx5 hT17 hB18 h18 hn18 b12 m12 bR mR h15 hn15
                  obtain ⟨hj8, he0, he1⟩ := hE
                  go_wp2_with (go_at_call 15; refine (known_at _).mono ?_; rintro e w99 ⟨rfl, hB99⟩)
                  go_ret
                  exact ⟨rfl, hT18.trans (hB99.mono hT18.size)⟩
  · go_wp2_with fail
    go_ret
    exact ⟨rfl, Below.refl _ _⟩
end Go.Proofs.Ytoihfhlelbdboaa
namespace Go.Proofs.Ytoihfhlelbdboaa.coordFences
open Go.ChangeShapes Go.WideShapes Go.ChangeAt Go.RowKit Go.Dig
open Go.ChangeMaps (open_string shut_string)
set_option linter.unusedVariables false

theorem laidOut : laidOutB Try.prog = true := by kernel_rfl
theorem own : ownKnob Try.prog.godebug = none := by kernel_rfl

set_option maxRecDepth 100000 in
theorem lifted (os : Os) (started : os.Started) (H : Type) (enc : TypeId × Value → H) :
    ReturnsInHanded {} Try.checked os 5 .any (Rows.coordFencesSpec.pre6 enc Try.prog Try.f5 Rows.coordFencesRow.domain false) (Rows.coordFencesSpec.post enc Try.prog Try.f5 false true false false) := by
  refine returnsInHanded_of_change (C := Try.checked) own started (by kernel_rfl) Try.func5
    (ChangeSpec.witness6 (enc := enc) (C := Try.checked) false ⟨#[], #[.slice none 0 0, .int .i64 0, .bool false], []⟩ 8 (by kernel_rfl) (by kernel_rfl) (by kernel_rfl) (by kernel_rfl)) ?_
  intro W base args ds gs before hval0 hW hcnd _
  have hval : ∀ (j : Nat) t v, Try.f5.params[j]? = some t → args[j]? = some v → Value.okWide Try.prog W .any base t v := hval0
  have hW' := hW
  obtain ⟨p, q, hA0, hV, rfl, hfz, hnd⟩ := hW
  have hA : DataW.TrodAll enc Try.prog W 0 (fun _ => true) true Try.f5.params.toList args.toList ds p := hA0
  rw [Try.params5] at hA hval
  obtain ⟨v0, vs0, d0, ds0, p0, q0, hargs, rfl, rfl, h0, r0⟩ := trodAll_cons hA
  obtain ⟨v1, vs1, d1, ds1, p1, q1, rfl, rfl, rfl, h1, r1⟩ := trodAll_cons r0
  obtain ⟨v2, vs2, d2, ds2, p2, q2, rfl, rfl, rfl, h2, r2⟩ := trodAll_cons r1
  obtain ⟨rfl, rfl, rfl⟩ := trodAll_nil r2
  obtain rfl : args = #[v0, v1, v2] := by cases args; simp_all
  obtain ⟨rfl, rfl⟩ := trodVars_none hV
  have k0 := h0
  have lt0 : ∀ x ∈ p0, x.block < W.heap.size := by obtain ⟨m, hm⟩ := k0; exact DataW.trod_lt m _ _ _ hm
  obtain ⟨o0, len0, c0, rfl⟩ := okWide_slice Try.underlying22 (hval 0 22 v0 rfl rfl)
  obtain ⟨L0, rfl, l0, y0⟩ : ∃ L : List OpF, len0 = L.length ∧ OpsAt W o0 L ∧ ∀ y ∈ L, y.Wide := by
    obtain ⟨fuel, hf⟩ := h0
    exact ops_cells hf
  obtain ⟨a1, rfl, rfl, rfl, w1⟩ := open_int Try.underlying3 (hval 1 3 v1 rfl rfl) h1
  have b1 := wf_i64 w1
  obtain ⟨a2, rfl, rfl, rfl⟩ := open_bool Try.underlying4 (hval 2 4 v2 rfl rfl) h2
  clear hA0 hval0
  refine (Fences_law W o0 c0 L0 a1 a2 l0 y0).mono fun e W' ⟨he, bel⟩ => ?_
  subst he
  exact ⟨_, rfl, _, _, _, [], _, [], hW', trodAll_mk1 (shut_bool Try.underlying4 _), (trodAll_cons_mk (Below.trod laidOut (by kernel_rfl) (of_decide_eq_true (by kernel_rfl)) k0 bel lt0) (trodAll_cons_mk (shut_int Try.underlying3 w1) (trodAll_cons_mk (shut_bool Try.underlying4 _) trodAll_mk0))), rfl, bel.frame _, fun h => by cases h⟩

theorem over : Rows.coordFencesRow.holds Try.pinned (OpenSpec.ofChange Rows.coordFencesSpec) :=
  OpenClaim.holds_of_wide 5 Try.f5 rfl rfl rfl rfl rfl rfl rfl ⟨rfl, rfl, rfl, rfl, rfl⟩ rfl rfl rfl rfl rfl (by kernel_rfl) Try.func5 (by kernel_rfl)
    (of_decide_eq_true (by kernel_rfl)) (by unfold Func.isWrapper; first | (rw [if_pos (by decide +kernel)]; kernel_rfl) | (rw [if_neg (by decide +kernel)]; exact ⟨rfl, rfl⟩))
    (fun os started H enc _ => lifted os started H enc)

theorem proved : Rows.CoordFencesSaid := over
#print axioms proved
end Go.Proofs.Ytoihfhlelbdboaa.coordFences
