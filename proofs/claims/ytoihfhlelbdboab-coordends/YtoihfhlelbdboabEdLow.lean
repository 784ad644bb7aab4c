/- The open transaction that is told. -/
import Derived.Test.YtoihfhlelbdboabRows
import Derived.Test.YtoihfhlelbdboabCoF
import Derived.ProofKit
import Derived.OpenShut
import Derived.ShutString
import Derived.ChangeOld
import Derived.Deep.Slices
import Derived.Test.YtoihfhlelbdboabCoX
import Derived.Laws.StructEq
namespace Go.Proofs.Ytoihfhlelbdboab
open Go.ChangeShapes Go.WideShapes Go.ChangeAt Go.RowKit Go.Dig Go.Deep

theorem wf_i64 {n : Int} (h : (Lit.int .i64 n).wf = true) : -9223372036854775808 ≤ n ∧ n ≤ 9223372036854775807 := by
  simp [Lit.wf, IntKind.min, IntKind.max, IntKind.signed, IntKind.bits] at h; omega
theorem inI_of {n : Int} (h : (Lit.int .i64 n).wf = true) : inI n := wf_i64 h
set_option maxRecDepth 100000 in
theorem okWide_struct {w : World} {r : Reach} {base : Nat} {t : TypeId} {v : Value} {fs : Array Field} (ht : Try.prog.underlying t = some (.struct fs)) (h : Value.okWide Try.prog w r base t v) : ∃ cs, v = .agg cs := by
  simp only [Value.okWide, ht] at h
  obtain ⟨cs, h1, _⟩ := h
  exact ⟨cs, h1⟩
section
variable {H : Type} {enc : TypeId × Value → H} {W : World} {base : Nat} {spare : Nat → Bool} {held : Bool} {fuel : Nat} {cs : List Value} {x : DataW H × List MemPlace}
theorem int_cell (o : Nat) (h : DataW.trod enc Try.prog W base spare held fuel 3 ((cs.drop o).take (Try.prog.cellsOf 3)) = some x) : ∃ z : Int, cs[o]? = some (.int .i64 z) ∧ inI z := by
  have hc : Try.prog.cellsOf 3 = 1 := by kernel_rfl
  obtain ⟨z, e, _, hw⟩ := DataW.trod_int Try.underlying3 h
  rw [hc] at e
  refine ⟨z, ?_, inI_of hw⟩
  have := congrArg (fun l => l[0]?) e
  simpa [List.getElem?_take, List.getElem?_drop] using this
end
section
variable {H : Type} {enc : TypeId × Value → H} {W : World} {base : Nat} {spare : Nat → Bool} {held : Bool} {fuel : Nat} {cs : List Value} {x : DataW H × List MemPlace}
set_option maxRecDepth 100000 in
/-- an operation's cells -/
theorem op_cells (h : DataW.trod enc Try.prog W base spare held fuel 32 cs = some x) : ∃ (k c s : Int) (n : ByteArray) (p e t r : Int) (b : Bool), cs = (opC k c s n p e t r b).toList ∧ inI k ∧ inI c ∧ inI s ∧ n.size ≤ maxLen ∧ inI p ∧ inI e ∧ inI t ∧ inI r := by
  obtain ⟨xs, m, _, rfl, hl, hlen, hf⟩ := DataW.trod_struct Try.underlying32 h
  have hc : Try.prog.cellsOf 32 = 9 := by kernel_rfl
  have hcs : Try.prog.cellsOf 9 = 1 := by kernel_rfl
  have hcb : Try.prog.cellsOf 4 = 1 := by kernel_rfl
  rw [hc] at hl
  match xs, hlen with
  | [y0, y1, y2, y3, y4, y5, y6, y7, y8], _ =>
    obtain ⟨k, e0, i0⟩ := int_cell 0 (hf 0 _ rfl)
    obtain ⟨c, e1, i1⟩ := int_cell 1 (hf 1 _ rfl)
    obtain ⟨s, e2, i2⟩ := int_cell 2 (hf 2 _ rfl)
    have g3 : DataW.trod enc Try.prog W base spare held m 9 ((cs.drop 3).take (Try.prog.cellsOf 9)) = some y3 := hf 3 _ rfl
    obtain ⟨p, e4, i4⟩ := int_cell 4 (hf 4 _ rfl)
    obtain ⟨e, e5, i5⟩ := int_cell 5 (hf 5 _ rfl)
    obtain ⟨t, e6, i6⟩ := int_cell 6 (hf 6 _ rfl)
    obtain ⟨r, e7, i7⟩ := int_cell 7 (hf 7 _ rfl)
    have g8 : DataW.trod enc Try.prog W base spare held m 4 ((cs.drop 8).take (Try.prog.cellsOf 4)) = some y8 := hf 8 _ rfl
    obtain ⟨n, hn, _, hnl⟩ := DataW.trod_string Try.underlying9 g3
    obtain ⟨b, hb, _⟩ := DataW.trod_bool Try.underlying4 g8
    rw [hcs] at hn
    rw [hcb] at hb
    match cs, hl with
    | [c0, c1, c2, c3, c4, c5, c6, c7, c8], _ =>
      simp at e0 e1 e2 hn e4 e5 e6 e7 hb
      subst e0 e1 e2 hn e4 e5 e6 e7 hb
      exact ⟨k, c, s, n, p, e, t, r, b, rfl, i0, i1, i2, hnl, i4, i5, i6, i7⟩
end
section
variable {H : Type} {enc : TypeId × Value → H} {W : World} {r : Reach} {b0 base : Nat} {spare : Nat → Bool} {held : Bool} {v : Value} {d : DataW H} {ps : List MemPlace}
set_option maxRecDepth 100000 in
theorem open_op (hval : Value.okWide Try.prog W r b0 32 v) (h : DataW.Trod enc Try.prog W base spare held 32 v d ps) : ∃ (k c s : Int) (n : ByteArray) (p e t r : Int) (b : Bool), v = .agg (opC k c s n p e t r b) ∧ inI k ∧ inI c ∧ inI s ∧ n.size ≤ maxLen ∧ inI p ∧ inI e ∧ inI t ∧ inI r := by
  obtain ⟨cs, rfl⟩ := okWide_struct Try.underlying32 hval
  obtain ⟨fuel, hf⟩ := h
  obtain ⟨k, c, s, n, p, e, t, r, b, hc, hi⟩ := op_cells hf
  exact ⟨k, c, s, n, p, e, t, r, b, congrArg Value.agg (Array.toList_inj.1 hc), hi⟩
end
end Go.Proofs.Ytoihfhlelbdboab
namespace Go.Proofs.Ytoihfhlelbdboab
open Go.RowKit Go.Dig Go.Inv Go.Oct Go.Hold
set_option linter.unusedVariables false
set_option linter.unusedSimpArgs false

def coC (a b : Option Addr) : Array Value := #[.pointer a, .pointer b, .slice none 0 0, .int .i64 0]
theorem coS_none (w : World) (cb pb rb : Nat) (hc : w.heap[cb]? = some (.cells (coC (some ⟨pb, 0, none⟩) (some ⟨rb, 0, none⟩)) 51 (0, 0))) (hp : Pp.Tab w pb []) (hr : Rp.Tab w rb []) (h1 : cb ≠ pb) (h2 : cb ≠ rb) (h3 : pb ≠ rb) :
    CoS (fun k => if k = cb then some .co else if k = pb then some .tp else if k = rb then some .tr else none) w cb Co.none pb rb (.slice none 0 0) [] := by
  refine ⟨fun k l hk => ?_, hc, by simp, by simp [h1.symm], by simp [h2.symm, h3.symm], hp, hr, OwnM.nil _ _, fun k hk => (by cases hk), rfl, fun i p hi => by simp [Co.none] at hi⟩
  try dsimp only at hk
  split at hk
  · rename_i e; subst e; exact lt_blk hc
  · split at hk
    · rename_i e; subst e; exact hp.lt
    · split at hk
      · rename_i e; subst e; exact hr.lt
      · cases hk
set_option maxRecDepth 100000 in
set_option maxHeartbeats 1000000 in
theorem prepare_new (w : World) (cb : Nat) (hc : w.heap[cb]? = some (.cells (coC none none) 51 (0, 0))) :
    Calls Try.prog 16 #[.pointer (some ⟨cb, 0, none⟩)] w fun e w' => (∃ v, e = .returned v) ∧ ∃ pb rb, w'.heap[cb]? = some (.cells (coC (some ⟨pb, 0, none⟩) (some ⟨rb, 0, none⟩)) 51 (0, 0)) ∧ Pp.Tab w' pb [] ∧ Rp.Tab w' rb [] ∧ w.heap.size ≤ pb ∧ pb < rb ∧ Frm (· = cb) w w' := by
  have c0 : w.cell? ⟨cb, 0, none⟩ = some (.pointer none) := cell_blk hc 0
  have hcl := lt_blk hc
  go_enter Try.func16, Try.ntmps16
  go_wp2_with fail
  refine (Pp.New_any _).mono ?_
  rintro e w1 ⟨rfl, hT1, hB1⟩
  have hb1 := (hB1.block _ hcl).trans hc
  have d0 : w1.cell? ⟨cb, 0, none⟩ = some (.pointer none) := cell_blk hb1 0
  have f0 := frozen_blk hb1 0
  have hb2 := set_blk hb1 0 (.pointer (some ⟨w.heap.size, 0, none⟩))
  have hT2 : Pp.Tab (w1.setCell ⟨cb, 0, none⟩ (.pointer (some ⟨w.heap.size, 0, none⟩))) w.heap.size [] := hT1.frmL (Frm.setCell _ _ _ _) (by omega) (fun k e z => by subst e; rw [cell_blk hb1]; simp [coC])
  have hF2 : Frm (· = cb) w (w1.setCell ⟨cb, 0, none⟩ (.pointer (some ⟨w.heap.size, 0, none⟩))) := (Frm.of_below hB1).trans (Frm.setCell _ _ _ _)
  obtain ⟨w2, HW2⟩ : ∃ w2, Hid (w1.setCell ⟨cb, 0, none⟩ (.pointer (some ⟨w.heap.size, 0, none⟩)) = w2) := ⟨_, rfl⟩
  rw [HW2.out] at hb2 hT2 hF2
  have HT2 : Hid (Pp.Tab w2 w.heap.size []) := hT2
  have HF2 : Hid (Frm (· = cb) w w2) := hF2
  have HB2 : Hid (w2.heap[cb]? = some (.cells (coC (some ⟨w.heap.size, 0, none⟩) none) 51 (0, 0))) := hb2
  clear hT2 hF2 hb2 hT1 hB1 hb1 c0 hc
  go_wp2_with (rw [HW2.out])
  refine (Rp.New_any _).mono ?_
  rintro e w3 ⟨rfl, hT3, hB3⟩
  have hb3 := (hB3.block _ (lt_blk HB2.out)).trans HB2.out
  have d1 : w3.cell? ⟨cb, 1, none⟩ = some (.pointer none) := cell_blk hb3 1
  have f1 := frozen_blk hb3 1
  have hne : w2.heap.size ≠ cb := by have := lt_blk HB2.out; omega
  have hsz : w.heap.size < w2.heap.size := HT2.out.lt
  have hpc : w.heap.size ≠ cb := by omega
  clear d0 f0
  go_wp2_with fail
  have hlo : ∀ k, k = cb → (∀ z, w3.cell? ⟨k, 3, none⟩ ≠ some (.pointer z)) ∧ ∀ z, w3.cell? ⟨k, 5, none⟩ ≠ some (.pointer z) := fun k e => by
    subst e
    exact ⟨fun z => by rw [cell_blk hb3]; simp [coC], fun z => by rw [cell_blk hb3]; simp [coC]⟩
  exact bodyPost_end (v := .tuple #[]) (by simp [results, Try.results16, go_sem]) rfl ⟨⟨_, rfl⟩, w.heap.size, w2.heap.size, set_blk hb3 1 (.pointer (some ⟨w2.heap.size, 0, none⟩)), (HT2.out.grow hB3).frmL (Frm.setCell _ _ _ _) hpc (fun k e => (hlo k e).1), hT3.frmL (Frm.setCell _ _ _ _) hne (fun k e => (hlo k e).2), Nat.le_refl _, hsz, (HF2.out.trans (Frm.of_below hB3)).trans (Frm.setCell _ _ _ _)⟩
set_option maxRecDepth 100000 in
set_option maxHeartbeats 1000000 in
theorem New_at (w : World) : Calls Try.prog 6 #[] w fun e w' => ∃ own, e = .returned (.pointer (some ⟨w.heap.size, 0, none⟩)) ∧ CoAt own w' w.heap.size Co.none ∧ Over w.heap.size own ∧ Below w.heap.size w w' := by
  have hB0 := below_alloc w (.cells (coC none none) 51)
  have hc : (w.alloc (.cells (coC none none) 51)).heap[w.heap.size]? = some (.cells (coC none none) 51 (0, 0)) := alloc_blk _ _
  go_enter Try.func6, Try.ntmps6
  go_wp2_with (first | (refine wpList_build_to rfl 51 _ rfl (coC none none) (by kernel_rfl) ?_) | (refine wpList_box_row rfl 51 _ rfl (coC none none) ?_ ?_; rfl) | (go_at_call 16; refine (prepare_new _ w.heap.size hc).mono ?_; rintro e w1 ⟨⟨v1, rfl⟩, pb, rb, h1, h2, h3, h4, h5, h6⟩))
  have hs : (w.alloc (.cells (coC none none) 51)).heap.size = w.heap.size + 1 := by simp
  go_ret
  refine ⟨_, rfl, ⟨pb, rb, _, [], coS_none w1 w.heap.size pb rb h1 h2 h3 (by omega) (by omega) (by omega)⟩, fun k l hk => ?_, hB0.trans (h6.below (by omega) (fun k hk e => by omega))⟩
  try dsimp only at hk
  split at hk
  · omega
  · split at hk
    · omega
    · split at hk
      · omega
      · cases hk
end Go.Proofs.Ytoihfhlelbdboab
namespace Go.Proofs.Ytoihfhlelbdboab
open Go.RowKit Go.Dig Go.Inv Go.Oct Go.Hold
set_option linter.unusedVariables false
set_option linter.unusedSimpArgs false

def Mk.eqB (m n : Mk) : Bool := m.k == n.k && (m.p == n.p && (m.e == n.e && m.t == n.t))
def rpE (r s : Rp.Rp3) : Bool := r.err == s.err && (r.pr == s.pr && r.ep == s.ep)
theorem Mk.eqB_self (m : Mk) : m.eqB m = true := by simp [Mk.eqB]
theorem rpE_self (r : Rp.Rp3) : rpE r r = true := by simp [rpE]
theorem equal_mk (m n : Mk) (w : World) : (Op.equalIn 10000 65 (.agg m.cells) (.agg n.cells)).run Try.prog w = .ok (m.eqB n) w := by
  have h := run_equalIn_struct (P := Try.prog) w 9999 65 m.cells n.cells (by kernel_rfl) (by kernel_rfl)
  refine h.trans ?_
  have hf : (Try.prog.fieldsOf 65).toList.map (fun f => (f.type, f.offset)) = [(3, 0), (3, 1), (3, 2), (3, 3)] := by kernel_rfl
  clear h hf
  simp [Op.eqFields, Mk.cells, Mk.eqB, go_sem]
  repeat' split
  all_goals simp_all
theorem equal_rp (r s : Rp.Rp3) (w : World) : (Op.equalIn 10000 27 (.agg (rpC r)) (.agg (rpC s))).run Try.prog w = .ok (rpE r s) w := by
  have h := run_equalIn_struct (P := Try.prog) w 9999 27 (rpC r) (rpC s) (by kernel_rfl) (by kernel_rfl)
  refine h.trans ?_
  have hf : (Try.prog.fieldsOf 27).toList.map (fun f => (f.type, f.offset)) = [(25, 0), (3, 1), (3, 2)] := by kernel_rfl
  clear h hf
  simp [Op.eqFields, rpC, rpE, go_sem]
  repeat' split
  all_goals simp_all
/-- Apply of one that may be, its answer known -/
theorem apply_lit (own : Own) (w : World) (cb : Nat) (x : Co) (n : Nat) (h : CoAt own w cb x) (o : OpF) (hin : o.In) (hi : x.Inv n) (hn : n ≤ 1000) (hb : o.ok = true) (r : Rp.Rp3) (ms : List Mk) (x' : Co) (hx : x.apply true o = (r, ms, x')) :
    Calls Try.prog 7 #[.pointer (some ⟨cb, 0, none⟩), .agg o.cells] w fun e w' => ApR own w cb r ms x' e w' ∧ x'.Inv (n + 1) := by
  refine (apply_at own w cb x n h o hin.wide hi hn).mono fun e w' h => ?_
  rw [hb, hx] at h
  have := hi.apply true o
  rw [hx] at this
  exact ⟨h, this⟩
def op1 : OpF := ⟨1, 0, 0, ⟨#[97]⟩, 0, 0, 0, 0, false⟩
def op2 : OpF := ⟨2, 0, 1, ⟨#[]⟩, 0, 0, 1, 0, false⟩
def op3 : OpF := ⟨3, 0, 2, ⟨#[]⟩, 0, 0, 1, 0, true⟩
def co1 : Co := ⟨[⟨⟨#[97]⟩, 0, [], none⟩], [(0, ⟨0, 0, 0⟩)], [⟨1, 0, 0, 0⟩], 0⟩
def co2 : Co := ⟨[⟨⟨#[97]⟩, 0, [], some (0, [true, false, false, false])⟩], [(0, ⟨0, 0, 0⟩), (1, ⟨0, 0, 0⟩)], [⟨1, 0, 0, 0⟩], 0⟩
def co3 : Co := ⟨[⟨⟨#[97]⟩, 0, [2], none⟩], [(0, ⟨0, 0, 0⟩), (1, ⟨0, 0, 0⟩), (2, ⟨0, 0, 0⟩)], [⟨1, 0, 0, 0⟩, ⟨2, 0, 0, 1⟩], 0⟩
theorem op1_in : op1.In := by constructor <;> simp [op1, inI] <;> decide
theorem op2_in : op2.In := by constructor <;> simp [op2, inI] <;> decide
theorem op3_in : op3.In := by constructor <;> simp [op3, inI] <;> decide
theorem op1_ok : op1.ok = true := by kernel_rfl
theorem op2_ok : op2.ok = true := by kernel_rfl
theorem op3_ok : op3.ok = true := by kernel_rfl
theorem co1_eq : Co.none.apply true op1 = (⟨0, 0, 0⟩, [⟨1, 0, 0, 0⟩], co1) := by kernel_rfl
theorem co2_eq : co1.apply true op2 = (⟨0, 0, 0⟩, [], co2) := by kernel_rfl
theorem co3_eq : co2.apply true op3 = (⟨0, 0, 0⟩, [⟨2, 0, 0, 1⟩], co3) := by kernel_rfl
end Go.Proofs.Ytoihfhlelbdboab
namespace Go.Proofs.Ytoihfhlelbdboab
open Go.RowKit Go.Dig Go.Inv Go.Oct Go.Hold
set_option linter.unusedVariables false
set_option linter.unusedSimpArgs false

/-- a block without a label lies on -/
theorem Step.keep {P : Lab → Prop} {own own' : Own} {w w' : World} (h : Step P own own' w w') {k : Nat} {o : Obj} (hk : w.heap[k]? = some o) (hn : own k = none) : w'.heap[k]? = some o :=
  (h.block (lt_blk hk) fun l e => by rw [hn] at e; cases e).trans hk
theorem Step.unlab {P : Lab → Prop} {own own' : Own} {w w' : World} (h : Step P own own' w w') {k : Nat} {o : Obj} (hk : w.heap[k]? = some o) (hn : own k = none) : own' k = none := (h.old k (lt_blk hk)).trans hn
theorem CoAt.owned {own : Own} {w : World} {cb : Nat} {x : Co} (h : CoAt own w cb x) : Owned own w := by obtain ⟨_, _, _, _, h⟩ := h; exact h.owned
theorem Owned.fresh {own : Own} {w : World} (h : Owned own w) {k : Nat} (hk : w.heap.size ≤ k) : own k = none := by
  cases hh : own k with
  | none => rfl
  | some l => have := h k l hh; omega
/-- a row of marks, cell by cell -/
theorem OwnM.cell1 {w : World} {base : Nat} {v : Value} {m : Mk} (h : OwnM w base v [m]) : ∃ g c, v = .slice (some ⟨g, 0, none⟩) 1 c ∧ base ≤ g ∧ ∀ j u, (mkC [m])[j]? = some u → w.cell? ⟨g, j, none⟩ = some u := by
  obtain ⟨ao, c, rfl⟩ := h.form
  rcases h.1.2 with ⟨e, h0⟩ | ⟨g, cap, cur, e, hb, _⟩
  · simp at h0
  · cases e
    refine ⟨g, c, rfl, hb, fun j u hu => ?_⟩
    have := h.cells.2 j u hu
    rwa [addr_add, Nat.zero_add] at this
set_option maxRecDepth 100000 in
set_option maxHeartbeats 4000000 in
theorem known_at (w : World) : Calls Try.prog 10 #[] w fun e w' => e = .returned (.bool true) ∧ Below w.heap.size w w' := by
  go_enter Try.func10, Try.ntmps10
  go_wp2_with (first | (refine wpList_build_to rfl 32 #[(0, .const (.int .i64 1)), (3, .const (.string ⟨#[97]⟩))] rfl op1.cells (by kernel_rfl) ?_) | (go_at_call 6; refine (New_at _).mono ?_; rintro e w1 ⟨own1, rfl, h1, ho1, hB1⟩) | (go_at_call 7; refine (apply_lit own1 _ _ Co.none 0 h1 op1 op1_in Co.inv_none (by omega) op1_ok _ _ _ co1_eq).mono ?_; rintro e w2 ⟨⟨v2, own2, rfl, hO2, hl2, hC2, hS2⟩, hI2⟩) | (refine wpList_alloc_row rfl 27 rfl (rpC rp0) (by kernel_rfl) ?_) | (refine wpList_store_whole rfl 27 _ _ rfl w2.heap.size (rpC ⟨0, 0, 0⟩) (rpC rp0) ?_ ?_ 27 (alloc_blk _ _) (by kernel_rfl) (rpC_all _) rfl ?_; rfl; rfl))
  intro w3 h3 hK3
  have hB3 : Below w2.heap.size w2 w3 := (below_alloc _ _).trans (hK3.below (Nat.le_refl _) (by simp))
  have hO2' := ho1.step hS2 hB1.size
  have hBt2 : Below w.heap.size w w2 := hB1.trans (ho1.below hS2 hB1.size)
  obtain ⟨g2, n2, rfl, hg2, hc2⟩ := hO2.cell1
  have hgl2 : g2 < w2.heap.size := (hO2.lt g2 rfl).2
  have hn2 : own2 g2 = none := hl2 g2 rfl
  have hz2 : own2 w2.heap.size = none := hC2.owned.fresh (Nat.le_refl _)
  have hC3 := hC2.below hB3
  clear hC2 hO2 hl2 h1 hS2 ho1
  go_wp2_with (first | (refine wpList_build_to rfl 32 #[(0, .const (.int .i64 2)), (2, .const (.int .i64 1)), (6, .const (.int .i64 1))] rfl op2.cells (by kernel_rfl) ?_) | (refine wpList_build_to rfl 32 #[(0, .const (.int .i64 3)), (2, .const (.int .i64 2)), (6, .const (.int .i64 1)), (8, .const (.bool true))] rfl op3.cells (by kernel_rfl) ?_) | (go_at_call 7; refine (apply_lit own2 _ _ co1 1 hC3 op2 op2_in hI2 (by omega) op2_ok _ _ _ co2_eq).mono ?_; rintro e w4 ⟨⟨v4, own4, rfl, hO4, hl4, hC4, hS4⟩, hI4⟩; have hL4 : w.heap.size ≤ w3.heap.size := Nat.le_trans hBt2.size hB3.size; have hBt4 := (hBt2.trans (hB3.mono hBt2.size)).trans ((hO2'.below hS4 hL4)); have h4 := hS4.keep h3 hz2; have hO4' := hO2'.step hS4 hL4; have hn4 := (hS4.old g2 (Nat.lt_of_lt_of_le hgl2 hB3.size)).trans hn2; have hz4 := (hS4.old _ (lt_blk h3)).trans hz2; have hE4 : ∀ j, w4.cell? ⟨g2, j, none⟩ = w2.cell? ⟨g2, j, none⟩ := fun j => (World.cell?_of_block (a := ⟨g2, j, none⟩) (hS4.block (Nat.lt_of_lt_of_le hgl2 hB3.size) fun l e => by rw [hn2] at e; cases e)).trans (World.cell?_of_block (a := ⟨g2, j, none⟩) (hB3.block g2 hgl2)); clear hS4 hC3 hI2) | (go_at_call 7; refine (apply_lit own4 _ _ co2 2 hC4 op3 op3_in hI4 (by omega) op3_ok _ _ _ co3_eq).mono ?_; rintro e w6 ⟨⟨v6, own6, rfl, hO6, hl6, hC6, hS6⟩, hI6⟩) | (refine wpList_alloc_row rfl 27 rfl (rpC rp0) (by kernel_rfl) ?_) | (refine wpList_store_whole rfl 27 _ _ rfl w6.heap.size (rpC ⟨0, 0, 0⟩) (rpC rp0) ?_ ?_ 27 (alloc_blk _ _) (by kernel_rfl) (rpC_all _) rfl ?_; rfl; rfl))
  intro w7 h7 hK7
  have hB7 : Below w6.heap.size w6 w7 := (below_alloc _ _).trans (hK7.below (Nat.le_refl _) (by simp))
  have hL4 : w.heap.size ≤ w4.heap.size := hBt4.size
  have hBt6 : Below w.heap.size w w6 := hBt4.trans (hO4'.below hS6 hL4)
  have hBt7 : Below w.heap.size w w7 := hBt6.trans (hB7.mono hBt6.size)
  obtain ⟨g6, n6, rfl, hg6, hc6⟩ := hO6.cell1
  have hgl6 : g6 < w6.heap.size := (hO6.lt g6 rfl).2
  have hcl4 : g2 < w4.heap.size := by have := lt_blk h4; omega
  have hh : w7.heap[w2.heap.size]? = some (.cells (rpC ⟨0, 0, 0⟩) 27 (0, 0)) := (hB7.block _ (Nat.lt_of_lt_of_le (lt_blk h4) hS6.size)).trans (hS6.keep h4 hz4)
  have r0 : w7.cell? ⟨w2.heap.size, 0, none⟩ = some (.int .i64 0) := cell_blk hh 0
  have m0 : w7.cell? ⟨g2, 0, none⟩ = some (.int .i64 1) := by
    refine (hB7.cell (p := ⟨g2, 0, none⟩) (Nat.lt_of_lt_of_le hcl4 hS6.size)).trans ((World.cell?_of_block (a := ⟨g2, 0, none⟩) (hS6.block hcl4 fun l e => by rw [hn4] at e; cases e)).trans ((hE4 0).trans (hc2 0 _ rfl)))
  have n0 : ∀ j u, (mkC [⟨2, 0, 0, 1⟩])[j]? = some u → w7.cell? ⟨g6, j, none⟩ = some u := fun j u hu => (hB7.cell (p := ⟨g6, j, none⟩) hgl6).trans (hc6 j u hu)
  have q0 : w7.cell? ⟨g6, 0, none⟩ = some (.int .i64 2) := n0 0 _ rfl
  have q1 : w7.cell? ⟨g6, 1, none⟩ = some (.int .i64 0) := n0 1 _ rfl
  have q2 : w7.cell? ⟨g6, 2, none⟩ = some (.int .i64 0) := n0 2 _ rfl
  have q3 : w7.cell? ⟨g6, 3, none⟩ = some (.int .i64 1) := n0 3 _ rfl
  clear n0 hc6
  clear hB7 hK7 h7 hC6 hS6 hI6 hO6 hl6 hO4' hC4 hO4 hl4 hI4 hE4 hBt4 hBt6 h4 hz4 hn4 hh hB3 hK3 h3 hc2 hn2 hz2 hO2'
  go_wp2_with fail
  go_ret
  exact ⟨rfl, hBt7⟩
end Go.Proofs.Ytoihfhlelbdboab
namespace Go.Proofs.Ytoihfhlelbdboab
open Go.ChangeShapes Go.WideShapes Go.ChangeAt Go.RowKit Go.Dig Go.Inv Go.Oct Go.Hold Go.Deep
set_option linter.unusedVariables false
set_option linter.unusedSimpArgs false

/-- a row of operations -/
def OpsAt (w : World) (a : Option Addr) (L : List OpF) : Prop := L ≠ [] → ∃ b o, a = some ⟨b, o, none⟩ ∧ ∀ (j : Nat) (x : OpF), L[j]? = some x → ∀ i, i < 9 → w.cell? ⟨b, o + j * 9 + i, none⟩ = x.cells[i]?
theorem cells_op : Try.prog.cellsOf 32 = 9 := by kernel_rfl
theorem OpF.cells_none (x : OpF) {i : Nat} (h : ¬ i < 9) : x.cells[i]? = none := by
  rw [Array.getElem?_eq_none_iff]; simp [OpF.cells, opC]; omega
theorem OpsAt.below {w w' : World} {B : Nat} {a : Option Addr} {L : List OpF} (h : OpsAt w a L) (hB : Below B w w') (hl : ∀ x : Addr, a = some x → x.block < B) : OpsAt w' a L := fun hn => by
  obtain ⟨b, o, rfl, hc⟩ := h hn
  exact ⟨b, o, rfl, fun j x hx i hi => (hB.cell (p := ⟨b, o + j * 9 + i, none⟩) (hl ⟨b, o, none⟩ rfl : b < B)).trans (hc j x hx i hi)⟩
theorem op_add_add (a : Addr) (i j : Nat) : (a.add i).add j = a.add (i + j) := by
  unfold Addr.add
  by_cases hi : i = 0
  · subst hi; simp
  · by_cases hj : j = 0
    · subst hj; simp [hi]
    · simp [hi, hj, Nat.add_assoc]
def OpF.zero : OpF := ⟨0, 0, 0, ⟨#[]⟩, 0, 0, 0, 0, false⟩
section
variable {H : Type} {enc : TypeId × Value → H} {W : World} {base : Nat} {spare : Nat → Bool} {held : Bool} {fuel : Nat} {cs : List Value} {x : DataW H × List MemPlace}
theorem ops_cells {a : Option Addr} {len cap : Nat} (h : DataW.trod enc Try.prog W base spare held fuel 40 [.slice a len cap] = some x) : ∃ L : List OpF, len = L.length ∧ OpsAt W a L ∧ (∀ o ∈ L, o.Wide) := by
  rcases open_slice Try.underlying40 h with ⟨hcs, _⟩ | ⟨ad, l, c, m, n, D, Pl, hcs, _, hl, hm, hmm, _, hx⟩
  · simp at hcs
    obtain ⟨rfl, rfl, rfl⟩ := hcs
    exact ⟨[], rfl, fun hp => absurd rfl hp, fun y hy => by cases hy⟩
  · simp at hcs
    obtain ⟨rfl, rfl, rfl⟩ := hcs
    have hlm : len ≤ m := by rw [hmm]; split <;> omega
    have each : ∀ i, i < len → ∃ y : OpF, (∀ j, j < 9 → W.cell? (ad.add (i * 9 + j)) = y.cells[j]?) ∧ y.Wide := by
      intro i hi
      obtain ⟨cs', h1, h2⟩ := hx i (by omega)
      rw [cells_op] at h1
      obtain ⟨_, hlen, hcell⟩ := World.cells?_some h1
      obtain ⟨k, c, s, n, p, e, t, r, b, hy, i0, i1, i2, i3, i4, i5, i6, i7⟩ := op_cells h2
      refine ⟨⟨k, c, s, n, p, e, t, r, b⟩, fun j hj => ?_, ⟨i0, i1, i2, i4, i5, i6, i7, Nat.lt_of_le_of_lt (show n.size ≤ 2 ^ 63 - 1 from i3) (by decide)⟩⟩
      have hc := hcell j hj
      rw [hy, Array.getElem?_toList] at hc
      rw [← op_add_add]
      exact hc.symm ▸ rfl
    obtain ⟨f, hf, hfw⟩ : ∃ f : Nat → OpF, (∀ i, i < len → ∀ j, j < 9 → W.cell? (ad.add (i * 9 + j)) = (f i).cells[j]?) ∧ ∀ i, i < len → (f i).Wide := by
      refine ⟨fun i => if h : i < len then (each i h).choose else OpF.zero, fun i hi => ?_, fun i hi => ?_⟩
      · simp only [dif_pos hi]
        exact (each i hi).choose_spec.1
      · simp only [dif_pos hi]
        exact (each i hi).choose_spec.2
    refine ⟨(List.range len).map f, by simp, fun hp => ?_, fun y hy => ?_⟩
    · have h0 : 0 < len := by
        have := List.length_pos_iff.2 hp
        simpa using this
      obtain ⟨g, off, sp⟩ := ad
      have hs : sp = none := by
        have h0 := hf 0 (by omega) 0 (by omega)
        have := spot_none h0
        simpa [Addr.add] using this
      subst hs
      refine ⟨g, off, rfl, fun j x hx i hi => ?_⟩
      have hj' : j < len := by
        have := (List.getElem?_eq_some_iff.1 hx).1
        simpa using this
      have e : x = f j := by
        rw [List.getElem?_map, List.getElem?_range hj'] at hx
        simpa using hx.symm
      subst e
      have := hf j hj' i hi
      rw [addr_add, ← Nat.add_assoc] at this
      exact this
    · obtain ⟨i, hi, rfl⟩ := List.mem_map.1 hy
      exact hfw i (by simpa using hi)
end
set_option maxRecDepth 100000 in
set_option maxHeartbeats 4000000 in
/-- whether operations are long: it answers, and leaves all as it is -/
theorem long_at (w : World) (a : Option Addr) (cap : Nat) (L : List OpF) (hL : OpsAt w a L) : Calls Try.prog 12 #[.slice a L.length cap] w fun e w' => (∃ b, e = .returned (.bool b)) ∧ w' = w := by
  go_enter Try.func12, Try.ntmps12
  go_wp2
  go_loopw [3, 4] (fun nv iv wr => ∃ (i : Nat) (N : Int), i ≤ L.length ∧ i ≤ 80 ∧ iv = .int .i64 (i : Int) ∧ nv = .int .i64 N ∧ wr = w) (fun _ iv _ => 80 - (intOf iv).toNat)
  case atStart => exact ⟨0, 0, Nat.zero_le _, Nat.zero_le _, rfl, rfl, rfl⟩
  case round =>
    obtain ⟨i, N, hi, h80, rfl, rfl, rfl⟩ := hrel
    by_cases hlt : i < L.length
    · by_cases h79 : i < 80
      · obtain ⟨b, o, rfl, hcell⟩ := hL (by rintro rfl; simp at hlt)
        obtain ⟨x, hx⟩ : ∃ x, L[i]? = some x := ⟨L[i], List.getElem?_eq_getElem hlt⟩
        have c3 : wr.cell? ⟨b, o + i * 9 + 3, none⟩ = some (.string x.n) := hcell i x hx 3 (by decide)
        have hlt' : (i : Int) < (L.length : Int) := by omega
        have h79' : (i : Int) < 80 := by omega
        clear hcell hL hx
        go_wp2
        · go_ret
          exact ⟨⟨_, rfl⟩, rfl⟩
        · exact ⟨⟨i + 1, _, by omega, by omega, by go_num, rfl, trivial⟩, by simp [intOf]; omega⟩
      · obtain rfl : i = 80 := by omega
        have hlt' : ((80 : Nat) : Int) < (L.length : Int) := by omega
        go_wp2
        go_ret
        exact ⟨⟨_, rfl⟩, rfl⟩
    · obtain rfl : i = L.length := by omega
      go_wp2
      go_ret
      exact ⟨⟨_, rfl⟩, rfl⟩
/-- the cells of one of a row -/
theorem OpsAt.get {w : World} {a : Option Addr} {L : List OpF} (h : OpsAt w a L) {i : Nat} {x : OpF} (hx : L[i]? = some x) : ∃ b o, a = some ⟨b, o, none⟩ ∧ w.cell? ⟨b, o + i * 9, none⟩ = some (.int .i64 x.k) ∧ w.cell? ⟨b, o + i * 9 + 1, none⟩ = some (.int .i64 x.c) ∧ w.cell? ⟨b, o + i * 9 + 2, none⟩ = some (.int .i64 x.s) ∧ w.cell? ⟨b, o + i * 9 + 3, none⟩ = some (.string x.n) ∧ w.cell? ⟨b, o + i * 9 + 4, none⟩ = some (.int .i64 x.p) ∧ w.cell? ⟨b, o + i * 9 + 5, none⟩ = some (.int .i64 x.e) ∧ w.cell? ⟨b, o + i * 9 + 6, none⟩ = some (.int .i64 x.t) ∧ w.cell? ⟨b, o + i * 9 + 7, none⟩ = some (.int .i64 x.r) ∧ w.cell? ⟨b, o + i * 9 + 8, none⟩ = some (.bool x.b) := by
  obtain ⟨b, o, e, hc⟩ := h (by rintro rfl; simp at hx)
  exact ⟨b, o, e, hc i x hx 0 (by decide), hc i x hx 1 (by decide), hc i x hx 2 (by decide), hc i x hx 3 (by decide), hc i x hx 4 (by decide), hc i x hx 5 (by decide), hc i x hx 6 (by decide), hc i x hx 7 (by decide), hc i x hx 8 (by decide)⟩
/-- all operations of a row are applied -/
def Co.all (x : Co) : List OpF → Co
  | [] => x
  | o :: r => ((x.apply o.ok o).2.2).all r
theorem Co.all_snoc : ∀ (x : Co) (l : List OpF) (o : OpF), x.all (l ++ [o]) = ((x.all l).apply o.ok o).2.2
  | x, [], o => rfl
  | x, a :: r, o => by simp only [List.cons_append, Co.all]; exact Co.all_snoc _ r o
theorem Co.all_inv : ∀ {x : Co} {n : Nat} (l : List OpF), x.Inv n → (x.all l).Inv (n + l.length)
  | x, n, [], h => h
  | x, n, a :: r, h => by
    have := Co.all_inv r (h.apply a.ok a)
    simp only [Co.all, List.length_cons]
    rw [show n + (r.length + 1) = n + 1 + r.length by omega]
    exact this
theorem take_snoc {L : List OpF} {j : Nat} {o : OpF} (h : L[j]? = some o) : L.take (j + 1) = L.take j ++ [o] := by
  rw [List.take_add_one, h]; rfl
end Go.Proofs.Ytoihfhlelbdboab
namespace Go.Proofs.Ytoihfhlelbdboab
open Go.RowKit Go.Dig Go.Inv Go.Oct Go.Hold
set_option linter.unusedVariables false
set_option linter.unusedSimpArgs false

/-- all keys lie below -/
def KeysLt (x : Co) (K : Int) : Prop := ∀ z ∈ x.rs, z.1 < K
theorem look_lt : ∀ {l : List (Int × Rp.Rp3)} {K : Int}, (∀ z ∈ l, z.1 < K) → lookL K l = none
  | [], K, h => rfl
  | (a, b) :: r, K, h => by
    unfold lookL
    have := h (a, b) (List.mem_cons_self ..)
    rw [if_neg (by simp at this; omega)]
    exact look_lt fun z hz => h z (List.mem_cons_of_mem _ hz)
theorem ins_mem {k : Int} {v : Rp.Rp3} : ∀ {l : List (Int × Rp.Rp3)} {z : Int × Rp.Rp3}, z ∈ insL k v l → z = (k, v) ∨ z ∈ l
  | [], z, h => by simp [insL] at h; exact .inl h
  | (a, b) :: r, z, h => by
    unfold insL at h
    split at h
    · rcases List.mem_cons.1 h with h | h
      · exact .inr (h ▸ List.mem_cons_self ..)
      · rcases ins_mem h with h | h
        · exact .inl h
        · exact .inr (List.mem_cons_of_mem _ h)
    · split at h
      · rcases List.mem_cons.1 h with h | h
        · exact .inl h
        · exact .inr (List.mem_cons_of_mem _ h)
      · rcases List.mem_cons.1 h with h | h
        · exact .inl h
        · exact .inr h
/-- one that was not applied ahead -/
theorem apply_new {x : Co} {o : OpF} (h : lookL o.key x.rs = none) : x.apply true o = ((x.run o).1, (x.run o).2.1, ⟨(x.run o).2.2.1, insL o.key (x.run o).1 x.rs, x.ms ++ (x.run o).2.1, (x.run o).2.2.2⟩) := by
  unfold Co.apply
  rw [if_pos rfl, h]
theorem keys_apply {x : Co} {o : OpF} {b : Bool} {K : Int} (h : KeysLt x K) (hk : b = true → o.key < K) : KeysLt (x.apply b o).2.2 K := by
  unfold Co.apply
  split
  · rename_i hb
    split
    · exact h
    · intro z hz
      rcases ins_mem hz with rfl | hz
      · exact hk hb
      · exact h z hz
  · exact h
def kF : Int := 15 * 1048577
theorem keys_other {x : Co} {o : OpF} (h : KeysLt x (kF + 1)) (hc : o.c ≠ 15) : KeysLt (x.apply o.ok o).2.2 (kF + 1) := by
  refine keys_apply h fun hb => ?_
  obtain ⟨-, h1, h2, -⟩ := OpF.ok_b hb
  unfold OpF.key kF
  omega
theorem keys_none : KeysLt Co.none (kF + 1) := fun z hz => by cases hz
/-- the operations of the client -/
def initF (s : Nat) : OpF := ⟨1, 15, s, ⟨#[102]⟩, 0, 0, 0, 0, false⟩
def addF (s : Nat) (p e t : Int) : OpF := ⟨2, 15, s, ⟨#[]⟩, p, e, t, 0, false⟩
def endF (s : Nat) (p e t : Int) (c : Bool) : OpF := ⟨3, 15, s, ⟨#[]⟩, p, e, t, 0, c⟩
theorem findN_get : ∀ {n : ByteArray} {ps : List Pr} {i k : Nat}, findN n ps i = some k → i ≤ k ∧ ∃ p, ps[k - i]? = some p ∧ p.nm = n
  | n, [], i, k, h => by cases h
  | n, p :: r, i, k, h => by
    unfold findN at h
    split at h
    · rename_i hn
      injection h with h
      subst h
      exact ⟨Nat.le_refl _, p, by simp, hn⟩
    · obtain ⟨h1, q, h2, h3⟩ := findN_get h
      refine ⟨by omega, q, ?_, h3⟩
      rw [show k - i = (k - (i + 1)) + 1 by omega, List.getElem?_cons_succ]
      exact h2
theorem findN_set : ∀ {n : ByteArray} {ps : List Pr} {i k j : Nat} {p p' : Pr}, ps[j]? = some p → p'.nm = p.nm → findN n (ps.set j p') i = findN n ps i
  | n, [], i, k, j, p, p', h, hn => by simp at h
  | n, q :: r, i, k, 0, p, p', h, hn => by
    simp at h
    subst h
    simp only [List.set_cons_zero, findN, hn]
  | n, q :: r, i, k, j + 1, p, p', h, hn => by
    simp at h
    simp only [List.set_cons_succ, findN]
    rw [findN_set (k := k) h hn]
theorem findN_app : ∀ {n : ByteArray} {ps : List Pr} {i : Nat}, findN n ps i = none → findN n (ps ++ [fresh n]) i = some (i + ps.length)
  | n, [], i, h => by simp [findN, fresh]
  | n, q :: r, i, h => by
    unfold findN at h
    split at h
    · cases h
    · rename_i hn
      simp only [List.cons_append, findN, if_neg hn, List.length_cons]
      rw [findN_app h]
      congr 1
      omega
/-- the producer, its epoch, what is open -/
structure Held (x : Co) (i : Nat) (q : Pr) : Prop where
  loc : x.ps[i]? = some q
  nm : q.nm = ⟨#[102]⟩
  fd : findN ⟨#[102]⟩ x.ps 0 = some i
theorem at_of {x : Co} {i : Nat} {q : Pr} (h : x.ps[i]? = some q) : x.at (i : Int) = some (i, q) := by
  unfold Co.at
  rw [if_pos (by omega), Int.toNat_natCast, h]; rfl
theorem first_f {x : Co} (hk : KeysLt x (kF + 1)) (hp : x.ps.length ≤ 8 ∧ ∀ p ∈ x.ps, 0 ≤ p.ep ∧ p.ep ≤ 100 ∧ PrOk x.now p) :
    ∃ r ms x1, x.apply true (initF 1) = (r, ms, x1) ∧ KeysLt x1 (kF + 2) ∧ ((r.err = 3 ∨ r.err = 7) ∨ ∃ (i : Nat) (e : Int), r = ⟨0, i, e⟩ ∧ i < 8 ∧ 0 ≤ e ∧ e ≤ 100 ∧ Held x1 i ⟨⟨#[102]⟩, e, [], none⟩) := by
  have hl : lookL (initF 1).key x.rs = none := look_lt (K := kF + 1) hk
  refine ⟨_, _, _, apply_new hl, fun z hz => ?_, ?_⟩
  · rcases ins_mem hz with rfl | hz
    · show (15 * 1048577 + (1 : Int)) < kF + 2
      unfold kF; omega
    · have := hk z hz; omega
  · have hr : x.run (initF 1) = ((x.admit ⟨#[102]⟩).1, (x.admit ⟨#[102]⟩).2.1, (x.admit ⟨#[102]⟩).2.2, x.now) := by
      unfold Co.run; rw [if_pos (show (initF 1).k = 1 from rfl)]; rfl
    rw [hr]
    unfold Co.admit
    cases hf : findN ⟨#[102]⟩ x.ps 0 with
    | none =>
      by_cases h8 : 8 ≤ x.ps.length
      · simp only [if_pos h8]
        exact .inl (.inl rfl)
      · simp only [if_neg h8]
        refine .inr ⟨x.ps.length, 0, rfl, by omega, by omega, by omega, ⟨by simp [fresh], rfl, ?_⟩⟩
        have := findN_app hf
        simpa using this
    | some i =>
      obtain ⟨-, p, h1, h2⟩ := findN_get hf
      rw [Nat.sub_zero] at h1
      simp only [h1]
      by_cases he : 100 ≤ p.ep
      · simp only [if_pos he]
        exact .inl (.inr rfl)
      · simp only [if_neg he]
        obtain ⟨h3, h4, -⟩ := hp.2 p (List.mem_of_getElem? h1)
        have hil := (List.getElem?_eq_some_iff.1 h1).1
        refine .inr ⟨i, p.ep + 1, rfl, by omega, by omega, by omega, ⟨?_, rfl, ?_⟩⟩
        · rw [List.getElem?_set_self hil]
          simp [Pr.renew, h2]
        · exact (findN_set (k := 0) (p' := p.renew) h1 rfl).trans hf
theorem keys_ins {rs : List (Int × Rp.Rp3)} {k K : Int} {v : Rp.Rp3} (h : ∀ z ∈ rs, z.1 < k) (hk : k < K) : ∀ z ∈ insL k v rs, z.1 < K := fun z hz => by
  rcases ins_mem hz with rfl | hz
  · exact hk
  · have := h z hz; omega
/-- the first part opens its transaction -/
theorem add_f {x : Co} {i : Nat} {e : Int} (hh : Held x i ⟨⟨#[102]⟩, e, [], none⟩) (hk : KeysLt x (kF + 2)) :
    ∃ b l x2, x.apply true (addF 2 i e 1) = (⟨0, 0, 0⟩, [], x2) ∧ KeysLt x2 (kF + 3) ∧ Held x2 i ⟨⟨#[102]⟩, e, [], some (b, l)⟩ := by
  have hl : lookL (addF 2 i e 1).key x.rs = none := look_lt (K := kF + 2) hk
  have hr : x.run (addF 2 i e 1) = (err 0, [], x.ps.set i ⟨⟨#[102]⟩, e, [], some (x.now, noParts.set 0 true)⟩, x.now) := by
    unfold Co.run
    rw [if_neg (show ¬ (addF 2 i e 1).k = 1 by simp [addF]), if_neg (show ¬ (addF 2 i e 1).k = 4 by simp [addF]), show (addF 2 i e 1).p = (i : Int) from rfl, at_of hh.loc]
    dsimp only
    rw [if_neg (show ¬ ((addF 2 i e 1).e ≠ e) by simp [addF]), if_pos (show (addF 2 i e 1).k = 2 from rfl)]
    rfl
  have hil := (List.getElem?_eq_some_iff.1 hh.loc).1
  refine ⟨x.now, noParts.set 0 true, ⟨x.ps.set i ⟨⟨#[102]⟩, e, [], some (x.now, noParts.set 0 true)⟩, insL (addF 2 i e 1).key (err 0) x.rs, x.ms ++ [], x.now⟩, ?_, keys_ins (k := kF + 2) hk (by omega), ⟨List.getElem?_set_self hil, rfl, ?_⟩⟩
  · rw [apply_new hl, hr]; rfl
  · exact (findN_set (k := 0) (p' := ⟨⟨#[102]⟩, e, [], some (x.now, noParts.set 0 true)⟩) hh.loc rfl).trans hh.fd
/-- the second epoch -/
theorem second_f {x : Co} {i : Nat} {e b : Int} {l : List Bool} (hh : Held x i ⟨⟨#[102]⟩, e, [], some (b, l)⟩) (hk : KeysLt x (kF + 3)) :
    ∃ r ms x3, x.apply true (initF 3) = (r, ms, x3) ∧ (r.err = 7 ∨ (r = ⟨0, i, e + 1⟩ ∧ ms = [⟨3, i, e, 1⟩, ⟨1, i, e + 1, 0⟩] ∧ x3.ps[i]? = some ⟨⟨#[102]⟩, e + 1, [], none⟩ ∧ KeysLt x3 (kF + 4))) := by
  have hl : lookL (initF 3).key x.rs = none := look_lt (K := kF + 3) hk
  refine ⟨_, _, _, apply_new hl, ?_⟩
  have hr : x.run (initF 3) = ((x.admit ⟨#[102]⟩).1, (x.admit ⟨#[102]⟩).2.1, (x.admit ⟨#[102]⟩).2.2, x.now) := by
    unfold Co.run; rw [if_pos (show (initF 3).k = 1 from rfl)]; rfl
  rw [hr]
  unfold Co.admit
  rw [hh.fd]
  simp only [hh.loc]
  have hil := (List.getElem?_eq_some_iff.1 hh.loc).1
  by_cases he : 100 ≤ e
  · simp only [if_pos he]
    exact .inl rfl
  · simp only [if_neg he]
    refine .inr ⟨?_, ?_, List.getElem?_set_self hil, keys_ins (k := kF + 3) hk (by omega)⟩ <;> first | rfl | trivial
/-- nothing of another epoch is taken -/
theorem fenced_f {x : Co} {i : Nat} {q : Pr} {o : OpF} {K : Int} (hq : x.ps[i]? = some q) (hp : o.p = (i : Int)) (h1 : o.k ≠ 1) (h4 : o.k ≠ 4) (he : o.e ≠ q.ep) (hk : KeysLt x K) (hK : o.key = K) :
    ∃ x', x.apply true o = (err 5, [], x') ∧ x'.ps = x.ps ∧ KeysLt x' (K + 1) := by
  have hl : lookL o.key x.rs = none := look_lt (by rw [hK]; exact hk)
  have hr : x.run o = (err 5, [], x.ps, x.now) := by
    unfold Co.run
    rw [if_neg h1, if_neg h4, hp, at_of hq]
    dsimp only
    rw [if_pos he]
  refine ⟨⟨x.ps, insL o.key (err 5) x.rs, x.ms ++ [], x.now⟩, ?_, rfl, keys_ins (by rw [hK]; exact hk) (by omega)⟩
  rw [apply_new hl, hr]
theorem initF_in (s : Nat) (h : s < 9) : (initF s).In := by
  refine ⟨?_, ?_, ?_, ?_, ?_, ?_, ?_, by show (1 : Nat) < 1073741824; decide⟩ <;> simp [initF, inI] <;> first | omega | decide
theorem initF_ok : ∀ s, s < 9 → (initF s).ok = true := by decide +kernel
theorem addF_in (s : Nat) (p e t : Int) (h : s < 9) (hp : 0 ≤ p ∧ p < 8) (he : 0 ≤ e ∧ e ≤ 100) (ht : 1 ≤ t ∧ t ≤ 3) : (addF s p e t).In := by
  refine ⟨?_, ?_, ?_, ?_, ?_, ?_, ?_, by show (0 : Nat) < 1073741824; decide⟩ <;> simp [addF, inI] <;> omega
theorem endF_in (s : Nat) (p e t : Int) (c : Bool) (h : s < 9) (hp : 0 ≤ p ∧ p < 8) (he : 0 ≤ e ∧ e ≤ 100) (ht : 1 ≤ t ∧ t ≤ 3) : (endF s p e t c).In := by
  refine ⟨?_, ?_, ?_, ?_, ?_, ?_, ?_, by show (0 : Nat) < 1073741824; decide⟩ <;> simp [endF, inI] <;> omega
theorem eN_beq : ((⟨#[]⟩ : ByteArray) == eN) = true := by kernel_rfl
theorem addF_ok (s : Nat) (p e t : Int) (h : s < 9) (hp : 0 ≤ p ∧ p < 8) (he : 0 ≤ e ∧ e ≤ 100) (ht : 1 ≤ t ∧ t ≤ 3) : (addF s p e t).ok = true := by
  have h1 := eN_beq
  show opB 2 15 (s : Int) ⟨#[]⟩ p e t 0 false = true
  simp [opB, sameB, inB, txnB, h1]
  omega
theorem endF_ok (s : Nat) (p e t : Int) (c : Bool) (h : s < 9) (hp : 0 ≤ p ∧ p < 8) (he : 0 ≤ e ∧ e ≤ 100) (ht : 1 ≤ t ∧ t ≤ 3) : (endF s p e t c).ok = true := by
  have h1 := eN_beq
  show opB 3 15 (s : Int) ⟨#[]⟩ p e t 0 c = true
  simp [opB, sameB, inB, txnB, h1]
  omega
end Go.Proofs.Ytoihfhlelbdboab
namespace Go.Proofs.Ytoihfhlelbdboab
open Go.RowKit Go.Dig Go.Inv Go.Oct Go.Hold
set_option linter.unusedVariables false
set_option linter.unusedSimpArgs false

set_option maxRecDepth 100000 in
set_option maxHeartbeats 1000000 in
theorem CloneM_any (w : World) (base : Nat) (v : Value) (L : List Mk) (h : OwnM w base v L) (hL : L.length ≤ 50000) : Calls Try.prog 26 #[v] w fun e w' => ∃ v', e = .returned v' ∧ OwnM w' w.heap.size v' L ∧ Below w.heap.size w w' := by
  rcases h.1.2 with ⟨rfl, h0⟩ | ⟨g, cap, cur, rfl, hb, hg, _⟩
  · obtain rfl : L = [] := List.eq_nil_of_length_eq_zero h0
    have hn := Lib.run_eql_slice_nil (P := Try.prog) w 28 65 none 0 0 0 0 (by kernel_rfl)
    go_enter Try.func26, Try.ntmps26
    go_wp2
    go_ret
    exact ⟨_, rfl, OwnM.nil _ _, Below.refl _ _⟩
  · have hn := Lib.run_eql_slice_nil (P := Try.prog) w 28 65 (some ⟨g, 0, none⟩) L.length cap 0 0 (by kernel_rfl)
    have hE : OwnM (w.alloc (.cells #[] 65)) w.heap.size (.slice (some ⟨w.heap.size, 0, none⟩) 0 0) [] := by
      refine ⟨⟨rfl, .inr ⟨w.heap.size, 0, #[], rfl, Nat.le_refl _, alloc_blk _ _, Nat.le_refl _, Nat.zero_le _, rfl, rfl⟩⟩, fun k hk j u hu => ?_⟩
      cases hk
      rw [cell_blk (alloc_blk _ _)] at hu
      simp at hu
    have hO : OwnM (w.alloc (.cells #[] 65)) base (.slice (some ⟨g, 0, none⟩) L.length cap) L := h.below (below_alloc _ _)
    have hs : (w.alloc (.cells #[] 65)).heap.size = w.heap.size + 1 := by simp
    go_enter Try.func26, Try.ntmps26
    go_wp2_with (refine wpList_appM rfl _ _ rfl w.heap.size base (.slice (some ⟨w.heap.size, 0, none⟩) 0 0) (.slice (some ⟨g, 0, none⟩) L.length cap) [] L ?_ ?_ hE hO (by simp; omega) (by omega) ?_; rfl; rfl)
    intro v' w' hv hG
    go_wp2_with fail
    go_ret
    refine ⟨_, rfl, hv, (below_alloc _ _).trans (hG.frm.below (by omega) fun k hk e => ?_)⟩
    cases e
    exact Nat.lt_irrefl _ hk
theorem last_any (own : Own) (w : World) (i b : Nat) (p : Pr) (h : PrAt own w i b p) (hn : p.ends.length ≤ 1000) : Calls Try.prog 24 #[.pointer (some ⟨b, 0, none⟩)] w fun e w' => e = .returned (.int .i64 p.last) ∧ w' = w := by
  obtain ⟨ev, ov, h⟩ := h
  exact last_at own w i b p ev ov h hn
/-- all marks -/
theorem Marks_at (own : Own) (w : World) (cb : Nat) (x : Co) (h : CoAt own w cb x) (hm : x.ms.length ≤ 50000) : Calls Try.prog 11 #[.pointer (some ⟨cb, 0, none⟩)] w fun e w' => ∃ v', e = .returned v' ∧ OwnM w' w.heap.size v' x.ms ∧ Below w.heap.size w w' := by
  obtain ⟨pb, rb, mv, q, h⟩ := h
  have c2 : w.cell? ⟨cb, 2, none⟩ = some mv := cell_blk h.blk 2
  have hO := h.ms
  clear h
  obtain ⟨ao, c, rfl⟩ := hO.form
  go_enter Try.func11, Try.ntmps11
  go_wp2_with (go_at_call 26; refine (CloneM_any _ 0 _ x.ms hO hm).mono ?_; rintro e w2 ⟨v2, rfl, hv, hB⟩)
  go_ret
  exact ⟨_, rfl, hv, hB⟩
theorem run_index_cell (t e : TypeId) (m : Nat) (cs : Array Value) (v : Value) (ki : IntKind) (k : Nat) (hu : Try.prog.underlying t = some (.array m e)) (hk : k < m) (hv : cs[k]? = some v) (hs : (Try.prog.info? e).map (·.size) = some 1)
    (hp : ∀ (cs : Array Value) (off : Nat) (v : Value) (w : World), cs[off]? = some v → (part e cs off).run Try.prog w = .ok v w) (w : World) :
    (Instr.index t (.agg cs) (.int ki (k : Int))).run Try.prog w = .ok v w := by
  have hz : (sizeOf e).run Try.prog w = .ok 1 w := by
    cases hq : Try.prog.info? e with
    | none => simp [hq] at hs
    | some i => simp [hq] at hs; simp [sizeOf, typeInfo, hq, hs]
  have hk' : (0 : Int) ≤ (k : Int) ∧ (k : Int) < (m : Int) := by omega
  simp [Instr.index, run_underlying hu, asIntOf, hk, hz, hp _ _ _ w hv]
/-- the parts of which one has -/
def partsTo (l : List Bool) (k : Nat) : List Int := ((List.range k).filter fun i => l.getD i false).map fun (i : Nat) => (i : Int)
theorem partsTo_succ (l : List Bool) (k : Nat) : partsTo l (k + 1) = partsTo l k ++ if l.getD k false then [(k : Int)] else [] := by
  unfold partsTo
  rw [List.range_succ, List.filter_append, List.map_append]
  cases h : l.getD k false <;> simp [h] <;> simp_all
theorem partsTo_len (l : List Bool) (k : Nat) : (partsTo l k).length ≤ k := by
  unfold partsTo
  rw [List.length_map]
  exact Nat.le_trans (List.length_filter_le _ _) (by simp)
def partS (l : List Bool) : Nat → Bool := fun i => l.getD i false
set_option maxRecDepth 100000 in
set_option maxHeartbeats 4000000 in
theorem list_at (w : World) (ob : Nat) (b : Int) (l : List Bool) (hb : w.heap[ob]? = some (.cells (txnC b l) 91 (0, 0))) : Calls Try.prog 25 #[.pointer (some ⟨ob, 0, none⟩)] w fun e w' => ∃ v, e = .returned v ∧ OwnI w' w.heap.size v (partsTo l 4) ∧ Below w.heap.size w w' := by
  have c1 : w.cell? ⟨ob, 1, none⟩ = some (.bool (partS l 0)) := cell_blk hb 1
  have c2 : w.cell? ⟨ob, 2, none⟩ = some (.bool (partS l 1)) := cell_blk hb 2
  have c3 : w.cell? ⟨ob, 3, none⟩ = some (.bool (partS l 2)) := cell_blk hb 3
  have c4 : w.cell? ⟨ob, 4, none⟩ = some (.bool (partS l 3)) := cell_blk hb 4
  go_enter Try.func25, Try.ntmps25
  go_wp2
  clear c1 c2 c3 c4
  go_loopw [3, 10] (fun pv iv wr => ∃ i : Nat, i ≤ 4 ∧ iv = .int .i64 (i : Int) ∧ OwnI wr w.heap.size pv (partsTo l i) ∧ Below w.heap.size w wr) (fun _ iv _ => 4 - (intOf iv).toNat)
  case atStart => exact ⟨0, Nat.zero_le _, rfl, OwnI.nil _ _, Below.refl _ _⟩
  case round =>
    obtain ⟨i, hi, rfl, hO, hB⟩ := hrel
    obtain ⟨ao, cap, rfl⟩ := hO.form
    have hlen := partsTo_len l i
    have hO1 : OwnI (wr.alloc (.cells #[.int .i64 (i : Int)] 3)) w.heap.size (.slice ao (partsTo l i).length cap) (partsTo l i) := hO.below (below_alloc _ _)
    have hg : (wr.alloc (.cells #[.int .i64 (i : Int)] 3)).heap[wr.heap.size]? = some (.cells #[.int .i64 (i : Int)] 3 (0, 0)) := alloc_blk _ _
    have hsz : w.heap.size ≤ (wr.alloc (.cells #[.int .i64 (i : Int)] 3)).heap.size := by have := hB.size; simp; omega
    have hn : (partsTo l i).length + 1 ≤ 100000 := by omega
    have HLT : Hid (∀ k, (Value.slice ao (partsTo l i).length cap).ownBlock = some k → w.heap.size ≤ k) := fun k hk => (hO.lt k hk).1
    have HSUC : Hid (partsTo l (i + 1) = partsTo l i ++ if partS l i then [(i : Int)] else []) := partsTo_succ l i
    have HI : Hid (i ≤ 4) := hi
    by_cases h4 : i = 4
    · subst h4
      clear hO1 hg hsz hn HLT HSUC
      go_wp2_with fail
      go_ret
      exact ⟨_, rfl, hO, hB⟩
    · have hix : i = 0 ∨ i = 1 ∨ i = 2 ∨ i = 3 := by omega
      have hidx : (Instr.index 33 (.agg #[.bool (partS l 0), .bool (partS l 1), .bool (partS l 2), .bool (partS l 3)]) (.int .i64 (i : Int))).run Try.prog wr = .ok (.bool (partS l i)) wr := by
        refine run_index_cell 33 4 4 _ _ .i64 i (by kernel_rfl) (by omega) ?_ (by kernel_rfl) (fun cs off v w hv => by simp [part, go_sem, hv]) wr
        rcases hix with rfl | rfl | rfl | rfl <;> rfl
      have hlt : decide ((i : Int) < 4) = true := by simp; omega
      generalize hLe : partsTo l i = L at *
      generalize partS l 0 = s0 at *
      generalize partS l 1 = s1 at *
      generalize partS l 2 = s2 at *
      generalize partS l 3 = s3 at *
      cases hp : partS l i
      · rw [hp] at hidx
        clear hO1 hg hsz hn
        go_wp2_with fail
        go_roundw
        case rel => exact ⟨i + 1, by omega, by go_num, by rw [HSUC.out]; simpa [hp] using hO, hB⟩
        case measure => simp [intOf]; omega
      · rw [hp] at hidx
        clear hO
        go_wp2_with (first | (refine wpList_rowI rfl _ rfl (i : Int) ?_ ?_; rfl) | (refine wpList_appI1 rfl _ _ rfl w.heap.size (.slice ao L.length cap) L ?_ wr.heap.size (i : Int) ?_ hO1 3 hg hn hsz ?_; rfl; rfl))
        intro v4 w4 hO4 hG4
        have hB4 : Below w.heap.size w w4 := (hB.trans ((below_alloc _ _).mono hB.size)).trans (hG4.frm.below hsz fun k hk e => Nat.lt_irrefl _ (Nat.lt_of_lt_of_le hk (HLT.out k e)))
        obtain ⟨a4, c4, rfl⟩ := hO4.form
        clear hG4 hO1 hg
        have HS4 : Hid (partsTo l (i + 1) = L ++ [(i : Int)]) := by show partsTo l (i + 1) = _; rw [HSUC.out, hp]; rfl
        go_wp2_with fail
        go_roundw
        case rel => exact ⟨i + 1, by omega, by go_num, by rw [HS4.out]; exact hO4, hB4⟩
        case measure => simp [intOf]; omega
/-- the open transaction that is told -/
def Co.opn (x : Co) (k : Int) : Int × List Int × Bool := match x.at k with
  | some (_, p) => match p.op with
    | some (_, l) => (p.last, partsTo l 4, true)
    | .none => (0, [], false)
  | .none => (0, [], false)
end Go.Proofs.Ytoihfhlelbdboab
namespace Go.Proofs.Ytoihfhlelbdboab
open Go.RowKit Go.Dig Go.Inv Go.Oct Go.Hold
set_option linter.unusedVariables false
set_option linter.unusedSimpArgs false

theorem at_some {x : Co} {k : Int} {i : Nat} {p : Pr} (h : x.at k = some (i, p)) : x.ps[i]? = some p ∧ k = (i : Int) := by
  unfold Co.at at h
  split at h
  · cases hp : x.ps[k.toNat]? with
    | none => rw [hp] at h; cases h
    | some q =>
      rw [hp] at h
      simp at h
      obtain ⟨rfl, rfl⟩ := h
      exact ⟨hp, by omega⟩
  · cases h
def OpnQ (w : World) (z : Int × List Int × Bool) (e : Ending) (w' : World) : Prop := ∃ v, e = .returned (.tuple #[.int .i64 z.1, v, .bool z.2.2]) ∧ OwnI w' w.heap.size v z.2.1 ∧ Below w.heap.size w w'
set_option maxRecDepth 100000 in
set_option maxHeartbeats 4000000 in
theorem Open_at (own : Own) (w : World) (cb : Nat) (x : Co) (h : CoAt own w cb x) (hok : ∀ p ∈ x.ps, p.ends.length ≤ 1000) (k : Int) : Calls Try.prog 8 #[.pointer (some ⟨cb, 0, none⟩), .int .i64 k] w (OpnQ w (x.opn k)) := by
  obtain ⟨pb, rb, mv, q, h⟩ := h
  have HS : Hid (CoS own w cb x pb rb mv q) := h
  go_enter Try.func8, Try.ntmps8
  rcases at_ptr h k with ⟨h1, h2⟩ | ⟨i, p, b, h1, h3, h2, h4, hp⟩
  · have e : x.opn k = (0, [], false) := by unfold Co.opn; rw [h1]
    rw [e]
    clear h
    go_wp2_with (first | (go_at_call 23; refine (producer_at own _ cb x pb rb mv q HS.out k).mono ?_; rintro e w2 ⟨rfl, rfl⟩; rw [h2]))
    exact bodyPost_ret (v := .tuple #[.int .i64 0, .slice none 0 0, .bool false]) (by simp [results, Try.results8, go_sem]) rfl ⟨_, rfl, OwnI.nil _ _, Below.refl _ _⟩
  · have hpe := hok p (List.mem_of_getElem? h3)
    have HP : Hid (PrAt own w i b p) := hp
    obtain ⟨ev, ov, hp⟩ := hp
    have c4 : w.cell? ⟨b, 4, none⟩ = some (.pointer ov) := cell_blk hp.blk 4
    have hbl : b < w.heap.size := lt_blk hp.blk
    have hop := hp.op
    clear h hp
    cases ho : p.op with
    | none =>
      rw [ho] at hop
      obtain rfl : ov = none := hop
      have e : x.opn k = (0, [], false) := by unfold Co.opn; rw [h1]; dsimp only; rw [ho]
      rw [e]
      go_wp2_with (first | (go_at_call 23; refine (producer_at own _ cb x pb rb mv q HS.out k).mono ?_; rintro e w2 ⟨rfl, rfl⟩; rw [h2]))
      exact bodyPost_ret (v := .tuple #[.int .i64 0, .slice none 0 0, .bool false]) (by simp [results, Try.results8, go_sem]) rfl ⟨_, rfl, OwnI.nil _ _, Below.refl _ _⟩
    | some z =>
      obtain ⟨bg, l⟩ := z
      rw [ho] at hop
      obtain ⟨ob, rfl, -, -, hob⟩ := hop
      have e : x.opn k = (p.last, partsTo l 4, true) := by unfold Co.opn; rw [h1]; dsimp only; rw [ho]
      rw [e]
      have HOB : Hid (w.heap[ob]? = some (.cells (txnC bg l) 91 (0, 0))) := hob
      clear e hob
      go_upto_region 4 with (first | (go_at_call 23; refine (producer_at own _ cb x pb rb mv q HS.out k).mono ?_; rintro e w2 ⟨rfl, hw2⟩; subst hw2; rw [h2]))
      refine wp_region_growG (by kernel_rfl) (by kernel_rfl) (fun xS => { tmps := (Value.pointer (some (⟨cb, 0, none⟩ : Addr)) :: Value.int IntKind.i64 k :: undef :: undef :: xS 7 :: xS 8 :: xS 9 :: Value.pointer (some (⟨b, 0, none⟩ : Addr)) :: Value.pointer (some (⟨cb, 0, none⟩ : Addr)) :: Value.int IntKind.i64 k :: Value.pointer (some (⟨b, 0, none⟩ : Addr)) :: Value.pointer (some (⟨b, 0, none⟩ : Addr)) :: Value.bool false :: Value.bool false :: Value.pointer (some (⟨b, 0, none⟩ : Addr)) :: Value.pointer (some (⟨b, 0, none⟩ : Addr)) :: Value.pointer (some (⟨b, 4, none⟩ : Addr)) :: Value.pointer (some (⟨ob, 0, none⟩ : Addr)) :: Value.bool false :: Value.bool false :: xS 0 :: xS 1 :: xS 2 :: xS 3 :: xS 4 :: xS 5 :: xS 6 :: []).toArray, defers := [] })
        (fun ii xx WW => match ii with | 0 => xx = Value.pointer (some (⟨b, 0, none⟩ : Addr)) | 1 => xx = .int .i64 p.last | 2 => xx = Value.pointer (some (⟨b, 0, none⟩ : Addr)) | 3 => xx = Value.pointer (some (⟨b, 0, none⟩ : Addr)) | 4 => xx = .pointer (some ⟨b, 4, none⟩) | 5 => xx = .pointer (some ⟨ob, 0, none⟩) | 6 => OwnI WW w2.heap.size xx (partsTo l 4) | 7 => xx = .int .i64 p.last | 8 => OwnI WW w2.heap.size xx (partsTo l 4) | 9 => xx = (Value.bool true) | _ => True) (fun | 0 => undef | 1 => undef | 2 => undef | 3 => undef | 4 => undef | 5 => undef | 6 => undef | 7 => Value.int IntKind.i64 0 | 8 => Value.slice none 0 0 | 9 => Value.bool false | _ => undef) (by repeat (first | exact trivial | refine ⟨fun _ _ => rfl, ?_⟩)) (by intro ii xx A B hB hh; revert hh; split <;> first | exact fun hh => hh | exact fun hh => OwnI.below hh hB) ⟨?_, ?_, ?_, ?_, ?_, ?_, ?_, ?_, ?_, ?_, trivial⟩ ?_
      · intro xS W hB hp K hK
        rw [if_pos (wanted_none rfl _)]
        clear hp
        go_simp
        exact hK _ _ (Below.refl _ _) rfl
      · intro xS W hB hp K hK
        rw [if_pos (wanted_none rfl _)]
        have h0 : xS 0 = Value.pointer (some (⟨b, 0, none⟩ : Addr)) := hp.1 rfl
        clear hp
        simp only [h0] at hK ⊢
        clear h0
        go_simp
        obtain ⟨ev5, ov5, hp5⟩ := HP.out
        refine (last_at own W i b p ev5 ov5 (hp5.below hB HS.out.owned) hpe).mono ?_
        rintro e W5 ⟨rfl, rfl⟩
        exact hK _ _ (Below.refl _ _) rfl
      · intro xS W hB hp K hK
        rw [if_pos (wanted_none rfl _)]
        clear hp
        go_simp
        exact hK _ _ (Below.refl _ _) rfl
      · intro xS W hB hp K hK
        rw [if_pos (wanted_none rfl _)]
        have h2 : xS 2 = Value.pointer (some (⟨b, 0, none⟩ : Addr)) := hp.1 rfl
        clear hp
        simp only [h2] at hK ⊢
        clear h2
        go_simp
        exact hK _ _ (Below.refl _ _) rfl
      · intro xS W hB hp K hK
        rw [if_pos (wanted_none rfl _)]
        have h3 : xS 3 = Value.pointer (some (⟨b, 0, none⟩ : Addr)) := hp.1 rfl
        clear hp
        simp only [h3] at hK ⊢
        clear h3
        go_simp
        exact hK _ _ (Below.refl _ _) rfl
      · intro xS W hB hp K hK
        rw [if_pos (wanted_none rfl _)]
        have h4 : xS 4 = .pointer (some ⟨b, 4, none⟩) := hp.1 rfl
        clear hp
        have hc := (hB.cell (p := ⟨b, 4, none⟩) hbl).trans c4
        simp only [h4] at hK ⊢
        clear h4
        go_simp
        exact hK _ _ (Below.refl _ _) rfl
      · intro xS W hB hp K hK
        rw [if_pos (wanted_none rfl _)]
        have h5 : xS 5 = .pointer (some ⟨ob, 0, none⟩) := hp.1 rfl
        clear hp
        simp only [h5] at hK ⊢
        clear h5
        go_simp
        refine (list_at W ob bg l ((hB.block _ (lt_blk HOB.out)).trans HOB.out)).mono ?_
        rintro e W5 ⟨v5, rfl, hO5, hB5⟩
        exact hK _ _ hB5 (hO5.mono hB.size)
      · intro xS W hB hp K hK
        rw [if_pos (wanted_none rfl _)]
        have h1 : xS 1 = .int .i64 p.last := hp.1 rfl
        clear hp
        simp only [h1] at hK ⊢
        clear h1
        go_simp
        exact hK _ _ (Below.refl _ _) rfl
      · intro xS W hB hp K hK
        rw [if_pos (wanted_none rfl _)]
        have h6 : OwnI W w2.heap.size (xS 6) (partsTo l 4) := hp.1 rfl
        clear hp
        go_simp
        exact hK _ _ (Below.refl _ _) h6
      · intro xS W hB hp K hK
        rw [if_pos (wanted_none rfl _)]
        clear hp
        go_simp
        exact hK _ _ (Below.refl _ _) rfl
      intro xS W3 hB3 hs
      have h7 : xS 7 = .int .i64 p.last := hs 7 (by simp)
      have h8 : OwnI W3 w2.heap.size (xS 8) (partsTo l 4) := hs 8 (by simp)
      have h9 : xS 9 = .bool true := hs 9 (by simp)
      clear hs
      simp only [h7, h9]
      go_wp2_with fail
      exact bodyPost_ret (v := .tuple #[.int .i64 p.last, xS 8, .bool true]) (by simp [results, Try.results8, go_sem]) rfl ⟨_, rfl, h8, hB3⟩
end Go.Proofs.Ytoihfhlelbdboab
