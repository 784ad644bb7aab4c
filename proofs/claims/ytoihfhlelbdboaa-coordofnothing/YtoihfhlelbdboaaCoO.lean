/- A known transaction; whole replies and marks compared. -/
import Derived.Test.YtoihfhlelbdboaaCoN
import Derived.Laws.StructEq
namespace Go.Proofs.Ytoihfhlelbdboaa
open Go.RowKit Go.Dig Go.Inv Go.Oct Go.Hold
set_option linter.unusedVariables false
set_option linter.unusedSimpArgs false

def Mk.eqB (m n : Mk) : Bool := m.k == n.k && (m.p == n.p && (m.e == n.e && m.t == n.t))
def rpE (r s : Rp.Rp3) : Bool := r.err == s.err && (r.pr == s.pr && r.ep == s.ep)
theorem Mk.eqB_self (m : Mk) : m.eqB m = true := by simp [Mk.eqB]
theorem rpE_self (r : Rp.Rp3) : rpE r r = true := by simp [rpE]
theorem equal_mk (m n : Mk) (w : World) : (Op.equalIn 10000 36 (.agg m.cells) (.agg n.cells)).run Try.prog w = .ok (m.eqB n) w := by
  have h := run_equalIn_struct (P := Try.prog) w 9999 36 m.cells n.cells (by kernel_rfl) (by kernel_rfl)
  refine h.trans ?_
  have hf : (Try.prog.fieldsOf 36).toList.map (fun f => (f.type, f.offset)) = [(3, 0), (3, 1), (3, 2), (3, 3)] := by kernel_rfl
  clear h hf
  simp [Op.eqFields, Mk.cells, Mk.eqB, go_sem]
  repeat' split
  all_goals simp_all
theorem equal_rp (r s : Rp.Rp3) (w : World) : (Op.equalIn 10000 28 (.agg (rpC r)) (.agg (rpC s))).run Try.prog w = .ok (rpE r s) w := by
  have h := run_equalIn_struct (P := Try.prog) w 9999 28 (rpC r) (rpC s) (by kernel_rfl) (by kernel_rfl)
  refine h.trans ?_
  have hf : (Try.prog.fieldsOf 28).toList.map (fun f => (f.type, f.offset)) = [(26, 0), (3, 1), (3, 2)] := by kernel_rfl
  clear h hf
  simp [Op.eqFields, rpC, rpE, go_sem]
  repeat' split
  all_goals simp_all
/-- Apply of one that may be, its answer known -/
theorem apply_lit (own : Own) (w : World) (cb : Nat) (x : Co) (n : Nat) (h : CoAt own w cb x) (o : OpF) (hin : o.In) (hi : x.Inv n) (hn : n ≤ 1000) (hb : o.ok = true) (r : Rp.Rp3) (ms : List Mk) (x' : Co) (hx : x.apply true o = (r, ms, x')) :
    Calls Try.prog 11 #[.pointer (some ⟨cb, 0, none⟩), .agg o.cells] w fun e w' => ApR own w cb r ms x' e w' ∧ x'.Inv (n + 1) := by
  refine (apply_at own w cb x n h o hin hi hn).mono fun e w' h => ?_
  rw [hb, hx] at h
  have := hi.apply true o
  rw [hx] at this
  exact ⟨h, this⟩
def op1 : OpF := ⟨1, 0, 0, ⟨#[97]⟩, 0, 0, 0, 0, false⟩
def op2 : OpF := ⟨2, 0, 1, ⟨#[]⟩, 0, 0, 1, 0, false⟩
def op3 : OpF := ⟨3, 0, 2, ⟨#[]⟩, 0, 0, 1, 0, true⟩
def co1 : Co := ⟨[⟨⟨#[97]⟩, 0, [], none⟩], [(0, ⟨0, 0, 0⟩)], [⟨1, 0, 0, 0⟩], 0⟩
def co2 : Co := ⟨[⟨⟨#[97]⟩, 0, [], some (0, [true, false, false, false])⟩], [(0, ⟨0, 0, 0⟩), (1, ⟨0, 0, 0⟩)], [⟨1, 0, 0, 0⟩], 0⟩
def co3 : Co := ⟨[⟨⟨#[97]⟩, 0, [2], none⟩], [(0, ⟨0, 0, 0⟩), (1, ⟨0, 0, 0⟩), (2, ⟨0, 0, 0⟩)], [⟨1, 0, 0, 0⟩, ⟨2, 0, 0, 1⟩], 0⟩
theorem op1_in : op1.In := by constructor <;> simp [op1, inI] <;> decide
theorem op2_in : op2.In := by constructor <;> simp [op2, inI] <;> decide
theorem op3_in : op3.In := by constructor <;> simp [op3, inI] <;> decide
theorem op1_ok : op1.ok = true := by kernel_rfl
theorem op2_ok : op2.ok = true := by kernel_rfl
theorem op3_ok : op3.ok = true := by kernel_rfl
theorem co1_eq : Co.none.apply true op1 = (⟨0, 0, 0⟩, [⟨1, 0, 0, 0⟩], co1) := by kernel_rfl
theorem co2_eq : co1.apply true op2 = (⟨0, 0, 0⟩, [], co2) := by kernel_rfl
theorem co3_eq : co2.apply true op3 = (⟨0, 0, 0⟩, [⟨2, 0, 0, 1⟩], co3) := by kernel_rfl
end Go.Proofs.Ytoihfhlelbdboaa
