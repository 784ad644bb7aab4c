/- A mark out of bytes, weakly: takeMark, decode. For rows of up to 2^38 bytes. -/
import Derived.Test.YtkjocpadmlobgaaWireRe
import Derived.Test.YtkjocpadmlobgaaWLaw
import Derived.Laws.StructEq
namespace Go.Proofs.Ytkjocpadmlobgaa
open Go.RowKit Go.Dig Go.Inv Go.Oct

theorem results_cell_tmp {P : Program} {fn : Func} {p q : Tmp} {ty : TypeId} (h : fn.results = #[.cell p ty, .tmp q]) (tmps : Array Value) (w : World) (g : Nat) (v u : Value) (hp : tmps.getD p undef = .pointer (some ⟨g, 0, none⟩)) (hq : tmps.getD q undef = u) (hl : (loadVar ty ⟨g, 0, none⟩).run P w = .ok v w) :
    (results fn tmps).run P w = .ok (.tuple #[v, u]) w := by
  subst hq
  have hp' : tmps[p]?.getD undef = .pointer (some ⟨g, 0, none⟩) := by simpa using hp
  simp [results, h, hp', asAddr, hl]
def markC (a : Nat → Int) : Array Value := #[.int .i64 (a 0), .int .i64 (a 1), .int .i64 (a 2), .int .i64 (a 3)]
theorem mark_row (a : Nat → Int) : row .i64 4 a = markC a := rfl
theorem mark_info (a : Nat → Int) : (Try.prog.info? 44).map (·.size) = some (markC a).size := by kernel_rfl
theorem mark_all (a : Nat → Int) : (markC a).all (·.oneCell') = true := by simp [markC]; exact ⟨rfl, rfl, rfl, rfl⟩
theorem mark_desc : ∃ d, Try.prog.underlying 44 = some d ∧ d.isRow = true := by
  have h : (Try.prog.underlying 44).map (·.isRow) = some true := by kernel_rfl
  cases hd : Try.prog.underlying 44 with
  | none => rw [hd] at h; cases h
  | some d => rw [hd] at h; exact ⟨d, rfl, by simpa using h⟩
theorem load_mark_cell (w : World) (g : Nat) (a : Nat → Int) (t : TypeId) (fr : Nat × Nat) (hg : w.heap[g]? = some (.cells (markC a) t fr)) : (loadVar 44 ⟨g, 0, none⟩).run Try.prog w = .ok (.agg (markC a)) w := by
  obtain ⟨d, hd1, hd2⟩ := mark_desc
  exact run_loadVar_row w g t 44 (markC a) fr d hg hd1 (by cases d <;> simp_all [TypeDesc.isRow]) (mark_info a)
section
variable {ops : Array Oper} {rest : List Oper} {o : Oper} {a : Act} {w : World} {Q : Exit → Act → World → Prop}
theorem wpList_load_mark (hgd : o.guard = none) (x : Operand) (ho : o.op = .load 44 x) (g : Nat) (z : Nat → Int) (t : TypeId) (fr : Nat × Nat) (hx : a.eval x = .pointer (some ⟨g, 0, none⟩)) (hg : w.heap[g]? = some (.cells (markC z) t fr)) (h : wpList Try.prog ops Q rest (a.put o.dst (.agg (markC z))) w) : wpList Try.prog ops Q (o :: rest) a w := by
  obtain ⟨d, hd1, hd2⟩ := mark_desc
  refine wpList_load_mid hgd 44 x ho g 0 hx (markC z).toList d (fun j v hv => ?_) hd1 hd2 (by rw [Array.length_toList]; exact mark_info z) (by simpa using h)
  rw [Nat.zero_add, cell_blk hg]; simpa using hv
theorem wpList_store_mark (hgd : o.guard = none) (x y : Operand) (ho : o.op = .store 44 x y) (g : Nat) (z old : Nat → Int) (hx : a.eval x = .pointer (some ⟨g, 0, none⟩)) (hy : a.eval y = .agg (markC z)) (hg : w.heap[g]? = some (.cells (markC old) 44 (0, 0))) (h : wpList Try.prog ops Q rest (a.put o.dst undef) (w.setRow g (markC z))) : wpList Try.prog ops Q (o :: rest) a w :=
  wpList_store_blk hgd 44 x y ho g (markC z) hx hy 44 (markC old) hg (mark_info z) rfl (mark_all z) h
end
theorem keeps_setRow (w : World) (g : Nat) (c : Array Value) : Keeps g w (w.setRow g c) := ⟨rfl, rfl, rfl, by simp [World.setRow], fun k _ hk => by simp only [World.setRow, Array.getElem?_modify]; rw [if_neg (by omega)]⟩
theorem setRow_blk {w : World} {g : Nat} {c : Array Value} {t : TypeId} {fr : Nat × Nat} (h : w.heap[g]? = some (.cells c t fr)) (c' : Array Value) : (w.setRow g c').heap[g]? = some (.cells c' t fr) := setRow_heap w g c c' t fr h
set_option maxRecDepth 10000 in
set_option maxHeartbeats 2000000 in
theorem takeMark_any (r : Nat) (w : World) (h : Rd w r) : Calls Try.prog 60 #[.pointer (some ⟨r, 0, none⟩)] w fun e w' => (∃ a : Nat → Int, e = .returned (.agg (markC a)) ∧ ∀ j, inI (a j)) ∧ Below r w w' := by
  have hrw := h.lt
  have hs2 : ((w.alloc (.cells #[.int .i64 0, .int .i64 0, .int .i64 0, .int .i64 0] 44)).alloc (.cells #[.int .i64 0, .int .i64 0, .int .i64 0, .int .i64 0] 44)).heap.size = w.heap.size + 2 := by simp
  have hB3 : Below w.heap.size w (((w.alloc (.cells #[.int .i64 0, .int .i64 0, .int .i64 0, .int .i64 0] 44)).alloc (.cells #[.int .i64 0, .int .i64 0, .int .i64 0, .int .i64 0] 44)).alloc (.cells #[.pointer (some ⟨w.heap.size + 1, 0, none⟩), .pointer (some ⟨w.heap.size + 1, 1, none⟩), .pointer (some ⟨w.heap.size + 1, 2, none⟩), .pointer (some ⟨w.heap.size + 1, 3, none⟩)] 107)) := (((Below.refl _ _).alloc (Nat.le_refl _) _).alloc (by simp) _).alloc (by simp; omega) _
  have HR : Hid (Rd (((w.alloc (.cells #[.int .i64 0, .int .i64 0, .int .i64 0, .int .i64 0] 44)).alloc (.cells #[.int .i64 0, .int .i64 0, .int .i64 0, .int .i64 0] 44)).alloc (.cells #[.pointer (some ⟨w.heap.size + 1, 0, none⟩), .pointer (some ⟨w.heap.size + 1, 1, none⟩), .pointer (some ⟨w.heap.size + 1, 2, none⟩), .pointer (some ⟨w.heap.size + 1, 3, none⟩)] 107)) r) := h.same (fun k hk => hB3.block k hk)
  have HP : Hid (PtrsAt (((w.alloc (.cells #[.int .i64 0, .int .i64 0, .int .i64 0, .int .i64 0] 44)).alloc (.cells #[.int .i64 0, .int .i64 0, .int .i64 0, .int .i64 0] 44)).alloc (.cells #[.pointer (some ⟨w.heap.size + 1, 0, none⟩), .pointer (some ⟨w.heap.size + 1, 1, none⟩), .pointer (some ⟨w.heap.size + 1, 2, none⟩), .pointer (some ⟨w.heap.size + 1, 3, none⟩)] 107)) (w.heap.size + 2) (w.heap.size + 1)) := fun j hj => by
    have hb := alloc_blk ((w.alloc (.cells #[.int .i64 0, .int .i64 0, .int .i64 0, .int .i64 0] 44)).alloc (.cells #[.int .i64 0, .int .i64 0, .int .i64 0, .int .i64 0] 44)) (.cells #[.pointer (some ⟨w.heap.size + 1, 0, none⟩), .pointer (some ⟨w.heap.size + 1, 1, none⟩), .pointer (some ⟨w.heap.size + 1, 2, none⟩), .pointer (some ⟨w.heap.size + 1, 3, none⟩)] 107)
    rw [hs2] at hb
    rw [cell_blk hb]
    match j, hj with
    | 0, _ => rfl
    | 1, _ => rfl
    | 2, _ => rfl
    | 3, _ => rfl
  have HG : Hid ((((w.alloc (.cells #[.int .i64 0, .int .i64 0, .int .i64 0, .int .i64 0] 44)).alloc (.cells #[.int .i64 0, .int .i64 0, .int .i64 0, .int .i64 0] 44)).alloc (.cells #[.pointer (some ⟨w.heap.size + 1, 0, none⟩), .pointer (some ⟨w.heap.size + 1, 1, none⟩), .pointer (some ⟨w.heap.size + 1, 2, none⟩), .pointer (some ⟨w.heap.size + 1, 3, none⟩)] 107)).heap[w.heap.size + 1]? = some (.cells (row .i64 4 (fun _ => 0)) 44 (0, 0))) := by
    have := alloc_blk_old (alloc_blk (w.alloc (.cells #[.int .i64 0, .int .i64 0, .int .i64 0, .int .i64 0] 44)) (.cells #[.int .i64 0, .int .i64 0, .int .i64 0, .int .i64 0] 44)) (.cells #[.pointer (some ⟨w.heap.size + 1, 0, none⟩), .pointer (some ⟨w.heap.size + 1, 1, none⟩), .pointer (some ⟨w.heap.size + 1, 2, none⟩), .pointer (some ⟨w.heap.size + 1, 3, none⟩)] 107)
    have hs1 : (w.alloc (.cells #[.int .i64 0, .int .i64 0, .int .i64 0, .int .i64 0] 44)).heap.size = w.heap.size + 1 := by simp
    rw [hs1] at this
    exact this
  have H0 : Hid ((((w.alloc (.cells #[.int .i64 0, .int .i64 0, .int .i64 0, .int .i64 0] 44)).alloc (.cells #[.int .i64 0, .int .i64 0, .int .i64 0, .int .i64 0] 44)).alloc (.cells #[.pointer (some ⟨w.heap.size + 1, 0, none⟩), .pointer (some ⟨w.heap.size + 1, 1, none⟩), .pointer (some ⟨w.heap.size + 1, 2, none⟩), .pointer (some ⟨w.heap.size + 1, 3, none⟩)] 107)).heap[w.heap.size]? = some (.cells (markC (fun _ => 0)) 44 (0, 0))) := alloc_blk_old (alloc_blk_old (alloc_blk _ _) _) _
  have HB3 : Hid (Below w.heap.size w (((w.alloc (.cells #[.int .i64 0, .int .i64 0, .int .i64 0, .int .i64 0] 44)).alloc (.cells #[.int .i64 0, .int .i64 0, .int .i64 0, .int .i64 0] 44)).alloc (.cells #[.pointer (some ⟨w.heap.size + 1, 0, none⟩), .pointer (some ⟨w.heap.size + 1, 1, none⟩), .pointer (some ⟨w.heap.size + 1, 2, none⟩), .pointer (some ⟨w.heap.size + 1, 3, none⟩)] 107))) := hB3
  have HS3 : Hid ((((w.alloc (.cells #[.int .i64 0, .int .i64 0, .int .i64 0, .int .i64 0] 44)).alloc (.cells #[.int .i64 0, .int .i64 0, .int .i64 0, .int .i64 0] 44)).alloc (.cells #[.pointer (some ⟨w.heap.size + 1, 0, none⟩), .pointer (some ⟨w.heap.size + 1, 1, none⟩), .pointer (some ⟨w.heap.size + 1, 2, none⟩), .pointer (some ⟨w.heap.size + 1, 3, none⟩)] 107)).heap.size = w.heap.size + 3) := by show _ = _; simp
  clear h hs2 hB3
  go_enter Try.func60, Try.ntmps60
  go_wp2_with fail
  generalize (((w.alloc (.cells #[.int .i64 0, .int .i64 0, .int .i64 0, .int .i64 0] 44)).alloc (.cells #[.int .i64 0, .int .i64 0, .int .i64 0, .int .i64 0] 44)).alloc (.cells #[.pointer (some ⟨w.heap.size + 1, 0, none⟩), .pointer (some ⟨w.heap.size + 1, 1, none⟩), .pointer (some ⟨w.heap.size + 1, 2, none⟩), .pointer (some ⟨w.heap.size + 1, 3, none⟩)] 107)) = w3 at *
  refine (rdNums4_any r (w.heap.size + 2) (w.heap.size + 1) (fun _ => 0) w3 HR.out HP.out HG.out (fun _ => inI_lit (by decide) (by decide)) (by omega) (by omega)).mono ?_
  rintro e w4 ⟨rfl, -, hB4, hK4, a, ha, hg4⟩
  have HG4 : Hid (w4.heap[w.heap.size + 1]? = some (.cells (markC a) 44 (0, 0))) := hg4
  have H04 : Hid (w4.heap[w.heap.size]? = some (.cells (markC (fun _ => 0)) 44 (0, 0))) := (hK4 _ (by rw [HS3.out]; omega) (by omega) (by omega)).trans H0.out
  have hW4 : Below r w w4 := (HB3.out.mono (by omega)).trans hB4
  clear hg4 hB4 hK4 HG HP HR H0
  go_wp2_with (first | (refine wpList_load_mark rfl _ rfl (w.heap.size + 1) a 44 (0, 0) ?_ ?_ ?_; rfl; exact HG4.out) | (refine wpList_store_mark rfl _ _ rfl w.heap.size a (fun _ => 0) ?_ ?_ H04.out ?_; rfl; rfl))
  have HC5 : Hid ((w4.setRow w.heap.size (markC a)).heap[w.heap.size]? = some (.cells (markC a) 44 (0, 0))) := setRow_blk H04.out _
  have hW5 : Below r w (w4.setRow w.heap.size (markC a)) := hW4.trans ((keeps_setRow w4 _ _).below (by omega) (by have := lt_blk H04.out; omega))
  refine bodyPost_ret (v := .agg (markC a)) ?_ rfl ⟨⟨a, rfl, ha⟩, hW5⟩
  obtain ⟨d, hd1, hd2⟩ := mark_desc
  exact results_cell_row rfl _ _ w.heap.size _ _ _ d rfl HC5.out hd1 (by cases d <;> simp_all [TypeDesc.isRow]) (mark_info a)
set_option maxHeartbeats 1000000 in
theorem bytesEqual_any (P Q : List Int) (ao bo : Option Addr) (n q c d : Nat) (w : World) (hP : Rowed w ao P c) (hQ : Rowed w bo Q d) (hn : n = P.length) (hq : q = Q.length) : Calls Try.prog 52 #[.slice ao n c, .slice bo q d] w fun e w' => e = .returned (.bool ((strOf P).toList == (strOf Q).toList)) ∧ w' = w := by
  have s1 := conv_str (w := w) hP hn
  have s2 := conv_str (w := w) hQ hq
  obtain ⟨A, HA⟩ : ∃ A, Hid (strOf P = A) := ⟨_, rfl⟩
  obtain ⟨B, HB⟩ : ∃ B, Hid (strOf Q = B) := ⟨_, rfl⟩
  rw [HA.out] at s1 ⊢
  rw [HB.out] at s2 ⊢
  clear hP hQ hn hq
  go_enter Try.func52, Try.ntmps52
  go_wp2_with fail
  go_ret
  exact ⟨by simp, rfl⟩
end Go.Proofs.Ytkjocpadmlobgaa
