/- Votes held against each other by ==; the document's IsVote and IsMsg. -/
import Derived.Test.YtkjocpadmlobgaaWireK
import Derived.Test.YtkjocpadmlobgaaRefM
import Derived.Test.YtkjocpadmlobgaaWLaw
import Derived.Laws.StructEq
namespace Go.Proofs.Ytkjocpadmlobgaa
open Go.RowKit Go.Dig Go.Inv Go.Oct

def rowEq (n : Nat) (f g : Nat → Int) : Bool := (List.range n).all fun i => f i == g i
theorem rowEq_self (n : Nat) (f : Nat → Int) : rowEq n f f = true := by simp [rowEq]
theorem rowEq_iff {n : Nat} {f g : Nat → Int} : rowEq n f g = true ↔ ∀ j, j < n → f j = g j := by simp [rowEq]
theorem rowEq_comm (n : Nat) (f g : Nat → Int) : rowEq n f g = rowEq n g f := by
  rw [Bool.eq_iff_iff, rowEq_iff, rowEq_iff]
  exact ⟨fun h j hj => (h j hj).symm, fun h j hj => (h j hj).symm⟩

theorem equal_row (d : Nat) (n : Nat) (t e : TypeId) {P : Program} (ht : P.underlying t = some (.array n e)) (he : P.underlying e = some (.int .u8)) (hsz : ∀ w, (sizeOf e).run P w = .ok 1 w) (f g : Nat → Int) (w : World) :
    (Op.equalIn (d + 2) t (.agg (row .u8 n f)) (.agg (row .u8 n g))).run P w = .ok (rowEq n f g) w := by
  rw [rowEq, List.range_eq_range', Op.equalIn]
  simp only [Sem.run_bind, run_underlying ht, Result.andThen_ok, hsz, Std.Legacy.Range.forIn_eq_forIn_range', Std.Legacy.Range.size, Nat.sub_zero, Nat.add_sub_cancel, Nat.div_one]
  have hl : ∀ i ∈ List.range' 0 n 1, i < n := fun i hi => by simpa using (List.mem_range'_1.1 hi).2
  generalize List.range' 0 n 1 = l at hl ⊢
  induction l with
  | nil => simp
  | cons i l ih =>
    have hi : i < n := hl i (by simp)
    have px : (part e (row .u8 n f) (i * 1)).run P w = .ok (.int .u8 (f i)) w := by
      simp [part, isAgg, run_underlying he, row_get hi]
    have py : (part e (row .u8 n g) (i * 1)).run P w = .ok (.int .u8 (g i)) w := by
      simp [part, isAgg, run_underlying he, row_get hi]
    have pe : (Op.equalIn (d + 1) e (.int .u8 (f i)) (.int .u8 (g i))).run P w = .ok (f i == g i) w := run_equalIn_int w d e .u8 .u8 _ _ he
    simp only [List.forIn_cons, Sem.run_bind, px, py, pe, Result.andThen_ok, List.all_cons]
    cases hb : (f i == g i)
    · simp
    · simp only [Bool.not_true, Bool.false_eq_true, if_false, Sem.run_pure, Result.andThen_ok, Bool.true_and]
      exact ih fun j hj => hl j (by simp [hj])
theorem equalIn_hash (f g : Nat → Int) (w : World) : (Op.equalIn 10000 25 (.agg (row .u8 32 f)) (.agg (row .u8 32 g))).run Try.prog w = .ok (rowEq 32 f g) w :=
  equal_row 9998 32 25 5 (by kernel_rfl) (by kernel_rfl) (fun w => by simp [go_sem]) f g w
theorem cells_sum (x : VoteR) : x.cells.extract 3 35 = row .u8 32 x.sum := by
  refine Array.ext_getElem? fun i => ?_
  rw [Array.getElem?_extract]
  by_cases h : i < 32
  · rw [if_pos (by have := x.size; omega), x.atSum h, row_get h]
  · rw [if_neg (by have := x.size; omega), Array.getElem?_eq_none (by rw [row_size]; omega)]
theorem cells_tag (x : VoteR) : x.cells.extract 36 68 = row .u8 32 x.tag := by
  refine Array.ext_getElem? fun i => ?_
  rw [Array.getElem?_extract]
  by_cases h : i < 32
  · rw [if_pos (by have := x.size; omega), x.atTag h, row_get h]
  · rw [if_neg (by have := x.size; omega), Array.getElem?_eq_none (by rw [row_size]; omega)]
theorem wp_load_vote {o : Oper} {a : Act} {w : World} {K : Act → World → Prop} {Q : Exit → Act → World → Prop} (x : Operand) (ho : o.op = .load 62 x) (b off : Nat) (hx : a.eval x = .pointer (some ⟨b, off, none⟩)) (y : VoteR)
    (hc : VoteAt w b off y) (h : K (a.put o.dst (.agg y.cells)) w) : o.wp Try.prog a w K Q := by
  obtain ⟨d, hd1, hd2⟩ := vote_row
  refine wp_load_mid 62 x ho b off hx y.cells.toList d (fun j v hv => ?_) hd1 hd2 (by rw [Array.length_toList]; exact vote_info y) (by simpa using h)
  have hv' : y.cells[j]? = some v := by simpa using hv
  have hj : j < 68 := by have := (Array.getElem?_eq_some_iff.1 hv').1; rwa [VoteR.size] at this
  rw [hc j hj]; exact hv'
theorem equalIn_hash9 (f g : Nat → Int) (w : World) : (Op.equalIn 9999 25 (.agg (row .u8 32 f)) (.agg (row .u8 32 g))).run Try.prog w = .ok (rowEq 32 f g) w := equal_row 9997 32 25 5 (by kernel_rfl) (by kernel_rfl) (fun w => by kernel_rfl) f g w
theorem part_int (x : Array Value) (o : Nat) (z : Int) (h : x[o]? = some (.int .i64 z)) (w : World) : (part 3 x o).run Try.prog w = .ok (.int .i64 z) w := by
  simp [part, isAgg, run_underlying Try.underlying3, h]
theorem part_hash (x : Array Value) (o : Nat) (f : Nat → Int) (h : x.extract o (o + 32) = row .u8 32 f) (w : World) : (part 25 x o).run Try.prog w = .ok (.agg (row .u8 32 f)) w := by
  rw [← h]
  obtain ⟨d, hd1, hd2⟩ := hash_row
  cases d <;> first | (simp [TypeDesc.isRow] at hd2; done) | simp [part, isAgg, run_underlying hd1]
theorem eq_step {d : Nat} {x y : Array Value} {f : Field} {fs : List Field} {w : World} {u v : Value} {b c : Bool} (hn : f.name ≠ "_") (h1 : (part f.type x f.offset).run Try.prog w = .ok u w) (h2 : (part f.type y f.offset).run Try.prog w = .ok v w) (h3 : (Op.equalIn d f.type u v).run Try.prog w = .ok b w) (h4 : (Op.eqFields d x y fs).run Try.prog w = .ok c w) :
    (Op.eqFields d x y (f :: fs)).run Try.prog w = .ok (b && c) w := by
  simp only [Op.eqFields, if_pos hn, Sem.run_bind, h1, h2, h3, Result.andThen_ok]
  cases b
  · simp
  · simpa using h4
def voteEqB (x y : VoteR) : Bool := (x.k == y.k) && ((x.s == y.s) && ((x.v == y.v) && (rowEq 32 x.sum y.sum && ((x.f == y.f) && (rowEq 32 x.tag y.tag && true)))))
theorem voteEqB_iff {x y : VoteR} : voteEqB x y = true ↔ VoteEq x y := by
  simp only [voteEqB, Bool.and_eq_true, beq_iff_eq, rowEq_iff, and_true, VoteEq]
theorem equalIn_vote2 (x y : VoteR) (w : World) : (Op.equalIn 10000 62 (.agg x.cells) (.agg y.cells)).run Try.prog w = .ok (voteEqB x y) w := by
  refine (run_equalIn_struct (P := Try.prog) w 9999 62 x.cells y.cells (by kernel_rfl) (by kernel_rfl)).trans ?_
  have hf : (Try.prog.fieldsOf 62).toList.map (fun f => (f.name, f.type, f.offset)) = [("Kind", 3, 0), ("Slot", 3, 1), ("View", 3, 2), ("Sum", 25, 3), ("From", 3, 35), ("Tag", 25, 36)] := by kernel_rfl
  generalize (Try.prog.fieldsOf 62).toList = fs at hf
  have hl : fs.length = 6 := by have := congrArg List.length hf; simpa using this
  match fs, hl with
  | [f0, f1, f2, f3, f4, f5], _ =>
    simp only [List.map_cons, List.map_nil, List.cons.injEq, Prod.mk.injEq, and_true] at hf
    obtain ⟨⟨n0, t0, o0⟩, ⟨n1, t1, o1⟩, ⟨n2, t2, o2⟩, ⟨n3, t3, o3⟩, ⟨n4, t4, o4⟩, n5, t5, o5⟩ := hf
    have hint : ∀ (a b : Int), (Op.equalIn 9999 3 (.int .i64 a) (.int .i64 b)).run Try.prog w = .ok (a == b) w := fun a b => run_equalIn_int (P := Try.prog) w 9998 3 .i64 .i64 a b Try.underlying3
    refine eq_step (by rw [n0]; decide) (u := .int .i64 x.k) (v := .int .i64 y.k) (by rw [t0, o0]; exact part_int _ _ _ x.at0 w) (by rw [t0, o0]; exact part_int _ _ _ y.at0 w) (by rw [t0]; exact hint _ _) ?_
    refine eq_step (by rw [n1]; decide) (u := .int .i64 x.s) (v := .int .i64 y.s) (by rw [t1, o1]; exact part_int _ _ _ x.at1 w) (by rw [t1, o1]; exact part_int _ _ _ y.at1 w) (by rw [t1]; exact hint _ _) ?_
    refine eq_step (by rw [n2]; decide) (u := .int .i64 x.v) (v := .int .i64 y.v) (by rw [t2, o2]; exact part_int _ _ _ x.at2 w) (by rw [t2, o2]; exact part_int _ _ _ y.at2 w) (by rw [t2]; exact hint _ _) ?_
    refine eq_step (by rw [n3]; decide) (u := .agg (row .u8 32 x.sum)) (v := .agg (row .u8 32 y.sum)) (by rw [t3, o3]; exact part_hash _ _ _ (cells_sum x) w) (by rw [t3, o3]; exact part_hash _ _ _ (cells_sum y) w) (by rw [t3]; exact equalIn_hash9 _ _ w) ?_
    refine eq_step (by rw [n4]; decide) (u := .int .i64 x.f) (v := .int .i64 y.f) (by rw [t4, o4]; exact part_int _ _ _ x.at35 w) (by rw [t4, o4]; exact part_int _ _ _ y.at35 w) (by rw [t4]; exact hint _ _) ?_
    exact eq_step (by rw [n5]; decide) (u := .agg (row .u8 32 x.tag)) (v := .agg (row .u8 32 y.tag)) (by rw [t5, o5]; exact part_hash _ _ _ (cells_tag x) w) (by rw [t5, o5]; exact part_hash _ _ _ (cells_tag y) w) (by rw [t5]; exact equalIn_hash9 _ _ w) (by simp [Op.eqFields])
set_option maxRecDepth 10000 in
set_option maxHeartbeats 2000000 in
theorem rIsVote_any (x : VoteR) (w : World) : Calls Try.prog 32 #[.agg x.cells] w fun e w' => e = .returned (.bool (voteB x)) ∧ Below w.heap.size w w' := by
  have hb0 : (w.alloc (.cells x.cells 62)).heap[w.heap.size]? = some (.cells x.cells 62 (0, 0)) := alloc_blk _ _
  have hc0 : (w.alloc (.cells x.cells 62)).cell? ⟨w.heap.size, 0, none⟩ = some (.int .i64 x.k) := (cell_blk hb0 _).trans x.at0
  have hc1 : (w.alloc (.cells x.cells 62)).cell? ⟨w.heap.size, 1, none⟩ = some (.int .i64 x.s) := (cell_blk hb0 _).trans x.at1
  have hc2 : (w.alloc (.cells x.cells 62)).cell? ⟨w.heap.size, 2, none⟩ = some (.int .i64 x.v) := (cell_blk hb0 _).trans x.at2
  have hc3 : (w.alloc (.cells x.cells 62)).cell? ⟨w.heap.size, 35, none⟩ = some (.int .i64 x.f) := (cell_blk hb0 _).trans x.at35
  have HB := below_alloc w (.cells x.cells 62)
  have HV : Hid (voteB x = (inB x.k 1 3 && (inB x.s 0 63 && inB x.v 0 8) && inB x.f 0 9)) := rfl
  clear hb0
  cases b0 : inB x.k 1 3
  · rw [HV.out, b0]
    clear HV
    go_enter Try.func32, Try.ntmps32
    go_wp2_with (refine wpList_box_row rfl 62 _ rfl _ rfl ?_)
    refine (rIn_any x.k 1 3 _).mono ?_
    rintro e w1 ⟨rfl, rfl⟩
    rw [b0]
    go_wp2_with fail
    go_ret
    exact ⟨by simp, HB⟩
  · have HV0 := HV
    cases b1 : inB x.s 0 63
    · rw [HV.out, b1]
      clear HV
      go_enter Try.func32, Try.ntmps32
      go_wp2_with (refine wpList_box_row rfl 62 _ rfl _ rfl ?_)
      refine (rIn_any x.k 1 3 _).mono ?_
      rintro e w1 ⟨rfl, rfl⟩
      rw [b0]
      go_wp2_with fail
      refine (rIn_any x.s 0 63 _).mono ?_
      rintro e w1 ⟨rfl, rfl⟩
      rw [b1]
      go_wp2_with fail
      go_ret
      exact ⟨by simp, HB⟩
    · have HV1 := HV
      cases b2 : inB x.v 0 8
      · rw [HV.out, b2]
        clear HV
        go_enter Try.func32, Try.ntmps32
        go_wp2_with (refine wpList_box_row rfl 62 _ rfl _ rfl ?_)
        refine (rIn_any x.k 1 3 _).mono ?_
        rintro e w1 ⟨rfl, rfl⟩
        rw [b0]
        go_wp2_with fail
        refine (rIn_any x.s 0 63 _).mono ?_
        rintro e w1 ⟨rfl, rfl⟩
        rw [b1]
        go_wp2_with fail
        refine (rIn_any x.v 0 8 _).mono ?_
        rintro e w1 ⟨rfl, rfl⟩
        rw [b2]
        go_wp2_with fail
        go_ret
        exact ⟨by simp, HB⟩
      · have HV2 := HV
        rw [HV.out, b0, b1, b2]
        clear HV HV0 HV1 HV2
        go_enter Try.func32, Try.ntmps32
        go_wp2_with (refine wpList_box_row rfl 62 _ rfl _ rfl ?_)
        refine (rIn_any x.k 1 3 _).mono ?_
        rintro e w1 ⟨rfl, rfl⟩
        rw [b0]
        go_wp2_with fail
        refine (rIn_any x.s 0 63 _).mono ?_
        rintro e w1 ⟨rfl, rfl⟩
        rw [b1]
        go_wp2_with fail
        refine (rIn_any x.v 0 8 _).mono ?_
        rintro e w1 ⟨rfl, rfl⟩
        rw [b2]
        go_wp2_with fail
        refine (rIn_any x.f 0 9 _).mono ?_
        rintro e w1 ⟨rfl, rfl⟩
        go_wp2_with fail
        go_ret
        exact ⟨by simp, HB⟩
set_option maxRecDepth 10000 in
set_option maxHeartbeats 4000000 in
theorem rIsMsg_any (m : MsgR) (P : List Int) (ys : List VoteR) (w : World) (h : MsgIn w m P ys) : Calls Try.prog 25 #[.agg m.cells] w fun e w' => e = .returned (.bool (msgB m ys)) ∧ Below w.heap.size w w' := by
  have hb0 : (w.alloc (.cells m.cells 27)).heap[w.heap.size]? = some (.cells m.cells 27 (0, 0)) := alloc_blk _ _
  have hc0 : (w.alloc (.cells m.cells 27)).cell? ⟨w.heap.size, 0, none⟩ = some (.int .i64 m.k) := (cell_blk hb0 _).trans m.at0
  have hc1 : (w.alloc (.cells m.cells 27)).cell? ⟨w.heap.size, 1, none⟩ = some (.int .i64 m.f) := (cell_blk hb0 _).trans m.at1
  have hc2 : (w.alloc (.cells m.cells 27)).cell? ⟨w.heap.size, 2, none⟩ = some (.int .i64 m.t) := (cell_blk hb0 _).trans m.at2
  have hc3 : (w.alloc (.cells m.cells 27)).cell? ⟨w.heap.size, 3, none⟩ = some (.int .i64 m.s) := (cell_blk hb0 _).trans m.at3
  have hc4 : (w.alloc (.cells m.cells 27)).cell? ⟨w.heap.size, 4, none⟩ = some (.int .i64 m.v) := (cell_blk hb0 _).trans m.at4
  have hc5 : (w.alloc (.cells m.cells 27)).cell? ⟨w.heap.size, 5, none⟩ = some (.slice m.va m.vl m.vc) := (cell_blk hb0 _).trans m.at5
  have hc6 : (w.alloc (.cells m.cells 27)).cell? ⟨w.heap.size, 6, none⟩ = some (.slice m.ya m.yl m.yc) := (cell_blk hb0 _).trans m.at6
  have HB := below_alloc w (.cells m.cells 27)
  have HM : Hid (msgB m ys = (inB m.k 1 6 && inB m.f 0 9 && inB m.t 0 9 && (inB m.s 0 63 && inB m.v 0 8) && decide (m.vl ≤ 200) && decide (m.yl ≤ 10) && ys.all voteB)) := rfl
  have HN : Hid (m.yl = ys.length) := h.yl
  have HVo : Hid (VotesAt (w.alloc (.cells m.cells 27)) m.ya ys) := h.vot.below HB (Nat.le_refl _)
  clear hb0 h
  cases b0 : inB m.k 1 6
  · rw [HM.out, b0]
    clear HM
    go_enter Try.func25, Try.ntmps25
    go_wp2_with (refine wpList_box_row rfl 27 _ rfl _ rfl ?_)
    refine (rIn_any m.k 1 6 _).mono ?_
    rintro e w1 ⟨rfl, rfl⟩
    rw [b0]
    go_wp2_with fail
    go_ret
    exact ⟨by simp, HB⟩
  · have q0 := b0
    cases b1 : inB m.f 0 9
    · rw [HM.out, b1]
      clear HM
      go_enter Try.func25, Try.ntmps25
      go_wp2_with (refine wpList_box_row rfl 27 _ rfl _ rfl ?_)
      refine (rIn_any m.k 1 6 _).mono ?_
      rintro e w1 ⟨rfl, rfl⟩
      rw [b0]
      go_wp2_with fail
      refine (rIn_any m.f 0 9 _).mono ?_
      rintro e w1 ⟨rfl, rfl⟩
      rw [b1]
      go_wp2_with fail
      go_ret
      exact ⟨by simp, HB⟩
    · have q1 := b1
      cases b2 : inB m.t 0 9
      · rw [HM.out, b2]
        clear HM
        go_enter Try.func25, Try.ntmps25
        go_wp2_with (refine wpList_box_row rfl 27 _ rfl _ rfl ?_)
        refine (rIn_any m.k 1 6 _).mono ?_
        rintro e w1 ⟨rfl, rfl⟩
        rw [b0]
        go_wp2_with fail
        refine (rIn_any m.f 0 9 _).mono ?_
        rintro e w1 ⟨rfl, rfl⟩
        rw [b1]
        go_wp2_with fail
        refine (rIn_any m.t 0 9 _).mono ?_
        rintro e w1 ⟨rfl, rfl⟩
        rw [b2]
        go_wp2_with fail
        go_ret
        exact ⟨by simp, HB⟩
      · have q2 := b2
        cases b3 : inB m.s 0 63
        · rw [HM.out, b3]
          clear HM
          go_enter Try.func25, Try.ntmps25
          go_wp2_with (refine wpList_box_row rfl 27 _ rfl _ rfl ?_)
          refine (rIn_any m.k 1 6 _).mono ?_
          rintro e w1 ⟨rfl, rfl⟩
          rw [b0]
          go_wp2_with fail
          refine (rIn_any m.f 0 9 _).mono ?_
          rintro e w1 ⟨rfl, rfl⟩
          rw [b1]
          go_wp2_with fail
          refine (rIn_any m.t 0 9 _).mono ?_
          rintro e w1 ⟨rfl, rfl⟩
          rw [b2]
          go_wp2_with fail
          refine (rIn_any m.s 0 63 _).mono ?_
          rintro e w1 ⟨rfl, rfl⟩
          rw [b3]
          go_wp2_with fail
          go_ret
          exact ⟨by simp, HB⟩
        · have q3 := b3
          cases b4 : inB m.v 0 8
          · rw [HM.out, b4]
            clear HM
            go_enter Try.func25, Try.ntmps25
            go_wp2_with (refine wpList_box_row rfl 27 _ rfl _ rfl ?_)
            refine (rIn_any m.k 1 6 _).mono ?_
            rintro e w1 ⟨rfl, rfl⟩
            rw [b0]
            go_wp2_with fail
            refine (rIn_any m.f 0 9 _).mono ?_
            rintro e w1 ⟨rfl, rfl⟩
            rw [b1]
            go_wp2_with fail
            refine (rIn_any m.t 0 9 _).mono ?_
            rintro e w1 ⟨rfl, rfl⟩
            rw [b2]
            go_wp2_with fail
            refine (rIn_any m.s 0 63 _).mono ?_
            rintro e w1 ⟨rfl, rfl⟩
            rw [b3]
            go_wp2_with fail
            refine (rIn_any m.v 0 8 _).mono ?_
            rintro e w1 ⟨rfl, rfl⟩
            rw [b4]
            go_wp2_with fail
            go_ret
            exact ⟨by simp, HB⟩
          · have q4 := b4
            by_cases hv : m.vl ≤ 200
            · by_cases hy : m.yl ≤ 10
              · have hv2 : ¬ (200 : Int) < (m.vl : Int) := by omega
                have hy2 : ¬ (10 : Int) < (m.yl : Int) := by omega
                have HM2 : Hid (msgB m ys = ys.all voteB) := by show _ = _; rw [HM.out, b0, b1, b2, b3, b4, decide_eq_true hv, decide_eq_true hy]; simp
                clear HM q0 q1 q2 q3 q4
                go_enter Try.func25, Try.ntmps25
                go_wp2_with (refine wpList_box_row rfl 27 _ rfl _ rfl ?_)
                refine (rIn_any m.k 1 6 _).mono ?_
                rintro e w1 ⟨rfl, rfl⟩
                rw [b0]
                go_wp2_with fail
                refine (rIn_any m.f 0 9 _).mono ?_
                rintro e w1 ⟨rfl, rfl⟩
                rw [b1]
                go_wp2_with fail
                refine (rIn_any m.t 0 9 _).mono ?_
                rintro e w1 ⟨rfl, rfl⟩
                rw [b2]
                go_wp2_with fail
                refine (rIn_any m.s 0 63 _).mono ?_
                rintro e w1 ⟨rfl, rfl⟩
                rw [b3]
                go_wp2_with fail
                refine (rIn_any m.v 0 8 _).mono ?_
                rintro e w1 ⟨rfl, rfl⟩
                rw [b4]
                go_wp2_with fail
                clear hc0 hc1 hc2 hc3 hc4 hc5
                obtain ⟨w0, hw0⟩ : ∃ w0, w0 = (w.alloc (.cells m.cells 27)) := ⟨_, rfl⟩
                rw [← hw0] at hc6 HB HVo
                simp only [← hw0]
                clear hw0
                have HS : Hid (∀ j, (hj : j < ys.length) → ∃ b o, m.ya = some ⟨b, o, none⟩ ∧ b < w0.heap.size ∧ VoteAt w0 b (o + j * 68) ys[j]) := fun j hj => by
                  obtain ⟨b, o, e, hc⟩ := HVo.out (fun e => by rw [e] at hj; cases hj)
                  exact ⟨b, o, e, World.block_lt_of_cell? w0 _ ((hc j hj 0 (by omega)).trans (VoteR.at0 _)), hc j hj⟩
                have hlt0 : w.heap.size < w0.heap.size := World.block_lt_of_cell? w0 _ hc6
                have hsz : w.heap.size ≤ w0.heap.size := HB.size
                obtain ⟨n, hn⟩ : ∃ n, n = m.yl := ⟨_, rfl⟩
                obtain ⟨ya, hya⟩ : ∃ ya, ya = m.ya := ⟨_, rfl⟩
                rw [← hn] at HN hy hc6
                rw [← hya] at HS hc6
                have HC6 : Hid (w0.cell? ⟨w.heap.size, 6, none⟩ = some (.slice ya n m.yc)) := hc6
                clear hn hya hc6 HVo hv hv2 hy2
                go_loopw [3] (fun i wr => ∃ k : Nat, k ≤ n ∧ i = .int .i64 (k : Int) ∧ Below w0.heap.size w0 wr ∧ Hid ((ys.take k).all voteB = true)) (fun i _ => n - (intOf i).toNat)
                case atStart => exact ⟨0, by omega, rfl, Below.refl _ _, rfl⟩
                case round =>
                  obtain ⟨k, hk, rfl, hB, HA⟩ := hrel
                  have hc6 : wr.cell? ⟨w.heap.size, 6, none⟩ = some (.slice ya n m.yc) := (hB.cell hlt0).trans HC6.out
                  by_cases hlt : k < n
                  · have hkP : k < ys.length := by rw [← HN.out]; exact hlt
                    obtain ⟨b, o, rfl, hbl, hc⟩ := HS.out k hkP
                    have HV : Hid (VoteAt wr b (o + k * 68) ys[k]) := hc.same (hB.block b hbl)
                    have HT2 : Hid ((ys.take (k + 1)).all voteB = ((ys.take k).all voteB && voteB ys[k])) := by
                      show _ = _
                      rw [List.take_add_one, List.getElem?_eq_getElem hkP, List.all_append]; simp
                    have HF : Hid (voteB ys[k] = false → ys.all voteB = false) := fun hf => by
                      cases ha : ys.all voteB with
                      | false => rfl
                      | true => rw [List.all_eq_true.1 ha _ (List.getElem_mem hkP)] at hf; cases hf
                    obtain ⟨y, hy⟩ : ∃ y, y = ys[k] := ⟨_, rfl⟩
                    rw [← hy] at HV HT2 HF
                    clear hy hc hkP
                    go_wp2_with (first | (refine wpList_load_vote rfl _ rfl b (o + k * 68) ?_ y ?_ ?_; rfl; exact HV.out))
                    refine (rIsVote_any y _).mono ?_
                    rintro e w2 ⟨rfl, hB2⟩
                    have hB3 : Below w0.heap.size w0 w2 := hB.trans (hB2.mono hB.size)
                    clear HV hB2 hB hc6
                    cases hvb : voteB y
                    · go_wp2_with fail
                      go_ret
                      refine ⟨congrArg (fun b => Ending.returned (Value.bool b)) (Eq.symm ?_), HB.trans (hB3.mono hsz)⟩
                      rw [HM2.out, HF.out hvb]
                    · have HA2 : Hid ((ys.take (k + 1)).all voteB = true) := by show _ = _; rw [HT2.out, HA.out, hvb]; rfl
                      clear HF HT2 HA
                      go_wp2_with fail
                      exact ⟨⟨k + 1, by omega, rfl, hB3, HA2⟩, by simp [intOf]; omega⟩
                  · obtain rfl : k = n := by omega
                    go_wp2_with fail
                    go_ret
                    refine ⟨congrArg (fun b => Ending.returned (Value.bool b)) (Eq.symm ?_), HB.trans (hB.mono hsz)⟩
                    have ha := HA.out
                    rw [List.take_of_length_le (by rw [HN.out]; exact Nat.le_refl _)] at ha
                    rw [HM2.out, ha]
              · have hv2 : ¬ (200 : Int) < (m.vl : Int) := by omega
                have hy2 : (10 : Int) < (m.yl : Int) := by omega
                rw [HM.out, decide_eq_false hy]
                clear HM q0 q1 q2 q3 q4
                go_enter Try.func25, Try.ntmps25
                go_wp2_with (refine wpList_box_row rfl 27 _ rfl _ rfl ?_)
                refine (rIn_any m.k 1 6 _).mono ?_
                rintro e w1 ⟨rfl, rfl⟩
                rw [b0]
                go_wp2_with fail
                refine (rIn_any m.f 0 9 _).mono ?_
                rintro e w1 ⟨rfl, rfl⟩
                rw [b1]
                go_wp2_with fail
                refine (rIn_any m.t 0 9 _).mono ?_
                rintro e w1 ⟨rfl, rfl⟩
                rw [b2]
                go_wp2_with fail
                refine (rIn_any m.s 0 63 _).mono ?_
                rintro e w1 ⟨rfl, rfl⟩
                rw [b3]
                go_wp2_with fail
                refine (rIn_any m.v 0 8 _).mono ?_
                rintro e w1 ⟨rfl, rfl⟩
                rw [b4]
                go_wp2_with fail
                go_ret
                exact ⟨by simp, HB⟩
            · have hv2 : (200 : Int) < (m.vl : Int) := by omega
              rw [HM.out, decide_eq_false hv]
              clear HM q0 q1 q2 q3 q4
              go_enter Try.func25, Try.ntmps25
              go_wp2_with (refine wpList_box_row rfl 27 _ rfl _ rfl ?_)
              refine (rIn_any m.k 1 6 _).mono ?_
              rintro e w1 ⟨rfl, rfl⟩
              rw [b0]
              go_wp2_with fail
              refine (rIn_any m.f 0 9 _).mono ?_
              rintro e w1 ⟨rfl, rfl⟩
              rw [b1]
              go_wp2_with fail
              refine (rIn_any m.t 0 9 _).mono ?_
              rintro e w1 ⟨rfl, rfl⟩
              rw [b2]
              go_wp2_with fail
              refine (rIn_any m.s 0 63 _).mono ?_
              rintro e w1 ⟨rfl, rfl⟩
              rw [b3]
              go_wp2_with fail
              refine (rIn_any m.v 0 8 _).mono ?_
              rintro e w1 ⟨rfl, rfl⟩
              rw [b4]
              go_wp2_with fail
              go_ret
              exact ⟨by simp, HB⟩
end Go.Proofs.Ytkjocpadmlobgaa
