/- wire: which operations may be (opMayBe). For names of up to 2^40 bytes. -/
import Derived.Test.YtoihfhlelbdboabWireH
import Derived.Test.YtoihfhlelbdboabInv2
import Derived.Laws.StructEq
set_option linter.unusedSimpArgs false
set_option linter.unusedVariables false
namespace Go.Proofs.Ytoihfhlelbdboab
open Go.RowKit Go.Dig Go.Inv Go.Oct

/-- what its kind does not name is nothing -/
def sameB (k : Int) (n : ByteArray) (p e t r : Int) (b : Bool) : Bool :=
  if k = 1 then p == 0 && (e == 0 && (t == 0 && (r == 0 && (b == false))))
  else if k = 2 then n == eN && (b == false)
  else if k = 3 then n == eN && (r == 0)
  else n == eN && (p == 0 && (e == 0 && (t == 0 && (r == 0 && (b == false)))))
def opB (k c s : Int) (n : ByteArray) (p e t r : Int) (b : Bool) : Bool := inB k 1 4 && inB c 0 15 && inB s 0 1048576 && sameB k n p e t r b && (!decide (k = 1) || nameB n) && txnB p e t && inB r 0 3
theorem equal_ops (k c s : Int) (n m : ByteArray) (p e t r p' e' t' r' : Int) (b b' : Bool) (w : World) : (Op.equalIn 10000 32 (.agg (opC k c s n p e t r b)) (.agg (opC k c s m p' e' t' r' b'))).run Try.prog w = .ok (n == m && (p == p' && (e == e' && (t == t' && (r == r' && (b == b')))))) w := by
  have h := run_equalIn_struct (P := Try.prog) w 9999 32 (opC k c s n p e t r b) (opC k c s m p' e' t' r' b') (by kernel_rfl) (by kernel_rfl)
  refine h.trans ?_
  have hf : (Try.prog.fieldsOf 32).toList.map (fun f => (f.type, f.offset)) = [(3, 0), (3, 1), (3, 2), (9, 3), (3, 4), (3, 5), (3, 6), (3, 7), (4, 8)] := by kernel_rfl
  clear h hf
  simp [Op.eqFields, opC, go_sem]
  rw [beq_toListBytes]
  repeat' split
  all_goals simp_all
theorem equal_op (k c s : Int) (n : ByteArray) (p e t r : Int) (b : Bool) (w : World) : (Op.equalIn 10000 32 (.agg (opC k c s n p e t r b)) (.agg (namedC k c s n p e t r b))).run Try.prog w = .ok (sameB k n p e t r b) w := by
  have hb (x : ByteArray) : (x == x) = true := by rw [beq_toListBytes]; simp
  unfold namedC sameB
  split
  · rw [equal_ops]; simp [hb]
  · split
    · rw [equal_ops]; simp
    · split
      · rw [equal_ops]; simp
      · rw [equal_ops]
theorem wanted_g {o : Oper} {ops : Array Oper} {t : Array Value} {j : Nat} {b c : Bool} (hg : o.guard = some (j, c)) (hy : yielded ops t j = some b) : Region.wanted o (yielded ops t) = (b == c) := by
  simp [Region.wanted, hg, hy]
theorem not_false_b {b : Bool} (h : (!b) = false) : b = true := by simpa using h
theorem wanted_off {o : Oper} {ops : Array Oper} {t : Array Value} {j : Nat} {c : Bool} (hg : o.guard = some (j, c)) (hy : yielded ops t j = none) : Region.wanted o (yielded ops t) = false := by
  simp [Region.wanted, hg, hy]
theorem wp_load_op {o : Oper} {a : Act} {w : World} {K : Act → World → Prop} {Q : Exit → Act → World → Prop} (x : Operand) (ho : o.op = .load 32 x) (b0 : Nat) (k c s : Int) (n : ByteArray) (p e t r : Int) (b : Bool) (ty : TypeId) (fr : Nat × Nat) (hx : a.eval x = .pointer (some ⟨b0, 0, none⟩))
    (hc : w.heap[b0]? = some (.cells (opC k c s n p e t r b) ty fr)) (h : K (a.put o.dst (.agg (opC k c s n p e t r b))) w) : o.wp Try.prog a w K Q := by
  obtain ⟨d, hd1, hd2⟩ := op_row
  refine wp_load_mid 32 x ho b0 0 hx (opC k c s n p e t r b).toList d (fun j v hv => ?_) hd1 hd2 (by rw [Array.length_toList]; exact op_info k c s n p e t r b) (by simpa using h)
  rw [Nat.zero_add, cell_blk hc]; simpa using hv
set_option maxRecDepth 10000 in
set_option maxHeartbeats 2000000 in
theorem opMayBe_A (k c s : Int) (n : ByteArray) (p e t r : Int) (b : Bool) (w : World) (hn : n.size < 9223372036854775808) (hs : sameB k n p e t r b = false) : Calls Try.prog 44 #[.agg (opC k c s n p e t r b)] w fun x w' => x = .returned (.bool (opB k c s n p e t r b)) ∧ Below w.heap.size w w' := by
  have HS : Hid (sameB k n p e t r b = false) := hs
  have HK : Hid True := trivial
  have HB0 : Hid ((w.alloc (.cells (opC k c s n p e t r b) 32)).heap[w.heap.size]? = some (.cells (opC k c s n p e t r b) 32 (0, 0))) := alloc_blk _ _
  have hcc : ∀ j, (w.alloc (.cells (opC k c s n p e t r b) 32)).cell? ⟨w.heap.size, j, none⟩ = (opC k c s n p e t r b)[j]? := fun j => cell_blk HB0.out j
  have hc0 : (w.alloc (.cells (opC k c s n p e t r b) 32)).cell? ⟨w.heap.size, 0, none⟩ = some (.int .i64 k) := hcc 0
  have hc1 : (w.alloc (.cells (opC k c s n p e t r b) 32)).cell? ⟨w.heap.size, 1, none⟩ = some (.int .i64 c) := hcc 1
  have hc2 : (w.alloc (.cells (opC k c s n p e t r b) 32)).cell? ⟨w.heap.size, 2, none⟩ = some (.int .i64 s) := hcc 2
  have hBw := below_alloc w (.cells (opC k c s n p e t r b) 32)
  clear hcc hs
  go_enter Try.func44, Try.ntmps44
  go_wp2_with (first | (refine wpList_box_row rfl 32 _ rfl _ ?_ ?_; rfl) | (go_at_call 59; refine (within_any _ _ _ _).mono ?_; rintro e w' ⟨rfl, rfl⟩))
  all_goals try (go_ret; refine ⟨congrArg (fun b => Ending.returned (Value.bool b)) (Eq.symm ?_), hBw⟩; first | (simp [opB, *]; done) | (simp [opB, *]; intros; simp_all; done))
  have HF : Hid (inB k 1 4 = true ∧ inB c 0 15 = true ∧ inB s 0 1048576 = true) := ⟨by assumption, by assumption, not_false_b (by assumption)⟩
  simp only [show (!inB s 0 1048576) = false from by assumption]
  clear hc0 hc1 hc2
  have HB1 := HB0
  generalize w.alloc (.cells (opC k c s n p e t r b) 32) = w1 at *
  refine wp_region_growG (by kernel_rfl) (by kernel_rfl) (fun xs => { tmps := (.agg (opC k c s n p e t r b) :: .pointer (some ⟨w.heap.size, 0, none⟩) :: .bool false :: .pointer (some ⟨w.heap.size, 0, none⟩) :: .int .i64 k :: .bool true :: .bool false :: .bool false :: .pointer (some ⟨w.heap.size, 1, none⟩) :: .int .i64 c :: .bool true :: .bool false :: .bool false :: .bool false :: .pointer (some ⟨w.heap.size, 2, none⟩) :: .int .i64 s :: .bool (inB s 0 1048576) :: .bool false :: .bool false :: xs 0 :: xs 1 :: xs 2 :: xs 3 :: xs 4 :: xs 5 :: xs 6 :: xs 7 :: xs 8 :: xs 9 :: xs 10 :: xs 11 :: xs 12 :: xs 13 :: xs 14 :: undef :: undef :: undef :: undef :: undef :: undef :: undef :: undef :: undef :: undef :: undef :: undef :: []).toArray, defers := [] })
    (fun ii xx _ => match ii with | 0 => xx = .agg (opC k c s n p e t r b) | 1 => xx = .agg (opC k c s n p e t r b) | 2 => xx = .agg (namedC k c s n p e t r b) | 3 => xx = .bool true | 4 => xx = .bool true | 5 => xx = undef | 6 => xx = undef | 7 => xx = undef | 8 => xx = undef | 9 => xx = undef | 10 => xx = undef | 11 => xx = undef | 12 => xx = undef | 13 => xx = undef | 14 => xx = .bool true | _ => True) (fun _ => undef) (by repeat (first | exact trivial | refine ⟨fun _ _ => rfl, ?_⟩)) (fun _ _ _ _ _ h => h) ⟨?_, ?_, ?_, ?_, ?_, ?_, ?_, ?_, ?_, ?_, ?_, ?_, ?_, ?_, ?_, trivial⟩ ?_
  · intro xs W hB hp K hK
    rw [if_pos (wanted_none rfl _)]
    clear hp
    exact wp_load_op _ rfl w.heap.size k c s n p e t r b 32 (0, 0) rfl (Below.blk hB (lt_blk HB1.out) HB1.out) (hK _ _ (Below.refl _ _) rfl)
  · intro xs W hB hp K hK
    rw [if_pos (wanted_none rfl _)]
    clear hp
    exact wp_load_op _ rfl w.heap.size k c s n p e t r b 32 (0, 0) rfl (Below.blk hB (lt_blk HB1.out) HB1.out) (hK _ _ (Below.refl _ _) rfl)
  · intro xs W hB hp K hK
    rw [if_pos (wanted_none rfl _)]
    have h1 : xs 1 = .agg (opC k c s n p e t r b) := hp.1 rfl
    clear hp
    simp only [h1] at hK ⊢
    clear h1
    go_simp
    refine (named_any k c s n p e t r b W).mono ?_
    rintro x w' ⟨rfl, hB'⟩
    exact hK _ _ hB' rfl
  · intro xs W hB hp K hK
    rw [if_pos (wanted_none rfl _)]
    have h0 : xs 0 = .agg (opC k c s n p e t r b) := hp.1 rfl
    have h2 : xs 2 = .agg (namedC k c s n p e t r b) := hp.2.1 rfl
    clear hp
    have heq := equal_op k c s n p e t r b
    simp only [HS.out] at heq
    simp only [h0, h2] at hK ⊢
    clear h0 h2
    go_simp
    exact hK _ _ (Below.refl _ _) (by first | rfl | (show Value.bool _ = _; simp; done) | (show Value.bool _ = _; simp [HK.out]; done))
  · intro xs W hB hp K hK
    rw [if_pos (wanted_none rfl _)]
    have h3 : xs 3 = .bool true := hp.1 rfl
    clear hp
    simp only [h3] at hK ⊢
    clear h3
    go_simp
    exact hK _ _ (Below.refl _ _) (by first | rfl | (show Value.bool _ = _; simp; done) | (show Value.bool _ = _; simp [HK.out]; done))
  · intro xs W hB hp K hK
    have hgd : xs 4 = .bool true := hp.1 rfl
    rw [wanted_g (b := true) rfl (by show (match some (xs 4) with | some (.bool b) => some b | _ => none) = some true; rw [hgd])]
    exact hK _ _ (Below.refl _ _) rfl
  · intro xs W hB hp K hK
    have hgd : xs 4 = .bool true := hp.2.1 rfl
    rw [wanted_g (b := true) rfl (by show (match some (xs 4) with | some (.bool b) => some b | _ => none) = some true; rw [hgd])]
    exact hK _ _ (Below.refl _ _) rfl
  · intro xs W hB hp K hK
    have hgd : xs 4 = .bool true := hp.2.1 rfl
    rw [wanted_g (b := true) rfl (by show (match some (xs 4) with | some (.bool b) => some b | _ => none) = some true; rw [hgd])]
    exact hK _ _ (Below.refl _ _) rfl
  · intro xs W hB hp K hK
    have hgd : xs 4 = .bool true := hp.2.1 rfl
    rw [wanted_g (b := true) rfl (by show (match some (xs 4) with | some (.bool b) => some b | _ => none) = some true; rw [hgd])]
    exact hK _ _ (Below.refl _ _) rfl
  · intro xs W hB hp K hK
    have hgd : xs 8 = undef := hp.1 rfl
    rw [wanted_off rfl (by show (match some (xs 8) with | some (.bool b) => some b | _ => none) = none; rw [hgd]; rfl)]
    exact hK _ _ (Below.refl _ _) rfl
  · intro xs W hB hp K hK
    have hgd : xs 8 = undef := hp.2.1 rfl
    rw [wanted_off rfl (by show (match some (xs 8) with | some (.bool b) => some b | _ => none) = none; rw [hgd]; rfl)]
    exact hK _ _ (Below.refl _ _) rfl
  · intro xs W hB hp K hK
    have hgd : xs 8 = undef := hp.2.1 rfl
    rw [wanted_off rfl (by show (match some (xs 8) with | some (.bool b) => some b | _ => none) = none; rw [hgd]; rfl)]
    exact hK _ _ (Below.refl _ _) rfl
  · intro xs W hB hp K hK
    have hgd : xs 8 = undef := hp.2.1 rfl
    rw [wanted_off rfl (by show (match some (xs 8) with | some (.bool b) => some b | _ => none) = none; rw [hgd]; rfl)]
    exact hK _ _ (Below.refl _ _) rfl
  · intro xs W hB hp K hK
    have hgd : xs 4 = .bool true := hp.2.2.1 rfl
    rw [wanted_g (b := true) rfl (by show (match some (xs 4) with | some (.bool b) => some b | _ => none) = some true; rw [hgd])]
    exact hK _ _ (Below.refl _ _) rfl
  · intro xs W hB hp K hK
    rw [if_pos (wanted_none rfl _)]
    have h4 : xs 4 = .bool true := hp.1 rfl
    have h13 : xs 13 = undef := hp.2.1 rfl
    clear hp
    simp only [h4, h13] at hK ⊢
    clear h4 h13
    go_simp
    exact hK _ _ (Below.refl _ _) (by first | rfl | (show Value.bool _ = _; simp; done) | (show Value.bool _ = _; simp [HK.out]; done))
  · intro xs W hB hs
    have h14 : xs 14 = .bool true := hs 14 (by simp)
    simp only [h14]
    have hBf := hBw.trans (hB.mono hBw.size)
    go_wp2_with fail
    go_ret
    refine ⟨congrArg (fun b => Ending.returned (Value.bool b)) (Eq.symm ?_), hBf⟩
    have e1 := HS.out
    simp [opB, e1]
set_option maxRecDepth 10000 in
set_option maxHeartbeats 2000000 in
theorem opMayBe_B (k c s : Int) (n : ByteArray) (p e t r : Int) (b : Bool) (w : World) (hn : n.size < 9223372036854775808) (hs : sameB k n p e t r b = true) (hk : ¬ k = 1) : Calls Try.prog 44 #[.agg (opC k c s n p e t r b)] w fun x w' => x = .returned (.bool (opB k c s n p e t r b)) ∧ Below w.heap.size w w' := by
  have HS : Hid (sameB k n p e t r b = true) := hs
  have HK : Hid (¬ k = 1) := hk
  clear hk
  have HB0 : Hid ((w.alloc (.cells (opC k c s n p e t r b) 32)).heap[w.heap.size]? = some (.cells (opC k c s n p e t r b) 32 (0, 0))) := alloc_blk _ _
  have hcc : ∀ j, (w.alloc (.cells (opC k c s n p e t r b) 32)).cell? ⟨w.heap.size, j, none⟩ = (opC k c s n p e t r b)[j]? := fun j => cell_blk HB0.out j
  have hc0 : (w.alloc (.cells (opC k c s n p e t r b) 32)).cell? ⟨w.heap.size, 0, none⟩ = some (.int .i64 k) := hcc 0
  have hc1 : (w.alloc (.cells (opC k c s n p e t r b) 32)).cell? ⟨w.heap.size, 1, none⟩ = some (.int .i64 c) := hcc 1
  have hc2 : (w.alloc (.cells (opC k c s n p e t r b) 32)).cell? ⟨w.heap.size, 2, none⟩ = some (.int .i64 s) := hcc 2
  have hBw := below_alloc w (.cells (opC k c s n p e t r b) 32)
  clear hcc hs
  go_enter Try.func44, Try.ntmps44
  go_wp2_with (first | (refine wpList_box_row rfl 32 _ rfl _ ?_ ?_; rfl) | (go_at_call 59; refine (within_any _ _ _ _).mono ?_; rintro e w' ⟨rfl, rfl⟩))
  all_goals try (go_ret; refine ⟨congrArg (fun b => Ending.returned (Value.bool b)) (Eq.symm ?_), hBw⟩; first | (simp [opB, *]; done) | (simp [opB, *]; intros; simp_all; done))
  have HF : Hid (inB k 1 4 = true ∧ inB c 0 15 = true ∧ inB s 0 1048576 = true) := ⟨by assumption, by assumption, not_false_b (by assumption)⟩
  simp only [show (!inB s 0 1048576) = false from by assumption]
  clear hc0 hc1 hc2
  have HB1 := HB0
  generalize w.alloc (.cells (opC k c s n p e t r b) 32) = w1 at *
  refine wp_region_growG (by kernel_rfl) (by kernel_rfl) (fun xs => { tmps := (.agg (opC k c s n p e t r b) :: .pointer (some ⟨w.heap.size, 0, none⟩) :: .bool false :: .pointer (some ⟨w.heap.size, 0, none⟩) :: .int .i64 k :: .bool true :: .bool false :: .bool false :: .pointer (some ⟨w.heap.size, 1, none⟩) :: .int .i64 c :: .bool true :: .bool false :: .bool false :: .bool false :: .pointer (some ⟨w.heap.size, 2, none⟩) :: .int .i64 s :: .bool (inB s 0 1048576) :: .bool false :: .bool false :: xs 0 :: xs 1 :: xs 2 :: xs 3 :: xs 4 :: xs 5 :: xs 6 :: xs 7 :: xs 8 :: xs 9 :: xs 10 :: xs 11 :: xs 12 :: xs 13 :: xs 14 :: undef :: undef :: undef :: undef :: undef :: undef :: undef :: undef :: undef :: undef :: undef :: undef :: []).toArray, defers := [] })
    (fun ii xx _ => match ii with | 0 => xx = .agg (opC k c s n p e t r b) | 1 => xx = .agg (opC k c s n p e t r b) | 2 => xx = .agg (namedC k c s n p e t r b) | 3 => xx = .bool false | 4 => xx = .bool false | 5 => xx = .pointer (some ⟨w.heap.size, 0, none⟩) | 6 => xx = .int .i64 k | 7 => xx = .bool false | 8 => xx = .bool false | 9 => xx = undef | 10 => xx = undef | 11 => xx = undef | 12 => xx = undef | 13 => xx = .bool false | 14 => xx = .bool false | _ => True) (fun _ => undef) (by repeat (first | exact trivial | refine ⟨fun _ _ => rfl, ?_⟩)) (fun _ _ _ _ _ h => h) ⟨?_, ?_, ?_, ?_, ?_, ?_, ?_, ?_, ?_, ?_, ?_, ?_, ?_, ?_, ?_, trivial⟩ ?_
  · intro xs W hB hp K hK
    rw [if_pos (wanted_none rfl _)]
    clear hp
    exact wp_load_op _ rfl w.heap.size k c s n p e t r b 32 (0, 0) rfl (Below.blk hB (lt_blk HB1.out) HB1.out) (hK _ _ (Below.refl _ _) rfl)
  · intro xs W hB hp K hK
    rw [if_pos (wanted_none rfl _)]
    clear hp
    exact wp_load_op _ rfl w.heap.size k c s n p e t r b 32 (0, 0) rfl (Below.blk hB (lt_blk HB1.out) HB1.out) (hK _ _ (Below.refl _ _) rfl)
  · intro xs W hB hp K hK
    rw [if_pos (wanted_none rfl _)]
    have h1 : xs 1 = .agg (opC k c s n p e t r b) := hp.1 rfl
    clear hp
    simp only [h1] at hK ⊢
    clear h1
    go_simp
    refine (named_any k c s n p e t r b W).mono ?_
    rintro x w' ⟨rfl, hB'⟩
    exact hK _ _ hB' rfl
  · intro xs W hB hp K hK
    rw [if_pos (wanted_none rfl _)]
    have h0 : xs 0 = .agg (opC k c s n p e t r b) := hp.1 rfl
    have h2 : xs 2 = .agg (namedC k c s n p e t r b) := hp.2.1 rfl
    clear hp
    have heq := equal_op k c s n p e t r b
    simp only [HS.out] at heq
    simp only [h0, h2] at hK ⊢
    clear h0 h2
    go_simp
    exact hK _ _ (Below.refl _ _) (by first | rfl | (show Value.bool _ = _; simp; done) | (show Value.bool _ = _; simp [HK.out]; done))
  · intro xs W hB hp K hK
    rw [if_pos (wanted_none rfl _)]
    have h3 : xs 3 = .bool false := hp.1 rfl
    clear hp
    simp only [h3] at hK ⊢
    clear h3
    go_simp
    exact hK _ _ (Below.refl _ _) (by first | rfl | (show Value.bool _ = _; simp; done) | (show Value.bool _ = _; simp [HK.out]; done))
  · intro xs W hB hp K hK
    have hgd : xs 4 = .bool false := hp.1 rfl
    rw [wanted_g (b := false) rfl (by show (match some (xs 4) with | some (.bool b) => some b | _ => none) = some false; rw [hgd])]
    rw [if_pos (show (false == false) = true from rfl)]
    clear hgd
    clear hp
    go_simp
    exact hK _ _ (Below.refl _ _) rfl
  · intro xs W hB hp K hK
    have hgd : xs 4 = .bool false := hp.2.1 rfl
    rw [wanted_g (b := false) rfl (by show (match some (xs 4) with | some (.bool b) => some b | _ => none) = some false; rw [hgd])]
    rw [if_pos (show (false == false) = true from rfl)]
    clear hgd
    have h5 : xs 5 = .pointer (some ⟨w.heap.size, 0, none⟩) := hp.1 rfl
    clear hp
    have cc : W.cell? ⟨w.heap.size, 0, none⟩ = some (.int .i64 k) := (cell_blk (Below.blk hB (lt_blk HB1.out) HB1.out) 0).trans rfl
    simp only [h5] at hK ⊢
    clear h5
    go_simp
    exact hK _ _ (Below.refl _ _) rfl
  · intro xs W hB hp K hK
    have hgd : xs 4 = .bool false := hp.2.1 rfl
    rw [wanted_g (b := false) rfl (by show (match some (xs 4) with | some (.bool b) => some b | _ => none) = some false; rw [hgd])]
    rw [if_pos (show (false == false) = true from rfl)]
    clear hgd
    have h6 : xs 6 = .int .i64 k := hp.1 rfl
    clear hp
    simp only [h6] at hK ⊢
    clear h6
    go_simp
    exact hK _ _ (Below.refl _ _) (by first | rfl | (show Value.bool _ = _; simp; done) | (show Value.bool _ = _; simp [HK.out]; done))
  · intro xs W hB hp K hK
    have hgd : xs 4 = .bool false := hp.2.1 rfl
    rw [wanted_g (b := false) rfl (by show (match some (xs 4) with | some (.bool b) => some b | _ => none) = some false; rw [hgd])]
    rw [if_pos (show (false == false) = true from rfl)]
    clear hgd
    have h7 : xs 7 = .bool false := hp.1 rfl
    clear hp
    simp only [h7] at hK ⊢
    clear h7
    go_simp
    exact hK _ _ (Below.refl _ _) (by first | rfl | (show Value.bool _ = _; simp; done) | (show Value.bool _ = _; simp [HK.out]; done))
  · intro xs W hB hp K hK
    have hgd : xs 8 = .bool false := hp.1 rfl
    rw [wanted_g (b := false) rfl (by show (match some (xs 8) with | some (.bool b) => some b | _ => none) = some false; rw [hgd])]
    exact hK _ _ (Below.refl _ _) rfl
  · intro xs W hB hp K hK
    have hgd : xs 8 = .bool false := hp.2.1 rfl
    rw [wanted_g (b := false) rfl (by show (match some (xs 8) with | some (.bool b) => some b | _ => none) = some false; rw [hgd])]
    exact hK _ _ (Below.refl _ _) rfl
  · intro xs W hB hp K hK
    have hgd : xs 8 = .bool false := hp.2.1 rfl
    rw [wanted_g (b := false) rfl (by show (match some (xs 8) with | some (.bool b) => some b | _ => none) = some false; rw [hgd])]
    exact hK _ _ (Below.refl _ _) rfl
  · intro xs W hB hp K hK
    have hgd : xs 8 = .bool false := hp.2.1 rfl
    rw [wanted_g (b := false) rfl (by show (match some (xs 8) with | some (.bool b) => some b | _ => none) = some false; rw [hgd])]
    exact hK _ _ (Below.refl _ _) rfl
  · intro xs W hB hp K hK
    have hgd : xs 4 = .bool false := hp.2.2.1 rfl
    rw [wanted_g (b := false) rfl (by show (match some (xs 4) with | some (.bool b) => some b | _ => none) = some false; rw [hgd])]
    rw [if_pos (show (false == false) = true from rfl)]
    clear hgd
    have h8 : xs 8 = .bool false := hp.1 rfl
    have h12 : xs 12 = undef := hp.2.1 rfl
    clear hp
    simp only [h8, h12] at hK ⊢
    clear h8 h12
    go_simp
    exact hK _ _ (Below.refl _ _) (by first | rfl | (show Value.bool _ = _; simp; done) | (show Value.bool _ = _; simp [HK.out]; done))
  · intro xs W hB hp K hK
    rw [if_pos (wanted_none rfl _)]
    have h4 : xs 4 = .bool false := hp.1 rfl
    have h13 : xs 13 = .bool false := hp.2.1 rfl
    clear hp
    simp only [h4, h13] at hK ⊢
    clear h4 h13
    go_simp
    exact hK _ _ (Below.refl _ _) (by first | rfl | (show Value.bool _ = _; simp; done) | (show Value.bool _ = _; simp [HK.out]; done))
  · intro xs W hB hs
    have h14 : xs 14 = .bool false := hs 14 (by simp)
    simp only [h14]
    have hBf := hBw.trans (hB.mono hBw.size)
    have hb := Below.blk hB (lt_blk HB1.out) HB1.out
    have d4 : W.cell? ⟨w.heap.size, 4, none⟩ = some (.int .i64 p) := (cell_blk hb 4).trans rfl
    have d5 : W.cell? ⟨w.heap.size, 5, none⟩ = some (.int .i64 e) := (cell_blk hb 5).trans rfl
    have d6 : W.cell? ⟨w.heap.size, 6, none⟩ = some (.int .i64 t) := (cell_blk hb 6).trans rfl
    have d7 : W.cell? ⟨w.heap.size, 7, none⟩ = some (.int .i64 r) := (cell_blk hb 7).trans rfl
    clear hb
    go_wp2_with (first | (go_at_call 60; refine (txnMayBe_any _ _ _ _).mono ?_; rintro x w' ⟨rfl, rfl⟩) | (go_at_call 59; refine (within_any _ _ _ _).mono ?_; rintro x w' ⟨rfl, rfl⟩))
    all_goals
      go_ret
      refine ⟨congrArg (fun b => Ending.returned (Value.bool b)) (Eq.symm ?_), hBf⟩
      have e1 := HS.out
      obtain ⟨f1, f2, f3⟩ := HF.out
      simp [opB, e1, f1, f2, f3, HK.out, *]
set_option maxRecDepth 10000 in
set_option maxHeartbeats 2000000 in
theorem opMayBe_C1 (k c s : Int) (n : ByteArray) (p e t r : Int) (b : Bool) (w : World) (hn : n.size < 9223372036854775808) (hs : sameB k n p e t r b = true) (hk : k = 1) (hnb : nameB n = true) : Calls Try.prog 44 #[.agg (opC k c s n p e t r b)] w fun x w' => x = .returned (.bool (opB k c s n p e t r b)) ∧ Below w.heap.size w w' := by
  have HS : Hid (sameB k n p e t r b = true) := hs
  have HK : Hid (k = 1) := hk
  clear hk
  have HNB : Hid (nameB n = true) := hnb
  clear hnb
  have HB0 : Hid ((w.alloc (.cells (opC k c s n p e t r b) 32)).heap[w.heap.size]? = some (.cells (opC k c s n p e t r b) 32 (0, 0))) := alloc_blk _ _
  have hcc : ∀ j, (w.alloc (.cells (opC k c s n p e t r b) 32)).cell? ⟨w.heap.size, j, none⟩ = (opC k c s n p e t r b)[j]? := fun j => cell_blk HB0.out j
  have hc0 : (w.alloc (.cells (opC k c s n p e t r b) 32)).cell? ⟨w.heap.size, 0, none⟩ = some (.int .i64 k) := hcc 0
  have hc1 : (w.alloc (.cells (opC k c s n p e t r b) 32)).cell? ⟨w.heap.size, 1, none⟩ = some (.int .i64 c) := hcc 1
  have hc2 : (w.alloc (.cells (opC k c s n p e t r b) 32)).cell? ⟨w.heap.size, 2, none⟩ = some (.int .i64 s) := hcc 2
  have hBw := below_alloc w (.cells (opC k c s n p e t r b) 32)
  clear hcc hs
  go_enter Try.func44, Try.ntmps44
  go_wp2_with (first | (refine wpList_box_row rfl 32 _ rfl _ ?_ ?_; rfl) | (go_at_call 59; refine (within_any _ _ _ _).mono ?_; rintro e w' ⟨rfl, rfl⟩))
  all_goals try (go_ret; refine ⟨congrArg (fun b => Ending.returned (Value.bool b)) (Eq.symm ?_), hBw⟩; first | (simp [opB, *]; done) | (simp [opB, *]; intros; simp_all; done))
  have HF : Hid (inB k 1 4 = true ∧ inB c 0 15 = true ∧ inB s 0 1048576 = true) := ⟨by assumption, by assumption, not_false_b (by assumption)⟩
  simp only [show (!inB s 0 1048576) = false from by assumption]
  clear hc0 hc1 hc2
  have HB1 := HB0
  generalize w.alloc (.cells (opC k c s n p e t r b) 32) = w1 at *
  refine wp_region_growG (by kernel_rfl) (by kernel_rfl) (fun xs => { tmps := (.agg (opC k c s n p e t r b) :: .pointer (some ⟨w.heap.size, 0, none⟩) :: .bool false :: .pointer (some ⟨w.heap.size, 0, none⟩) :: .int .i64 k :: .bool true :: .bool false :: .bool false :: .pointer (some ⟨w.heap.size, 1, none⟩) :: .int .i64 c :: .bool true :: .bool false :: .bool false :: .bool false :: .pointer (some ⟨w.heap.size, 2, none⟩) :: .int .i64 s :: .bool (inB s 0 1048576) :: .bool false :: .bool false :: xs 0 :: xs 1 :: xs 2 :: xs 3 :: xs 4 :: xs 5 :: xs 6 :: xs 7 :: xs 8 :: xs 9 :: xs 10 :: xs 11 :: xs 12 :: xs 13 :: xs 14 :: undef :: undef :: undef :: undef :: undef :: undef :: undef :: undef :: undef :: undef :: undef :: undef :: []).toArray, defers := [] })
    (fun ii xx _ => match ii with | 0 => xx = .agg (opC k c s n p e t r b) | 1 => xx = .agg (opC k c s n p e t r b) | 2 => xx = .agg (namedC k c s n p e t r b) | 3 => xx = .bool false | 4 => xx = .bool false | 5 => xx = .pointer (some ⟨w.heap.size, 0, none⟩) | 6 => xx = .int .i64 k | 7 => xx = .bool true | 8 => xx = .bool true | 9 => xx = .pointer (some ⟨w.heap.size, 3, none⟩) | 10 => xx = .string n | 11 => xx = .bool true | 12 => xx = .bool false | 13 => xx = .bool false | 14 => xx = .bool false | _ => True) (fun _ => undef) (by repeat (first | exact trivial | refine ⟨fun _ _ => rfl, ?_⟩)) (fun _ _ _ _ _ h => h) ⟨?_, ?_, ?_, ?_, ?_, ?_, ?_, ?_, ?_, ?_, ?_, ?_, ?_, ?_, ?_, trivial⟩ ?_
  · intro xs W hB hp K hK
    rw [if_pos (wanted_none rfl _)]
    clear hp
    exact wp_load_op _ rfl w.heap.size k c s n p e t r b 32 (0, 0) rfl (Below.blk hB (lt_blk HB1.out) HB1.out) (hK _ _ (Below.refl _ _) rfl)
  · intro xs W hB hp K hK
    rw [if_pos (wanted_none rfl _)]
    clear hp
    exact wp_load_op _ rfl w.heap.size k c s n p e t r b 32 (0, 0) rfl (Below.blk hB (lt_blk HB1.out) HB1.out) (hK _ _ (Below.refl _ _) rfl)
  · intro xs W hB hp K hK
    rw [if_pos (wanted_none rfl _)]
    have h1 : xs 1 = .agg (opC k c s n p e t r b) := hp.1 rfl
    clear hp
    simp only [h1] at hK ⊢
    clear h1
    go_simp
    refine (named_any k c s n p e t r b W).mono ?_
    rintro x w' ⟨rfl, hB'⟩
    exact hK _ _ hB' rfl
  · intro xs W hB hp K hK
    rw [if_pos (wanted_none rfl _)]
    have h0 : xs 0 = .agg (opC k c s n p e t r b) := hp.1 rfl
    have h2 : xs 2 = .agg (namedC k c s n p e t r b) := hp.2.1 rfl
    clear hp
    have heq := equal_op k c s n p e t r b
    simp only [HS.out] at heq
    simp only [h0, h2] at hK ⊢
    clear h0 h2
    go_simp
    exact hK _ _ (Below.refl _ _) (by first | rfl | (show Value.bool _ = _; simp; done) | (show Value.bool _ = _; simp [HK.out]; done))
  · intro xs W hB hp K hK
    rw [if_pos (wanted_none rfl _)]
    have h3 : xs 3 = .bool false := hp.1 rfl
    clear hp
    simp only [h3] at hK ⊢
    clear h3
    go_simp
    exact hK _ _ (Below.refl _ _) (by first | rfl | (show Value.bool _ = _; simp; done) | (show Value.bool _ = _; simp [HK.out]; done))
  · intro xs W hB hp K hK
    have hgd : xs 4 = .bool false := hp.1 rfl
    rw [wanted_g (b := false) rfl (by show (match some (xs 4) with | some (.bool b) => some b | _ => none) = some false; rw [hgd])]
    rw [if_pos (show (false == false) = true from rfl)]
    clear hgd
    clear hp
    go_simp
    exact hK _ _ (Below.refl _ _) rfl
  · intro xs W hB hp K hK
    have hgd : xs 4 = .bool false := hp.2.1 rfl
    rw [wanted_g (b := false) rfl (by show (match some (xs 4) with | some (.bool b) => some b | _ => none) = some false; rw [hgd])]
    rw [if_pos (show (false == false) = true from rfl)]
    clear hgd
    have h5 : xs 5 = .pointer (some ⟨w.heap.size, 0, none⟩) := hp.1 rfl
    clear hp
    have cc : W.cell? ⟨w.heap.size, 0, none⟩ = some (.int .i64 k) := (cell_blk (Below.blk hB (lt_blk HB1.out) HB1.out) 0).trans rfl
    simp only [h5] at hK ⊢
    clear h5
    go_simp
    exact hK _ _ (Below.refl _ _) rfl
  · intro xs W hB hp K hK
    have hgd : xs 4 = .bool false := hp.2.1 rfl
    rw [wanted_g (b := false) rfl (by show (match some (xs 4) with | some (.bool b) => some b | _ => none) = some false; rw [hgd])]
    rw [if_pos (show (false == false) = true from rfl)]
    clear hgd
    have h6 : xs 6 = .int .i64 k := hp.1 rfl
    clear hp
    simp only [h6] at hK ⊢
    clear h6
    go_simp
    exact hK _ _ (Below.refl _ _) (by first | rfl | (show Value.bool _ = _; simp; done) | (show Value.bool _ = _; simp [HK.out]; done))
  · intro xs W hB hp K hK
    have hgd : xs 4 = .bool false := hp.2.1 rfl
    rw [wanted_g (b := false) rfl (by show (match some (xs 4) with | some (.bool b) => some b | _ => none) = some false; rw [hgd])]
    rw [if_pos (show (false == false) = true from rfl)]
    clear hgd
    have h7 : xs 7 = .bool true := hp.1 rfl
    clear hp
    simp only [h7] at hK ⊢
    clear h7
    go_simp
    exact hK _ _ (Below.refl _ _) (by first | rfl | (show Value.bool _ = _; simp; done) | (show Value.bool _ = _; simp [HK.out]; done))
  · intro xs W hB hp K hK
    have hgd : xs 8 = .bool true := hp.1 rfl
    rw [wanted_g (b := true) rfl (by show (match some (xs 8) with | some (.bool b) => some b | _ => none) = some true; rw [hgd])]
    rw [if_pos (show (true == true) = true from rfl)]
    clear hgd
    clear hp
    go_simp
    exact hK _ _ (Below.refl _ _) rfl
  · intro xs W hB hp K hK
    have hgd : xs 8 = .bool true := hp.2.1 rfl
    rw [wanted_g (b := true) rfl (by show (match some (xs 8) with | some (.bool b) => some b | _ => none) = some true; rw [hgd])]
    rw [if_pos (show (true == true) = true from rfl)]
    clear hgd
    have h9 : xs 9 = .pointer (some ⟨w.heap.size, 3, none⟩) := hp.1 rfl
    clear hp
    have cc : W.cell? ⟨w.heap.size, 3, none⟩ = some (.string n) := (cell_blk (Below.blk hB (lt_blk HB1.out) HB1.out) 3).trans rfl
    simp only [h9] at hK ⊢
    clear h9
    go_simp
    exact hK _ _ (Below.refl _ _) rfl
  · intro xs W hB hp K hK
    have hgd : xs 8 = .bool true := hp.2.1 rfl
    rw [wanted_g (b := true) rfl (by show (match some (xs 8) with | some (.bool b) => some b | _ => none) = some true; rw [hgd])]
    rw [if_pos (show (true == true) = true from rfl)]
    clear hgd
    have h10 : xs 10 = .string n := hp.1 rfl
    clear hp
    simp only [h10] at hK ⊢
    clear h10
    go_simp
    refine (nameMayBe_any n W hn).mono ?_
    rintro x w' ⟨rfl, rfl⟩
    exact hK _ _ (Below.refl _ _) (by rw [HNB.out])
  · intro xs W hB hp K hK
    have hgd : xs 8 = .bool true := hp.2.1 rfl
    rw [wanted_g (b := true) rfl (by show (match some (xs 8) with | some (.bool b) => some b | _ => none) = some true; rw [hgd])]
    rw [if_pos (show (true == true) = true from rfl)]
    clear hgd
    have h11 : xs 11 = .bool true := hp.1 rfl
    clear hp
    simp only [h11] at hK ⊢
    clear h11
    go_simp
    exact hK _ _ (Below.refl _ _) (by first | rfl | (show Value.bool _ = _; simp; done) | (show Value.bool _ = _; simp [HK.out]; done))
  · intro xs W hB hp K hK
    have hgd : xs 4 = .bool false := hp.2.2.1 rfl
    rw [wanted_g (b := false) rfl (by show (match some (xs 4) with | some (.bool b) => some b | _ => none) = some false; rw [hgd])]
    rw [if_pos (show (false == false) = true from rfl)]
    clear hgd
    have h8 : xs 8 = .bool true := hp.1 rfl
    have h12 : xs 12 = .bool false := hp.2.1 rfl
    clear hp
    simp only [h8, h12] at hK ⊢
    clear h8 h12
    go_simp
    exact hK _ _ (Below.refl _ _) (by first | rfl | (show Value.bool _ = _; simp; done) | (show Value.bool _ = _; simp [HK.out]; done))
  · intro xs W hB hp K hK
    rw [if_pos (wanted_none rfl _)]
    have h4 : xs 4 = .bool false := hp.1 rfl
    have h13 : xs 13 = .bool false := hp.2.1 rfl
    clear hp
    simp only [h4, h13] at hK ⊢
    clear h4 h13
    go_simp
    exact hK _ _ (Below.refl _ _) (by first | rfl | (show Value.bool _ = _; simp; done) | (show Value.bool _ = _; simp [HK.out]; done))
  · intro xs W hB hs
    have h14 : xs 14 = .bool false := hs 14 (by simp)
    simp only [h14]
    have hBf := hBw.trans (hB.mono hBw.size)
    have hb := Below.blk hB (lt_blk HB1.out) HB1.out
    have d4 : W.cell? ⟨w.heap.size, 4, none⟩ = some (.int .i64 p) := (cell_blk hb 4).trans rfl
    have d5 : W.cell? ⟨w.heap.size, 5, none⟩ = some (.int .i64 e) := (cell_blk hb 5).trans rfl
    have d6 : W.cell? ⟨w.heap.size, 6, none⟩ = some (.int .i64 t) := (cell_blk hb 6).trans rfl
    have d7 : W.cell? ⟨w.heap.size, 7, none⟩ = some (.int .i64 r) := (cell_blk hb 7).trans rfl
    clear hb
    go_wp2_with (first | (go_at_call 60; refine (txnMayBe_any _ _ _ _).mono ?_; rintro x w' ⟨rfl, rfl⟩) | (go_at_call 59; refine (within_any _ _ _ _).mono ?_; rintro x w' ⟨rfl, rfl⟩))
    all_goals
      go_ret
      refine ⟨congrArg (fun b => Ending.returned (Value.bool b)) (Eq.symm ?_), hBf⟩
      have e1 := HS.out
      obtain ⟨f1, f2, f3⟩ := HF.out
      have e2 := HNB.out
      have e3 : decide (k = 1) = true := decide_eq_true HK.out
      unfold opB
      rw [e1, e2, e3, f1, f2, f3]
      simp [*]
set_option maxRecDepth 10000 in
set_option maxHeartbeats 2000000 in
theorem opMayBe_C2 (k c s : Int) (n : ByteArray) (p e t r : Int) (b : Bool) (w : World) (hn : n.size < 9223372036854775808) (hs : sameB k n p e t r b = true) (hk : k = 1) (hnb : nameB n = false) : Calls Try.prog 44 #[.agg (opC k c s n p e t r b)] w fun x w' => x = .returned (.bool (opB k c s n p e t r b)) ∧ Below w.heap.size w w' := by
  have HS : Hid (sameB k n p e t r b = true) := hs
  have HK : Hid (k = 1) := hk
  clear hk
  have HNB : Hid (nameB n = false) := hnb
  clear hnb
  have HB0 : Hid ((w.alloc (.cells (opC k c s n p e t r b) 32)).heap[w.heap.size]? = some (.cells (opC k c s n p e t r b) 32 (0, 0))) := alloc_blk _ _
  have hcc : ∀ j, (w.alloc (.cells (opC k c s n p e t r b) 32)).cell? ⟨w.heap.size, j, none⟩ = (opC k c s n p e t r b)[j]? := fun j => cell_blk HB0.out j
  have hc0 : (w.alloc (.cells (opC k c s n p e t r b) 32)).cell? ⟨w.heap.size, 0, none⟩ = some (.int .i64 k) := hcc 0
  have hc1 : (w.alloc (.cells (opC k c s n p e t r b) 32)).cell? ⟨w.heap.size, 1, none⟩ = some (.int .i64 c) := hcc 1
  have hc2 : (w.alloc (.cells (opC k c s n p e t r b) 32)).cell? ⟨w.heap.size, 2, none⟩ = some (.int .i64 s) := hcc 2
  have hBw := below_alloc w (.cells (opC k c s n p e t r b) 32)
  clear hcc hs
  go_enter Try.func44, Try.ntmps44
  go_wp2_with (first | (refine wpList_box_row rfl 32 _ rfl _ ?_ ?_; rfl) | (go_at_call 59; refine (within_any _ _ _ _).mono ?_; rintro e w' ⟨rfl, rfl⟩))
  all_goals try (go_ret; refine ⟨congrArg (fun b => Ending.returned (Value.bool b)) (Eq.symm ?_), hBw⟩; first | (simp [opB, *]; done) | (simp [opB, *]; intros; simp_all; done))
  have HF : Hid (inB k 1 4 = true ∧ inB c 0 15 = true ∧ inB s 0 1048576 = true) := ⟨by assumption, by assumption, not_false_b (by assumption)⟩
  simp only [show (!inB s 0 1048576) = false from by assumption]
  clear hc0 hc1 hc2
  have HB1 := HB0
  generalize w.alloc (.cells (opC k c s n p e t r b) 32) = w1 at *
  refine wp_region_growG (by kernel_rfl) (by kernel_rfl) (fun xs => { tmps := (.agg (opC k c s n p e t r b) :: .pointer (some ⟨w.heap.size, 0, none⟩) :: .bool false :: .pointer (some ⟨w.heap.size, 0, none⟩) :: .int .i64 k :: .bool true :: .bool false :: .bool false :: .pointer (some ⟨w.heap.size, 1, none⟩) :: .int .i64 c :: .bool true :: .bool false :: .bool false :: .bool false :: .pointer (some ⟨w.heap.size, 2, none⟩) :: .int .i64 s :: .bool (inB s 0 1048576) :: .bool false :: .bool false :: xs 0 :: xs 1 :: xs 2 :: xs 3 :: xs 4 :: xs 5 :: xs 6 :: xs 7 :: xs 8 :: xs 9 :: xs 10 :: xs 11 :: xs 12 :: xs 13 :: xs 14 :: undef :: undef :: undef :: undef :: undef :: undef :: undef :: undef :: undef :: undef :: undef :: undef :: []).toArray, defers := [] })
    (fun ii xx _ => match ii with | 0 => xx = .agg (opC k c s n p e t r b) | 1 => xx = .agg (opC k c s n p e t r b) | 2 => xx = .agg (namedC k c s n p e t r b) | 3 => xx = .bool false | 4 => xx = .bool false | 5 => xx = .pointer (some ⟨w.heap.size, 0, none⟩) | 6 => xx = .int .i64 k | 7 => xx = .bool true | 8 => xx = .bool true | 9 => xx = .pointer (some ⟨w.heap.size, 3, none⟩) | 10 => xx = .string n | 11 => xx = .bool false | 12 => xx = .bool true | 13 => xx = .bool true | 14 => xx = .bool true | _ => True) (fun _ => undef) (by repeat (first | exact trivial | refine ⟨fun _ _ => rfl, ?_⟩)) (fun _ _ _ _ _ h => h) ⟨?_, ?_, ?_, ?_, ?_, ?_, ?_, ?_, ?_, ?_, ?_, ?_, ?_, ?_, ?_, trivial⟩ ?_
  · intro xs W hB hp K hK
    rw [if_pos (wanted_none rfl _)]
    clear hp
    exact wp_load_op _ rfl w.heap.size k c s n p e t r b 32 (0, 0) rfl (Below.blk hB (lt_blk HB1.out) HB1.out) (hK _ _ (Below.refl _ _) rfl)
  · intro xs W hB hp K hK
    rw [if_pos (wanted_none rfl _)]
    clear hp
    exact wp_load_op _ rfl w.heap.size k c s n p e t r b 32 (0, 0) rfl (Below.blk hB (lt_blk HB1.out) HB1.out) (hK _ _ (Below.refl _ _) rfl)
  · intro xs W hB hp K hK
    rw [if_pos (wanted_none rfl _)]
    have h1 : xs 1 = .agg (opC k c s n p e t r b) := hp.1 rfl
    clear hp
    simp only [h1] at hK ⊢
    clear h1
    go_simp
    refine (named_any k c s n p e t r b W).mono ?_
    rintro x w' ⟨rfl, hB'⟩
    exact hK _ _ hB' rfl
  · intro xs W hB hp K hK
    rw [if_pos (wanted_none rfl _)]
    have h0 : xs 0 = .agg (opC k c s n p e t r b) := hp.1 rfl
    have h2 : xs 2 = .agg (namedC k c s n p e t r b) := hp.2.1 rfl
    clear hp
    have heq := equal_op k c s n p e t r b
    simp only [HS.out] at heq
    simp only [h0, h2] at hK ⊢
    clear h0 h2
    go_simp
    exact hK _ _ (Below.refl _ _) (by first | rfl | (show Value.bool _ = _; simp; done) | (show Value.bool _ = _; simp [HK.out]; done))
  · intro xs W hB hp K hK
    rw [if_pos (wanted_none rfl _)]
    have h3 : xs 3 = .bool false := hp.1 rfl
    clear hp
    simp only [h3] at hK ⊢
    clear h3
    go_simp
    exact hK _ _ (Below.refl _ _) (by first | rfl | (show Value.bool _ = _; simp; done) | (show Value.bool _ = _; simp [HK.out]; done))
  · intro xs W hB hp K hK
    have hgd : xs 4 = .bool false := hp.1 rfl
    rw [wanted_g (b := false) rfl (by show (match some (xs 4) with | some (.bool b) => some b | _ => none) = some false; rw [hgd])]
    rw [if_pos (show (false == false) = true from rfl)]
    clear hgd
    clear hp
    go_simp
    exact hK _ _ (Below.refl _ _) rfl
  · intro xs W hB hp K hK
    have hgd : xs 4 = .bool false := hp.2.1 rfl
    rw [wanted_g (b := false) rfl (by show (match some (xs 4) with | some (.bool b) => some b | _ => none) = some false; rw [hgd])]
    rw [if_pos (show (false == false) = true from rfl)]
    clear hgd
    have h5 : xs 5 = .pointer (some ⟨w.heap.size, 0, none⟩) := hp.1 rfl
    clear hp
    have cc : W.cell? ⟨w.heap.size, 0, none⟩ = some (.int .i64 k) := (cell_blk (Below.blk hB (lt_blk HB1.out) HB1.out) 0).trans rfl
    simp only [h5] at hK ⊢
    clear h5
    go_simp
    exact hK _ _ (Below.refl _ _) rfl
  · intro xs W hB hp K hK
    have hgd : xs 4 = .bool false := hp.2.1 rfl
    rw [wanted_g (b := false) rfl (by show (match some (xs 4) with | some (.bool b) => some b | _ => none) = some false; rw [hgd])]
    rw [if_pos (show (false == false) = true from rfl)]
    clear hgd
    have h6 : xs 6 = .int .i64 k := hp.1 rfl
    clear hp
    simp only [h6] at hK ⊢
    clear h6
    go_simp
    exact hK _ _ (Below.refl _ _) (by first | rfl | (show Value.bool _ = _; simp; done) | (show Value.bool _ = _; simp [HK.out]; done))
  · intro xs W hB hp K hK
    have hgd : xs 4 = .bool false := hp.2.1 rfl
    rw [wanted_g (b := false) rfl (by show (match some (xs 4) with | some (.bool b) => some b | _ => none) = some false; rw [hgd])]
    rw [if_pos (show (false == false) = true from rfl)]
    clear hgd
    have h7 : xs 7 = .bool true := hp.1 rfl
    clear hp
    simp only [h7] at hK ⊢
    clear h7
    go_simp
    exact hK _ _ (Below.refl _ _) (by first | rfl | (show Value.bool _ = _; simp; done) | (show Value.bool _ = _; simp [HK.out]; done))
  · intro xs W hB hp K hK
    have hgd : xs 8 = .bool true := hp.1 rfl
    rw [wanted_g (b := true) rfl (by show (match some (xs 8) with | some (.bool b) => some b | _ => none) = some true; rw [hgd])]
    rw [if_pos (show (true == true) = true from rfl)]
    clear hgd
    clear hp
    go_simp
    exact hK _ _ (Below.refl _ _) rfl
  · intro xs W hB hp K hK
    have hgd : xs 8 = .bool true := hp.2.1 rfl
    rw [wanted_g (b := true) rfl (by show (match some (xs 8) with | some (.bool b) => some b | _ => none) = some true; rw [hgd])]
    rw [if_pos (show (true == true) = true from rfl)]
    clear hgd
    have h9 : xs 9 = .pointer (some ⟨w.heap.size, 3, none⟩) := hp.1 rfl
    clear hp
    have cc : W.cell? ⟨w.heap.size, 3, none⟩ = some (.string n) := (cell_blk (Below.blk hB (lt_blk HB1.out) HB1.out) 3).trans rfl
    simp only [h9] at hK ⊢
    clear h9
    go_simp
    exact hK _ _ (Below.refl _ _) rfl
  · intro xs W hB hp K hK
    have hgd : xs 8 = .bool true := hp.2.1 rfl
    rw [wanted_g (b := true) rfl (by show (match some (xs 8) with | some (.bool b) => some b | _ => none) = some true; rw [hgd])]
    rw [if_pos (show (true == true) = true from rfl)]
    clear hgd
    have h10 : xs 10 = .string n := hp.1 rfl
    clear hp
    simp only [h10] at hK ⊢
    clear h10
    go_simp
    refine (nameMayBe_any n W hn).mono ?_
    rintro x w' ⟨rfl, rfl⟩
    exact hK _ _ (Below.refl _ _) (by rw [HNB.out])
  · intro xs W hB hp K hK
    have hgd : xs 8 = .bool true := hp.2.1 rfl
    rw [wanted_g (b := true) rfl (by show (match some (xs 8) with | some (.bool b) => some b | _ => none) = some true; rw [hgd])]
    rw [if_pos (show (true == true) = true from rfl)]
    clear hgd
    have h11 : xs 11 = .bool false := hp.1 rfl
    clear hp
    simp only [h11] at hK ⊢
    clear h11
    go_simp
    exact hK _ _ (Below.refl _ _) (by first | rfl | (show Value.bool _ = _; simp; done) | (show Value.bool _ = _; simp [HK.out]; done))
  · intro xs W hB hp K hK
    have hgd : xs 4 = .bool false := hp.2.2.1 rfl
    rw [wanted_g (b := false) rfl (by show (match some (xs 4) with | some (.bool b) => some b | _ => none) = some false; rw [hgd])]
    rw [if_pos (show (false == false) = true from rfl)]
    clear hgd
    have h8 : xs 8 = .bool true := hp.1 rfl
    have h12 : xs 12 = .bool true := hp.2.1 rfl
    clear hp
    simp only [h8, h12] at hK ⊢
    clear h8 h12
    go_simp
    exact hK _ _ (Below.refl _ _) (by first | rfl | (show Value.bool _ = _; simp; done) | (show Value.bool _ = _; simp [HK.out]; done))
  · intro xs W hB hp K hK
    rw [if_pos (wanted_none rfl _)]
    have h4 : xs 4 = .bool false := hp.1 rfl
    have h13 : xs 13 = .bool true := hp.2.1 rfl
    clear hp
    simp only [h4, h13] at hK ⊢
    clear h4 h13
    go_simp
    exact hK _ _ (Below.refl _ _) (by first | rfl | (show Value.bool _ = _; simp; done) | (show Value.bool _ = _; simp [HK.out]; done))
  · intro xs W hB hs
    have h14 : xs 14 = .bool true := hs 14 (by simp)
    simp only [h14]
    have hBf := hBw.trans (hB.mono hBw.size)
    go_wp2_with fail
    go_ret
    refine ⟨congrArg (fun b => Ending.returned (Value.bool b)) (Eq.symm ?_), hBf⟩
    have e1 := HS.out
    have e2 := HNB.out
    have e3 : decide (k = 1) = true := decide_eq_true HK.out
    unfold opB
    rw [e1, e2, e3]
    simp
theorem opMayBe_any (k c s : Int) (n : ByteArray) (p e t r : Int) (b : Bool) (w : World) (hn : n.size < 9223372036854775808) : Calls Try.prog 44 #[.agg (opC k c s n p e t r b)] w fun x w' => x = .returned (.bool (opB k c s n p e t r b)) ∧ Below w.heap.size w w' := by
  cases hs : sameB k n p e t r b
  · exact opMayBe_A k c s n p e t r b w hn hs
  · by_cases hk : k = 1
    · cases hnb : nameB n
      · exact opMayBe_C2 k c s n p e t r b w hn hs hk hnb
      · exact opMayBe_C1 k c s n p e t r b w hn hs hk hnb
    · exact opMayBe_B k c s n p e t r b w hn hs hk
end Go.Proofs.Ytoihfhlelbdboab
