/- Votes out of bytes: takeVotes. For rows of up to 2^38 bytes. -/
import Derived.Test.YtkjocpadmlobgaaWireVb
import Derived.Test.YtkjocpadmlobgaaWLaw
namespace Go.Proofs.Ytkjocpadmlobgaa
open Go.RowKit Go.Dig Go.Inv Go.Oct
set_option linter.unusedVariables false

theorem vote_parts : ∃ i : TypeInfo, Try.prog.info? 62 = some i ∧ i.zero = some (.agg VoteR.zero.cells) ∧ i.size = 68 ∧ i.bytes ≤ 1000 := by
  have h : (Try.prog.info? 62).map (fun i => (i.zero, i.size, decide (i.bytes ≤ 1000))) = some (some (.agg VoteR.zero.cells), 68, true) := by kernel_rfl
  cases hi : Try.prog.info? 62 with
  | none => rw [hi] at h; cases h
  | some i => rw [hi] at h; simp at h; exact ⟨i, rfl, h.1, h.2.1, h.2.2⟩
theorem make_votes (w : World) (n : Nat) (hn : n ≤ 10) : (Instr.makeSlice 23 (.int .i64 (n : Int)) (.int .i64 (n : Int))).run Try.prog w = .ok (.slice (some ⟨w.heap.size, 0, none⟩) n n) (w.alloc (.cells (madeCells VoteR.zero.cells (n * 68)) 62)) := by
  obtain ⟨i, hi, hz, hs, hb⟩ := vote_parts
  have h := run_makeSlice (P := Try.prog) w 23 62 i (.agg VoteR.zero.cells) (by kernel_rfl) hi hz .i64 .i64 (n : Int) (n : Int) (by omega) (Int.le_refl _) (by rw [hs]; simp; omega) (by
    have h1 : i.bytes * n ≤ 1000 * 10 := Nat.mul_le_mul hb hn
    have h2 : ((i.bytes * n : Nat) : Int) ≤ 10000 := by omega
    rw [Int.natCast_mul] at h2
    omega) (by omega)
  simpa [hs, Value.cells] using h
/-- votes that are taken: the first i are those that were laid -/
def VTook (L Li : List Int) (ys : List VoteR) (i : Nat) : Prop := ∀ (zs : List VoteR) (R : List Int), zs.length = ys.length → (∀ z ∈ zs, VoteOk z) → L = zs.flatMap voteL ++ R → (∀ j (h : j < ys.length) (h' : j < zs.length), j < i → VoteEq ys[j] zs[j]) ∧ Li = (zs.drop i).flatMap voteL ++ R
theorem VBlk.setY {w : World} {vb : Nat} {ys : List VoteR} {y0 : VoteR} (h : VBlk w vb ys) {j : Nat} (hj : j < ys.length) (hy0 : ys[j]'hj = y0) (i : Nat) (hi : i < 68) (v : Value) (y' : VoteR) (hy : y'.cells = y0.cells.setIfInBounds i v) : VBlk (w.setCell ⟨vb, j * 68 + i, none⟩ v) vb (ys.set j y') ∧ ∃ h2 : j < (ys.set j y').length, (ys.set j y')[j]'h2 = y' :=
  ⟨h.setCell hj hi v y' (by rw [hy0]; exact hy), by rw [List.length_set]; exact hj, List.getElem_set_self _⟩
theorem vblk_three {W W' : World} {r vb i : Nat} {ys : List VoteR} {y0 : VoteR} {k s v : Int} (hv : VBlk W vb ys) (hi : i < ys.length) (hy : ys[i]'hi = y0) (hk : Keeps r (setN W [(vb, i * 68), (vb, i * 68 + 1), (vb, i * 68 + 2)] [k, s, v]) W') (hr : vb ≠ r) : VBlk W' vb (ys.set i { y0 with k := k, s := s, v := v }) := by
  obtain ⟨h1, i1, e1⟩ := hv.setY hi hy 0 (by decide) (.int .i64 k) { y0 with k := k } (VoteR.set_k y0 k)
  obtain ⟨h2, i2, e2⟩ := h1.setY i1 e1 1 (by decide) (.int .i64 s) { y0 with k := k, s := s } (VoteR.set_s { y0 with k := k } s)
  obtain ⟨h3, -, -⟩ := h2.setY i2 e2 2 (by decide) (.int .i64 v) { y0 with k := k, s := s, v := v } (VoteR.set_v { y0 with k := k, s := s } v)
  rw [List.set_set, List.set_set] at h3
  exact h3.same (hk.block _ h3.lt hr)
theorem keeps_three {w1 W W' : World} {r vb i : Nat} {k s v : Int} (h : Keeps r w1 W) (hk : Keeps r (setN W [(vb, i * 68), (vb, i * 68 + 1), (vb, i * 68 + 2)] [k, s, v]) W') (hv : w1.heap.size ≤ vb) : Keeps r w1 W' := by
  have hz : (setN W [(vb, i * 68), (vb, i * 68 + 1), (vb, i * 68 + 2)] [k, s, v]).heap.size = W.heap.size := by simp [setN, World.setCell]
  refine ⟨hk.os.trans h.os, hk.tape.trans h.tape, hk.output.trans h.output, Nat.le_trans h.size (by rw [← hz]; exact hk.size), fun q hq hr => ?_⟩
  have hqv : q ≠ vb := by omega
  refine ((hk.block q (by rw [hz]; exact Nat.lt_of_lt_of_le hq h.size) hr).trans ?_).trans (h.block q hq hr)
  show (((W.setCell _ _).setCell _ _).setCell _ _).heap[q]? = _
  rw [Below.heap_setCell _ _ _ _ hqv, Below.heap_setCell _ _ _ _ hqv, Below.heap_setCell _ _ _ _ hqv]
theorem wpList_store_hashV {ops : Array Oper} {rest : List Oper} {o : Oper} {a : Act} {w : World} {Q : Exit → Act → World → Prop} (hgd : o.guard = none) (x y : Operand) (ho : o.op = .store 25 x y) (vb j k : Nat) (ys : List VoteR) (y' : VoteR) (f : Nat → Int) (hx : a.eval x = .pointer (some ⟨vb, j * 68 + k, none⟩)) (hy : a.eval y = .agg (row .u8 32 f)) (hV : VBlk w vb ys) (hj : j < ys.length) (hk : k + 32 ≤ 68)
    (hc : ∀ i, i < 68 → y'.cells[i]? = if k ≤ i ∧ i < k + 32 then some (.int .u8 (f (i - k))) else (ys[j]).cells[i]?)
    (h : ∀ w', VBlk w' vb (ys.set j y') → Keeps vb w w' → wpList Try.prog ops Q rest (a.put o.dst undef) w') : wpList Try.prog ops Q (o :: rest) a w :=
  wpList_plain hgd fun K hK => by
    refine wp_store_mid 25 x y ho vb (j * 68 + k) (row .u8 32 f) hx hy (fun q hq => ?_) (row_info size_hash _) (row_all _ _ _) (hK _ _ (h _ (hV.setHash hj hk f y' hc) (Keeps.setCells _ _ (Keeps.refl _ _))))
    rw [row_size] at hq
    refine ⟨?_, hV.fr _⟩
    rw [Nat.add_assoc, hV.cell hj (by omega), Array.getElem?_eq_getElem (by rw [VoteR.size]; omega)]
    rfl
theorem vote_took {Li L2 L5 L8 L9 D D9 : List Int} {k s v f : Int} (t1 : Took Li L2 [k, s, v]) (t2 : TookB L2 L5 D 32) (t3 : Took L5 L8 [f]) (t4 : TookB L8 L9 D9 32) {z : VoteR} (hz : VoteOk z) {R : List Int} (e : Li = voteL z ++ R) :
    (k = z.k ∧ s = z.s ∧ v = z.v ∧ (∀ j, j < 32 → hashF D j = z.sum j) ∧ f = z.f ∧ ∀ j, j < 32 → hashF D9 j = z.tag j) ∧ L9 = R := by
  unfold voteL sealedL at e
  simp only [List.append_assoc] at e
  obtain ⟨e1, e2⟩ := t1 [z.k, z.s, z.v] _ (numOk_cons hz.1 (numOk_cons hz.2.1 (numOk_cons hz.2.2.1 numOk_nil))) rfl e
  obtain ⟨e3, e4⟩ := t2 _ _ (by rw [ofF_length]; rfl) e2
  obtain ⟨e5, e6⟩ := t3.one hz.2.2.2 e4
  obtain ⟨e7, e8⟩ := t4 _ _ (by rw [ofF_length]; rfl) e6
  injection e1 with x1 y1; injection y1 with x2 y2; injection y2 with x3 y3
  refine ⟨⟨x1, x2, x3, fun j hj => ?_, e5, fun j hj => ?_⟩, e8⟩
  · unfold hashF; rw [e3, ofF_getD hj]
  · unfold hashF; rw [e7, ofF_getD hj]
theorem VTook.next {L1 Li L9 : List Int} {ys : List VoteR} {i : Nat} (h : VTook L1 Li ys i) (hi : i < ys.length) {y4 : VoteR} (hy : ∀ (z : VoteR) (R : List Int), VoteOk z → Li = voteL z ++ R → VoteEq y4 z ∧ L9 = R) : VTook L1 L9 (ys.set i y4) (i + 1) := fun zs R hl hok e => by
  rw [List.length_set] at hl
  obtain ⟨h1, h2⟩ := h zs R hl hok e
  have hz : i < zs.length := by omega
  rw [List.drop_eq_getElem_cons hz, List.flatMap_cons, List.append_assoc] at h2
  obtain ⟨h3, h4⟩ := hy zs[i] _ (hok _ (List.getElem_mem hz)) h2
  refine ⟨fun j hj hj' hji => ?_, h4⟩
  by_cases he : j = i
  · subst he
    rw [List.getElem_set_self]
    exact h3
  · rw [List.getElem_set_ne (Ne.symm he)]
    exact h1 j (by rw [List.length_set] at hj; exact hj) hj' (by omega)
theorem votesEq_of : ∀ {ys zs : List VoteR}, ys.length = zs.length → (∀ j (h : j < ys.length) (h' : j < zs.length), VoteEq ys[j] zs[j]) → VotesEq ys zs
  | [], [], _, _ => by trivial
  | y :: ys, z :: zs, hl, h => by
    have h0 := h 0 (by simp) (by simp)
    have ht := votesEq_of (ys := ys) (zs := zs) (by simpa using hl) (fun j h1 h2 => h (j + 1) (by simp; omega) (by simp; omega))
    exact ⟨h0, ht⟩
theorem hashF_bytes {D : List Int} (h : ∀ x ∈ D, 0 ≤ x ∧ x < 256) (j : Nat) : 0 ≤ hashF D j ∧ hashF D j < 256 := by
  unfold hashF
  by_cases hj : j < D.length
  · rw [List.getD, List.getElem?_eq_getElem hj]; exact h _ (List.getElem_mem hj)
  · rw [List.getD, List.getElem?_eq_none (by omega)]; exact ⟨Int.le_refl _, by decide⟩
theorem vblk_from {W W' : World} {r vb i : Nat} {ys : List VoteR} {y0 : VoteR} {f : Int} (hv : VBlk W vb ys) (hi : i < ys.length) (hy : ys[i]'hi = y0) (hk : Keeps r (setN W [(vb, i * 68 + 35)] [f]) W') (hr : vb ≠ r) : VBlk W' vb (ys.set i { y0 with f := f }) := by
  obtain ⟨h1, i1, e1⟩ := hv.setY hi hy 35 (by decide) (.int .i64 f) { y0 with f := f } (VoteR.set_f y0 f)
  exact h1.same (hk.block _ h1.lt hr)
theorem keeps_one {w1 W W' : World} {r vb i : Nat} {f : Int} (h : Keeps r w1 W) (hk : Keeps r (setN W [(vb, i)] [f]) W') (hv : w1.heap.size ≤ vb) : Keeps r w1 W' := by
  have hz : (setN W [(vb, i)] [f]).heap.size = W.heap.size := by simp [setN, World.setCell]
  refine ⟨hk.os.trans h.os, hk.tape.trans h.tape, hk.output.trans h.output, Nat.le_trans h.size (by rw [← hz]; exact hk.size), fun q hq hr => ?_⟩
  have hqv : q ≠ vb := by omega
  refine ((hk.block q (by rw [hz]; exact Nat.lt_of_lt_of_le hq h.size) hr).trans ?_).trans (h.block q hq hr)
  show (W.setCell _ _).heap[q]? = _
  rw [Below.heap_setCell _ _ _ _ hqv]
theorem keeps_over {w1 W W' : World} {r vb : Nat} (h : Keeps r w1 W) (hk : Keeps vb W W') (hv : w1.heap.size ≤ vb) : Keeps r w1 W' :=
  ⟨hk.os.trans h.os, hk.tape.trans h.tape, hk.output.trans h.output, Nat.le_trans h.size hk.size, fun q hq hr => (hk.block q (Nat.lt_of_lt_of_le hq h.size) (by omega)).trans (h.block q hq hr)⟩
set_option maxRecDepth 10000 in
set_option maxHeartbeats 4000000 in
theorem takeVotes_str (r : Nat) (L : List Int) (w : World) (h : RdL w r L) : Calls Try.prog 75 #[.pointer (some ⟨r, 0, none⟩)] w fun e w' => ∃ ao n c ys, e = .returned (.slice ao n c) ∧ n = List.length ys ∧ n ≤ 10 ∧ VotesAt w' ao ys ∧ (∀ y ∈ ys, y.wf ∧ VBytes y) ∧ (ao = none ∨ ∃ g, ao = some ⟨g, 0, none⟩ ∧ w.heap.size ≤ g) ∧ Keeps r w w' ∧ ∃ L', RdL w' r L' ∧ L'.length ≤ L.length ∧
    ∀ (zs : List VoteR) (R : List Int), zs.length ≤ 10 → (∀ z ∈ zs, VoteOk z) → L = votesL zs ++ R → VotesEq ys zs ∧ L' = R := by
  have HH : Hid (RdL w r L) := h
  clear h
  go_enter Try.func75, Try.ntmps75
  go_wp2_with fail
  refine (rdNum_str r L w HH.out).mono ?_
  rintro e w1 ⟨⟨z, rfl, hz, hz0, L1, hr1, ht1, hl1⟩, hk1, hs1⟩
  by_cases hc : 10 < z
  · have HX : Hid (Took L L1 [z] ∧ L1.length ≤ L.length ∧ Keeps r w w1) := ⟨ht1, hl1, hk1⟩
    clear ht1 hl1 hk1
    go_wp2_with fail
    refine (rdBad_str r L1 w1 hr1).mono ?_
    rintro e w2 ⟨rfl, hr2, hk2, hs2⟩
    have HY : Hid (RdL w2 r [] ∧ Keeps r w1 w2) := ⟨hr2, hk2⟩
    clear hr2 hk2 hr1
    go_wp2_with fail
    refine bodyPost_ret (results_tmp rfl _ _ _) rfl ⟨none, 0, 0, [], rfl, rfl, by omega, (fun h => absurd rfl h), (fun y hy => by cases hy), .inl rfl, HX.out.2.2.trans HY.out.2, [], HY.out.1, Nat.zero_le _, fun zs R hzs hz e => ?_⟩
    exfalso
    have e2 : L = num (zs.length : Int) ++ (zs.flatMap voteL ++ R) := by rw [e]; unfold votesL; rw [List.append_assoc]
    have := (HX.out.1.one ⟨by omega, by omega⟩ e2).1
    omega
  · obtain ⟨n, rfl⟩ := Int.eq_ofNat_of_zero_le hz0
    have hc' : ¬ (10 : Int) < n := hc
    have hmk := make_votes w1 n (by omega)
    have HVB : Hid (VBlk (w1.alloc (.cells (madeCells VoteR.zero.cells (n * 68)) 62)) w1.heap.size (List.replicate n VoteR.zero)) := VBlk.made w1 n
    have HX : Hid (Took L L1 [(n : Int)] ∧ L1.length ≤ L.length ∧ Keeps r w w1) := ⟨ht1, hl1, hk1⟩
    have HW2 : Hid (Below w1.heap.size w1 (w1.alloc (.cells (madeCells VoteR.zero.cells (n * 68)) 62))) := below_alloc _ _
    have HR2 : Hid (RdL (w1.alloc (.cells (madeCells VoteR.zero.cells (n * 68)) 62)) r L1) := hr1.same (fun k hk => HW2.out.block k (by have := hr1.lt; omega))
    have HRW : Hid (r < w1.heap.size) := hr1.lt
    clear ht1 hl1 hk1 hr1
    go_upto_region 8 with fail
    generalize w1.alloc (.cells (madeCells VoteR.zero.cells (n * 68)) 62) = w2 at *
    rw [hs1] at HVB HW2 HRW
    obtain ⟨vb, hvb⟩ : ∃ vb, w.heap.size = vb := ⟨_, rfl⟩
    rw [hvb] at HVB HW2 HRW hs1
    simp only [hvb]
    have hn10 : n ≤ 10 := by omega
    have HVW : Hid (w1.heap.size ≤ vb) := (by rw [hs1]; exact Nat.le_refl _ : w1.heap.size ≤ vb)
    clear hmk hc hc'
    go_loopw [17] (fun iv wr => ∃ i : Nat, i ≤ n ∧ iv = .int .i64 (i : Int) ∧ Hid (∃ (ys : List VoteR) (Li : List Int), Hid (ys.length = n) ∧ Hid (VBlk wr vb ys) ∧ Hid (RdL wr r Li) ∧ Hid (VTook L1 Li ys i) ∧ Hid (Li.length ≤ L1.length) ∧ Hid (∀ y ∈ ys, y.wf ∧ VBytes y) ∧ Hid (Keeps r w1 wr))) (fun iv _ => n - (intOf iv).toNat)
    case atStart => exact ⟨0, by omega, rfl, ⟨List.replicate n VoteR.zero, L1, List.length_replicate, HVB, HR2, fun zs R _ _ e => ⟨fun j _ _ h => by omega, e⟩, Nat.le_refl _, (show ∀ y ∈ List.replicate n VoteR.zero, y.wf ∧ VBytes y from fun y hy => by rw [List.eq_of_mem_replicate hy]; exact ⟨⟨inI_lit (by decide) (by decide), inI_lit (by decide) (by decide), inI_lit (by decide) (by decide), inI_lit (by decide) (by decide)⟩, fun j _ => ⟨⟨Int.le_refl _, (by decide : (0 : Int) < 256)⟩, Int.le_refl _, (by decide : (0 : Int) < 256)⟩⟩), Keeps.of_below (by rw [hs1]; exact HW2.out)⟩⟩
    case round =>
      clear HVB HR2 HW2
      obtain ⟨i, hi, rfl, HY⟩ := hrel
      obtain ⟨ys, Li, HYL, HV, HR, HT, HLL, HWF, HKP⟩ := HY.out
      clear HY
      by_cases hlt : i < n
      · have hlt' : (i : Int) < n := by omega
        go_upto_region 10 with fail
        have HIL : Hid (i < ys.length) := (by rw [HYL.out]; exact hlt : i < ys.length)
        obtain ⟨y0, HY0⟩ : ∃ y0, Hid (ys[i]'HIL.out = y0) := ⟨_, rfl⟩
        have HRV : Hid (r < vb) := HRW.out
        refine wp_region_steps (by kernel_rfl) (by kernel_rfl) (fun xs => { tmps := (Value.pointer (some (⟨r, 0, none⟩ : Addr)) :: undef :: Value.slice none 0 0 :: Value.int IntKind.i64 (n : Int) :: Value.slice (some (⟨vb, 0, none⟩ : Addr)) n n :: Value.int IntKind.i64 (i : Int) :: Value.pointer (some (⟨vb, i * 68, none⟩ : Addr)) :: Value.pointer (some (⟨r, 0, none⟩ : Addr)) :: Value.int IntKind.i64 (n : Int) :: Value.int IntKind.i64 (n : Int) :: Value.bool (decide (10 < (n : Int))) :: undef :: undef :: Value.int IntKind.i64 (n : Int) :: Value.slice (some (⟨vb, 0, none⟩ : Addr)) n n :: Value.slice (some (⟨vb, 0, none⟩ : Addr)) n n :: Value.int IntKind.i64 (n : Int) :: Value.int IntKind.i64 (i : Int) :: Value.bool true :: Value.int IntKind.i64 (i : Int) :: Value.slice (some (⟨vb, 0, none⟩ : Addr)) n n :: Value.int IntKind.i64 (i : Int) :: Value.pointer (some (⟨vb, i * 68, none⟩ : Addr)) :: xs 0 :: xs 1 :: xs 2 :: xs 3 :: xs 4 :: xs 5 :: xs 6 :: xs 7 :: xs 8 :: xs 9 :: xs 10 :: xs 11 :: u35 :: u36 :: u37 :: u38 :: u39 :: u40 :: u41 :: u42 :: u43 :: u44 :: u45 :: u46 :: u47 :: u48 :: u49 :: u50 :: u51 :: undef :: []).toArray, defers := [] })
          (TwI (fun ii vv => match ii with | 0 => vv = .pointer (some ⟨r, 0, none⟩) | 1 => vv = .pointer (some ⟨vb, i * 68, none⟩) | 2 => vv = .pointer (some ⟨vb, i * 68, none⟩) | 3 => vv = .pointer (some ⟨vb, i * 68, none⟩) | 4 => vv = .pointer (some ⟨vb, i * 68, none⟩) | 5 => vv = .pointer (some ⟨vb, i * 68, none⟩) | 6 => vv = .pointer (some ⟨vb, i * 68 + 1, none⟩) | 7 => vv = .pointer (some ⟨vb, i * 68, none⟩) | 8 => vv = .pointer (some ⟨vb, i * 68, none⟩) | 9 => vv = .pointer (some ⟨vb, i * 68 + 2, none⟩) | _ => True) 10 11 (fun W => RdL W r Li ∧ VBlk W vb ys ∧ Keeps r w1 W) (fun v W => ∃ sb, v = .slice (some ⟨sb, 0, none⟩) 3 3 ∧ W.heap[sb]? = some (.cells #[.pointer (some ⟨vb, i * 68, none⟩), .pointer (some ⟨vb, i * 68 + 1, none⟩), .pointer (some ⟨vb, i * 68 + 2, none⟩)] 107 (0, 0)) ∧ r < sb ∧ vb ≠ sb ∧ RdL W r Li ∧ VBlk W vb ys ∧ Keeps r w1 W) (fun _ _ W => ∃ k s v L', RdL W r L' ∧ Took Li L' [k, s, v] ∧ L'.length ≤ Li.length ∧ inI k ∧ inI s ∧ inI v ∧ VBlk W vb (ys.set i { y0 with k := k, s := s, v := v }) ∧ Keeps r w1 W)) (fun | 0 => u23 | 1 => u24 | 2 => u25 | 3 => u26 | 4 => u27 | 5 => u28 | 6 => u29 | 7 => u30 | 8 => u31 | 9 => u32 | 10 => u33 | 11 => u34 | _ => undef) (by repeat (first | exact trivial | refine ⟨fun _ _ => rfl, ?_⟩)) (TwI.start ⟨HR.out.same (fun _ _ => rfl), HV.out.same rfl, HKP.out.trans ((Keeps.refl _ _).drew)⟩ _) ⟨?_, ?_, ?_, ?_, ?_, ?_, ?_, ?_, ?_, ?_, ?_, ?_, trivial⟩ ?_
        · intro li xs W hI hli hp K hK
          rw [if_pos (wanted_none rfl _)]
          clear hp
          go_simp
          exact hK _ _ (hI.mark 0 _ rfl (by decide) (by decide))
        · intro li xs W hI hli hp K hK
          rw [if_pos (wanted_none rfl _)]
          clear hp
          go_simp
          exact hK _ _ (hI.mark 1 _ rfl (by decide) (by decide))
        · intro li xs W hI hli hp K hK
          rw [if_pos (wanted_none rfl _)]
          have h1 : xs 1 = .pointer (some ⟨vb, i * 68, none⟩) := hI.det 1 (hp.1 rfl) (by decide) (by decide)
          clear hp
          simp only [h1] at hK ⊢
          clear h1
          go_simp
          exact hK _ _ (hI.mark 2 _ rfl (by decide) (by decide))
        · intro li xs W hI hli hp K hK
          rw [if_pos (wanted_none rfl _)]
          have h2 : xs 2 = .pointer (some ⟨vb, i * 68, none⟩) := hI.det 2 (hp.1 rfl) (by decide) (by decide)
          clear hp
          simp only [h2] at hK ⊢
          clear h2
          go_simp
          exact hK _ _ (hI.mark 3 _ rfl (by decide) (by decide))
        · intro li xs W hI hli hp K hK
          rw [if_pos (wanted_none rfl _)]
          clear hp
          go_simp
          exact hK _ _ (hI.mark 4 _ rfl (by decide) (by decide))
        · intro li xs W hI hli hp K hK
          rw [if_pos (wanted_none rfl _)]
          have h4 : xs 4 = .pointer (some ⟨vb, i * 68, none⟩) := hI.det 4 (hp.1 rfl) (by decide) (by decide)
          clear hp
          simp only [h4] at hK ⊢
          clear h4
          go_simp
          exact hK _ _ (hI.mark 5 _ rfl (by decide) (by decide))
        · intro li xs W hI hli hp K hK
          rw [if_pos (wanted_none rfl _)]
          have h5 : xs 5 = .pointer (some ⟨vb, i * 68, none⟩) := hI.det 5 (hp.1 rfl) (by decide) (by decide)
          clear hp
          simp only [h5] at hK ⊢
          clear h5
          go_simp
          exact hK _ _ (hI.mark 6 _ rfl (by decide) (by decide))
        · intro li xs W hI hli hp K hK
          rw [if_pos (wanted_none rfl _)]
          clear hp
          go_simp
          exact hK _ _ (hI.mark 7 _ rfl (by decide) (by decide))
        · intro li xs W hI hli hp K hK
          rw [if_pos (wanted_none rfl _)]
          have h7 : xs 7 = .pointer (some ⟨vb, i * 68, none⟩) := hI.det 7 (hp.1 rfl) (by decide) (by decide)
          clear hp
          simp only [h7] at hK ⊢
          clear h7
          go_simp
          exact hK _ _ (hI.mark 8 _ rfl (by decide) (by decide))
        · intro li xs W hI hli hp K hK
          rw [if_pos (wanted_none rfl _)]
          have h8 : xs 8 = .pointer (some ⟨vb, i * 68, none⟩) := hI.det 8 (hp.1 rfl) (by decide) (by decide)
          clear hp
          simp only [h8] at hK ⊢
          clear h8
          go_simp
          exact hK _ _ (hI.mark 9 _ rfl (by decide) (by decide))
        · intro li xs W hI hli hp K hK
          rw [if_pos (wanted_none rfl _)]
          have h3 : xs 3 = .pointer (some ⟨vb, i * 68, none⟩) := hI.det 3 (hp.1 rfl) (by decide) (by decide)
          have h6 : xs 6 = .pointer (some ⟨vb, i * 68 + 1, none⟩) := hI.det 6 (hp.2.1 rfl) (by decide) (by decide)
          have h9 : xs 9 = .pointer (some ⟨vb, i * 68 + 2, none⟩) := hI.det 9 (hp.2.2.1 rfl) (by decide) (by decide)
          clear hp
          simp only [h3, h6, h9] at hK ⊢
          clear h3 h6 h9
          go_simp
          obtain ⟨hr, hv, hk⟩ := hI.s0 hli
          have hW := below_alloc W (.cells #[.pointer (some ⟨vb, i * 68, none⟩), .pointer (some ⟨vb, i * 68 + 1, none⟩), .pointer (some ⟨vb, i * 68 + 2, none⟩)] 107)
          exact hK _ _ (hI.first hli (by decide) _ ⟨W.heap.size, rfl, alloc_blk _ _, hr.lt, by have := hv.lt; omega, hr.same (fun q hq => hW.block q (by have := hr.lt; omega)), hv.same (hW.block _ hv.lt), hk.trans (Keeps.of_below hW)⟩)
        · intro li xs W hI hli hp K hK
          rw [if_pos (wanted_none rfl _)]
          have h0 : xs 0 = .pointer (some ⟨r, 0, none⟩) := hI.det 0 (hp.1 rfl) (by decide) (by decide)
          have la : li 10 = true := hp.2.1 rfl
          clear hp
          obtain ⟨sb, h10, hsb, hrs, hvs, hr, hv, hk⟩ := hI.s1 la hli
          simp only [h0, h10] at hK ⊢
          clear h0 h10
          go_simp
          refine (rdNums_str r sb [(vb, i * 68), (vb, i * 68 + 1), (vb, i * 68 + 2)] Li W hr (fun j p hp => ?_) (fun p hp => ?_) hrs (by show 3 < 1000; decide)).mono ?_
          · rw [cell_blk hsb]
            match j, hp with
            | 0, hp => cases hp; rfl
            | 1, hp => cases hp; rfl
            | 2, hp => cases hp; rfl
            | j + 3, hp => cases hp
          · simp only [List.mem_cons, List.not_mem_nil, or_false] at hp
            rcases hp with rfl | rfl | rfl
            · exact ⟨hv.intAt (i := 0) HIL.out (by decide) (VoteR.at0 _), HRV.out, hvs⟩
            · exact ⟨hv.intAt (i := 1) HIL.out (by decide) (VoteR.at1 _), HRV.out, hvs⟩
            · exact ⟨hv.intAt (i := 2) HIL.out (by decide) (VoteR.at2 _), HRV.out, hvs⟩
          rintro e W' ⟨rfl, zs, L', hzl, hzi, hr', ht', hl', hk', hs'⟩
          obtain ⟨k, s, v, rfl⟩ : ∃ k s v, zs = [k, s, v] := by
            match zs, hzl with
            | [k, s, v], _ => exact ⟨k, s, v, rfl⟩
          exact hK _ _ (hI.second la (by decide) _ ⟨k, s, v, L', hr', ht', hl', hzi k (by simp), hzi s (by simp), hzi v (by simp), vblk_three hv HIL.out HY0.out hk' (by have := HRV.out; omega), keeps_three hk hk' HVW.out⟩)
        · intro li xs W hI hall
          have h0 : xs 0 = .pointer (some ⟨r, 0, none⟩) := hI.det 0 (hall 0 (by simp)) (by decide) (by decide)
          have h1 : xs 1 = .pointer (some ⟨vb, i * 68, none⟩) := hI.det 1 (hall 1 (by simp)) (by decide) (by decide)
          have h2 : xs 2 = .pointer (some ⟨vb, i * 68, none⟩) := hI.det 2 (hall 2 (by simp)) (by decide) (by decide)
          have h3 : xs 3 = .pointer (some ⟨vb, i * 68, none⟩) := hI.det 3 (hall 3 (by simp)) (by decide) (by decide)
          have h4 : xs 4 = .pointer (some ⟨vb, i * 68, none⟩) := hI.det 4 (hall 4 (by simp)) (by decide) (by decide)
          have h5 : xs 5 = .pointer (some ⟨vb, i * 68, none⟩) := hI.det 5 (hall 5 (by simp)) (by decide) (by decide)
          have h6 : xs 6 = .pointer (some ⟨vb, i * 68 + 1, none⟩) := hI.det 6 (hall 6 (by simp)) (by decide) (by decide)
          have h7 : xs 7 = .pointer (some ⟨vb, i * 68, none⟩) := hI.det 7 (hall 7 (by simp)) (by decide) (by decide)
          have h8 : xs 8 = .pointer (some ⟨vb, i * 68, none⟩) := hI.det 8 (hall 8 (by simp)) (by decide) (by decide)
          have h9 : xs 9 = .pointer (some ⟨vb, i * 68 + 2, none⟩) := hI.det 9 (hall 9 (by simp)) (by decide) (by decide)
          simp only [h0, h1, h2, h3, h4, h5, h6, h7, h8, h9]
          clear h0 h1 h2 h3 h4 h5 h6 h7 h8 h9
          obtain ⟨k, s, v, L2, hr2, ht2, hl2, ik, is, iv, hv2, hk2⟩ := hI.s2 (hall 11 (by simp))
          have HR2 : Hid (RdL W r L2) := hr2
          have HV2 : Hid (VBlk W vb (ys.set i { y0 with k := k, s := s, v := v })) := hv2
          have HX2 : Hid (Took Li L2 [k, s, v] ∧ L2.length ≤ Li.length ∧ inI k ∧ inI s ∧ inI v ∧ Keeps r w1 W) := ⟨ht2, hl2, ik, is, iv, hk2⟩
          generalize xs 10 = x10
          generalize xs 11 = x11
          clear hr2 ht2 hl2 ik is iv hv2 hk2 hI hall HV HR HKP
          clear xs li
          go_wp2_with fail
          refine (takeHash_str r L2 W HR2.out).mono ?_
          rintro e w5 ⟨D, rfl, hD, ⟨L5, hr5, hT5, hl5⟩, hk5⟩
          obtain ⟨y1, HY1⟩ : ∃ y1 : VoteR, Hid ({ y0 with k := k, s := s, v := v } = y1) := ⟨_, rfl⟩
          rw [HY1.out] at HV2
          have HV5 : Hid (VBlk w5 vb (ys.set i y1)) := HV2.out.same (hk5.block _ HV2.out.lt (by have := HRV.out; omega))
          have HI1 : Hid (i < (ys.set i y1).length) := (by rw [List.length_set]; exact HIL.out : i < (ys.set i y1).length)
          have HX5 : Hid (RdL w5 r L5 ∧ TookB L2 L5 D 32 ∧ L5.length ≤ L2.length ∧ Keeps r w1 w5) := ⟨hr5, hT5, hl5, HX2.out.2.2.2.2.2.trans hk5⟩
          have HDB : Hid (∀ x ∈ D, 0 ≤ x ∧ x < 256) := hD
          clear hr5 hT5 hl5 hk5 HV2 HR2 hD
          go_upto_region 12 with (refine wpList_store_hashV rfl _ _ rfl vb i 3 (ys.set i y1) { y1 with sum := hashF D } (hashF D) ?_ ?_ HV5.out HI1.out (by decide) (fun q hq => by rw [List.getElem_set_self]; exact VoteR.sum_at y1 (hashF D) q hq) ?_; rfl; rfl)
          intro w6 hV6 hk6
          obtain ⟨y2, HY2⟩ : ∃ y2 : VoteR, Hid ({ y1 with sum := hashF D } = y2) := ⟨_, rfl⟩
          have HV6 : Hid (VBlk w6 vb (ys.set i y2)) := by rw [← HY2.out]; exact hV6
          have HI2 : Hid (i < (ys.set i y2).length) := (by rw [List.length_set]; exact HIL.out : i < (ys.set i y2).length)
          have HK6 : Hid (Keeps r w1 w6) := keeps_over HX5.out.2.2.2 hk6 HVW.out
          have HR6 : Hid (RdL w6 r L5) := HX5.out.1.same (fun q hq => hk6.block q (by have := HX5.out.1.lt; omega) (by have := HRV.out; omega))
          clear hV6 hk6 HV5
          have HB7 : Hid (Below w6.heap.size w6 (w6.alloc (.cells #[.pointer (some ⟨vb, i * 68 + 35, none⟩)] 107))) := below_alloc _ _
          have HR7 : Hid (RdL (w6.alloc (.cells #[.pointer (some ⟨vb, i * 68 + 35, none⟩)] 107)) r L5) := HR6.out.same (fun q hq => HB7.out.block q (by have := HR6.out.lt; omega))
          have HV7 : Hid (VBlk (w6.alloc (.cells #[.pointer (some ⟨vb, i * 68 + 35, none⟩)] 107)) vb (ys.set i y2)) := HV6.out.same (HB7.out.block _ HV6.out.lt)
          have HP7 : Hid ((w6.alloc (.cells #[.pointer (some ⟨vb, i * 68 + 35, none⟩)] 107)).heap[w6.heap.size]? = some (.cells #[.pointer (some ⟨vb, i * 68 + 35, none⟩)] 107 (0, 0))) := alloc_blk _ _
          have HK7 : Hid (Keeps r w1 (w6.alloc (.cells #[.pointer (some ⟨vb, i * 68 + 35, none⟩)] 107))) := HK6.out.trans (Keeps.of_below HB7.out)
          have hr6 : r < w6.heap.size := HR6.out.lt
          have hv6 : vb < w6.heap.size := HV6.out.lt
          clear HK6
          go_wp2_with fail
          generalize w6.alloc (.cells #[.pointer (some ⟨vb, i * 68 + 35, none⟩)] 107) = w7 at *
          refine (rdNums_str r w6.heap.size [(vb, i * 68 + 35)] L5 w7 HR7.out (fun j p hp => ?_) (fun p hp => ?_) hr6 (by show 1 < 1000; decide)).mono ?_
          · rw [cell_blk HP7.out]
            match j, hp with
            | 0, hp => cases hp; rfl
            | j + 1, hp => cases hp
          · simp only [List.mem_cons, List.not_mem_nil, or_false] at hp
            subst hp
            exact ⟨HV7.out.intAt (i := 35) HI2.out (by decide) (VoteR.at35 _), HRV.out, by simp; omega⟩
          rintro e w8 ⟨rfl, zs, L8, hzl, hzi, hr8, ht8, hl8, hk8, hs8⟩
          obtain ⟨f, rfl⟩ : ∃ f, zs = [f] := List.length_eq_one_iff.1 hzl
          obtain ⟨y3, HY3⟩ : ∃ y3 : VoteR, Hid ({ y2 with f := f } = y3) := ⟨_, rfl⟩
          have hv8 := vblk_from HV7.out HI2.out (List.getElem_set_self _) hk8 (by have := HRV.out; omega)
          rw [List.set_set, HY3.out] at hv8
          have HV8 : Hid (VBlk w8 vb (ys.set i y3)) := hv8
          have HI3 : Hid (i < (ys.set i y3).length) := (by rw [List.length_set]; exact HIL.out : i < (ys.set i y3).length)
          have HX8 : Hid (RdL w8 r L8 ∧ Took L5 L8 [f] ∧ L8.length ≤ L5.length ∧ inI f ∧ Keeps r w1 w8) := ⟨hr8, ht8, hl8, hzi f (by simp), keeps_one HK7.out hk8 HVW.out⟩
          clear hv8 hzl hzi hr8 ht8 hl8 hk8 hs8 HR7 HV7 HP7 HK7 HB7 HV6 HR6
          go_wp2_with fail
          refine (takeHash_str r L8 w8 HX8.out.1).mono ?_
          rintro e w9 ⟨D9, rfl, hD9, ⟨L9, hr9, hT9, hl9⟩, hk9⟩
          have HV9 : Hid (VBlk w9 vb (ys.set i y3)) := HV8.out.same (hk9.block _ HV8.out.lt (by have := HRV.out; omega))
          have HX9 : Hid (RdL w9 r L9 ∧ TookB L8 L9 D9 32 ∧ L9.length ≤ L8.length ∧ Keeps r w1 w9) := ⟨hr9, hT9, hl9, HX8.out.2.2.2.2.trans hk9⟩
          have HDB9 : Hid (∀ x ∈ D9, 0 ≤ x ∧ x < 256) := hD9
          clear hr9 hT9 hl9 hk9 HV8 hD9
          go_upto_region 14 with (refine wpList_store_hashV rfl _ _ rfl vb i 36 (ys.set i y3) { y3 with tag := hashF D9 } (hashF D9) ?_ ?_ HV9.out HI3.out (by decide) (fun q hq => by rw [List.getElem_set_self]; exact VoteR.tag_at y3 (hashF D9) q) ?_; rfl; rfl)
          intro w10 hV10 hk10
          obtain ⟨y4, HY4⟩ : ∃ y4 : VoteR, Hid ({ y3 with tag := hashF D9 } = y4) := ⟨_, rfl⟩
          have HV10 : Hid (VBlk w10 vb (ys.set i y4)) := by rw [← HY4.out]; exact hV10
          have HK10 : Hid (Keeps r w1 w10) := keeps_over HX9.out.2.2.2 hk10 HVW.out
          have HR10 : Hid (RdL w10 r L9) := HX9.out.1.same (fun q hq => hk10.block q (by have := HX9.out.1.lt; omega) (by have := HRV.out; omega))
          clear hV10 hk10 HV9
          have HFIN : Hid (VTook L1 L9 (ys.set i y4) (i + 1) ∧ L9.length ≤ L1.length ∧ ∀ y ∈ ys.set i y4, y.wf ∧ VBytes y) := by
            have e4 : y4 = ⟨k, s, v, hashF D, f, hashF D9⟩ := by rw [← HY4.out, ← HY3.out, ← HY2.out, ← HY1.out]
            refine ⟨HT.out.next HIL.out (fun z R hz e => ?_), ?_, fun y hy => ?_⟩
            · rw [e4]
              exact vote_took HX2.out.1 HX5.out.2.1 HX8.out.2.1 HX9.out.2.1 hz e
            · have := HX2.out.2.1; have := HX5.out.2.2.1; have := HX8.out.2.2.1; have := HX9.out.2.2.1; have := HLL.out; omega
            · rcases List.mem_or_eq_of_mem_set hy with h | rfl
              · exact HWF.out y h
              · rw [e4]
                exact ⟨⟨HX2.out.2.2.1, HX2.out.2.2.2.1, HX2.out.2.2.2.2.1, HX8.out.2.2.2.1⟩, fun j _ => ⟨hashF_bytes HDB.out j, hashF_bytes HDB9.out j⟩⟩
          have HLN : Hid ((ys.set i y4).length = n) := (by rw [List.length_set]; exact HYL.out : (ys.set i y4).length = n)
          clear HX2 HX5 HX8 HX9 HWF HT HLL HY0 HY1 HY2 HY3 HY4
          go_wp2_with fail
          exact ⟨⟨i + 1, by omega, rfl, ⟨_, _, HLN, HV10, HR10, HFIN.out.1, HFIN.out.2.1, HFIN.out.2.2, HK10⟩⟩, by simp [intOf]; omega⟩
      · obtain rfl : i = n := by omega
        go_wp2_with fail
        refine bodyPost_ret (results_tmp rfl _ _ _) rfl ⟨some ⟨vb, 0, none⟩, i, i, ys, rfl, HYL.out.symm, hn10, HV.out.at, HWF.out, .inr ⟨vb, rfl, by omega⟩, HX.out.2.2.trans HKP.out, Li, HR.out, Nat.le_trans HLL.out HX.out.2.1, fun zs R hzs hz e => ?_⟩
        have e2 : L = num (zs.length : Int) ++ (zs.flatMap voteL ++ R) := by rw [e]; unfold votesL; rw [List.append_assoc]
        obtain ⟨e3, e4⟩ := HX.out.1.one ⟨by omega, by omega⟩ e2
        have hlz : zs.length = ys.length := by rw [HYL.out]; omega
        obtain ⟨e5, e6⟩ := HT.out zs R hlz hz e4
        refine ⟨votesEq_of hlz.symm (fun j h1 h2 => e5 j h1 h2 (by rw [← HYL.out]; exact h1)), ?_⟩
        rw [e6, List.drop_of_length_le (by rw [hlz, HYL.out]; exact Nat.le_refl _)]
        rfl
end Go.Proofs.Ytkjocpadmlobgaa
