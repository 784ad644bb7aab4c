/- wire's named: an operation with only those fields that its kind names. No condition. -/
import Derived.Test.YtoihfhlelbdboabWireG
import Derived.Test.YtoihfhlelbdboabStI
set_option linter.unusedSimpArgs false
set_option linter.unusedVariables false
namespace Go.Proofs.Ytoihfhlelbdboab
open Go.RowKit Go.Dig Go.Inv Go.Oct

theorem op_row : ∃ d, Try.prog.underlying 32 = some d ∧ d.isRow = true := by
  have h : (Try.prog.underlying 32).map (·.isRow) = some true := by kernel_rfl
  cases hd : Try.prog.underlying 32 with
  | none => rw [hd] at h; cases h
  | some d => rw [hd] at h; exact ⟨d, rfl, by simpa using h⟩
theorem op_info (k c s : Int) (n : ByteArray) (p e t r : Int) (b : Bool) : (Try.prog.info? 32).map (·.size) = some (opC k c s n p e t r b).size := by kernel_rfl
theorem op_all (k c s : Int) (n : ByteArray) (p e t r : Int) (b : Bool) : (opC k c s n p e t r b).all (·.oneCell') = true := by simp [opC]; exact ⟨rfl, rfl, rfl, rfl, rfl, rfl, rfl, rfl, rfl⟩
theorem wpList_load_op {ops : Array Oper} {rest : List Oper} {o : Oper} {a : Act} {w : World} {Q : Exit → Act → World → Prop} (hgd : o.guard = none) (x : Operand) (ho : o.op = .load 32 x) (b0 : Nat) (k c s : Int) (n : ByteArray) (p e t r : Int) (b : Bool) (ty : TypeId) (fr : Nat × Nat) (hx : a.eval x = .pointer (some ⟨b0, 0, none⟩))
    (hc : w.heap[b0]? = some (.cells (opC k c s n p e t r b) ty fr)) (h : wpList Try.prog ops Q rest (a.put o.dst (.agg (opC k c s n p e t r b))) w) : wpList Try.prog ops Q (o :: rest) a w := by
  obtain ⟨d, hd1, hd2⟩ := op_row
  refine wpList_load_mid hgd 32 x ho b0 0 hx (opC k c s n p e t r b).toList d (fun j v hv => ?_) hd1 hd2 (by rw [Array.length_toList]; exact op_info k c s n p e t r b) (by simpa using h)
  rw [Nat.zero_add, cell_blk hc]; simpa using hv
theorem wpList_store_op {ops : Array Oper} {rest : List Oper} {o : Oper} {a : Act} {w : World} {Q : Exit → Act → World → Prop} (hgd : o.guard = none) (x y : Operand) (ho : o.op = .store 32 x y) (b0 : Nat) (k c s : Int) (n : ByteArray) (p e t r : Int) (b : Bool) (old : Array Value) (hx : a.eval x = .pointer (some ⟨b0, 0, none⟩)) (hy : a.eval y = .agg (opC k c s n p e t r b))
    (hg : w.heap[b0]? = some (.cells old 32 (0, 0))) (hs : old.size = 9) (h : wpList Try.prog ops Q rest (a.put o.dst undef) (w.setRow b0 (opC k c s n p e t r b))) : wpList Try.prog ops Q (o :: rest) a w :=
  wpList_store_blk hgd 32 x y ho b0 _ hx hy 32 old hg (op_info k c s n p e t r b) (by rw [hs]; rfl) (op_all k c s n p e t r b) h
set_option maxRecDepth 10000 in
set_option maxHeartbeats 1000000 in
theorem named_2 (c s : Int) (n : ByteArray) (p e t r : Int) (b : Bool) (w : World) : Calls Try.prog 67 #[.agg (opC 2 c s n p e t r b)] w fun x w' => x = .returned (.agg (opC 2 c s eN p e t r false)) ∧ Below w.heap.size w w' := by
  unfold opC
  have h1 : ¬ (2 : Int) = 1 := by decide
  go_enter Try.func67, Try.ntmps67
  go_wp2_with fail
  have HC0 : Hid ((((w.alloc (.cells (opC 2 c s n p e t r b) 32)).alloc (.cells (opC 0 0 0 eN 0 0 0 0 false) 32)).alloc (.cells (opC 2 c s eN 0 0 0 0 false) 32)).heap[w.heap.size + 2]? = some (.cells (opC 2 c s eN 0 0 0 0 false) 32 (0, 0))) := by
    have := alloc_blk ((w.alloc (.cells (opC 2 c s n p e t r b) 32)).alloc (.cells (opC 0 0 0 eN 0 0 0 0 false) 32)) (.cells (opC 2 c s eN 0 0 0 0 false) 32)
    rw [World.size_alloc, World.size_alloc] at this; exact this
  have HR0 : Hid ((((w.alloc (.cells (opC 2 c s n p e t r b) 32)).alloc (.cells (opC 0 0 0 eN 0 0 0 0 false) 32)).alloc (.cells (opC 2 c s eN 0 0 0 0 false) 32)).heap[w.heap.size + 1]? = some (.cells (opC 0 0 0 eN 0 0 0 0 false) 32 (0, 0))) := by
    have := alloc_blk (w.alloc (.cells (opC 2 c s n p e t r b) 32)) (.cells (opC 0 0 0 eN 0 0 0 0 false) 32)
    rw [World.size_alloc] at this; exact alloc_blk_old this _
  have HO : Hid ((((w.alloc (.cells (opC 2 c s n p e t r b) 32)).alloc (.cells (opC 0 0 0 eN 0 0 0 0 false) 32)).alloc (.cells (opC 2 c s eN 0 0 0 0 false) 32)).heap[w.heap.size]? = some (.cells (opC 2 c s n p e t r b) 32 (0, 0))) := alloc_blk_old (alloc_blk_old (alloc_blk _ _) _) _
  have hB3 : Below w.heap.size w (((w.alloc (.cells (opC 2 c s n p e t r b) 32)).alloc (.cells (opC 0 0 0 eN 0 0 0 0 false) 32)).alloc (.cells (opC 2 c s eN 0 0 0 0 false) 32)) := ((below_alloc _ _).alloc (by simp) _).alloc (by simp; omega) _
  unfold opC eN at HC0 HR0 HO hB3
  generalize (((w.alloc (.cells #[.int .i64 2, .int .i64 c, .int .i64 s, .string n, .int .i64 p, .int .i64 e, .int .i64 t, .int .i64 r, .bool b] 32)).alloc (.cells #[.int .i64 0, .int .i64 0, .int .i64 0, .string ⟨#[]⟩, .int .i64 0, .int .i64 0, .int .i64 0, .int .i64 0, .bool false] 32)).alloc (.cells #[.int .i64 2, .int .i64 c, .int .i64 s, .string ⟨#[]⟩, .int .i64 0, .int .i64 0, .int .i64 0, .int .i64 0, .bool false] 32)) = w3 at *
  let C : Bool → Bool → Bool → Bool → Array Value := fun a1 a2 a3 a4 => opC 2 c s eN (if a1 then p else 0) (if a2 then e else 0) (if a3 then t else 0) (if a4 then r else 0) false
  refine wp_region_steps (by kernel_rfl) (by kernel_rfl) (fun xs => { tmps := (.agg #[.int .i64 2, .int .i64 c, .int .i64 s, .string n, .int .i64 p, .int .i64 e, .int .i64 t, .int .i64 r, .bool b] :: .pointer (some ⟨w.heap.size, 0, none⟩) :: .pointer (some ⟨w.heap.size + 1, 0, none⟩) :: .pointer (some ⟨w.heap.size + 2, 0, none⟩) :: .pointer (some ⟨w.heap.size, 0, none⟩) :: .int .i64 2 :: .pointer (some ⟨w.heap.size, 1, none⟩) :: .int .i64 c :: .pointer (some ⟨w.heap.size, 2, none⟩) :: .int .i64 s :: .agg #[.int .i64 2, .int .i64 c, .int .i64 s, .string ⟨#[]⟩, .int .i64 0, .int .i64 0, .int .i64 0, .int .i64 0, .bool false] :: .pointer (some ⟨w.heap.size, 0, none⟩) :: .int .i64 2 :: .bool false :: .bool false :: undef :: undef :: undef :: .bool true :: .bool true :: xs 0 :: xs 1 :: xs 2 :: xs 3 :: xs 4 :: xs 5 :: xs 6 :: xs 7 :: xs 8 :: xs 10 :: xs 12 :: xs 14 :: undef :: undef :: undef :: undef :: undef :: undef :: undef :: undef :: undef :: undef :: undef :: undef :: undef :: undef :: undef :: []).toArray, defers := [] })
    (StI (fun ii xx => match ii with | 0 => xx = .pointer (some ⟨w.heap.size, 4, none⟩) | 1 => xx = .int .i64 p | 2 => xx = .pointer (some ⟨w.heap.size, 5, none⟩) | 3 => xx = .int .i64 e | 4 => xx = .pointer (some ⟨w.heap.size, 6, none⟩) | 5 => xx = .int .i64 t | 6 => xx = .pointer (some ⟨w.heap.size, 7, none⟩) | 7 => xx = .int .i64 r | 8 => xx = .pointer (some ⟨w.heap.size + 2, 4, none⟩) | 10 => xx = .pointer (some ⟨w.heap.size + 2, 5, none⟩) | 12 => xx = .pointer (some ⟨w.heap.size + 2, 6, none⟩) | 14 => xx = .pointer (some ⟨w.heap.size + 2, 7, none⟩) | _ => True) w3 (w.heap.size + 2) 32 C 9 11 13 15) (fun _ => undef) (by repeat (first | exact trivial | refine ⟨fun _ _ => rfl, ?_⟩)) (StI.start ((Below.refl _ _).drew) HC0.out) ⟨?_, ?_, ?_, ?_, ?_, ?_, ?_, ?_, ?_, ?_, ?_, ?_, ?_, ?_, ?_, ?_, trivial⟩ ?_
  · intro li xs W1 hI hli hp K hK
    rw [if_pos (wanted_none rfl _)]
    clear hp
    go_simp
    exact hK _ _ (hI.mark 0 _ rfl (by decide))
  · intro li xs W1 hI hli hp K hK
    rw [if_pos (wanted_none rfl _)]
    have h0 : xs 0 = .pointer (some ⟨w.heap.size, 4, none⟩) := hI.det 0 (hp.1 rfl)
    clear hp
    have hc : W1.cell? ⟨w.heap.size, 4, none⟩ = some (.int .i64 p) := (cell_blk (Below.blk hI.bel (by omega) HO.out) _).trans rfl
    simp only [h0] at hK ⊢
    clear h0
    go_simp
    exact hK _ _ (hI.mark 1 _ rfl (by decide))
  · intro li xs W1 hI hli hp K hK
    rw [if_pos (wanted_none rfl _)]
    clear hp
    go_simp
    exact hK _ _ (hI.mark 2 _ rfl (by decide))
  · intro li xs W1 hI hli hp K hK
    rw [if_pos (wanted_none rfl _)]
    have h2 : xs 2 = .pointer (some ⟨w.heap.size, 5, none⟩) := hI.det 2 (hp.1 rfl)
    clear hp
    have hc : W1.cell? ⟨w.heap.size, 5, none⟩ = some (.int .i64 e) := (cell_blk (Below.blk hI.bel (by omega) HO.out) _).trans rfl
    simp only [h2] at hK ⊢
    clear h2
    go_simp
    exact hK _ _ (hI.mark 3 _ rfl (by decide))
  · intro li xs W1 hI hli hp K hK
    rw [if_pos (wanted_none rfl _)]
    clear hp
    go_simp
    exact hK _ _ (hI.mark 4 _ rfl (by decide))
  · intro li xs W1 hI hli hp K hK
    rw [if_pos (wanted_none rfl _)]
    have h4 : xs 4 = .pointer (some ⟨w.heap.size, 6, none⟩) := hI.det 4 (hp.1 rfl)
    clear hp
    have hc : W1.cell? ⟨w.heap.size, 6, none⟩ = some (.int .i64 t) := (cell_blk (Below.blk hI.bel (by omega) HO.out) _).trans rfl
    simp only [h4] at hK ⊢
    clear h4
    go_simp
    exact hK _ _ (hI.mark 5 _ rfl (by decide))
  · intro li xs W1 hI hli hp K hK
    rw [if_pos (wanted_none rfl _)]
    clear hp
    go_simp
    exact hK _ _ (hI.mark 6 _ rfl (by decide))
  · intro li xs W1 hI hli hp K hK
    rw [if_pos (wanted_none rfl _)]
    have h6 : xs 6 = .pointer (some ⟨w.heap.size, 7, none⟩) := hI.det 6 (hp.1 rfl)
    clear hp
    have hc : W1.cell? ⟨w.heap.size, 7, none⟩ = some (.int .i64 r) := (cell_blk (Below.blk hI.bel (by omega) HO.out) _).trans rfl
    simp only [h6] at hK ⊢
    clear h6
    go_simp
    exact hK _ _ (hI.mark 7 _ rfl (by decide))
  · intro li xs W1 hI hli hp K hK
    rw [if_pos (wanted_none rfl _)]
    clear hp
    go_simp
    exact hK _ _ (hI.mark 8 _ rfl (by decide))
  · intro li xs W1 hI hli hp K hK
    rw [if_pos (wanted_none rfl _)]
    have h1 : xs 1 = .int .i64 p := hI.det 1 (hp.2.1 rfl)
    have h8 : xs 8 = .pointer (some ⟨w.heap.size + 2, 4, none⟩) := hI.det 8 (hp.1 rfl)
    clear hp
    obtain ⟨old, hc⟩ := hI.there 4 (fun p q r s => by simp [C, opC])
    have hf := hI.fr 4
    simp only [h1, h8] at hK ⊢
    clear h1 h8
    go_simp
    exact hK undef _ (hI.put0 hli 4 (.int .i64 p) undef trivial (by decide) (fun p q r => by simp [C, opC]))
  · intro li xs W1 hI hli hp K hK
    rw [if_pos (wanted_none rfl _)]
    clear hp
    go_simp
    exact hK _ _ (hI.mark 10 _ rfl (by decide))
  · intro li xs W1 hI hli hp K hK
    rw [if_pos (wanted_none rfl _)]
    have h3 : xs 3 = .int .i64 e := hI.det 3 (hp.2.1 rfl)
    have h10 : xs 10 = .pointer (some ⟨w.heap.size + 2, 5, none⟩) := hI.det 10 (hp.1 rfl)
    clear hp
    obtain ⟨old, hc⟩ := hI.there 5 (fun p q r s => by simp [C, opC])
    have hf := hI.fr 5
    simp only [h3, h10] at hK ⊢
    clear h3 h10
    go_simp
    exact hK undef _ (hI.put1 hli 5 (.int .i64 e) undef trivial (by decide) (fun p q r => by simp [C, opC]))
  · intro li xs W1 hI hli hp K hK
    rw [if_pos (wanted_none rfl _)]
    clear hp
    go_simp
    exact hK _ _ (hI.mark 12 _ rfl (by decide))
  · intro li xs W1 hI hli hp K hK
    rw [if_pos (wanted_none rfl _)]
    have h5 : xs 5 = .int .i64 t := hI.det 5 (hp.2.1 rfl)
    have h12 : xs 12 = .pointer (some ⟨w.heap.size + 2, 6, none⟩) := hI.det 12 (hp.1 rfl)
    clear hp
    obtain ⟨old, hc⟩ := hI.there 6 (fun p q r s => by simp [C, opC])
    have hf := hI.fr 6
    simp only [h5, h12] at hK ⊢
    clear h5 h12
    go_simp
    exact hK undef _ (hI.put2 hli 6 (.int .i64 t) undef trivial (by decide) (fun p q r => by simp [C, opC]))
  · intro li xs W1 hI hli hp K hK
    rw [if_pos (wanted_none rfl _)]
    clear hp
    go_simp
    exact hK _ _ (hI.mark 14 _ rfl (by decide))
  · intro li xs W1 hI hli hp K hK
    rw [if_pos (wanted_none rfl _)]
    have h7 : xs 7 = .int .i64 r := hI.det 7 (hp.2.1 rfl)
    have h14 : xs 14 = .pointer (some ⟨w.heap.size + 2, 7, none⟩) := hI.det 14 (hp.1 rfl)
    clear hp
    obtain ⟨old, hc⟩ := hI.there 7 (fun p q r s => by simp [C, opC])
    have hf := hI.fr 7
    simp only [h7, h14] at hK ⊢
    clear h7 h14
    go_simp
    exact hK undef _ (hI.put3 hli 7 (.int .i64 r) undef trivial (by decide) (fun p q r => by simp [C, opC]))
  · intro li xs W1 hI hall
    have hb := hI.blk
    rw [hall 9 (by decide), hall 11 (by decide), hall 13 (by decide), hall 15 (by decide)] at hb
    have HB1 : Hid (W1.heap[w.heap.size + 2]? = some (.cells (opC 2 c s eN p e t r false) 32 (0, 0))) := hb
    have HR1 : Hid (W1.heap[w.heap.size + 1]? = some (.cells (opC 0 0 0 eN 0 0 0 0 false) 32 (0, 0))) := Below.blk hI.bel (by omega) HR0.out
    have hBf : Below w.heap.size w W1 := hB3.trans (hI.bel.mono (by omega))
    clear hI hb HC0 HR0 HO hB3
    go_wp2_with (first | (refine wpList_load_op rfl _ rfl (w.heap.size + 2) 2 c s eN p e t r false 32 (0, 0) ?_ ?_ ?_; rfl; exact HB1.out) | (refine wpList_store_op rfl _ _ rfl (w.heap.size + 1) 2 c s eN p e t r false (opC 0 0 0 eN 0 0 0 0 false) ?_ ?_ ?_ ?_ ?_; rfl; rfl; exact HR1.out; rfl))
    have HE := setRow_at HR1.out (opC 2 c s eN p e t r false)
    have e0 := fun j => cell_blk HE j
    unfold opC at e0
    refine bodyPost_ret (v := .agg (opC 2 c s eN p e t r false)) (by unfold opC; simp [results, Try.results67, go_sem, e0]) rfl ⟨rfl, ?_⟩
    exact below_setRow hBf (by omega) _
set_option maxRecDepth 10000 in
set_option maxHeartbeats 1000000 in
theorem named_3 (c s : Int) (n : ByteArray) (p e t r : Int) (b : Bool) (w : World) : Calls Try.prog 67 #[.agg (opC 3 c s n p e t r b)] w fun x w' => x = .returned (.agg (opC 3 c s eN p e t 0 b)) ∧ Below w.heap.size w w' := by
  unfold opC
  have h1 : ¬ (3 : Int) = 1 := by decide
  have h2 : ¬ (3 : Int) = 2 := by decide
  go_enter Try.func67, Try.ntmps67
  go_wp2_with fail
  have HC0 : Hid ((((w.alloc (.cells (opC 3 c s n p e t r b) 32)).alloc (.cells (opC 0 0 0 eN 0 0 0 0 false) 32)).alloc (.cells (opC 3 c s eN 0 0 0 0 false) 32)).heap[w.heap.size + 2]? = some (.cells (opC 3 c s eN 0 0 0 0 false) 32 (0, 0))) := by
    have := alloc_blk ((w.alloc (.cells (opC 3 c s n p e t r b) 32)).alloc (.cells (opC 0 0 0 eN 0 0 0 0 false) 32)) (.cells (opC 3 c s eN 0 0 0 0 false) 32)
    rw [World.size_alloc, World.size_alloc] at this; exact this
  have HR0 : Hid ((((w.alloc (.cells (opC 3 c s n p e t r b) 32)).alloc (.cells (opC 0 0 0 eN 0 0 0 0 false) 32)).alloc (.cells (opC 3 c s eN 0 0 0 0 false) 32)).heap[w.heap.size + 1]? = some (.cells (opC 0 0 0 eN 0 0 0 0 false) 32 (0, 0))) := by
    have := alloc_blk (w.alloc (.cells (opC 3 c s n p e t r b) 32)) (.cells (opC 0 0 0 eN 0 0 0 0 false) 32)
    rw [World.size_alloc] at this; exact alloc_blk_old this _
  have HO : Hid ((((w.alloc (.cells (opC 3 c s n p e t r b) 32)).alloc (.cells (opC 0 0 0 eN 0 0 0 0 false) 32)).alloc (.cells (opC 3 c s eN 0 0 0 0 false) 32)).heap[w.heap.size]? = some (.cells (opC 3 c s n p e t r b) 32 (0, 0))) := alloc_blk_old (alloc_blk_old (alloc_blk _ _) _) _
  have hB3 : Below w.heap.size w (((w.alloc (.cells (opC 3 c s n p e t r b) 32)).alloc (.cells (opC 0 0 0 eN 0 0 0 0 false) 32)).alloc (.cells (opC 3 c s eN 0 0 0 0 false) 32)) := ((below_alloc _ _).alloc (by simp) _).alloc (by simp; omega) _
  unfold opC eN at HC0 HR0 HO hB3
  generalize (((w.alloc (.cells #[.int .i64 3, .int .i64 c, .int .i64 s, .string n, .int .i64 p, .int .i64 e, .int .i64 t, .int .i64 r, .bool b] 32)).alloc (.cells #[.int .i64 0, .int .i64 0, .int .i64 0, .string ⟨#[]⟩, .int .i64 0, .int .i64 0, .int .i64 0, .int .i64 0, .bool false] 32)).alloc (.cells #[.int .i64 3, .int .i64 c, .int .i64 s, .string ⟨#[]⟩, .int .i64 0, .int .i64 0, .int .i64 0, .int .i64 0, .bool false] 32)) = w3 at *
  let C : Bool → Bool → Bool → Bool → Array Value := fun a1 a2 a3 a4 => opC 3 c s eN (if a1 then p else 0) (if a2 then e else 0) (if a3 then t else 0) 0 (if a4 then b else false)
  refine wp_region_steps (by kernel_rfl) (by kernel_rfl) (fun xs => { tmps := (.agg #[.int .i64 3, .int .i64 c, .int .i64 s, .string n, .int .i64 p, .int .i64 e, .int .i64 t, .int .i64 r, .bool b] :: .pointer (some ⟨w.heap.size, 0, none⟩) :: .pointer (some ⟨w.heap.size + 1, 0, none⟩) :: .pointer (some ⟨w.heap.size + 2, 0, none⟩) :: .pointer (some ⟨w.heap.size, 0, none⟩) :: .int .i64 3 :: .pointer (some ⟨w.heap.size, 1, none⟩) :: .int .i64 c :: .pointer (some ⟨w.heap.size, 2, none⟩) :: .int .i64 s :: .agg #[.int .i64 3, .int .i64 c, .int .i64 s, .string ⟨#[]⟩, .int .i64 0, .int .i64 0, .int .i64 0, .int .i64 0, .bool false] :: .pointer (some ⟨w.heap.size, 0, none⟩) :: .int .i64 3 :: .bool false :: .bool false :: undef :: undef :: undef :: .bool false :: .bool false :: undef :: undef :: undef :: undef :: undef :: undef :: undef :: undef :: undef :: undef :: undef :: undef :: .bool true :: .bool true :: xs 0 :: xs 1 :: xs 2 :: xs 3 :: xs 4 :: xs 5 :: xs 6 :: xs 7 :: xs 8 :: xs 10 :: xs 12 :: xs 14 :: undef :: []).toArray, defers := [] })
    (StI (fun ii xx => match ii with | 0 => xx = .pointer (some ⟨w.heap.size, 4, none⟩) | 1 => xx = .int .i64 p | 2 => xx = .pointer (some ⟨w.heap.size, 5, none⟩) | 3 => xx = .int .i64 e | 4 => xx = .pointer (some ⟨w.heap.size, 6, none⟩) | 5 => xx = .int .i64 t | 6 => xx = .pointer (some ⟨w.heap.size, 8, none⟩) | 7 => xx = .bool b | 8 => xx = .pointer (some ⟨w.heap.size + 2, 4, none⟩) | 10 => xx = .pointer (some ⟨w.heap.size + 2, 5, none⟩) | 12 => xx = .pointer (some ⟨w.heap.size + 2, 6, none⟩) | 14 => xx = .pointer (some ⟨w.heap.size + 2, 8, none⟩) | _ => True) w3 (w.heap.size + 2) 32 C 9 11 13 15) (fun _ => undef) (by repeat (first | exact trivial | refine ⟨fun _ _ => rfl, ?_⟩)) (StI.start ((Below.refl _ _).drew) HC0.out) ⟨?_, ?_, ?_, ?_, ?_, ?_, ?_, ?_, ?_, ?_, ?_, ?_, ?_, ?_, ?_, ?_, trivial⟩ ?_
  · intro li xs W1 hI hli hp K hK
    rw [if_pos (wanted_none rfl _)]
    clear hp
    go_simp
    exact hK _ _ (hI.mark 0 _ rfl (by decide))
  · intro li xs W1 hI hli hp K hK
    rw [if_pos (wanted_none rfl _)]
    have h0 : xs 0 = .pointer (some ⟨w.heap.size, 4, none⟩) := hI.det 0 (hp.1 rfl)
    clear hp
    have hc : W1.cell? ⟨w.heap.size, 4, none⟩ = some (.int .i64 p) := (cell_blk (Below.blk hI.bel (by omega) HO.out) _).trans rfl
    simp only [h0] at hK ⊢
    clear h0
    go_simp
    exact hK _ _ (hI.mark 1 _ rfl (by decide))
  · intro li xs W1 hI hli hp K hK
    rw [if_pos (wanted_none rfl _)]
    clear hp
    go_simp
    exact hK _ _ (hI.mark 2 _ rfl (by decide))
  · intro li xs W1 hI hli hp K hK
    rw [if_pos (wanted_none rfl _)]
    have h2 : xs 2 = .pointer (some ⟨w.heap.size, 5, none⟩) := hI.det 2 (hp.1 rfl)
    clear hp
    have hc : W1.cell? ⟨w.heap.size, 5, none⟩ = some (.int .i64 e) := (cell_blk (Below.blk hI.bel (by omega) HO.out) _).trans rfl
    simp only [h2] at hK ⊢
    clear h2
    go_simp
    exact hK _ _ (hI.mark 3 _ rfl (by decide))
  · intro li xs W1 hI hli hp K hK
    rw [if_pos (wanted_none rfl _)]
    clear hp
    go_simp
    exact hK _ _ (hI.mark 4 _ rfl (by decide))
  · intro li xs W1 hI hli hp K hK
    rw [if_pos (wanted_none rfl _)]
    have h4 : xs 4 = .pointer (some ⟨w.heap.size, 6, none⟩) := hI.det 4 (hp.1 rfl)
    clear hp
    have hc : W1.cell? ⟨w.heap.size, 6, none⟩ = some (.int .i64 t) := (cell_blk (Below.blk hI.bel (by omega) HO.out) _).trans rfl
    simp only [h4] at hK ⊢
    clear h4
    go_simp
    exact hK _ _ (hI.mark 5 _ rfl (by decide))
  · intro li xs W1 hI hli hp K hK
    rw [if_pos (wanted_none rfl _)]
    clear hp
    go_simp
    exact hK _ _ (hI.mark 6 _ rfl (by decide))
  · intro li xs W1 hI hli hp K hK
    rw [if_pos (wanted_none rfl _)]
    have h6 : xs 6 = .pointer (some ⟨w.heap.size, 8, none⟩) := hI.det 6 (hp.1 rfl)
    clear hp
    have hc : W1.cell? ⟨w.heap.size, 8, none⟩ = some (.bool b) := (cell_blk (Below.blk hI.bel (by omega) HO.out) _).trans rfl
    simp only [h6] at hK ⊢
    clear h6
    go_simp
    exact hK _ _ (hI.mark 7 _ rfl (by decide))
  · intro li xs W1 hI hli hp K hK
    rw [if_pos (wanted_none rfl _)]
    clear hp
    go_simp
    exact hK _ _ (hI.mark 8 _ rfl (by decide))
  · intro li xs W1 hI hli hp K hK
    rw [if_pos (wanted_none rfl _)]
    have h1 : xs 1 = .int .i64 p := hI.det 1 (hp.2.1 rfl)
    have h8 : xs 8 = .pointer (some ⟨w.heap.size + 2, 4, none⟩) := hI.det 8 (hp.1 rfl)
    clear hp
    obtain ⟨old, hc⟩ := hI.there 4 (fun p q r s => by simp [C, opC])
    have hf := hI.fr 4
    simp only [h1, h8] at hK ⊢
    clear h1 h8
    go_simp
    exact hK undef _ (hI.put0 hli 4 (.int .i64 p) undef trivial (by decide) (fun p q r => by simp [C, opC]))
  · intro li xs W1 hI hli hp K hK
    rw [if_pos (wanted_none rfl _)]
    clear hp
    go_simp
    exact hK _ _ (hI.mark 10 _ rfl (by decide))
  · intro li xs W1 hI hli hp K hK
    rw [if_pos (wanted_none rfl _)]
    have h3 : xs 3 = .int .i64 e := hI.det 3 (hp.2.1 rfl)
    have h10 : xs 10 = .pointer (some ⟨w.heap.size + 2, 5, none⟩) := hI.det 10 (hp.1 rfl)
    clear hp
    obtain ⟨old, hc⟩ := hI.there 5 (fun p q r s => by simp [C, opC])
    have hf := hI.fr 5
    simp only [h3, h10] at hK ⊢
    clear h3 h10
    go_simp
    exact hK undef _ (hI.put1 hli 5 (.int .i64 e) undef trivial (by decide) (fun p q r => by simp [C, opC]))
  · intro li xs W1 hI hli hp K hK
    rw [if_pos (wanted_none rfl _)]
    clear hp
    go_simp
    exact hK _ _ (hI.mark 12 _ rfl (by decide))
  · intro li xs W1 hI hli hp K hK
    rw [if_pos (wanted_none rfl _)]
    have h5 : xs 5 = .int .i64 t := hI.det 5 (hp.2.1 rfl)
    have h12 : xs 12 = .pointer (some ⟨w.heap.size + 2, 6, none⟩) := hI.det 12 (hp.1 rfl)
    clear hp
    obtain ⟨old, hc⟩ := hI.there 6 (fun p q r s => by simp [C, opC])
    have hf := hI.fr 6
    simp only [h5, h12] at hK ⊢
    clear h5 h12
    go_simp
    exact hK undef _ (hI.put2 hli 6 (.int .i64 t) undef trivial (by decide) (fun p q r => by simp [C, opC]))
  · intro li xs W1 hI hli hp K hK
    rw [if_pos (wanted_none rfl _)]
    clear hp
    go_simp
    exact hK _ _ (hI.mark 14 _ rfl (by decide))
  · intro li xs W1 hI hli hp K hK
    rw [if_pos (wanted_none rfl _)]
    have h7 : xs 7 = .bool b := hI.det 7 (hp.2.1 rfl)
    have h14 : xs 14 = .pointer (some ⟨w.heap.size + 2, 8, none⟩) := hI.det 14 (hp.1 rfl)
    clear hp
    obtain ⟨old, hc⟩ := hI.there 8 (fun p q r s => by simp [C, opC])
    have hf := hI.fr 8
    simp only [h7, h14] at hK ⊢
    clear h7 h14
    go_simp
    exact hK undef _ (hI.put3 hli 8 (.bool b) undef trivial (by decide) (fun p q r => by simp [C, opC]))
  · intro li xs W1 hI hall
    have hb := hI.blk
    rw [hall 9 (by decide), hall 11 (by decide), hall 13 (by decide), hall 15 (by decide)] at hb
    have HB1 : Hid (W1.heap[w.heap.size + 2]? = some (.cells (opC 3 c s eN p e t 0 b) 32 (0, 0))) := hb
    have HR1 : Hid (W1.heap[w.heap.size + 1]? = some (.cells (opC 0 0 0 eN 0 0 0 0 false) 32 (0, 0))) := Below.blk hI.bel (by omega) HR0.out
    have hBf : Below w.heap.size w W1 := hB3.trans (hI.bel.mono (by omega))
    clear hI hb HC0 HR0 HO hB3
    go_wp2_with (first | (refine wpList_load_op rfl _ rfl (w.heap.size + 2) 3 c s eN p e t 0 b 32 (0, 0) ?_ ?_ ?_; rfl; exact HB1.out) | (refine wpList_store_op rfl _ _ rfl (w.heap.size + 1) 3 c s eN p e t 0 b (opC 0 0 0 eN 0 0 0 0 false) ?_ ?_ ?_ ?_ ?_; rfl; rfl; exact HR1.out; rfl))
    have HE := setRow_at HR1.out (opC 3 c s eN p e t 0 b)
    have e0 := fun j => cell_blk HE j
    unfold opC at e0
    refine bodyPost_ret (v := .agg (opC 3 c s eN p e t 0 b)) (by unfold opC; simp [results, Try.results67, go_sem, e0]) rfl ⟨rfl, ?_⟩
    exact below_setRow hBf (by omega) _
set_option maxRecDepth 10000 in
set_option maxHeartbeats 1000000 in
theorem named_any (k c s : Int) (n : ByteArray) (p e t r : Int) (b : Bool) (w : World) : Calls Try.prog 67 #[.agg (opC k c s n p e t r b)] w fun x w' => x = .returned (.agg (namedC k c s n p e t r b)) ∧ Below w.heap.size w w' := by
  by_cases h1 : k = 1
  · subst h1
    unfold opC
    go_enter Try.func67, Try.ntmps67
    go_wp2_with fail
    refine bodyPost_ret (v := .agg (namedC 1 c s n p e t r b)) (by simp [results, Try.results67, go_sem, namedC, opC]) rfl ⟨rfl, ?_⟩
    exact ((below_alloc _ _).alloc (by simp) _).alloc (by simp; omega) _
  · by_cases h2 : k = 2
    · subst h2
      exact named_2 c s n p e t r b w
    · by_cases h3 : k = 3
      · subst h3
        exact named_3 c s n p e t r b w
      · unfold opC
        go_enter Try.func67, Try.ntmps67
        go_wp2_with fail
        refine bodyPost_ret (v := .agg (namedC k c s n p e t r b)) (by simp [results, Try.results67, go_sem, namedC, opC, eN, h1, h2, h3]) rfl ⟨rfl, ?_⟩
        exact ((below_alloc _ _).alloc (by simp) _).alloc (by simp; omega) _
end Go.Proofs.Ytoihfhlelbdboab
