/- wire: operations as bytes (EncodeOp). For names of up to 2^30 bytes. -/
import Derived.Test.YtoihfhlelbdboabWireI
import Derived.Test.YtoihfhlelbdboabCoJ
namespace Go.Proofs.Ytoihfhlelbdboab
open Go.RowKit Go.Dig Go.Inv Go.Oct

/-- a text's bytes -/
def byL (n : ByteArray) : List Int := n.data.toList.map fun b => (b.toNat : Int)
theorem byL_length (n : ByteArray) : (byL n).length = n.size := by simp [byL]
def encOp (k c s : Int) (n : ByteArray) (p e t r : Int) (b : Bool) : List Int := nums [2, k, c, s] ++ num n.size ++ byL n ++ nums [p, e, t, r, if b then 1 else 0]
set_option maxHeartbeats 400000 in
theorem asNumber_any (b : Bool) (w : World) : Calls Try.prog 47 #[.bool b] w fun x w' => x = .returned (.int .i64 (if b then 1 else 0)) ∧ w' = w := by
  cases b
  · go_enter Try.func47, Try.ntmps47
    go_wp2_with fail
    go_ret
    exact ⟨rfl, rfl⟩
  · go_enter Try.func47, Try.ntmps47
    go_wp2_with fail
    go_ret
    exact ⟨rfl, rfl⟩
theorem below_drew_alloc (w : World) (o : Obj) : Below w.heap.size w (w.drew.alloc o) := ⟨rfl, rfl, rfl, by show w.heap.size ≤ (w.heap.push o).size; simp, fun k hk => Below.heap_alloc w.drew o k hk⟩
theorem rowed_text (w : World) (n : ByteArray) (t : TypeId) (fr : Nat × Nat) (c : Nat) : Rowed (w.drew.alloc (.cells (bytesRow n c) t fr)) (some ⟨w.heap.size, 0, none⟩) (byL n) c := .inr ⟨_, rfl, fun j hj => by
  have hj' : j < n.data.size := by rw [byL_length] at hj; exact hj
  rw [addr_add, Nat.zero_add]
  have h := World.cell?_alloc_mark w.drew (bytesRow n c) t fr j
  refine h.trans ?_
  rw [bytesRow_at n c j hj']
  have : (byL n).getD j 0 = (n.data[j].toNat : Int) := by
    simp only [byL, List.getD, List.getElem?_map, Array.getElem?_toList]
    rw [Array.getElem?_eq_getElem hj']; rfl
  rw [this]⟩
theorem i64_fiveO {a b c d e : Int} (ha : inI a) (hb : inI b) (hc : inI c) (hd : inI d) (he : inI e) : I64 [a, b, c, d, e] := fun j hj => by
  match j, hj with
  | 0, _ => exact ha
  | 1, _ => exact hb
  | 2, _ => exact hc
  | 3, _ => exact hd
  | 4, _ => exact he
theorem Wri.below {w w' : World} {base g : Nat} {v : Value} {L : List Int} (h : Wri w base g v L) (hB : Below w.heap.size w w') : Wri w' base g v L := ⟨(hB.block g h.lt).trans h.blk, h.row.below hB, h.ne, h.lo⟩
def encOpSpec (g0 B : Nat) (p e t r : Int) (b : Bool) : Nat → Value → World → Prop
  | 0, y, _ => y = .pointer (some ⟨g0, 4, none⟩)
  | 1, y, _ => y = .int .i64 p
  | 2, y, _ => y = .pointer (some ⟨g0, 5, none⟩)
  | 3, y, _ => y = .int .i64 e
  | 4, y, _ => y = .pointer (some ⟨g0, 6, none⟩)
  | 5, y, _ => y = .int .i64 t
  | 6, y, _ => y = .pointer (some ⟨g0, 7, none⟩)
  | 7, y, _ => y = .int .i64 r
  | 8, y, _ => y = .pointer (some ⟨g0, 8, none⟩)
  | 9, y, _ => y = .bool b
  | 10, y, _ => y = .int .i64 (if b then 1 else 0)
  | 11, y, W => ∃ g, y = .slice (some ⟨g, 0, none⟩) 5 5 ∧ NumsAt W g 0 [p, e, t, r, (if b then 1 else 0)] ∧ B ≤ g
  | _, _, _ => True
theorem numsAt_fiveO (w : World) (a b c d e : Int) (t : TypeId) : NumsAt (w.alloc (.cells #[.int .i64 a, .int .i64 b, .int .i64 c, .int .i64 d, .int .i64 e] t)) w.heap.size 0 [a, b, c, d, e] := fun j hj => by
  rw [cell_blk (alloc_blk _ _), Nat.zero_add]
  match j, hj with
  | 0, _ => rfl
  | 1, _ => rfl
  | 2, _ => rfl
  | 3, _ => rfl
  | 4, _ => rfl
set_option maxRecDepth 10000 in
set_option maxHeartbeats 4000000 in
theorem encodeOp_any (k c s : Int) (n : ByteArray) (p e t r : Int) (b : Bool) (w : World) (ik : inI k) (ic : inI c) (is : inI s) (ip : inI p) (ie : inI e) (it : inI t) (ir : inI r) (hn : n.size < 1073741824) : Calls Try.prog 31 #[.agg (opC k c s n p e t r b)] w fun x w' => Enc (opB k c s n p e t r b) (encOp k c s n p e t r b) w w' x := by
  have hBm : Below w.heap.size w (w.alloc (.cells (opC k c s n p e t r b) 32)) := below_alloc _ _
  have HB0 : Hid ((w.alloc (.cells (opC k c s n p e t r b) 32)).heap[w.heap.size]? = some (.cells (opC k c s n p e t r b) 32 (0, 0))) := alloc_blk _ _
  cases hm : opB k c s n p e t r b
  · go_enter Try.func31, Try.ntmps31
    go_wp2_with (first | (refine wpList_box_row rfl 32 _ rfl _ ?_ ?_; rfl) | (refine wpList_load_op rfl _ rfl w.heap.size k c s n p e t r b 32 (0, 0) ?_ ?_ ?_; rfl; exact HB0.out))
    refine (opMayBe_any k c s n p e t r b _ (by omega)).mono ?_
    rintro x w1 ⟨rfl, hB1⟩
    have hB2 := hBm.trans (hB1.mono hBm.size)
    rw [hm]
    go_wp2_with fail
    refine bodyPost_ret (v := .tuple #[.slice none 0 0, .int .i64 1]) (by simp [results, Try.results31, go_sem]) rfl ?_
    exact ⟨_, rfl, OwnB.nil _ _, hB2⟩
  · go_enter Try.func31, Try.ntmps31
    go_wp2_with (first | (refine wpList_box_row rfl 32 _ rfl _ ?_ ?_; rfl) | (refine wpList_load_op rfl _ rfl w.heap.size k c s n p e t r b 32 (0, 0) ?_ ?_ ?_; rfl; exact HB0.out))
    refine (opMayBe_any k c s n p e t r b _ (by omega)).mono ?_
    rintro x w1 ⟨rfl, hB1⟩
    have hb1 : w1.heap[w.heap.size]? = some (.cells (opC k c s n p e t r b) 32 (0, 0)) := (hB1.block w.heap.size (by simp)).trans HB0.out
    have hB2 : Below w.heap.size w w1 := hBm.trans (hB1.mono hBm.size)
    have hs1 : w.heap.size < w1.heap.size := lt_blk hb1
    have hb2 := alloc_blk_old hb1 (.cells #[.slice none 0 0] 94)
    have hc0 : (w1.alloc (.cells #[.slice none 0 0] 94)).cell? ⟨w.heap.size, 0, none⟩ = some (.int .i64 k) := (cell_blk hb2 _).trans rfl
    have hc1 : (w1.alloc (.cells #[.slice none 0 0] 94)).cell? ⟨w.heap.size, 1, none⟩ = some (.int .i64 c) := (cell_blk hb2 _).trans rfl
    have hc2 : (w1.alloc (.cells #[.slice none 0 0] 94)).cell? ⟨w.heap.size, 2, none⟩ = some (.int .i64 s) := (cell_blk hb2 _).trans rfl
    have HB1 : Hid (w1.heap[w.heap.size]? = some (.cells (opC k c s n p e t r b) 32 (0, 0))) := hb1
    have HW := wri_new w1
    have hBw := below_alloc w1 (.cells #[.slice none 0 0] 94)
    rw [hm]
    clear hB1 hb1 hb2 hBm HB0
    go_wp2_with fail
    refine (wNums_new w1.heap.size w1.heap.size _ [] [2, k, c, s] (w1.heap.size + 1) 4 _ HW (by simp) ⟨inI_lit (by decide) (by decide), ik, ic, is, trivial⟩ (by simp)).mono ?_
    rintro x w2 ⟨rfl, v2, hw2, hr2⟩
    have hl2 := nums_length [2, k, c, s]
    have hB3 : Below w1.heap.size w1 w2 := hBw.trans (hr2.below (by simp) (Nat.le_refl _) (fun k hk => by cases hk))
    have hc3 : w2.cell? ⟨w.heap.size, 3, none⟩ = some (.string n) := (cell_blk (Below.blk hB3 hs1 HB1.out) _).trans rfl
    have HW2 : Hid (Wri w2 w1.heap.size w1.heap.size v2 (nums [2, k, c, s])) := hw2
    have hcv := run_bytes_of_string (P := Try.prog) w2 9 67 5 n (by kernel_rfl) (by kernel_rfl) (by kernel_rfl)
    obtain ⟨gc, hgc⟩ : ∃ gc, grownCap w2 n.size 0 5 = gc := ⟨_, rfl⟩
    rw [hgc] at hcv
    have hBT := below_drew_alloc w2 (.cells (bytesRow n gc) 5 ((bytesRow n gc).size, (bytesRow n gc).size + 1))
    have HRT : Hid (Rowed (w2.drew.alloc (.cells (bytesRow n gc) 5 ((bytesRow n gc).size, (bytesRow n gc).size + 1))) (some ⟨w2.heap.size, 0, none⟩) (byL n) gc) := rowed_text w2 n _ _ gc
    clear hc0 hc1 hc2 HW hr2 hw2 hBw hgc
    go_wp2_with fail
    rw [show w2.drew.alloc (.cells (bytesRow n gc) 5 ((bytesRow n gc).size, (bytesRow n gc).size + 1)) = (w2.alloc (.cells (bytesRow n gc) 5 ((bytesRow n gc).size, (bytesRow n gc).size + 1))).drew from rfl] at hBT HRT
    generalize (w2.alloc (.cells (bytesRow n gc) 5 ((bytesRow n gc).size, (bytesRow n gc).size + 1))).drew = w3 at *
    have ow2 : ∀ k, v2.ownBlock = some k → w1.heap.size ≤ k := fun k hk => (HW2.out.row.lt k hk).1
    have HW3 : Hid (Wri w3 w1.heap.size w1.heap.size v2 (nums [2, k, c, s])) := HW2.out.below hBT
    have hz2 : w1.heap.size < w2.heap.size := HW2.out.lt
    refine (layRowB_any w1.heap.size w1.heap.size v2 _ (byL n) (some ⟨w2.heap.size, 0, none⟩) n.size gc w3 HW3.out (byL_length n).symm HRT.out (fun _ ad e => by cases e; exact ⟨by simp; omega, fun e2 => by have := (HW2.out.row.lt _ e2).2; simp at this⟩) (by rw [byL_length]; simp at hl2; omega)).mono ?_
    rintro x w4 ⟨rfl, v4, hw4, hr4⟩
    have hB4 : Below w1.heap.size w1 w4 := (hB3.trans (hBT.mono hB3.size)).trans (hr4.below (Nat.le_trans hB3.size hBT.size) (Nat.le_refl _) ow2)
    have HB4 : Hid (w4.heap[w.heap.size]? = some (.cells (opC k c s n p e t r b) 32 (0, 0))) := Below.blk hB4 hs1 HB1.out
    have HW4 : Hid (Wri w4 w1.heap.size w1.heap.size v4 (nums [2, k, c, s] ++ num n.size ++ byL n)) := hw4
    have hln := num_length n.size
    have hl4 : (nums [2, k, c, s] ++ num n.size ++ byL n).length ≤ n.size + 64 := by simp only [List.length_append, byL_length]; simp at hl2; omega
    have hz4 : w.heap.size < w4.heap.size := lt_blk HB4.out
    have hz5 : w1.heap.size ≤ w4.heap.size := hB4.size
    obtain ⟨M, HMM⟩ : ∃ M, Hid (nums [2, k, c, s] ++ num n.size ++ byL n = M) := ⟨_, rfl⟩
    rw [HMM.out] at HW4 hl4
    clear hc3 hr4 hw4 HW2 HW3 hB3 ow2 hl2 hln hcv hBT HRT hz2
    go_wp2_with fail
    refine wp_region_pivot (by kernel_rfl) (by kernel_rfl) 12 (by decide) (by kernel_rfl) (by kernel_rfl) (fun xs => { tmps := (Value.agg (opC k c s n p e t r b) :: Value.pointer (some (⟨w.heap.size, 0, none⟩ : Addr)) :: Value.slice none 0 0 :: Value.int IntKind.i64 0 :: Value.pointer (some (⟨w1.heap.size, 0, none⟩ : Addr)) :: Value.agg (opC k c s n p e t r b) :: Value.bool true :: Value.bool false :: Value.pointer (some (⟨w.heap.size, 0, none⟩ : Addr)) :: Value.int IntKind.i64 k :: Value.pointer (some (⟨w.heap.size, 1, none⟩ : Addr)) :: Value.int IntKind.i64 c :: Value.pointer (some (⟨w.heap.size, 2, none⟩ : Addr)) :: Value.int IntKind.i64 s :: Value.slice (some (⟨w1.heap.size + 1, 0, none⟩ : Addr)) 4 4 :: Value.tuple #[] :: Value.pointer (some (⟨w.heap.size, 3, none⟩ : Addr)) :: Value.string n :: Value.slice (some (⟨w2.heap.size, 0, none⟩ : Addr)) n.size gc :: Value.tuple #[] :: xs 0 :: xs 1 :: xs 2 :: xs 3 :: xs 4 :: xs 5 :: xs 6 :: xs 7 :: xs 8 :: xs 9 :: xs 10 :: xs 11 :: xs 12 :: undef :: []).toArray, defers := [] })
      (encOpSpec w.heap.size w4.heap.size p e t r b) (fun _ _ W => ∃ v5, Wri W w1.heap.size w1.heap.size v5 (M ++ nums [p, e, t, r, (if b then 1 else 0)]) ∧ Below w1.heap.size w1 W) (fun _ => undef) (by repeat (first | exact trivial | refine ⟨fun _ _ => rfl, ?_⟩))
      (by
        intro i y w w' h hs
        unfold encOpSpec at *
        split at hs <;> first | exact hs | exact trivial | (obtain ⟨g, e, hl, hg⟩ := hs; exact ⟨g, e, hl.below h, hg⟩)) ⟨?_, ?_, ?_, ?_, ?_, ?_, ?_, ?_, ?_, ?_, ?_, ?_, ⟨rfl, ?_⟩, trivial⟩ ?_
    · intro xs W hB hp K hK
      rw [if_pos (wanted_none rfl _)]
      go_simp
      exact hK _ _ (Below.refl _ _) rfl
    · intro xs W hB hp K hK
      rw [if_pos (wanted_none rfl _)]
      have h1 : xs 0 = .pointer (some ⟨w.heap.size, 4, none⟩) := hp.1 rfl
      have hc : W.cell? ⟨w.heap.size, 4, none⟩ = some (.int .i64 p) := (cell_blk ((hB.block _ hz4).trans HB4.out) _).trans rfl
      clear hp
      simp only [h1] at hK ⊢
      go_simp
      exact hK _ _ (Below.refl _ _) rfl
    · intro xs W hB hp K hK
      rw [if_pos (wanted_none rfl _)]
      go_simp
      exact hK _ _ (Below.refl _ _) rfl
    · intro xs W hB hp K hK
      rw [if_pos (wanted_none rfl _)]
      have h1 : xs 2 = .pointer (some ⟨w.heap.size, 5, none⟩) := hp.1 rfl
      have hc : W.cell? ⟨w.heap.size, 5, none⟩ = some (.int .i64 e) := (cell_blk ((hB.block _ hz4).trans HB4.out) _).trans rfl
      clear hp
      simp only [h1] at hK ⊢
      go_simp
      exact hK _ _ (Below.refl _ _) rfl
    · intro xs W hB hp K hK
      rw [if_pos (wanted_none rfl _)]
      go_simp
      exact hK _ _ (Below.refl _ _) rfl
    · intro xs W hB hp K hK
      rw [if_pos (wanted_none rfl _)]
      have h1 : xs 4 = .pointer (some ⟨w.heap.size, 6, none⟩) := hp.1 rfl
      have hc : W.cell? ⟨w.heap.size, 6, none⟩ = some (.int .i64 t) := (cell_blk ((hB.block _ hz4).trans HB4.out) _).trans rfl
      clear hp
      simp only [h1] at hK ⊢
      go_simp
      exact hK _ _ (Below.refl _ _) rfl
    · intro xs W hB hp K hK
      rw [if_pos (wanted_none rfl _)]
      go_simp
      exact hK _ _ (Below.refl _ _) rfl
    · intro xs W hB hp K hK
      rw [if_pos (wanted_none rfl _)]
      have h1 : xs 6 = .pointer (some ⟨w.heap.size, 7, none⟩) := hp.1 rfl
      have hc : W.cell? ⟨w.heap.size, 7, none⟩ = some (.int .i64 r) := (cell_blk ((hB.block _ hz4).trans HB4.out) _).trans rfl
      clear hp
      simp only [h1] at hK ⊢
      go_simp
      exact hK _ _ (Below.refl _ _) rfl
    · intro xs W hB hp K hK
      rw [if_pos (wanted_none rfl _)]
      go_simp
      exact hK _ _ (Below.refl _ _) rfl
    · intro xs W hB hp K hK
      rw [if_pos (wanted_none rfl _)]
      have h1 : xs 8 = .pointer (some ⟨w.heap.size, 8, none⟩) := hp.1 rfl
      have hc : W.cell? ⟨w.heap.size, 8, none⟩ = some (.bool b) := (cell_blk ((hB.block _ hz4).trans HB4.out) _).trans rfl
      clear hp
      simp only [h1] at hK ⊢
      go_simp
      exact hK _ _ (Below.refl _ _) rfl
    · intro xs W hB hp K hK
      rw [if_pos (wanted_none rfl _)]
      have h1 : xs 9 = .bool b := hp.1 rfl
      clear hp
      simp only [h1] at hK ⊢
      go_simp
      refine (asNumber_any b W).mono ?_
      rintro x w' ⟨rfl, rfl⟩
      exact hK _ _ (Below.refl _ _) rfl
    · intro xs W hB hp K hK
      rw [if_pos (wanted_none rfl _)]
      have h1 : xs 1 = .int .i64 p := hp.1 rfl
      have h3 : xs 3 = .int .i64 e := hp.2.1 rfl
      have h5 : xs 5 = .int .i64 t := hp.2.2.1 rfl
      have h7 : xs 7 = .int .i64 r := hp.2.2.2.1 rfl
      have h10 : xs 10 = .int .i64 (if b then 1 else 0) := hp.2.2.2.2.1 rfl
      clear hp
      simp only [h1, h3, h5, h7, h10] at hK ⊢
      clear h1 h3 h5 h7 h10
      obtain ⟨nb, HNB⟩ : ∃ nb : Int, Hid (nb = (if b then 1 else 0)) := ⟨_, rfl⟩
      simp only [← HNB.out] at hK ⊢
      go_simp
      refine hK _ _ (below_alloc _ _) ⟨_, rfl, ?_, hB.size⟩
      rw [← HNB.out]
      exact numsAt_fiveO _ _ _ _ _ _ _
    · intro li xs W hB hs hli K hK
      obtain ⟨g, h11, hn11, hg11⟩ : ∃ g, xs 11 = .slice (some ⟨g, 0, none⟩) 5 5 ∧ NumsAt W g 0 [p, e, t, r, (if b then 1 else 0)] ∧ w4.heap.size ≤ g := hs 11 (by decide)
      have hWW : Wri W w1.heap.size w1.heap.size v4 M := HW4.out.below hB
      clear hs hli
      simp only [h11] at hK ⊢
      clear h11
      go_simp
      have hlt := HW4.out.lt
      refine (wNums_any w1.heap.size w1.heap.size v4 M [p, e, t, r, (if b then 1 else 0)] g 0 5 W hWW hn11 (i64_fiveO ip ie it ir (by cases b <;> exact inI_lit (by decide) (by decide))) (by omega) (fun e2 => by have := (HW4.out.row.lt _ e2).2; omega) (by simp; omega)).mono ?_
      rintro x w5 ⟨rfl, v5, hw5, hr5⟩
      exact hK _ _ ⟨v5, hw5, (hB4.trans (hB.mono hz5)).trans (hr5.below (Nat.le_trans hz5 hB.size) (Nat.le_refl _) (fun k hk => (HW4.out.row.lt k hk).1))⟩
    · rintro li xs W ⟨v5, hw5, hB5⟩ hall
      have HW5 : Hid (Wri W w1.heap.size w1.heap.size v5 (encOp k c s n p e t r b)) := by
        show Wri _ _ _ _ _
        unfold encOp
        rw [HMM.out]; exact hw5
      have hl5 : (encOp k c s n p e t r b).length ≤ n.size + 200 := by
        have h1 := nums_length [p, e, t, r, (if b then 1 else 0)]
        have : encOp k c s n p e t r b = M ++ nums [p, e, t, r, (if b then 1 else 0)] := by unfold encOp; rw [HMM.out]
        rw [this, List.length_append]
        simp at h1
        omega
      generalize xs 0 = x0
      generalize xs 1 = x1
      generalize xs 2 = x2
      generalize xs 3 = x3
      generalize xs 4 = x4
      generalize xs 5 = x5
      generalize xs 6 = x6
      generalize xs 7 = x7
      generalize xs 8 = x8
      generalize xs 9 = x9
      generalize xs 10 = x10
      generalize xs 11 = x11
      generalize xs 12 = x12
      clear hall hw5 HW4 HB4 hB4
      go_wp2_with fail
      refine (wOut_any _ _ _ _ _ HW5.out (by omega)).mono ?_
      rintro x w6 ⟨v6, rfl, hO6, hB7⟩
      obtain ⟨ao, n6, c6, rfl, -⟩ := hO6.form
      have hB8 : Below w.heap.size w W := hB2.trans (hB5.mono (Nat.le_of_lt hs1))
      have hO : OwnB w6 w.heap.size (.slice ao n6 c6) (encOp k c s n p e t r b) := hO6.mono hB8.size
      have hB9 : Below w.heap.size w w6 := hB8.trans (hB7.mono hB8.size)
      clear hO6 hB7 hB8 HW5
      go_wp2_with fail
      refine bodyPost_ret (v := .tuple #[.slice ao n6 c6, .int .i64 0]) (by simp [results, Try.results31, go_sem]) rfl ?_
      exact ⟨_, rfl, hO, hB9⟩
set_option maxRecDepth 10000 in
set_option maxHeartbeats 1000000 in
/-- one that may not be, however long its name is -/
theorem encodeOp_bad (k c s : Int) (n : ByteArray) (p e t r : Int) (b : Bool) (w : World) (hn : n.size < 9223372036854775808) (hm : opB k c s n p e t r b = false) : Calls Try.prog 31 #[.agg (opC k c s n p e t r b)] w fun x w' => Enc (opB k c s n p e t r b) (encOp k c s n p e t r b) w w' x := by
  have hBm : Below w.heap.size w (w.alloc (.cells (opC k c s n p e t r b) 32)) := below_alloc _ _
  have HB0 : Hid ((w.alloc (.cells (opC k c s n p e t r b) 32)).heap[w.heap.size]? = some (.cells (opC k c s n p e t r b) 32 (0, 0))) := alloc_blk _ _
  rw [hm]
  go_enter Try.func31, Try.ntmps31
  go_wp2_with (first | (refine wpList_box_row rfl 32 _ rfl _ ?_ ?_; rfl) | (refine wpList_load_op rfl _ rfl w.heap.size k c s n p e t r b 32 (0, 0) ?_ ?_ ?_; rfl; exact HB0.out))
  refine (opMayBe_any k c s n p e t r b _ hn).mono ?_
  rintro x w1 ⟨rfl, hB1⟩
  have hB2 := hBm.trans (hB1.mono hBm.size)
  rw [hm]
  go_wp2_with fail
  refine bodyPost_ret (v := .tuple #[.slice none 0 0, .int .i64 1]) (by simp [results, Try.results31, go_sem]) rfl ?_
  exact ⟨_, rfl, OwnB.nil _ _, hB2⟩
end Go.Proofs.Ytoihfhlelbdboab
