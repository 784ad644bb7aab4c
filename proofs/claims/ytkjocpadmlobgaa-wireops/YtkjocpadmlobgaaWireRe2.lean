/- The document's operations as bytes. -/
import Derived.Test.YtkjocpadmlobgaaWireX
import Derived.Test.YtkjocpadmlobgaaWireJ
import Derived.Test.YtkjocpadmlobgaaWireRm
import Derived.Test.YtkjocpadmlobgaaRefV
namespace Go.Proofs.Ytkjocpadmlobgaa
open Go.RowKit Go.Dig Go.Inv Go.Oct
set_option linter.unusedVariables false

def reoSpec (b base : Nat) (k c s : Int) (n : ByteArray) : Nat → Value → World → Prop
  | 0, y, _ => y = .pointer (some ⟨b, 0, none⟩)
  | 1, y, _ => y = .int .i64 k
  | 2, y, _ => y = .pointer (some ⟨b, 1, none⟩)
  | 3, y, _ => y = .int .i64 c
  | 4, y, _ => y = .pointer (some ⟨b, 2, none⟩)
  | 5, y, _ => y = .int .i64 s
  | 6, y, W => ∃ g, y = .slice (some ⟨g, 0, none⟩) 4 4 ∧ NumsAt W g 0 [2, k, c, s]
  | 7, y, W => OwnB W base y (nums [2, k, c, s])
  | 8, y, _ => y = .pointer (some ⟨b, 3, none⟩)
  | 9, y, _ => y = .string n
  | 10, y, W => ∃ g gc, y = .slice (some ⟨g, 0, none⟩) n.size gc ∧ Rowed W (some ⟨g, 0, none⟩) (byL n) gc
  | 11, y, W => OwnB W base y (num n.size ++ byL n)
  | _, _, _ => True
set_option maxRecDepth 10000 in
set_option maxHeartbeats 4000000 in
theorem rEncodeOp_any (k c s : Int) (n : ByteArray) (p e t r : Int) (b : Bool) (w : World) (ik : inI k) (ic : inI c) (is : inI s) (ip : inI p) (ie : inI e) (it : inI t) (ir : inI r) (hn : n.size < 1073741824) : Calls Try.prog 18 #[.agg (opC k c s n p e t r b)] w fun x w' => Enc (opB k c s n p e t r b) (encOp k c s n p e t r b) w w' x := by
  have HB1 : Hid (Below w.heap.size w (w.alloc (.cells (opC k c s n p e t r b) 42))) := below_alloc _ _
  have HA : Hid ((w.alloc (.cells (opC k c s n p e t r b) 42)).heap[w.heap.size]? = some (.cells (opC k c s n p e t r b) 42 (0, 0))) := alloc_blk _ _
  go_enter Try.func18, Try.ntmps18
  go_upto_region 1 with (refine wpList_box_row rfl 42 _ rfl _ rfl ?_)
  generalize w.alloc (.cells (opC k c s n p e t r b) 42) = w1 at *
  have hz1 : w.heap.size < w1.heap.size := lt_blk HA.out
  go_wp2_with (refine wpList_load_op rfl _ rfl w.heap.size k c s n p e t r b 42 (0, 0) ?_ ?_ ?_; rfl; exact HA.out)
  refine (rIsOp_any k c s n p e t r b w1 (by omega)).mono ?_
  rintro x w2 ⟨rfl, hB2⟩
  have HW2 : Hid (Below w.heap.size w w2) := HB1.out.trans (hB2.mono (by omega))
  have HA2 : Hid (w2.heap[w.heap.size]? = some (.cells (opC k c s n p e t r b) 42 (0, 0))) := (hB2.block _ hz1).trans HA.out
  have hlt : w.heap.size < w2.heap.size := lt_blk HA2.out
  clear hB2 HA HB1
  cases hob : opB k c s n p e t r b
  · have HE : Hid (Enc false (encOp k c s n p e t r b) w w2 (.returned (.tuple #[.slice none 0 0, .int .i64 1]))) := ⟨_, rfl, OwnB.nil _ _, HW2.out⟩
    go_wp2_with fail
    exact bodyPost_ret (v := .tuple #[.slice none 0 0, .int .i64 1]) (by simp [results, Try.results18, go_sem]) rfl (by rw [hob]; exact HE.out)
  have HOB : Hid (opB k c s n p e t r b = true) := hob
  clear hob
  go_upto_region 3 with fail
  refine wp_region_pivot (by kernel_rfl) (by kernel_rfl) 12 (by decide) (by kernel_rfl) (by kernel_rfl) (fun xs => { tmps := (.agg (opC k c s n p e t r b) :: .pointer (some ⟨w.heap.size, 0, none⟩) :: .slice none 0 0 :: .int .i64 0 :: xs 13 :: .agg (opC k c s n p e t r b) :: .bool true :: .bool false :: xs 0 :: xs 1 :: xs 2 :: xs 3 :: xs 4 :: xs 5 :: xs 6 :: xs 7 :: xs 8 :: xs 9 :: xs 10 :: xs 11 :: xs 12 :: undef :: undef :: undef :: undef :: undef :: undef :: undef :: undef :: undef :: undef :: undef :: undef :: undef :: undef :: undef :: undef :: undef :: undef :: undef :: undef :: []).toArray, defers := [] })
    (reoSpec w.heap.size w2.heap.size k c s n) (fun li xs W => Below w2.heap.size w2 W ∧ OwnB W w2.heap.size (xs 12) (nums [2, k, c, s] ++ (num n.size ++ byL n)) ∧ (li 13 = true → xs 13 = xs 12)) (fun _ => undef) (by repeat (first | exact trivial | refine ⟨fun _ _ => rfl, ?_⟩))
    (by
      intro i y w w' h hs
      unfold reoSpec at *
      split at hs <;> first | exact hs | exact trivial | exact OwnB.below hs h | (obtain ⟨g, gc, e, hl⟩ := hs; exact ⟨g, gc, e, hl.below h (Nat.le_refl _)⟩) | (obtain ⟨g, e, hl⟩ := hs; exact ⟨g, e, hl.below h⟩)) ⟨?_, ?_, ?_, ?_, ?_, ?_, ?_, ?_, ?_, ?_, ?_, ?_, ⟨rfl, ?_⟩, ?_, trivial⟩ ?_
  · intro xs W hB hp K hK
    rw [if_pos (wanted_none rfl _)]
    go_simp
    exact hK _ _ (Below.refl _ _) rfl
  · intro xs W hB hp K hK
    have h1 : xs 0 = .pointer (some ⟨w.heap.size, 0, none⟩) := hp.1 rfl
    have hc : W.cell? ⟨w.heap.size, 0, none⟩ = some (.int .i64 k) := (cell_blk ((hB.block _ hlt).trans HA2.out) _).trans rfl
    clear hp
    rw [if_pos (wanted_none rfl _)]
    simp only [h1] at hK ⊢
    go_simp
    exact hK _ _ (Below.refl _ _) rfl
  · intro xs W hB hp K hK
    rw [if_pos (wanted_none rfl _)]
    go_simp
    exact hK _ _ (Below.refl _ _) rfl
  · intro xs W hB hp K hK
    have h1 : xs 2 = .pointer (some ⟨w.heap.size, 1, none⟩) := hp.1 rfl
    have hc : W.cell? ⟨w.heap.size, 1, none⟩ = some (.int .i64 c) := (cell_blk ((hB.block _ hlt).trans HA2.out) _).trans rfl
    clear hp
    rw [if_pos (wanted_none rfl _)]
    simp only [h1] at hK ⊢
    go_simp
    exact hK _ _ (Below.refl _ _) rfl
  · intro xs W hB hp K hK
    rw [if_pos (wanted_none rfl _)]
    go_simp
    exact hK _ _ (Below.refl _ _) rfl
  · intro xs W hB hp K hK
    have h1 : xs 4 = .pointer (some ⟨w.heap.size, 2, none⟩) := hp.1 rfl
    have hc : W.cell? ⟨w.heap.size, 2, none⟩ = some (.int .i64 s) := (cell_blk ((hB.block _ hlt).trans HA2.out) _).trans rfl
    clear hp
    rw [if_pos (wanted_none rfl _)]
    simp only [h1] at hK ⊢
    go_simp
    exact hK _ _ (Below.refl _ _) rfl
  · intro xs W hB hp K hK
    have h1 : xs 1 = .int .i64 k := hp.1 rfl
    have h3 : xs 3 = .int .i64 c := hp.2.1 rfl
    have h5 : xs 5 = .int .i64 s := hp.2.2.1 rfl
    clear hp
    rw [if_pos (wanted_none rfl _)]
    simp only [h1, h3, h5] at hK ⊢
    go_simp
    exact hK _ _ (below_alloc _ _) ⟨_, rfl, numsAt_new _ _ _ _ _ _⟩
  · intro xs W hB hp K hK
    obtain ⟨g, h6, hn⟩ : ∃ g, xs 6 = .slice (some ⟨g, 0, none⟩) 4 4 ∧ NumsAt W g 0 [2, k, c, s] := hp.1 rfl
    clear hp
    rw [if_pos (wanted_none rfl _)]
    simp only [h6] at hK ⊢
    go_simp
    refine (rNums_any [2, k, c, s] g 0 4 W hn (i64_four (inI_lit (by decide) (by decide)) ik ic is) (by simp)).mono ?_
    rintro e w' ⟨v', rfl, hO, hB'⟩
    exact hK _ _ hB' (hO.mono hB.size)
  · intro xs W hB hp K hK
    rw [if_pos (wanted_none rfl _)]
    go_simp
    exact hK _ _ (Below.refl _ _) rfl
  · intro xs W hB hp K hK
    have h1 : xs 8 = .pointer (some ⟨w.heap.size, 3, none⟩) := hp.1 rfl
    have hc : W.cell? ⟨w.heap.size, 3, none⟩ = some (.string n) := (cell_blk ((hB.block _ hlt).trans HA2.out) _).trans rfl
    clear hp
    rw [if_pos (wanted_none rfl _)]
    simp only [h1] at hK ⊢
    go_simp
    exact hK _ _ (Below.refl _ _) rfl
  · intro xs W hB hp K hK
    have h9 : xs 9 = .string n := hp.1 rfl
    have hcv := run_bytes_of_string (P := Try.prog) W 9 22 5 n (by kernel_rfl) (by kernel_rfl) (by kernel_rfl)
    obtain ⟨gc, hgc⟩ : ∃ gc, grownCap W n.size 0 5 = gc := ⟨_, rfl⟩
    rw [hgc] at hcv
    have hBT := below_drew_alloc W (.cells (bytesRow n gc) 5 ((bytesRow n gc).size, (bytesRow n gc).size + 1))
    have HRT : Hid (Rowed (W.drew.alloc (.cells (bytesRow n gc) 5 ((bytesRow n gc).size, (bytesRow n gc).size + 1))) (some ⟨W.heap.size, 0, none⟩) (byL n) gc) := rowed_text W n _ _ gc
    clear hp hgc
    rw [if_pos (wanted_none rfl _)]
    simp only [h9] at hK ⊢
    clear h9
    go_simp
    exact hK _ _ hBT ⟨_, _, rfl, HRT.out⟩
  · intro xs W hB hp K hK
    obtain ⟨g, gc, h10, hr⟩ : ∃ g gc, xs 10 = .slice (some ⟨g, 0, none⟩) n.size gc ∧ Rowed W (some ⟨g, 0, none⟩) (byL n) gc := hp.1 rfl
    clear hp
    rw [if_pos (wanted_none rfl _)]
    simp only [h10] at hK ⊢
    have hb := rBytes_any (byL n) (some ⟨g, 0, none⟩) gc W hr (by rw [byL_length]; omega)
    rw [byL_length] at hb
    go_simp
    refine hb.mono ?_
    rintro e w' ⟨v', rfl, hO, hB'⟩
    exact hK _ _ hB' (hO.mono hB.size)
  · intro li xs W hB hsp hli K hK
    have h7 : OwnB W w2.heap.size (xs 7) (nums [2, k, c, s]) := hsp 7 (by decide)
    have h11 : OwnB W w2.heap.size (xs 11) (num n.size ++ byL n) := hsp 11 (by decide)
    obtain ⟨ao, cp, e11, hcp, hRo, -⟩ := OwnB.form2r h11
    have hne : num (n.size : Int) ++ byL n ≠ [] := by
      intro h
      exact num_ne _ (List.append_eq_nil_iff.1 h).1
    obtain ⟨gb, go, e1, hcl⟩ := hRo.at hne
    subst e1
    have hl1 := nums_length [2, k, c, s]
    have hl2 := num_length (n.size : Int)
    refine wp_app _ _ rfl w2.heap.size (xs 7) (nums [2, k, c, s]) rfl h7 ⟨gb, go, none⟩ (num (n.size : Int) ++ byL n).length cp (num (n.size : Int) ++ byL n) ?_ rfl (fun j hj => by rw [addr_add]; exact hcl j hj) ?_ hB.size ?_
    · exact e11
    · rw [List.length_append, byL_length]; simp only [List.length_cons, List.length_nil] at hl1; omega
    · intro v' w' hO hG
      refine hK _ _ ⟨hB.trans (hG.below hB.size (fun q hq => (h7.lt q hq).1)), ?_, fun h => ?_⟩
      · rw [upd_same]; exact hO
      · have := hli 13 (by decide)
        rw [upd_other _ _ (by decide)] at h
        rw [this] at h
        cases h
  · intro li xs W hI hli hp K hK
    rw [if_pos (wanted_none rfl _)]
    go_simp
    refine hK _ _ ⟨hI.1, ?_, fun _ => ?_⟩
    · rw [upd_other _ _ (by decide)]; exact hI.2.1
    · rw [upd_same, upd_other _ _ (by decide)]
  · intro li xs W hI hall
    have h13 := hI.2.2 (hall 13 (by simp))
    have HI : Hid (Below w2.heap.size w2 W ∧ OwnB W w2.heap.size (xs 12) (nums [2, k, c, s] ++ (num n.size ++ byL n))) := ⟨hI.1, hI.2.1⟩
    obtain ⟨x12, h12⟩ : ∃ x12, xs 12 = x12 := ⟨_, rfl⟩
    rw [h12] at HI h13
    simp only [h12, h13]
    clear h12 h13 hI hall
    have HA3 : Hid (W.heap[w.heap.size]? = some (.cells (opC k c s n p e t r b) 42 (0, 0))) := (HI.out.1.block _ hlt).trans HA2.out
    have hc4 : W.cell? ⟨w.heap.size, 4, none⟩ = some (.int .i64 p) := (cell_blk HA3.out _).trans rfl
    have hc5 : W.cell? ⟨w.heap.size, 5, none⟩ = some (.int .i64 e) := (cell_blk HA3.out _).trans rfl
    have hc6 : W.cell? ⟨w.heap.size, 6, none⟩ = some (.int .i64 t) := (cell_blk HA3.out _).trans rfl
    have hc7 : W.cell? ⟨w.heap.size, 7, none⟩ = some (.int .i64 r) := (cell_blk HA3.out _).trans rfl
    have HNA : Hid (NumsAt (W.alloc (.cells #[.int .i64 p, .int .i64 e, .int .i64 t, .int .i64 r] 3)) W.heap.size 0 [p, e, t, r]) := numsAt_new _ _ _ _ _ _
    have HW3 : Hid (Below w2.heap.size w2 (W.alloc (.cells #[.int .i64 p, .int .i64 e, .int .i64 t, .int .i64 r] 3))) := HI.out.1.alloc HI.out.1.size _
    have HO3 : Hid (OwnB (W.alloc (.cells #[.int .i64 p, .int .i64 e, .int .i64 t, .int .i64 r] 3)) w2.heap.size x12 (nums [2, k, c, s] ++ (num n.size ++ byL n))) := HI.out.2.alloc _
    go_wp2_with fail
    generalize xs 0 = y0; generalize xs 1 = y1; generalize xs 2 = y2; generalize xs 3 = y3; generalize xs 4 = y4; generalize xs 5 = y5; generalize xs 6 = y6; generalize xs 7 = y7; generalize xs 8 = y8; generalize xs 9 = y9; generalize xs 10 = y10; generalize xs 11 = y11
    generalize W.alloc (.cells #[.int .i64 p, .int .i64 e, .int .i64 t, .int .i64 r] 3) = w3 at *
    refine (rNums_any [p, e, t, r] W.heap.size 0 4 w3 HNA.out (i64_four ip ie it ir) (by simp)).mono ?_
    rintro x w4 ⟨v4, rfl, hO4, hB4⟩
    have HO4 : Hid (OwnB w4 w2.heap.size x12 (nums [2, k, c, s] ++ (num n.size ++ byL n))) := OwnB.below HO3.out hB4
    have HW4 : Hid (Below w2.heap.size w2 w4) := HW3.out.trans (hB4.mono HW3.out.size)
    obtain ⟨ao, cp, e4, hcp, hRo, -⟩ := OwnB.form2r hO4
    subst e4
    have HR4 : Hid (Rowed w4 ao (nums [p, e, t, r]) cp) := hRo
    have hl1 := nums_length [2, k, c, s]
    have hl2 := num_length (n.size : Int)
    have hl3 := nums_length [p, e, t, r]
    have HLN : Hid ((nums [2, k, c, s] ++ (num n.size ++ byL n)).length ≤ n.size + 100 ∧ (nums [p, e, t, r]).length ≤ 100) := by
      constructor
      · simp only [List.length_append, byL_length, List.length_cons, List.length_nil] at *; omega
      · simp only [List.length_cons, List.length_nil] at hl3; omega
    obtain ⟨l4, HL4⟩ : ∃ l4, Hid ((nums [p, e, t, r]).length = l4) := ⟨_, rfl⟩
    rw [HL4.out]
    have HA4 : Hid (w4.heap[w.heap.size]? = some (.cells (opC k c s n p e t r b) 42 (0, 0))) := (HW4.out.block _ hlt).trans HA2.out
    clear hO4 hB4 hcp hRo hl1 hl2 hl3 HO3 HW3 HNA hc4 hc5 hc6 hc7 HA3 HI
    go_wp2_with (at_builtin; refine wpList_app rfl _ _ rfl w2.heap.size x12 (nums [2, k, c, s] ++ (num n.size ++ byL n)) ?_ HO4.out ao l4 cp (nums [p, e, t, r]) ?_ HL4.out.symm HR4.out ?_ HW4.out.size ?_; rfl; rfl)
    case refine_3 => have := HLN.out; have := HL4.out; omega
    intro v5 w5 HO5 HG5
    have HW5 : Hid (Below w2.heap.size w2 w5) := HW4.out.trans (HG5.out.below HW4.out.size (fun q hq => (HO4.out.lt q hq).1))
    have HA5 : Hid (w5.heap[w.heap.size]? = some (.cells (opC k c s n p e t r b) 42 (0, 0))) := (HW5.out.block _ hlt).trans HA2.out
    have hc8 : w5.cell? ⟨w.heap.size, 8, none⟩ = some (.bool b) := (cell_blk HA5.out _).trans rfl
    have HOL : Hid ((nums [2, k, c, s] ++ (num n.size ++ (byL n ++ nums [p, e, t, r]))).length < 2199023255000) := by
      show _ < _
      have := HLN.out
      simp only [List.length_append] at *
      omega
    clear HO4 HG5 HW4 HA4 HR4
    obtain ⟨M, HM⟩ : ∃ M, Hid (nums [2, k, c, s] ++ (num n.size ++ (byL n ++ nums [p, e, t, r])) = M) := ⟨_, rfl⟩
    rw [HM.out] at HO5 HOL
    have hol := HOL.out
    cases b
    · have HO6 : Hid (OwnB (w5.alloc (.cells #[.int .u8 0] 5)) w2.heap.size v5 M) := HO5.out.alloc _
      have HW6 : Hid (Below w2.heap.size w2 (w5.alloc (.cells #[.int .u8 0] 5))) := HW5.out.alloc HW5.out.size _
      have HR6 : Hid (Rowed (w5.alloc (.cells #[.int .u8 0] 5)) (some ⟨w5.heap.size, 0, none⟩) [0] 1) := one_byte _ _ _ _
      go_wp2_with (at_builtin; refine wpList_app rfl _ _ rfl w2.heap.size v5 M ?_ HO6.out (some ⟨w5.heap.size, 0, none⟩) 1 1 [0] ?_ rfl HR6.out ?_ HW6.out.size ?_; rfl; rfl)
      case refine_3 => omega
      intro v6 w6 HO7 HG7
      have HW7 : Hid (Below w2.heap.size w2 w6) := HW6.out.trans (HG7.out.below HW6.out.size (fun q hq => (HO6.out.lt q hq).1))
      have HE : Hid (Enc true (encOp k c s n p e t r false) w w6 (.returned (.tuple #[v6, .int .i64 0]))) := by
        refine ⟨v6, rfl, ?_, HW2.out.trans (HW7.out.mono (by omega))⟩
        have hE : encOp k c s n p e t r false = M ++ [0] := by
          rw [← HM.out]
          unfold encOp
          simp only [nums_cons, nums_nil, List.append_nil, List.append_assoc, Bool.false_eq_true, if_false]
          rfl
        rw [if_pos rfl, hE]
        exact HO7.out.mono (by omega)
      clear HO7 HG7 HO6 HW6 HR6 HO5
      go_wp2_with fail
      exact bodyPost_ret (v := .tuple #[v6, .int .i64 0]) (by simp [results, Try.results18, go_sem]) rfl (by rw [HOB.out]; exact HE.out)
    · have HO6 : Hid (OwnB (w5.alloc (.cells #[.int .u8 1] 5)) w2.heap.size v5 M) := HO5.out.alloc _
      have HW6 : Hid (Below w2.heap.size w2 (w5.alloc (.cells #[.int .u8 1] 5))) := HW5.out.alloc HW5.out.size _
      have HR6 : Hid (Rowed (w5.alloc (.cells #[.int .u8 1] 5)) (some ⟨w5.heap.size, 0, none⟩) [1] 1) := one_byte _ _ _ _
      go_wp2_with (at_builtin; refine wpList_app rfl _ _ rfl w2.heap.size v5 M ?_ HO6.out (some ⟨w5.heap.size, 0, none⟩) 1 1 [1] ?_ rfl HR6.out ?_ HW6.out.size ?_; rfl; rfl)
      case refine_3 => omega
      intro v6 w6 HO7 HG7
      have HW7 : Hid (Below w2.heap.size w2 w6) := HW6.out.trans (HG7.out.below HW6.out.size (fun q hq => (HO6.out.lt q hq).1))
      have HE : Hid (Enc true (encOp k c s n p e t r true) w w6 (.returned (.tuple #[v6, .int .i64 0]))) := by
        refine ⟨v6, rfl, ?_, HW2.out.trans (HW7.out.mono (by omega))⟩
        have hE : encOp k c s n p e t r true = M ++ [1] := by
          rw [← HM.out]
          unfold encOp
          simp only [nums_cons, nums_nil, List.append_nil, List.append_assoc, if_true]
          rfl
        rw [if_pos rfl, hE]
        exact HO7.out.mono (by omega)
      clear HO7 HG7 HO6 HW6 HR6 HO5
      go_wp2_with fail
      exact bodyPost_ret (v := .tuple #[v6, .int .i64 0]) (by simp [results, Try.results18, go_sem]) rfl (by rw [HOB.out]; exact HE.out)
end Go.Proofs.Ytkjocpadmlobgaa
