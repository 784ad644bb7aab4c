/- The reference's Mac, for keys of up to sixty-four bytes and up to 2^38 bytes. -/
import Derived.Test.YticpkpphjpgdbaaWireC
import Derived.Test.YticpkpphjpgdbaaRefC
import Derived.Test.YticpkpphjpgdbaaDigH
namespace Go.Proofs.Yticpkpphjpgdbaa
open Go.RowKit Go.Dig Go.Sha Go.Inv

section
variable {ops : Array Oper} {rest : List Oper} {o : Oper} {a : Act} {w : World} {Q : Exit → Act → World → Prop}
theorem Keeps.of_grown {w w' : World} {g : Nat} (h : w.grownBy w' (some g)) : Keeps g w w' := ⟨h.os, h.tape, h.output, h.size, fun k hk hb => h.block k hk (fun e => hb (by cases e; rfl))⟩
/-- such a slice is appended to bytes that the call owns: no other block turns -/
theorem wpList_appK (hgd : o.guard = none) (s x : Operand) (ho : o.op = .call { callee := .builtin .append, args := #[s, x], argTypes := #[22, 22] }) (base g n cp : Nat) (M : List Int) (hs : a.eval s = .slice (some ⟨g, 0, none⟩) n cp) (hown : w.ownsRow base 5 1 (.slice (some ⟨g, 0, none⟩) n cp) n (M.map (Value.int .u8)))
    (ao : Option Addr) (m c : Nat) (N : List Int) (hx : a.eval x = .slice ao m c) (hm : m = N.length) (hN : Rowed w ao N c) (hb : n + m < 2199023255552) (hbase : base ≤ w.heap.size)
    (h : ∀ v' w', Hid (w'.ownsRow base 5 1 v' (n + m) ((M ++ N).map (Value.int .u8))) → Keeps g w w' → wpList Try.prog ops Q rest (a.put o.dst v') w') : wpList Try.prog ops Q (o :: rest) a w := by
  obtain ⟨i8, hi, hz0, hz1, hz2⟩ := info_parts info_u8
  rcases hN with ⟨rfl, rfl, rfl⟩ | ⟨ad, rfl, hc⟩
  · subst hm
    have hrun := run_append_owned_none (P := Try.prog) w base 22 o.type 5 i8 1 (by kernel_rfl) hi _ n (M.map (Value.int .u8)) hown
    refine wpList_plain hgd fun K hK' => ?_
    unfold Oper.wp
    simp [execOp, ho, resolve, invoke, builtin, hs, hx, hrun, Result.andThen]
    exact hK' _ _ (h _ w (by rw [List.append_nil]; exact hown) (Keeps.refl _ _))
  · refine wpList_append_own w hgd s x 22 ho base 5 i8 (.int .u8 0) 1 1 (by kernel_rfl) hi hz0 hz1 hz2 rfl (by omega) _ n _ hs hown ad m c (N.map (Value.int .u8)) hx (by simp [hm]) (fun j u hu => ?_) (ints_oneCell _ _) (by unfold maxLen; omega) (by omega) hbase (fun v' w' h1 h2 _ => ?_)
    · have hj : j < N.length := by have := (List.getElem?_eq_some_iff.1 hu).1; simpa using this
      rw [hc j hj, ← hu, List.getElem?_map, List.getD, List.getElem?_eq_getElem hj]; rfl
    · exact h v' w' (by rw [List.map_append]; exact h1) (Keeps.of_grown h2)
theorem wp_make_num {K : Act → World → Prop} (l c : Operand) (hop : o.op = .makeSlice 22 l c) (kl kc : IntKind) (L C : Int) (n : Nat) (hl : a.eval l = .int kl L) (hc : a.eval c = .int kc C) (hL : L = (n : Int)) (hC : C = (n : Int)) (hm : n < 1099511627776)
    (h : K (a.put o.dst (.slice (some ⟨w.heap.size, 0, none⟩) n n)) (w.alloc (.cells (row .u8 n (fun _ => 0)) 5))) : o.wp Try.prog a w K Q := by
  obtain ⟨i8, hi, hz0, hz1, hz2⟩ := info_parts info_u8
  subst hL; subst hC
  have hr := run_make (P := Try.prog) w 22 5 i8 (.int .u8 0) (by kernel_rfl) hi hz0 kl kc (n : Int) (n : Int) (by omega) (by omega) (by rw [hz2]; omega) (by omega)
  simp only [Int.toNat_natCast, hz1, Nat.mul_one, Value.cells, made_row] at hr
  unfold Oper.wp
  simp [execOp, hop, hl, hc, hr, Result.andThen]
  exact h
end
/-- two rows are made, in whatever order -/
structure MkI (w0 : World) (li : Nat → Bool) (xs : Nat → Value) (W : World) : Prop where
  bel : Below w0.heap.size w0 W
  a0 : li 0 = true → ∃ g, xs 0 = .slice (some ⟨g, 0, none⟩) 64 64 ∧ w0.heap.size ≤ g ∧ W.heap[g]? = some (.cells (row .u8 64 (fun _ => 0)) 5 (0, 0))
  a1 : li 1 = true → ∃ g, xs 1 = .slice (some ⟨g, 0, none⟩) 64 64 ∧ w0.heap.size ≤ g ∧ W.heap[g]? = some (.cells (row .u8 64 (fun _ => 0)) 5 (0, 0))
  ne : li 0 = true → li 1 = true → xs 0 ≠ xs 1
  c2 : li 2 = true → li 0 = true ∧ xs 2 = xs 0
  c3 : li 3 = true → li 1 = true ∧ xs 3 = xs 1
section
variable {w0 : World} {li : Nat → Bool} {xs : Nat → Value} {W : World}
theorem MkI.start (hB : Below w0.heap.size w0 W) : MkI w0 (fun _ => false) xs W := ⟨hB, (fun e => by cases e), (fun e => by cases e), (fun e => by cases e), (fun e => by cases e), (fun e => by cases e)⟩
theorem MkI.s0 (h : MkI w0 li xs W) (h0 : li 0 = false) : MkI w0 (upd li 0 true) (upd xs 0 (.slice (some ⟨W.heap.size, 0, none⟩) 64 64)) (W.alloc (.cells (row .u8 64 (fun _ => 0)) 5)) :=
  ⟨h.bel.alloc h.bel.size _, fun _ => ⟨W.heap.size, rfl, h.bel.size, alloc_blk _ _⟩, (fun e => by obtain ⟨g, a, b, c⟩ := h.a1 e; exact ⟨g, a, b, alloc_blk_old c _⟩),
   (fun _ e => by
     obtain ⟨g, a, b, c⟩ := h.a1 e
     show Value.slice _ _ _ ≠ xs 1
     rw [a]; intro e'; have := lt_blk c; simp at e' <;> omega),
   (fun e => by have := (h.c2 e).1; rw [h0] at this; cases this), h.c3⟩
theorem MkI.s1 (h : MkI w0 li xs W) (h1 : li 1 = false) : MkI w0 (upd li 1 true) (upd xs 1 (.slice (some ⟨W.heap.size, 0, none⟩) 64 64)) (W.alloc (.cells (row .u8 64 (fun _ => 0)) 5)) :=
  ⟨h.bel.alloc h.bel.size _, (fun e => by obtain ⟨g, a, b, c⟩ := h.a0 e; exact ⟨g, a, b, alloc_blk_old c _⟩), fun _ => ⟨W.heap.size, rfl, h.bel.size, alloc_blk _ _⟩,
   (fun e _ => by
     obtain ⟨g, a, b, c⟩ := h.a0 e
     show xs 0 ≠ Value.slice _ _ _
     rw [a]; intro e'; have := lt_blk c; simp at e' <;> omega),
   h.c2, (fun e => by have := (h.c3 e).1; rw [h1] at this; cases this)⟩
theorem MkI.s2 (h : MkI w0 li xs W) (h0 : li 0 = true) : MkI w0 (upd li 2 true) (upd xs 2 (xs 0)) W := ⟨h.bel, h.a0, h.a1, h.ne, fun _ => ⟨h0, rfl⟩, h.c3⟩
theorem MkI.s3 (h : MkI w0 li xs W) (h1 : li 1 = true) : MkI w0 (upd li 3 true) (upd xs 3 (xs 1)) W := ⟨h.bel, h.a0, h.a1, h.ne, h.c2, fun _ => ⟨h1, rfl⟩⟩
end

set_option maxRecDepth 10000 in
set_option maxHeartbeats 1000000 in
theorem rMac_any (K P : List Int) (b o kc : Nat) (ao : Option Addr) (cap : Nat) (w : World) (hk : ∀ j, j < K.length → w.cell? ⟨b, o + j, none⟩ = some (.int .u8 (K.getD j 0))) (hb : b < w.heap.size) (h64 : K.length ≤ 64) (hl : Rowed w ao P cap) (hz : P.length < 274877906944) :
    Calls Try.prog 45 #[.slice (some ⟨b, o, none⟩) K.length kc, .slice ao P.length cap] w fun e w' => e = .returned (.agg (row .u8 32 (mac K P))) ∧ Below w.heap.size w w' := by
  have HZ : Hid ((Try.prog.info? 30).map (·.zero) = some (some (.agg (row .u8 32 (fun _ => 0))))) := zero_hash
  have HK : Hid (∀ j, j < K.length → w.cell? ⟨b, o + j, none⟩ = some (.int .u8 (K.getD j 0))) := hk
  have HL : Hid (Rowed w ao P cap) := hl
  have hsl := slice_hash
  have hA := alloc_blk w (.cells (row .u8 32 (fun _ => 0)) 30)
  have hBw := below_alloc w (.cells (row .u8 32 (fun _ => 0)) 30)
  have hs0 : (w.alloc (.cells (row .u8 32 (fun _ => 0)) 30)).heap.size = w.heap.size + 1 := World.size_alloc _ _
  clear hk hl
  go_enter Try.func45, Try.ntmps45
  go_wp2_with (first | refine wpList_alloc_row rfl 30 rfl _ HZ.out ?_ | fail)
  generalize w.alloc (.cells (row .u8 32 (fun _ => 0)) 30) = w1 at *
  have HA : Hid (w1.heap[w.heap.size]? = some (.cells (row .u8 32 (fun _ => 0)) 30 (0, 0))) := hA
  clear hA
  generalize Value.bool (decide (64 < (K.length : Int))) = dk
  refine wp_region_steps (by kernel_rfl) (by kernel_rfl) (fun xs => { tmps := (.slice (some ⟨b, o, none⟩) K.length kc :: .slice ao P.length cap :: undef :: undef :: .pointer (some ⟨w.heap.size, 0, none⟩) :: undef :: xs 2 :: xs 3 :: undef :: undef :: undef :: .slice (some ⟨b, o, none⟩) K.length kc :: .int .i64 (K.length : Int) :: dk :: undef :: undef :: undef :: xs 0 :: xs 1 :: undef :: undef :: undef :: undef :: undef :: undef :: undef :: undef :: undef :: undef :: undef :: undef :: undef :: undef :: undef :: undef :: undef :: undef :: undef :: undef :: undef :: undef :: undef :: undef :: undef :: undef :: undef :: undef :: undef :: undef :: []).toArray, defers := [] })
    (MkI w1) (fun _ => undef) (by repeat (first | exact trivial | refine ⟨fun _ _ => rfl, ?_⟩)) (MkI.start (Below.refl _ _).drew) ⟨?_, ?_, ?_, ?_, trivial⟩ ?_
  · intro li xs Wl hI hli hp K' hK
    rw [if_pos (wanted_none rfl _)]
    exact wp_make_num _ _ rfl .i64 .i64 _ _ 64 rfl rfl rfl rfl (by omega) (hK _ _ (hI.s0 hli))
  · intro li xs Wl hI hli hp K' hK
    rw [if_pos (wanted_none rfl _)]
    exact wp_make_num _ _ rfl .i64 .i64 _ _ 64 rfl rfl rfl rfl (by omega) (hK _ _ (hI.s1 hli))
  · intro li xs Wl hI hli hp K' hK
    have l0 : li 0 = true := hp.1 rfl
    clear hp
    rw [if_pos (wanted_none rfl _)]
    go_simp
    exact hK _ _ (hI.s2 l0)
  · intro li xs Wl hI hli hp K' hK
    have l1 : li 1 = true := hp.1 rfl
    clear hp
    rw [if_pos (wanted_none rfl _)]
    go_simp
    exact hK _ _ (hI.s3 l1)
  · intro li xs W2 hI hall
    obtain ⟨ga, h0, hga, hba⟩ := hI.a0 (hall 0 (by simp))
    obtain ⟨gb, h1, hgb, hbb⟩ := hI.a1 (hall 1 (by simp))
    have hne := hI.ne (hall 0 (by simp)) (hall 1 (by simp))
    have h2 := (hI.c2 (hall 2 (by simp))).2
    have h3 := (hI.c3 (hall 3 (by simp))).2
    have hgn : ga ≠ gb := fun e => hne (by rw [h0, h1, e])
    have hB2 : Below w.heap.size w W2 := hBw.trans (hI.bel.mono hBw.size)
    have HR2 : Hid (W2.heap[w.heap.size]? = some (.cells (row .u8 32 (fun _ => 0)) 30 (0, 0))) := Below.blk hI.bel (lt_blk HA.out) HA.out
    have HA2 : Hid (W2.heap[ga]? = some (.cells (row .u8 64 (upTo 0 (xorB (keyF K) 92))) 5 (0, 0))) := hba
    have HB2 : Hid (W2.heap[gb]? = some (.cells (row .u8 64 (upTo 0 (xorB (keyF K) 54))) 5 (0, 0))) := hbb
    simp only [h2, h3, h0, h1]
    clear h0 h1 h2 h3 hI hall hne hba hbb HA
    go_wp2_with fail
    go_loopw [8] (fun i wr => ∃ k : Nat, k ≤ 64 ∧ i = .int .i64 (k : Int) ∧ Below w.heap.size w wr ∧ Hid (wr.heap[w.heap.size]? = some (.cells (row .u8 32 (fun _ => 0)) 30 (0, 0))) ∧ Hid (wr.heap[ga]? = some (.cells (row .u8 64 (upTo k (xorB (keyF K) 92))) 5 (0, 0))) ∧ Hid (wr.heap[gb]? = some (.cells (row .u8 64 (upTo k (xorB (keyF K) 54))) 5 (0, 0)))) (fun i _ => 64 - (intOf i).toNat)
    case atStart => exact ⟨0, by omega, rfl, hB2, HR2, HA2, HB2⟩
    case round =>
      clear hB2 HR2 HA2 HB2
      obtain ⟨k, hk, rfl, hB, HR, HA, HB⟩ := hrel
      by_cases hlt : k < 64
      · have ca : wr.cell? ⟨ga, k, none⟩ = some (.int .u8 (upTo k (xorB (keyF K) 92) k)) := (cell_blk HA.out k).trans (row_get hlt)
        have cb : wr.cell? ⟨gb, k, none⟩ = some (.int .u8 (upTo k (xorB (keyF K) 54) k)) := (cell_blk HB.out k).trans (row_get hlt)
        have fa := frozen_blk HA.out k
        have fb := frozen_blk HB.out k
        have hgn' : ¬ gb = ga := fun e => hgn e.symm
        have HP : Hid (∀ x : Int, x = keyF K k → (((wr.setCell ⟨ga, k, none⟩ (.int .u8 (bits .xor .u8 x 92))).setCell ⟨gb, k, none⟩ (.int .u8 (bits .xor .u8 x 54))).heap[ga]? = some (.cells (row .u8 64 (upTo (k + 1) (xorB (keyF K) 92))) 5 (0, 0)) ∧ ((wr.setCell ⟨ga, k, none⟩ (.int .u8 (bits .xor .u8 x 92))).setCell ⟨gb, k, none⟩ (.int .u8 (bits .xor .u8 x 54))).heap[gb]? = some (.cells (row .u8 64 (upTo (k + 1) (xorB (keyF K) 54))) 5 (0, 0)))) := fun x hx => by
          subst hx
          constructor
          · rw [set_blk_other _ _ hgn, set_blk_row HA.out]
            have := upTo_put k (xorB (keyF K) 92)
            unfold xorB at this ⊢; rw [this]
          · rw [set_blk_row ((set_blk_other _ _ (Ne.symm hgn)).trans HB.out)]
            have := upTo_put k (xorB (keyF K) 54)
            unfold xorB at this ⊢; rw [this]
        by_cases hkl : k < K.length
        · have ck : wr.cell? ⟨b, o + k, none⟩ = some (.int .u8 (keyF K k)) := (hB.cell (p := ⟨b, _, none⟩) hb).trans (HK.out k hkl)
          go_wp2_with fail
          exact ⟨⟨k + 1, by omega, by go_num, (hB.setCell (p := ⟨ga, _, none⟩) (by show w.heap.size ≤ ga; omega) _).setCell (p := ⟨gb, _, none⟩) (by show w.heap.size ≤ gb; omega) _, (set_blk_other _ _ (by omega)).trans ((set_blk_other _ _ (by omega)).trans HR.out), (HP.out _ rfl).1, (HP.out _ rfl).2⟩, by simp only [intOf]; omega⟩
        · have hk0 : keyF K k = 0 := by unfold keyF; simp [List.getD, hkl]
          have HK0 : Hid (0 = keyF K k) := hk0.symm
          have hx1 : bits BinOp.xor IntKind.u8 0 92 = bits BinOp.xor IntKind.u8 0 92 := rfl
          clear hk0 hx1
          go_wp2_with fail
          exact ⟨⟨k + 1, by omega, by go_num, (hB.setCell (p := ⟨ga, _, none⟩) (by show w.heap.size ≤ ga; omega) _).setCell (p := ⟨gb, _, none⟩) (by show w.heap.size ≤ gb; omega) _, (set_blk_other _ _ (by omega)).trans ((set_blk_other _ _ (by omega)).trans HR.out), (HP.out _ HK0.out).1, (HP.out _ HK0.out).2⟩, by simp only [intOf]; omega⟩
      · obtain rfl : k = 64 := by omega
        simp only [show ((64 : Nat) : Int) = 64 from rfl]
        obtain ⟨fa, Hfa⟩ : ∃ f, Hid (f = xorB (keyF K) 92) := ⟨_, rfl⟩
        obtain ⟨fb, Hfb⟩ : ∃ f, Hid (f = xorB (keyF K) 54) := ⟨_, rfl⟩
        have HA1 : Hid (wr.heap[ga]? = some (.cells (row .u8 64 fa) 5 (0, 0))) := by
          show _ = _
          rw [HA.out, Hfa.out, row_congr (k := .u8) (n := 64) (f := xorB (keyF K) 92) (g := upTo 64 (xorB (keyF K) 92)) (fun j hj => (upTo_lt hj).symm)]
        have hownB : wr.ownsRow (w.heap.size + 1) 5 1 (.slice (some ⟨gb, 0, none⟩) 64 64) 64 ((ofF 64 fb).map (Value.int .u8)) := by
          refine ⟨by rw [List.length_map, ofF_length], .inr ⟨gb, 64, row .u8 64 fb, rfl, by omega, ?_, Nat.le_refl _, by unfold maxLen; omega, by rw [row_size], ?_⟩⟩
          · rw [HB.out, Hfb.out, row_congr (k := .u8) (n := 64) (f := xorB (keyF K) 54) (g := upTo 64 (xorB (keyF K) 54)) (fun j hj => (upTo_lt hj).symm)]
          · rw [row_list, List.take_of_length_le (by simp)]; unfold ofF; rw [List.map_map]; rfl
        have HOB : Hid (wr.ownsRow (w.heap.size + 1) 5 1 (.slice (some ⟨gb, 0, none⟩) 64 64) 64 ((ofF 64 fb).map (Value.int .u8))) := hownB
        have HLr : Hid (Rowed wr ao P cap) := HL.out.below hB (Nat.le_refl _)
        have hsr : w.heap.size + 1 ≤ wr.heap.size := by have := lt_blk HA1.out; omega
        have hgl := lt_blk HA1.out
        clear hownB HA HB hlt hk
        go_wp2_with (at_builtin; refine wpList_appK rfl _ _ rfl (w.heap.size + 1) gb 64 64 (ofF 64 fb) rfl HOB.out ao P.length cap P rfl rfl HLr.out (by omega) hsr ?_)
        intro v2 w2 HO2 hK2
        replace HO2 : Hid (w2.ownsRow (w.heap.size + 1) 5 1 v2 (64 + P.length) ((ofF 64 fb ++ P).map (Value.int .u8))) := by rw [List.map_append]; simpa using HO2
        obtain ⟨g, cp, rfl, hg, hcp, hgl2⟩ := own_form HO2.out (by omega)
        obtain ⟨Bs, HBs⟩ : ∃ Bs, Hid (Bs = ofF 64 fb ++ P) := ⟨_, rfl⟩
        have hln : 64 + P.length = Bs.length := by rw [HBs.out, List.length_append, ofF_length]
        have HC2 : Hid (∀ j, j < Bs.length → w2.cell? ⟨g, j, none⟩ = some (.int .u8 (Bs.getD j 0))) := own_cells (M := Bs) (n := 64 + P.length) (by rw [HBs.out]; exact HO2.out) hln
        have hBw2 : Below w.heap.size w w2 := hB.trans (hK2.below (by omega) hB.size)
        have HR2 : Hid (w2.heap[w.heap.size]? = some (.cells (row .u8 32 (fun _ => 0)) 30 (0, 0))) := (hK2.block _ (lt_blk HR.out) (by omega)).trans HR.out
        have HA2 : Hid (w2.heap[ga]? = some (.cells (row .u8 64 fa) 5 (0, 0))) := (hK2.block _ (lt_blk HA1.out) hgn).trans HA1.out
        rw [hln]
        have HLN : Hid (64 + P.length = Bs.length) := hln
        have hs2 : w.heap.size + 1 ≤ w2.heap.size := by have := hK2.size; omega
        clear hln HO2 HOB HR HA1 HLr hB hK2 hcp hsr hgl
        go_wp2_with fail
        refine (rSum_any Bs g 0 cp w2 (fun j hj => by rw [Nat.zero_add]; exact HC2.out j hj) (by rw [← HLN.out]; omega)).mono ?_
        rintro e w3 ⟨rfl, hB3⟩
        obtain ⟨hsh, Hsh⟩ : ∃ h, Hid (h = sha Bs) := ⟨_, rfl⟩
        rw [show sha Bs = hsh from Hsh.out.symm]
        have HR3 : Hid (w3.heap[w.heap.size]? = some (.cells (row .u8 32 (fun _ => 0)) 30 (0, 0))) := Below.blk hB3 (lt_blk HR2.out) HR2.out
        have HA3 : Hid (w3.heap[ga]? = some (.cells (row .u8 64 fa) 5 (0, 0))) := Below.blk hB3 (lt_blk HA2.out) HA2.out
        have hBw3 : Below w.heap.size w w3 := hBw2.trans (hB3.mono hBw2.size)
        clear hB3 HR2 HA2 HC2 hBw2
        have hA' : (w3.alloc (.cells (row .u8 32 (fun _ => 0)) 30)).setRow w3.heap.size (row .u8 32 hsh) = w3.alloc (.cells (row .u8 32 hsh) 30) := setRow_new _ _ _ _
        have HOA : Hid ((w3.alloc (.cells (row .u8 32 hsh) 30)).ownsRow (w.heap.size + 1) 5 1 (.slice (some ⟨ga, 0, none⟩) 64 64) 64 ((ofF 64 fa).map (Value.int .u8))) := by
          refine ⟨by rw [List.length_map, ofF_length], .inr ⟨ga, 64, row .u8 64 fa, rfl, by omega, alloc_blk_old HA3.out _, Nat.le_refl _, by unfold maxLen; omega, by rw [row_size], ?_⟩⟩
          rw [row_list, List.take_of_length_le (by simp)]; unfold ofF; rw [List.map_map]; rfl
        have HN4 : Hid (Rowed (w3.alloc (.cells (row .u8 32 hsh) 30)) (some ⟨w3.heap.size, 0, none⟩) (ofF 32 hsh) 32) := rowed_row (alloc_blk _ _) 32
        have HR4 : Hid ((w3.alloc (.cells (row .u8 32 hsh) 30)).heap[w.heap.size]? = some (.cells (row .u8 32 (fun _ => 0)) 30 (0, 0))) := alloc_blk_old HR3.out _
        have hBw4 : Below w.heap.size w (w3.alloc (.cells (row .u8 32 hsh) 30)) := hBw3.alloc hBw3.size _
        have hs4 : w.heap.size + 1 ≤ (w3.alloc (.cells (row .u8 32 hsh) 30)).heap.size := by have := lt_blk HR3.out; rw [World.size_alloc]; omega
        go_wp2_with (first | refine wpList_alloc_row rfl 30 rfl _ HZ.out ?_ | refine wpList_store_blk rfl 30 _ _ rfl w3.heap.size (row .u8 32 hsh) rfl rfl _ _ (alloc_blk _ _) (row_info size_hash _) (by rw [row_size, row_size]) (row_all _ _ _) ?_ | (at_builtin; refine wpList_appK rfl _ _ rfl (w.heap.size + 1) ga 64 64 (ofF 64 fa) rfl HOA.out (some ⟨w3.heap.size, 0, none⟩) 32 32 (ofF 32 hsh) rfl (ofF_length _ _).symm HN4.out (by omega) hs4 ?_))
        intro v5 w5 HO5 hK5
        replace HO5 : Hid (w5.ownsRow (w.heap.size + 1) 5 1 v5 96 ((ofF 64 fa ++ ofF 32 hsh).map (Value.int .u8))) := by rw [List.map_append]; simpa using HO5
        obtain ⟨g5, cp5, rfl, hg5, hcp5, hgl5⟩ := own_form HO5.out (by omega)
        obtain ⟨Bt, HBt⟩ : ∃ Bs, Hid (Bs = ofF 64 fa ++ ofF 32 hsh) := ⟨_, rfl⟩
        have hln : 96 = Bt.length := by rw [HBt.out, List.length_append, ofF_length, ofF_length]
        have HC5 : Hid (∀ j, j < Bt.length → w5.cell? ⟨g5, j, none⟩ = some (.int .u8 (Bt.getD j 0))) := own_cells (M := Bt) (n := 96) (by rw [HBt.out]; exact HO5.out) hln
        have hBw5 : Below w.heap.size w w5 := hBw4.trans (hK5.below (by omega) hBw4.size)
        have HR5 : Hid (w5.heap[w.heap.size]? = some (.cells (row .u8 32 (fun _ => 0)) 30 (0, 0))) := (hK5.block _ (lt_blk HR4.out) (by omega)).trans HR4.out
        have hsum := rSum_any Bt g5 0 cp5 w5 (fun j hj => by rw [Nat.zero_add]; exact HC5.out j hj) (by omega)
        rw [← hln] at hsum
        have HSM : Hid (Calls Try.prog 37 #[.slice (some ⟨g5, 0, none⟩) 96 cp5] w5 fun e w' => e = .returned (.agg (row .u8 32 (sha Bt))) ∧ Below w5.heap.size w5 w') := hsum
        clear hsum hln HO5 HOA HN4 HR4 hBw4 hs4 hA' hK5 HR3 HA3 hBw3 hcp5
        go_wp2_with fail
        refine HSM.out.mono ?_
        rintro e w6 ⟨rfl, hB6⟩
        have HR6 : Hid (w6.heap[w.heap.size]? = some (.cells (row .u8 32 (fun _ => 0)) 30 (0, 0))) := Below.blk hB6 (lt_blk HR5.out) HR5.out
        have hBB : Below w.heap.size w w6 := hBw5.trans (hB6.mono hBw5.size)
        clear hB6 HR5 HC5 hBw5 HSM
        go_wp2_with (refine wpList_store_blk rfl 30 _ _ rfl w.heap.size _ rfl rfl _ _ HR6.out (row_info size_hash _) (by rw [row_size, row_size]) (row_all _ _ _) ?_)
        refine bodyPost_ret (v := .agg (row .u8 32 (mac K P))) ?_ rfl ⟨rfl, below_setRow hBB (Nat.le_refl _) _⟩
        rw [show mac K P = sha Bt by rw [mac_eq h64, HBt.out, Hfa.out, Hsh.out, HBs.out, Hfb.out]]
        exact results_cell_row rfl _ _ w.heap.size _ _ _ (.array 32 5) rfl (setRow_at HR6.out _) (by kernel_rfl) rfl (row_info size_hash _)
end Go.Proofs.Yticpkpphjpgdbaa
