/- HoldMeanwhile's walk. -/
import Derived.Test.YtgafmckiomhceaaWalkR
namespace Go.Proofs.Ytgafmckiomhceaa
open Go.RowKit Go.Hold Go.Inv Go.Shelf Go.Deep
set_option linter.unusedVariables false
set_option linter.unusedSimpArgs false

structure MwI (W : World) (bt rt : Nat) (sk sv : Value) (D : Nat → Value → Prop) (li : Nat → Bool) (xs : Nat → Value) (W1 : World) : Prop where
  det : ∀ i, li i = true → D i (xs i)
  rd : W1.cell? ⟨rt, 0, none⟩ = some sk ∧ W1.cell? ⟨rt, 1, none⟩ = some sv
  pre : li 10 = false → W1 = W
  frm : Frm (· = bt) W W1
  late : ∀ i, 11 ≤ i → li i = true → li 10 = true
section
variable {W : World} {bt rt : Nat} {sk sv : Value} {D : Nat → Value → Prop} {li : Nat → Bool} {xs : Nat → Value} {W1 : World}
theorem MwI.detStep (h : MwI W bt rt sk sv D li xs W1) (i : Nat) (x : Value) (hf : D i x) : ∀ j, upd li i true j = true → D j (upd xs i x j) := fun j hl => by
  by_cases hji : j = i
  · subst hji; rw [upd_same]; exact hf
  · rw [upd_other _ _ hji] at hl ⊢; exact h.det j hl
theorem MwI.lateStep (h : MwI W bt rt sk sv D li xs W1) (i : Nat) (h10 : 11 ≤ i → li 10 = true) : ∀ j, 11 ≤ j → upd li i true j = true → upd li i true 10 = true := fun j hj hl => by
  by_cases hi : 10 = i
  · subst hi; rw [upd_same]
  · rw [upd_other _ _ hi]
    by_cases hji : j = i
    · subst hji; exact h10 hj
    · rw [upd_other _ _ hji] at hl; exact h.late j hj hl
theorem MwI.mark (h : MwI W bt rt sk sv D li xs W1) (i : Nat) (x : Value) (hf : D i x) (h10 : 11 ≤ i → li 10 = true) (hi : i ≠ 10) : MwI W bt rt sk sv D (upd li i true) (upd xs i x) W1 := by
  have e : upd li i true 10 = li 10 := upd_other _ _ (Ne.symm hi)
  exact ⟨h.detStep i x hf, h.rd, by rw [e]; exact h.pre, h.frm, h.lateStep i h10⟩
theorem MwI.turn (h : MwI W bt rt sk sv D li xs W1) (hne : rt ≠ bt) (i : Nat) (x : Value) (hf : D i x) (hi : i = 10 ∨ li 10 = true) {W' : World} (hF : Frm (· = bt) W1 W') : MwI W bt rt sk sv D (upd li i true) (upd xs i x) W' := by
  refine ⟨h.detStep i x hf, ⟨cell_frm h.rd.1 hF hne, cell_frm h.rd.2 hF hne⟩, fun e => ?_, h.frm.trans hF, h.lateStep i (fun h11 => hi.elim (fun e => by omega) id)⟩
  rcases hi with rfl | hi
  · rw [upd_same] at e; cases e
  · by_cases h10 : 10 = i
    · subst h10; rw [upd_same] at e; cases e
    · rw [upd_other _ _ h10, hi] at e; cases e
end

set_option maxRecDepth 100000 in
set_option maxHeartbeats 4000000 in
theorem meanwhile_any (v mv : Value) (az ms : List (Int × Int × Int)) (w : World) (ha : Acts w v az) (hn : az.length ≤ 9223372036854775807) (hm : Acts w mv ms) (hn2 : ms.length ≤ 9223372036854775807) :
    Calls Try.prog 5 #[v, mv] w fun e w' => e = .returned (.bool true) ∧ Below w.heap.size w w' := by
  obtain ⟨av, cv, rfl, hc⟩ := ha
  have HC : Hid (∀ i x, az[i]? = some x → ∃ g off, av = some ⟨g, off, none⟩ ∧ w.cell? ⟨g, off + i * 3, none⟩ = some (.int .i64 x.1) ∧ w.cell? ⟨g, off + i * 3 + 1, none⟩ = some (.int .i64 x.2.1) ∧ w.cell? ⟨g, off + i * 3 + 2, none⟩ = some (.int .i64 x.2.2) ∧ -9223372036854775808 ≤ x.2.1) := hc
  clear hc
  go_enter Try.func5, Try.ntmps5
  go_wp2_with fail
  refine (New_any w).mono ?_
  rintro e w1 ⟨rfl, hT1, hB1⟩
  have hbt := hT1.lt
  have hR1 := Ref.new w1
  have hB2 : Below w1.heap.size w1 (w1.alloc (.cells #[.slice none 0 0, .slice none 0 0] 28)) := (Below.refl _ _).alloc (Nat.le_refl _) _
  have hT2 := hT1.grow hB2
  have hB3 : Below w.heap.size w (w1.alloc (.cells #[.slice none 0 0, .slice none 0 0] 28)) := hB1.trans (hB2.mono hB1.size)
  have hs1 : w.heap.size ≤ w1.heap.size := hB1.size
  go_wp2
  go_loopw [7] (fun i wr => ∃ j : Nat, i = .int .i64 j ∧ j ≤ az.length ∧ j ≤ 150 ∧ Tab wr w.heap.size (plays (az.take j) []) ∧ Ref wr w1.heap.size (plays (az.take j) []) ∧ Below w.heap.size w wr) (fun i _ => 150 - (intOf i).toNat)
  case atStart => exact ⟨0, rfl, Nat.zero_le _, Nat.zero_le _, hT2, hR1, hB3⟩
  case round =>
    obtain ⟨j, rfl, hjl, hj, hT, hR, hB⟩ := hrel
    clear hT1 hT2 hR1 hB2 hB3 hB1
    have hpl := plays_take_len az j
    by_cases hgo : j < az.length ∧ j < 150
    · obtain ⟨hg1, hg2⟩ := hgo
      obtain ⟨x, hx⟩ : ∃ x, az[j]? = some x := ⟨az[j], List.getElem?_eq_getElem hg1⟩
      have HP : Hid (plays (az.take (j + 1)) [] = stepL x.1 x.2.1 x.2.2 (plays (az.take j) [])) := plays_take hx
      obtain ⟨g, off, rfl, c0, c1, c2, hr⟩ := HC.out j x hx
      have hgl := block_lt_of_cell c0
      replace c0 := (hB.cell (p := ⟨g, off + j * 3, none⟩) hgl).trans c0
      replace c1 := (hB.cell (p := ⟨g, off + j * 3 + 1, none⟩) hgl).trans c1
      replace c2 := (hB.cell (p := ⟨g, off + j * 3 + 2, none⟩) hgl).trans c2
      clear hx
      go_wp2_with fail
      refine (act_any w.heap.size w1.heap.size _ x.1 x.2.1 x.2.2 wr hT hR (by omega) (by omega) hr).mono ?_
      rintro e w2 ⟨rfl, hT2, hR2, hF2⟩
      have hB2 : Below w.heap.size w w2 := hB.trans (hF2.below hB.size (fun k hk hS => by omega))
      clear hT hR hF2
      go_wp2
      go_roundw
      case rel => exact ⟨j + 1, by go_num, by omega, by omega, by rw [HP.out]; exact hT2, by rw [HP.out]; exact hR2, hB2⟩
      case measure => simp [intOf]; omega
    · have hend : (j < az.length ∧ ¬ j < 150) ∨ ¬ j < az.length := by omega
      clear hgo hjl
      obtain ⟨l, hl⟩ : ∃ l, plays (az.take j) [] = l := ⟨_, rfl⟩
      rw [hl] at hT hR hpl
      clear hl
      have hll : l.length ≤ 150 := by omega
      have hml := hm.below (Nat.le_refl _) hB
      obtain ⟨ak, ck, av', cv', hb, hsk, hsv⟩ := hR.open
      obtain ⟨c0, c1, _, _⟩ := two_cells hb
      have hne : w1.heap.size ≠ w.heap.size := by omega
      clear HC hpl hj hm
      have hcond : decide ((j : Int) < (az.length : Int)) = true ∨ decide ((j : Int) < (az.length : Int)) = false := by cases decide ((j : Int) < (az.length : Int)) <;> simp
      rcases hend with ⟨h1, h2⟩ | h1
      · go_wp2
        refine wp_region_steps (by kernel_rfl) (by kernel_rfl) (fun xs => { tmps := (Value.slice av az.length cv :: mv :: undef :: undef :: xs 14 :: Value.pointer (some (⟨w.heap.size, 0, none⟩ : Addr)) :: Value.pointer (some (⟨w1.heap.size, 0, none⟩ : Addr)) :: Value.int IntKind.i64 (j : Int) :: Value.pointer (some (⟨w.heap.size, 0, none⟩ : Addr)) :: Value.agg #[Value.slice none 0 0, Value.slice none 0 0] :: Value.pointer (some (⟨w1.heap.size, 0, none⟩ : Addr)) :: Value.pointer (some (⟨w.heap.size, 0, none⟩ : Addr)) :: Value.bool false :: Value.int IntKind.i64 (j : Int) :: Value.slice av az.length cv :: Value.int IntKind.i64 (az.length : Int) :: Value.bool true :: Value.bool true :: Value.int IntKind.i64 (j : Int) :: Value.bool (decide ((j : Int) < 150)) :: Value.bool (decide ((j : Int) < 150)) :: u21 :: u22 :: u23 :: u24 :: u25 :: u26 :: u27 :: u28 :: u29 :: u30 :: xs 0 :: xs 1 :: xs 2 :: xs 3 :: xs 4 :: xs 5 :: xs 6 :: xs 7 :: xs 8 :: xs 9 :: xs 10 :: xs 11 :: xs 12 :: xs 13 :: []).toArray, defers := [] })
          (fun li xs W1 => MwI wr.drew w.heap.size w1.heap.size (.slice ak l.length ck) (.slice av' l.length cv') (fun ii zz => match ii with | 0 => zz = .pointer (some ⟨w.heap.size, 0, none⟩) | 1 => zz = .pointer (some ⟨w1.heap.size, 0, none⟩) | 2 => zz = .pointer (some ⟨w1.heap.size, 0, none⟩) | 3 => zz = .pointer (some ⟨w1.heap.size, 0, none⟩) | 4 => zz = .slice ak l.length ck | 5 => zz = .pointer (some ⟨w1.heap.size, 0, none⟩) | 6 => zz = .pointer (some ⟨w1.heap.size, 0, none⟩) | 7 => zz = .pointer (some ⟨w1.heap.size, 1, none⟩) | 8 => zz = .slice av' l.length cv' | 9 => zz = mv | 10 => zz = .bool true | 11 => zz = .bool true | 12 => zz = .bool true | 13 => zz = .bool true | 14 => zz = .bool true | _ => True) li xs W1) (fun | 14 => u4 | _ => undef) (by repeat (first | exact trivial | refine ⟨fun _ _ => rfl, ?_⟩)) ⟨fun _ h => (by cases h), ⟨c0, c1⟩, fun _ => rfl, Frm.refl _ _, fun _ _ h => (by cases h)⟩ ⟨?_, ?_, ?_, ?_, ?_, ?_, ?_, ?_, ?_, ?_, ?_, ?_, ?_, ?_, ?_, trivial⟩ ?_
        · intro li xs W1 hI hli hp K hK
          clear hp
          obtain ⟨r1, r2⟩ := hI.rd
          go_simp
          exact hK _ _ (hI.mark 0 _ rfl (fun h => absurd h (by decide)) (by decide))
        · intro li xs W1 hI hli hp K hK
          clear hp
          obtain ⟨r1, r2⟩ := hI.rd
          go_simp
          exact hK _ _ (hI.mark 1 _ rfl (fun h => absurd h (by decide)) (by decide))
        · intro li xs W1 hI hli hp K hK
          have q1 : li 1 = true := hp.1 rfl
          have h1 : xs 1 = .pointer (some ⟨w1.heap.size, 0, none⟩) := hI.det 1 q1
          clear hp
          simp only [h1] at hK
          obtain ⟨r1, r2⟩ := hI.rd
          go_simp
          exact hK _ _ (hI.mark 2 _ rfl (fun h => absurd h (by decide)) (by decide))
        · intro li xs W1 hI hli hp K hK
          have q2 : li 2 = true := hp.1 rfl
          have h2 : xs 2 = .pointer (some ⟨w1.heap.size, 0, none⟩) := hI.det 2 q2
          clear hp
          simp only [h2] at hK
          obtain ⟨r1, r2⟩ := hI.rd
          go_simp
          exact hK _ _ (hI.mark 3 _ rfl (fun h => absurd h (by decide)) (by decide))
        · intro li xs W1 hI hli hp K hK
          have q3 : li 3 = true := hp.1 rfl
          have h3 : xs 3 = .pointer (some ⟨w1.heap.size, 0, none⟩) := hI.det 3 q3
          clear hp
          simp only [h3] at hK
          obtain ⟨r1, r2⟩ := hI.rd
          go_simp
          exact hK _ _ (hI.mark 4 _ rfl (fun h => absurd h (by decide)) (by decide))
        · intro li xs W1 hI hli hp K hK
          clear hp
          obtain ⟨r1, r2⟩ := hI.rd
          go_simp
          exact hK _ _ (hI.mark 5 _ rfl (fun h => absurd h (by decide)) (by decide))
        · intro li xs W1 hI hli hp K hK
          have q5 : li 5 = true := hp.1 rfl
          have h5 : xs 5 = .pointer (some ⟨w1.heap.size, 0, none⟩) := hI.det 5 q5
          clear hp
          simp only [h5] at hK
          obtain ⟨r1, r2⟩ := hI.rd
          go_simp
          exact hK _ _ (hI.mark 6 _ rfl (fun h => absurd h (by decide)) (by decide))
        · intro li xs W1 hI hli hp K hK
          have q6 : li 6 = true := hp.1 rfl
          have h6 : xs 6 = .pointer (some ⟨w1.heap.size, 0, none⟩) := hI.det 6 q6
          clear hp
          simp only [h6] at hK
          obtain ⟨r1, r2⟩ := hI.rd
          go_simp
          exact hK _ _ (hI.mark 7 _ rfl (fun h => absurd h (by decide)) (by decide))
        · intro li xs W1 hI hli hp K hK
          have q7 : li 7 = true := hp.1 rfl
          have h7 : xs 7 = .pointer (some ⟨w1.heap.size, 1, none⟩) := hI.det 7 q7
          clear hp
          simp only [h7] at hK
          obtain ⟨r1, r2⟩ := hI.rd
          go_simp
          exact hK _ _ (hI.mark 8 _ rfl (fun h => absurd h (by decide)) (by decide))
        · intro li xs W1 hI hli hp K hK
          clear hp
          obtain ⟨r1, r2⟩ := hI.rd
          go_simp
          exact hK _ _ (hI.mark 9 _ rfl (fun h => absurd h (by decide)) (by decide))
        · intro li xs W1 hI hli hp K hK
          have q0 : li 0 = true := hp.1 rfl
          have h0 : xs 0 = .pointer (some ⟨w.heap.size, 0, none⟩) := hI.det 0 q0
          have q4 : li 4 = true := hp.2.1 rfl
          have h4 : xs 4 = .slice ak l.length ck := hI.det 4 q4
          have q8 : li 8 = true := hp.2.2.1 rfl
          have h8 : xs 8 = .slice av' l.length cv' := hI.det 8 q8
          have q9 : li 9 = true := hp.2.2.2.1 rfl
          have h9 : xs 9 = mv := hI.det 9 q9
          clear hp
          simp only [h0, h4, h8, h9] at hK
          have e2 := hI.pre hli
          subst e2
          go_simp
          refine (during_any w.heap.size l (.slice ak l.length ck) (.slice av' l.length cv') mv ms wr.drew (hT.grow (Below.refl _ _).drew) hll (hsk.grow (Below.refl _ _).drew) (hsv.grow (Below.refl _ _).drew) hml hn2).mono ?_
          rintro e W3 ⟨rfl, hF3⟩
          exact hK _ _ (hI.turn hne 10 _ rfl (.inl rfl) hF3)
        · intro li xs W1 hI hli hp K hK
          have q10 : li 10 = true := hp.1 rfl
          have h10 : xs 10 = .bool true := hI.det 10 q10
          clear hp
          simp only [h10] at hK
          obtain ⟨r1, r2⟩ := hI.rd
          go_simp
          exact hK _ _ (hI.mark 11 _ rfl (fun _ => q10) (by decide))
        · intro li xs W1 hI hli hp K hK
          have q11 : li 11 = true := hp.1 rfl
          have h11 : xs 11 = .bool true := hI.det 11 q11
          have q10 : li 10 = true := hI.late 11 (by decide) q11
          clear hp
          simp only [h11] at hK
          go_simp
          refine (known_any W1).mono ?_
          rintro e W3 ⟨rfl, hB3⟩
          exact hK _ _ (hI.turn hne 12 _ rfl (.inr q10) (Frm.of_below hB3))
        · intro li xs W1 hI hli hp K hK
          have q11 : li 11 = true := hp.1 rfl
          have h11 : xs 11 = .bool true := hI.det 11 q11
          have q12 : li 12 = true := hp.2.1 rfl
          have h12 : xs 12 = .bool true := hI.det 12 q12
          have q10 : li 10 = true := hI.late 12 (by decide) q12
          clear hp
          simp only [h11, h12] at hK
          obtain ⟨r1, r2⟩ := hI.rd
          go_simp
          exact hK _ _ (hI.mark 13 _ rfl (fun _ => q10) (by decide))
        · intro li xs W1 hI hli hp K hK
          have q13 : li 13 = true := hp.1 rfl
          have h13 : xs 13 = .bool true := hI.det 13 q13
          have q12 : li 12 = true := hp.2.1 rfl
          have h12 : xs 12 = .bool true := hI.det 12 q12
          have q10 : li 10 = true := hI.late 13 (by decide) q13
          clear hp
          simp only [h13, h12] at hK
          obtain ⟨r1, r2⟩ := hI.rd
          go_simp
          exact hK _ _ (hI.mark 14 _ rfl (fun _ => q10) (by decide))
        · intro li xs W1 hI hall
          have h14 : xs 14 = .bool true := hI.det 14 (hall 14 (by simp))
          simp only [h14]
          have hfr := hI.frm
          clear hI hall
          go_wp2
          go_ret
          exact ⟨rfl, hB.trans ((Frm.below (show Frm (· = w.heap.size) wr W1 from ⟨hfr.os, hfr.tape, hfr.output, hfr.size, hfr.block⟩) hB.size (fun k hk hS => by omega)))⟩
      · go_wp2
        refine wp_region_steps (by kernel_rfl) (by kernel_rfl) (fun xs => { tmps := (Value.slice av az.length cv :: mv :: undef :: undef :: xs 14 :: Value.pointer (some (⟨w.heap.size, 0, none⟩ : Addr)) :: Value.pointer (some (⟨w1.heap.size, 0, none⟩ : Addr)) :: Value.int IntKind.i64 (j : Int) :: Value.pointer (some (⟨w.heap.size, 0, none⟩ : Addr)) :: Value.agg #[Value.slice none 0 0, Value.slice none 0 0] :: Value.pointer (some (⟨w1.heap.size, 0, none⟩ : Addr)) :: Value.pointer (some (⟨w.heap.size, 0, none⟩ : Addr)) :: Value.bool false :: Value.int IntKind.i64 (j : Int) :: Value.slice av az.length cv :: Value.int IntKind.i64 (az.length : Int) :: Value.bool false :: Value.bool false :: undef :: undef :: Value.bool false :: u21 :: u22 :: u23 :: u24 :: u25 :: u26 :: u27 :: u28 :: u29 :: u30 :: xs 0 :: xs 1 :: xs 2 :: xs 3 :: xs 4 :: xs 5 :: xs 6 :: xs 7 :: xs 8 :: xs 9 :: xs 10 :: xs 11 :: xs 12 :: xs 13 :: []).toArray, defers := [] })
          (fun li xs W1 => MwI wr.drew w.heap.size w1.heap.size (.slice ak l.length ck) (.slice av' l.length cv') (fun ii zz => match ii with | 0 => zz = .pointer (some ⟨w.heap.size, 0, none⟩) | 1 => zz = .pointer (some ⟨w1.heap.size, 0, none⟩) | 2 => zz = .pointer (some ⟨w1.heap.size, 0, none⟩) | 3 => zz = .pointer (some ⟨w1.heap.size, 0, none⟩) | 4 => zz = .slice ak l.length ck | 5 => zz = .pointer (some ⟨w1.heap.size, 0, none⟩) | 6 => zz = .pointer (some ⟨w1.heap.size, 0, none⟩) | 7 => zz = .pointer (some ⟨w1.heap.size, 1, none⟩) | 8 => zz = .slice av' l.length cv' | 9 => zz = mv | 10 => zz = .bool true | 11 => zz = .bool true | 12 => zz = .bool true | 13 => zz = .bool true | 14 => zz = .bool true | _ => True) li xs W1) (fun | 14 => u4 | _ => undef) (by repeat (first | exact trivial | refine ⟨fun _ _ => rfl, ?_⟩)) ⟨fun _ h => (by cases h), ⟨c0, c1⟩, fun _ => rfl, Frm.refl _ _, fun _ _ h => (by cases h)⟩ ⟨?_, ?_, ?_, ?_, ?_, ?_, ?_, ?_, ?_, ?_, ?_, ?_, ?_, ?_, ?_, trivial⟩ ?_
        · intro li xs W1 hI hli hp K hK
          clear hp
          obtain ⟨r1, r2⟩ := hI.rd
          go_simp
          exact hK _ _ (hI.mark 0 _ rfl (fun h => absurd h (by decide)) (by decide))
        · intro li xs W1 hI hli hp K hK
          clear hp
          obtain ⟨r1, r2⟩ := hI.rd
          go_simp
          exact hK _ _ (hI.mark 1 _ rfl (fun h => absurd h (by decide)) (by decide))
        · intro li xs W1 hI hli hp K hK
          have q1 : li 1 = true := hp.1 rfl
          have h1 : xs 1 = .pointer (some ⟨w1.heap.size, 0, none⟩) := hI.det 1 q1
          clear hp
          simp only [h1] at hK
          obtain ⟨r1, r2⟩ := hI.rd
          go_simp
          exact hK _ _ (hI.mark 2 _ rfl (fun h => absurd h (by decide)) (by decide))
        · intro li xs W1 hI hli hp K hK
          have q2 : li 2 = true := hp.1 rfl
          have h2 : xs 2 = .pointer (some ⟨w1.heap.size, 0, none⟩) := hI.det 2 q2
          clear hp
          simp only [h2] at hK
          obtain ⟨r1, r2⟩ := hI.rd
          go_simp
          exact hK _ _ (hI.mark 3 _ rfl (fun h => absurd h (by decide)) (by decide))
        · intro li xs W1 hI hli hp K hK
          have q3 : li 3 = true := hp.1 rfl
          have h3 : xs 3 = .pointer (some ⟨w1.heap.size, 0, none⟩) := hI.det 3 q3
          clear hp
          simp only [h3] at hK
          obtain ⟨r1, r2⟩ := hI.rd
          go_simp
          exact hK _ _ (hI.mark 4 _ rfl (fun h => absurd h (by decide)) (by decide))
        · intro li xs W1 hI hli hp K hK
          clear hp
          obtain ⟨r1, r2⟩ := hI.rd
          go_simp
          exact hK _ _ (hI.mark 5 _ rfl (fun h => absurd h (by decide)) (by decide))
        · intro li xs W1 hI hli hp K hK
          have q5 : li 5 = true := hp.1 rfl
          have h5 : xs 5 = .pointer (some ⟨w1.heap.size, 0, none⟩) := hI.det 5 q5
          clear hp
          simp only [h5] at hK
          obtain ⟨r1, r2⟩ := hI.rd
          go_simp
          exact hK _ _ (hI.mark 6 _ rfl (fun h => absurd h (by decide)) (by decide))
        · intro li xs W1 hI hli hp K hK
          have q6 : li 6 = true := hp.1 rfl
          have h6 : xs 6 = .pointer (some ⟨w1.heap.size, 0, none⟩) := hI.det 6 q6
          clear hp
          simp only [h6] at hK
          obtain ⟨r1, r2⟩ := hI.rd
          go_simp
          exact hK _ _ (hI.mark 7 _ rfl (fun h => absurd h (by decide)) (by decide))
        · intro li xs W1 hI hli hp K hK
          have q7 : li 7 = true := hp.1 rfl
          have h7 : xs 7 = .pointer (some ⟨w1.heap.size, 1, none⟩) := hI.det 7 q7
          clear hp
          simp only [h7] at hK
          obtain ⟨r1, r2⟩ := hI.rd
          go_simp
          exact hK _ _ (hI.mark 8 _ rfl (fun h => absurd h (by decide)) (by decide))
        · intro li xs W1 hI hli hp K hK
          clear hp
          obtain ⟨r1, r2⟩ := hI.rd
          go_simp
          exact hK _ _ (hI.mark 9 _ rfl (fun h => absurd h (by decide)) (by decide))
        · intro li xs W1 hI hli hp K hK
          have q0 : li 0 = true := hp.1 rfl
          have h0 : xs 0 = .pointer (some ⟨w.heap.size, 0, none⟩) := hI.det 0 q0
          have q4 : li 4 = true := hp.2.1 rfl
          have h4 : xs 4 = .slice ak l.length ck := hI.det 4 q4
          have q8 : li 8 = true := hp.2.2.1 rfl
          have h8 : xs 8 = .slice av' l.length cv' := hI.det 8 q8
          have q9 : li 9 = true := hp.2.2.2.1 rfl
          have h9 : xs 9 = mv := hI.det 9 q9
          clear hp
          simp only [h0, h4, h8, h9] at hK
          have e2 := hI.pre hli
          subst e2
          go_simp
          refine (during_any w.heap.size l (.slice ak l.length ck) (.slice av' l.length cv') mv ms wr.drew (hT.grow (Below.refl _ _).drew) hll (hsk.grow (Below.refl _ _).drew) (hsv.grow (Below.refl _ _).drew) hml hn2).mono ?_
          rintro e W3 ⟨rfl, hF3⟩
          exact hK _ _ (hI.turn hne 10 _ rfl (.inl rfl) hF3)
        · intro li xs W1 hI hli hp K hK
          have q10 : li 10 = true := hp.1 rfl
          have h10 : xs 10 = .bool true := hI.det 10 q10
          clear hp
          simp only [h10] at hK
          obtain ⟨r1, r2⟩ := hI.rd
          go_simp
          exact hK _ _ (hI.mark 11 _ rfl (fun _ => q10) (by decide))
        · intro li xs W1 hI hli hp K hK
          have q11 : li 11 = true := hp.1 rfl
          have h11 : xs 11 = .bool true := hI.det 11 q11
          have q10 : li 10 = true := hI.late 11 (by decide) q11
          clear hp
          simp only [h11] at hK
          go_simp
          refine (known_any W1).mono ?_
          rintro e W3 ⟨rfl, hB3⟩
          exact hK _ _ (hI.turn hne 12 _ rfl (.inr q10) (Frm.of_below hB3))
        · intro li xs W1 hI hli hp K hK
          have q11 : li 11 = true := hp.1 rfl
          have h11 : xs 11 = .bool true := hI.det 11 q11
          have q12 : li 12 = true := hp.2.1 rfl
          have h12 : xs 12 = .bool true := hI.det 12 q12
          have q10 : li 10 = true := hI.late 12 (by decide) q12
          clear hp
          simp only [h11, h12] at hK
          obtain ⟨r1, r2⟩ := hI.rd
          go_simp
          exact hK _ _ (hI.mark 13 _ rfl (fun _ => q10) (by decide))
        · intro li xs W1 hI hli hp K hK
          have q13 : li 13 = true := hp.1 rfl
          have h13 : xs 13 = .bool true := hI.det 13 q13
          have q12 : li 12 = true := hp.2.1 rfl
          have h12 : xs 12 = .bool true := hI.det 12 q12
          have q10 : li 10 = true := hI.late 13 (by decide) q13
          clear hp
          simp only [h13, h12] at hK
          obtain ⟨r1, r2⟩ := hI.rd
          go_simp
          exact hK _ _ (hI.mark 14 _ rfl (fun _ => q10) (by decide))
        · intro li xs W1 hI hall
          have h14 : xs 14 = .bool true := hI.det 14 (hall 14 (by simp))
          simp only [h14]
          have hfr := hI.frm
          clear hI hall
          go_wp2
          go_ret
          exact ⟨rfl, hB.trans ((Frm.below (show Frm (· = w.heap.size) wr W1 from ⟨hfr.os, hfr.tape, hfr.output, hfr.size, hfr.block⟩) hB.size (fun k hk hS => by omega)))⟩

end Go.Proofs.Ytgafmckiomhceaa
