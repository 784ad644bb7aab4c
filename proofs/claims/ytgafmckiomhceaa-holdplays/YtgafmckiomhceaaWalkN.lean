/- HoldPlays' walk: an act in both tables, then both tell the same. -/
import Derived.Test.YtgafmckiomhceaaWalkM
namespace Go.Proofs.Ytgafmckiomhceaa
open Go.RowKit Go.Hold Go.Inv Go.Shelf Go.Deep
set_option linter.unusedVariables false

structure PlayI (S : Nat → Prop) (W : World) (bt rt : Nat) (l l' : List (Int × Int)) (D : Nat → Value → Prop) (li : Nat → Bool) (xs : Nat → Value) (W1 : World) : Prop where
  det : ∀ i, li i = true → D i (xs i)
  frm : Frm S W W1
  late : ∀ i, 7 ≤ i → li i = true → li 6 = true
  pre : li 6 = false → Tab W1 bt l ∧ Ref W1 rt l
  post : li 6 = true → Tab W1 bt l' ∧ Ref W1 rt l'
  s20 : li 20 = true → Sl W1 (xs 20) (keysL l')
  s24 : li 24 = true → Sl W1 (xs 24) (keysL l')
section
variable {S : Nat → Prop} {W : World} {bt rt : Nat} {l l' : List (Int × Int)} {D : Nat → Value → Prop} {li : Nat → Bool} {xs : Nat → Value} {W1 : World}
theorem PlayI.detStep (h : PlayI S W bt rt l l' D li xs W1) (i : Nat) (x : Value) (hf : D i x) : ∀ j, upd li i true j = true → D j (upd xs i x j) := fun j hl => by
  by_cases hji : j = i
  · subst hji; rw [upd_same]; exact hf
  · rw [upd_other _ _ hji] at hl ⊢; exact h.det j hl
theorem PlayI.lateStep (h : PlayI S W bt rt l l' D li xs W1) (i : Nat) (h6 : 7 ≤ i → li 6 = true) : ∀ j, 7 ≤ j → upd li i true j = true → upd li i true 6 = true := fun j hj hl => by
  by_cases h6i : 6 = i
  · subst h6i; rw [upd_same]
  · rw [upd_other _ _ h6i]
    by_cases hji : j = i
    · subst hji; exact h6 hj
    · rw [upd_other _ _ hji] at hl; exact h.late j hj hl
/-- an operation that leaves memory as it was -/
theorem PlayI.mark (h : PlayI S W bt rt l l' D li xs W1) (i : Nat) (x : Value) (hf : D i x) (h6 : 7 ≤ i → li 6 = true) (hi : i ≠ 6 ∧ i ≠ 20 ∧ i ≠ 24) : PlayI S W bt rt l l' D (upd li i true) (upd xs i x) W1 := by
  have e6 : upd li i true 6 = li 6 := upd_other _ _ (Ne.symm hi.1)
  have e20 : upd li i true 20 = li 20 := upd_other _ _ (Ne.symm hi.2.1)
  have e24 : upd li i true 24 = li 24 := upd_other _ _ (Ne.symm hi.2.2)
  have f20 : upd xs i x 20 = xs 20 := upd_other _ _ (Ne.symm hi.2.1)
  have f24 : upd xs i x 24 = xs 24 := upd_other _ _ (Ne.symm hi.2.2)
  exact ⟨h.detStep i x hf, h.frm, h.lateStep i h6, by rw [e6]; exact h.pre, by rw [e6]; exact h.post, by rw [e20, f20]; exact h.s20, by rw [e24, f24]; exact h.s24⟩
/-- memory that only grows, behind the act -/
theorem PlayI.grow (h : PlayI S W bt rt l l' D li xs W1) (h6 : li 6 = true) {w' : World} (hB : Below W1.heap.size W1 w') : PlayI S W bt rt l l' D li xs w' :=
  ⟨h.det, h.frm.trans (Frm.of_below hB), h.late, fun e => (by rw [h6] at e; cases e), fun _ => ⟨(h.post h6).1.grow hB, (h.post h6).2.grow hB⟩, fun e => (h.s20 e).grow hB, fun e => (h.s24 e).grow hB⟩
theorem PlayI.call6 (h : PlayI S W bt rt l l' D li xs W1) (x : Value) (hf : D 6 x) (l6 : li 6 = false) {w' : World} (hT : Tab w' bt l') (hR : Ref w' rt l') (hF : Frm S W1 w') : PlayI S W bt rt l l' D (upd li 6 true) (upd xs 6 x) w' := by
  have no : ∀ j, 7 ≤ j → ¬ upd li 6 true j = true := fun j hj e => by
    rw [upd_other _ _ (by omega)] at e
    rw [h.late j hj e] at l6; cases l6
  exact ⟨h.detStep 6 x hf, h.frm.trans hF, fun _ _ _ => upd_same _ _ _, fun e => (by rw [upd_same] at e; cases e), fun _ => ⟨hT, hR⟩, fun e => absurd e (no 20 (by decide)), fun e => absurd e (no 24 (by decide))⟩
theorem PlayI.put20 (h : PlayI S W bt rt l l' D li xs W1) (x : Value) (hf : D 20 x) (h6 : li 6 = true) (hs : Sl W1 x (keysL l')) : PlayI S W bt rt l l' D (upd li 20 true) (upd xs 20 x) W1 := by
  have e6 : upd li 20 true 6 = li 6 := upd_other _ _ (by decide)
  have e24 : upd li 20 true 24 = li 24 := upd_other _ _ (by decide)
  have f24 : upd xs 20 x 24 = xs 24 := upd_other _ _ (by decide)
  exact ⟨h.detStep 20 x hf, h.frm, h.lateStep 20 (fun _ => h6), by rw [e6]; exact h.pre, by rw [e6]; exact h.post, fun _ => (by rw [upd_same]; exact hs), by rw [e24, f24]; exact h.s24⟩
theorem PlayI.put24 (h : PlayI S W bt rt l l' D li xs W1) (x : Value) (hf : D 24 x) (h6 : li 6 = true) (hs : Sl W1 x (keysL l')) : PlayI S W bt rt l l' D (upd li 24 true) (upd xs 24 x) W1 := by
  have e6 : upd li 24 true 6 = li 6 := upd_other _ _ (by decide)
  have e20 : upd li 24 true 20 = li 20 := upd_other _ _ (by decide)
  have f20 : upd xs 24 x 20 = xs 20 := upd_other _ _ (by decide)
  exact ⟨h.detStep 24 x hf, h.frm, h.lateStep 24 (fun _ => h6), by rw [e6]; exact h.pre, by rw [e6]; exact h.post, by rw [e20, f20]; exact h.s20, fun _ => (by rw [upd_same]; exact hs)⟩
end

set_option maxRecDepth 100000 in
set_option maxHeartbeats 4000000 in
theorem plays_any (v : Value) (az : List (Int × Int × Int)) (w : World) (ha : Acts w v az) (hn : az.length ≤ 9223372036854775807) :
    Calls Try.prog 3 #[v] w fun e w' => e = .returned (.bool true) ∧ Below w.heap.size w w' := by
  obtain ⟨av, cv, rfl, hc⟩ := ha
  have HC : Hid (∀ i x, az[i]? = some x → ∃ g off, av = some ⟨g, off, none⟩ ∧ w.cell? ⟨g, off + i * 3, none⟩ = some (.int .i64 x.1) ∧ w.cell? ⟨g, off + i * 3 + 1, none⟩ = some (.int .i64 x.2.1) ∧ w.cell? ⟨g, off + i * 3 + 2, none⟩ = some (.int .i64 x.2.2) ∧ -9223372036854775808 ≤ x.2.1) := hc
  clear hc
  go_enter Try.func3, Try.ntmps3
  go_wp2_with fail
  refine (New_any w).mono ?_
  rintro e w1 ⟨rfl, hT1, hB1⟩
  have hbt := hT1.lt
  have hR1 := Ref.new w1
  have hB2 : Below w1.heap.size w1 (w1.alloc (.cells #[.slice none 0 0, .slice none 0 0] 28)) := (Below.refl _ _).alloc (Nat.le_refl _) _
  have hT2 := hT1.grow hB2
  have hB3 : Below w.heap.size w (w1.alloc (.cells #[.slice none 0 0, .slice none 0 0] 28)) := hB1.trans (hB2.mono hB1.size)
  have hs1 : w.heap.size ≤ w1.heap.size := hB1.size
  go_wp2
  go_loopw [5] (fun i wr => ∃ j : Nat, i = .int .i64 j ∧ j ≤ az.length ∧ j ≤ 150 ∧ Tab wr w.heap.size (plays (az.take j) []) ∧ Ref wr w1.heap.size (plays (az.take j) []) ∧ Below w.heap.size w wr) (fun i _ => 150 - (intOf i).toNat)
  case atStart => exact ⟨0, rfl, Nat.zero_le _, Nat.zero_le _, hT2, hR1, hB3⟩
  case round =>
    obtain ⟨j, rfl, hjl, hj, hT, hR, hB⟩ := hrel
    clear hT1 hT2 hR1 hB2 hB3 hB1
    have hpl := plays_take_len az j
    by_cases hgo : j < az.length ∧ j < 150
    · obtain ⟨hg1, hg2⟩ := hgo
      obtain ⟨x, hx⟩ : ∃ x, az[j]? = some x := ⟨az[j], List.getElem?_eq_getElem hg1⟩
      have HP0 : Hid (plays (az.take (j + 1)) [] = stepL x.1 x.2.1 x.2.2 (plays (az.take j) [])) := plays_take hx
      obtain ⟨g, off, rfl, d0, d1, d2, hr⟩ := HC.out j x hx
      obtain ⟨kind, k, val⟩ := x
      obtain ⟨l, hl⟩ : ∃ l, plays (az.take j) [] = l := ⟨_, rfl⟩
      rw [hl] at hT hR hpl HP0
      clear hl
      obtain ⟨l', hl'⟩ : ∃ l', stepL kind k val l = l' := ⟨_, rfl⟩
      have HS : Hid (stepL kind k val l = l') := hl'
      have HP : Hid (plays (az.take (j + 1)) [] = l') := HP0.out.trans hl'
      have hlen := stepL_len kind k val l
      rw [hl'] at hlen
      clear hl' HP0 hx HC
      have hlk : (keysL l').length = l'.length := by simp [keysL]
      have hgl : g < w.heap.size := by have := block_lt_of_cell d0; omega
      have c0 : wr.cell? ⟨g, off + j * 3, none⟩ = some (.int .i64 kind) := (hB.cell (p := ⟨g, off + j * 3, none⟩) hgl).trans d0
      have c1 : wr.cell? ⟨g, off + j * 3 + 1, none⟩ = some (.int .i64 k) := (hB.cell (p := ⟨g, off + j * 3 + 1, none⟩) hgl).trans d1
      have c2 : wr.cell? ⟨g, off + j * 3 + 2, none⟩ = some (.int .i64 val) := (hB.cell (p := ⟨g, off + j * 3 + 2, none⟩) hgl).trans d2
      have hbr : w.heap.size < wr.heap.size := hT.lt
      have hnS : ¬ (g = w.heap.size ∨ g = w1.heap.size) := by omega
      have hne : w.heap.size ≠ w1.heap.size := by omega
      simp only at hr
      clear d0 d1 d2
      go_wp2
      rw [show decide ((j : Int) < 150) = true from decide_eq_true (by omega)]
      refine wp_region_steps (by kernel_rfl) (by kernel_rfl) (fun xs => { tmps := (Value.slice (some (⟨g, off, none⟩ : Addr)) az.length cv :: undef :: u2 :: Value.pointer (some (⟨w.heap.size, 0, none⟩ : Addr)) :: Value.pointer (some (⟨w1.heap.size, 0, none⟩ : Addr)) :: Value.int IntKind.i64 (j : Int) :: undef :: undef :: Value.pointer (some (⟨w.heap.size, 0, none⟩ : Addr)) :: Value.agg #[Value.slice none 0 0, Value.slice none 0 0] :: Value.pointer (some (⟨w1.heap.size, 0, none⟩ : Addr)) :: Value.pointer (some (⟨w.heap.size, 0, none⟩ : Addr)) :: Value.bool false :: Value.int IntKind.i64 (j : Int) :: Value.slice (some (⟨g, off, none⟩ : Addr)) az.length cv :: Value.int IntKind.i64 (az.length : Int) :: Value.bool true :: Value.bool true :: Value.int IntKind.i64 (j : Int) :: Value.bool true :: Value.bool true :: u21 :: u22 :: xs 0 :: xs 1 :: xs 2 :: xs 3 :: xs 4 :: xs 5 :: xs 6 :: xs 7 :: xs 8 :: xs 9 :: xs 10 :: xs 11 :: xs 12 :: xs 13 :: xs 14 :: xs 15 :: xs 16 :: xs 17 :: xs 18 :: xs 19 :: xs 20 :: xs 21 :: xs 22 :: xs 23 :: xs 24 :: xs 25 :: xs 26 :: xs 27 :: undef :: undef :: undef :: undef :: undef :: undef :: undef :: undef :: undef :: undef :: undef :: undef :: undef :: undef :: undef :: undef :: undef :: undef :: undef :: undef :: undef :: undef :: undef :: []).toArray, defers := [] })
        (fun li xs W1 => PlayI (fun j => j = w.heap.size ∨ j = w1.heap.size) wr w.heap.size w1.heap.size l l' (fun ii zz => match ii with | 0 => zz = .pointer (some ⟨w.heap.size, 0, none⟩) | 1 => zz = .pointer (some ⟨w1.heap.size, 0, none⟩) | 2 => zz = .slice (some ⟨g, off, none⟩) az.length cv | 3 => zz = .int .i64 (j : Int) | 4 => zz = .pointer (some ⟨g, off + j * 3, none⟩) | 5 => zz = .agg #[.int .i64 kind, .int .i64 k, .int .i64 val] | 6 => zz = .bool true | 7 => zz = .bool false | 8 => zz = .bool false | 9 => zz = .pointer (some ⟨w.heap.size, 0, none⟩) | 10 => zz = .int .i64 (l'.length : Int) | 11 => zz = .pointer (some ⟨w1.heap.size, 0, none⟩) | 12 => zz = .pointer (some ⟨w1.heap.size, 0, none⟩) | 13 => zz = .pointer (some ⟨w1.heap.size, 0, none⟩) | 15 => zz = .int .i64 (l'.length : Int) | 16 => zz = .bool false | 17 => zz = .bool false | 18 => zz = .bool false | 19 => zz = .pointer (some ⟨w.heap.size, 0, none⟩) | 21 => zz = .pointer (some ⟨w1.heap.size, 0, none⟩) | 22 => zz = .pointer (some ⟨w1.heap.size, 0, none⟩) | 23 => zz = .pointer (some ⟨w1.heap.size, 0, none⟩) | 25 => zz = .bool true | 26 => zz = .bool false | 27 => zz = .bool false | 14 => ∃ aa cc, zz = .slice aa l'.length cc | _ => True) li xs W1) (fun | 0 => u23 | 1 => u24 | 2 => u25 | 3 => u26 | 4 => u27 | 5 => u28 | 6 => u29 | 7 => u30 | 8 => u31 | 9 => u32 | 10 => u33 | 11 => u34 | 12 => u35 | 13 => u36 | 14 => u37 | 15 => u38 | 16 => u39 | 17 => u40 | 18 => u41 | 19 => u42 | 20 => u43 | 21 => u44 | 22 => u45 | 23 => u46 | 24 => u47 | 25 => u48 | 26 => u49 | 27 => u50 | _ => undef) (by repeat (first | exact trivial | refine ⟨fun _ _ => rfl, ?_⟩)) ⟨fun _ h => (by cases h), (Frm.refl _ _).drew, fun _ _ h => (by cases h), fun _ => ⟨hT.grow (Below.refl _ _).drew, hR.grow (Below.refl _ _).drew⟩, fun h => (by cases h), fun h => (by cases h), fun h => (by cases h)⟩ ⟨?_, ?_, ?_, ?_, ?_, ?_, ?_, ?_, ?_, ?_, ?_, ?_, ?_, ?_, ?_, ?_, ?_, ?_, ?_, ?_, ?_, ?_, ?_, ?_, ?_, ?_, ?_, ?_, trivial⟩ ?_
      · intro li xs W1 hI hli hp K hK
        clear hp
        go_simp
        exact hK _ _ (hI.mark 0 _ (by first | rfl | simp) (fun h => absurd h (by decide)) (by decide))
      · intro li xs W1 hI hli hp K hK
        clear hp
        go_simp
        exact hK _ _ (hI.mark 1 _ (by first | rfl | simp) (fun h => absurd h (by decide)) (by decide))
      · intro li xs W1 hI hli hp K hK
        clear hp
        go_simp
        exact hK _ _ (hI.mark 2 _ (by first | rfl | simp) (fun h => absurd h (by decide)) (by decide))
      · intro li xs W1 hI hli hp K hK
        clear hp
        go_simp
        exact hK _ _ (hI.mark 3 _ (by first | rfl | simp) (fun h => absurd h (by decide)) (by decide))
      · intro li xs W1 hI hli hp K hK
        have q2 : li 2 = true := hp.1 rfl
        have h2 : xs 2 = .slice (some ⟨g, off, none⟩) az.length cv := hI.det 2 q2
        have q3 : li 3 = true := hp.2.1 rfl
        have h3 : xs 3 = .int .i64 (j : Int) := hI.det 3 q3
        clear hp
        simp only [h2, h3] at hK
        go_simp
        exact hK _ _ (hI.mark 4 _ (by first | rfl | simp) (fun h => absurd h (by decide)) (by decide))
      · intro li xs W1 hI hli hp K hK
        have q4 : li 4 = true := hp.1 rfl
        have h4 : xs 4 = .pointer (some ⟨g, off + j * 3, none⟩) := hI.det 4 q4
        clear hp
        have e0 : W1.cell? ⟨g, off + j * 3, none⟩ = some (.int .i64 kind) := (World.cell?_of_block (hI.frm.block g (by omega) hnS)).trans c0
        have e1 : W1.cell? ⟨g, off + j * 3 + 1, none⟩ = some (.int .i64 k) := (World.cell?_of_block (hI.frm.block g (by omega) hnS)).trans c1
        have e2 : W1.cell? ⟨g, off + j * 3 + 2, none⟩ = some (.int .i64 val) := (World.cell?_of_block (hI.frm.block g (by omega) hnS)).trans c2
        simp only [h4] at hK
        go_simp
        exact hK _ _ (hI.mark 5 _ (by first | rfl | simp) (fun h => absurd h (by decide)) (by decide))
      · intro li xs W1 hI hli hp K hK
        have q0 : li 0 = true := hp.1 rfl
        have h0 : xs 0 = .pointer (some ⟨w.heap.size, 0, none⟩) := hI.det 0 q0
        have q1 : li 1 = true := hp.2.1 rfl
        have h1 : xs 1 = .pointer (some ⟨w1.heap.size, 0, none⟩) := hI.det 1 q1
        have q5 : li 5 = true := hp.2.2.1 rfl
        have h5 : xs 5 = .agg #[.int .i64 kind, .int .i64 k, .int .i64 val] := hI.det 5 q5
        clear hp
        simp only [h0, h1, h5] at hK
        go_simp
        obtain ⟨hTi, hRi⟩ := hI.pre hli
        refine (act_any w.heap.size w1.heap.size l kind k val W1 hTi hRi hne (by omega) hr).mono ?_
        rw [HS.out]
        rintro e w2 ⟨rfl, hT2, hR2, hF2⟩
        exact hK _ _ (hI.call6 _ rfl hli hT2 hR2 hF2)
      · intro li xs W1 hI hli hp K hK
        have q6 : li 6 = true := hp.1 rfl
        have h6 : xs 6 = .bool true := hI.det 6 q6
        clear hp
        simp only [h6] at hK
        go_simp
        exact hK _ _ (hI.mark 7 _ (by first | rfl | simp) (fun _ => q6) (by decide))
      · intro li xs W1 hI hli hp K hK
        have q7 : li 7 = true := hp.1 rfl
        have h7 : xs 7 = .bool false := hI.det 7 q7
        have q6 : li 6 = true := hp.2.1 rfl
        have h6 : xs 6 = .bool true := hI.det 6 q6
        clear hp
        simp only [h7, h6] at hK
        go_simp
        exact hK _ _ (hI.mark 8 _ (by first | rfl | simp) (fun _ => q6) (by decide))
      · intro li xs W1 hI hli hp K hK
        have q8 : li 8 = true := hp.1 rfl
        have h8 : xs 8 = .bool false := hI.det 8 q8
        have q6 : li 6 = true := hI.late 8 (by decide) q8
        clear hp
        simp only [h8] at hK
        go_simp
        exact hK _ _ (hI.mark 9 _ (by first | rfl | simp) (fun _ => q6) (by decide))
      · intro li xs W1 hI hli hp K hK
        have q9 : li 9 = true := hp.1 rfl
        have h9 : xs 9 = .pointer (some ⟨w.heap.size, 0, none⟩) := hI.det 9 q9
        have q8 : li 8 = true := hp.2.1 rfl
        have h8 : xs 8 = .bool false := hI.det 8 q8
        have q6 : li 6 = true := hI.late 9 (by decide) q9
        clear hp
        simp only [h9, h8] at hK
        go_simp
        refine (Len_any (some ⟨w.heap.size, 0, none⟩) l' W1 (.inr ⟨_, rfl, (hI.post q6).1⟩)).mono ?_
        rintro e w2 ⟨rfl, rfl⟩
        exact hK _ _ (hI.mark 10 _ rfl (fun _ => q6) (by decide))
      · intro li xs W1 hI hli hp K hK
        have q8 : li 8 = true := hp.1 rfl
        have h8 : xs 8 = .bool false := hI.det 8 q8
        have q6 : li 6 = true := hI.late 8 (by decide) q8
        clear hp
        simp only [h8] at hK
        go_simp
        exact hK _ _ (hI.mark 11 _ (by first | rfl | simp) (fun _ => q6) (by decide))
      · intro li xs W1 hI hli hp K hK
        have q11 : li 11 = true := hp.1 rfl
        have h11 : xs 11 = .pointer (some ⟨w1.heap.size, 0, none⟩) := hI.det 11 q11
        have q8 : li 8 = true := hp.2.1 rfl
        have h8 : xs 8 = .bool false := hI.det 8 q8
        have q6 : li 6 = true := hI.late 11 (by decide) q11
        clear hp
        simp only [h11, h8] at hK
        go_simp
        exact hK _ _ (hI.mark 12 _ (by first | rfl | simp) (fun _ => q6) (by decide))
      · intro li xs W1 hI hli hp K hK
        have q12 : li 12 = true := hp.1 rfl
        have h12 : xs 12 = .pointer (some ⟨w1.heap.size, 0, none⟩) := hI.det 12 q12
        have q8 : li 8 = true := hp.2.1 rfl
        have h8 : xs 8 = .bool false := hI.det 8 q8
        have q6 : li 6 = true := hI.late 12 (by decide) q12
        clear hp
        simp only [h12, h8] at hK
        go_simp
        exact hK _ _ (hI.mark 13 _ (by first | rfl | simp) (fun _ => q6) (by decide))
      · intro li xs W1 hI hli hp K hK
        have q13 : li 13 = true := hp.1 rfl
        have h13 : xs 13 = .pointer (some ⟨w1.heap.size, 0, none⟩) := hI.det 13 q13
        have q8 : li 8 = true := hp.2.1 rfl
        have h8 : xs 8 = .bool false := hI.det 8 q8
        have q6 : li 6 = true := hI.late 13 (by decide) q13
        clear hp
        obtain ⟨ak, ck, av2, cv2, hb, hsk, hsv⟩ := (hI.post q6).2.open
        obtain ⟨e0, e1, _, _⟩ := two_cells hb
        simp only [h13, h8] at hK
        go_simp
        exact hK _ _ (hI.mark 14 _ ⟨_, _, rfl⟩ (fun _ => q6) (by decide))
      · intro li xs W1 hI hli hp K hK
        have q14 : li 14 = true := hp.1 rfl
        obtain ⟨aa, cc, h14⟩ : ∃ aa cc, xs 14 = .slice aa l'.length cc := hI.det 14 q14
        have q8 : li 8 = true := hp.2.1 rfl
        have h8 : xs 8 = .bool false := hI.det 8 q8
        have q6 : li 6 = true := hI.late 14 (by decide) q14
        clear hp
        simp only [h14, h8] at hK
        go_simp
        exact hK _ _ (hI.mark 15 _ (by first | rfl | simp) (fun _ => q6) (by decide))
      · intro li xs W1 hI hli hp K hK
        have q10 : li 10 = true := hp.1 rfl
        have h10 : xs 10 = .int .i64 (l'.length : Int) := hI.det 10 q10
        have q15 : li 15 = true := hp.2.1 rfl
        have h15 : xs 15 = .int .i64 (l'.length : Int) := hI.det 15 q15
        have q8 : li 8 = true := hp.2.2.1 rfl
        have h8 : xs 8 = .bool false := hI.det 8 q8
        have q6 : li 6 = true := hI.late 15 (by decide) q15
        clear hp
        simp only [h10, h15, h8] at hK
        go_simp
        exact hK _ _ (hI.mark 16 _ (by first | rfl | simp) (fun _ => q6) (by decide))
      · intro li xs W1 hI hli hp K hK
        have q8 : li 8 = true := hp.1 rfl
        have h8 : xs 8 = .bool false := hI.det 8 q8
        have q16 : li 16 = true := hp.2.1 rfl
        have h16 : xs 16 = .bool false := hI.det 16 q16
        have q6 : li 6 = true := hI.late 16 (by decide) q16
        clear hp
        simp only [h8, h16] at hK
        go_simp
        exact hK _ _ (hI.mark 17 _ (by first | rfl | simp) (fun _ => q6) (by decide))
      · intro li xs W1 hI hli hp K hK
        have q17 : li 17 = true := hp.1 rfl
        have h17 : xs 17 = .bool false := hI.det 17 q17
        have q10 : li 10 = true := hp.2.1 rfl
        have h10 : xs 10 = .int .i64 (l'.length : Int) := hI.det 10 q10
        have q6 : li 6 = true := hI.late 17 (by decide) q17
        clear hp
        simp only [h17, h10] at hK
        go_simp
        exact hK _ _ (hI.mark 18 _ (by first | rfl | simp) (fun _ => q6) (by decide))
      · intro li xs W1 hI hli hp K hK
        have q18 : li 18 = true := hp.1 rfl
        have h18 : xs 18 = .bool false := hI.det 18 q18
        have q6 : li 6 = true := hI.late 18 (by decide) q18
        clear hp
        simp only [h18] at hK
        go_simp
        exact hK _ _ (hI.mark 19 _ (by first | rfl | simp) (fun _ => q6) (by decide))
      · intro li xs W1 hI hli hp K hK
        have q19 : li 19 = true := hp.1 rfl
        have h19 : xs 19 = .pointer (some ⟨w.heap.size, 0, none⟩) := hI.det 19 q19
        have q18 : li 18 = true := hp.2.1 rfl
        have h18 : xs 18 = .bool false := hI.det 18 q18
        have q6 : li 6 = true := hI.late 19 (by decide) q19
        clear hp
        simp only [h19, h18] at hK
        go_simp
        refine (Keys_any (some ⟨w.heap.size, 0, none⟩) l' W1 (.inr ⟨_, rfl, (hI.post q6).1⟩) (by omega)).mono ?_
        rintro e w2 ⟨vv, rfl, hrow, hB2⟩
        rw [ints1_eq] at hrow
        exact hK _ _ ((hI.grow q6 hB2).put20 _ trivial q6 (Sl.of_row (b := W1.heap.size) (e := 3) (by rw [hlk]; exact hrow)))
      · intro li xs W1 hI hli hp K hK
        have q18 : li 18 = true := hp.1 rfl
        have h18 : xs 18 = .bool false := hI.det 18 q18
        have q6 : li 6 = true := hI.late 18 (by decide) q18
        clear hp
        simp only [h18] at hK
        go_simp
        exact hK _ _ (hI.mark 21 _ (by first | rfl | simp) (fun _ => q6) (by decide))
      · intro li xs W1 hI hli hp K hK
        have q21 : li 21 = true := hp.1 rfl
        have h21 : xs 21 = .pointer (some ⟨w1.heap.size, 0, none⟩) := hI.det 21 q21
        have q18 : li 18 = true := hp.2.1 rfl
        have h18 : xs 18 = .bool false := hI.det 18 q18
        have q6 : li 6 = true := hI.late 21 (by decide) q21
        clear hp
        simp only [h21, h18] at hK
        go_simp
        exact hK _ _ (hI.mark 22 _ (by first | rfl | simp) (fun _ => q6) (by decide))
      · intro li xs W1 hI hli hp K hK
        have q22 : li 22 = true := hp.1 rfl
        have h22 : xs 22 = .pointer (some ⟨w1.heap.size, 0, none⟩) := hI.det 22 q22
        have q18 : li 18 = true := hp.2.1 rfl
        have h18 : xs 18 = .bool false := hI.det 18 q18
        have q6 : li 6 = true := hI.late 22 (by decide) q22
        clear hp
        simp only [h22, h18] at hK
        go_simp
        exact hK _ _ (hI.mark 23 _ (by first | rfl | simp) (fun _ => q6) (by decide))
      · intro li xs W1 hI hli hp K hK
        have q23 : li 23 = true := hp.1 rfl
        have h23 : xs 23 = .pointer (some ⟨w1.heap.size, 0, none⟩) := hI.det 23 q23
        have q18 : li 18 = true := hp.2.1 rfl
        have h18 : xs 18 = .bool false := hI.det 18 q18
        have q6 : li 6 = true := hI.late 23 (by decide) q23
        clear hp
        obtain ⟨ak, ck, av2, cv2, hb, hsk, hsv⟩ := (hI.post q6).2.open
        obtain ⟨e0, e1, _, _⟩ := two_cells hb
        simp only [h23, h18] at hK
        go_simp
        exact hK _ _ (hI.put24 _ trivial q6 hsk)
      · intro li xs W1 hI hli hp K hK
        have q20 : li 20 = true := hp.1 rfl
        have q24 : li 24 = true := hp.2.1 rfl
        have q18 : li 18 = true := hp.2.2.2.1 rfl
        have h18 : xs 18 = .bool false := hI.det 18 q18
        have q6 : li 6 = true := hI.late 24 (by decide) q24
        clear hp
        simp only [h18] at hK
        go_simp
        refine (rows_any (xs 20) (xs 24) _ _ W1 (hI.s20 q20) (hI.s24 q24) (by omega)).mono ?_
        rintro e w2 ⟨rfl, m, rfl⟩
        rw [decide_eq_true rfl]
        exact hK _ _ ((hI.grow q6 (dn (Below.refl _ _) m)).mark 25 _ rfl (fun _ => q6) (by decide))
      · intro li xs W1 hI hli hp K hK
        have q25 : li 25 = true := hp.1 rfl
        have h25 : xs 25 = .bool true := hI.det 25 q25
        have q18 : li 18 = true := hp.2.1 rfl
        have h18 : xs 18 = .bool false := hI.det 18 q18
        have q6 : li 6 = true := hI.late 25 (by decide) q25
        clear hp
        simp only [h25, h18] at hK
        go_simp
        exact hK _ _ (hI.mark 26 _ (by first | rfl | simp) (fun _ => q6) (by decide))
      · intro li xs W1 hI hli hp K hK
        have q18 : li 18 = true := hp.1 rfl
        have h18 : xs 18 = .bool false := hI.det 18 q18
        have q26 : li 26 = true := hp.2.1 rfl
        have h26 : xs 26 = .bool false := hI.det 26 q26
        have q6 : li 6 = true := hI.late 26 (by decide) q26
        clear hp
        simp only [h18, h26] at hK
        go_simp
        exact hK _ _ (hI.mark 27 _ (by first | rfl | simp) (fun _ => q6) (by decide))
      · intro li xs W1 hI hall
        have h27 : xs 27 = .bool false := hI.det 27 (hall 27 (by simp))
        simp only [h27]
        obtain ⟨hTp, hRp⟩ := hI.post (hall 6 (by simp))
        have hBp : Below w.heap.size w W1 := hB.trans (hI.frm.below hB.size (fun k hk hS => by omega))
        clear hI hall
        go_wp2
        go_roundw
        case rel => exact ⟨j + 1, by go_num, by omega, by omega, by rw [HP.out]; exact hTp, by rw [HP.out]; exact hRp, hBp⟩
        case measure => simp [intOf]; omega
    · have hend : (j < az.length ∧ ¬ j < 150) ∨ ¬ j < az.length := by omega
      clear hgo hjl
      obtain ⟨l, hl⟩ : ∃ l, plays (az.take j) [] = l := ⟨_, rfl⟩
      rw [hl] at hT hR hpl
      clear hl
      have hll : l.length ≤ 150 := by omega
      have HF : Hid (fromL (-9223372036854775808) l = l) := fromL_lo hT.lo
      have hlk : (keysL l).length = l.length := by simp [keysL]
      have hlv : (valsL l).length = l.length := by simp [valsL]
      have HT : Hid (l.take (1000 : Int).toNat = l) := List.take_of_length_le (by show _ ≤ 1000; omega)
      clear HC hpl hj
      rcases hend with ⟨h1, h2⟩ | h1
      all_goals
        go_wp2_with fail
        refine (All_any (some ⟨w.heap.size, 0, none⟩) wr).mono ?_
        rintro e w2 ⟨rfl, rfl⟩
        go_wp2_with fail
        refine (toldSl_any (some ⟨w.heap.size, 0, none⟩) l _ 1000 wr (.inr ⟨_, rfl, hT⟩) (by omega) (by decide) (by decide)).mono ?_
        rw [HF.out, HT.out]
        rintro e w3 ⟨vk, vv, rfl, hrk, hrv, hB3⟩
        obtain ⟨ak, ck, av', cv', hb, hsk, hsv⟩ := (hR.grow hB3).open
        obtain ⟨c0, c1, _, _⟩ := two_cells hb
        have hB4 : Below w.heap.size w w3 := hB.trans (hB3.mono hB.size)
        clear hT hR
        go_wp2_with (first | (go_at_call_of 12 (vk); refine (rows_any vk _ _ _ w3 hrk hsk (by omega)).mono ?_; rintro e w4 ⟨rfl, m4, rfl⟩; have hsv4 := hsv.grow (dn (Below.refl _ _) m4); have hrv4 := hrv.grow (dn (Below.refl _ _) m4); rw [decide_eq_true rfl]; clear hrk) | (go_at_call_of 12 (vv); refine (rows_any vv _ _ _ _ hrv4 hsv4 (by omega)).mono ?_; rintro e w5 ⟨rfl, m5, rfl⟩; rw [decide_eq_true rfl]) | (go_at_call 16; refine (known_any _).mono ?_; rintro e w6 ⟨rfl, hB6⟩))
        go_ret
        have hB5 := dn hB4 (m4 + m5)
        exact ⟨rfl, hB5.trans (hB6.mono hB5.size)⟩

end Go.Proofs.Ytgafmckiomhceaa
