/- slices.Equal of votes. -/
import Derived.Test.YtkjocpadmlobgaaWireS
import Derived.Test.YtkjocpadmlobgaaWireTk
namespace Go.Proofs.Ytkjocpadmlobgaa
open Go.RowKit Go.Dig Go.Inv Go.Oct
set_option linter.unusedVariables false

set_option maxRecDepth 10000 in
set_option maxHeartbeats 2000000 in
theorem slicesEqual_any (a1 a2 : Option Addr) (n1 n2 c1 c2 : Nat) (ys zs : List VoteR) (w : World) (hn1 : n1 = ys.length) (hn2 : n2 = zs.length) (h1 : VotesAt w a1 ys) (h2 : VotesAt w a2 zs) (hl : ys.length < 1073741824) :
    Calls Try.prog 53 #[.slice a1 n1 c1, .slice a2 n2 c2] w fun e w' => e = .returned (.bool (votesEqB ys zs)) ∧ Below w.heap.size w w' := by
  have HN1 : Hid (n1 = ys.length) := hn1
  have HN2 : Hid (n2 = zs.length) := hn2
  have hl1 : n1 < 1073741824 := by omega
  by_cases hne : n1 = n2
  · subst hne
    have HS1 : Hid (∀ j, (hj : j < ys.length) → ∃ b o, a1 = some ⟨b, o, none⟩ ∧ b < w.heap.size ∧ VoteAt w b (o + j * 68) ys[j]) := fun j hj => by
      obtain ⟨b, o, e, hc⟩ := h1 (fun e => by rw [e] at hj; cases hj)
      exact ⟨b, o, e, (hc j hj).lt, hc j hj⟩
    have HS2 : Hid (∀ j, (hj : j < zs.length) → ∃ b o, a2 = some ⟨b, o, none⟩ ∧ b < w.heap.size ∧ VoteAt w b (o + j * 68) zs[j]) := fun j hj => by
      obtain ⟨b, o, e, hc⟩ := h2 (fun e => by rw [e] at hj; cases hj)
      exact ⟨b, o, e, (hc j hj).lt, hc j hj⟩
    have HE : Hid (votesEqB ys zs = ((List.range n1).all fun i => voteEqB (ys.getD i VoteR.zero) (zs.getD i VoteR.zero))) := by show _ = _; unfold votesEqB; rw [decide_eq_true (by omega), Bool.true_and, hn1]
    obtain ⟨n, hn⟩ : ∃ n, n1 = n := ⟨_, rfl⟩
    rw [hn] at HN1 HN2 HE hl1 ⊢
    clear h1 h2 hn1 hn2 hl hn
    go_enter Try.func53, Try.ntmps53
    go_wp2_with fail
    go_loopw [13] (fun iv wr => ∃ i : Nat, i ≤ n ∧ iv = .int .i64 (i : Int) ∧ Below w.heap.size w wr ∧ Hid (∀ j, j < i → voteEqB (ys.getD j VoteR.zero) (zs.getD j VoteR.zero) = true)) (fun iv _ => n - (intOf iv).toNat)
    case atStart => exact ⟨0, Nat.zero_le _, rfl, Below.refl _ _, fun j hj => by omega⟩
    case round =>
      obtain ⟨i, hi, rfl, hBr, HJ⟩ := hrel
      by_cases hlt : i < n
      · have hlt' : (i : Int) < (n : Int) := by omega
        have k1 : i < ys.length := by have := HN1.out; omega
        have k2 : i < zs.length := by have := HN2.out; omega
        obtain ⟨b1, o1, e1, hb1, hv1⟩ := HS1.out i k1
        obtain ⟨b2, o2, e2, hb2, hv2⟩ := HS2.out i k2
        subst e1 e2
        have HV1 : Hid (VoteAt wr b1 (o1 + i * 68) ys[i]) := hv1.same (hBr.block _ hb1)
        have HV2 : Hid (VoteAt wr b2 (o2 + i * 68) zs[i]) := hv2.same (hBr.block _ hb2)
        have hb1 : b1 < wr.heap.size := HV1.out.lt
        have hb2 : b2 < wr.heap.size := HV2.out.lt
        have HD : Hid (voteEqB (ys.getD i VoteR.zero) (zs.getD i VoteR.zero) = voteEqB ys[i] zs[i]) := by show _ = _; rw [List.getD, List.getD, List.getElem?_eq_getElem k1, List.getElem?_eq_getElem k2]; rfl
        obtain ⟨y, hy⟩ : ∃ y, ys[i] = y := ⟨_, rfl⟩
        obtain ⟨z, hz⟩ : ∃ z, zs[i] = z := ⟨_, rfl⟩
        rw [hy] at HV1 HD
        rw [hz] at HV2 HD
        clear hv1 hv2 hy hz k1 k2
        obtain ⟨eb, HEB⟩ : ∃ eb, Hid (voteEqB y z = eb) := ⟨_, rfl⟩
        go_wp2_with fail
        refine wp_region_growG (by kernel_rfl) (by kernel_rfl) (fun xs => { tmps := (Value.slice (some (⟨b1, o1, none⟩ : Addr)) n c1 :: Value.slice (some (⟨b2, o2, none⟩ : Addr)) n c2 :: undef :: undef :: u4 :: Value.int IntKind.i64 (i : Int) :: Value.slice (some (⟨b1, o1, none⟩ : Addr)) n c1 :: Value.int IntKind.i64 (n : Int) :: Value.slice (some (⟨b2, o2, none⟩ : Addr)) n c2 :: Value.int IntKind.i64 (n : Int) :: Value.bool false :: Value.slice (some (⟨b1, o1, none⟩ : Addr)) n c1 :: Value.int IntKind.i64 (n : Int) :: Value.int IntKind.i64 (i : Int) :: Value.bool true :: Value.int IntKind.i64 (i : Int) :: xs 0 :: xs 1 :: xs 2 :: xs 3 :: xs 4 :: xs 5 :: xs 6 :: xs 7 :: xs 8 :: u25 :: []).toArray, defers := [] })
          (rvtSpec b1 o1 c1 b2 o2 c2 n i y z eb) (fun | 0 => u16 | 1 => u17 | 2 => u18 | 3 => u19 | 4 => u20 | 5 => u21 | 6 => u22 | 7 => u23 | 8 => u24 | _ => undef) (by repeat (first | exact trivial | refine ⟨fun _ _ => rfl, ?_⟩)) (by
          intro i y w w' h hs
          unfold rvtSpec at *
          split at hs <;> first | exact hs | exact trivial) ⟨?_, ?_, ?_, ?_, ?_, ?_, ?_, ?_, ?_, trivial⟩ ?_
        · intro xs W hB hp K hK
          rw [if_pos (wanted_none rfl _)]
          clear hp
          go_simp
          exact hK _ _ (Below.refl _ _) rfl
        · intro xs W hB hp K hK
          rw [if_pos (wanted_none rfl _)]
          clear hp
          go_simp
          exact hK _ _ (Below.refl _ _) rfl
        · intro xs W hB hp K hK
          rw [if_pos (wanted_none rfl _)]
          have h0 : xs 0 = .slice (some ⟨b1, o1, none⟩) n c1 := hp.1 rfl
          have h1 : xs 1 = .int .i64 (i : Int) := hp.2.1 rfl
          clear hp
          simp only [h0, h1] at hK ⊢
          clear h0 h1
          go_simp
          exact hK _ _ (Below.refl _ _) rfl
        · intro xs W hB hp K hK
          rw [if_pos (wanted_none rfl _)]
          have h2 : xs 2 = .pointer (some ⟨b1, o1 + i * 68, none⟩) := hp.1 rfl
          clear hp
          exact wp_load_vote _ rfl b1 (o1 + i * 68) h2 y (HV1.out.same (hB.block _ hb1)) (hK _ _ (Below.refl _ _) rfl)
        · intro xs W hB hp K hK
          rw [if_pos (wanted_none rfl _)]
          clear hp
          go_simp
          exact hK _ _ (Below.refl _ _) rfl
        · intro xs W hB hp K hK
          rw [if_pos (wanted_none rfl _)]
          clear hp
          go_simp
          exact hK _ _ (Below.refl _ _) rfl
        · intro xs W hB hp K hK
          rw [if_pos (wanted_none rfl _)]
          have h4 : xs 4 = .slice (some ⟨b2, o2, none⟩) n c2 := hp.1 rfl
          have h5 : xs 5 = .int .i64 (i : Int) := hp.2.1 rfl
          clear hp
          simp only [h4, h5] at hK ⊢
          clear h4 h5
          go_simp
          exact hK _ _ (Below.refl _ _) rfl
        · intro xs W hB hp K hK
          rw [if_pos (wanted_none rfl _)]
          have h6 : xs 6 = .pointer (some ⟨b2, o2 + i * 68, none⟩) := hp.1 rfl
          clear hp
          exact wp_load_vote _ rfl b2 (o2 + i * 68) h6 z (HV2.out.same (hB.block _ hb2)) (hK _ _ (Below.refl _ _) rfl)
        · intro xs W hB hp K hK
          rw [if_pos (wanted_none rfl _)]
          have h3 : xs 3 = .agg y.cells := hp.1 rfl
          have h7 : xs 7 = .agg z.cells := hp.2.1 rfl
          clear hp
          have heq := equalIn_vote2 y z
          rw [HEB.out] at heq
          simp only [h3, h7] at hK ⊢
          clear h3 h7
          go_simp
          exact hK _ _ (Below.refl _ _) rfl
        · intro xs W hB hs
          have h8 : xs 8 = .bool (!eb) := hs 8 (by simp)
          have hBW : Below w.heap.size w W := hBr.trans (hB.mono hBr.size)
          simp only [h8]
          cases eb
          · have HF : Hid (votesEqB ys zs = false) := by
              show _ = _
              rw [HE.out, List.all_eq_false]
              exact ⟨i, by simpa using hlt, by rw [HD.out, HEB.out]; decide⟩
            go_wp2_with fail
            go_ret
            exact ⟨by rw [HF.out]; rfl, hBW⟩
          · have HJ2 : Hid (∀ j, j < i + 1 → voteEqB (ys.getD j VoteR.zero) (zs.getD j VoteR.zero) = true) := fun j hj => by
              by_cases hji : j = i
              · subst hji; rw [HD.out, HEB.out]
              · exact HJ.out j (by omega)
            go_wp2_with fail
            go_roundw
            case rel => exact ⟨i + 1, by omega, by go_num, hBW, HJ2⟩
            case measure => simp [intOf]; omega
      · obtain rfl : i = n := by omega
        go_wp2_with fail
        go_ret
        refine ⟨congrArg (fun b => Ending.returned (Value.bool b)) (Eq.symm ?_), hBr⟩
        rw [HE.out, List.all_eq_true]
        exact fun j hj => HJ.out j (by simpa using hj)
  · have hne' : ¬ (n1 : Int) = (n2 : Int) := by omega
    have HE : Hid (votesEqB ys zs = false) := by show _ = _; unfold votesEqB; rw [decide_eq_false (by omega), Bool.false_and]
    clear h1 h2 hn1 hn2 hl
    go_enter Try.func53, Try.ntmps53
    go_wp2_with fail
    go_ret
    exact ⟨by rw [HE.out]; rfl, Below.refl _ _⟩
end Go.Proofs.Ytkjocpadmlobgaa
