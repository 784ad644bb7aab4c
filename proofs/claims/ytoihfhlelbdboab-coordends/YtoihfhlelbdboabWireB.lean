/- wire's rows: layByte, layRow of bytes. For rows of up to 2^39 bytes. -/
import Derived.Test.YtoihfhlelbdboabWireA
namespace Go.Proofs.Ytoihfhlelbdboab
open Go.RowKit Go.Dig Go.Inv Go.Oct

theorem spot_none {W : World} {a : Addr} {v : Value} (h : W.cell? a = some v) : a.spot = none := by
  cases hs : a.spot with
  | none => rfl
  | some z =>
    simp [World.cell?, hs] at h
    split at h <;> cases h
theorem Rowed.at {w : World} {ao : Option Addr} {P : List Int} {cap : Nat} (h : Rowed w ao P cap) (hp : P ≠ []) : ∃ b o, ao = some ⟨b, o, none⟩ ∧ ∀ j, j < P.length → w.cell? ⟨b, o + j, none⟩ = some (.int .u8 (P.getD j 0)) := by
  rcases h with ⟨_, h0, _⟩ | ⟨⟨b, o, s⟩, e, hc⟩
  · exact absurd h0 hp
  · have h0 := hc 0 (List.length_pos_iff.2 hp)
    have hs := spot_none h0
    have : s = none := by
      cases s with
      | none => rfl
      | some s => simp [Addr.add] at hs
    subst this
    exact ⟨b, o, e, fun j hj => by have := hc j hj; rwa [addr_add] at this⟩
/-- a row is none of the Writer's -/
def Apart (ao : Option Addr) (g : Nat) (v : Value) : Prop := ∀ ad, ao = some ad → ad.block ≠ g ∧ v.ownBlock ≠ some ad.block

set_option maxHeartbeats 1000000 in
theorem layByte_any (base g : Nat) (v : Value) (L : List Int) (x : Int) (w : World) (h : Wri w base g v L) (hb : L.length < 1099511627776) :
    Calls Try.prog 46 #[.pointer (some ⟨g, 0, none⟩), .int .u8 x] w fun e w' => e = .returned (.tuple #[]) ∧ ∃ v', Wri w' base g v' (L ++ [x]) ∧ Wr g w w' v v' := by
  have HW : Hid (Wri w base g v L) := h
  clear h
  go_enter Try.func46, Try.ntmps46
  go_wp2_with fail
  refine (wRaw_any base g v L [x] (some ⟨w.heap.size, 0, none⟩) 1 1 _ (HW.out.alloc _) rfl (one_byte _ _ _ _) (by simp; omega)).mono ?_
  rintro e w1 ⟨rfl, v1, hw1, hr1⟩
  have HW1 : Hid (∃ v', Wri w1 base g v' (L ++ [x]) ∧ Wr g w w1 v v') := ⟨v1, hw1, (Wr.alloc _ _ _ _).trans hr1⟩
  clear hw1 hr1 HW
  go_wp2_with fail
  refine bodyPost_end (v := .tuple #[]) (by simp [results, Try.results46, go_sem]) rfl ?_
  exact ⟨rfl, HW1.out⟩
theorem nums_one (x : Int) : nums [x] = num x := by simp [nums]
set_option maxRecDepth 10000 in
set_option maxHeartbeats 1000000 in
theorem layRowB_any (base g : Nat) (v : Value) (L P : List Int) (ao : Option Addr) (n cap : Nat) (w : World) (h : Wri w base g v L) (hn : n = P.length) (hP : Rowed w ao P cap) (hA : P ≠ [] → Apart ao g v) (hb : L.length + P.length < 549755813888) :
    Calls Try.prog 45 #[.pointer (some ⟨g, 0, none⟩), .slice ao n cap, .func (.func 46) #[] #[]] w fun e w' => e = .returned (.tuple #[]) ∧ ∃ v', Wri w' base g v' (L ++ num n ++ P) ∧ Wr g w w' v v' := by
  have HW : Hid (Wri w base g v L) := h
  have HN : Hid (n = P.length) := hn
  have HP : Hid (Rowed w ao P cap) := hP
  have HA : Hid (P ≠ [] → Apart ao g v) := hA
  have hbn : n < 549755813888 := by omega
  clear h hn hP hA
  go_enter Try.func45, Try.ntmps45
  go_wp2_with fail
  refine (wNums_new base g v L [(n : Int)] w.heap.size 1 w HW.out rfl ⟨inI_lit (by omega) (by omega), trivial⟩ (by simp; omega)).mono ?_
  rintro e w1 ⟨rfl, v1, hw1, hr1⟩
  rw [nums_one] at hw1
  have HL : Hid ((L ++ num n).length + P.length < 549755813888 + 9) := by
    have := num_length n
    show _ < _
    rw [List.length_append]; omega
  have HS : Hid (∀ j, j < P.length → ∃ b o, ao = some ⟨b, o, none⟩ ∧ b < w.heap.size ∧ w.cell? ⟨b, o + j, none⟩ = some (.int .u8 (P.getD j 0))) := fun j hj => by
    obtain ⟨b, o, e, hc⟩ := HP.out.at (fun e => by rw [e] at hj; cases hj)
    exact ⟨b, o, e, World.block_lt_of_cell? w _ (hc j hj), hc j hj⟩
  have HW1 : Hid (Wri w1 base g v1 (L ++ num n ++ P.take 0)) := by show Wri _ _ _ _ _; simpa using hw1
  have HR1 : Hid (Wr g w w1 v v1) := hr1
  clear hw1 hr1 HW HP
  go_wp2_with fail
  go_loopw [15] (fun i wr => ∃ (k : Nat) (u : Value), k ≤ n ∧ i = .int .i64 (k : Int) ∧ Hid (Wri wr base g u (L ++ num n ++ P.take k)) ∧ Hid (Wr g w wr v u)) (fun i _ => n - (intOf i).toNat)
  case atStart => exact ⟨0, v1, by omega, rfl, HW1, HR1⟩
  case round =>
    clear HW1 HR1
    obtain ⟨k, u, hk, rfl, HW, HG⟩ := hrel
    by_cases hlt : k < n
    · obtain ⟨b, o, rfl, hbl, hc⟩ := HS.out k (by rw [← HN.out]; exact hlt)
      have hap := HA.out (fun e => by have h0 := HN.out; rw [e] at h0; simp at h0; omega) _ rfl
      have hcell : wr.cell? ⟨b, o + k, none⟩ = some (.int .u8 (P.getD k 0)) := (World.cell?_of_block (HG.out.block b hbl hap.1 hap.2)).trans hc
      have hl1 : (L ++ num n ++ P.take k).length < 1099511627776 := by
        have := HL.out
        have h2 : (P.take k).length ≤ P.length := by rw [List.length_take]; omega
        rw [List.length_append]; omega
      obtain ⟨x, hx⟩ : ∃ x, x = P.getD k 0 := ⟨_, rfl⟩
      rw [← hx] at hcell
      have HX : Hid (x = P.getD k 0) := hx
      clear hx hc hap
      go_wp2_with fail
      refine (layByte_any base g u _ x wr HW.out hl1).mono ?_
      rintro e w2 ⟨rfl, v2, hw2, hr2⟩
      have HW2 : Hid (Wri w2 base g v2 (L ++ num n ++ P.take (k + 1))) := by
        have hkP : k < P.length := by rw [← HN.out]; exact hlt
        have e : P.take (k + 1) = P.take k ++ [x] := by rw [HX.out, List.take_add_one, List.getElem?_eq_getElem hkP, List.getD, List.getElem?_eq_getElem hkP]; rfl
        show Wri _ _ _ _ _
        rw [e, ← List.append_assoc]; exact hw2
      have HG2 : Hid (Wr g w w2 v v2) := HG.out.trans hr2
      clear HW HG hw2 hr2 hcell HX
      go_wp2_with fail
      exact ⟨⟨k + 1, v2, by omega, rfl, HW2, HG2⟩, by simp [intOf]; omega⟩
    · obtain rfl : k = n := by omega
      go_wp2_with fail
      refine bodyPost_end (v := .tuple #[]) (by simp [results, Try.results45, go_sem]) rfl ?_
      refine ⟨rfl, u, ?_, HG.out⟩
      have := HW.out
      rwa [List.take_of_length_le (by rw [HN.out]; exact Nat.le_refl _)] at this
end Go.Proofs.Ytoihfhlelbdboab
