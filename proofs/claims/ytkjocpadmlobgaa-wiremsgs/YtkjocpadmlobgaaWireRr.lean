/- The document's Reader (chapter 1): what was laid is read back. For rows of up to 2^38 bytes. -/
import Derived.Test.YtkjocpadmlobgaaWireNq
import Derived.Test.YtkjocpadmlobgaaRefM
namespace Go.Proofs.Ytkjocpadmlobgaa
open Go.RowKit Go.Dig Go.Inv Go.Oct
set_option linter.unusedVariables false

/-- the document's Reader, in which L is left; whether it erred -/
def RdR (w : World) (r : Nat) (L : List Int) (er : Bool) : Prop := ∃ (ao : Option Addr) (cap : Nat), w.heap[r]? = some (.cells #[.slice ao L.length cap, .bool er] 86 (0, 0)) ∧ Rowed w ao L cap ∧ L.length ≤ cap ∧ (∀ x ∈ L, 0 ≤ x ∧ x < 256) ∧ L.length < 274877906944 ∧ (∀ ad, ao = some ad → L ≠ [] → ad.block < r ∧ ad.spot = none) ∧ (er = true → L = [])
theorem Rowed.same2 {w w' : World} {ao : Option Addr} {L : List Int} {cap : Nat} (h : Rowed w ao L cap) (hs : ∀ ad, ao = some ad → L ≠ [] → w'.heap[ad.block]? = w.heap[ad.block]?) : Rowed w' ao L cap := by
  rcases h with h | ⟨ad, e, hc⟩
  · exact .inl h
  · refine .inr ⟨ad, e, fun j hj => ?_⟩
    have hb : (ad.add j).block = ad.block := by unfold Addr.add; split <;> rfl
    exact (World.cell?_of_block (a := ad.add j) (by rw [hb]; exact hs ad e (fun h => by rw [h] at hj; cases hj))).trans (hc j hj)
theorem RdR.lt {w : World} {r : Nat} {L : List Int} {er : Bool} (h : RdR w r L er) : r < w.heap.size := by obtain ⟨_, _, h, _⟩ := h; exact lt_blk h
theorem RdR.len {w : World} {r : Nat} {L : List Int} {er : Bool} (h : RdR w r L er) : L.length < 274877906944 := by obtain ⟨_, _, _, _, _, _, hl, _⟩ := h; exact hl
theorem RdR.same {w w' : World} {r : Nat} {L : List Int} {er : Bool} (h : RdR w r L er) (hs : ∀ k, k ≤ r → w'.heap[k]? = w.heap[k]?) : RdR w' r L er := by
  obtain ⟨ao, cap, hb, hR, hc, hy, hl, hne, he⟩ := h
  exact ⟨ao, cap, (hs r (Nat.le_refl _)).trans hb, hR.same2 (fun ad e h => hs _ (Nat.le_of_lt (hne ad e h).1)), hc, hy, hl, hne, he⟩
set_option maxRecDepth 10000 in
set_option maxHeartbeats 1000000 in
theorem rrBad_str (r : Nat) (L : List Int) (er : Bool) (w : World) (h : RdR w r L er) : Calls Try.prog 47 #[.pointer (some ⟨r, 0, none⟩)] w fun e w' => e = .returned (.tuple #[]) ∧ RdR w' r [] true ∧ Keeps r w w' ∧ w'.heap.size = w.heap.size := by
  obtain ⟨ao, cap, hb, hR, hc, hy, hl, hne, he⟩ := h
  obtain ⟨n, HN⟩ : ∃ n, Hid (L.length = n) := ⟨_, rfl⟩
  rw [HN.out] at hb
  have hb1 := set_blk hb 1 (.bool true)
  have c1 : w.cell? ⟨r, 1, none⟩ = some (.bool er) := (cell_blk hb _).trans rfl
  have f1 : w.frozen? ⟨r, 1, none⟩ = false := frozen_blk hb _
  have c0 : (w.setCell ⟨r, 1, none⟩ (.bool true)).cell? ⟨r, 0, none⟩ = some (.slice ao n cap) := (cell_blk hb1 _).trans rfl
  have f0 : (w.setCell ⟨r, 1, none⟩ (.bool true)).frozen? ⟨r, 0, none⟩ = false := frozen_blk hb1 _
  have HB3 : Hid (((w.setCell ⟨r, 1, none⟩ (.bool true)).setCell ⟨r, 0, none⟩ (.slice none 0 0)).heap[r]? = some (.cells #[.slice none 0 0, .bool true] 86 (0, 0))) := (set_blk hb1 0 _).trans rfl
  clear hb hb1 hR hc hy hl hne he
  go_enter Try.func47, Try.ntmps47
  go_wp2_with fail
  refine bodyPost_end (v := .tuple #[]) (by simp [results, Try.results47, go_sem]) rfl ?_
  exact ⟨rfl, ⟨none, 0, HB3.out, .inl ⟨rfl, rfl, rfl⟩, Nat.le_refl _, (fun x hx => by cases hx), by decide, (fun ad e => by cases e), fun _ => rfl⟩, ((Keeps.refl _ _).setCell _ _).setCell _ _, by simp [World.setCell]⟩
/-- bytes that were taken -/
def TookR (L L' D : List Int) (z : Int) (er er' : Bool) : Prop := ∀ D' R, z = (D'.length : Int) → L = D' ++ R → D = D' ∧ L' = R ∧ er' = er
theorem ownB_emptyR (w : World) : OwnB (w.alloc (.cells #[] 5)) w.heap.size (.slice (some ⟨w.heap.size, 0, none⟩) 0 0) [] :=
  ⟨rfl, .inr ⟨w.heap.size, 0, #[], rfl, Nat.le_refl _, alloc_blk _ _, Nat.le_refl _, Nat.zero_le _, rfl, rfl⟩⟩
/-- what Raw leaves -/
def RawPost (w : World) (r : Nat) (L : List Int) (er : Bool) (z : Int) (v' : Value) (w' : World) : Prop := ∃ D, OwnB w' w.heap.size v' D ∧ D.length ≤ L.length ∧ (D = [] ∨ (D.length : Int) = z) ∧ (∀ x ∈ D, 0 ≤ x ∧ x < 256) ∧ Keeps r w w' ∧ ∃ L' er', RdR w' r L' er' ∧ L'.length ≤ L.length ∧ (er' = false → (D.length : Int) = z) ∧ TookR L L' D z er er'
theorem rr_done {w w1 : World} {r k : Nat} {L : List Int} {v1 x0 : Value} (hrs : r < w.heap.size) (hW : Below w.heap.size w w1) (hO : OwnB w1 w.heap.size v1 (L.take k)) (hb1 : w1.heap[r]? = some (.cells #[x0, .bool false] 86 (0, 0)))
    (ao : Option Addr) (n cap : Nat) (hn : n = (L.drop k).length) (hR : Rowed w ao (L.drop k) cap) (hc : (L.drop k).length ≤ cap) (hy : ∀ x ∈ L, 0 ≤ x ∧ x < 256) (hl : L.length < 274877906944) (hne : ∀ ad, ao = some ad → L.drop k ≠ [] → ad.block < r ∧ ad.spot = none) (hk : (L.take k).length = k) :
    RawPost w r L false k v1 (w1.setCell ⟨r, 0, none⟩ (.slice ao n cap)) := by
  subst hn
  refine ⟨L.take k, hO.same (fun j hj => Below.heap_setCell _ _ _ _ (by have := (hO.lt j hj).1; simp; omega)), by rw [List.length_take]; omega, .inr (by rw [hk]), fun x hx => hy x (List.mem_of_mem_take hx), (Keeps.of_below hW).setCell _ _, L.drop k, false, ⟨ao, cap, (set_blk hb1 _ _).trans rfl, ?_, hc, fun x hx => hy x (List.mem_of_mem_drop hx), by rw [List.length_drop]; omega, hne, (fun e => by cases e)⟩, by rw [List.length_drop]; omega, fun _ => by rw [hk], fun D' R e1 e2 => ?_⟩
  · exact (hR.below hW (Nat.le_refl _)).same2 (fun ad e h => Below.heap_setCell _ _ _ _ (Nat.ne_of_lt (hne ad e h).1))
  · obtain rfl : k = D'.length := by omega
    subst e2
    exact ⟨List.take_left, List.drop_left, rfl⟩
set_option maxRecDepth 10000 in
set_option maxHeartbeats 4000000 in
theorem rrRaw_str (r : Nat) (L : List Int) (er : Bool) (z : Int) (w : World) (h : RdR w r L er) (hz : inI z) : Calls Try.prog 77 #[.pointer (some ⟨r, 0, none⟩), .int .i64 z] w fun e w' => ∃ v', e = .returned v' ∧ RawPost w r L er z v' w' := by
  have HH : Hid (RdR w r L er) := h
  have hrs := h.lt
  obtain ⟨ao, cap, hb, hR, hc, hy, hl, hne, he⟩ := h
  obtain ⟨n, HN⟩ : ∃ n, Hid (L.length = n) := ⟨_, rfl⟩
  rw [HN.out] at hb hc hl
  have c1 : w.cell? ⟨r, 1, none⟩ = some (.bool er) := (cell_blk hb _).trans rfl
  have c0 : w.cell? ⟨r, 0, none⟩ = some (.slice ao n cap) := (cell_blk hb _).trans rfl
  have HB : Hid (w.heap[r]? = some (.cells #[.slice ao n cap, .bool er] 86 (0, 0))) := hb
  have HR : Hid (Rowed w ao L cap) := hR
  have HY : Hid (∀ x ∈ L, 0 ≤ x ∧ x < 256) := hy
  have HNE : Hid (∀ ad, ao = some ad → L ≠ [] → ad.block < r ∧ ad.spot = none) := hne
  have HE : Hid (er = true → L = []) := he
  clear hb hR hy hne he
  by_cases hbad : z < 0 ∨ (n : Int) < z
  · have HT : Hid (TookR L [] [] z er true) := fun D' R e1 e2 => by
      have := congrArg List.length e2
      rw [HN.out, List.length_append] at this
      exfalso; omega
    go_enter Try.func77, Try.ntmps77
    by_cases h0 : z < 0
    · go_wp2_with fail
      refine (rrBad_str r L er w HH.out).mono ?_
      rintro e w2 ⟨rfl, hr2, hk2, hs2⟩
      have HX : Hid (RdR w2 r [] true ∧ Keeps r w w2) := ⟨hr2, hk2⟩
      obtain ⟨ao2, cap2, hb2, -⟩ := hr2
      have c2 : w2.cell? ⟨r, 1, none⟩ = some (.bool true) := (cell_blk hb2 _).trans rfl
      clear hb2 hk2 c0 c1
      go_wp2_with fail
      go_ret
      exact ⟨_, rfl, [], OwnB.nil _ _, Nat.zero_le _, .inl rfl, (fun x hx => by cases hx), HX.out.2, [], true, HX.out.1, Nat.zero_le _, (fun e => by cases e), HT.out⟩
    · have h1 : (n : Int) < z := by omega
      clear hbad
      go_wp2_with fail
      refine (rrBad_str r L er w HH.out).mono ?_
      rintro e w2 ⟨rfl, hr2, hk2, hs2⟩
      have HX : Hid (RdR w2 r [] true ∧ Keeps r w w2) := ⟨hr2, hk2⟩
      obtain ⟨ao2, cap2, hb2, -⟩ := hr2
      have c2 : w2.cell? ⟨r, 1, none⟩ = some (.bool true) := (cell_blk hb2 _).trans rfl
      clear hb2 hk2 c0 c1
      go_wp2_with fail
      go_ret
      exact ⟨_, rfl, [], OwnB.nil _ _, Nat.zero_le _, .inl rfl, (fun x hx => by cases hx), HX.out.2, [], true, HX.out.1, Nat.zero_le _, (fun e => by cases e), HT.out⟩
  obtain ⟨k, rfl, hkn⟩ : ∃ k : Nat, z = (k : Int) ∧ k ≤ n := ⟨z.toNat, by omega, by omega⟩
  have hk0 : ¬ (k : Int) < 0 := by omega
  have hkn' : ¬ (n : Int) < k := by omega
  clear hbad hz
  cases er
  case true =>
    have hL := HE.out rfl
    have hn0 : n = 0 := by rw [← HN.out, hL]; rfl
    obtain rfl : k = 0 := by omega
    have HL : Hid (L = []) := hL
    go_enter Try.func77, Try.ntmps77
    go_wp2_with fail
    go_ret
    exact ⟨_, rfl, [], OwnB.nil _ _, Nat.zero_le _, .inl rfl, (fun x hx => by cases hx), Keeps.refl _ _, L, true, HH.out, by rw [HL.out]; exact Nat.le_refl _, (fun e => by cases e), fun D' R e1 e2 => by
      obtain rfl : D' = [] := List.eq_nil_of_length_eq_zero (by omega)
      exact ⟨rfl, by rw [HL.out]; simpa using e2, rfl⟩⟩
  case false =>
    have hlt : (L.take k).length = k := by rw [List.length_take, HN.out]; omega
    have hld : (L.drop k).length = n - k := by rw [List.length_drop, HN.out]
    have HHL : Hid ((L.take k).length = k ∧ (L.drop k).length = n - k) := ⟨hlt, hld⟩
    have HRT : Hid (Rowed (w.alloc (.cells #[] 5)) ao (L.take k) cap) := (HR.out.take k).below (below_alloc _ _) (Nat.le_refl _)
    have HE0 : Hid (OwnB (w.alloc (.cells #[] 5)) w.heap.size (.slice (some ⟨w.heap.size, 0, none⟩) 0 0) []) := ownB_emptyR w
    have hs1 : (w.alloc (.cells #[] 5)).heap.size = w.heap.size + 1 := by simp
    have HB1 : Hid ((w.alloc (.cells #[] 5)).heap[r]? = some (.cells #[.slice ao n cap, .bool false] 86 (0, 0))) := ((below_alloc w _).block r hrs).trans HB.out
    have c01 : (w.alloc (.cells #[] 5)).cell? ⟨r, 0, none⟩ = some (.slice ao n cap) := (cell_blk HB1.out _).trans rfl
    clear hlt hld
    go_enter Try.func77, Try.ntmps77
    rcases HR.out with ⟨rfl, e2, rfl⟩ | ⟨⟨gb, go, sp⟩, rfl, hcl⟩
    · have HE2 : Hid (L = []) := e2
      clear e2
      go_wp2_with (at_builtin; refine wpList_app rfl _ _ rfl w.heap.size (.slice (some ⟨w.heap.size, 0, none⟩) 0 0) [] ?_ HE0.out none k 0 (L.take k) ?_ HHL.out.1.symm HRT.out ?_ ?_ ?_; rfl; rfl)
      case refine_3 => omega
      intro v1 w1 HO1 HG1
      have hW1 : Below w.heap.size w w1 := (below_alloc _ _).trans (HG1.out.below (by rw [hs1]; omega) (fun k hk => by simp [Value.ownBlock] at hk; omega))
      have HW1 : Hid (Below w.heap.size w w1 ∧ OwnB w1 w.heap.size v1 (L.take k)) := ⟨hW1, HO1.out⟩
      have hb1 : w1.heap[r]? = some (.cells #[.slice none n 0, .bool false] 86 (0, 0)) := (hW1.block r hrs).trans HB.out
      have c2 : w1.cell? ⟨r, 0, none⟩ = some (.slice none n 0) := (cell_blk hb1 _).trans rfl
      have f2 : w1.frozen? ⟨r, 0, none⟩ = false := frozen_blk hb1 _
      have HB1' : Hid (w1.heap[r]? = some (.cells #[.slice none n 0, .bool false] 86 (0, 0))) := hb1
      clear hb1 hW1 HO1 HG1 HE0 HRT c01 c0 c1 HB1
      go_wp2_with fail
      refine bodyPost_ret (results_tmp rfl _ _ _) rfl ⟨v1, rfl, ?_⟩
      have hd : L.drop k = [] := by rw [HE2.out]; simp
      exact rr_done hrs HW1.out.1 HW1.out.2 HB1'.out none (n - k) 0 HHL.out.2.symm (.inl ⟨rfl, hd, rfl⟩) (by rw [hd]; exact Nat.le_refl _) HY.out (by rw [HN.out]; exact hl) (fun ad e => by cases e) HHL.out.1
    · by_cases hL0 : L = []
      · have hn0 : n = 0 := by rw [← HN.out, hL0]; rfl
        obtain rfl : k = 0 := by omega
        have HL0 : Hid (L = []) := hL0
        clear hL0
        go_wp2_with (at_builtin; refine wpList_app rfl _ _ rfl w.heap.size (.slice (some ⟨w.heap.size, 0, none⟩) 0 0) [] ?_ HE0.out (some ⟨gb, go, sp⟩) 0 cap (L.take 0) ?_ HHL.out.1.symm HRT.out ?_ ?_ ?_; rfl; rfl)
        intro v1 w1 HO1 HG1
        have hW1 : Below w.heap.size w w1 := (below_alloc _ _).trans (HG1.out.below (by rw [hs1]; omega) (fun k hk => by simp [Value.ownBlock] at hk; omega))
        have HW1 : Hid (Below w.heap.size w w1 ∧ OwnB w1 w.heap.size v1 (L.take 0)) := ⟨hW1, HO1.out⟩
        have hb1 : w1.heap[r]? = some (.cells #[.slice (some ⟨gb, go, sp⟩) n cap, .bool false] 86 (0, 0)) := (hW1.block r hrs).trans HB.out
        have c2 : w1.cell? ⟨r, 0, none⟩ = some (.slice (some ⟨gb, go, sp⟩) n cap) := (cell_blk hb1 _).trans rfl
        have f2 : w1.frozen? ⟨r, 0, none⟩ = false := frozen_blk hb1 _
        have HB1' : Hid (w1.heap[r]? = some (.cells #[.slice (some ⟨gb, go, sp⟩) n cap, .bool false] 86 (0, 0))) := hb1
        clear hb1 hW1 HO1 HG1 HE0 HRT c01 c0 c1 HB1
        go_wp2_with fail
        have hd : L.drop 0 = [] := by rw [HL0.out]; rfl
        refine bodyPost_ret (results_tmp rfl _ _ _) rfl ⟨v1, rfl, ?_⟩
        exact rr_done hrs HW1.out.1 HW1.out.2 HB1'.out (some ⟨gb, go, sp⟩) 0 cap (by rw [hd]; rfl) (.inr ⟨_, rfl, fun j hj => by rw [hd] at hj; cases hj⟩) (by rw [hd]; exact Nat.zero_le _) HY.out (by rw [HN.out]; exact hl) (fun ad e h => absurd hd h) HHL.out.1
      obtain rfl : sp = none := (HNE.out _ rfl hL0).2
      have HL0 : Hid (¬ L = []) := hL0
      clear hL0
      go_wp2_with (at_builtin; refine wpList_app rfl _ _ rfl w.heap.size (.slice (some ⟨w.heap.size, 0, none⟩) 0 0) [] ?_ HE0.out (some ⟨gb, go, none⟩) k cap (L.take k) ?_ HHL.out.1.symm HRT.out ?_ ?_ ?_; rfl; rfl)
      case refine_3 => omega
      intro v1 w1 HO1 HG1
      have hW1 : Below w.heap.size w w1 := (below_alloc _ _).trans (HG1.out.below (by rw [hs1]; omega) (fun k hk => by simp [Value.ownBlock] at hk; omega))
      have HW1 : Hid (Below w.heap.size w w1 ∧ OwnB w1 w.heap.size v1 (L.take k)) := ⟨hW1, HO1.out⟩
      have hb1 : w1.heap[r]? = some (.cells #[.slice (some ⟨gb, go, none⟩) n cap, .bool false] 86 (0, 0)) := (hW1.block r hrs).trans HB.out
      have c2 : w1.cell? ⟨r, 0, none⟩ = some (.slice (some ⟨gb, go, none⟩) n cap) := (cell_blk hb1 _).trans rfl
      have f2 : w1.frozen? ⟨r, 0, none⟩ = false := frozen_blk hb1 _
      have HB1' : Hid (w1.heap[r]? = some (.cells #[.slice (some ⟨gb, go, none⟩) n cap, .bool false] 86 (0, 0))) := hb1
      clear hb1 hW1 HO1 HG1 HE0 HRT c01 c0 c1 HB1
      go_wp2_with fail
      · refine bodyPost_ret (results_tmp rfl _ _ _) rfl ⟨v1, rfl, ?_⟩
        have hd : L.drop k = [] := List.drop_eq_nil_of_le (by rw [HN.out]; omega)
        exact rr_done hrs HW1.out.1 HW1.out.2 HB1'.out (some ⟨gb, go, none⟩) (n - k) 0 HHL.out.2.symm (.inr ⟨_, rfl, fun j hj => by rw [hd] at hj; cases hj⟩) (by rw [hd]; exact Nat.le_refl _) HY.out (by rw [HN.out]; exact hl) (fun ad e h => absurd hd h) HHL.out.1
      · refine bodyPost_ret (results_tmp rfl _ _ _) rfl ⟨v1, rfl, ?_⟩
        refine rr_done hrs HW1.out.1 HW1.out.2 HB1'.out (some ⟨gb, go + k, none⟩) (n - k) (cap - k) HHL.out.2.symm (.inr ⟨_, rfl, fun j hj => ?_⟩) (by rw [HHL.out.2]; omega) HY.out (by rw [HN.out]; exact hl) (fun ad e _ => by cases e; exact ⟨(HNE.out _ rfl HL0.out).1, rfl⟩) HHL.out.1
        rw [HHL.out.2] at hj
        have h1 := hcl (k + j) (by rw [HN.out]; omega)
        rw [addr_add] at h1 ⊢
        rw [Nat.add_assoc, h1]
        simp [List.getD, List.getElem?_drop]
end Go.Proofs.Ytkjocpadmlobgaa
