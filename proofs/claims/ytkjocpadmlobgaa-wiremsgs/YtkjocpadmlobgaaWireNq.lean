/- octet's Reader: rows of bytes that were laid are read back. For rows of up to 2^38 bytes. -/
import Derived.Test.YtkjocpadmlobgaaWireNr
namespace Go.Proofs.Ytkjocpadmlobgaa
open Go.RowKit Go.Dig Go.Inv Go.Oct
set_option linter.unusedVariables false

theorem Rowed.take {w : World} {ao : Option Addr} {L : List Int} {cap : Nat} (h : Rowed w ao L cap) (n : Nat) : Rowed w ao (L.take n) cap := by
  rcases h with ⟨h1, h2, h3⟩ | ⟨ad, e, hc⟩
  · exact .inl ⟨h1, by rw [h2]; simp, h3⟩
  · refine .inr ⟨ad, e, fun j hj => ?_⟩
    rw [List.length_take] at hj
    rw [hc j (by omega)]
    simp [List.getD, show j < n by omega]
/-- bytes that were taken -/
def TookB (L L' D : List Int) (z : Int) : Prop := ∀ D' R, z = (D'.length : Int) → L = D' ++ R → D = D' ∧ L' = R
theorem raw_done {w w1 : World} {r k : Nat} {L : List Int} {v1 x0 : Value} {bad : Bool} (hrs : r < w.heap.size) (hW : Below w.heap.size w w1) (hO : OwnB w1 w.heap.size v1 (L.take k)) (hb1 : w1.heap[r]? = some (.cells #[x0, .bool bad] 115 (0, 0)))
    (ao : Option Addr) (n cap : Nat) (hn : n = (L.drop k).length) (hR : Rowed w ao (L.drop k) cap) (hc : (L.drop k).length ≤ cap) (hy : ∀ x ∈ L, 0 ≤ x ∧ x < 256) (hl : L.length < 274877906944) (hne : ∀ ad, ao = some ad → ad.block < r ∧ ad.spot = none) (hT : TookB L (L.drop k) (L.take k) k) (hk : (L.take k).length = k) :
    ∃ D, OwnB (w1.setCell ⟨r, 0, none⟩ (.slice ao n cap)) w.heap.size v1 D ∧ D.length ≤ L.length ∧ (D = [] ∨ (D.length : Int) = k) ∧ (∀ x ∈ D, 0 ≤ x ∧ x < 256) ∧ Keeps r w (w1.setCell ⟨r, 0, none⟩ (.slice ao n cap)) ∧ ∃ L', RdL (w1.setCell ⟨r, 0, none⟩ (.slice ao n cap)) r L' ∧ TookB L L' D k ∧ L'.length ≤ L.length := by
  subst hn
  refine ⟨L.take k, hO.same (fun j hj => Below.heap_setCell _ _ _ _ (by have := (hO.lt j hj).1; simp; omega)), by rw [List.length_take]; omega, .inr (by rw [hk]), fun x hx => hy x (List.mem_of_mem_take hx), (Keeps.of_below hW).setCell _ _, L.drop k, ⟨ao, cap, bad, (set_blk hb1 _ _).trans rfl, ?_, hc, fun x hx => hy x (List.mem_of_mem_drop hx), by rw [List.length_drop]; omega, hne⟩, hT, by rw [List.length_drop]; omega⟩
  exact (hR.below hW (Nat.le_refl _)).same (fun ad e => Below.heap_setCell _ _ _ _ (Nat.ne_of_lt (hne ad e).1))
set_option maxRecDepth 10000 in
set_option maxHeartbeats 2000000 in
theorem rdRaw_str (r : Nat) (L : List Int) (z : Int) (w : World) (h : RdL w r L) (hz : inI z) : Calls Try.prog 83 #[.pointer (some ⟨r, 0, none⟩), .int .i64 z] w fun e w' => ∃ v', e = .returned v' ∧ ∃ D, OwnB w' w.heap.size v' D ∧ D.length ≤ L.length ∧ (D = [] ∨ (D.length : Int) = z) ∧ (∀ x ∈ D, 0 ≤ x ∧ x < 256) ∧ Keeps r w w' ∧ ∃ L', RdL w' r L' ∧ TookB L L' D z ∧ L'.length ≤ L.length := by
  have HH : Hid (RdL w r L) := h
  obtain ⟨ao, cap, bad, hb, hR, hc, hy, hl, hne⟩ := h
  obtain ⟨n, HN⟩ : ∃ n, Hid (L.length = n) := ⟨_, rfl⟩
  rw [HN.out] at hb hc hl
  have c0 : w.cell? ⟨r, 0, none⟩ = some (.slice ao n cap) := (cell_blk hb _).trans rfl
  have f0 : w.frozen? ⟨r, 0, none⟩ = false := frozen_blk hb _
  have HB : Hid (w.heap[r]? = some (.cells #[.slice ao n cap, .bool bad] 115 (0, 0))) := hb
  have HR : Hid (Rowed w ao L cap) := hR
  have HY : Hid (∀ x ∈ L, 0 ≤ x ∧ x < 256) := hy
  have HNE : Hid (∀ ad, ao = some ad → ad.block < r ∧ ad.spot = none) := hne
  have hneg : ∀ {z : Int}, (z < 0 ∨ (n : Int) < z) → TookB L [] [] z := fun h D' R e1 e2 => by
    have := congrArg List.length e2
    rw [HN.out, List.length_append] at this
    exfalso; omega
  have HNG : Hid (∀ {z : Int}, (z < 0 ∨ (n : Int) < z) → TookB L [] [] z) := hneg
  clear hb hR hy hne hneg
  by_cases hbad : z < 0 ∨ (n : Int) < z
  · have HT : Hid (TookB L [] [] z) := HNG.out hbad
    have hrs := HH.out.lt
    clear HNG
    go_enter Try.func83, Try.ntmps83
    by_cases h0 : z < 0
    · go_wp2_with fail
      refine (rdBad_str r L w HH.out).mono ?_
      rintro e w2 ⟨rfl, hr2, hk2, hs2⟩
      go_wp2_with fail
      go_ret
      exact ⟨_, rfl, [], OwnB.nil _ _, Nat.zero_le _, .inl rfl, (fun x hx => by cases hx), hk2, [], hr2, HT.out, Nat.zero_le _⟩
    · have h1 : (n : Int) < z := by omega
      clear hbad
      go_wp2_with fail
      refine (rdBad_str r L w HH.out).mono ?_
      rintro e w2 ⟨rfl, hr2, hk2, hs2⟩
      go_wp2_with fail
      go_ret
      exact ⟨_, rfl, [], OwnB.nil _ _, Nat.zero_le _, .inl rfl, (fun x hx => by cases hx), hk2, [], hr2, HT.out, Nat.zero_le _⟩
  · obtain ⟨k, rfl, hkn⟩ : ∃ k : Nat, z = (k : Int) ∧ k ≤ n := ⟨z.toNat, by omega, by omega⟩
    have HT : Hid (TookB L (L.drop k) (L.take k) k) := fun D' R e1 e2 => by
      obtain rfl : k = D'.length := by omega
      subst e2
      exact ⟨List.take_left, List.drop_left⟩
    have hlt : (L.take k).length = k := by rw [List.length_take, HN.out]; omega
    have hld : (L.drop k).length = n - k := by rw [List.length_drop, HN.out]
    have HHL : Hid ((L.take k).length = k ∧ (L.drop k).length = n - k) := ⟨hlt, hld⟩
    have HRT : Hid (Rowed w ao (L.take k) cap) := HR.out.take k
    clear hlt hld hbad hz HNG
    have hk0 : ¬ (k : Int) < 0 := by omega
    have hkn' : ¬ (n : Int) < k := by omega
    have HB1 : Hid (Below w.heap.size w (w.alloc (.cells #[.slice ao k cap] 22))) := below_alloc _ _
    have HJ : Hid (Calls Try.prog 70 #[.slice (some ⟨w.heap.size, 0, none⟩) 1 1] (w.alloc (.cells #[.slice ao k cap] 22)) fun e w' => ∃ v', e = .returned v' ∧ OwnB w' (w.alloc (.cells #[.slice ao k cap] 22)).heap.size v' (L.take k) ∧ Below (w.alloc (.cells #[.slice ao k cap] 22)).heap.size (w.alloc (.cells #[.slice ao k cap] 22)) w') :=
      join_any w.heap.size ao k cap 1 (L.take k) (w.alloc (.cells #[.slice ao k cap] 22)) ((cell_blk (alloc_blk _ _) _).trans rfl) HHL.out.1.symm (HRT.out.below HB1.out (Nat.le_refl _)) (by rw [HHL.out.1]; omega)
    have hs1 : (w.alloc (.cells #[.slice ao k cap] 22)).heap.size = w.heap.size + 1 := by simp
    have hrs := HH.out.lt
    go_enter Try.func83, Try.ntmps83
    rcases HR.out with ⟨rfl, e2, rfl⟩ | ⟨⟨gb, go, sp⟩, rfl, hcl⟩
    · go_wp2_with fail
      refine HJ.out.mono ?_
      rintro e w1 ⟨v1, rfl, hO1, hB1⟩
      rw [hs1] at hO1 hB1
      have hW1 : Below w.heap.size w w1 := HB1.out.trans (hB1.mono (Nat.le_succ _))
      have hb1 : w1.heap[r]? = some (.cells #[.slice none n 0, .bool bad] 115 (0, 0)) := (hW1.block r hrs).trans HB.out
      have c1 : w1.cell? ⟨r, 0, none⟩ = some (.slice none n 0) := (cell_blk hb1 _).trans rfl
      have f1 : w1.frozen? ⟨r, 0, none⟩ = false := frozen_blk hb1 _
      have HB1' : Hid (w1.heap[r]? = some (.cells #[.slice none n 0, .bool bad] 115 (0, 0))) := hb1
      have HW1 : Hid (Below w.heap.size w w1 ∧ OwnB w1 w.heap.size v1 (L.take k)) := ⟨hW1, hO1.mono (Nat.le_succ _)⟩
      clear hb1 hW1 hO1 hB1 HJ HB1 c0 f0
      go_wp2_with fail
      refine bodyPost_ret (results_tmp rfl _ _ _) rfl ⟨v1, rfl, ?_⟩
      have hd : L.drop k = [] := by rw [e2]; simp
      exact raw_done hrs HW1.out.1 HW1.out.2 HB1'.out none (n - k) 0 HHL.out.2.symm (.inl ⟨rfl, hd, rfl⟩) (by rw [hd]; exact Nat.le_refl _) HY.out (by rw [HN.out]; exact hl) HNE.out HT.out HHL.out.1
    · obtain rfl : sp = none := (HNE.out _ rfl).2
      go_wp2_with fail
      refine HJ.out.mono ?_
      rintro e w1 ⟨v1, rfl, hO1, hB1⟩
      rw [hs1] at hO1 hB1
      have hW1 : Below w.heap.size w w1 := HB1.out.trans (hB1.mono (Nat.le_succ _))
      have hb1 : w1.heap[r]? = some (.cells #[.slice (some ⟨gb, go, none⟩) n cap, .bool bad] 115 (0, 0)) := (hW1.block r hrs).trans HB.out
      have c1 : w1.cell? ⟨r, 0, none⟩ = some (.slice (some ⟨gb, go, none⟩) n cap) := (cell_blk hb1 _).trans rfl
      have f1 : w1.frozen? ⟨r, 0, none⟩ = false := frozen_blk hb1 _
      have HB1' : Hid (w1.heap[r]? = some (.cells #[.slice (some ⟨gb, go, none⟩) n cap, .bool bad] 115 (0, 0))) := hb1
      have HW1 : Hid (Below w.heap.size w w1 ∧ OwnB w1 w.heap.size v1 (L.take k)) := ⟨hW1, hO1.mono (Nat.le_succ _)⟩
      clear hb1 hW1 hO1 hB1 HJ HB1 c0 f0
      go_wp2_with fail
      · refine bodyPost_ret (results_tmp rfl _ _ _) rfl ⟨v1, rfl, ?_⟩
        have hd : L.drop k = [] := List.drop_eq_nil_of_le (by rw [HN.out]; omega)
        exact raw_done hrs HW1.out.1 HW1.out.2 HB1'.out (some ⟨gb, go, none⟩) (n - k) 0 HHL.out.2.symm (.inr ⟨_, rfl, fun j hj => by rw [hd] at hj; cases hj⟩) (by rw [hd]; exact Nat.le_refl _) HY.out (by rw [HN.out]; exact hl) HNE.out HT.out HHL.out.1
      · refine bodyPost_ret (results_tmp rfl _ _ _) rfl ⟨v1, rfl, ?_⟩
        refine raw_done hrs HW1.out.1 HW1.out.2 HB1'.out (some ⟨gb, go + k, none⟩) (n - k) (cap - k) HHL.out.2.symm (.inr ⟨_, rfl, fun j hj => ?_⟩) (by rw [HHL.out.2]; omega) HY.out (by rw [HN.out]; exact hl) (fun ad e => by cases e; exact ⟨(HNE.out _ rfl).1, rfl⟩) HT.out HHL.out.1
        rw [HHL.out.2] at hj
        have h1 := hcl (k + j) (by rw [HN.out]; omega)
        rw [addr_add] at h1 ⊢
        rw [Nat.add_assoc, h1]
        simp [List.getD, List.getElem?_drop]
set_option maxRecDepth 10000 in
set_option maxHeartbeats 2000000 in
theorem rdBytes_str (r : Nat) (L : List Int) (w : World) (h : RdL w r L) : Calls Try.prog 74 #[.pointer (some ⟨r, 0, none⟩)] w fun e w' => ∃ v', e = .returned v' ∧ ∃ D, OwnB w' w.heap.size v' D ∧ D.length ≤ L.length ∧ (∀ x ∈ D, 0 ≤ x ∧ x < 256) ∧ Keeps r w w' ∧ ∃ L', RdL w' r L' ∧ (∀ D' R, NumOk (D'.length : Int) → L = num (D'.length : Int) ++ (D' ++ R) → D = D' ∧ L' = R) ∧ L'.length ≤ L.length := by
  have HH : Hid (RdL w r L) := h
  clear h
  go_enter Try.func74, Try.ntmps74
  go_wp2_with fail
  refine (rdNum_str r L w HH.out).mono ?_
  rintro e w1 ⟨⟨z, rfl, hz, -, L1, hr1, ht1, hl1⟩, hk1, hs1⟩
  have HX : Hid (RdL w1 r L1 ∧ Took L L1 [z] ∧ L1.length ≤ L.length ∧ Keeps r w w1 ∧ w1.heap.size = w.heap.size) := ⟨hr1, ht1, hl1, hk1, hs1⟩
  clear hr1 ht1 hl1 hk1 hs1
  go_wp2_with fail
  refine (rdRaw_str r L1 z w1 HX.out.1 hz).mono ?_
  rintro e w2 ⟨v', rfl, D, hO, hDl, -, hDb, hk2, L2, hr2, ht2, hl2⟩
  obtain ⟨hr1, ht1, hl1, hk1, hs1⟩ := HX.out
  rw [hs1] at hO
  have HP : Hid (∃ D, OwnB w2 w.heap.size v' D ∧ D.length ≤ L.length ∧ (∀ x ∈ D, 0 ≤ x ∧ x < 256) ∧ Keeps r w w2 ∧ ∃ L', RdL w2 r L' ∧ (∀ D' R, NumOk (D'.length : Int) → L = num (D'.length : Int) ++ (D' ++ R) → D = D' ∧ L' = R) ∧ L'.length ≤ L.length) := by
    refine ⟨D, hO, by omega, hDb, hk1.trans hk2, L2, hr2, fun D' R hn e => ?_, by omega⟩
    obtain ⟨e1, e2⟩ := ht1.one hn e
    exact ht2 D' R e1 e2
  clear hO hDl hDb hk2 hr2 ht2 hl2 hr1 ht1 hl1 hk1 hs1 HX HH
  go_wp2_with fail
  refine bodyPost_ret (results_tmp rfl _ _ _) rfl ⟨v', rfl, HP.out⟩
end Go.Proofs.Ytkjocpadmlobgaa
