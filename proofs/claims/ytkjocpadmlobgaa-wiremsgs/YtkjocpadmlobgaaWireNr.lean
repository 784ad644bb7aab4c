/- octet's Reader: what was laid is read back; it reads on from any bytes, and never fails. For rows of up to 2^38 bytes. -/
import Derived.Test.YtkjocpadmlobgaaWireNs
import Derived.Test.YtkjocpadmlobgaaWireRe
namespace Go.Proofs.Ytkjocpadmlobgaa
open Go.RowKit Go.Dig Go.Inv Go.Oct
set_option linter.unusedVariables false

/-- a Reader in which L is left -/
def RdL (w : World) (r : Nat) (L : List Int) : Prop := ∃ (ao : Option Addr) (cap : Nat) (bad : Bool), w.heap[r]? = some (.cells #[.slice ao L.length cap, .bool bad] 115 (0, 0)) ∧ Rowed w ao L cap ∧ L.length ≤ cap ∧ (∀ x ∈ L, 0 ≤ x ∧ x < 256) ∧ L.length < 274877906944 ∧ ∀ ad, ao = some ad → ad.block < r ∧ ad.spot = none
theorem RdL.rd {w : World} {r : Nat} {L : List Int} (h : RdL w r L) : Rd w r := by obtain ⟨ao, cap, bad, h1, h2, h3, h4, h5, h6⟩ := h; exact ⟨ao, L, cap, bad, h1, h2, h3, h4, h5, fun ad e => (h6 ad e).1⟩
theorem RdL.lt {w : World} {r : Nat} {L : List Int} (h : RdL w r L) : r < w.heap.size := h.rd.lt
theorem RdL.len {w : World} {r : Nat} {L : List Int} (h : RdL w r L) : L.length < 274877906944 := by obtain ⟨_, _, _, _, _, _, _, hl, _⟩ := h; exact hl
theorem RdL.bytes {w : World} {r : Nat} {L : List Int} (h : RdL w r L) : ∀ x ∈ L, 0 ≤ x ∧ x < 256 := by obtain ⟨_, _, _, _, _, _, hy, _, _⟩ := h; exact hy
theorem RdL.same {w w' : World} {r : Nat} {L : List Int} (h : RdL w r L) (hs : ∀ k, k ≤ r → w'.heap[k]? = w.heap[k]?) : RdL w' r L := by
  obtain ⟨ao, cap, bad, hb, hR, hc, hy, hl, hne⟩ := h
  exact ⟨ao, cap, bad, (hs r (Nat.le_refl _)).trans hb, hR.same (fun ad e => hs _ (Nat.le_of_lt (hne ad e).1)), hc, hy, hl, hne⟩
theorem RdL.setCell {w : World} {r g i : Nat} {v : Value} {L : List Int} (h : RdL w r L) (hg : r < g) : RdL (w.setCell ⟨g, i, none⟩ v) r L := h.same (fun k hk => Below.heap_setCell _ _ _ _ (by simp; omega))
/-- numbers that were taken -/
def Took (L L' zs : List Int) : Prop := ∀ vs R, (∀ v ∈ vs, NumOk v) → vs.length = zs.length → L = nums vs ++ R → zs = vs ∧ L' = R
theorem Took.nil (L : List Int) : Took L L [] := fun vs R _ hl e => by
  obtain rfl : vs = [] := List.eq_nil_of_length_eq_zero hl
  exact ⟨rfl, e⟩
theorem Took.append {A B C xs ys : List Int} (h : Took A B xs) (k : Took B C ys) : Took A C (xs ++ ys) := fun vs R hv hl e => by
  rw [List.length_append] at hl
  have e1 : vs = vs.take xs.length ++ vs.drop xs.length := (List.take_append_drop _ _).symm
  rw [e1, nums_append, List.append_assoc] at e
  obtain ⟨h1, h2⟩ := h (vs.take xs.length) _ (fun v hm => hv v (List.mem_of_mem_take hm)) (by rw [List.length_take]; omega) e
  obtain ⟨h3, h4⟩ := k (vs.drop xs.length) R (fun v hm => hv v (List.mem_of_mem_drop hm)) (by rw [List.length_drop]; omega) h2
  exact ⟨by rw [e1, ← h1, ← h3], h4⟩
theorem Took.one {L L' : List Int} {z : Int} (h : Took L L' [z]) {v : Int} {R : List Int} (hv : NumOk v) (e : L = num v ++ R) : z = v ∧ L' = R := by
  obtain ⟨h1, h2⟩ := h [v] R (fun x hx => by simp at hx; subst hx; exact hv) rfl (by rw [e, nums_cons, nums_nil, List.append_nil])
  exact ⟨by injection h1, h2⟩

set_option maxRecDepth 10000 in
set_option maxHeartbeats 1000000 in
theorem rdBad_str (r : Nat) (L : List Int) (w : World) (h : RdL w r L) : Calls Try.prog 82 #[.pointer (some ⟨r, 0, none⟩)] w fun e w' => e = .returned (.tuple #[]) ∧ RdL w' r [] ∧ Keeps r w w' ∧ w'.heap.size = w.heap.size := by
  obtain ⟨ao, cap, bad, hb, hR, hc, hy, hl, hne⟩ := h
  obtain ⟨n, HN⟩ : ∃ n, Hid (L.length = n) := ⟨_, rfl⟩
  rw [HN.out] at hb
  have HB : Hid (w.heap[r]? = some (.cells #[.slice ao n cap, .bool bad] 115 (0, 0))) := hb
  have hb2 := set_blk hb 0 (.slice none 0 0)
  have c0 : w.cell? ⟨r, 0, none⟩ = some (.slice ao n cap) := (cell_blk hb _).trans rfl
  have f0 : w.frozen? ⟨r, 0, none⟩ = false := frozen_blk hb _
  have c1 : (w.setCell ⟨r, 0, none⟩ (.slice none 0 0)).cell? ⟨r, 1, none⟩ = some (.bool bad) := (cell_blk hb2 _).trans rfl
  have f1 : (w.setCell ⟨r, 0, none⟩ (.slice none 0 0)).frozen? ⟨r, 1, none⟩ = false := frozen_blk hb2 _
  have HB3 : Hid (((w.setCell ⟨r, 0, none⟩ (.slice none 0 0)).setCell ⟨r, 1, none⟩ (.bool true)).heap[r]? = some (.cells #[.slice none 0 0, .bool true] 115 (0, 0))) := (set_blk hb2 1 _).trans rfl
  clear hb hb2 hR hc hy hl hne
  go_enter Try.func82, Try.ntmps82
  go_wp2_with fail
  refine bodyPost_end (v := .tuple #[]) (by simp [results, Try.results82, go_sem]) rfl ?_
  exact ⟨rfl, ⟨none, 0, true, HB3.out, .inl ⟨rfl, rfl, rfl⟩, Nat.le_refl _, (fun x hx => by cases hx), by decide, fun ad e => by cases e⟩, ((Keeps.refl _ _).setCell _ _).setCell _ _, by simp [World.setCell]⟩
theorem FNok.took {L : List Int} {z : Int} {k : Nat} (h : FNok L z k) (h0 : k ≠ 0) : Took L (L.drop k) [z] := fun vs R hv hl e => by
  obtain ⟨v, rfl⟩ : ∃ v, vs = [v] := List.length_eq_one_iff.1 hl
  rw [nums_cons, nums_nil, List.append_nil] at e
  obtain ⟨h1, h2⟩ := h v R (hv v (by simp)).1 (hv v (by simp)).2 e
  exact ⟨by rw [h1], by rw [h2, e, List.drop_left]⟩
theorem FNok.none {L : List Int} {z : Int} (h : FNok L z 0) : Took L [] [0] := fun vs R hv hl e => by
  obtain ⟨v, rfl⟩ : ∃ v, vs = [v] := List.length_eq_one_iff.1 hl
  rw [nums_cons, nums_nil, List.append_nil] at e
  obtain ⟨h1, h2⟩ := h v R (hv v (by simp)).1 (hv v (by simp)).2 e
  exfalso
  unfold num at h2
  unfold numA at h2
  split at h2 <;> simp at h2
set_option maxRecDepth 10000 in
set_option maxHeartbeats 2000000 in
theorem rdNum_str (r : Nat) (L : List Int) (w : World) (h : RdL w r L) : Calls Try.prog 72 #[.pointer (some ⟨r, 0, none⟩)] w fun e w' => (∃ z : Int, e = .returned (.int .i64 z) ∧ inI z ∧ 0 ≤ z ∧ ∃ L' : List Int, RdL w' r L' ∧ Took L L' [z] ∧ L'.length ≤ L.length) ∧ Keeps r w w' ∧ w'.heap.size = w.heap.size := by
  have HH : Hid (RdL w r L) := h
  obtain ⟨ao, cap, bad, hb, hR, hc, hy, hl, hne⟩ := h
  have HF := firstNumber_str L ao cap w hR hc hl hy
  obtain ⟨n, HN⟩ : ∃ n, Hid (L.length = n) := ⟨_, rfl⟩
  rw [HN.out] at hb hc hl HF
  have HFF : Hid (Calls Try.prog 81 #[.slice ao n cap] w fun e w' => (∃ (z : Int) (k : Nat), e = .returned (.tuple #[.int .i64 z, .int .i64 (k : Int)]) ∧ inI z ∧ 0 ≤ z ∧ k ≤ n ∧ FNok L z k) ∧ w' = w) := HF
  have c0 : w.cell? ⟨r, 0, none⟩ = some (.slice ao n cap) := (cell_blk hb _).trans rfl
  have f0 : w.frozen? ⟨r, 0, none⟩ = false := frozen_blk hb _
  have HB : Hid (w.heap[r]? = some (.cells #[.slice ao n cap, .bool bad] 115 (0, 0))) := hb
  have HR : Hid (Rowed w ao L cap) := hR
  have HY : Hid (∀ x ∈ L, 0 ≤ x ∧ x < 256) := hy
  have HNE : Hid (∀ ad, ao = some ad → ad.block < r ∧ ad.spot = none) := hne
  clear HF hb hR hy hne
  go_enter Try.func72, Try.ntmps72
  go_wp2_with fail
  refine HFF.out.mono ?_
  rintro e w1 ⟨⟨z, k, rfl, hz, hz0, hk, hok⟩, rfl⟩
  by_cases hk0 : k = 0
  · subst hk0
    have HT : Hid (Took L [] [0]) := hok.none
    clear hok
    go_wp2_with fail
    refine (rdBad_str r L w1 HH.out).mono ?_
    rintro e w2 ⟨rfl, hr2, hk2, hs2⟩
    go_wp2_with fail
    go_ret
    exact ⟨⟨0, rfl, inI_lit (by decide) (by decide), Int.le_refl _, [], hr2, HT.out, Nat.zero_le _⟩, hk2, hs2⟩
  · have HT : Hid (Took L (L.drop k) [z]) := hok.took hk0
    clear hok
    obtain ⟨gb, go, e1, hcl⟩ := HR.out.at (fun e => by have := HN.out; rw [e] at this; simp at this; omega)
    subst e1
    have hk0' : ¬ (k : Int) = 0 := by omega
    have hne := (HNE.out _ rfl).1
    go_wp2_with fail
    · have h0 : n - k = 0 := by omega
      go_ret
      have hd : L.drop k = [] := List.drop_eq_nil_of_le (by have := HN.out; omega)
      rw [hd] at HT
      refine ⟨⟨z, rfl, hz, hz0, [], ⟨some ⟨gb, go, none⟩, 0, bad, ?_, .inr ⟨_, rfl, fun j hj => by cases hj⟩, Nat.le_refl _, (fun x hx => by cases hx), by decide, fun ad e => by cases e; exact ⟨hne, rfl⟩⟩, HT.out, Nat.zero_le _⟩, (Keeps.refl _ _).setCell _ _, by simp [World.setCell]⟩
      rw [set_blk HB.out, h0]; rfl
    · go_ret
      have hlen : (L.drop k).length = n - k := by rw [List.length_drop, HN.out]
      refine ⟨⟨z, rfl, hz, hz0, L.drop k, ⟨some ⟨gb, go + k, none⟩, cap - k, bad, ?_, .inr ⟨_, rfl, fun j hj => ?_⟩, by rw [hlen]; omega, fun x hx => HY.out x (List.mem_of_mem_drop hx), by rw [hlen]; omega, fun ad e => by cases e; exact ⟨hne, rfl⟩⟩, HT.out, by rw [hlen, HN.out]; omega⟩, (Keeps.refl _ _).setCell _ _, by simp [World.setCell]⟩
      · rw [set_blk HB.out, hlen]; rfl
      · rw [hlen] at hj
        have h1 := hcl (k + j) (by have := HN.out; omega)
        rw [addr_add]
        refine (World.cell?_of_block (Below.heap_setCell _ _ _ _ (Nat.ne_of_lt hne))).trans ?_
        rw [Nat.add_assoc, h1]
        simp [List.getD, List.getElem?_drop]
/-- where a number lies: a block's cell -/
def IntAt (w : World) (p : Nat × Nat) : Prop := ∃ (cs : Array Value) (t : TypeId) (x : Int), w.heap[p.1]? = some (.cells cs t (0, 0)) ∧ cs[p.2]? = some (.int .i64 x)
theorem IntAt.set {w : World} {p q : Nat × Nat} (h : IntAt w p) (z : Int) : IntAt (w.setCell ⟨q.1, q.2, none⟩ (.int .i64 z)) p := by
  obtain ⟨cs, t, x, hb, hx⟩ := h
  by_cases he : p.1 = q.1
  · rw [he] at hb
    by_cases ho : p.2 = q.2
    · exact ⟨_, t, z, by rw [he]; exact set_blk hb _ _, by rw [ho] at hx ⊢; rw [Array.getElem?_setIfInBounds_self_of_lt (Array.getElem?_eq_some_iff.1 hx).1]⟩
    · exact ⟨_, t, x, by rw [he]; exact set_blk hb _ _, by rw [Array.getElem?_setIfInBounds_ne (Ne.symm ho)]; exact hx⟩
  · exact ⟨cs, t, x, (Below.heap_setCell _ _ _ _ he).trans hb, hx⟩
/-- numbers laid where they belong -/
def setN (w : World) (ps : List (Nat × Nat)) (zs : List Int) : World := (ps.zip zs).foldl (fun w p => w.setCell ⟨p.1.1, p.1.2, none⟩ (.int .i64 p.2)) w
theorem setN_snoc {w : World} {ps : List (Nat × Nat)} {zs : List Int} {i : Nat} {p : Nat × Nat} (hz : zs.length = i) (hp : ps[i]? = some p) (z : Int) : setN w (ps.take (i + 1)) (zs ++ [z]) = (setN w (ps.take i) zs).setCell ⟨p.1, p.2, none⟩ (.int .i64 z) := by
  have hi := (List.getElem?_eq_some_iff.1 hp).1
  unfold setN
  rw [List.take_add_one, hp, List.zip_append (by rw [List.length_take]; omega), List.foldl_append]
  rfl
theorem keeps_set2 {r : Nat} {a b : World} (h : Keeps r a b) (p : Addr) (v : Value) : Keeps r (a.setCell p v) (b.setCell p v) := by
  refine ⟨h.os, h.tape, h.output, by simpa [World.setCell] using h.size, fun k hk hr => ?_⟩
  have hk' : k < a.heap.size := by simpa [World.setCell] using hk
  have hb := h.block k hk' hr
  simp only [World.setCell, Array.getElem?_modify, hb]
set_option maxRecDepth 10000 in
set_option maxHeartbeats 2000000 in
theorem rdNums_str (r sb : Nat) (ps : List (Nat × Nat)) (L : List Int) (w : World) (h : RdL w r L) (hp : ∀ j p, ps[j]? = some p → w.cell? ⟨sb, j, none⟩ = some (.pointer (some ⟨p.1, p.2, none⟩))) (hi : ∀ p ∈ ps, IntAt w p ∧ r < p.1 ∧ p.1 ≠ sb) (hs : r < sb) (hm : ps.length < 1000) :
    Calls Try.prog 73 #[.pointer (some ⟨r, 0, none⟩), .slice (some ⟨sb, 0, none⟩) ps.length ps.length] w fun e w' => e = .returned (.tuple #[]) ∧ ∃ (zs L' : List Int), zs.length = ps.length ∧ (∀ z ∈ zs, inI z) ∧ RdL w' r L' ∧ Took L L' zs ∧ L'.length ≤ L.length ∧ Keeps r (setN w ps zs) w' ∧ w'.heap.size = w.heap.size := by
  have HS : Hid (RdL w r L ∧ (∀ j p, ps[j]? = some p → w.cell? ⟨sb, j, none⟩ = some (.pointer (some ⟨p.1, p.2, none⟩))) ∧ (∀ p ∈ ps, IntAt w p)) := ⟨h, hp, fun p hq => (hi p hq).1⟩
  have HI : Hid (∀ p ∈ ps, r < p.1 ∧ p.1 ≠ sb) := fun p hq => (hi p hq).2
  obtain ⟨m, HM⟩ : ∃ m, Hid (ps.length = m) := ⟨_, rfl⟩
  rw [HM.out] at hm ⊢
  have HK0 : Hid (Keeps r (setN w (ps.take 0) []) w) := Keeps.refl _ _
  clear h hp hi
  go_enter Try.func73, Try.ntmps73
  go_wp2_with fail
  go_loopw [9] (fun iv wr => ∃ i : Nat, i ≤ m ∧ iv = .int .i64 (i : Int) ∧ Hid (∃ (zs L' : List Int), Hid (zs.length = i) ∧ Hid (∀ z ∈ zs, inI z) ∧ Hid (Took L L' zs) ∧ Hid (L'.length ≤ L.length) ∧ Hid (RdL wr r L' ∧ (∀ j p, ps[j]? = some p → wr.cell? ⟨sb, j, none⟩ = some (.pointer (some ⟨p.1, p.2, none⟩))) ∧ (∀ p ∈ ps, IntAt wr p)) ∧ Hid (Keeps r (setN w (ps.take i) zs) wr) ∧ Hid (wr.heap.size = w.heap.size))) (fun iv _ => m - (intOf iv).toNat)
  case atStart => exact ⟨0, by omega, rfl, ⟨[], L, rfl, (show ∀ z ∈ ([] : List Int), inI z from fun z hz => by cases hz), Took.nil L, Nat.le_refl _, HS, HK0, rfl⟩⟩
  case round =>
    clear HS HK0
    obtain ⟨i, hi, rfl, HX⟩ := hrel
    obtain ⟨zs, L', HZ, HZI, HT, HLL, HS, HK, HSZ⟩ := HX.out
    clear HX
    by_cases hlt : i < m
    · have hlt' : (i : Int) < m := by omega
      obtain ⟨p, hp⟩ : ∃ p, ps[i]? = some p := ⟨ps[i]'(by have := HM.out; omega), List.getElem?_eq_getElem _⟩
      have hpm : p ∈ ps := List.mem_of_getElem? hp
      have hcell := HS.out.2.1 i p hp
      have HP : Hid (ps[i]? = some p) := hp
      obtain ⟨hrp, hps⟩ := HI.out p hpm
      have HPM : Hid (p ∈ ps) := hpm
      clear hp hpm
      go_wp2_with fail
      refine (rdNum_str r L' wr HS.out.1).mono ?_
      rintro e w1 ⟨⟨z, rfl, hz, -, L2, hr1, ht1, hl1⟩, hk1, hs1⟩
      have hsb : sb < wr.heap.size := World.block_lt_of_cell? wr _ hcell
      have hI1 : ∀ q ∈ ps, IntAt w1 q := fun q hq => by
        obtain ⟨cs, t, x, hb, hx⟩ := HS.out.2.2 q hq
        exact ⟨cs, t, x, (hk1.block _ (lt_blk hb) (by have := (HI.out q hq).1; omega)).trans hb, hx⟩
      obtain ⟨cs, t, x, hb, hx⟩ := hI1 p HPM.out
      have hc : w1.cell? ⟨p.1, p.2, none⟩ = some (.int .i64 x) := (cell_blk hb _).trans hx
      have hf : w1.frozen? ⟨p.1, p.2, none⟩ = false := frozen_blk hb _
      have HS2 : Hid (RdL (w1.setCell ⟨p.1, p.2, none⟩ (.int .i64 z)) r L2 ∧ (∀ j q, ps[j]? = some q → (w1.setCell ⟨p.1, p.2, none⟩ (.int .i64 z)).cell? ⟨sb, j, none⟩ = some (.pointer (some ⟨q.1, q.2, none⟩))) ∧ (∀ q ∈ ps, IntAt (w1.setCell ⟨p.1, p.2, none⟩ (.int .i64 z)) q)) := by
        refine ⟨hr1.setCell hrp, fun j q hq => ?_, fun q hq => (hI1 q hq).set z⟩
        have h0 := HS.out.2.1 j q hq
        exact ((World.cell?_of_block (Below.heap_setCell _ _ _ _ (by simp; omega))).trans (hk1.cell (p := ⟨sb, j, none⟩) hsb (by simp; omega))).trans h0
      have HZ2 : Hid ((zs ++ [z]).length = i + 1) := (by rw [List.length_append, HZ.out]; rfl : (zs ++ [z]).length = i + 1)
      have HZI2 : Hid (∀ y ∈ zs ++ [z], inI y) := fun y hy => (List.mem_append.1 hy).elim (HZI.out y) (fun h => by rw [List.mem_singleton.1 h]; exact hz)
      have HT2 : Hid (Took L L2 (zs ++ [z])) := HT.out.append ht1
      have HLL2 : Hid (L2.length ≤ L.length) := Nat.le_trans hl1 HLL.out
      have HK2 : Hid (Keeps r (setN w (ps.take (i + 1)) (zs ++ [z])) (w1.setCell ⟨p.1, p.2, none⟩ (.int .i64 z))) := by
        show Keeps _ _ _
        rw [setN_snoc HZ.out HP.out]
        exact keeps_set2 (HK.out.trans hk1) _ _
      have HSZ2 : Hid ((w1.setCell ⟨p.1, p.2, none⟩ (.int .i64 z)).heap.size = w.heap.size) := (by simp only [World.setCell, Array.size_modify]; rw [hs1, HSZ.out] : (w1.setCell ⟨p.1, p.2, none⟩ (.int .i64 z)).heap.size = w.heap.size)
      clear hr1 hk1 HS hcell hI1 hb hx HK HT HZ HZI HSZ hs1 hl1 HLL hrp hps
      go_wp2_with fail
      exact ⟨⟨i + 1, by omega, rfl, ⟨_, _, HZ2, HZI2, HT2, HLL2, HS2, HK2, HSZ2⟩⟩, by simp [intOf]; omega⟩
    · obtain rfl : i = m := by omega
      go_wp2_with fail
      refine bodyPost_end (v := .tuple #[]) (by simp [results, Try.results73, go_sem]) rfl ?_
      have hk := HK.out
      rw [List.take_of_length_le (by rw [HM.out]; omega)] at hk
      exact ⟨rfl, zs, L', HZ.out, HZI.out, HS.out.1, HT.out, HLL.out, hk, HSZ.out⟩
end Go.Proofs.Ytkjocpadmlobgaa
