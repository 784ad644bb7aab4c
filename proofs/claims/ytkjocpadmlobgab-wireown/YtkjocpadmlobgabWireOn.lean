/- WireOwn's walk: what is handed in is neither changed nor kept. No condition. -/
import Derived.Test.YtkjocpadmlobgabWireDh
namespace Go.Proofs.Ytkjocpadmlobgab
open Go.RowKit Go.Dig Go.Inv Go.Oct
set_option linter.unusedVariables false

set_option maxRecDepth 10000 in
set_option maxHeartbeats 8000000 in
theorem wireOwn_any (m : MsgR) (P : List Int) (ys : List VoteR) (w : World) (hm : MsgIn w m P ys) : Calls Try.prog 6 #[.agg m.cells] w fun x w' => x = .returned (.bool true) ∧ Below w.heap.size w w' := by
  have HM1 : Hid (MsgIn (w.alloc (.cells m.cells 35)) m P ys) := hm.below (below_alloc _ _) (Nat.le_refl _)
  have HA : Hid ((w.alloc (.cells m.cells 35)).heap[w.heap.size]? = some (.cells m.cells 35 (0, 0))) := alloc_blk _ _
  have HB1 : Hid (Below w.heap.size w (w.alloc (.cells m.cells 35))) := below_alloc _ _
  have HVL : Hid (m.vl = P.length ∧ m.yl = ys.length) := ⟨hm.vl, hm.yl⟩
  clear hm
  go_enter Try.func6, Try.ntmps6
  go_upto_region 1 with (refine wpList_box_row rfl 35 _ rfl _ rfl ?_)
  generalize w.alloc (.cells m.cells 35) = w1 at *
  have hz1 : w.heap.size < w1.heap.size := lt_blk HA.out
  go_wp2_with (refine wpList_load_msgP rfl _ rfl w.heap.size m 35 (0, 0) ?_ ?_ ?_; rfl; exact HA.out)
  refine (rIsMsg_any m P ys w1 HM1.out).mono ?_
  rintro x w2 ⟨rfl, hB2⟩
  have HM2 : Hid (MsgIn w2 m P ys) := HM1.out.below hB2 (Nat.le_refl _)
  have HA2 : Hid (w2.heap[w.heap.size]? = some (.cells m.cells 35 (0, 0))) := (hB2.block _ hz1).trans HA.out
  have HW2 : Hid (Below w.heap.size w w2) := HB1.out.trans (hB2.mono (by omega))
  clear hB2 HM1 HA HB1
  cases hmb : msgB m ys
  · have hW := HW2.out
    go_wp2_with fail
    go_ret
    exact ⟨rfl, hW⟩
  have hok := msgB_ok hmb HVL.out.1 HVL.out.2
  have HOK : Hid (P.length ≤ 200 ∧ ys.length ≤ 10) := ⟨hok.vb, hok.yb⟩
  clear hok
  obtain ⟨pl, HPL⟩ : ∃ pl, Hid (m.vl = pl) := ⟨_, rfl⟩
  have hc5 : w2.cell? ⟨w.heap.size, 5, none⟩ = some (.slice m.va pl m.vc) := by rw [← HPL.out]; exact (cell_blk HA2.out _).trans m.at5
  by_cases h1 : pl < 1
  · have hW := HW2.out
    have h1' : (pl : Int) < 1 := by omega
    go_wp2_with fail
    go_ret
    exact ⟨rfl, hW⟩
  have h1' : ¬ (pl : Int) < 1 := by omega
  have HC : Hid (∀ W, MsgIn W m P ys → (convert 25 9 (.slice m.va pl m.vc)).run Try.prog W = .ok (.string (strOf P)) W) := fun W hW => conv_str hW.val (by rw [← HPL.out]; exact HVL.out.1)
  have hcv := HC.out w2 HM2.out
  obtain ⟨nm, HNM⟩ : ∃ nm, Hid (strOf P = nm) := ⟨_, rfl⟩
  rw [HNM.out] at hcv
  go_wp2_with (refine wpList_load_msgP rfl _ rfl w.heap.size m 35 (0, 0) ?_ ?_ ?_; rfl; exact HA2.out)
  have hlen := HOK.out
  refine (encodeMsg_any m P ys w2 (HM2.out.at (by have := HVL.out; omega) (by have := HVL.out; omega))).mono ?_
  rintro x w4 ⟨v4, rfl, hO4, hB4⟩
  rw [hmb] at hO4 ⊢
  simp only [if_true] at hO4 ⊢
  obtain ⟨B, HBB⟩ : ∃ B, Hid (encMsg m P ys = B) := ⟨_, rfl⟩
  rw [HBB.out] at hO4
  obtain ⟨ao, cap, rfl, -, hR4, hblk⟩ := hO4.form2
  have HM4 : Hid (MsgIn w4 m P ys) := HM2.out.below hB4 (Nat.le_refl _)
  have hz2 : w.heap.size < w2.heap.size := lt_blk HA2.out
  have HA4 : Hid (w4.heap[w.heap.size]? = some (.cells m.cells 35 (0, 0))) := (hB4.block _ hz2).trans HA2.out
  have HW4 : Hid (Below w.heap.size w w4) := HW2.out.trans (hB4.mono (by omega))
  have HRB : Hid (Rowed w4 ao B cap ∧ (∀ ad, ao = some ad → ad.block < w4.heap.size) ∧ ByteL B ∧ B.length < 1073741824) := ⟨hR4, fun ad e => (hblk ad e).2, by rw [← HBB.out]; exact encMsg_bytes HM4.out.pb HM4.out.yb HM4.out.tb, by rw [← HBB.out]; have := encMsg_len m P ys (by omega) (by omega); omega⟩
  obtain ⟨bl, HBL⟩ : ∃ bl, Hid (B.length = bl) := ⟨_, rfl⟩
  have HD : Hid (Calls Try.prog 15 #[.slice ao bl cap] w4 fun e w' => DecMsg B w4.heap.size e w' ∧ Below w4.heap.size w4 w') := by rw [← HBL.out]; exact dMsg_str B ao cap w4 HRB.out.1 HRB.out.2.2.1 HRB.out.2.2.2
  rw [HBL.out]
  clear hO4 hB4 hR4 hblk hcv hc5 HM2 HA2 HW2 hlen
  go_wp2_with fail
  refine HD.out.mono ?_
  rintro x w5 ⟨hd, hB5⟩
  obtain ⟨m2, P2, ys2, rfl, hg, hsm⟩ := hd.back ⟨HVL.out.1, HVL.out.2, hmb, HBB.out⟩
  have HP2 : Hid (P = P2) := sameMsgB_val hsm
  have HG5 : Hid (MsgGot w5 w4.heap.size m2 P2 ys2) := hg
  have HB5 : Hid (Below w4.heap.size w4 w5) := hB5
  clear hd hB5 HD hg hsm
  go_upto_region 6 with (refine wpList_store_msgP rfl _ _ rfl w5.heap.size m2 MsgR.zero ?_ ?_ (alloc_blk _ _) ?_; rfl; rfl)
  rw [setRow_new]
  have HB6 : Hid (Below w4.heap.size w4 (w5.alloc (.cells m2.cells 35))) := HB5.out.trans ((below_alloc _ _).mono HB5.out.size)
  have HG6 : Hid (MsgGot (w5.alloc (.cells m2.cells 35)) w4.heap.size m2 P2 ys2) := HG5.out.below (below_alloc _ _) (Nat.le_refl _)
  have HX6 : Hid ((w5.alloc (.cells m2.cells 35)).heap[w5.heap.size]? = some (.cells m2.cells 35 (0, 0))) := alloc_blk _ _
  generalize w5.alloc (.cells m2.cells 35) = w6 at *
  obtain ⟨g6, hg6⟩ : ∃ g6, w5.heap.size = g6 := ⟨_, rfl⟩
  rw [hg6] at HX6
  simp only [hg6]
  clear hg6 HB5 HG5
  have hp2 : P2.length = pl := by rw [← HP2.out, ← HPL.out]; exact HVL.out.1.symm
  have HP2L : Hid (m2.vl = pl ∧ P2.length = pl) := ⟨by rw [HG6.out.at_.vl]; exact hp2, hp2⟩
  obtain ⟨vb, vo, hva, hcl⟩ := HG6.out.at_.val.at (fun e => by rw [e] at hp2; simp at hp2; omega)
  have hc0 := hcl 0 (by omega)
  have hfz : w6.frozen? ⟨vb, vo, none⟩ = false := by
    obtain ⟨cur, hcur⟩ := HG6.out.vf _ hva
    exact frozen_blk hcur _
  have hvb : w4.heap.size ≤ vb := HG6.out.va _ hva
  rw [Nat.add_zero] at hc0
  obtain ⟨x0, hx0⟩ : ∃ x0, P2.getD 0 0 = x0 := ⟨_, rfl⟩
  rw [hx0] at hc0
  have hc6 : w6.cell? ⟨g6, 5, none⟩ = some (.slice (some ⟨vb, vo, none⟩) pl m2.vc) := by rw [← hva, ← HP2L.out.1]; exact (cell_blk HX6.out _).trans m2.at5
  have hpl0 : ¬ (pl : Int) = 0 := by omega
  have hpl0' : ¬ pl = 0 := by omega
  obtain ⟨y0, hy0⟩ : ∃ y0, bits .xor .u8 x0 1 = y0 := ⟨_, rfl⟩
  have HB7 : Hid (Below w4.heap.size w4 (w6.setCell ⟨vb, vo, none⟩ (.int .u8 y0))) := HB6.out.setCell (p := ⟨vb, vo, none⟩) hvb _
  clear hcl hp2 hva hx0
  go_upto_region 9 with fail
  generalize w6.setCell ⟨vb, vo, none⟩ (.int .u8 y0) = w7 at *
  clear hc6 hc0 hfz hy0 HX6 HG6 HB6 hpl0 hpl0'
  have HR7 : Hid (Rowed w7 ao B cap) := HRB.out.1.same (fun ad e => HB7.out.block _ (HRB.out.2.1 ad e))
  have HD7 : Hid (Calls Try.prog 15 #[.slice ao bl cap] w7 fun e w' => DecMsg B w7.heap.size e w' ∧ Below w7.heap.size w7 w') := by rw [← HBL.out]; exact dMsg_str B ao cap w7 HR7.out HRB.out.2.2.1 HRB.out.2.2.2
  go_wp2_with fail
  refine HD7.out.mono ?_
  rintro x w8 ⟨hd, hB8⟩
  obtain ⟨m3, P3, ys3, rfl, hg, hsm⟩ := hd.back ⟨HVL.out.1, HVL.out.2, hmb, HBB.out⟩
  have HSM : Hid (sameMsgB m3 m P3 P ys3 ys = true) := sameMsgB_comm hsm
  have HY3 : Hid (ys3.length < 1073741824) := hg.at_.yb
  have HG8 : Hid (MsgIn w8 m3 P3 ys3) := hg.in_
  have HB8 : Hid (Below w4.heap.size w4 w8) := HB7.out.trans (hB8.mono HB7.out.size)
  clear hd hB8 HD7 hg hsm HR7 HB7
  go_upto_region 10 with (refine wpList_store_msgP rfl _ _ rfl w8.heap.size m3 MsgR.zero ?_ ?_ (alloc_blk _ _) ?_; rfl; rfl)
  rw [setRow_new]
  have HB9 : Hid (Below w4.heap.size w4 (w8.alloc (.cells m3.cells 35))) := HB8.out.trans ((below_alloc _ _).mono HB8.out.size)
  have HG9 : Hid (MsgIn (w8.alloc (.cells m3.cells 35)) m3 P3 ys3) := HG8.out.below (below_alloc _ _) (Nat.le_refl _)
  have HX9 : Hid ((w8.alloc (.cells m3.cells 35)).heap[w8.heap.size]? = some (.cells m3.cells 35 (0, 0))) := alloc_blk _ _
  generalize w8.alloc (.cells m3.cells 35) = w9 at *
  obtain ⟨g9, hg9⟩ : ∃ g9, w8.heap.size = g9 := ⟨_, rfl⟩
  rw [hg9] at HX9
  simp only [hg9]
  clear hg9 HB8 HG8
  have HM9 : Hid (MsgIn w9 m P ys) := HM4.out.below HB9.out (Nat.le_refl _)
  have HA9 : Hid (w9.heap[w.heap.size]? = some (.cells m.cells 35 (0, 0))) := (HB9.out.block _ (lt_blk HA4.out)).trans HA4.out
  have HW9 : Hid (Below w.heap.size w w9) := HW4.out.trans (HB9.out.mono (Nat.le_of_lt (lt_blk HA4.out)))
  have hcv9 := HC.out w9 HM9.out
  rw [HNM.out] at hcv9
  have hc9 : w9.cell? ⟨w.heap.size, 5, none⟩ = some (.slice m.va pl m.vc) := by rw [← HPL.out]; exact (cell_blk HA9.out _).trans m.at5
  have hnn : (nm == nm) = true := by rw [beq_toListBytes]; simp
  go_wp2_with (first | (refine wpList_load_msgGP rfl rfl _ rfl w.heap.size m 35 (0, 0) ?_ ?_ ?_; rfl; exact HA9.out) | (refine wpList_load_msgGP rfl rfl _ rfl g9 m3 35 (0, 0) ?_ ?_ ?_; rfl; exact HX9.out))
  refine (rSameMsg_any m3 m P3 P ys3 ys w9 HG9.out HM9.out HY3.out).mono ?_
  rintro x w10 ⟨rfl, hB10⟩
  rw [HSM.out]
  have hW10 : Below w.heap.size w w10 := HW9.out.trans (hB10.mono (by have := lt_blk HA9.out; omega))
  go_wp2_with fail
  refine (known5_any w10).mono ?_
  rintro x w11 ⟨rfl, hB11⟩
  have hW11 : Below w.heap.size w w11 := hW10.trans (hB11.mono hW10.size)
  go_wp2_with fail
  go_ret
  exact ⟨rfl, hW11⟩
end Go.Proofs.Ytkjocpadmlobgab
