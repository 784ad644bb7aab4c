/- WireMsgs' walk: any message as bytes, or refused; any bytes as a message, or refused; any two whether they are one. No condition. -/
import Derived.Test.YtkjocpadmlobgaaWireRh
import Derived.Test.YtkjocpadmlobgaaWireDh
import Derived.Test.YtkjocpadmlobgaaWireSw
import Derived.Test.YtkjocpadmlobgaaWireL
namespace Go.Proofs.Ytkjocpadmlobgaa
open Go.RowKit Go.Dig Go.Inv Go.Oct
set_option linter.unusedVariables false

theorem votesEq_refl : ∀ l : List VoteR, VotesEq l l
  | [] => trivial
  | _ :: l => ⟨⟨rfl, rfl, rfl, fun _ _ => rfl, rfl, fun _ _ => rfl⟩, votesEq_refl l⟩
theorem sameMsgB_self (m : MsgR) (P : List Int) (ys : List VoteR) : sameMsgB m m P P ys ys = true := by
  have h7 := votesEqB_iff.2 (votesEq_refl ys)
  have h8 : rowEq 32 m.tag m.tag = true := rowEq_iff.2 (fun _ _ => rfl)
  simp only [sameMsgB, h7, h8, decide_true, Bool.and_self]
theorem msgIn_zero (w : World) : MsgIn w MsgR.zero [] [] := ⟨rfl, .inl ⟨rfl, rfl, rfl⟩, rfl, fun h => absurd rfl h, ⟨inI_lit (by decide) (by decide), inI_lit (by decide) (by decide), inI_lit (by decide) (by decide), inI_lit (by decide) (by decide), inI_lit (by decide) (by decide)⟩, (fun y hy => by cases hy), (fun y hy => by cases hy), (fun y hy => by cases hy), fun j _ => ⟨Int.le_refl _, (by decide : (0 : Int) < 256)⟩⟩
/-- what is decoded twice of the same bytes is the same -/
theorem DecMsg.one {B : List Int} {b0 : Nat} {e : Ending} {w : World} (h : DecMsg B b0 e w) : ∃ (m1 : MsgR) (f : Int) (P1 : List Int) (ys1 : List VoteR), e = .returned (.tuple #[.agg m1.cells, .int .i64 f]) ∧ MsgIn w m1 P1 ys1 ∧ ys1.length < 1073741824 ∧ ∀ (b1 : Nat) (e2 : Ending) (w2 : World), DecMsg B b1 e2 w2 → ∃ (m2 : MsgR) (P2 : List Int) (ys2 : List VoteR), e2 = .returned (.tuple #[.agg m2.cells, .int .i64 f]) ∧ MsgIn w2 m2 P2 ys2 ∧ sameMsgB m1 m2 P1 P2 ys1 ys2 = true := by
  obtain ⟨m1, f, he, hd⟩ := h
  rcases hd with ⟨rfl, P1, ys1, hg, hE⟩ | ⟨rfl, rfl, hn⟩
  · refine ⟨m1, 0, P1, ys1, he, hg.in_, hg.at_.yb, fun b1 e2 w2 h2 => ?_⟩
    obtain ⟨m2, P2, ys2, h3, h4, h5⟩ := h2.back hE
    exact ⟨m2, P2, ys2, h3, h4.in_, h5⟩
  · refine ⟨MsgR.zero, 2, [], [], he, msgIn_zero w, by decide, fun b1 e2 w2 h2 => ?_⟩
    obtain ⟨m2, f2, he2, hd2⟩ := h2
    rcases hd2 with ⟨-, P2, ys2, -, hE⟩ | ⟨rfl, rfl, -⟩
    · exact absurd hE (hn _ _ _)
    · exact ⟨MsgR.zero, [], [], he2, msgIn_zero w2, sameMsgB_self _ _ _⟩
/-- the world of WireMsgs' walk: its arguments lie there -/
structure MqW (w : World) (m n : MsgR) (P Q : List Int) (ys zs : List VoteR) (ao : Option Addr) (B : List Int) (cap : Nat) (W : World) : Prop where
  bel : Below w.heap.size w W
  bm : W.heap[w.heap.size]? = some (.cells m.cells 27 (0, 0))
  bn : W.heap[w.heap.size + 1]? = some (.cells n.cells 27 (0, 0))
  inm : MsgIn W m P ys
  inn : MsgIn W n Q zs
  row : Rowed W ao B cap
theorem MqW.size {w W : World} {m n : MsgR} {P Q : List Int} {ys zs : List VoteR} {ao : Option Addr} {B : List Int} {cap : Nat} (h : MqW w m n P Q ys zs ao B cap W) : w.heap.size + 2 ≤ W.heap.size := by have := lt_blk h.bn; omega
theorem MqW.next {w W W' : World} {m n : MsgR} {P Q : List Int} {ys zs : List VoteR} {ao : Option Addr} {B : List Int} {cap : Nat} (h : MqW w m n P Q ys zs ao B cap W) {k : Nat} (hB : Below k W W') (hb : W.heap.size ≤ k) : MqW w m n P Q ys zs ao B cap W' := by
  have hs := h.size
  exact ⟨h.bel.trans (hB.mono (by omega)), (hB.block _ (by omega)).trans h.bm, (hB.block _ (by omega)).trans h.bn, h.inm.below hB hb, h.inn.below hB hb, h.row.below hB hb⟩
theorem ownB_emptyM (w : World) : OwnB (w.alloc (.cells #[] 5)) w.heap.size (.slice (some ⟨w.heap.size, 0, none⟩) 0 0) [] :=
  ⟨rfl, .inr ⟨w.heap.size, 0, #[], rfl, Nat.le_refl _, alloc_blk _ _, Nat.le_refl _, Nat.zero_le _, rfl, rfl⟩⟩
set_option maxRecDepth 10000 in
set_option maxHeartbeats 16000000 in
theorem wireMsgs_any (m n : MsgR) (P Q : List Int) (ys zs : List VoteR) (ao : Option Addr) (B : List Int) (cap : Nat) (w : World) (hm : MsgIn w m P ys) (hn : MsgIn w n Q zs) (hR : Rowed w ao B cap) (hy : ∀ x ∈ B, 0 ≤ x ∧ x < 256) (hc : B.length ≤ cap) :
    Calls Try.prog 3 #[.agg m.cells, .agg n.cells, .slice ao B.length cap] w fun x w' => x = .returned (.bool true) ∧ Below w.heap.size w w' := by
  have HW1 : Hid (MqW w m n P Q ys zs ao B cap ((w.alloc (.cells m.cells 27)).alloc (.cells n.cells 27))) := by
    have hB : Below w.heap.size w ((w.alloc (.cells m.cells 27)).alloc (.cells n.cells 27)) := ((Below.refl _ _).alloc (Nat.le_refl _) _).alloc (by simp) _
    have h1 : (w.alloc (.cells m.cells 27)).heap.size = w.heap.size + 1 := by simp
    refine ⟨hB, alloc_blk_old (alloc_blk _ _) _, ?_, hm.below hB (Nat.le_refl _), hn.below hB (Nat.le_refl _), hR.below hB (Nat.le_refl _)⟩
    have := alloc_blk (w.alloc (.cells m.cells 27)) (.cells n.cells 27)
    rw [h1] at this
    exact this
  have HBY : Hid (ByteL B ∧ B.length ≤ cap) := ⟨hy, hc⟩
  have HML : Hid (m.vl = P.length ∧ m.yl = ys.length) := ⟨hm.vl, hm.yl⟩
  obtain ⟨pl, HPL⟩ : ∃ pl, Hid (B.length = pl) := ⟨_, rfl⟩
  rw [HPL.out]
  clear hR hy hc hm hn
  go_enter Try.func3, Try.ntmps3
  go_upto_region 1 with (first | (refine wpList_box_row rfl 27 _ rfl _ rfl ?_))
  generalize (w.alloc (.cells m.cells 27)).alloc (.cells n.cells 27) = w1 at *
  go_wp2_with (refine wpList_load_msgP rfl _ rfl w.heap.size m 27 (0, 0) ?_ ?_ ?_; rfl; exact HW1.out.bm)
  refine (long5_any m w1).mono ?_
  rintro x w2 ⟨rfl, hB2⟩
  have HW2 : Hid (MqW w m n P Q ys zs ao B cap w2) := HW1.out.next hB2 (Nat.le_refl _)
  clear hB2 HW1
  obtain ⟨lo, HLO⟩ : ∃ lo, Hid (longM m = lo) := ⟨_, rfl⟩
  rw [HLO.out]
  cases lo
  case true =>
    have hW := HW2.out.bel
    go_wp2_with fail
    go_ret
    exact ⟨rfl, hW⟩
  go_wp2_with (refine wpList_load_msgGP rfl rfl _ rfl (w.heap.size + 1) n 27 (0, 0) ?_ ?_ ?_; rfl; exact HW2.out.bn)
  refine (long5_any n w2).mono ?_
  rintro x w3 ⟨rfl, hB3⟩
  have HW3 : Hid (MqW w m n P Q ys zs ao B cap w3) := HW2.out.next hB3 (Nat.le_refl _)
  clear hB3 HW2
  obtain ⟨ln, HLN⟩ : ∃ ln, Hid (longM n = ln) := ⟨_, rfl⟩
  rw [HLN.out]
  cases ln
  case true =>
    have hW := HW3.out.bel
    go_wp2_with fail
    go_ret
    exact ⟨rfl, hW⟩
  by_cases h3 : 3000 < pl
  · have hW := HW3.out.bel
    have h3' : 3000 < (pl : Int) := by omega
    go_wp2_with fail
    go_ret
    exact ⟨rfl, hW⟩
  have h3' : ¬ 3000 < (pl : Int) := by omega
  have HLEN : Hid (P.length < 137438953472 ∧ ys.length < 1073741824) := by
    have h1 := HLO.out
    have h2 := HML.out
    simp only [longM, Bool.or_eq_false_iff, decide_eq_false_iff_not] at h1
    exact ⟨by omega, by omega⟩
  obtain ⟨M1, HM1⟩ : ∃ M1, Hid ((if msgB m ys = true then encMsg m P ys else []) = M1) := ⟨_, rfl⟩
  obtain ⟨f1, Hf1⟩ : ∃ f1 : Int, Hid ((if msgB m ys = true then (0 : Int) else 1) = f1) := ⟨_, rfl⟩
  obtain ⟨lM1, HLM1⟩ : ∃ l, Hid (M1.length = l) := ⟨_, rfl⟩
  go_wp2_with (refine wpList_load_msgP rfl _ rfl w.heap.size m 27 (0, 0) ?_ ?_ ?_; rfl; exact HW3.out.bm)
  refine (encodeMsg_any m P ys w3 (HW3.out.inm.at (by rw [HML.out.1]; exact HLEN.out.1) (by rw [HML.out.2]; exact HLEN.out.2))).mono ?_
  rintro x w4 ⟨v1, rfl, hO, hB⟩
  have HW4 : Hid (MqW w m n P Q ys zs ao B cap w4) := HW3.out.next hB (Nat.le_refl _)
  rw [HM1.out] at hO
  rw [Hf1.out]
  obtain ⟨r1, c1, rfl, -, hR, -⟩ := OwnB.form2r hO
  have HR1 : Hid (Rowed w4 r1 M1 c1) := hR
  rw [HLM1.out]
  clear hO hB hR HW3
  go_wp2_with (refine wpList_load_msgP rfl _ rfl w.heap.size m 27 (0, 0) ?_ ?_ ?_; rfl; exact HW4.out.bm)
  refine (rEncodeMsg_any m P ys w4 HW4.out.inm HLEN.out.1 HLEN.out.2).mono ?_
  rintro x w5 ⟨v2, rfl, hO, hB⟩
  have HW5 : Hid (MqW w m n P Q ys zs ao B cap w5) := HW4.out.next hB (Nat.le_refl _)
  have HR1 : Hid (Rowed w5 r1 M1 c1) := HR1.out.below hB (Nat.le_refl _)
  rw [HM1.out] at hO
  rw [Hf1.out]
  obtain ⟨r2, c2, rfl, -, hR, -⟩ := OwnB.form2r hO
  have HR2 : Hid (Rowed w5 r2 M1 c2) := hR
  rw [HLM1.out]
  clear hO hB hR HW4
  have HE0 : Hid (OwnB (w5.alloc (.cells #[] 5)) w5.heap.size (.slice (some ⟨w5.heap.size, 0, none⟩) 0 0) []) := ownB_emptyM w5
  have HRP : Hid (Rowed (w5.alloc (.cells #[] 5)) ao B cap) := HW5.out.row.below (below_alloc _ _) (Nat.le_refl _)
  have hse : (w5.alloc (.cells #[] 5)).heap.size = w5.heap.size + 1 := by simp
  go_wp2_with (at_builtin; refine wpList_app rfl _ _ rfl w5.heap.size (.slice (some ⟨w5.heap.size, 0, none⟩) 0 0) [] ?_ HE0.out ao pl cap B ?_ HPL.out.symm HRP.out ?_ ?_ ?_; rfl; rfl)
  case refine_3 => simp; omega
  case refine_4 => rw [hse]; omega
  intro v5 w6 HO HG
  have HB : Hid (Below w5.heap.size w5 w6) := (below_alloc _ _).trans (HG.out.below (by rw [hse]; omega) (fun k hk => by simp [Value.ownBlock] at hk; omega))
  have HW6 : Hid (MqW w m n P Q ys zs ao B cap w6) := HW5.out.next HB.out (Nat.le_refl _)
  have HR1 : Hid (Rowed w6 r1 M1 c1) := HR1.out.below HB.out (Nat.le_refl _)
  have HR2 : Hid (Rowed w6 r2 M1 c2) := HR2.out.below HB.out (Nat.le_refl _)
  obtain ⟨r5, c5, rfl, -, hR, -⟩ := OwnB.form2r HO.out
  have HR5 : Hid (Rowed w6 r5 B c5) := hR
  rw [HPL.out]
  clear HE0 HRP hse HO HG HB hR HW5
  have HD : Hid (Calls Try.prog 12 #[.slice r5 pl c5] w6 fun e w' => DecMsg B w6.heap.size e w' ∧ Below w6.heap.size w6 w') := by rw [← HPL.out]; exact dMsg_str B r5 c5 w6 HR5.out HBY.out.1 (by have := HPL.out; omega)
  go_wp2_with fail
  refine HD.out.mono ?_
  rintro x w7 ⟨hd, hB⟩
  obtain ⟨ma, g1, PA, ya, rfl, hia, hla, hkey⟩ := hd.one
  have HKEY : Hid (∀ (b1 : Nat) (e2 : Ending) (w2 : World), DecMsg B b1 e2 w2 → ∃ (m2 : MsgR) (P2 : List Int) (ys2 : List VoteR), e2 = .returned (.tuple #[.agg m2.cells, .int .i64 g1]) ∧ MsgIn w2 m2 P2 ys2 ∧ sameMsgB ma m2 PA P2 ya ys2 = true) := hkey
  have HLA : Hid (ya.length < 1073741824) := hla
  have HIA : Hid (MsgIn w7 ma PA ya) := hia
  have HW7 : Hid (MqW w m n P Q ys zs ao B cap w7) := HW6.out.next hB (Nat.le_refl _)
  have HR1 : Hid (Rowed w7 r1 M1 c1) := HR1.out.below hB (Nat.le_refl _)
  have HR2 : Hid (Rowed w7 r2 M1 c2) := HR2.out.below hB (Nat.le_refl _)
  clear hd hB HD HW6 HR5 hkey hla hia
  go_upto_region 7 with (refine wpList_store_msgP rfl _ _ rfl w7.heap.size ma MsgR.zero ?_ ?_ (alloc_blk _ _) ?_; rfl; rfl)
  rw [setRow_new]
  have HW8 : Hid (MqW w m n P Q ys zs ao B cap (w7.alloc (.cells ma.cells 27))) := HW7.out.next (below_alloc _ _) (Nat.le_refl _)
  have HR1 : Hid (Rowed (w7.alloc (.cells ma.cells 27)) r1 M1 c1) := HR1.out.below (below_alloc _ _) (Nat.le_refl _)
  have HR2 : Hid (Rowed (w7.alloc (.cells ma.cells 27)) r2 M1 c2) := HR2.out.below (below_alloc _ _) (Nat.le_refl _)
  have HIA : Hid (MsgIn (w7.alloc (.cells ma.cells 27)) ma PA ya) := HIA.out.below (below_alloc _ _) (Nat.le_refl _)
  have HGA : Hid ((w7.alloc (.cells ma.cells 27)).heap[w7.heap.size]? = some (.cells ma.cells 27 (0, 0))) := alloc_blk _ _
  generalize w7.alloc (.cells ma.cells 27) = w8 at *
  obtain ⟨ga, hga⟩ : ∃ ga, w7.heap.size = ga := ⟨_, rfl⟩
  rw [hga] at HGA
  simp only [hga]
  clear hga HW7
  have HD : Hid (Calls Try.prog 13 #[.slice ao pl cap] w8 fun e w' => DecMsg B w8.heap.size e w' ∧ Below w8.heap.size w8 w') := by rw [← HPL.out]; exact rdMsg_str B ao cap w8 HW8.out.row HBY.out.1 (by have := HPL.out; omega) HBY.out.2
  go_wp2_with fail
  refine HD.out.mono ?_
  rintro x w9 ⟨hd, hB⟩
  obtain ⟨mb, PB, yb, rfl, hib, hsm⟩ := HKEY.out _ _ _ hd
  have HSM : Hid (sameMsgB ma mb PA PB ya yb = true) := hsm
  have HIB : Hid (MsgIn w9 mb PB yb) := hib
  have HW9 : Hid (MqW w m n P Q ys zs ao B cap w9) := HW8.out.next hB (Nat.le_refl _)
  have HR1 : Hid (Rowed w9 r1 M1 c1) := HR1.out.below hB (Nat.le_refl _)
  have HR2 : Hid (Rowed w9 r2 M1 c2) := HR2.out.below hB (Nat.le_refl _)
  have HIA : Hid (MsgIn w9 ma PA ya) := HIA.out.below hB (Nat.le_refl _)
  have HGA : Hid (w9.heap[ga]? = some (.cells ma.cells 27 (0, 0))) := (hB.block _ (lt_blk HGA.out)).trans HGA.out
  clear hd hB HD HW8 hib hsm HKEY
  go_upto_region 8 with (refine wpList_store_msgP rfl _ _ rfl w9.heap.size mb MsgR.zero ?_ ?_ (alloc_blk _ _) ?_; rfl; rfl)
  rw [setRow_new]
  have HW10 : Hid (MqW w m n P Q ys zs ao B cap (w9.alloc (.cells mb.cells 27))) := HW9.out.next (below_alloc _ _) (Nat.le_refl _)
  have HR1 : Hid (Rowed (w9.alloc (.cells mb.cells 27)) r1 M1 c1) := HR1.out.below (below_alloc _ _) (Nat.le_refl _)
  have HR2 : Hid (Rowed (w9.alloc (.cells mb.cells 27)) r2 M1 c2) := HR2.out.below (below_alloc _ _) (Nat.le_refl _)
  have HIA : Hid (MsgIn (w9.alloc (.cells mb.cells 27)) ma PA ya) := HIA.out.below (below_alloc _ _) (Nat.le_refl _)
  have HIB : Hid (MsgIn (w9.alloc (.cells mb.cells 27)) mb PB yb) := HIB.out.below (below_alloc _ _) (Nat.le_refl _)
  have HGA : Hid ((w9.alloc (.cells mb.cells 27)).heap[ga]? = some (.cells ma.cells 27 (0, 0))) := alloc_blk_old HGA.out _
  have HGB : Hid ((w9.alloc (.cells mb.cells 27)).heap[w9.heap.size]? = some (.cells mb.cells 27 (0, 0))) := alloc_blk _ _
  generalize w9.alloc (.cells mb.cells 27) = w10 at *
  obtain ⟨gb, hgb⟩ : ∃ gb, w9.heap.size = gb := ⟨_, rfl⟩
  rw [hgb] at HGB
  simp only [hgb]
  clear hgb HW9
  have hcv1 := conv_str (w := w10) HR1.out HLM1.out.symm
  have hcv2 := conv_str (w := w10) HR2.out HLM1.out.symm
  obtain ⟨S1, HS1⟩ : ∃ S1, Hid (strOf M1 = S1) := ⟨_, rfl⟩
  rw [HS1.out] at hcv1 hcv2
  have hs1 : (S1 == S1) = true := by rw [beq_toListBytes]; simp
  obtain ⟨sb, HSB⟩ : ∃ sb, Hid (sameMsgB m n P Q ys zs = sb) := ⟨_, rfl⟩
  clear hcv1 hcv2
  refine wp_region_growG (by kernel_rfl) (by kernel_rfl) (fun xs => { tmps := (Value.agg m.cells :: Value.agg n.cells :: Value.slice ao pl cap :: Value.pointer (some (⟨w.heap.size, 0, none⟩ : Addr)) :: Value.pointer (some (⟨w.heap.size + 1, 0, none⟩ : Addr)) :: undef :: xs 37 :: Value.slice r1 lM1 c1 :: Value.int IntKind.i64 f1 :: Value.slice r2 lM1 c2 :: Value.int IntKind.i64 f1 :: Value.pointer (some (⟨ga, 0, none⟩ : Addr)) :: Value.int IntKind.i64 g1 :: Value.pointer (some (⟨gb, 0, none⟩ : Addr)) :: Value.int IntKind.i64 g1 :: Value.agg m.cells :: Value.bool false :: Value.bool false :: Value.agg n.cells :: Value.bool false :: Value.bool false :: Value.bool false :: Value.slice ao pl cap :: Value.int IntKind.i64 (pl : Int) :: Value.bool (decide (3000 < (pl : Int))) :: Value.bool (decide (3000 < (pl : Int))) :: Value.tuple #[Value.slice r1 lM1 c1, Value.int IntKind.i64 f1] :: Value.agg m.cells :: Value.tuple #[Value.slice r1 lM1 c1, Value.int IntKind.i64 f1] :: Value.slice r1 lM1 c1 :: Value.int IntKind.i64 f1 :: Value.tuple #[Value.slice r2 lM1 c2, Value.int IntKind.i64 f1] :: Value.agg m.cells :: Value.tuple #[Value.slice r2 lM1 c2, Value.int IntKind.i64 f1] :: Value.slice r2 lM1 c2 :: Value.int IntKind.i64 f1 :: Value.tuple #[Value.agg ma.cells, Value.int IntKind.i64 g1] :: Value.slice (some (⟨w5.heap.size, 0, none⟩ : Addr)) 0 0 :: Value.slice ao pl cap :: Value.slice r5 pl c5 :: Value.tuple #[Value.agg ma.cells, Value.int IntKind.i64 g1] :: Value.agg ma.cells :: Value.int IntKind.i64 g1 :: Value.tuple #[Value.agg mb.cells, Value.int IntKind.i64 g1] :: Value.slice ao pl cap :: Value.tuple #[Value.agg mb.cells, Value.int IntKind.i64 g1] :: Value.agg mb.cells :: Value.int IntKind.i64 g1 :: xs 0 :: xs 1 :: xs 2 :: xs 3 :: xs 4 :: xs 5 :: xs 6 :: xs 7 :: xs 8 :: xs 9 :: xs 10 :: xs 11 :: xs 12 :: xs 13 :: xs 14 :: xs 15 :: xs 16 :: xs 17 :: xs 18 :: xs 19 :: xs 20 :: xs 21 :: xs 22 :: xs 23 :: xs 24 :: xs 25 :: xs 26 :: xs 27 :: xs 28 :: xs 29 :: xs 30 :: xs 31 :: xs 32 :: xs 33 :: xs 34 :: xs 35 :: xs 36 :: []).toArray, defers := [] })
    (fun ii xx _ => match ii with | 0 => xx = .slice r1 lM1 c1 | 1 => xx = .string S1 | 2 => xx = .slice r2 lM1 c2 | 3 => xx = .string S1 | 4 => xx = .bool true | 5 => xx = .bool true | 6 => xx = .int .i64 f1 | 7 => xx = .int .i64 f1 | 8 => xx = .bool true | 9 => xx = .bool true | 10 => xx = .bool true | 11 => xx = .agg ma.cells | 12 => xx = .agg mb.cells | 13 => xx = .bool true | 14 => xx = .bool true | 15 => xx = .bool true | 16 => xx = .int .i64 g1 | 17 => xx = .int .i64 g1 | 18 => xx = .bool true | 19 => xx = .bool true | 20 => xx = .bool true | 21 => xx = .agg m.cells | 22 => xx = .agg n.cells | 23 => xx = .bool sb | 24 => xx = .agg m.cells | 25 => xx = .agg n.cells | 26 => xx = .bool sb | 27 => xx = .bool true | 28 => xx = .bool true | 29 => xx = .bool true | 30 => xx = .agg m.cells | 31 => xx = .agg m.cells | 32 => xx = .bool true | 33 => xx = .bool true | 34 => xx = .bool true | 35 => xx = .bool true | 36 => xx = .bool true | 37 => xx = .bool true | _ => True) (fun | 37 => .bool false | _ => undef) (by repeat (first | exact trivial | refine ⟨fun _ _ => rfl, ?_⟩)) (fun _ _ _ _ _ h => h) ⟨?_, ?_, ?_, ?_, ?_, ?_, ?_, ?_, ?_, ?_, ?_, ?_, ?_, ?_, ?_, ?_, ?_, ?_, ?_, ?_, ?_, ?_, ?_, ?_, ?_, ?_, ?_, ?_, ?_, ?_, ?_, ?_, ?_, ?_, ?_, ?_, ?_, ?_, trivial⟩ ?_
  · intro xs W hB hp K hK
    rw [if_pos (wanted_none rfl _)]
    clear hp
    go_simp
    exact hK _ _ (Below.refl _ _) rfl
  · intro xs W hB hp K hK
    rw [if_pos (wanted_none rfl _)]
    have h0 : xs 0 = .slice r1 lM1 c1 := hp.1 rfl
    clear hp
    have hcv := conv_str (w := W) (HR1.out.below hB (Nat.le_refl _)) HLM1.out.symm
    rw [HS1.out] at hcv
    simp only [h0] at hK ⊢
    clear h0
    go_simp
    exact hK _ _ (Below.refl _ _) rfl
  · intro xs W hB hp K hK
    rw [if_pos (wanted_none rfl _)]
    clear hp
    go_simp
    exact hK _ _ (Below.refl _ _) rfl
  · intro xs W hB hp K hK
    rw [if_pos (wanted_none rfl _)]
    have h2 : xs 2 = .slice r2 lM1 c2 := hp.1 rfl
    clear hp
    have hcv := conv_str (w := W) (HR2.out.below hB (Nat.le_refl _)) HLM1.out.symm
    rw [HS1.out] at hcv
    simp only [h2] at hK ⊢
    clear h2
    go_simp
    exact hK _ _ (Below.refl _ _) rfl
  · intro xs W hB hp K hK
    rw [if_pos (wanted_none rfl _)]
    have h1 : xs 1 = .string S1 := hp.1 rfl
    have h3 : xs 3 = .string S1 := hp.2.1 rfl
    clear hp
    simp only [h1, h3] at hK ⊢
    clear h1 h3
    go_simp
    exact hK _ _ (Below.refl _ _) (by first | rfl | (show Value.bool _ = _; simp; done) | (show Value.bool _ = _; simp; omega))
  · intro xs W hB hp K hK
    rw [if_pos (wanted_none rfl _)]
    have h4 : xs 4 = .bool true := hp.1 rfl
    clear hp
    simp only [h4] at hK ⊢
    clear h4
    go_simp
    exact hK _ _ (Below.refl _ _) rfl
  · intro xs W hB hp K hK
    have hgd : xs 5 = .bool true := hp.1 rfl
    rw [wanted_gK (b := true) rfl (by show (match some (xs 5) with | some (.bool b) => some b | _ => none) = some true; rw [hgd])]
    rw [if_pos (show (true == true) = true from rfl)]
    clear hgd
    clear hp
    go_simp
    exact hK _ _ (Below.refl _ _) rfl
  · intro xs W hB hp K hK
    have hgd : xs 5 = .bool true := hp.1 rfl
    rw [wanted_gK (b := true) rfl (by show (match some (xs 5) with | some (.bool b) => some b | _ => none) = some true; rw [hgd])]
    rw [if_pos (show (true == true) = true from rfl)]
    clear hgd
    clear hp
    go_simp
    exact hK _ _ (Below.refl _ _) rfl
  · intro xs W hB hp K hK
    have hgd : xs 5 = .bool true := hp.2.2.1 rfl
    rw [wanted_gK (b := true) rfl (by show (match some (xs 5) with | some (.bool b) => some b | _ => none) = some true; rw [hgd])]
    rw [if_pos (show (true == true) = true from rfl)]
    clear hgd
    have h6 : xs 6 = .int .i64 f1 := hp.1 rfl
    have h7 : xs 7 = .int .i64 f1 := hp.2.1 rfl
    clear hp
    simp only [h6, h7] at hK ⊢
    clear h6 h7
    go_simp
    exact hK _ _ (Below.refl _ _) (by first | rfl | (show Value.bool _ = _; simp; done) | (show Value.bool _ = _; simp; omega))
  · intro xs W hB hp K hK
    rw [if_pos (wanted_none rfl _)]
    have h5 : xs 5 = .bool true := hp.1 rfl
    have h8 : xs 8 = .bool true := hp.2.1 rfl
    clear hp
    simp only [h5, h8] at hK ⊢
    clear h5 h8
    go_simp
    exact hK _ _ (Below.refl _ _) rfl
  · intro xs W hB hp K hK
    rw [if_pos (wanted_none rfl _)]
    have h9 : xs 9 = .bool true := hp.1 rfl
    clear hp
    simp only [h9] at hK ⊢
    clear h9
    go_simp
    exact hK _ _ (Below.refl _ _) rfl
  · intro xs W hB hp K hK
    have hgd : xs 10 = .bool true := hp.1 rfl
    rw [wanted_gK (b := true) rfl (by show (match some (xs 10) with | some (.bool b) => some b | _ => none) = some true; rw [hgd])]
    rw [if_pos (show (true == true) = true from rfl)]
    clear hgd
    clear hp
    exact wp_load_msg _ rfl ga ma 27 (0, 0) rfl ((hB.block _ (lt_blk HGA.out)).trans HGA.out) (hK _ _ (Below.refl _ _) rfl)
  · intro xs W hB hp K hK
    have hgd : xs 10 = .bool true := hp.1 rfl
    rw [wanted_gK (b := true) rfl (by show (match some (xs 10) with | some (.bool b) => some b | _ => none) = some true; rw [hgd])]
    rw [if_pos (show (true == true) = true from rfl)]
    clear hgd
    clear hp
    exact wp_load_msg _ rfl gb mb 27 (0, 0) rfl ((hB.block _ (lt_blk HGB.out)).trans HGB.out) (hK _ _ (Below.refl _ _) rfl)
  · intro xs W hB hp K hK
    have hgd : xs 10 = .bool true := hp.2.2.1 rfl
    rw [wanted_gK (b := true) rfl (by show (match some (xs 10) with | some (.bool b) => some b | _ => none) = some true; rw [hgd])]
    rw [if_pos (show (true == true) = true from rfl)]
    clear hgd
    have h11 : xs 11 = .agg ma.cells := hp.1 rfl
    have h12 : xs 12 = .agg mb.cells := hp.2.1 rfl
    clear hp
    simp only [h11, h12] at hK ⊢
    clear h11 h12
    go_simp
    refine (rSameMsg_any ma mb PA PB ya yb W (HIA.out.below hB (Nat.le_refl _)) (HIB.out.below hB (Nat.le_refl _)) HLA.out).mono ?_
    rintro e w' ⟨rfl, hB'⟩
    exact hK _ _ hB' (congrArg Value.bool HSM.out)
  · intro xs W hB hp K hK
    rw [if_pos (wanted_none rfl _)]
    have h10 : xs 10 = .bool true := hp.1 rfl
    have h13 : xs 13 = .bool true := hp.2.1 rfl
    clear hp
    simp only [h10, h13] at hK ⊢
    clear h10 h13
    go_simp
    exact hK _ _ (Below.refl _ _) rfl
  · intro xs W hB hp K hK
    rw [if_pos (wanted_none rfl _)]
    have h14 : xs 14 = .bool true := hp.1 rfl
    clear hp
    simp only [h14] at hK ⊢
    clear h14
    go_simp
    exact hK _ _ (Below.refl _ _) rfl
  · intro xs W hB hp K hK
    have hgd : xs 15 = .bool true := hp.1 rfl
    rw [wanted_gK (b := true) rfl (by show (match some (xs 15) with | some (.bool b) => some b | _ => none) = some true; rw [hgd])]
    rw [if_pos (show (true == true) = true from rfl)]
    clear hgd
    clear hp
    go_simp
    exact hK _ _ (Below.refl _ _) rfl
  · intro xs W hB hp K hK
    have hgd : xs 15 = .bool true := hp.1 rfl
    rw [wanted_gK (b := true) rfl (by show (match some (xs 15) with | some (.bool b) => some b | _ => none) = some true; rw [hgd])]
    rw [if_pos (show (true == true) = true from rfl)]
    clear hgd
    clear hp
    go_simp
    exact hK _ _ (Below.refl _ _) rfl
  · intro xs W hB hp K hK
    have hgd : xs 15 = .bool true := hp.2.2.1 rfl
    rw [wanted_gK (b := true) rfl (by show (match some (xs 15) with | some (.bool b) => some b | _ => none) = some true; rw [hgd])]
    rw [if_pos (show (true == true) = true from rfl)]
    clear hgd
    have h16 : xs 16 = .int .i64 g1 := hp.1 rfl
    have h17 : xs 17 = .int .i64 g1 := hp.2.1 rfl
    clear hp
    simp only [h16, h17] at hK ⊢
    clear h16 h17
    go_simp
    exact hK _ _ (Below.refl _ _) (by first | rfl | (show Value.bool _ = _; simp; done) | (show Value.bool _ = _; simp; omega))
  · intro xs W hB hp K hK
    rw [if_pos (wanted_none rfl _)]
    have h15 : xs 15 = .bool true := hp.1 rfl
    have h18 : xs 18 = .bool true := hp.2.1 rfl
    clear hp
    simp only [h15, h18] at hK ⊢
    clear h15 h18
    go_simp
    exact hK _ _ (Below.refl _ _) rfl
  · intro xs W hB hp K hK
    rw [if_pos (wanted_none rfl _)]
    have h19 : xs 19 = .bool true := hp.1 rfl
    clear hp
    simp only [h19] at hK ⊢
    clear h19
    go_simp
    exact hK _ _ (Below.refl _ _) rfl
  · intro xs W hB hp K hK
    have hgd : xs 20 = .bool true := hp.1 rfl
    rw [wanted_gK (b := true) rfl (by show (match some (xs 20) with | some (.bool b) => some b | _ => none) = some true; rw [hgd])]
    rw [if_pos (show (true == true) = true from rfl)]
    clear hgd
    clear hp
    exact wp_load_msg _ rfl w.heap.size m 27 (0, 0) rfl ((hB.block _ (lt_blk HW10.out.bm)).trans HW10.out.bm) (hK _ _ (Below.refl _ _) rfl)
  · intro xs W hB hp K hK
    have hgd : xs 20 = .bool true := hp.1 rfl
    rw [wanted_gK (b := true) rfl (by show (match some (xs 20) with | some (.bool b) => some b | _ => none) = some true; rw [hgd])]
    rw [if_pos (show (true == true) = true from rfl)]
    clear hgd
    clear hp
    exact wp_load_msg _ rfl (w.heap.size + 1) n 27 (0, 0) rfl ((hB.block _ (lt_blk HW10.out.bn)).trans HW10.out.bn) (hK _ _ (Below.refl _ _) rfl)
  · intro xs W hB hp K hK
    have hgd : xs 20 = .bool true := hp.2.2.1 rfl
    rw [wanted_gK (b := true) rfl (by show (match some (xs 20) with | some (.bool b) => some b | _ => none) = some true; rw [hgd])]
    rw [if_pos (show (true == true) = true from rfl)]
    clear hgd
    have h21 : xs 21 = .agg m.cells := hp.1 rfl
    have h22 : xs 22 = .agg n.cells := hp.2.1 rfl
    clear hp
    simp only [h21, h22] at hK ⊢
    clear h21 h22
    go_simp
    refine (sameMsg_any m n P Q ys zs W (HW10.out.inm.below hB (Nat.le_refl _)) (HW10.out.inn.below hB (Nat.le_refl _)) HLEN.out.2).mono ?_
    rintro e w' ⟨rfl, hB'⟩
    exact hK _ _ hB' (congrArg Value.bool HSB.out)
  · intro xs W hB hp K hK
    have hgd : xs 20 = .bool true := hp.1 rfl
    rw [wanted_gK (b := true) rfl (by show (match some (xs 20) with | some (.bool b) => some b | _ => none) = some true; rw [hgd])]
    rw [if_pos (show (true == true) = true from rfl)]
    clear hgd
    clear hp
    exact wp_load_msg _ rfl w.heap.size m 27 (0, 0) rfl ((hB.block _ (lt_blk HW10.out.bm)).trans HW10.out.bm) (hK _ _ (Below.refl _ _) rfl)
  · intro xs W hB hp K hK
    have hgd : xs 20 = .bool true := hp.1 rfl
    rw [wanted_gK (b := true) rfl (by show (match some (xs 20) with | some (.bool b) => some b | _ => none) = some true; rw [hgd])]
    rw [if_pos (show (true == true) = true from rfl)]
    clear hgd
    clear hp
    exact wp_load_msg _ rfl (w.heap.size + 1) n 27 (0, 0) rfl ((hB.block _ (lt_blk HW10.out.bn)).trans HW10.out.bn) (hK _ _ (Below.refl _ _) rfl)
  · intro xs W hB hp K hK
    have hgd : xs 20 = .bool true := hp.2.2.2.1 rfl
    rw [wanted_gK (b := true) rfl (by show (match some (xs 20) with | some (.bool b) => some b | _ => none) = some true; rw [hgd])]
    rw [if_pos (show (true == true) = true from rfl)]
    clear hgd
    have h24 : xs 24 = .agg m.cells := hp.1 rfl
    have h25 : xs 25 = .agg n.cells := hp.2.1 rfl
    clear hp
    simp only [h24, h25] at hK ⊢
    clear h24 h25
    go_simp
    refine (rSameMsg_any m n P Q ys zs W (HW10.out.inm.below hB (Nat.le_refl _)) (HW10.out.inn.below hB (Nat.le_refl _)) HLEN.out.2).mono ?_
    rintro e w' ⟨rfl, hB'⟩
    exact hK _ _ hB' (congrArg Value.bool HSB.out)
  · intro xs W hB hp K hK
    have hgd : xs 20 = .bool true := hp.2.2.1 rfl
    rw [wanted_gK (b := true) rfl (by show (match some (xs 20) with | some (.bool b) => some b | _ => none) = some true; rw [hgd])]
    rw [if_pos (show (true == true) = true from rfl)]
    clear hgd
    have h23 : xs 23 = .bool sb := hp.1 rfl
    have h26 : xs 26 = .bool sb := hp.2.1 rfl
    clear hp
    simp only [h23, h26] at hK ⊢
    clear h23 h26
    go_simp
    exact hK _ _ (Below.refl _ _) (by first | rfl | (show Value.bool _ = _; simp; done) | (show Value.bool _ = _; simp; omega))
  · intro xs W hB hp K hK
    rw [if_pos (wanted_none rfl _)]
    have h20 : xs 20 = .bool true := hp.1 rfl
    have h27 : xs 27 = .bool true := hp.2.1 rfl
    clear hp
    simp only [h20, h27] at hK ⊢
    clear h20 h27
    go_simp
    exact hK _ _ (Below.refl _ _) rfl
  · intro xs W hB hp K hK
    rw [if_pos (wanted_none rfl _)]
    have h28 : xs 28 = .bool true := hp.1 rfl
    clear hp
    simp only [h28] at hK ⊢
    clear h28
    go_simp
    exact hK _ _ (Below.refl _ _) rfl
  · intro xs W hB hp K hK
    have hgd : xs 29 = .bool true := hp.1 rfl
    rw [wanted_gK (b := true) rfl (by show (match some (xs 29) with | some (.bool b) => some b | _ => none) = some true; rw [hgd])]
    rw [if_pos (show (true == true) = true from rfl)]
    clear hgd
    clear hp
    exact wp_load_msg _ rfl w.heap.size m 27 (0, 0) rfl ((hB.block _ (lt_blk HW10.out.bm)).trans HW10.out.bm) (hK _ _ (Below.refl _ _) rfl)
  · intro xs W hB hp K hK
    have hgd : xs 29 = .bool true := hp.1 rfl
    rw [wanted_gK (b := true) rfl (by show (match some (xs 29) with | some (.bool b) => some b | _ => none) = some true; rw [hgd])]
    rw [if_pos (show (true == true) = true from rfl)]
    clear hgd
    clear hp
    exact wp_load_msg _ rfl w.heap.size m 27 (0, 0) rfl ((hB.block _ (lt_blk HW10.out.bm)).trans HW10.out.bm) (hK _ _ (Below.refl _ _) rfl)
  · intro xs W hB hp K hK
    have hgd : xs 29 = .bool true := hp.2.2.1 rfl
    rw [wanted_gK (b := true) rfl (by show (match some (xs 29) with | some (.bool b) => some b | _ => none) = some true; rw [hgd])]
    rw [if_pos (show (true == true) = true from rfl)]
    clear hgd
    have h30 : xs 30 = .agg m.cells := hp.1 rfl
    have h31 : xs 31 = .agg m.cells := hp.2.1 rfl
    clear hp
    simp only [h30, h31] at hK ⊢
    clear h30 h31
    go_simp
    refine (sameMsg_any m m P P ys ys W (HW10.out.inm.below hB (Nat.le_refl _)) (HW10.out.inm.below hB (Nat.le_refl _)) HLEN.out.2).mono ?_
    rintro e w' ⟨rfl, hB'⟩
    exact hK _ _ hB' (congrArg Value.bool (sameMsgB_self _ _ _))
  · intro xs W hB hp K hK
    rw [if_pos (wanted_none rfl _)]
    have h29 : xs 29 = .bool true := hp.1 rfl
    have h32 : xs 32 = .bool true := hp.2.1 rfl
    clear hp
    simp only [h29, h32] at hK ⊢
    clear h29 h32
    go_simp
    exact hK _ _ (Below.refl _ _) rfl
  · intro xs W hB hp K hK
    rw [if_pos (wanted_none rfl _)]
    have h33 : xs 33 = .bool true := hp.1 rfl
    clear hp
    simp only [h33] at hK ⊢
    clear h33
    go_simp
    exact hK _ _ (Below.refl _ _) rfl
  · intro xs W hB hp K hK
    have hgd : xs 34 = .bool true := hp.1 rfl
    rw [wanted_gK (b := true) rfl (by show (match some (xs 34) with | some (.bool b) => some b | _ => none) = some true; rw [hgd])]
    rw [if_pos (show (true == true) = true from rfl)]
    clear hgd
    clear hp
    go_simp
    refine (known5_any W).mono ?_
    rintro e w' ⟨rfl, hB'⟩
    exact hK _ _ hB' (rfl)
  · intro xs W hB hp K hK
    rw [if_pos (wanted_none rfl _)]
    have h34 : xs 34 = .bool true := hp.1 rfl
    have h35 : xs 35 = .bool true := hp.2.1 rfl
    clear hp
    simp only [h34, h35] at hK ⊢
    clear h34 h35
    go_simp
    exact hK _ _ (Below.refl _ _) rfl
  · intro xs W hB hp K hK
    rw [if_pos (wanted_none rfl _)]
    have h36 : xs 36 = .bool true := hp.1 rfl
    clear hp
    simp only [h36] at hK ⊢
    clear h36
    go_simp
    exact hK _ _ (Below.refl _ _) rfl
  · intro xs W hB hall
    have h37 : xs 37 = .bool true := hall 37 (by decide)
    have hW := (HW10.out.next hB (Nat.le_refl _)).bel
    simp only [h37]
    clear h37 hall
    go_wp2_with fail
    go_ret
    exact ⟨rfl, hW⟩
end Go.Proofs.Ytkjocpadmlobgaa
