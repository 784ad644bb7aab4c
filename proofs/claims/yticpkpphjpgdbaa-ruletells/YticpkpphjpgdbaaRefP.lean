/- The reference's Cast and ValueSum, of every ring, vote and value. -/
import Derived.Test.YticpkpphjpgdbaaRefN
import Derived.Test.YticpkpphjpgdbaaCertD
import Derived.Test.YticpkpphjpgdbaaRefF
namespace Go.Proofs.Yticpkpphjpgdbaa
open Go.RowKit Go.Dig Go.Sha Go.Inv Go.Oct

set_option maxRecDepth 10000 in
set_option maxHeartbeats 2000000 in
theorem rCast_any (rg n : Nat) (seed : Nat → Int) (k s v : Int) (sum : Nat → Int) (f : Int) (w : World) (h : RRing w rg seed n) (ik : inI k) (is : inI s) (iv : inI v) (if_ : inI f) :
    Calls Try.prog 24 #[.pointer (some ⟨rg, 0, none⟩), .int .i64 k, .int .i64 s, .int .i64 v, .agg (row .u8 32 sum), .int .i64 f] w fun e w' => e = .returned (.agg (castR (some (seed, n)) k s v sum f).cells) ∧ Below w.heap.size w w' := by
  have HR : Hid (RRing w rg seed n) := h
  clear h
  have hwf : (VoteR.mk k s v sum f zeroF).wf := ⟨ik, is, iv, if_⟩
  have hA1 : Hid (HashAt ((w.alloc (.cells (row .u8 32 sum) 30)).alloc (.cells VoteR.zero.cells 51)) w.heap.size 0 sum) := hashAt_blk (alloc_blk_old (alloc_blk _ _) _)
  have hs2 : ((w.alloc (.cells (row .u8 32 sum) 30)).alloc (.cells VoteR.zero.cells 51)).heap.size = w.heap.size + 2 := by simp
  have hb2 : (((w.alloc (.cells (row .u8 32 sum) 30)).alloc (.cells VoteR.zero.cells 51)).alloc (.cells (VoteR.mk k s v sum f zeroF).cells 51)).heap[w.heap.size + 2]? = some (.cells (VoteR.mk k s v sum f zeroF).cells 51 (0, 0)) := by rw [← hs2]; exact alloc_blk _ _
  have HV2 : Hid (VoteAt (((w.alloc (.cells (row .u8 32 sum) 30)).alloc (.cells VoteR.zero.cells 51)).alloc (.cells (VoteR.mk k s v sum f zeroF).cells 51)) (w.heap.size + 2) 0 (VoteR.mk k s v sum f zeroF)) := voteAt_blk hb2
  have hb1 : (((w.alloc (.cells (row .u8 32 sum) 30)).alloc (.cells VoteR.zero.cells 51)).alloc (.cells (VoteR.mk k s v sum f zeroF).cells 51)).heap[w.heap.size + 1]? = some (.cells VoteR.zero.cells 51 (0, 0)) := by
    have := alloc_blk_old (alloc_blk (w.alloc (.cells (row .u8 32 sum) 30)) (.cells VoteR.zero.cells 51)) (.cells (VoteR.mk k s v sum f zeroF).cells 51)
    rwa [show (w.alloc (.cells (row .u8 32 sum) 30)).heap.size = w.heap.size + 1 by simp] at this
  have hB3 : Below w.heap.size w (((w.alloc (.cells (row .u8 32 sum) 30)).alloc (.cells VoteR.zero.cells 51)).alloc (.cells (VoteR.mk k s v sum f zeroF).cells 51)) := (((Below.refl _ _).alloc (Nat.le_refl _) _).alloc (by simp) _).alloc (by simp; omega) _
  have hs3 : (((w.alloc (.cells (row .u8 32 sum) 30)).alloc (.cells VoteR.zero.cells 51)).alloc (.cells (VoteR.mk k s v sum f zeroF).cells 51)).heap.size = w.heap.size + 3 := by simp
  have HB1 : Hid _ := hb1
  have HB2 : Hid _ := hb2
  have HS3 : Hid _ := hs3
  have HW : Hid _ := hwf
  have HBB : Hid _ := hB3
  clear hb1 hb2 hs2 hs3 hwf hB3
  go_enter Try.func24, Try.ntmps24
  go_wp2_with (first | refine wpList_box_row rfl 30 _ rfl _ rfl ?_ | refine wpList_alloc_vote rfl rfl ?_ | (refine wpList_load_hash rfl _ rfl w.heap.size 0 ?_ sum ?_ ?_; rfl; exact hA1.out) | (refine wpList_build_to rfl 51 _ rfl (VoteR.mk k s v sum f zeroF).cells ?_ ?_; kernel_rfl) | (refine wpList_store_vote rfl _ _ rfl ((w.alloc (.cells (row .u8 32 sum) 30)).alloc (.cells VoteR.zero.cells 51)) (VoteR.mk k s v sum f zeroF) ?_ ?_ ?_ ?_; rfl; rfl; rfl) | (refine wpList_load_vote rfl _ rfl (w.heap.size + 2) 0 ?_ (VoteR.mk k s v sum f zeroF) ?_ ?_; rfl; exact HV2.out))
  generalize ((w.alloc (.cells (row .u8 32 sum) 30)).alloc (.cells VoteR.zero.cells 51)).alloc (.cells (VoteR.mk k s v sum f zeroF).cells 51) = w3 at *
  clear hA1 HV2
  have hs3 := HS3.out
  have hB3 := HBB.out
  have hwf := HW.out
  refine (rVoteBody_any (VoteR.mk k s v sum f zeroF) w3 hwf).mono ?_
  rintro e w4 ⟨ao, cap, rfl, hl4, hc4, hB4⟩
  have HR4 : Hid (RRing w4 rg seed n) := HR.out.below (hB3.trans (hB4.mono (by omega)))
  go_wp2_with fail
  refine (rSeal_any rg n seed f (vbody (VoteR.mk k s v sum f zeroF)) ao cap w4 HR4.out hl4 (by have := vbody_length (VoteR.mk k s v sum f zeroF); omega)).mono ?_
  rintro e w5 ⟨rfl, hB5⟩
  have hB45 : Below w3.heap.size w3 w5 := hB4.trans (hB5.mono hB4.size)
  have HC1 : Hid (w5.heap[w.heap.size + 1]? = some (.cells VoteR.zero.cells 51 (0, 0))) := (hB45.block _ (by omega)).trans HB1.out
  have HC2 : Hid (w5.heap[w.heap.size + 2]? = some (.cells (VoteR.mk k s v sum f zeroF).cells 51 (0, 0))) := (hB45.block _ (by omega)).trans HB2.out
  have hB6 : Below w.heap.size w w5 := hB3.trans (hB45.mono (by omega))
  have hz5 : w.heap.size + 3 ≤ w5.heap.size := by have := hB45.size; omega
  clear hB4 hB5 hl4 hc4 HR4 HR HB1 HB2 hB45 hs3 hB3
  go_wp2_with (refine wpList_store_tag rfl _ _ rfl (w.heap.size + 2) (sealR (some (seed, n)) f (vbody (VoteR.mk k s v sum f zeroF))) (VoteR.mk k s v sum f zeroF) ?_ ?_ 51 ?_ ?_; rfl; rfl; exact HC2.out)
  intro w6 hc6 hk6
  rw [show (VoteR.mk k s v sum f (sealR (some (seed, n)) f (vbody (VoteR.mk k s v sum f zeroF)))) = castR (some (seed, n)) k s v sum f from rfl] at hc6
  obtain ⟨z, hz⟩ : ∃ z, castR (some (seed, n)) k s v sum f = z := ⟨_, rfl⟩
  rw [hz] at hc6
  have HZ : Hid (castR (some (seed, n)) k s v sum f = z) := hz
  clear hz
  have HC6 : Hid (w6.heap[w.heap.size + 2]? = some (.cells z.cells 51 (0, 0))) := hc6
  have HV6 : Hid (VoteAt w6 (w.heap.size + 2) 0 z) := voteAt_blk HC6.out
  have HC7 : Hid (w6.heap[w.heap.size + 1]? = some (.cells VoteR.zero.cells 51 (0, 0))) := (hk6.block _ (by omega) (by omega)).trans HC1.out
  have hB7 : Below w.heap.size w w6 := hB6.trans (hk6.below (by omega) (by omega))
  have hz6 : w.heap.size + 3 ≤ w6.heap.size := by have := hk6.size; omega
  clear hc6 hk6 HC1 HC2 hB6 hz5
  go_wp2_with (first | (refine wpList_load_vote rfl _ rfl (w.heap.size + 2) 0 ?_ z ?_ ?_; rfl; exact HV6.out) | (refine wpList_put_vote rfl _ _ rfl (w.heap.size + 1) z VoteR.zero ?_ ?_ 51 ?_ ?_; rfl; rfl; exact HC7.out))
  intro w7 hc7 hk7
  have HC8 : Hid (w7.heap[w.heap.size + 1]? = some (.cells z.cells 51 (0, 0))) := hc7
  have hB8 : Below w.heap.size w w7 := hB7.trans (hk7.below (by omega) (by omega))
  clear hc7 hk7 HC6 HC7 HV6 hB7
  go_wp2_with fail
  obtain ⟨d, hd1, hd2⟩ := vote_rowM
  refine bodyPost_ret (v := .agg z.cells) ?_ rfl ⟨congrArg (fun y => Ending.returned (.agg y.cells)) HZ.out.symm, hB8⟩
  refine results_cell_row rfl _ _ (w.heap.size + 1) _ _ _ d rfl HC8.out hd1 ?_ (vote_info z)
  cases d <;> first | rfl | exact hd2
set_option maxRecDepth 10000 in
set_option maxHeartbeats 1000000 in
theorem rValueSum_any (P : List Int) (ao : Option Addr) (cap : Nat) (w : World) (hl : Rowed w ao P cap) (hz : P.length < 274877906944) :
    Calls Try.prog 25 #[.slice ao P.length cap] w fun e w' => e = .returned (.agg (row .u8 32 (sha P))) ∧ Below w.heap.size w w' := by
  have HL : Hid (Rowed w ao P cap) := hl
  clear hl
  have hb0 := alloc_blk w (.cells (row .u8 32 zeroF) 30)
  have hBw := below_alloc w (.cells (row .u8 32 zeroF) 30)
  go_enter Try.func25, Try.ntmps25
  go_wp2_with (refine wpList_alloc_hash rfl rfl ?_)
  generalize w.alloc (.cells (row .u8 32 zeroF) 30) = w0 at *
  refine (rSum_rowed P ao cap w0 (HL.out.below hBw (Nat.le_refl _)) (by omega)).mono ?_
  rintro e w2 ⟨rfl, hB2⟩
  have HC : Hid (w2.heap[w.heap.size]? = some (.cells (row .u8 32 zeroF) 30 (0, 0))) := (hB2.block _ (lt_blk hb0)).trans hb0
  have hB : Below w.heap.size w w2 := hBw.trans (hB2.mono hBw.size)
  have hz2 : w.heap.size < w2.heap.size := lt_blk HC.out
  clear hB2 hb0
  go_wp2_with (refine wpList_put_hash rfl _ _ rfl w.heap.size (sha P) zeroF ?_ ?_ 30 ?_ ?_; rfl; rfl; exact HC.out)
  intro w3 hc3 hk3
  have hB3 : Below w.heap.size w w3 := hB.trans (hk3.below (Nat.le_refl _) (by omega))
  clear hk3 HC hB
  go_wp2_with fail
  refine bodyPost_ret (v := .agg (row .u8 32 (sha P))) ?_ rfl ⟨rfl, hB3⟩
  exact results_cell_row rfl _ _ w.heap.size _ _ _ (.array 32 5) rfl hc3 (by kernel_rfl) rfl (row_info size_hash _)
end Go.Proofs.Yticpkpphjpgdbaa
