/- The reference's Meets, of every ring and row of votes. -/
import Derived.Test.YtenadhpnbihijaaRefQ
namespace Go.Proofs.Ytenadhpnbihijaa
open Go.RowKit Go.Dig Go.Sha Go.Inv Go.Oct

/-- what Meets' line leaves, operation by operation -/
def rmSpec (rg kg kc n m : Nat) (ao : Option Addr) (len cap : Nat) (k s v : Int) (sum : Nat → Int) (b : Bool) : Nat → Value → World → Prop
  | 0, y, _ => y = .pointer (some ⟨rg, 0, none⟩)
  | 1, y, _ => y = .slice ao len cap
  | 2, y, _ => y = .int .i64 k
  | 3, y, _ => y = .int .i64 s
  | 4, y, _ => y = .int .i64 v
  | 5, y, _ => y = .agg (row .u8 32 sum)
  | 6, y, _ => ∃ uo uc, y = .slice uo m uc
  | 7, y, _ => y = .int .i64 (m : Int)
  | 8, y, _ => y = .pointer (some ⟨rg, 0, none⟩)
  | 9, y, _ => y = .pointer (some ⟨rg, 0, none⟩)
  | 10, y, _ => y = .pointer (some ⟨rg, 0, none⟩)
  | 11, y, _ => y = .slice (some ⟨kg, 0, none⟩) n kc
  | 12, y, _ => y = .int .i64 (n : Int)
  | 13, y, _ => y = .int .i64 (quorumI n)
  | 14, y, _ => y = .bool b
  | 15, y, _ => y = .bool b
  | _, _, _ => True
set_option maxRecDepth 10000 in
set_option maxHeartbeats 2000000 in
theorem rMeets_any (rg n : Nat) (seed : Nat → Int) (ao : Option Addr) (cap : Nat) (ys : List VoteW) (k s v : Int) (sum : Nat → Int) (w : World) (hX : RRing w rg seed n) (hn0 : 0 < n) (hn : n ≤ 10) (hV : VotesIn w ao cap ys) :
    Calls Try.prog 19 #[.pointer (some ⟨rg, 0, none⟩), .slice ao ys.length cap, .int .i64 k, .int .i64 s, .int .i64 v, .agg (row .u8 32 sum)] w fun e w' => e = .returned (.bool (meetsR (some (seed, n)) ys k s v sum)) ∧ Below w.heap.size w w' := by
  have HX : Hid (RRing w rg seed n) := hX
  have HV : Hid (VotesIn w ao cap ys) := hV
  obtain ⟨kg, kc, hr0, hrest⟩ := hX
  have HR0 : Hid (w.heap[rg]? = some (.cells #[.slice (some ⟨kg, 0, none⟩) n kc] 65 (0, 0))) := hr0
  have hBw := below_alloc w (.cells (row .u8 32 sum) 24)
  have hA := alloc_blk w (.cells (row .u8 32 sum) 24)
  obtain ⟨m, hm⟩ : ∃ m, (whoL (some (seed, n)) (toldL k s v sum ys)).length = m := ⟨_, rfl⟩
  have hm10 : m ≤ 10 := by
    rw [← hm, ← whoR_whoL]
    exact Nat.le_trans (whoR_length n) hn
  have HMT : Hid (meetsR (some (seed, n)) ys k s v sum = decide (quorumI n ≤ (m : Int))) := by
    show _ = _
    unfold meetsR
    rw [hm, show nodesR (some (seed, n)) = n from rfl, decide_eq_true hn0, Bool.true_and]
  have HM : Hid ((whoL (some (seed, n)) (toldL k s v sum ys)).length = m) := hm
  rw [HMT.out]
  clear hV hr0 hrest hm HMT
  obtain ⟨b, hb⟩ : ∃ b, decide (quorumI n ≤ (m : Int)) = b := ⟨_, rfl⟩
  rw [hb]
  have HB : Hid (decide (quorumI n ≤ (m : Int)) = b) := hb
  clear hb
  go_enter Try.func19, Try.ntmps19
  go_wp2_with (refine wpList_box_row rfl 24 _ rfl _ rfl ?_)
  generalize w.alloc (.cells (row .u8 32 sum) 24) = w1 at *
  have hlt : w.heap.size < w1.heap.size := lt_blk hA
  have HA : Hid (HashAt w1 w.heap.size 0 sum) := hashAt_blk hA
  have HR1 : Hid (w1.heap[rg]? = some (.cells #[.slice (some ⟨kg, 0, none⟩) n kc] 65 (0, 0))) := (hBw.block rg (lt_blk HR0.out)).trans HR0.out
  have hrg : rg < w1.heap.size := lt_blk HR1.out
  clear hA
  refine wp_region_growG (by kernel_rfl) (by kernel_rfl) (fun xs => { tmps := (.pointer (some ⟨rg, 0, none⟩) :: .slice ao ys.length cap :: .int .i64 k :: .int .i64 s :: .int .i64 v :: .agg (row .u8 32 sum) :: undef :: undef :: undef :: undef :: undef :: .pointer (some ⟨w.heap.size, 0, none⟩) :: xs 15 :: xs 0 :: xs 1 :: xs 2 :: xs 3 :: xs 4 :: xs 5 :: xs 6 :: xs 7 :: xs 8 :: xs 9 :: xs 10 :: xs 11 :: xs 12 :: xs 13 :: xs 14 :: []).toArray, defers := [] })
    (rmSpec rg kg kc n m ao ys.length cap k s v sum b) (fun | 15 => .bool false | _ => undef) (by repeat (first | exact trivial | refine ⟨fun _ _ => rfl, ?_⟩))
    (by
      intro i y w w' h hs
      unfold rmSpec at *
      split at hs <;> first | exact hs | exact trivial) ⟨?_, ?_, ?_, ?_, ?_, ?_, ?_, ?_, ?_, ?_, ?_, ?_, ?_, ?_, ?_, ?_, trivial⟩ ?_
  · intro xs W hB hp K hK
    rw [if_pos (wanted_none rfl _)]
    go_simp
    exact hK _ _ (Below.refl _ _) rfl
  · intro xs W hB hp K hK
    rw [if_pos (wanted_none rfl _)]
    go_simp
    exact hK _ _ (Below.refl _ _) rfl
  · intro xs W hB hp K hK
    rw [if_pos (wanted_none rfl _)]
    go_simp
    exact hK _ _ (Below.refl _ _) rfl
  · intro xs W hB hp K hK
    rw [if_pos (wanted_none rfl _)]
    go_simp
    exact hK _ _ (Below.refl _ _) rfl
  · intro xs W hB hp K hK
    rw [if_pos (wanted_none rfl _)]
    go_simp
    exact hK _ _ (Below.refl _ _) rfl
  · intro xs W hB hp K hK
    rw [if_pos (wanted_none rfl _)]
    exact wp_load_hash _ rfl w.heap.size 0 rfl sum (HA.out.same (hB.block _ hlt)) (hK _ _ (Below.refl _ _) rfl)
  · intro xs W hB hp K hK
    have h0 : xs 0 = .pointer (some ⟨rg, 0, none⟩) := hp.1 rfl
    have h1 : xs 1 = .slice ao ys.length cap := hp.2.1 rfl
    have h2 : xs 2 = .int .i64 k := hp.2.2.1 rfl
    have h3 : xs 3 = .int .i64 s := hp.2.2.2.1 rfl
    have h4 : xs 4 = .int .i64 v := hp.2.2.2.2.1 rfl
    have h5 : xs 5 = .agg (row .u8 32 sum) := hp.2.2.2.2.2.1 rfl
    clear hp
    rw [if_pos (wanted_none rfl _)]
    simp only [h0, h1, h2, h3, h4, h5] at hK ⊢
    clear h0 h1 h2 h3 h4 h5
    go_simp
    have hB1 : Below w.heap.size w W := hBw.trans (hB.mono hBw.size)
    refine (rWho_any rg n seed ao cap ys k s v sum W (HX.out.below hB1) hn (HV.out.below hB1)).mono ?_
    rintro e w' ⟨u, rfl, hO, hB'⟩
    obtain ⟨uo, uc, rfl⟩ := hO.len
    rw [whoR_whoL, HM.out]
    exact hK _ _ hB' ⟨uo, uc, rfl⟩
  · intro xs W hB hp K hK
    obtain ⟨uo, uc, h6⟩ : ∃ uo uc, xs 6 = .slice uo m uc := hp.1 rfl
    clear hp
    rw [if_pos (wanted_none rfl _)]
    simp only [h6] at hK ⊢
    go_simp
    exact hK _ _ (Below.refl _ _) rfl
  · intro xs W hB hp K hK
    rw [if_pos (wanted_none rfl _)]
    go_simp
    exact hK _ _ (Below.refl _ _) rfl
  · intro xs W hB hp K hK
    have h8 : xs 8 = .pointer (some ⟨rg, 0, none⟩) := hp.1 rfl
    clear hp
    rw [if_pos (wanted_none rfl _)]
    simp only [h8] at hK ⊢
    go_simp
    exact hK _ _ (Below.refl _ _) rfl
  · intro xs W hB hp K hK
    have h9 : xs 9 = .pointer (some ⟨rg, 0, none⟩) := hp.1 rfl
    clear hp
    rw [if_pos (wanted_none rfl _)]
    simp only [h9] at hK ⊢
    go_simp
    exact hK _ _ (Below.refl _ _) rfl
  · intro xs W hB hp K hK
    have h10 : xs 10 = .pointer (some ⟨rg, 0, none⟩) := hp.1 rfl
    have hc : W.cell? ⟨rg, 0, none⟩ = some (.slice (some ⟨kg, 0, none⟩) n kc) := (cell_blk ((hB.block _ hrg).trans HR1.out) 0).trans rfl
    clear hp
    rw [if_pos (wanted_none rfl _)]
    simp only [h10] at hK ⊢
    go_simp
    exact hK _ _ (Below.refl _ _) rfl
  · intro xs W hB hp K hK
    have h11 : xs 11 = .slice (some ⟨kg, 0, none⟩) n kc := hp.1 rfl
    clear hp
    rw [if_pos (wanted_none rfl _)]
    simp only [h11] at hK ⊢
    go_simp
    exact hK _ _ (Below.refl _ _) rfl
  · intro xs W hB hp K hK
    have h12 : xs 12 = .int .i64 (n : Int) := hp.1 rfl
    clear hp
    rw [if_pos (wanted_none rfl _)]
    simp only [h12] at hK ⊢
    go_simp
    refine (rQuorum_any n W (by omega) (by omega)).mono ?_
    rintro e w' ⟨rfl, rfl⟩
    exact hK _ _ (Below.refl _ _) rfl
  · intro xs W hB hp K hK
    have h7 : xs 7 = .int .i64 (m : Int) := hp.1 rfl
    have h13 : xs 13 = .int .i64 (quorumI n) := hp.2.1 rfl
    clear hp
    rw [if_pos (wanted_none rfl _)]
    simp only [h7, h13] at hK ⊢
    go_simp
    exact hK _ _ (Below.refl _ _) (congrArg Value.bool HB.out)
  · intro xs W hB hp K hK
    have h14 : xs 14 = .bool b := hp.1 rfl
    clear hp
    rw [if_pos (wanted_none rfl _)]
    simp only [h14] at hK ⊢
    go_simp
    exact hK _ _ (Below.refl _ _) rfl
  · intro xs W hB hs
    have h15 : xs 15 = .bool b := hs 15 (by simp)
    simp only [h15]
    go_wp2_with fail
    go_ret
    exact ⟨rfl, hBw.trans (hB.mono hBw.size)⟩
end Go.Proofs.Ytenadhpnbihijaa
