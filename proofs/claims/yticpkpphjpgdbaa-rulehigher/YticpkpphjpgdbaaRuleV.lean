/- The law's votes: of so many nodes of four, on a value. For every number, slot, view and value; and whom they prove. -/
import Derived.Test.YticpkpphjpgdbaaRuleA
import Derived.Test.YticpkpphjpgdbaaRefP
namespace Go.Proofs.Yticpkpphjpgdbaa
open Go.RowKit Go.Dig Go.Sha Go.Inv Go.Oct

abbrev Bd (k s v : Int) : Prop := inI k ∧ inI s ∧ inI v
theorem inI_small {n : Nat} (h : n < 1000) : inI (n : Int) := ⟨by omega, by omega⟩
/-- node i's vote -/
def pv (k s v : Int) (P : List Int) (b : Bd k s v) (i : Nat) : VoteW := castW ring4 k s v (sha P) ((i % 4 : Nat) : Int) b.1 b.2.1 b.2.2 (inI_small (by omega))
def pvL (k s v : Int) (P : List Int) (b : Bd k s v) (m : Nat) : List VoteW := (List.range m).map (pv k s v P b)
theorem pvL_succ (k s v : Int) (P : List Int) (b : Bd k s v) (m : Nat) : pvL k s v P b (m + 1) = pvL k s v P b m ++ [pv k s v P b m] := by simp [pvL, List.range_succ]
theorem pvL_length (k s v : Int) (P : List Int) (b : Bd k s v) (m : Nat) : (pvL k s v P b m).length = m := by simp [pvL]
theorem pv_cast (s v : Int) (P : List Int) (b : Bd 1 s v) {i : Nat} (h : i < 4) : castR ring4 1 s v (sha P) (i : Int) = (pv 1 s v P b i).1 := by
  show _ = castR ring4 1 s v (sha P) ((i % 4 : Nat) : Int)
  rw [Nat.mod_eq_of_lt h]
set_option maxRecDepth 10000 in
set_option maxHeartbeats 2000000 in
theorem votes7_any (rg : Nat) (n slot view : Int) (P : List Int) (ao : Option Addr) (cap : Nat) (w : World) (b : Bd 1 slot view) (hx : RRing w rg (oneF 1) 4) (hP : Rowed w ao P cap) (hz : P.length < 274877906944) :
    Calls Try.prog 22 #[.pointer (some ⟨rg, 0, none⟩), .int .i64 n, .int .i64 slot, .int .i64 view, .slice ao P.length cap] w fun e w' => ∃ v, e = .returned v ∧ OwnV w' w.heap.size v (pvL 1 slot view P b (min n 4).toNat) ∧ Below w.heap.size w w' := by
  have HX : Hid (RRing w rg (oneF 1) 4) := hx
  have HP : Hid (Rowed w ao P cap) := hP
  obtain ⟨m, hm⟩ : ∃ m, (min n 4).toNat = m := ⟨_, rfl⟩
  rw [hm]
  clear hx hP
  go_enter Try.func22, Try.ntmps22
  go_wp2_with fail
  go_loopw [11, 12] (fun lv iv wr => ∃ i : Nat, i ≤ m ∧ iv = .int .i64 (i : Int) ∧ OwnV wr w.heap.size lv (pvL 1 slot view P b i) ∧ Below w.heap.size w wr) (fun _ iv _ => m - (intOf iv).toNat)
  case atStart => exact ⟨0, Nat.zero_le _, rfl, OwnV.nil _ _, Below.refl _ _⟩
  case round =>
    obtain ⟨i, hi, rfl, hO, hB⟩ := hrel
    by_cases hlt : i < m
    · have hin : (i : Int) < n := by omega
      have hi4 : (i : Int) < 4 := by omega
      have hi4' : i < 4 := by omega
      have hll := pvL_length 1 slot view P b i
      obtain ⟨la, lc, rfl, -⟩ := hO.form
      have HLL : Hid ((pvL 1 slot view P b i).length + 1 ≤ 1000) := by show _ ≤ _; omega
      clear hll
      obtain ⟨zs, hzs⟩ : ∃ zs, pvL 1 slot view P b i = zs := ⟨_, rfl⟩
      rw [hzs] at hO HLL ⊢
      have HZS : Hid (pvL 1 slot view P b i = zs) := hzs
      clear hzs
      obtain ⟨ll, hll⟩ : ∃ ll, zs.length = ll := ⟨_, rfl⟩
      rw [hll] at hO ⊢
      clear hll
      have HO0 : Hid (OwnV wr w.heap.size (.slice la ll lc) zs) := hO
      clear hO
      go_wp2_with fail
      refine (rValueSum_any P ao cap wr (HP.out.below hB (Nat.le_refl _)) hz).mono ?_
      rintro e w1 ⟨rfl, hB1⟩
      have hBw1 : Below w.heap.size w w1 := hB.trans (hB1.mono hB.size)
      go_wp2_with fail
      refine (rCast_any rg 4 (oneF 1) 1 slot view (sha P) (i : Int) w1 (HX.out.below hBw1) b.1 b.2.1 b.2.2 (inI_small (by omega))).mono ?_
      rintro x w2 ⟨rfl, hB2⟩
      rw [show castR (some (oneF 1, 4)) 1 slot view (sha P) (i : Int) = (pv 1 slot view P b i).1 from pv_cast slot view P b hi4']
      obtain ⟨z, hz⟩ : ∃ z, pv 1 slot view P b i = z := ⟨_, rfl⟩
      rw [hz]
      have HZ : Hid (pv 1 slot view P b i = z) := hz
      have hB3 : Below w.heap.size w w2 := hBw1.trans (hB2.mono hBw1.size)
      have HO : Hid (OwnV (w2.alloc (.cells (rowV [z.1]) 51)) w.heap.size (.slice la ll lc) zs) := ((HO0.out.below hB1).below hB2).alloc _
      have HV : Hid (VotesIn (w2.alloc (.cells (rowV [z.1]) 51)) (some ⟨w2.heap.size, 0, none⟩) 1 [z]) := rowV_in (zs := [z]) (alloc_blk w2 (.cells (rowV [z.1]) 51)) (by simp)
      have hsz := hB3.size
      have HS : Hid (w.heap.size ≤ (w2.alloc (.cells (rowV [z.1]) 51)).heap.size) := by show w.heap.size ≤ (w2.heap.push _).size; simp; omega
      clear HO0 hB1 hB2 hz hBw1 hB
      go_wp2_with (first | (refine wpList_rowV ?_ 1 _ rfl [z.1] rfl (by decide) (by decide) ?_ ?_; kernel_rfl; kernel_rfl) | (refine wpList_appV rfl _ _ rfl w.heap.size (.slice la ll lc) zs ?_ (some ⟨w2.heap.size, 0, none⟩) 1 1 [z] ?_ ?_ ?_ ?_ ?_ ?_ ?_; rfl; rfl; rfl; exact HO.out; exact HV.out; exact HLL.out; exact HS.out))
      intro u w4 hO4 hG4
      obtain ⟨ao4, cap4, rfl, -⟩ := hO4.form
      have HO4 : Hid _ := hO4
      have hB4 : Below w.heap.size w w4 := (hB3.alloc hB3.size _).trans (hG4.below (by simp; omega) (fun k hk => (HO.out.lt k hk).1))
      clear hO4 hG4 HO HV HS hB3
      go_wp2_with fail
      go_roundw
      case rel => exact ⟨i + 1, by omega, by go_num, by rw [pvL_succ, HZ.out, HZS.out]; exact HO4.out, hB4⟩
      case measure => simp [intOf]; omega
    · obtain rfl : i = m := by omega
      obtain ⟨la, lc, rfl, -⟩ := hO.form
      have HO : Hid _ := hO
      clear hO
      by_cases q : (i : Int) < n
      · have q4 : ¬ (i : Int) < 4 := by omega
        go_wp2_with fail
        go_ret
        exact ⟨_, rfl, HO.out, hB⟩
      · go_wp2_with fail
        go_ret
        exact ⟨_, rfl, HO.out, hB⟩
end Go.Proofs.Yticpkpphjpgdbaa
