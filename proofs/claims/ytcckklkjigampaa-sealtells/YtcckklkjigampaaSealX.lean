/- SealTurned's walk: a tag of which a byte is turned is none. -/
import Derived.Test.YtcckklkjigampaaSealW
import Derived.Laws.BitsLemmas
namespace Go.Proofs.Ytcckklkjigampaa
open Go.RowKit Go.Dig Go.Sha Go.Inv

theorem i64_and31 (n : Int) : bits .and .i64 n 31 = n % 32 := by
  have h31 : (BitVec.ofInt 64 31).toNat = 2 ^ 5 - 1 := by decide
  have key : (BitVec.ofInt 64 n &&& BitVec.ofInt 64 31).toNat = (n % ((2 ^ 64 : Nat) : Int)).toNat % 2 ^ 5 := by
    rw [BitVec.toNat_and, BitVec.toNat_ofInt, h31, Nat.and_two_pow_sub_one_eq_mod]
  show IntKind.i64.wrap ((BitVec.ofInt 64 n &&& BitVec.ofInt 64 31).toNat : Nat) = n % 32
  rw [key, IntKind.wrap_i64]
  omega
theorem xor_turns {a b : Int} (h0 : 0 ≤ a) (h1 : a < 256) (h2 : 0 ≤ b) (h3 : b < 256) (hb : b ≠ 0) : bits .xor .u8 a b ≠ a := by
  rw [u8_xor a b h0 h1 h2 h3]
  intro e
  have e' : a.toNat ^^^ b.toNat = a.toNat := by omega
  have : b.toNat = 0 := by
    have := congrArg (a.toNat ^^^ ·) e'
    simpa [← Nat.xor_assoc] using this
  omega
theorem hashOf_bd (st : Nat → Int) (j : Nat) : 0 ≤ hashOf st j ∧ hashOf st j < 256 := by unfold hashOf; omega
theorem sealF_bd (seed : Nat → Int) (n : Nat) (i : Int) (P : List Int) (j : Nat) : 0 ≤ sealF seed n i P j ∧ sealF seed n i P j < 256 := by
  unfold sealF
  split
  · exact hashOf_bd _ _
  · exact ⟨by simp [zeroF], by simp [zeroF]⟩
theorem check_turned {seed : Nat → Int} {n : Nat} {i : Int} {P : List Int} {k : Nat} {b : Int} (hk : k < 32) (h2 : 0 ≤ b) (h3 : b < 256) (hb : b ≠ 0) : checkB seed n i P (put (sealF seed n i P) k (bits .xor .u8 (sealF seed n i P k) b)) = false := by
  have hs := sealF_bd seed n i P k
  have : rowEq 32 (put (sealF seed n i P) k (bits .xor .u8 (sealF seed n i P k) b)) (sealF seed n i P) = false := by
    rw [Bool.eq_false_iff]
    intro e
    have := rowEq_iff.1 e k hk
    simp [put] at this
    exact xor_turns hs.1 hs.2 h2 h3 hb this
  unfold checkB; rw [this, Bool.and_false]

set_option maxRecDepth 10000 in
set_option maxHeartbeats 1000000 in
theorem sealTurned_any (i : Int) (P : List Int) (ao : Option Addr) (cap : Nat) (ix b : Int) (w : World) (hl : Lies w ao P) (hc : P.length ≤ cap) (h2 : 0 ≤ b) (h3 : b < 256) :
    Calls Try.prog 8 #[.int .i64 i, .slice ao P.length cap, .int .i64 ix, .int .u8 b] w fun e w' => e = .returned (.bool true) ∧ Below w.heap.size w w' := by
  have HL : Hid (Lies w ao P) := hl
  have HZ : Hid ((Try.prog.info? 23).map (·.zero) = some (some (.agg (row .u8 32 (fun _ => 0))))) := zero_hash
  clear hl
  by_cases q0 : i < 0
  · go_enter Try.func8, Try.ntmps8
    go_wp2_with fail
    go_ret
    exact ⟨rfl, Below.refl _ _⟩
  by_cases q1 : 3 < i
  · go_enter Try.func8, Try.ntmps8
    go_wp2_with fail
    go_ret
    exact ⟨rfl, Below.refl _ _⟩
  by_cases q2 : 1000 < P.length
  · go_enter Try.func8, Try.ntmps8
    go_wp2_with fail
    go_ret
    exact ⟨rfl, Below.refl _ _⟩
  by_cases q3 : b = 0
  · subst q3
    go_enter Try.func8, Try.ntmps8
    go_wp2_with fail
    go_ret
    exact ⟨rfl, Below.refl _ _⟩
  have q3' : (b == 0) = false := by simpa using q3
  obtain ⟨k, hk⟩ : ∃ k : Nat, bits .and .i64 ix 31 = (k : Int) ∧ k < 32 := ⟨(ix % 32).toNat, by rw [i64_and31]; omega, by omega⟩
  obtain ⟨hk, hk32⟩ := hk
  have Q3 : Hid (b ≠ 0) := q3
  clear q3
  go_enter Try.func8, Try.ntmps8
  go_wp2_with (refine wpList_build_to rfl 23 _ rfl (row .u8 32 (oneF 7)) (by kernel_rfl) ?_)
  refine (sNew_any 4 (oneF 7) _ (by decide) (by decide)).mono ?_
  rintro e w1 ⟨rg, rfl, hrg, hR, hB1⟩
  rw [show nodesOf 4 = 4 by decide] at hR
  have HR : Hid (RingAt w1 rg (oneF 7) 4) := hR
  clear hR
  go_wp2_with fail
  refine (seal_any rg 4 (oneF 7) i P ao cap _ HR.out (HL.out.below hB1 (Nat.le_refl _)) hc (by omega)).mono ?_
  rintro e w2 ⟨rfl, hB2⟩
  have HR2 : Hid (RingAt w2 rg (oneF 7) 4) := HR.out.below hB2
  have hBB2 : Below w.heap.size w w2 := hB1.trans (hB2.mono hB1.size)
  clear HR hB1 hB2
  obtain ⟨sf, Hsf⟩ : ∃ sf, Hid (sf = sealF (oneF 7) 4 i P) := ⟨_, rfl⟩
  rw [show sealF (oneF 7) 4 i P = sf from Hsf.out.symm]
  have hA := alloc_blk w2 (.cells (row .u8 32 sf) 23)
  have hBB3 : Below w.heap.size w (w2.alloc (.cells (row .u8 32 sf) 23)) := hBB2.alloc hBB2.size _
  have hR3 : RingAt (w2.alloc (.cells (row .u8 32 sf) 23)) rg (oneF 7) 4 := HR2.out.below (below_alloc _ _)
  have hA' : (w2.alloc (.cells (row .u8 32 (fun _ => 0)) 23)).setRow w2.heap.size (row .u8 32 sf) = w2.alloc (.cells (row .u8 32 sf) 23) := setRow_new _ _ _ _
  have c0 : (w2.alloc (.cells (row .u8 32 sf) 23)).cell? ⟨w2.heap.size, k, none⟩ = some (.int .u8 (sf k)) := (cell_blk hA k).trans (row_get hk32)
  have f0 : (w2.alloc (.cells (row .u8 32 sf) 23)).frozen? ⟨w2.heap.size, k, none⟩ = false := frozen_blk hA k
  have hS : ∀ v : Value, (w2.alloc (.cells (row .u8 32 sf) 23)).setCell ⟨w2.heap.size, k, none⟩ v = w2.alloc (.cells ((row .u8 32 sf).setIfInBounds k v) 23) := fun v => by
    rw [setCell_eq_setRow _ _ _ _ _ (0, 0) v hA, setRow_new]
  have hxv : ∀ v : Int, (row .u8 32 sf).setIfInBounds k (.int .u8 v) = row .u8 32 (put sf k v) := fun v => row_set
  have hA4 : ∀ c : Array Value, (w2.alloc (.cells c 23)).heap[w2.heap.size]? = some (.cells c 23 (0, 0)) := fun c => alloc_blk _ _
  have HA4 : Hid (∀ c : Array Value, (w2.alloc (.cells c 23)).heap[w2.heap.size]? = some (.cells c 23 (0, 0))) := hA4
  clear hA hA4
  go_wp2_with (first | refine wpList_alloc_row rfl 23 rfl _ HZ.out ?_ | refine wpList_store_blk rfl 23 _ _ rfl w2.heap.size (row .u8 32 sf) rfl rfl _ _ (alloc_blk _ _) (row_info size_hash _) (by rw [row_size, row_size]) (row_all _ _ _) ?_ | refine wpList_load_blk rfl 23 _ rfl w2.heap.size _ rfl _ _ (alloc_blk _ _) 32 5 (by kernel_rfl) (row_info size_hash _) ?_)
  have hBB4 : Below w.heap.size w (w2.alloc (.cells (row .u8 32 (put sf k (bits .xor .u8 (sf k) b))) 23)) := hBB2.alloc hBB2.size _
  have hR4 : RingAt (w2.alloc (.cells (row .u8 32 (put sf k (bits .xor .u8 (sf k) b))) 23)) rg (oneF 7) 4 := HR2.out.below (below_alloc _ _)
  refine (check_any rg 4 (oneF 7) i P ao cap (put sf k (bits .xor .u8 (sf k) b)) _ hR4 (HL.out.below hBB4 (Nat.le_refl _)) hc (by omega)).mono ?_
  rintro e w5 ⟨rfl, hB5⟩
  rw [show checkB (oneF 7) 4 i P (put sf k (bits .xor .u8 (sf k) b)) = false by rw [Hsf.out]; exact check_turned hk32 h2 h3 Q3.out]
  have hBB5 : Below w.heap.size w w5 := hBB4.trans (hB5.mono hBB4.size)
  clear hB5 hBB4 hR4 hBB3 hR3 hA' c0 f0 hS hxv HA4
  go_wp2_with fail
  refine (known_any _).mono ?_
  rintro e w6 ⟨rfl, hB6⟩
  go_wp2_with fail
  go_ret
  exact ⟨rfl, hBB5.trans (hB6.mono hBB5.size)⟩
end Go.Proofs.Ytcckklkjigampaa
