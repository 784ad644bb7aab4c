/- SealTurned's walk: a tag of which a byte is turned is none. -/
import Derived.Test.YticpkpphjpgdbaaSealW
import Derived.Laws.BitsLemmas
namespace Go.Proofs.Yticpkpphjpgdbaa
open Go.RowKit Go.Dig Go.Sha Go.Inv

theorem i64_and31 (n : Int) : bits .and .i64 n 31 = n % 32 := by
  have h31 : (BitVec.ofInt 64 31).toNat = 2 ^ 5 - 1 := by decide
  have key : (BitVec.ofInt 64 n &&& BitVec.ofInt 64 31).toNat = (n % ((2 ^ 64 : Nat) : Int)).toNat % 2 ^ 5 := by
    rw [BitVec.toNat_and, BitVec.toNat_ofInt, h31, Nat.and_two_pow_sub_one_eq_mod]
  show IntKind.i64.wrap ((BitVec.ofInt 64 n &&& BitVec.ofInt 64 31).toNat : Nat) = n % 32
  rw [key, IntKind.wrap_i64]
  omega
theorem xor_turns {a b : Int} (h0 : 0 ≤ a) (h1 : a < 256) (h2 : 0 ≤ b) (h3 : b < 256) (hb : b ≠ 0) : bits .xor .u8 a b ≠ a := by
  rw [u8_xor a b h0 h1 h2 h3]
  intro e
  have e' : a.toNat ^^^ b.toNat = a.toNat := by omega
  have : b.toNat = 0 := by
    have := congrArg (a.toNat ^^^ ·) e'
    simpa [← Nat.xor_assoc] using this
  omega
theorem hashOf_bd (st : Nat → Int) (j : Nat) : 0 ≤ hashOf st j ∧ hashOf st j < 256 := by unfold hashOf; omega
theorem sealF_bd (seed : Nat → Int) (n : Nat) (i : Int) (P : List Int) (j : Nat) : 0 ≤ sealF seed n i P j ∧ sealF seed n i P j < 256 := by
  unfold sealF
  split
  · exact hashOf_bd _ _
  · exact ⟨by simp [zeroF], by simp [zeroF]⟩
theorem check_turned {seed : Nat → Int} {n : Nat} {i : Int} {P : List Int} {k : Nat} {b : Int} (hk : k < 32) (h2 : 0 ≤ b) (h3 : b < 256) (hb : b ≠ 0) : checkB seed n i P (put (sealF seed n i P) k (bits .xor .u8 (sealF seed n i P k) b)) = false := by
  have hs := sealF_bd seed n i P k
  have : rowEq 32 (put (sealF seed n i P) k (bits .xor .u8 (sealF seed n i P k) b)) (sealF seed n i P) = false := by
    rw [Bool.eq_false_iff]
    intro e
    have := rowEq_iff.1 e k hk
    simp [put] at this
    exact xor_turns hs.1 hs.2 h2 h3 hb this
  unfold checkB; rw [this, Bool.and_false]

end Go.Proofs.Yticpkpphjpgdbaa
