/- SHA-256 of rows of bytes, in plain numbers: the state as bytes, what stands behind, block by block; macs. -/
import Derived.Test.YticpkpphjpgdbaaSha
namespace Go.Sha
open Go
/-- the state as bytes -/
def hashOf (st : Nat → Int) : Nat → Int := fun j => st (j / 4) / 2 ^ (24 - 8 * (j % 4)) % 256
def ini : Nat → Int
  | 0 => 0x6a09e667 | 1 => 0xbb67ae85 | 2 => 0x3c6ef372 | 3 => 0xa54ff53a | 4 => 0x510e527f | 5 => 0x9b05688c | 6 => 0x1f83d9ab | 7 => 0x5be0cd19 | _ => 0

theorem word_congr {bs bs' : Nat → Int} (h : ∀ j, j < 64 → bs j = bs' j) {i : Nat} (hi : i < 16) : word bs i = word bs' i := by
  unfold word; rw [h _ (by omega), h _ (by omega), h _ (by omega), h _ (by omega)]
theorem W_congr {bs bs' : Nat → Int} (h : ∀ j, j < 64 → bs j = bs' j) : ∀ i, W bs i = W bs' i := by
  intro i
  induction i using Nat.strongRecOn with
  | ind i ih =>
    by_cases hi : i < 16
    · rw [W_low hi, W_low hi, word_congr h hi]
    · rw [W_high hi, W_high hi, ih (i - 16) (by omega), ih (i - 15) (by omega), ih (i - 7) (by omega), ih (i - 2) (by omega)]
theorem mixed_congr {st bs bs' : Nat → Int} (h : ∀ j, j < 64 → bs j = bs' j) : mixed st bs = mixed st bs' := by
  unfold mixed; rw [show W bs = W bs' from funext (W_congr h)]

/-- the state behind the first n blocks -/
def states (M : List Int) : Nat → Nat → Int
  | 0 => ini
  | n + 1 => mixed (states M n) (fun j => M.getD (64 * n + j) 0)
theorem getD_app {M X : List Int} {j : Nat} (h : j < M.length) : (M ++ X).getD j 0 = M.getD j 0 := by simp [List.getD, List.getElem?_append, h]
theorem getD_app_right {M X : List Int} {j : Nat} : (M ++ X).getD (M.length + j) 0 = X.getD j 0 := by
  have h : ¬ M.length + j < M.length := by omega
  simp [List.getD, List.getElem?_append, h]
theorem getD_take {M : List Int} {n j : Nat} (h : j < n) : (M.take n).getD j 0 = M.getD j 0 := by simp [List.getD, h]
theorem getD_drop {M : List Int} {n j : Nat} : (M.drop n).getD j 0 = M.getD (n + j) 0 := by simp [List.getD]
theorem states_app (M X : List Int) : ∀ k, 64 * k ≤ M.length → states (M ++ X) k = states M k
  | 0, _ => rfl
  | k + 1, h => by
    simp only [states]
    rw [states_app M X k (by omega)]
    exact mixed_congr fun j hj => getD_app (by omega)

/-- what a summing holds behind the bytes M -/
def Holds (M : List Int) (st bs : Nat → Int) : Prop := st = states M (M.length / 64) ∧ ∀ j, j < M.length % 64 → bs j = M.getD (64 * (M.length / 64) + j) 0
def over (bs : Nat → Int) (r n : Nat) (Q : List Int) : Nat → Int := fun j => if r ≤ j ∧ j < r + n then Q.getD (j - r) 0 else bs j
theorem holds_start : Holds [] ini (fun _ => 0) := ⟨rfl, fun j hj => by simp at hj⟩

theorem over_at {M Q : List Int} {st bs : Nat → Int} (h : Holds M st bs) {n : Nat} {j : Nat} (hj : j < M.length % 64 + n) :
    over bs (M.length % 64) n Q j = (M ++ Q.take n).getD (64 * (M.length / 64) + j) 0 := by
  unfold over
  by_cases hr : M.length % 64 ≤ j
  · rw [if_pos ⟨hr, hj⟩]
    have e : 64 * (M.length / 64) + j = M.length + (j - M.length % 64) := by omega
    rw [e, getD_app_right, getD_take (by omega)]
  · rw [if_neg (by omega), h.2 j (by omega), getD_app (by omega)]
theorem holds_part {M Q : List Int} {st bs : Nat → Int} (h : Holds M st bs) {n : Nat} (hq : n ≤ Q.length) (hn : M.length % 64 + n < 64) : Holds (M ++ Q.take n) st (over bs (M.length % 64) n Q) := by
  have hl : (M ++ Q.take n).length = M.length + n := by simp; omega
  have e1 : (M.length + n) / 64 = M.length / 64 := by omega
  have e2 : (M.length + n) % 64 = M.length % 64 + n := by omega
  refine ⟨?_, fun j hj => ?_⟩
  · rw [hl, e1, states_app _ _ _ (by omega)]; exact h.1
  · rw [hl, e2] at hj; rw [hl, e1]; exact over_at h hj
theorem holds_full {M Q : List Int} {st bs : Nat → Int} (h : Holds M st bs) {n : Nat} (hq : n ≤ Q.length) (hn : M.length % 64 + n = 64) (bs2 : Nat → Int) : Holds (M ++ Q.take n) (mixed st (over bs (M.length % 64) n Q)) bs2 := by
  have hl : (M ++ Q.take n).length = M.length + n := by simp; omega
  have e1 : (M.length + n) / 64 = M.length / 64 + 1 := by omega
  refine ⟨?_, fun j hj => ?_⟩
  · rw [hl, e1]
    simp only [states]
    rw [states_app _ _ _ (by omega), ← h.1]
    exact mixed_congr fun j hj => over_at h (by omega)
  · rw [hl] at hj; omega

/-- how many bytes of the first one stand behind n bytes, up to the length -/
def gap (n : Nat) : Nat := 64 - (n + 8) % 64
def lenB (n : Nat) (i : Nat) : Int := (n : Int) * 8 / 2 ^ (56 - 8 * i) % 256
def lens (n k : Nat) : List Int := (List.range k).map (lenB n)
/-- what stands behind n bytes -/
def padTo (n k : Nat) : List Int := (128 :: List.replicate (gap n - 1) 0) ++ lens n k
def pad (n : Nat) : List Int := padTo n 8
theorem gap_pos (n : Nat) : 0 < gap n ∧ gap n ≤ 64 := by unfold gap; omega
theorem padTo_length (n k : Nat) : (padTo n k).length = gap n + k := by
  have := gap_pos n
  simp [padTo, lens]; omega
theorem lens_succ (n k : Nat) : lens n (k + 1) = lens n k ++ [lenB n k] := by simp [lens, List.range_succ]
theorem padTo_succ (n k : Nat) : padTo n (k + 1) = padTo n k ++ [lenB n k] := by simp [padTo, lens_succ]
theorem padded_mod (n : Nat) : (n + (pad n).length) % 64 = 0 := by rw [pad, padTo_length]; unfold gap; omega

/-- THE DIGEST of the bytes M: thirty-two bytes -/
def padded (M : List Int) : List Int := M ++ pad M.length
def sha (M : List Int) : Nat → Int := hashOf (states (padded M) ((padded M).length / 64))
def shaL (M : List Int) : List Int := (List.range 32).map (sha M)
theorem shaL_length (M : List Int) : (shaL M).length = 32 := by simp [shaL]
theorem shaL_getD (M : List Int) {j : Nat} (h : j < 32) : (shaL M).getD j 0 = sha M j := by simp [shaL, List.getD, h]

/-! ### macs -/
def keyB (K : List Int) : Nat → Int := fun j => (if K.length > 64 then shaL K else K).getD j 0
def padK (K : List Int) (x : Int) : List Int := (List.range 64).map fun j => bits .xor .u8 (keyB K j) x
def mac (K P : List Int) : Nat → Int := sha (padK K 92 ++ shaL (padK K 54 ++ P))
end Go.Sha
