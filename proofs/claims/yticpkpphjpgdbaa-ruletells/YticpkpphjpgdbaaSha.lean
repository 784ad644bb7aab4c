/- SHA-256 and macs out of it, in plain numbers: what digest and its reference both compute. -/
import Derived.Laws.BitsAllLaws
import Derived.OpenShut
namespace Go.Sha
open Go

def rot (x : Int) (n : Nat) : Int := bits .or .u32 (x / 2 ^ n) (x * 2 ^ (32 - n) % 4294967296)

theorem bits_or_comm (k : IntKind) (a b : Int) : bits .or k a b = bits .or k b a := by
  unfold bits; simp [BitVec.or_comm]
theorem neg_and (n : Nat) (h0 : 0 < n) (h1 : n < 32) : bits .and .u64 (IntKind.u64.wrap (-(n : Int))) 31 = 32 - (n : Int) := by
  have : n ∈ List.range 32 := by simpa using h1
  have hall : ∀ m ∈ List.range 32, 0 < m → bits .and .u64 (IntKind.u64.wrap (-(m : Int))) 31 = 32 - (m : Int) := by decide +kernel
  exact hall n this h0

/-- a block's words -/
def word (bs : Nat → Int) (i : Nat) : Int :=
  bits .or .u32 (bits .or .u32 (bits .or .u32 (bs (4 * i) % 4294967296 * 16777216 % 4294967296) (bs (4 * i + 1) % 4294967296 * 65536 % 4294967296)) (bs (4 * i + 2) % 4294967296 * 256 % 4294967296)) (bs (4 * i + 3) % 4294967296)
def s0 (x : Int) : Int := bits .xor .u32 (bits .xor .u32 (rot x 7) (rot x 18)) (x / 8)
def s1 (y : Int) : Int := bits .xor .u32 (bits .xor .u32 (rot y 17) (rot y 19)) (y / 1024)
def sum4 (a b c d : Int) : Int := (a + b + c + d) % 4294967296
/-- the words that come of them, by so many steps -/
def Wn (bs : Nat → Int) : Nat → Nat → Int
  | 0, _ => 0
  | n + 1, i => if i < 16 then word bs i else sum4 (Wn bs n (i - 16)) (s0 (Wn bs n (i - 15))) (Wn bs n (i - 7)) (s1 (Wn bs n (i - 2)))
def W (bs : Nat → Int) (i : Nat) : Int := Wn bs (i + 1) i
theorem Wn_low {bs : Nat → Int} {n i : Nat} (h : i < 16) : Wn bs (n + 1) i = word bs i := by simp only [Wn]; rw [if_pos h]
theorem Wn_high {bs : Nat → Int} {n i : Nat} (h : ¬ i < 16) : Wn bs (n + 1) i = sum4 (Wn bs n (i - 16)) (s0 (Wn bs n (i - 15))) (Wn bs n (i - 7)) (s1 (Wn bs n (i - 2))) := by simp only [Wn]; rw [if_neg h]
theorem Wn_Wn {bs : Nat → Int} : ∀ (i n m : Nat), i < n → i < m → Wn bs n i = Wn bs m i := by
  intro i
  induction i using Nat.strongRecOn with
  | ind i ih =>
    intro n m hn hm
    obtain ⟨n, rfl⟩ : ∃ k, n = k + 1 := ⟨n - 1, by omega⟩
    obtain ⟨m, rfl⟩ : ∃ k, m = k + 1 := ⟨m - 1, by omega⟩
    by_cases hi : i < 16
    · rw [Wn_low hi, Wn_low hi]
    · rw [Wn_high hi, Wn_high hi, ih (i - 16) (by omega) n m (by omega) (by omega), ih (i - 15) (by omega) n m (by omega) (by omega), ih (i - 7) (by omega) n m (by omega) (by omega), ih (i - 2) (by omega) n m (by omega) (by omega)]
theorem Wn_W {bs : Nat → Int} (n i : Nat) (h : i < n) : Wn bs n i = W bs i := Wn_Wn i n (i + 1) h (by omega)
theorem W_low {bs : Nat → Int} {i : Nat} (h : i < 16) : W bs i = word bs i := by rw [W, Wn_low h]
theorem W_high {bs : Nat → Int} {i : Nat} (h : ¬ i < 16) : W bs i = sum4 (W bs (i - 16)) (s0 (W bs (i - 15))) (W bs (i - 7)) (s1 (W bs (i - 2))) := by
  rw [W, Wn_high h, Wn_W _ _ (by omega), Wn_W _ _ (by omega), Wn_W _ _ (by omega), Wn_W _ _ (by omega)]

/-! ### one block -/
structure St where
  (a b c d e f g h : Int)
def St.at (s : St) : Nat → Int
  | 0 => s.a | 1 => s.b | 2 => s.c | 3 => s.d | 4 => s.e | 5 => s.f | 6 => s.g | 7 => s.h | _ => 0
def stOf (f : Nat → Int) : St := ⟨f 0, f 1, f 2, f 3, f 4, f 5, f 6, f 7⟩
def k256 : Nat → Int := fun i => ([
  0x428a2f98, 0x71374491, 0xb5c0fbcf, 0xe9b5dba5, 0x3956c25b, 0x59f111f1, 0x923f82a4, 0xab1c5ed5,
  0xd807aa98, 0x12835b01, 0x243185be, 0x550c7dc3, 0x72be5d74, 0x80deb1fe, 0x9bdc06a7, 0xc19bf174,
  0xe49b69c1, 0xefbe4786, 0x0fc19dc6, 0x240ca1cc, 0x2de92c6f, 0x4a7484aa, 0x5cb0a9dc, 0x76f988da,
  0x983e5152, 0xa831c66d, 0xb00327c8, 0xbf597fc7, 0xc6e00bf3, 0xd5a79147, 0x06ca6351, 0x14292967,
  0x27b70a85, 0x2e1b2138, 0x4d2c6dfc, 0x53380d13, 0x650a7354, 0x766a0abb, 0x81c2c92e, 0x92722c85,
  0xa2bfe8a1, 0xa81a664b, 0xc24b8b70, 0xc76c51a3, 0xd192e819, 0xd6990624, 0xf40e3585, 0x106aa070,
  0x19a4c116, 0x1e376c08, 0x2748774c, 0x34b0bcb5, 0x391c0cb3, 0x4ed8aa4a, 0x5b9cca4f, 0x682e6ff3,
  0x748f82ee, 0x78a5636f, 0x84c87814, 0x8cc70208, 0x90befffa, 0xa4506ceb, 0xbef9a3f7, 0xc67178f2] : List Int).getD i 0

def T1 (s : St) (k w : Int) : Int :=
  ((s.h + bits .xor .u32 (bits .xor .u32 (rot s.e 6) (rot s.e 11)) (rot s.e 25) + bits .xor .u32 (bits .and .u32 s.e s.f) (bits .and .u32 (bits .xor .u32 (if IntKind.u32.signed = true then -1 else IntKind.u32.max) s.e) s.g) + k) % 4294967296 + w) % 4294967296
def T2 (s : St) : Int :=
  (bits .xor .u32 (bits .xor .u32 (rot s.a 2) (rot s.a 13)) (rot s.a 22) + bits .xor .u32 (bits .xor .u32 (bits .and .u32 s.a s.b) (bits .and .u32 s.a s.c)) (bits .and .u32 s.b s.c)) % 4294967296
def step (s : St) (k w : Int) : St := ⟨(T1 s k w + T2 s) % 4294967296, s.a, s.b, s.c, (s.d + T1 s k w) % 4294967296, s.e, s.f, s.g⟩
/-- so many rounds -/
def rounds (ws : Nat → Int) (s : St) : Nat → St
  | 0 => s
  | n + 1 => step (rounds ws s n) (k256 n) (ws n)
/-- the state behind a block -/
def mixed (st bs : Nat → Int) : Nat → Int := fun j => (st j + (rounds (W bs) (stOf st) 64).at j) % 4294967296
end Go.Sha
