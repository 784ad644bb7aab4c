/- digest's sumRows: the digest of rows of bytes, one behind the other. For up to 2^39 bytes in all. -/
import Derived.Laws.BitsAllLaws
import Derived.OpenShut
import Derived.Test.YtoihfhlelbdboabRows
import Derived.Deep.QuietTactic
import Derived.BigQuiet
import Derived.BigRegion
import Derived.Test.YtoihfhlelbdboabDigRow
import Derived.Test.YtoihfhlelbdboabDigLaw
namespace Go.Sha
open Go

def rot (x : Int) (n : Nat) : Int := bits .or .u32 (x / 2 ^ n) (x * 2 ^ (32 - n) % 4294967296)

theorem bits_or_comm (k : IntKind) (a b : Int) : bits .or k a b = bits .or k b a := by
  unfold bits; simp [BitVec.or_comm]
theorem neg_and (n : Nat) (h0 : 0 < n) (h1 : n < 32) : bits .and .u64 (IntKind.u64.wrap (-(n : Int))) 31 = 32 - (n : Int) := by
  have : n ∈ List.range 32 := by simpa using h1
  have hall : ∀ m ∈ List.range 32, 0 < m → bits .and .u64 (IntKind.u64.wrap (-(m : Int))) 31 = 32 - (m : Int) := by decide +kernel
  exact hall n this h0

/-- a block's words -/
def word (bs : Nat → Int) (i : Nat) : Int :=
  bits .or .u32 (bits .or .u32 (bits .or .u32 (bs (4 * i) % 4294967296 * 16777216 % 4294967296) (bs (4 * i + 1) % 4294967296 * 65536 % 4294967296)) (bs (4 * i + 2) % 4294967296 * 256 % 4294967296)) (bs (4 * i + 3) % 4294967296)
def s0 (x : Int) : Int := bits .xor .u32 (bits .xor .u32 (rot x 7) (rot x 18)) (x / 8)
def s1 (y : Int) : Int := bits .xor .u32 (bits .xor .u32 (rot y 17) (rot y 19)) (y / 1024)
def sum4 (a b c d : Int) : Int := (a + b + c + d) % 4294967296
/-- the words that come of them, by so many steps -/
def Wn (bs : Nat → Int) : Nat → Nat → Int
  | 0, _ => 0
  | n + 1, i => if i < 16 then word bs i else sum4 (Wn bs n (i - 16)) (s0 (Wn bs n (i - 15))) (Wn bs n (i - 7)) (s1 (Wn bs n (i - 2)))
def W (bs : Nat → Int) (i : Nat) : Int := Wn bs (i + 1) i
theorem Wn_low {bs : Nat → Int} {n i : Nat} (h : i < 16) : Wn bs (n + 1) i = word bs i := by simp only [Wn]; rw [if_pos h]
theorem Wn_high {bs : Nat → Int} {n i : Nat} (h : ¬ i < 16) : Wn bs (n + 1) i = sum4 (Wn bs n (i - 16)) (s0 (Wn bs n (i - 15))) (Wn bs n (i - 7)) (s1 (Wn bs n (i - 2))) := by simp only [Wn]; rw [if_neg h]
theorem Wn_Wn {bs : Nat → Int} : ∀ (i n m : Nat), i < n → i < m → Wn bs n i = Wn bs m i := by
  intro i
  induction i using Nat.strongRecOn with
  | ind i ih =>
    intro n m hn hm
    obtain ⟨n, rfl⟩ : ∃ k, n = k + 1 := ⟨n - 1, by omega⟩
    obtain ⟨m, rfl⟩ : ∃ k, m = k + 1 := ⟨m - 1, by omega⟩
    by_cases hi : i < 16
    · rw [Wn_low hi, Wn_low hi]
    · rw [Wn_high hi, Wn_high hi, ih (i - 16) (by omega) n m (by omega) (by omega), ih (i - 15) (by omega) n m (by omega) (by omega), ih (i - 7) (by omega) n m (by omega) (by omega), ih (i - 2) (by omega) n m (by omega) (by omega)]
theorem Wn_W {bs : Nat → Int} (n i : Nat) (h : i < n) : Wn bs n i = W bs i := Wn_Wn i n (i + 1) h (by omega)
theorem W_low {bs : Nat → Int} {i : Nat} (h : i < 16) : W bs i = word bs i := by rw [W, Wn_low h]
theorem W_high {bs : Nat → Int} {i : Nat} (h : ¬ i < 16) : W bs i = sum4 (W bs (i - 16)) (s0 (W bs (i - 15))) (W bs (i - 7)) (s1 (W bs (i - 2))) := by
  rw [W, Wn_high h, Wn_W _ _ (by omega), Wn_W _ _ (by omega), Wn_W _ _ (by omega), Wn_W _ _ (by omega)]

/-! ### one block -/
structure St where
  (a b c d e f g h : Int)
def St.at (s : St) : Nat → Int
  | 0 => s.a | 1 => s.b | 2 => s.c | 3 => s.d | 4 => s.e | 5 => s.f | 6 => s.g | 7 => s.h | _ => 0
def stOf (f : Nat → Int) : St := ⟨f 0, f 1, f 2, f 3, f 4, f 5, f 6, f 7⟩
def k256 : Nat → Int := fun i => ([
  0x428a2f98, 0x71374491, 0xb5c0fbcf, 0xe9b5dba5, 0x3956c25b, 0x59f111f1, 0x923f82a4, 0xab1c5ed5,
  0xd807aa98, 0x12835b01, 0x243185be, 0x550c7dc3, 0x72be5d74, 0x80deb1fe, 0x9bdc06a7, 0xc19bf174,
  0xe49b69c1, 0xefbe4786, 0x0fc19dc6, 0x240ca1cc, 0x2de92c6f, 0x4a7484aa, 0x5cb0a9dc, 0x76f988da,
  0x983e5152, 0xa831c66d, 0xb00327c8, 0xbf597fc7, 0xc6e00bf3, 0xd5a79147, 0x06ca6351, 0x14292967,
  0x27b70a85, 0x2e1b2138, 0x4d2c6dfc, 0x53380d13, 0x650a7354, 0x766a0abb, 0x81c2c92e, 0x92722c85,
  0xa2bfe8a1, 0xa81a664b, 0xc24b8b70, 0xc76c51a3, 0xd192e819, 0xd6990624, 0xf40e3585, 0x106aa070,
  0x19a4c116, 0x1e376c08, 0x2748774c, 0x34b0bcb5, 0x391c0cb3, 0x4ed8aa4a, 0x5b9cca4f, 0x682e6ff3,
  0x748f82ee, 0x78a5636f, 0x84c87814, 0x8cc70208, 0x90befffa, 0xa4506ceb, 0xbef9a3f7, 0xc67178f2] : List Int).getD i 0

def T1 (s : St) (k w : Int) : Int :=
  ((s.h + bits .xor .u32 (bits .xor .u32 (rot s.e 6) (rot s.e 11)) (rot s.e 25) + bits .xor .u32 (bits .and .u32 s.e s.f) (bits .and .u32 (bits .xor .u32 (if IntKind.u32.signed = true then -1 else IntKind.u32.max) s.e) s.g) + k) % 4294967296 + w) % 4294967296
def T2 (s : St) : Int :=
  (bits .xor .u32 (bits .xor .u32 (rot s.a 2) (rot s.a 13)) (rot s.a 22) + bits .xor .u32 (bits .xor .u32 (bits .and .u32 s.a s.b) (bits .and .u32 s.a s.c)) (bits .and .u32 s.b s.c)) % 4294967296
def step (s : St) (k w : Int) : St := ⟨(T1 s k w + T2 s) % 4294967296, s.a, s.b, s.c, (s.d + T1 s k w) % 4294967296, s.e, s.f, s.g⟩
/-- so many rounds -/
def rounds (ws : Nat → Int) (s : St) : Nat → St
  | 0 => s
  | n + 1 => step (rounds ws s n) (k256 n) (ws n)
/-- the state behind a block -/
def mixed (st bs : Nat → Int) : Nat → Int := fun j => (st j + (rounds (W bs) (stOf st) 64).at j) % 4294967296
end Go.Sha
namespace Go.Sha
open Go
/-- the state as bytes -/
def hashOf (st : Nat → Int) : Nat → Int := fun j => st (j / 4) / 2 ^ (24 - 8 * (j % 4)) % 256
def ini : Nat → Int
  | 0 => 0x6a09e667 | 1 => 0xbb67ae85 | 2 => 0x3c6ef372 | 3 => 0xa54ff53a | 4 => 0x510e527f | 5 => 0x9b05688c | 6 => 0x1f83d9ab | 7 => 0x5be0cd19 | _ => 0

theorem word_congr {bs bs' : Nat → Int} (h : ∀ j, j < 64 → bs j = bs' j) {i : Nat} (hi : i < 16) : word bs i = word bs' i := by
  unfold word; rw [h _ (by omega), h _ (by omega), h _ (by omega), h _ (by omega)]
theorem W_congr {bs bs' : Nat → Int} (h : ∀ j, j < 64 → bs j = bs' j) : ∀ i, W bs i = W bs' i := by
  intro i
  induction i using Nat.strongRecOn with
  | ind i ih =>
    by_cases hi : i < 16
    · rw [W_low hi, W_low hi, word_congr h hi]
    · rw [W_high hi, W_high hi, ih (i - 16) (by omega), ih (i - 15) (by omega), ih (i - 7) (by omega), ih (i - 2) (by omega)]
theorem mixed_congr {st bs bs' : Nat → Int} (h : ∀ j, j < 64 → bs j = bs' j) : mixed st bs = mixed st bs' := by
  unfold mixed; rw [show W bs = W bs' from funext (W_congr h)]

/-- the state behind the first n blocks -/
def states (M : List Int) : Nat → Nat → Int
  | 0 => ini
  | n + 1 => mixed (states M n) (fun j => M.getD (64 * n + j) 0)
theorem getD_app {M X : List Int} {j : Nat} (h : j < M.length) : (M ++ X).getD j 0 = M.getD j 0 := by simp [List.getD, List.getElem?_append, h]
theorem getD_app_right {M X : List Int} {j : Nat} : (M ++ X).getD (M.length + j) 0 = X.getD j 0 := by
  have h : ¬ M.length + j < M.length := by omega
  simp [List.getD, List.getElem?_append, h]
theorem getD_take {M : List Int} {n j : Nat} (h : j < n) : (M.take n).getD j 0 = M.getD j 0 := by simp [List.getD, h]
theorem getD_drop {M : List Int} {n j : Nat} : (M.drop n).getD j 0 = M.getD (n + j) 0 := by simp [List.getD]
theorem states_app (M X : List Int) : ∀ k, 64 * k ≤ M.length → states (M ++ X) k = states M k
  | 0, _ => rfl
  | k + 1, h => by
    simp only [states]
    rw [states_app M X k (by omega)]
    exact mixed_congr fun j hj => getD_app (by omega)

/-- what a summing holds behind the bytes M -/
def Holds (M : List Int) (st bs : Nat → Int) : Prop := st = states M (M.length / 64) ∧ ∀ j, j < M.length % 64 → bs j = M.getD (64 * (M.length / 64) + j) 0
def over (bs : Nat → Int) (r n : Nat) (Q : List Int) : Nat → Int := fun j => if r ≤ j ∧ j < r + n then Q.getD (j - r) 0 else bs j
theorem holds_start : Holds [] ini (fun _ => 0) := ⟨rfl, fun j hj => by simp at hj⟩

theorem over_at {M Q : List Int} {st bs : Nat → Int} (h : Holds M st bs) {n : Nat} {j : Nat} (hj : j < M.length % 64 + n) :
    over bs (M.length % 64) n Q j = (M ++ Q.take n).getD (64 * (M.length / 64) + j) 0 := by
  unfold over
  by_cases hr : M.length % 64 ≤ j
  · rw [if_pos ⟨hr, hj⟩]
    have e : 64 * (M.length / 64) + j = M.length + (j - M.length % 64) := by omega
    rw [e, getD_app_right, getD_take (by omega)]
  · rw [if_neg (by omega), h.2 j (by omega), getD_app (by omega)]
theorem holds_part {M Q : List Int} {st bs : Nat → Int} (h : Holds M st bs) {n : Nat} (hq : n ≤ Q.length) (hn : M.length % 64 + n < 64) : Holds (M ++ Q.take n) st (over bs (M.length % 64) n Q) := by
  have hl : (M ++ Q.take n).length = M.length + n := by simp; omega
  have e1 : (M.length + n) / 64 = M.length / 64 := by omega
  have e2 : (M.length + n) % 64 = M.length % 64 + n := by omega
  refine ⟨?_, fun j hj => ?_⟩
  · rw [hl, e1, states_app _ _ _ (by omega)]; exact h.1
  · rw [hl, e2] at hj; rw [hl, e1]; exact over_at h hj
theorem holds_full {M Q : List Int} {st bs : Nat → Int} (h : Holds M st bs) {n : Nat} (hq : n ≤ Q.length) (hn : M.length % 64 + n = 64) (bs2 : Nat → Int) : Holds (M ++ Q.take n) (mixed st (over bs (M.length % 64) n Q)) bs2 := by
  have hl : (M ++ Q.take n).length = M.length + n := by simp; omega
  have e1 : (M.length + n) / 64 = M.length / 64 + 1 := by omega
  refine ⟨?_, fun j hj => ?_⟩
  · rw [hl, e1]
    simp only [states]
    rw [states_app _ _ _ (by omega), ← h.1]
    exact mixed_congr fun j hj => over_at h (by omega)
  · rw [hl] at hj; omega

/-- how many bytes of the first one stand behind n bytes, up to the length -/
def gap (n : Nat) : Nat := 64 - (n + 8) % 64
def lenB (n : Nat) (i : Nat) : Int := (n : Int) * 8 / 2 ^ (56 - 8 * i) % 256
def lens (n k : Nat) : List Int := (List.range k).map (lenB n)
/-- what stands behind n bytes -/
def padTo (n k : Nat) : List Int := (128 :: List.replicate (gap n - 1) 0) ++ lens n k
def pad (n : Nat) : List Int := padTo n 8
theorem gap_pos (n : Nat) : 0 < gap n ∧ gap n ≤ 64 := by unfold gap; omega
theorem padTo_length (n k : Nat) : (padTo n k).length = gap n + k := by
  have := gap_pos n
  simp [padTo, lens]; omega
theorem lens_succ (n k : Nat) : lens n (k + 1) = lens n k ++ [lenB n k] := by simp [lens, List.range_succ]
theorem padTo_succ (n k : Nat) : padTo n (k + 1) = padTo n k ++ [lenB n k] := by simp [padTo, lens_succ]
theorem padded_mod (n : Nat) : (n + (pad n).length) % 64 = 0 := by rw [pad, padTo_length]; unfold gap; omega

/-- THE DIGEST of the bytes M: thirty-two bytes -/
def padded (M : List Int) : List Int := M ++ pad M.length
def sha (M : List Int) : Nat → Int := hashOf (states (padded M) ((padded M).length / 64))
def shaL (M : List Int) : List Int := (List.range 32).map (sha M)
theorem shaL_length (M : List Int) : (shaL M).length = 32 := by simp [shaL]
theorem shaL_getD (M : List Int) {j : Nat} (h : j < 32) : (shaL M).getD j 0 = sha M j := by simp [shaL, List.getD, h]

/-! ### macs -/
def keyB (K : List Int) : Nat → Int := fun j => (if K.length > 64 then shaL K else K).getD j 0
def padK (K : List Int) (x : Int) : List Int := (List.range 64).map fun j => bits .xor .u8 (keyB K j) x
def mac (K P : List Int) : Nat → Int := sha (padK K 92 ++ shaL (padK K 54 ++ P))
end Go.Sha
namespace Go.Proofs.Ytoihfhlelbdboab
open Go.RowKit Go.Dig Go.Sha

set_option maxHeartbeats 400000 in
theorem rotl_any (x : Int) (n : Nat) (w : World) (h0 : 0 < n) (h1 : n < 32) :
    Calls Try.prog 89 #[.int .u32 x, .int .i64 (-(n : Int))] w fun e w' => e = .returned (.int .u32 (rot x n)) ∧ w' = w := by
  have hs := neg_and n h0 h1
  have hs2 : ((32 : Int) - (n : Int)).toNat = 32 - n := by omega
  have hs3 : ((32 : Int) - ((32 : Int) - (n : Int))).toNat = n := by omega
  have hs4 : (32 : Int) - ((32 : Int) - (n : Int)) = n := by omega
  go_enter Try.func89, Try.ntmps89
  go_wp2
  go_ret
  exact ⟨by rw [rot, bits_or_comm]; rfl, rfl⟩
set_option maxHeartbeats 400000 in
theorem turn_any (x : Int) (n : Nat) (w : World) (h0 : 0 < n) (h1 : n < 32) :
    Calls Try.prog 85 #[.int .u32 x, .int .i64 (n : Int)] w fun e w' => e = .returned (.int .u32 (rot x n)) ∧ w' = w := by
  go_enter Try.func85, Try.ntmps85
  go_wp2_with (go_at_call 89; refine (rotl_any x n _ h0 h1).mono ?_; rintro e w' ⟨rfl, rfl⟩)
  go_ret
  exact ⟨rfl, rfl⟩
theorem turn_lit (x : Int) (n : Nat) (i : Int) (hi : i = (n : Int)) (w : World) (h0 : 0 < n) (h1 : n < 32) :
    Calls Try.prog 85 #[.int .u32 x, .int .i64 i] w fun e w' => e = .returned (.int .u32 (rot x n)) ∧ w' = w := by subst hi; exact turn_any x n w h0 h1
theorem turn_at (x i : Int) (w : World) (h0 : 0 < i) (h1 : i < 32) :
    Calls Try.prog 85 #[.int .u32 x, .int .i64 i] w fun e w' => e = .returned (.int .u32 (rot x i.toNat)) ∧ w' = w := by
  have := turn_any x i.toNat w (by omega) (by omega)
  rw [Int.toNat_of_nonneg (by omega)] at this; exact this
theorem zero_a64w : (Try.prog.info? 129).map (·.zero) = some (some (.agg (row .u32 64 (fun _ => 0)))) := by kernel_rfl
theorem size_a64w : (Try.prog.info? 129).map (·.size) = some 64 := by kernel_rfl
theorem addr_add (b o j : Nat) : (⟨b, o, none⟩ : Addr).add j = ⟨b, o + j, none⟩ := Addr.add_mid b o j
theorem slice_lh (b o : Nat) (l h : Int) (w : World) (h0 : 0 ≤ l) (h1 : l ≤ h) (h2 : h ≤ 64) (h3 : l < 64) :
    (Instr.sliceAt 130 (.pointer (some ⟨b, o, none⟩)) (some (.int .i64 l)) (some (.int .i64 h)) none).run Try.prog w = .ok (.slice (some ⟨b, o + l.toNat, none⟩) (h.toNat - l.toNat) (64 - l.toNat)) w := by
  have hl : Try.prog.arrayLen 130 = 64 := by kernel_rfl
  have he : Try.prog.elem 130 = 5 := by kernel_rfl
  rw [run_sliceAt_array_lh w 130 _ (by kernel_rfl) _ _ l h h0 h1 (by rw [hl]; exact h2), he, hl]
  have hs : (sizeOf 5).run Try.prog w = .ok 1 w := by simp [go_sem]
  rw [hs]
  have hne : ¬ (64 = l.toNat) := by omega
  simp [slicedAt, hne, addr_add]
theorem slice_l (b o : Nat) (l : Int) (w : World) (h0 : 0 ≤ l) (h3 : l < 64) :
    (Instr.sliceAt 130 (.pointer (some ⟨b, o, none⟩)) (some (.int .i64 l)) none none).run Try.prog w = .ok (.slice (some ⟨b, o + l.toNat, none⟩) (64 - l.toNat) (64 - l.toNat)) w := by
  have hl : Try.prog.arrayLen 130 = 64 := by kernel_rfl
  have he : Try.prog.elem 130 = 5 := by kernel_rfl
  rw [run_sliceAt_array_l w 130 _ (by kernel_rfl) _ l h0 (by rw [hl]; omega), he, hl]
  have hs : (sizeOf 5).run Try.prog w = .ok 1 w := by simp [go_sem]
  rw [hs]
  have hne : ¬ (64 = l.toNat) := by omega
  simp [slicedAt, hne, addr_add]

/-- the first k are there -/
def upTo (k : Nat) (f : Nat → Int) : Nat → Int := fun j => if j < k then f j else 0
theorem upTo_put (k : Nat) (f : Nat → Int) : put (upTo k f) k (f k) = upTo (k + 1) f := by
  funext j
  unfold put upTo
  by_cases h : j = k
  · subst h; simp
  · by_cases h2 : j < k
    · simp [h, h2, Nat.lt_succ_of_lt h2]
    · simp [h, h2, show ¬ j < k + 1 by omega]
theorem upTo_lt {k j : Nat} {f : Nat → Int} (h : j < k) : upTo k f j = f j := by simp [upTo, h]

theorem put_step {wr wr' : World} {g : Nat} {k : Nat} {f : Nat → Int} {t : TypeId} (h : wr.heap[g]? = some (.cells (row .u32 64 (upTo k f)) t (0, 0))) (e : wr'.heap = (wr.setCell ⟨g, k, none⟩ (.int .u32 (f k))).heap) :
    wr'.heap[g]? = some (.cells (row .u32 64 (upTo (k + 1) f)) t (0, 0)) := by
  rw [e, set_blk_row h, upTo_put]

set_option maxRecDepth 10000 in
set_option maxHeartbeats 1000000 in
theorem spread_any (b o : Nat) (bs : Nat → Int) (w : World) (hb : b < w.heap.size) (hc : ∀ j, j < 64 → w.cell? ⟨b, o + j, none⟩ = some (.int .u8 (bs j))) :
    Calls Try.prog 84 #[.pointer (some ⟨b, o, none⟩)] w fun e w' => e = .returned (.agg (row .u32 64 (W bs))) ∧ Below w.heap.size w w' := by
  have HC : Hid (∀ j, j < 64 → w.cell? ⟨b, o + j, none⟩ = some (.int .u8 (bs j))) := hc
  clear hc
  have HZ : Hid ((Try.prog.info? 129).map (·.zero) = some (some (.agg (row .u32 64 (fun _ => 0))))) := zero_a64w
  go_enter Try.func84, Try.ntmps84
  go_wp2_with (refine wpList_alloc_row rfl 129 rfl _ HZ.out ?_)
  go_loopw [10] (fun i wr => ∃ k : Nat, k ≤ 16 ∧ i = .int .i64 (k : Int) ∧ Below w.heap.size w wr ∧ wr.heap[w.heap.size]? = some (.cells (row .u32 64 (upTo k (W bs))) 129 (0, 0))) (fun i _ => 16 - (intOf i).toNat)
  case atStart =>
    exact ⟨0, Nat.zero_le _, rfl, (Below.refl _ _).alloc (Nat.le_refl _) _, alloc_blk _ _⟩
  case round =>
    obtain ⟨k, hk, rfl, hB, hr⟩ := hrel
    have HR : Hid (wr.heap[w.heap.size]? = some (.cells (row .u32 64 (upTo k (W bs))) 129 (0, 0))) := hr
    clear hr
    by_cases hlt : k < 16
    · have c0 : wr.cell? ⟨b, o + 4 * k, none⟩ = some (.int .u8 (bs (4 * k))) := (hB.cell (p := ⟨b, _, none⟩) hb).trans (HC.out _ (by omega))
      have c1 : wr.cell? ⟨b, o + 4 * k + 1, none⟩ = some (.int .u8 (bs (4 * k + 1))) := by rw [Nat.add_assoc]; exact (hB.cell (p := ⟨b, _, none⟩) hb).trans (HC.out _ (by omega))
      have c2 : wr.cell? ⟨b, o + 4 * k + 2, none⟩ = some (.int .u8 (bs (4 * k + 2))) := by rw [Nat.add_assoc]; exact (hB.cell (p := ⟨b, _, none⟩) hb).trans (HC.out _ (by omega))
      have c3 : wr.cell? ⟨b, o + 4 * k + 3, none⟩ = some (.int .u8 (bs (4 * k + 3))) := by rw [Nat.add_assoc]; exact (hB.cell (p := ⟨b, _, none⟩) hb).trans (HC.out _ (by omega))
      have hs : wr.cell? ⟨w.heap.size, k, none⟩ = some (.int .u32 (upTo k (W bs) k)) := (cell_blk HR.out k).trans (row_get (by omega))
      have hf := frozen_blk HR.out k
      have hsl := slice_lh b o (4 * (k : Int)) (4 * (k : Int) + 4) wr (by omega) (by omega) (by omega) (by omega)
      rw [show (4 * (k : Int)).toNat = 4 * k from by omega, show (4 * (k : Int) + 4).toNat - 4 * k = 4 from by omega] at hsl
      go_wp2_with fail
      go_region
      rw [show bits BinOp.or IntKind.u32 (bits BinOp.or IntKind.u32 (bits BinOp.or IntKind.u32 (bs (4 * k) % 4294967296 * 16777216 % 4294967296) (bs (4 * k + 1) % 4294967296 * 65536 % 4294967296)) (bs (4 * k + 2) % 4294967296 * 256 % 4294967296)) (bs (4 * k + 3) % 4294967296) = W bs k from (W_low hlt).symm]
      go_wp2_with fail
      go_roundw
      case rel => exact ⟨k + 1, by omega, by go_num, (by repeat (first | exact hB | refine Below.drew ?_ | refine Below.setCell (p := ⟨w.heap.size, _, none⟩) ?_ (Nat.le_refl _) _)), put_step HR.out rfl⟩
      case measure => simp [intOf]; omega
    · obtain rfl : k = 16 := by omega
      simp only [show ((16 : Nat) : Int) = 16 from rfl]
      go_wp2_with fail
      go_loopw [5] (fun i wq => ∃ k : Nat, 16 ≤ k ∧ k ≤ 64 ∧ i = .int .i64 (k : Int) ∧ Below w.heap.size w wq ∧ wq.heap[w.heap.size]? = some (.cells (row .u32 64 (upTo k (W bs))) 129 (0, 0))) (fun i _ => 64 - (intOf i).toNat)
      case atStart => exact ⟨16, Nat.le_refl _, by omega, rfl, hB, HR.out⟩
      case round =>
        clear hB HR hlt hk
        obtain ⟨k, hk0, hk, rfl, hB, hr⟩ := hrel
        have HR : Hid (wr.heap[w.heap.size]? = some (.cells (row .u32 64 (upTo k (W bs))) 129 (0, 0))) := hr
        clear hr
        by_cases hlt : k < 64
        · have c0 : wr.cell? ⟨w.heap.size, k - 15, none⟩ = some (.int .u32 (W bs (k - 15))) := by rw [cell_blk HR.out, row_get (by omega), upTo_lt (by omega)]
          have c1 : wr.cell? ⟨w.heap.size, k - 2, none⟩ = some (.int .u32 (W bs (k - 2))) := by rw [cell_blk HR.out, row_get (by omega), upTo_lt (by omega)]
          have c2 : wr.cell? ⟨w.heap.size, k - 16, none⟩ = some (.int .u32 (W bs (k - 16))) := by rw [cell_blk HR.out, row_get (by omega), upTo_lt (by omega)]
          have c3 : wr.cell? ⟨w.heap.size, k - 7, none⟩ = some (.int .u32 (W bs (k - 7))) := by rw [cell_blk HR.out, row_get (by omega), upTo_lt (by omega)]
          have hs : wr.cell? ⟨w.heap.size, k, none⟩ = some (.int .u32 (upTo k (W bs) k)) := (cell_blk HR.out k).trans (row_get (by omega))
          have hf := frozen_blk HR.out k
          go_wp2_with fail
          go_region
          go_wp2_with fail
          refine (turn_lit _ 7 7 rfl _ (by decide) (by decide)).mono ?_
          rintro e w' ⟨rfl, rfl⟩
          go_wp2_with fail
          refine (turn_lit _ 18 18 rfl _ (by decide) (by decide)).mono ?_
          rintro e w' ⟨rfl, rfl⟩
          go_wp2_with fail
          refine (turn_lit _ 17 17 rfl _ (by decide) (by decide)).mono ?_
          rintro e w' ⟨rfl, rfl⟩
          go_wp2_with fail
          refine (turn_lit _ 19 19 rfl _ (by decide) (by decide)).mono ?_
          rintro e w' ⟨rfl, rfl⟩
          go_wp2_with fail
          go_region
          rw [show (W bs (k - 16) + bits BinOp.xor IntKind.u32 (bits BinOp.xor IntKind.u32 (rot (W bs (k - 15)) 7) (rot (W bs (k - 15)) 18)) (W bs (k - 15) / 8) + W bs (k - 7) + bits BinOp.xor IntKind.u32 (bits BinOp.xor IntKind.u32 (rot (W bs (k - 2)) 17) (rot (W bs (k - 2)) 19)) (W bs (k - 2) / 1024)) % 4294967296 = W bs k from (W_high (by omega)).symm]
          go_wp2_with fail
          go_roundw
          case rel => exact ⟨k + 1, by omega, by omega, by go_num, (by repeat (first | exact hB | refine Below.drew ?_ | refine Below.setCell (p := ⟨w.heap.size, _, none⟩) ?_ (Nat.le_refl _) _)), put_step HR.out rfl⟩
          case measure => simp [intOf]; omega
        · obtain rfl : k = 64 := by omega
          go_wp2_with (first | refine wpList_load_blk rfl 129 _ rfl w.heap.size _ rfl _ _ HR.out 64 127 (by kernel_rfl) (row_info size_a64w _) ?_ | refine wpList_store_self rfl 129 _ _ rfl w.heap.size _ rfl rfl _ HR.out (row_info size_a64w _) (row_all _ _ _) ?_)
          refine bodyPost_ret (v := .agg (row .u32 64 (W bs))) ?_ rfl ⟨rfl, hB⟩
          rw [row_congr (k := .u32) (n := 64) (f := W bs) (g := upTo 64 (W bs)) (fun j hj => (upTo_lt hj).symm)]
          exact results_cell_row rfl _ _ w.heap.size _ _ _ (.array 64 127) rfl HR.out (by kernel_rfl) rfl (row_info size_a64w _)
end Go.Proofs.Ytoihfhlelbdboab
namespace Go.Proofs.Ytoihfhlelbdboab
open Go.RowKit Go.Dig Go.Sha

/-- a summing: eight words, sixty-four numbers, sixty-four bytes, how many there were -/
def sumRow (st : Nat → Int) (bs : Nat → Int) (size : Int) : Array Value := row .u32 8 st ++ row .u32 64 k256 ++ row .u8 64 bs ++ #[.int .i64 size]
theorem sum_size (st bs : Nat → Int) (size : Int) : (sumRow st bs size).size = 137 := by simp [sumRow, row_size]
theorem sum_st {st bs : Nat → Int} {size : Int} {j : Nat} (h : j < 8) : (sumRow st bs size)[j]? = some (.int .u32 (st j)) := by
  simp only [sumRow, Array.getElem?_append, row_size, Array.size_append]
  simp [show j < 8 + 64 + 64 by omega, show j < 8 + 64 by omega, h, row_get h]
theorem sum_k {st bs : Nat → Int} {size : Int} {j : Nat} (h : j < 64) : (sumRow st bs size)[8 + j]? = some (.int .u32 (k256 j)) := by
  simp only [sumRow, Array.getElem?_append, row_size, Array.size_append]
  simp [show 8 + j < 8 + 64 + 64 by omega, show 8 + j < 8 + 64 by omega, show ¬ 8 + j < 8 by omega, show 8 + j - 8 = j by omega, row_get h]
theorem sum_b {st bs : Nat → Int} {size : Int} {j : Nat} (h : j < 64) : (sumRow st bs size)[72 + j]? = some (.int .u8 (bs j)) := by
  simp only [sumRow, Array.getElem?_append, row_size, Array.size_append]
  simp [show 72 + j < 8 + 64 + 64 by omega, show ¬ 72 + j < 8 + 64 by omega, show 72 + j - (8 + 64) = j by omega, row_get h]
theorem sum_n {st bs : Nat → Int} {size : Int} : (sumRow st bs size)[136]? = some (.int .i64 size) := by
  simp only [sumRow, Array.getElem?_append, row_size, Array.size_append]
  simp
theorem sum_none {st bs : Nat → Int} {size : Int} {j : Nat} (h : 137 ≤ j) : (sumRow st bs size)[j]? = none := by
  rw [Array.getElem?_eq_none]; rw [sum_size]; exact h
/-- two are one if they are so cell by cell -/
theorem sum_ext {c : Array Value} {st bs : Nat → Int} {size : Int} (hs : c.size = 137) (h0 : ∀ j, j < 8 → c[j]? = some (.int .u32 (st j))) (h1 : ∀ j, j < 64 → c[8 + j]? = some (.int .u32 (k256 j))) (h2 : ∀ j, j < 64 → c[72 + j]? = some (.int .u8 (bs j))) (h3 : c[136]? = some (.int .i64 size)) : c = sumRow st bs size := by
  apply Array.ext_getElem?
  intro j
  by_cases j0 : j < 8
  · rw [h0 j j0, sum_st j0]
  · by_cases j1 : j < 72
    · obtain ⟨i, rfl⟩ : ∃ i, j = 8 + i := ⟨j - 8, by omega⟩
      rw [h1 i (by omega), sum_k (by omega)]
    · by_cases j2 : j < 136
      · obtain ⟨i, rfl⟩ : ∃ i, j = 72 + i := ⟨j - 72, by omega⟩
        rw [h2 i (by omega), sum_b (by omega)]
      · by_cases j3 : j = 136
        · subst j3; rw [h3, sum_n]
        · rw [sum_none (by omega), Array.getElem?_eq_none (by omega)]
theorem sum_put_st {st bs : Nat → Int} {size : Int} {i : Nat} {v : Int} (h : i < 8) : (sumRow st bs size).setIfInBounds i (.int .u32 v) = sumRow (put st i v) bs size := by
  refine sum_ext (by simp [sum_size]) (fun j hj => ?_) (fun j hj => ?_) (fun j hj => ?_) ?_
  · rw [Array.getElem?_setIfInBounds, sum_size, sum_st hj]
    by_cases e : i = j
    · subst e; simp [show i < 137 by omega, put]
    · simp [e, put, Ne.symm e]
  · rw [Array.getElem?_setIfInBounds, sum_k hj, if_neg (by omega)]
  · rw [Array.getElem?_setIfInBounds, sum_b hj, if_neg (by omega)]
  · rw [Array.getElem?_setIfInBounds, sum_n, if_neg (by omega)]
theorem sum_put_n {st bs : Nat → Int} {size : Int} {v : Int} : (sumRow st bs size).setIfInBounds 136 (.int .i64 v) = sumRow st bs v := by
  refine sum_ext (by simp [sum_size]) (fun j hj => ?_) (fun j hj => ?_) (fun j hj => ?_) ?_
  · rw [Array.getElem?_setIfInBounds, sum_st hj, if_neg (by omega)]
  · rw [Array.getElem?_setIfInBounds, sum_k hj, if_neg (by omega)]
  · rw [Array.getElem?_setIfInBounds, sum_b hj, if_neg (by omega)]
  · rw [Array.getElem?_setIfInBounds, sum_size]; simp
theorem sum_put_b {st bs : Nat → Int} {size : Int} {i : Nat} {v : Int} (h : i < 64) : (sumRow st bs size).setIfInBounds (72 + i) (.int .u8 v) = sumRow st (put bs i v) size := by
  refine sum_ext (by simp [sum_size]) (fun j hj => ?_) (fun j hj => ?_) (fun j hj => ?_) ?_
  · rw [Array.getElem?_setIfInBounds, sum_st hj, if_neg (by omega)]
  · rw [Array.getElem?_setIfInBounds, sum_k hj, if_neg (by omega)]
  · rw [Array.getElem?_setIfInBounds, sum_size, sum_b hj]
    by_cases e : i = j
    · subst e; simp [show 72 + i < 137 by omega, put]
    · simp [e, put, Ne.symm e]
  · rw [Array.getElem?_setIfInBounds, sum_n, if_neg (by omega)]

/-- the summing lies at block g -/
def SumAt (w : World) (g : Nat) (st bs : Nat → Int) (size : Int) : Prop := w.heap[g]? = some (.cells (sumRow st bs size) 132 (0, 0))
theorem SumAt.st {w : World} {g : Nat} {st bs : Nat → Int} {size : Int} (h : SumAt w g st bs size) {j : Nat} (hj : j < 8) : w.cell? ⟨g, j, none⟩ = some (.int .u32 (st j)) := (cell_blk h j).trans (sum_st hj)
theorem SumAt.k {w : World} {g : Nat} {st bs : Nat → Int} {size : Int} (h : SumAt w g st bs size) {j : Nat} (hj : j < 64) : w.cell? ⟨g, 8 + j, none⟩ = some (.int .u32 (k256 j)) := (cell_blk h _).trans (sum_k hj)
theorem SumAt.b {w : World} {g : Nat} {st bs : Nat → Int} {size : Int} (h : SumAt w g st bs size) {j : Nat} (hj : j < 64) : w.cell? ⟨g, 72 + j, none⟩ = some (.int .u8 (bs j)) := (cell_blk h _).trans (sum_b hj)
theorem SumAt.n {w : World} {g : Nat} {st bs : Nat → Int} {size : Int} (h : SumAt w g st bs size) : w.cell? ⟨g, 136, none⟩ = some (.int .i64 size) := (cell_blk h _).trans sum_n
theorem SumAt.fr {w : World} {g : Nat} {st bs : Nat → Int} {size : Int} (h : SumAt w g st bs size) (j : Nat) : w.frozen? ⟨g, j, none⟩ = false := frozen_blk h j
theorem SumAt.lt {w : World} {g : Nat} {st bs : Nat → Int} {size : Int} (h : SumAt w g st bs size) : g < w.heap.size := lt_blk h
theorem SumAt.below {B : Nat} {w w' : World} {g : Nat} {st bs : Nat → Int} {size : Int} (h : SumAt w g st bs size) (hB : Below B w w') (hg : g < B) : SumAt w' g st bs size := (hB.block g hg).trans h
theorem SumAt.setSt {w w' : World} {g : Nat} {st bs : Nat → Int} {size : Int} (h : SumAt w g st bs size) {i : Nat} (hi : i < 8) (v : Int) (e : w'.heap = (w.setCell ⟨g, i, none⟩ (.int .u32 v)).heap) : SumAt w' g (put st i v) bs size := by
  unfold SumAt; rw [e, set_blk h, sum_put_st hi]
theorem SumAt.setN {w w' : World} {g : Nat} {st bs : Nat → Int} {size : Int} (h : SumAt w g st bs size) (v : Int) (e : w'.heap = (w.setCell ⟨g, 136, none⟩ (.int .i64 v)).heap) : SumAt w' g st bs v := by
  unfold SumAt; rw [e, set_blk h, sum_put_n]
end Go.Proofs.Ytoihfhlelbdboab
namespace Go.Proofs.Ytoihfhlelbdboab
open Go.RowKit Go.Dig Go.Sha

theorem part_u32 (cs : Array Value) (off : Nat) (v : Value) (w : World) (h : cs[off]? = some v) : (part 127 cs off).run Try.prog w = .ok v w := by
  simp [part, go_sem, h]
theorem index_st (st : Nat → Int) (k : Nat) (h : k < 8) (w : World) : (Instr.index 128 (.agg (row .u32 8 st)) (.int .i64 (k : Int))).run Try.prog w = .ok (.int .u32 (st k)) w :=
  run_index_row 128 127 8 .u32 8 st .i64 k (by kernel_rfl) h h (by kernel_rfl) part_u32 w

theorem size_a8w : (Try.prog.info? 128).map (·.size) = some 8 := by kernel_rfl
theorem zero_hash : (Try.prog.info? 44).map (·.zero) = some (some (.agg (row .u8 32 (fun _ => 0)))) := by kernel_rfl
theorem size_hash : (Try.prog.info? 44).map (·.size) = some 32 := by kernel_rfl

theorem put_four {wr wr' : World} {g : Nat} {k : Nat} {f : Nat → Int} {t : TypeId} {n : Nat} (h : wr.heap[g]? = some (.cells (row .u8 n (upTo (4 * k) f)) t (0, 0)))
    (e : wr'.heap = ((((wr.setCell ⟨g, 4 * k, none⟩ (.int .u8 (f (4 * k)))).setCell ⟨g, 4 * k + 1, none⟩ (.int .u8 (f (4 * k + 1)))).setCell ⟨g, 4 * k + 2, none⟩ (.int .u8 (f (4 * k + 2)))).setCell ⟨g, 4 * k + 3, none⟩ (.int .u8 (f (4 * k + 3)))).heap) :
    wr'.heap[g]? = some (.cells (row .u8 n (upTo (4 * (k + 1)) f)) t (0, 0)) := by
  have h0 := set_blk_row h (4 * k) (f (4 * k)); rw [upTo_put] at h0
  have h1 := set_blk_row h0 (4 * k + 1) (f (4 * k + 1)); rw [upTo_put] at h1
  have h2 := set_blk_row h1 (4 * k + 2) (f (4 * k + 2)); rw [upTo_put] at h2
  have h3 := set_blk_row h2 (4 * k + 3) (f (4 * k + 3)); rw [upTo_put] at h3
  rw [e, h3, show 4 * (k + 1) = 4 * k + 1 + 1 + 1 + 1 by omega]
theorem hashOf0 (st : Nat → Int) (k : Nat) : hashOf st (4 * k) = st k / 16777216 % 256 := by simp [hashOf, show 4 * k / 4 = k by omega, show 4 * k % 4 = 0 by omega]
theorem hashOf1 (st : Nat → Int) (k : Nat) : hashOf st (4 * k + 1) = st k / 65536 % 256 := by simp [hashOf, show (4 * k + 1) / 4 = k by omega, show (4 * k + 1) % 4 = 1 by omega]
theorem hashOf2 (st : Nat → Int) (k : Nat) : hashOf st (4 * k + 2) = st k / 256 % 256 := by simp [hashOf, show (4 * k + 2) / 4 = k by omega, show (4 * k + 2) % 4 = 2 by omega]
theorem hashOf3 (st : Nat → Int) (k : Nat) : hashOf st (4 * k + 3) = st k % 256 := by simp [hashOf, show (4 * k + 3) / 4 = k by omega, show (4 * k + 3) % 4 = 3 by omega]

set_option maxRecDepth 10000 in
set_option maxHeartbeats 400000 in
theorem hash_any (g : Nat) (st bs : Nat → Int) (size : Int) (w : World) (h : SumAt w g st bs size) :
    Calls Try.prog 66 #[.pointer (some ⟨g, 0, none⟩)] w fun e w' => e = .returned (.agg (row .u8 32 (hashOf st))) ∧ Below w.heap.size w w' := by
  have HZ : Hid ((Try.prog.info? 44).map (·.zero) = some (some (.agg (row .u8 32 (fun _ => 0))))) := zero_hash
  have H : Hid (SumAt w g st bs size) := h
  have hg : g < w.heap.size := h.lt
  clear h
  go_enter Try.func66, Try.ntmps66
  go_wp2_with (first | refine wpList_alloc_row rfl 44 rfl _ HZ.out ?_ | refine wpList_load_nums rfl 128 _ rfl g 0 rfl .u32 8 st (fun j hj => by rw [Nat.zero_add]; exact SumAt.st (alloc_blk_old H.out _) hj) 8 127 (by kernel_rfl) size_a8w ?_)
  go_loopw [9] (fun i wr => ∃ k : Nat, k ≤ 8 ∧ i = .int .i64 (k : Int) ∧ Below w.heap.size w wr ∧ wr.heap[w.heap.size]? = some (.cells (row .u8 32 (upTo (4 * k) (hashOf st))) 44 (0, 0))) (fun i _ => 8 - (intOf i).toNat)
  case atStart =>
    exact ⟨0, Nat.zero_le _, rfl, (Below.refl _ _).alloc (Nat.le_refl _) _, alloc_blk _ _⟩
  case round =>
    obtain ⟨k, hk, rfl, hB, hr⟩ := hrel
    have HR : Hid (wr.heap[w.heap.size]? = some (.cells (row .u8 32 (upTo (4 * k) (hashOf st))) 44 (0, 0))) := hr
    clear hr
    by_cases hlt : k < 8
    · have hix := index_st st k hlt wr
      have c0 : wr.cell? ⟨w.heap.size, 4 * k, none⟩ = some (.int .u8 (upTo (4 * k) (hashOf st) (4 * k))) := by rw [cell_blk HR.out, row_get (by omega)]
      have c1 : wr.cell? ⟨w.heap.size, 4 * k + 1, none⟩ = some (.int .u8 (upTo (4 * k) (hashOf st) (4 * k + 1))) := by rw [cell_blk HR.out, row_get (by omega)]
      have c2 : wr.cell? ⟨w.heap.size, 4 * k + 2, none⟩ = some (.int .u8 (upTo (4 * k) (hashOf st) (4 * k + 2))) := by rw [cell_blk HR.out, row_get (by omega)]
      have c3 : wr.cell? ⟨w.heap.size, 4 * k + 3, none⟩ = some (.int .u8 (upTo (4 * k) (hashOf st) (4 * k + 3))) := by rw [cell_blk HR.out, row_get (by omega)]
      have f0 := frozen_blk HR.out (4 * k)
      have f1 := frozen_blk HR.out (4 * k + 1)
      have f2 := frozen_blk HR.out (4 * k + 2)
      have f3 := frozen_blk HR.out (4 * k + 3)
      go_wp2_with fail
      rw [← hashOf0, ← hashOf1, ← hashOf2, ← hashOf3]
      refine ⟨⟨k + 1, by omega, by go_num, ?_, put_four HR.out rfl⟩, by simp [intOf]; omega⟩
      exact (((hB.setCell (p := ⟨w.heap.size, _, none⟩) (Nat.le_refl _) _).setCell (p := ⟨w.heap.size, _, none⟩) (Nat.le_refl _) _).setCell (p := ⟨w.heap.size, _, none⟩) (Nat.le_refl _) _).setCell (p := ⟨w.heap.size, _, none⟩) (Nat.le_refl _) _
    · obtain rfl : k = 8 := by omega
      simp only [show ((8 : Nat) : Int) = 8 from rfl]
      go_wp2_with (first | refine wpList_load_blk rfl 44 _ rfl w.heap.size _ rfl _ _ HR.out 32 5 (by kernel_rfl) (row_info size_hash _) ?_ | refine wpList_store_self rfl 44 _ _ rfl w.heap.size _ rfl rfl _ HR.out (row_info size_hash _) (row_all _ _ _) ?_)
      refine bodyPost_ret (v := .agg (row .u8 32 (hashOf st))) ?_ rfl ⟨rfl, hB⟩
      rw [row_congr (k := .u8) (n := 32) (f := hashOf st) (g := upTo (4 * 8) (hashOf st)) (fun j hj => (upTo_lt (by omega)).symm)]
      exact results_cell_row rfl _ _ w.heap.size _ _ _ (.array 32 5) rfl HR.out (by kernel_rfl) rfl (row_info size_hash _)

set_option maxRecDepth 10000 in
set_option maxHeartbeats 400000 in
theorem roundNumbers_any (w : World) : Calls Try.prog 78 #[] w fun e w' => e = .returned (.agg (row .u32 64 k256)) ∧ Below w.heap.size w w' := by
  have HZ : Hid ((Try.prog.info? 129).map (·.zero) = some (some (.agg (row .u32 64 (fun _ => 0))))) := zero_a64w
  go_enter Try.func78, Try.ntmps78
  go_wp2_with (first | refine wpList_alloc_row rfl 129 rfl _ HZ.out ?_ | refine wpList_build_to rfl _ _ rfl (row .u32 64 k256) (by kernel_rfl) ?_ | refine wpList_store_blk rfl 129 _ _ rfl w.heap.size _ rfl rfl _ _ (alloc_blk _ _) (row_info size_a64w _) (by rw [row_size, row_size]) (row_all _ _ _) ?_)
  rw [setRow_new]
  refine bodyPost_ret (v := .agg (row .u32 64 k256)) ?_ rfl ⟨rfl, (Below.refl _ _).alloc (Nat.le_refl _) _⟩
  exact results_cell_row rfl _ _ w.heap.size _ _ _ (.array 64 127) rfl (alloc_blk _ _) (by kernel_rfl) rfl (row_info size_a64w _)

set_option maxRecDepth 10000 in
set_option maxHeartbeats 400000 in
theorem newSumming_any (w : World) : Calls Try.prog 63 #[] w fun e w' => ∃ g, e = .returned (.pointer (some ⟨g, 0, none⟩)) ∧ w.heap.size ≤ g ∧ SumAt w' g ini (fun _ => 0) 0 ∧ Below w.heap.size w w' := by
  go_enter Try.func63, Try.ntmps63
  go_wp2_with (first | refine wpList_build_to rfl 128 _ rfl (row .u32 8 ini) (by kernel_rfl) ?_ | fail)
  refine (roundNumbers_any w).mono ?_
  rintro e w1 ⟨rfl, hB⟩
  go_wp2_with (first | refine wpList_build_to rfl 132 _ rfl (sumRow ini (fun _ => 0) 0) (by kernel_rfl) ?_ | refine wpList_box_row rfl 132 _ rfl _ rfl ?_)
  go_ret
  exact ⟨w1.heap.size, rfl, hB.size, alloc_blk _ _, hB.alloc hB.size _⟩
end Go.Proofs.Ytoihfhlelbdboab
namespace Go.Proofs.Ytoihfhlelbdboab
open Go.RowKit Go.Dig Go.Sha

theorem drewN_heap (w : World) (n : Nat) : (w.drewN n).heap = w.heap := rfl
theorem keeps_drewN {b : Nat} {x y : World} (h : Keeps b x y) (n : Nat) : Keeps b x (y.drewN n) := ⟨h.os, h.tape, h.output, h.size, h.block⟩
theorem sumAt_drewN {w : World} {g : Nat} {st bs : Nat → Int} {size : Int} (h : Hid (SumAt w g st bs size)) (n : Nat) : Hid (SumAt (w.drewN n) g st bs size) := by
  show _ = _; rw [drewN_heap]; exact h
theorem heap_drewN {w : World} {g : Nat} {o : Obj} (h : Hid (w.heap[g]? = some o)) (n : Nat) : Hid ((w.drewN n).heap[g]? = some o) := by
  show _ = _; rw [drewN_heap]; exact h
/-- the first k words are mixed -/
def mixTo (k : Nat) (st : Nat → Int) (s : St) : Nat → Int := fun j => if j < k then (st j + s.at j) % 4294967296 else st j
theorem mixTo_put (k : Nat) (st : Nat → Int) (s : St) : put (mixTo k st s) k ((st k + s.at k) % 4294967296) = mixTo (k + 1) st s := by
  funext j
  unfold put mixTo
  by_cases h : j = k
  · subst h; simp
  · by_cases h2 : j < k
    · simp [h, h2, Nat.lt_succ_of_lt h2]
    · simp [h, h2, show ¬ j < k + 1 by omega]
theorem SumAt.congr {w : World} {g : Nat} {st st' bs bs' : Nat → Int} {size : Int} (h : SumAt w g st bs size) (e : ∀ j, j < 8 → st j = st' j) (e' : ∀ j, j < 64 → bs j = bs' j) : SumAt w g st' bs' size := by
  have : sumRow st bs size = sumRow st' bs' size := by unfold sumRow; rw [row_congr e, row_congr e']
  unfold SumAt at *; rw [← this]; exact h
theorem SumAt.mixStep {w w' : World} {g : Nat} {st bs : Nat → Int} {size : Int} {s : St} {k : Nat} (h : SumAt w g (mixTo k st s) bs size) (hk : k < 8) (e : w'.heap = (w.setCell ⟨g, k, none⟩ (.int .u32 ((st k + s.at k) % 4294967296))).heap) : SumAt w' g (mixTo (k + 1) st s) bs size := by
  have := h.setSt hk _ e
  rw [mixTo_put] at this; exact this

set_option maxRecDepth 100000 in
set_option maxHeartbeats 1000000 in
theorem mix_any (g : Nat) (st bs : Nat → Int) (size : Int) (w : World) (h : SumAt w g st bs size) :
    Calls Try.prog 79 #[.pointer (some ⟨g, 0, none⟩)] w fun e w' => e = .returned (.tuple #[]) ∧ SumAt w' g (mixed st bs) bs size ∧ Keeps g w w' := by
  have HZ : Hid ((Try.prog.info? 129).map (·.zero) = some (some (.agg (row .u32 64 (fun _ => 0))))) := zero_a64w
  go_enter Try.func79, Try.ntmps79
  go_wp2_with fail
  refine (spread_any g 72 bs w h.lt (fun j hj => h.b hj)).mono ?_
  rintro e w1 ⟨rfl, hB⟩
  have h1 := h.below hB h.lt
  have hkeep : Keeps g w w1 := Keeps.of_below hB
  go_wp2_with (first | refine wpList_alloc_row rfl 129 rfl _ HZ.out ?_ | refine wpList_store_blk rfl 129 _ _ rfl w1.heap.size _ rfl rfl _ _ (alloc_blk _ _) (row_info size_a64w _) (by rw [row_size, row_size]) (row_all _ _ _) ?_)
  rw [setRow_new]
  have h2 : SumAt (w1.alloc (.cells (row .u32 64 (W bs)) 129)) g st bs size := alloc_blk_old h1 _
  have hw2 : (w1.alloc (.cells (row .u32 64 (W bs)) 129)).heap[w1.heap.size]? = some (.cells (row .u32 64 (W bs)) 129 (0, 0)) := alloc_blk _ _
  have hk2 : Keeps g w (w1.alloc (.cells (row .u32 64 (W bs)) 129)) := hkeep.trans (Keeps.of_below ((Below.refl _ _).alloc (Nat.le_refl _) _))
  have hqg : w1.heap.size ≠ g := by have := h1.lt; omega
  clear hB h1 hkeep h
  generalize w1.heap.size = q at *
  generalize w1.alloc (.cells (row .u32 64 (W bs)) 129) = w2 at *
  have c0 := h2.st (j := 0) (by decide)
  have c1 := h2.st (j := 1) (by decide)
  have c2 := h2.st (j := 2) (by decide)
  have c3 := h2.st (j := 3) (by decide)
  have c4 := h2.st (j := 4) (by decide)
  have c5 := h2.st (j := 5) (by decide)
  have c6 := h2.st (j := 6) (by decide)
  have c7 := h2.st (j := 7) (by decide)
  have HW : Hid (w2.heap[q]? = some (.cells (row .u32 64 (W bs)) 129 (0, 0))) := hw2
  have HS : Hid (SumAt w2 g st bs size) := h2
  clear hw2 h2
  simp only [Act.put, List.setIfInBounds_toArray, List.set_cons_succ, List.set_cons_zero]
  go_region
  go_wp2_with fail
  go_region
  go_wp2_with fail
  go_loopw [3, 4, 5, 6, 7, 8, 9, 10, 60] (fun xa xb xc xd xe xf xg xh i wr => ∃ (k : Nat) (s : St), Hid (s = rounds (W bs) (stOf st) k) ∧ k ≤ 64 ∧ i = .int .i64 (k : Int) ∧ xa = .int .u32 s.a ∧ xb = .int .u32 s.b ∧ xc = .int .u32 s.c ∧ xd = .int .u32 s.d ∧ xe = .int .u32 s.e ∧ xf = .int .u32 s.f ∧ xg = .int .u32 s.g ∧ xh = .int .u32 s.h ∧ Keeps g w wr ∧ Hid (SumAt wr g st bs size) ∧ Hid (wr.heap[q]? = some (.cells (row .u32 64 (W bs)) 129 (0, 0)))) (fun _ _ _ _ _ _ _ _ i _ => 64 - (intOf i).toNat)
  case atStart => exact ⟨0, stOf st, rfl, by omega, rfl, rfl, rfl, rfl, rfl, rfl, rfl, rfl, rfl, hk2.drew.drew, HS, HW⟩
  case round =>
    clear hk2 HS HW c0 c1 c2 c3 c4 c5 c6 c7
    obtain ⟨k, s, HR, hk, rfl, rfl, rfl, rfl, rfl, rfl, rfl, rfl, rfl, hK, HS, HW⟩ := hrel
    by_cases hlt : k < 64
    · have c0 : wr.cell? ⟨g, 8 + k, none⟩ = some (.int .u32 (k256 k)) := HS.out.k hlt
      have c1 : wr.cell? ⟨q, k, none⟩ = some (.int .u32 (W bs k)) := (cell_blk HW.out k).trans (row_get hlt)
      go_wp2_with fail
      go_quiet ((go_at_call 85; exact Calls.quiet_of_same (turn_at _ _ _ (by decide) (by decide))))
      have HT : Hid (T1 s (k256 k) (W bs k) = T1 s (k256 k) (W bs k)) := rfl
      unfold T1 at HT
      rw [show ((s.h + bits .xor .u32 (bits .xor .u32 (rot s.e 6) (rot s.e 11)) (rot s.e 25) + bits .xor .u32 (bits .and .u32 s.e s.f) (bits .and .u32 (bits .xor .u32 (if IntKind.u32.signed = true then -1 else IntKind.u32.max) s.e) s.g) + k256 k) % 4294967296 + W bs k) % 4294967296 = T1 s (k256 k) (W bs k) from rfl]
      clear HT
      generalize (s.h + bits BinOp.xor .u32 (bits BinOp.xor .u32 (rot s.e 6) (rot s.e 11)) (rot s.e 25) + bits BinOp.xor .u32 (bits BinOp.and .u32 s.e s.f) (bits BinOp.and .u32 (bits BinOp.xor .u32 (if IntKind.u32.signed = true then -1 else IntKind.u32.max) s.e) s.g) + k256 k) % 4294967296 = z1
      generalize bits BinOp.xor .u32 (bits BinOp.and .u32 s.e s.f) (bits BinOp.and .u32 (bits BinOp.xor .u32 (if IntKind.u32.signed = true then -1 else IntKind.u32.max) s.e) s.g) = z2
      generalize bits BinOp.xor .u32 (bits BinOp.xor .u32 (rot s.e 6) (rot s.e 11)) (rot s.e 25) = z3
      go_wp2_with (go_at_call 85; refine (turn_at _ _ _ (by decide) (by decide)).mono ?_; rintro e w' ⟨rfl, rfl⟩)
      exact ⟨⟨k + 1, Sha.step s (k256 k) (W bs k), (by show _ = _; rw [HR.out]; rfl), by omega, by go_num, rfl, rfl, rfl, rfl, rfl, rfl, rfl, rfl, keeps_drewN hK nq, sumAt_drewN HS nq, heap_drewN HW nq⟩, by simp [intOf]; omega⟩
    · obtain rfl : k = 64 := by omega
      simp only [show ((64 : Nat) : Int) = 64 from rfl]
      go_wp2_with fail
      rw [show #[Value.int .u32 s.a, Value.int .u32 s.b, Value.int .u32 s.c, Value.int .u32 s.d, Value.int .u32 s.e, Value.int .u32 s.f, Value.int .u32 s.g, Value.int .u32 s.h] = row .u32 8 s.at from rfl]
      go_loopw [135] (fun i wr => ∃ k : Nat, k ≤ 8 ∧ i = .int .i64 (k : Int) ∧ Keeps g w wr ∧ Hid (SumAt wr g (mixTo k st s) bs size)) (fun i _ => 8 - (intOf i).toNat)
      case atStart => exact ⟨0, by omega, rfl, hK, HS⟩
      case round =>
        clear hK HS HW hk hlt
        obtain ⟨k, hk, rfl, hK, HS⟩ := hrel
        by_cases hlt : k < 8
        · have hix := index_st s.at k hlt wr
          have c0 : wr.cell? ⟨g, k, none⟩ = some (.int .u32 (st k)) := by rw [HS.out.st hlt]; simp [mixTo]
          have f0 := HS.out.fr k
          go_wp2_with fail
          go_region
          go_wp2_with fail
          go_roundw
          case rel => exact ⟨k + 1, by omega, by go_num, (by repeat (first | exact hK | refine Keeps.drew ?_ | refine Keeps.setCell ?_ _ _)), SumAt.mixStep HS.out hlt rfl⟩
          case measure => simp [intOf]; omega
        · obtain rfl : k = 8 := by omega
          simp only [show ((8 : Nat) : Int) = 8 from rfl]
          go_wp2_with fail
          refine bodyPost_end (v := .tuple #[]) (by simp [results, Try.results79, go_sem]) rfl ?_
          exact ⟨rfl, HS.out.congr (fun j hj => by simp [mixTo, hj, mixed, HR.out]) (fun _ _ => rfl), hK⟩
end Go.Proofs.Ytoihfhlelbdboab
namespace Go.Proofs.Ytoihfhlelbdboab
open Go.RowKit Go.Dig Go.Sha

/-- the bytes P lie at ao, outside block g -/
def Bytes (w : World) (g : Nat) (ao : Option Addr) (P : List Int) : Prop :=
  P ≠ [] → ∃ b o, ao = some ⟨b, o, none⟩ ∧ b ≠ g ∧ ∀ j, j < P.length → w.cell? ⟨b, o + j, none⟩ = some (.int .u8 (P.getD j 0))
def lenV : Value → Nat | .slice _ n _ => n | _ => 0

theorem Bytes.keeps {w w' : World} {g : Nat} {ao : Option Addr} {P : List Int} (h : Bytes w g ao P) (hk : Keeps g w w') : Bytes w' g ao P := fun hp => by
  obtain ⟨b, o, e, hb, hc⟩ := h hp
  refine ⟨b, o, e, hb, fun j hj => ?_⟩
  rw [hk.cell (World.block_lt_of_cell? w _ (hc j hj)) hb]; exact hc j hj

theorem set_over {w : World} {g : Nat} {st bs : Nat → Int} {size : Int} (h : SumAt w g st bs size) : ∀ (Q : List Int) (r : Nat), r + Q.length ≤ 64 → SumAt (w.setCells g (72 + r) (Q.map (Value.int .u8))) g st (over bs r Q.length Q) size := by
  intro Q
  induction Q generalizing w bs with
  | nil => intro r _; refine SumAt.congr h (fun _ _ => rfl) (fun j _ => ?_); unfold over; rw [if_neg (by simp)]
  | cons v Q ih =>
    intro r hr
    simp only [List.map_cons, World.setCells]
    simp only [List.length_cons] at hr
    have h1 : SumAt (w.setCell ⟨g, 72 + r, none⟩ (.int .u8 v)) g st (put bs r v) size := by
      unfold SumAt; rw [set_blk h, sum_put_b (by omega)]
    have := ih h1 (r + 1) (by omega)
    rw [← Nat.add_assoc] at this
    refine this.congr (fun _ _ => rfl) (fun j _ => ?_)
    unfold over put
    simp only [List.length_cons]
    by_cases e : j = r
    · subst e; rw [if_neg (by omega), if_pos rfl, if_pos (by omega)]; simp
    · by_cases e2 : r + 1 ≤ j ∧ j < r + 1 + Q.length
      · rw [if_pos e2, if_pos (by omega), show j - r = (j - (r + 1)) + 1 by omega]; simp [List.getD]
      · rw [if_neg e2, if_neg e, if_neg (by omega)]

theorem slice_bytes_l (a : Addr) (len cap : Nat) (n : Nat) (w : World) (h1 : n ≤ len) :
    (Instr.slice 67 (.slice (some a) len cap) (some (.int .i64 (n : Int))) none none).run Try.prog w = .ok (.slice (if cap = n then some a else some (a.add n)) (len - n) (cap - n)) w := by
  have hs : (sizeOf 5).run Try.prog w = .ok 1 w := by simp [go_sem]
  have he : Try.prog.elem 67 = 5 := by kernel_rfl
  rw [run_slice_l w 67 (some a) len cap (by kernel_rfl) .i64 n (by omega) (by omega), he, hs]
  simp [sliced]
theorem Bytes.drop {w : World} {g : Nat} {b o : Nat} {P : List Int} {cap n : Nat} (h : Bytes w g (some ⟨b, o, none⟩) P) (hc : P.length ≤ cap) (hn : n ≤ P.length) : Bytes w g (if cap = n then some ⟨b, o, none⟩ else some ((⟨b, o, none⟩ : Addr).add n)) (P.drop n) := fun hp => by
  have hl : n < P.length := by
    by_cases e : n < P.length
    · exact e
    · exact absurd (List.drop_eq_nil_of_le (by omega)) hp
  obtain ⟨b', o', e, hb, hcell⟩ := h (fun e => by simp [e] at hl)
  have e1 : b' = b := by injection e with e; injection e with e1 e2; exact e1.symm
  have e2 : o' = o := by injection e with e; injection e with e1 e2; exact e2.symm
  subst e1; subst e2
  refine ⟨b', o' + n, by rw [if_neg (by omega), addr_add], hb, fun j hj => ?_⟩
  simp only [List.length_drop] at hj
  rw [Nat.add_assoc, hcell (n + j) (by omega), getD_drop]
theorem u8_info : (Try.prog.info? 5).map (·.size) = some 1 := by kernel_rfl
theorem copy_bytes (g r dl dc b o len cap : Nat) (P : List Int) (n : Nat) (ty : TypeId) (w : World) (hn : n = Nat.min len dl) (hP : n ≤ P.length) (hc : ∀ j, j < P.length → w.cell? ⟨b, o + j, none⟩ = some (.int .u8 (P.getD j 0)))
    (hd : ∀ j, j < n → (w.cell? ⟨g, r + j, none⟩).isSome = true) (hf : ∀ j, j < n → w.frozen? ⟨g, r + j, none⟩ = false) :
    (Builtin.copy_ #[67, 67] ty #[.slice (some ⟨g, r, none⟩) dl dc, .slice (some ⟨b, o, none⟩) len cap]).run Try.prog w = .ok (.int .i64 (n : Int)) (w.setCells g r ((P.take n).map (Value.int .u8))) := by
  have hl : ((P.take n).map (Value.int .u8)).length = n := by simp; omega
  have := run_copy_cells (P := Try.prog) w 67 67 ty 5 g r dl dc ⟨b, o, none⟩ len cap ((P.take n).map (Value.int .u8)) (by kernel_rfl) u8_info (by rw [hl, hn]) (fun j v hj => by
      have hjl : j < n := by have := (List.getElem?_eq_some_iff.1 hj).1; rw [hl] at this; exact this
      rw [addr_add, hc j (by omega)]
      rw [← hj]
      simp [hjl, List.getD, show j < P.length by omega]) (fun j hj => hd j (by rw [hl] at hj; exact hj)) (fun j hj => hf j (by rw [hl] at hj; exact hj)) (ints_oneCell _ _)
  rw [this, hl]; rfl

theorem taken {M P : List Int} {m n : Nat} : M ++ P.take (m + n) = (M ++ P.take m) ++ (P.drop m).take n := by rw [List.take_add, List.append_assoc]
theorem taken_length {M P : List Int} {m s : Nat} (hs : s = M.length + m) (hm : m ≤ P.length) : (M ++ P.take m).length = s := by simp; omega
theorem round_full {M P : List Int} {st bs : Nat → Int} {m n s : Nat} (hs : s = M.length + m) (hm : m ≤ P.length) (h : Holds (M ++ P.take m) st bs) (hn : n ≤ P.length - m) (hf : s % 64 + n = 64) (bs2 : Nat → Int) : Holds (M ++ P.take (m + n)) (mixed st (over bs (s % 64) n (P.drop m))) bs2 := by
  have hl := taken_length hs hm
  have := holds_full (Q := P.drop m) (n := n) h (by simpa using hn) (by rw [hl]; exact hf) bs2
  rw [hl] at this; rw [taken]; exact this
theorem round_part {M P : List Int} {st bs : Nat → Int} {m n s : Nat} (hs : s = M.length + m) (hm : m ≤ P.length) (h : Holds (M ++ P.take m) st bs) (hn : n ≤ P.length - m) (hf : s % 64 + n < 64) : Holds (M ++ P.take (m + n)) st (over bs (s % 64) n (P.drop m)) := by
  have hl := taken_length hs hm
  have := holds_part (Q := P.drop m) (n := n) h (by simpa using hn) (by rw [hl]; exact hf)
  rw [hl] at this; rw [taken]; exact this
theorem SumAt.size {w : World} {g : Nat} {st bs : Nat → Int} {x y : Int} (h : SumAt w g st bs x) (e : x = y) : SumAt w g st bs y := e ▸ h

set_option maxRecDepth 10000 in
set_option maxHeartbeats 1000000 in
theorem add_any (g : Nat) (M P : List Int) (st bs : Nat → Int) (ao : Option Addr) (cap : Nat) (w : World) (h : SumAt w g st bs ((M.length : Nat) : Int)) (hh : Holds M st bs) (hb : Bytes w g ao P) (hc : P.length ≤ cap) (hz : M.length + P.length < 1099511627776) :
    Calls Try.prog 64 #[.pointer (some ⟨g, 0, none⟩), .slice ao P.length cap] w fun e w' => e = .returned (.tuple #[]) ∧ (∃ st' bs', SumAt w' g st' bs' (((M ++ P).length : Nat) : Int) ∧ Holds (M ++ P) st' bs') ∧ Keeps g w w' := by
  go_enter Try.func64, Try.ntmps64
  go_wp2_with fail
  go_loopw [1] (fun p wr => ∃ (m : Nat) (st bs : Nat → Int) (ao : Option Addr) (cap : Nat), m ≤ P.length ∧ p = .slice ao (P.length - m) cap ∧ P.length - m ≤ cap ∧ Keeps g w wr ∧ Hid (SumAt wr g st bs ((M.length + m : Nat) : Int)) ∧ Hid (Holds (M ++ P.take m) st bs) ∧ Hid (Bytes w g ao (P.drop m))) (fun p _ => lenV p)
  case atStart => exact ⟨0, st, bs, ao, cap, Nat.zero_le _, rfl, hc, Keeps.refl _ _, h, (by show Holds _ _ _; simpa using hh), hb⟩
  case round =>
    clear h hh hb hc
    obtain ⟨m, st, bs, ao, cap, hm, rfl, hc, hK, HS, HH, HB⟩ := hrel
    by_cases hlt : m < P.length
    · obtain ⟨b, o, rfl, hbg, hcell⟩ := (HB.out.keeps hK) (fun e => by have := congrArg List.length e; simp at this; omega)
      have HC : Hid (∀ j, j < (P.drop m).length → wr.cell? ⟨b, o + j, none⟩ = some (.int .u8 ((P.drop m).getD j 0))) := hcell
      clear hcell
      obtain ⟨s, hs⟩ : ∃ s, s = M.length + m := ⟨_, rfl⟩
      obtain ⟨n, hn⟩ : ∃ n, n = Nat.min (P.length - m) (64 - s % 64) := ⟨_, rfl⟩
      have hn' : n = min (P.length - m) (64 - s % 64) := hn
      have hn0 : 0 < n := by omega
      have hn1 : n ≤ P.length - m := by omega
      have hn2 : s % 64 + n ≤ 64 := by omega
      have hn3 : n < P.length - m → s % 64 + n = 64 := by omega
      have HS' : Hid (SumAt wr g st bs (s : Int)) := by rw [hs]; exact HS
      have Hs : Hid (s = M.length + m) := hs
      have hsz : s < 1099511627776 := by omega
      have c0 : wr.cell? ⟨g, 136, none⟩ = some (.int .i64 (s : Int)) := HS'.out.n
      have hsl := fun W => slice_l g 72 ((s : Int) % 64) W (by omega) (by omega)
      simp only [show ((s : Int) % 64).toNat = s % 64 from by omega] at hsl
      have hcp := fun ty => copy_bytes g (72 + s % 64) (64 - s % 64) (64 - s % 64) b o (P.length - m) cap (P.drop m) n ty wr hn (by simpa using hn1) HC.out (fun j hj => by rw [Nat.add_assoc, HS'.out.b (j := s % 64 + j) (by omega)]; rfl) (fun j hj => HS'.out.fr _)
      have hcp1 := fun ty => copy_bytes g (72 + s % 64) (64 - s % 64) (64 - s % 64) b o (P.length - m) cap (P.drop m) n ty wr.drew hn (by simpa using hn1) HC.out (fun j hj => by show (wr.cell? _).isSome = true; rw [Nat.add_assoc, HS'.out.b (j := s % 64 + j) (by omega)]; rfl) (fun j hj => HS'.out.fr _)
      obtain ⟨cs, hcs⟩ : ∃ cs, cs = ((P.drop m).take n).map (Value.int .u8) := ⟨_, rfl⟩
      rw [← hcs] at hcp hcp1
      have hS1 : SumAt (wr.drew.setCells g (72 + s % 64) cs) g st (over bs (s % 64) n (P.drop m)) (s : Int) := by
        have hl : ((P.drop m).take n).length = n := by simp; omega
        have := set_over (w := wr.drew) HS'.out ((P.drop m).take n) (s % 64) (by rw [hl]; omega)
        rw [hl, ← hcs] at this
        refine this.congr (fun _ _ => rfl) (fun j hj => ?_)
        unfold over
        by_cases e : s % 64 ≤ j ∧ j < s % 64 + n
        · rw [if_pos e, if_pos e, getD_take (by omega)]
        · rw [if_neg e, if_neg e]
      have hK1 : Keeps g w (wr.drew.setCells g (72 + s % 64) cs) := Keeps.setCells _ _ hK.drew
      have HS1 : Hid (SumAt (wr.drew.setCells g (72 + s % 64) cs) g st (over bs (s % 64) n (P.drop m)) (s : Int)) := hS1
      clear hn hn' hs HS hS1 hcs HS'
      have hsl2 := fun W => slice_bytes_l ⟨b, o, none⟩ (P.length - m) cap n W hn1
      have hB2 : Bytes w g (if cap = n then some ⟨b, o, none⟩ else some ((⟨b, o, none⟩ : Addr).add n)) (P.drop (m + n)) := by
        have := Bytes.drop (n := n) HB.out (by simpa using hc) (by simpa using hn1)
        rw [List.drop_drop] at this; exact this
      have HB2 : Hid (Bytes w g (if cap = n then some ⟨b, o, none⟩ else some ((⟨b, o, none⟩ : Addr).add n)) (P.drop (m + n))) := hB2
      clear hB2
      generalize (if cap = n then some (⟨b, o, none⟩ : Addr) else some ((⟨b, o, none⟩ : Addr).add n)) = ao2 at *
      have hsl3 : ∀ W : World, (Instr.sliceAt 67 (.slice (some ⟨b, o, none⟩) (P.length - m) cap) (some (.int .i64 (n : Int))) none none).run Try.prog W = .ok (.slice ao2 (P.length - m - n) (cap - n)) W := fun W => by
        rw [run_sliceAt_slice _ _ _ _ _ _ (by kernel_rfl)]; exact hsl2 W
      clear HB HC
      go_wp2_with fail
      go_region
      generalize wr.drew.setCells g (72 + s % 64) cs = w1 at *
      have c1 : w1.cell? ⟨g, 136, none⟩ = some (.int .i64 (s : Int)) := HS1.out.n
      have f1 := HS1.out.fr 136
      by_cases hfull : s % 64 + n = 64
      · have ht : ((s : Int) + (n : Int)) % 64 = 0 := by omega
        clear hcp hcp1 c0 hsl
        go_wp2_with fail
        have h2 : SumAt (w1.setCell ⟨g, 136, none⟩ (.int .i64 ((s : Int) + (n : Int)))) g st (over bs (s % 64) n (P.drop m)) ((s : Int) + (n : Int)) := HS1.out.setN _ rfl
        refine (mix_any g _ _ _ _ h2).mono ?_
        rintro e w2 ⟨rfl, h3, hk3⟩
        have hK3 := (hK1.setCell 136 (.int .i64 ((s : Int) + (n : Int)))).trans hk3
        have H3 : Hid (SumAt w2 g (mixed st (over bs (s % 64) n (P.drop m))) (over bs (s % 64) n (P.drop m)) ((s : Int) + (n : Int))) := h3
        clear h2 h3 hk3
        go_wp2_with fail
        exact ⟨⟨m + n, _, _, ao2, cap - n, by omega, by rw [Nat.sub_sub], by omega, hK3, H3.out.size (by rw [Hs.out]; omega), round_full Hs.out hm HH.out hn1 hfull _, HB2⟩, by simp only [lenV]; omega⟩
      · have ht : ¬ (((s : Int) + (n : Int)) % 64 = 0) := by omega
        clear hcp hcp1 c0 hsl
        have h2 : SumAt (w1.setCell ⟨g, 136, none⟩ (.int .i64 ((s : Int) + (n : Int)))) g st (over bs (s % 64) n (P.drop m)) ((s : Int) + (n : Int)) := HS1.out.setN _ rfl
        have H2 : Hid (SumAt (w1.setCell ⟨g, 136, none⟩ (.int .i64 ((s : Int) + (n : Int)))) g st (over bs (s % 64) n (P.drop m)) ((s : Int) + (n : Int))) := h2
        clear h2
        go_wp2_with fail
        exact ⟨⟨m + n, _, _, ao2, cap - n, by omega, by rw [Nat.sub_sub], by omega, hK1.setCell 136 _, H2.out.size (by rw [Hs.out]; omega), round_part Hs.out hm HH.out hn1 (by omega), HB2⟩, by simp only [lenV]; omega⟩
    · obtain rfl : m = P.length := by omega
      simp only [Nat.sub_self]
      go_wp2_with fail
      refine bodyPost_end (v := .tuple #[]) (by simp [results, Try.results64, go_sem]) rfl ?_
      refine ⟨rfl, ⟨st, bs, HS.out.size (by simp), ?_⟩, hK⟩
      have := HH.out
      rw [List.take_length] at this; exact this
end Go.Proofs.Ytoihfhlelbdboab
namespace Go.Proofs.Ytoihfhlelbdboab
open Go.RowKit Go.Dig Go.Sha

theorem info_u8 : (Try.prog.info? 5).map (fun i => (i.zero, i.size, i.bytes)) = some (some (.int .u8 0), 1, 1) := by kernel_rfl
theorem lenB_shift (n : Nat) (k : Nat) (s : Int) (hs : s = 56 - 8 * (k : Int)) (hk : k ≤ 7) : (n : Int) * 8 / 2 ^ s.toNat % 256 = lenB n k := by
  unfold lenB; rw [show s.toNat = 56 - 8 * k by omega]

set_option maxRecDepth 10000 in
set_option maxHeartbeats 1000000 in
theorem ending_any (n : Nat) (w : World) (hz : n < 1099511627776) :
    Calls Try.prog 65 #[.int .i64 (n : Int)] w fun e w' => ∃ g cap, e = .returned (.slice (some ⟨g, 0, none⟩) (pad n).length cap) ∧ (pad n).length ≤ cap ∧ w.heap.size ≤ g ∧ (∀ j, j < (pad n).length → w'.cell? ⟨g, j, none⟩ = some (.int .u8 ((pad n).getD j 0))) ∧ Below w.heap.size w w' := by
  obtain ⟨i8, hi, hz0, hz1, hz2⟩ := info_parts info_u8
  have HI : Hid (Try.prog.info? 5 = some i8) := hi
  clear hi
  obtain ⟨d, hd⟩ : ∃ d, d = gap n := ⟨_, rfl⟩
  have hgp := gap_pos n
  have hd1 : 64 - ((n : Int) + 8) % 64 = (d : Int) := by rw [hd]; unfold gap; omega
  have hd2 : 0 < d ∧ d ≤ 64 := by rw [hd]; exact hgp
  have HD : Hid (d = gap n) := hd
  clear hd hgp
  have h0 := alloc_blk w (.cells (row .u8 (d + 8) (fun _ => 0)) 5)
  have c0 : (w.alloc (.cells (row .u8 (d + 8) (fun _ => 0)) 5)).cell? ⟨w.heap.size, 0, none⟩ = some (.int .u8 0) := (cell_blk h0 0).trans (row_get (by omega))
  have f0 : (w.alloc (.cells (row .u8 (d + 8) (fun _ => 0)) 5)).frozen? ⟨w.heap.size, 0, none⟩ = false := frozen_blk h0 0
  have hown : (w.alloc (.cells ((row .u8 (d + 8) (fun _ => 0)).setIfInBounds 0 (.int .u8 128)) 5)).ownsRow w.heap.size 5 1 (.slice (some ⟨w.heap.size, 0, none⟩) (d + 0) (d + 8)) (d + 0) ((padTo n 0).map (Value.int .u8)) := by
    refine ⟨by rw [List.length_map, padTo_length, HD.out, Nat.mul_one], .inr ⟨w.heap.size, d + 8, row .u8 (d + 8) (put (fun _ => 0) 0 128), rfl, Nat.le_refl _, (by rw [alloc_blk, row_set]), by omega, by unfold maxLen; omega, by rw [row_size, Nat.mul_one], ?_⟩⟩
    rw [row_list]
    apply List.ext_getElem?
    intro j
    by_cases hj : j < d
    · rw [List.getElem?_take_of_lt (by omega)]
      cases j with
      | zero => simp [padTo, put, show 0 < d + 8 by omega]
      | succ j =>
        simp only [padTo, lens, List.range_zero, List.map_nil, List.append_nil, List.map_cons, List.getElem?_cons_succ, List.map_replicate]
        rw [List.getElem?_replicate, if_pos (by rw [← HD.out]; omega)]
        simp [put, show j + 1 < d + 8 by omega]
    · rw [List.getElem?_eq_none (by simp; omega), List.getElem?_eq_none (by rw [List.length_map, padTo_length, ← HD.out]; omega)]
  have hB0 : Below w.heap.size w (w.alloc (.cells ((row .u8 (d + 8) (fun _ => 0)).setIfInBounds 0 (.int .u8 128)) 5)) := (Below.refl _ _).alloc (Nat.le_refl _) _
  have HO : Hid ((w.alloc (.cells ((row .u8 (d + 8) (fun _ => 0)).setIfInBounds 0 (.int .u8 128)) 5)).ownsRow w.heap.size 5 1 (.slice (some ⟨w.heap.size, 0, none⟩) (d + 0) (d + 8)) (d + 0) ((padTo n 0).map (Value.int .u8))) := hown
  clear h0 hown
  go_enter Try.func65, Try.ntmps65
  go_wp2_with (at_make; refine wpList_make_num rfl _ _ 67 rfl 5 i8 .u8 (by kernel_rfl) HI.out hz0 hz1 .i64 .i64 _ _ d (d + 8) rfl rfl rfl (by omega) (by omega) (by rw [hz2]; omega) (by omega) ?_)
  go_loopw [4, 6] (fun v i wr => ∃ k : Nat, k ≤ 8 ∧ v = .slice (some ⟨w.heap.size, 0, none⟩) (d + k) (d + 8) ∧ i = .int .i64 (56 - 8 * (k : Int)) ∧ Below w.heap.size w wr ∧ Hid (wr.ownsRow w.heap.size 5 1 (.slice (some ⟨w.heap.size, 0, none⟩) (d + k) (d + 8)) (d + k) ((padTo n k).map (Value.int .u8)))) (fun _ i _ => (intOf i + 8).toNat)
  case atStart => exact ⟨0, by omega, rfl, rfl, hB0, HO⟩
  case round =>
    clear HO hB0 c0 f0
    obtain ⟨k, hk, rfl, rfl, hB, HO⟩ := hrel
    by_cases hlt : k < 8
    · have hle : 0 ≤ 56 - 8 * (k : Int) := by omega
      have hlen := lenB_shift n k (56 - 8 * (k : Int)) rfl (by omega)
      rw [show (56 - 8 * (k : Int)).toNat = 56 - 8 * k by omega] at hlen
      go_wp2_with (at_builtin; refine wpList_append_fits _ rfl _ _ 67 rfl w.heap.size 5 i8 1 (by kernel_rfl) HI.out hz1 w.heap.size (d + k) (d + 8) _ rfl (World.ownsRow.alloc HO.out _) ⟨wr.heap.size, 0, none⟩ 1 1 [.int .u8 (lenB n k)] rfl rfl (fun j u hu => ?_) (by simp [Value.oneCell']) (by omega) ?_)
      · obtain rfl : j = 0 := by have := (List.getElem?_eq_some_iff.1 hu).1; simp at this; exact this
        rw [addr_add, cell_blk (alloc_blk _ _)]
        exact hu
      · intro w1 hown hgr
        have hB1 : Below w.heap.size w w1 := (hB.alloc hB.size _).grown hgr (by simp; exact Nat.le_succ_of_le hB.size) (fun k hk => by cases hk; exact Nat.le_refl _)
        have HO1 : Hid (w1.ownsRow w.heap.size 5 1 (.slice (some ⟨w.heap.size, 0, none⟩) (d + k + 1) (d + 8)) (d + k + 1) ((padTo n (k + 1)).map (Value.int .u8))) := by
          rw [padTo_succ, List.map_append]; exact hown
        clear hown hgr
        go_wp2_with fail
        exact ⟨⟨k + 1, by omega, rfl, by rw [show (56 - 8 * ((k + 1 : Nat) : Int)) = 56 - 8 * (k : Int) - 8 by omega], hB1, HO1⟩, by simp only [intOf]; omega⟩
    · obtain rfl : k = 8 := by omega
      go_wp2_with fail
      go_ret
      refine ⟨w.heap.size, d + 8, by rw [pad, padTo_length, HD.out]; rfl, by rw [pad, padTo_length, HD.out]; omega, Nat.le_refl _, fun j hj => ?_, hB⟩
      rw [pad, padTo_length, ← HD.out] at hj
      rw [World.ownsRow.cellAt HO.out j (by omega)]
      rw [pad, List.getElem?_map, List.getD, List.getElem?_eq_getElem (by rw [padTo_length, ← HD.out]; omega)]
      rfl
end Go.Proofs.Ytoihfhlelbdboab
namespace Go.Proofs.Ytoihfhlelbdboab
open Go.RowKit Go.Dig Go.Sha

/-- the bytes P lie at ao -/
def Lies (w : World) (ao : Option Addr) (P : List Int) : Prop :=
  P ≠ [] → ∃ b o, ao = some ⟨b, o, none⟩ ∧ ∀ j, j < P.length → w.cell? ⟨b, o + j, none⟩ = some (.int .u8 (P.getD j 0))
theorem Lies.bytes {w w' : World} {B : Nat} {ao : Option Addr} {P : List Int} (h : Lies w ao P) (hB : Below B w w') (hl : w.heap.size ≤ B) {g : Nat} (hg : w.heap.size ≤ g) : Bytes w' g ao P := fun hp => by
  obtain ⟨b, o, e, hc⟩ := h hp
  have hlt : b < w.heap.size := by
    have h0 := hc 0 (by cases P with | nil => exact absurd rfl hp | cons _ _ => simp)
    exact World.block_lt_of_cell? w _ h0
  refine ⟨b, o, e, by omega, fun j hj => ?_⟩
  rw [hB.cell (by show b < B; omega)]; exact hc j hj
theorem Lies.below {w w' : World} {B : Nat} {ao : Option Addr} {P : List Int} (h : Lies w ao P) (hB : Below B w w') (hl : w.heap.size ≤ B) : Lies w' ao P := fun hp => by
  obtain ⟨b, o, e, hc⟩ := h hp
  refine ⟨b, o, e, fun j hj => ?_⟩
  rw [hB.cell (by show b < B; have := World.block_lt_of_cell? w _ (hc j hj); simp at this; omega)]; exact hc j hj

theorem below_setRow {B : Nat} {a w : World} (h : Below B a w) {g : Nat} (hg : B ≤ g) (c : Array Value) : Below B a (w.setRow g c) :=
  h.trans ⟨rfl, rfl, rfl, by simp [World.setRow], fun k hk => by simp only [World.setRow, Array.getElem?_modify]; rw [if_neg (by omega)]⟩
theorem setRow_at {w : World} {g : Nat} {c : Array Value} {t : TypeId} {fr : Nat × Nat} (h : w.heap[g]? = some (.cells c t fr)) (c' : Array Value) : (w.setRow g c').heap[g]? = some (.cells c' t fr) := setRow_heap w g c c' t fr h

/-- rows of bytes: where each lies, its room, its bytes -/
abbrev Rws := List (Option Addr × Nat × List Int)
def cat (R : Rws) : List Int := R.flatMap (·.2.2)
theorem cat_take {R : Rws} {k : Nat} (h : k < R.length) : cat (R.take (k + 1)) = cat (R.take k) ++ (R[k]).2.2 := by
  unfold cat
  rw [List.take_succ_eq_append_getElem h, List.flatMap_append]
  simp
theorem cat_le {R : Rws} {k : Nat} : (cat (R.take k)).length ≤ (cat R).length := by
  have : cat R = cat (R.take k) ++ cat (R.drop k) := by unfold cat; rw [← List.flatMap_append, List.take_append_drop]
  rw [this, List.length_append]; omega

set_option maxRecDepth 10000 in
set_option maxHeartbeats 1000000 in
theorem sumRows_any (R : Rws) (rb cap : Nat) (w : World) (hc : ∀ j (hj : j < R.length), w.cell? ⟨rb, j, none⟩ = some (.slice (R[j]).1 (R[j]).2.2.length (R[j]).2.1)) (hl : ∀ x ∈ R, Lies w x.1 x.2.2 ∧ x.2.2.length ≤ x.2.1) (hz : (cat R).length < 549755813888) (hn : R.length < 1000) :
    Calls Try.prog 43 #[.slice (some ⟨rb, 0, none⟩) R.length cap] w fun e w' => e = .returned (.agg (row .u8 32 (sha (cat R)))) ∧ Below w.heap.size w w' := by
  have HZ : Hid ((Try.prog.info? 44).map (·.zero) = some (some (.agg (row .u8 32 (fun _ => 0))))) := zero_hash
  have HC : Hid (∀ j (hj : j < R.length), w.cell? ⟨rb, j, none⟩ = some (.slice (R[j]).1 (R[j]).2.2.length (R[j]).2.1)) := hc
  have HL : Hid (∀ x ∈ R, Lies w x.1 x.2.2 ∧ x.2.2.length ≤ x.2.1) := hl
  clear hc hl
  go_enter Try.func43, Try.ntmps43
  go_wp2_with (first | refine wpList_alloc_row rfl 44 rfl _ HZ.out ?_ | fail)
  refine (newSumming_any _).mono ?_
  rintro e w1 ⟨g, rfl, hg, hS, hB⟩
  have hB0 : Below w.heap.size w w1 := ((Below.refl _ _).alloc (Nat.le_refl _) _).trans (hB.mono (by simp))
  have hr : w1.heap[w.heap.size]? = some (.cells (row .u8 32 (fun _ => 0)) 44 (0, 0)) := Below.blk hB (by simp) (alloc_blk _ _)
  have hg' : w.heap.size < g := by simp at hg; omega
  have HS : Hid (SumAt w1 g ini (fun _ => 0) 0) := hS
  have HR : Hid (w1.heap[w.heap.size]? = some (.cells (row .u8 32 (fun _ => 0)) 44 (0, 0))) := hr
  clear hS hB hg hr
  go_wp2_with fail
  go_loopw [9] (fun i wr => ∃ (k : Nat) (st bs : Nat → Int), k ≤ R.length ∧ i = .int .i64 (k : Int) ∧ Below w.heap.size w wr ∧ Hid (SumAt wr g st bs (((cat (R.take k)).length : Nat) : Int)) ∧ Hid (Holds (cat (R.take k)) st bs) ∧ Hid (wr.heap[w.heap.size]? = some (.cells (row .u8 32 (fun _ => 0)) 44 (0, 0)))) (fun i _ => R.length - (intOf i).toNat)
  case atStart => exact ⟨0, ini, _, Nat.zero_le _, rfl, hB0, HS, holds_start, HR⟩
  case round =>
    clear hB0 HS HR
    obtain ⟨k, st, bs, hk, rfl, hB, HS, HH, HR⟩ := hrel
    by_cases hlt : k < R.length
    · obtain ⟨x, hx⟩ : ∃ x, x = R[k] := ⟨_, rfl⟩
      have c0 : wr.cell? ⟨rb, k, none⟩ = some (.slice x.1 x.2.2.length x.2.1) := by
        rw [hx]
        exact (hB.cell (World.block_lt_of_cell? w _ (HC.out k hlt))).trans (HC.out k hlt)
      have hmem : x ∈ R := by rw [hx]; exact List.getElem_mem hlt
      have hcl := cat_le (R := R) (k := k + 1)
      rw [cat_take hlt, ← hx, List.length_append] at hcl
      have HX : Hid (x = R[k]) := hx
      clear hx
      go_wp2_with fail
      refine (add_any g (cat (R.take k)) x.2.2 st bs x.1 x.2.1 wr HS.out HH.out ((HL.out x hmem).1.bytes hB (Nat.le_refl _) (by omega)) (HL.out x hmem).2 (by omega)).mono ?_
      rintro e w2 ⟨rfl, ⟨st2, bs2, hS2, hH2⟩, hK2⟩
      rw [HX.out, ← cat_take hlt] at hS2 hH2
      have hB2 : Below w.heap.size w w2 := hB.trans (hK2.below (by omega) hB.size)
      have HR2 : Hid (w2.heap[w.heap.size]? = some (.cells (row .u8 32 (fun _ => 0)) 44 (0, 0))) := (hK2.block _ (lt_blk HR.out) (by omega)).trans HR.out
      have HS2 : Hid (SumAt w2 g st2 bs2 (((cat (R.take (k + 1))).length : Nat) : Int)) := hS2
      have HH2 : Hid (Holds (cat (R.take (k + 1))) st2 bs2) := hH2
      clear hS2 hH2 hK2 hcl
      go_wp2_with fail
      exact ⟨⟨k + 1, st2, bs2, by omega, by go_num, hB2, HS2, HH2, HR2⟩, by simp only [intOf]; omega⟩
    · obtain rfl : k = R.length := by omega
      rw [List.take_length] at HS HH
      have c0 : wr.cell? ⟨g, 136, none⟩ = some (.int .i64 (((cat R).length : Nat) : Int)) := HS.out.n
      go_wp2_with fail
      refine (ending_any (cat R).length wr (by omega)).mono ?_
      rintro e w2 ⟨pg, pc, rfl, hpc, hpg, hcell, hB2⟩
      have hgw := HS.out.lt
      have hS2 := HS.out.below hB2 hgw
      have HR2 : Hid (w2.heap[w.heap.size]? = some (.cells (row .u8 32 (fun _ => 0)) 44 (0, 0))) := Below.blk hB2 (lt_blk HR.out) HR.out
      have HC2 : Hid (∀ j, j < (pad (cat R).length).length → w2.cell? ⟨pg, j, none⟩ = some (.int .u8 ((pad (cat R).length).getD j 0))) := hcell
      have HS2 : Hid (SumAt w2 g st bs (((cat R).length : Nat) : Int)) := hS2
      have hBB : Below w.heap.size w w2 := hB.trans (hB2.mono hB.size)
      have hpl := gap_pos (cat R).length
      have hpad : (pad (cat R).length).length = gap (cat R).length + 8 := padTo_length _ 8
      have Hpad : Hid ((pad (cat R).length).length = gap (cat R).length + 8) := hpad
      have hple : (pad (cat R).length).length ≤ 72 := by omega
      clear hcell hS2 hB2 HR HS hpad hpl c0
      go_wp2_with fail
      refine (add_any g (cat R) (pad (cat R).length) st bs (some ⟨pg, 0, none⟩) pc w2 HS2.out HH.out (fun _ => ⟨pg, 0, rfl, by omega, fun j hj => by rw [Nat.zero_add]; exact HC2.out j hj⟩) hpc (by omega)).mono ?_
      rintro e w3 ⟨rfl, ⟨st3, bs3, hS3, hH3⟩, hK3⟩
      have hst : st3 = states (padded (cat R)) ((padded (cat R)).length / 64) := hH3.1
      have HT : Hid (st3 = states (padded (cat R)) ((padded (cat R)).length / 64)) := hst
      have HR3 : Hid (w3.heap[w.heap.size]? = some (.cells (row .u8 32 (fun _ => 0)) 44 (0, 0))) := (hK3.block _ (lt_blk HR2.out) (by omega)).trans HR2.out
      have HS3 : Hid (SumAt w3 g st3 bs3 (((cat R ++ pad (cat R).length).length : Nat) : Int)) := hS3
      have hBB3 : Below w.heap.size w w3 := hBB.trans (hK3.below (by omega) hBB.size)
      clear hst hH3 hS3 hK3 hBB HR2 HS2 HC2 HH
      go_wp2_with fail
      refine (hash_any g st3 bs3 _ w3 HS3.out).mono ?_
      rintro e w4 ⟨rfl, hB4⟩
      have HR4 : Hid (w4.heap[w.heap.size]? = some (.cells (row .u8 32 (fun _ => 0)) 44 (0, 0))) := Below.blk hB4 (lt_blk HR3.out) HR3.out
      have hBB4 : Below w.heap.size w w4 := hBB3.trans (hB4.mono hBB3.size)
      clear hB4 HR3 HS3 hBB3
      go_wp2_with (refine wpList_store_blk rfl 44 _ _ rfl w.heap.size _ rfl rfl _ _ HR4.out (row_info size_hash _) (by rw [row_size, row_size]) (row_all _ _ _) ?_)
      refine bodyPost_ret (v := .agg (row .u8 32 (sha (cat R)))) ?_ rfl ⟨rfl, below_setRow hBB4 (Nat.le_refl _) _⟩
      rw [show sha (cat R) = hashOf st3 by rw [HT.out]; rfl]
      exact results_cell_row rfl _ _ w.heap.size _ _ _ (.array 32 5) rfl (setRow_at HR4.out _) (by kernel_rfl) rfl (row_info size_hash _)
end Go.Proofs.Ytoihfhlelbdboab
