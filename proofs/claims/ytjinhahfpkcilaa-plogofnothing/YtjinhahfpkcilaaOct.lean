/- Numbers as bytes: the pure side of chapter 1. -/
import Derived.Test.YtjinhahfpkcilaaDigRow
namespace Go.Oct

/-- a number's bytes, the lowest seven digits first, with fuel -/
def numA : Nat → Nat → List Int
  | 0, n => [(n : Int)]
  | f + 1, n => if n < 128 then [(n : Int)] else ((n % 128 + 128 : Nat) : Int) :: numA f (n / 128)
def cutN (z : Int) : Nat := (min (max z 0) 4611686018427387904).toNat
def num (z : Int) : List Int := numA 8 (cutN z)
def nums (l : List Int) : List Int := l.flatMap num
theorem numA_small {n : Nat} (h : n < 128) (f : Nat) : numA f n = [(n : Int)] := by cases f <;> simp [numA, h]
theorem numA_big {n : Nat} (h : ¬ n < 128) (f : Nat) : numA (f + 1) n = ((n % 128 + 128 : Nat) : Int) :: numA f (n / 128) := by simp [numA, h]
theorem numA_length : ∀ f n, (numA f n).length ≤ f + 1
  | 0, n => by simp [numA]
  | f + 1, n => by
    unfold numA
    split
    · simp
    · have := numA_length f (n / 128); simp; omega
theorem num_length (z : Int) : (num z).length ≤ 9 := numA_length 8 _
theorem cutN_le (z : Int) : cutN z ≤ 4611686018427387904 := by unfold cutN; omega
theorem cutN_int (z : Int) : ((cutN z : Nat) : Int) = min (max z 0) 4611686018427387904 := by unfold cutN; omega
theorem nums_nil : nums [] = [] := rfl
theorem nums_cons (x : Int) (l : List Int) : nums (x :: l) = num x ++ nums l := by simp [nums]
theorem nums_append (a b : List Int) : nums (a ++ b) = nums a ++ nums b := by simp [nums]
theorem nums_length (l : List Int) : (nums l).length ≤ 9 * l.length := by
  induction l with
  | nil => simp [nums]
  | cons x t ih => rw [nums_cons, List.length_append, List.length_cons]; have := num_length x; omega
theorem nums_take_succ {l : List Int} {k : Nat} (h : k < l.length) : nums (l.take (k + 1)) = nums (l.take k) ++ num (l.getD k 0) := by
  rw [List.take_add_one, List.getElem?_eq_getElem h, nums_append]
  simp [nums, List.getD, h]
end Go.Oct
