/- The reference's bytes of rows and votes, and what it seals of a message: Bytes, votes, Body. For rows of up to 2^37 bytes and 2^30 votes. -/
import Derived.Test.YtkjocpadmlobgabInv6
namespace Go.Proofs.Ytkjocpadmlobgab
open Go.RowKit Go.Dig Go.Inv Go.Oct

theorem i64_three {a b c : Int} (ha : inI a) (hb : inI b) (hc : inI c) : I64 [a, b, c] := fun j hj => by
  match j, hj with
  | 0, _ => exact ha
  | 1, _ => exact hb
  | 2, _ => exact hc
theorem numsAt_three (w : World) (a b c : Int) (t : TypeId) : NumsAt (w.alloc (.cells #[.int .i64 a, .int .i64 b, .int .i64 c] t)) w.heap.size 0 [a, b, c] := fun j hj => by
  rw [cell_blk (alloc_blk _ _), Nat.zero_add]
  match j, hj with
  | 0, _ => rfl
  | 1, _ => rfl
  | 2, _ => rfl
end Go.Proofs.Ytkjocpadmlobgab
