/- The reference's numbers as bytes, and what it seals of a vote: Num, Nums, VoteBody. For every number and vote. -/
import Derived.Test.YtkjocpadmlobgabWireC
import Derived.Test.YtkjocpadmlobgabWireV
import Derived.Test.YtkjocpadmlobgabInv4
import Derived.Laws.Bits64b
namespace Go.Proofs.Ytkjocpadmlobgab
open Go.RowKit Go.Dig Go.Inv Go.Oct

theorem u64_and127 (m : Nat) (h : m < 18446744073709551616) : bits .and .u64 (m : Int) 127 = (m : Int) % 128 := by
  have h2 := bits_and_u64_nat m 127 h (by omega)
  rw [show (127 : Nat) = 2 ^ 7 - 1 from rfl, Nat.and_two_pow_sub_one_eq_mod] at h2
  rw [show ((2 ^ 7 - 1 : Nat) : Int) = 127 from rfl] at h2
  rw [h2]; omega
/-- what the first line of VoteBody leaves, operation by operation -/
def rvbSpec (b base : Nat) (x : VoteR) : Nat → Value → World → Prop
  | 0, y, _ => y = .pointer (some ⟨b, 0, none⟩)
  | 1, y, _ => y = .int .i64 x.k
  | 2, y, _ => y = .pointer (some ⟨b, 1, none⟩)
  | 3, y, _ => y = .int .i64 x.s
  | 4, y, _ => y = .pointer (some ⟨b, 2, none⟩)
  | 5, y, _ => y = .int .i64 x.v
  | 6, y, W => ∃ g, y = .slice (some ⟨g, 0, none⟩) 4 4 ∧ NumsAt W g 0 [5, x.k, x.s, x.v]
  | 7, y, W => OwnB W base y (nums [5, x.k, x.s, x.v])
  | 8, y, _ => y = .pointer (some ⟨b, 3, none⟩)
  | 9, y, _ => y = .slice (some ⟨b, 3, none⟩) 32 32
  | _, _, _ => True
theorem NumsAt.below {w w' : World} {sb so : Nat} {vs : List Int} (h : NumsAt w sb so vs) (hB : Below w.heap.size w w') : NumsAt w' sb so vs := fun j hj => (World.cell?_of_block (hB.block sb (World.block_lt_of_cell? w _ (h j hj)))).trans (h j hj)
theorem numsAt_new (w : World) (a b c d : Int) (t : TypeId) : NumsAt (w.alloc (.cells #[.int .i64 a, .int .i64 b, .int .i64 c, .int .i64 d] t)) w.heap.size 0 [a, b, c, d] := fun j hj => by
  rw [cell_blk (alloc_blk _ _), Nat.zero_add]
  match j, hj with
  | 0, _ => rfl
  | 1, _ => rfl
  | 2, _ => rfl
  | 3, _ => rfl
theorem i64_four {a b c d : Int} (ha : inI a) (hb : inI b) (hc : inI c) (hd : inI d) : I64 [a, b, c, d] := fun j hj => by
  match j, hj with
  | 0, _ => exact ha
  | 1, _ => exact hb
  | 2, _ => exact hc
  | 3, _ => exact hd
theorem OwnB.below {w w' : World} {base : Nat} {v : Value} {L : List Int} (h : OwnB w base v L) (hB : Below w.heap.size w w') : OwnB w' base v L := h.same fun k hk => hB.block k (h.lt k hk).2
section
variable {o : Oper} {a : Act} {w : World} {Q : Exit → Act → World → Prop} {K : Act → World → Prop}
theorem wp_app (s x : Operand) (ho : o.op = .call { callee := .builtin .append, args := #[s, x], argTypes := #[25, 25] }) (base : Nat) (v : Value) (L : List Int) (hs : a.eval s = v) (hown : OwnB w base v L)
    (ad : Addr) (m c : Nat) (N : List Int) (hx : a.eval x = .slice (some ad) m c) (hm : m = N.length) (hN : ∀ j, j < N.length → w.cell? (ad.add j) = some (.int .u8 (N.getD j 0))) (hb : L.length + m < 2199023255552) (hbase : base ≤ w.heap.size)
    (h : ∀ v' w', OwnB w' base v' (L ++ N) → Gr w w' v v' → K (a.put o.dst v') w') : o.wp Try.prog a w K Q := by
  obtain ⟨v', w', hrun, h1, h2⟩ := run_app w base o.type v L hown ad m c N hm hN hb hbase
  unfold Oper.wp
  simp [execOp, ho, resolve, invoke, builtin, hs, hx, hrun, Result.andThen]
  exact h v' w' h1 h2
end
end Go.Proofs.Ytkjocpadmlobgab
