/- What the reference seals of a message: Body. For messages of up to 2^37 bytes and 2^30 votes. -/
import Derived.Test.YtkjocpadmlobgabRefV
namespace Go.Proofs.Ytkjocpadmlobgab
open Go.RowKit Go.Dig Go.Inv Go.Oct

theorem numsAt_five (w : World) (a b c d e : Int) (t : TypeId) : NumsAt (w.alloc (.cells #[.int .i64 a, .int .i64 b, .int .i64 c, .int .i64 d, .int .i64 e] t)) w.heap.size 0 [a, b, c, d, e] := fun j hj => by
  rw [cell_blk (alloc_blk _ _), Nat.zero_add]
  match j, hj with
  | 0, _ => rfl
  | 1, _ => rfl
  | 2, _ => rfl
  | 3, _ => rfl
  | 4, _ => rfl
theorem i64_five {a b c d e : Int} (ha : inI a) (hb : inI b) (hc : inI c) (hd : inI d) (he : inI e) : I64 [a, b, c, d, e] := fun j hj => by
  match j, hj with
  | 0, _ => exact ha
  | 1, _ => exact hb
  | 2, _ => exact hc
  | 3, _ => exact hd
  | 4, _ => exact he
theorem MsgAt.of {w w' : World} {m : MsgR} {P : List Int} {ys : List VoteR} (h : MsgAt w m P ys) (hs : ∀ k, k < w.heap.size → w'.heap[k]? = w.heap[k]?) : MsgAt w' m P ys := by
  refine { h with val := ?_, vot := fun hp => ?_ }
  · rcases h.val with hv | ⟨ad, e, hc⟩
    · exact .inl hv
    · exact .inr ⟨ad, e, fun j hj => (World.cell?_of_block (hs _ (World.block_lt_of_cell? w _ (hc j hj)))).trans (hc j hj)⟩
  · obtain ⟨b, o, e, hc⟩ := h.vot hp
    refine ⟨b, o, e, fun j hj i hi => ?_⟩
    have h0 := hc j hj 0 (by omega)
    rw [VoteR.at0] at h0
    exact (hc j hj).same (hs b (World.block_lt_of_cell? w _ h0)) i hi
end Go.Proofs.Ytkjocpadmlobgab
