/- wire: what is sealed of a vote and of a message (VoteBody, Body). For messages of at most 2^37 bytes and 2^30 votes. -/
import Derived.Test.YtkjocpadmlobgabWireE
namespace Go.Proofs.Ytkjocpadmlobgab
open Go.RowKit Go.Dig Go.Inv Go.Oct

/-- what is sealed of a vote -/
def vbody (x : VoteR) : List Int := num 5 ++ sealedL x
theorem vbody_length (x : VoteR) : (vbody x).length ≤ 77 := by
  have := sealedL_length x
  have := num_length 5
  unfold vbody
  rw [List.length_append]; omega
/-- what is sealed of a message -/
def bodyL (m : MsgR) (P : List Int) (ys : List VoteR) : List Int := nums [4, m.k, m.f, m.s, m.v] ++ num P.length ++ P ++ num ys.length ++ ys.flatMap voteL
theorem bodyL_length (m : MsgR) (P : List Int) (ys : List VoteR) : (bodyL m P ys).length ≤ P.length + 100 * ys.length + 100 := by
  have h1 := nums_length [4, m.k, m.f, m.s, m.v]
  have h2 := num_length P.length
  have h3 := num_length ys.length
  have h4 := flat_length ys
  unfold bodyL
  simp only [List.length_append]
  simp at h1
  omega
end Go.Proofs.Ytkjocpadmlobgab
