/- What EncodeOp's walk wants of rows: they lie on where nothing of what lay turns. -/
import Derived.Test.YtoihfhlelbdboabWireI
import Derived.Test.YtoihfhlelbdboabInv4
namespace Go.Proofs.Ytoihfhlelbdboab
open Go.RowKit Go.Dig Go.Inv Go.Oct
theorem NumsAt.below {w w' : World} {sb so : Nat} {vs : List Int} (h : NumsAt w sb so vs) (hB : Below w.heap.size w w') : NumsAt w' sb so vs := fun j hj => (World.cell?_of_block (hB.block sb (World.block_lt_of_cell? w _ (h j hj)))).trans (h j hj)
theorem OwnB.below {w w' : World} {base : Nat} {v : Value} {L : List Int} (h : OwnB w base v L) (hB : Below w.heap.size w w') : OwnB w' base v L := h.same fun k hk => hB.block k (h.lt k hk).2
end Go.Proofs.Ytoihfhlelbdboab
