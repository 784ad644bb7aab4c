/- seneschallaw4's known is true. -/
import Derived.Test.YtcckklkjigampaaSealC
namespace Go.Proofs.Ytcckklkjigampaa
open Go.RowKit Go.Dig Go.Sha Go.Inv

section
variable {P : Program} {ops : Array Oper} {rest : List Oper} {o : Oper} {a : Act} {w : World} {Q : Exit → Act → World → Prop}
/-- an operation whose guard lets it by -/
theorem wpList_by (hw : Region.wanted o (yielded ops a.tmps) = true) (h : ∀ K : Act → World → Prop, (∀ a w, wpList P ops Q rest a w → K a w) → o.wp P a w K Q) : wpList P ops Q (o :: rest) a w :=
  wpList_step fun K hK => by rw [if_pos hw]; exact h K hK
theorem wpList_build_g (hw : Region.wanted o (yielded ops a.tmps) = true) (t : TypeId) (parts : Array (Nat × Operand)) (ho : o.op = .build t parts) (c : Array Value) (hf : P.built t (parts.map fun (i, x) => (i, a.eval x)).toList = some c)
    (h : wpList P ops Q rest (a.put o.dst (.agg c)) w) : wpList P ops Q (o :: rest) a w :=
  wpList_by hw fun _ hK => wp_build t parts ho (by rw [hf]; rfl) (by rw [hf]; exact hK _ _ h)
theorem wpList_load_g (hw : Region.wanted o (yielded ops a.tmps) = true) (ty : TypeId) (x : Operand) (ho : o.op = .load ty x)
    (g : Nat) (c : Array Value) (hx : a.eval x = .pointer (some ⟨g, 0, none⟩)) (t : TypeId) (fr : Nat × Nat) (hg : w.heap[g]? = some (.cells c t fr)) (n : Nat) (e : TypeId) (hu : P.underlying ty = some (.array n e))
    (hi : (P.info? ty).map (·.size) = some c.size)
    (h : wpList P ops Q rest (a.put o.dst (.agg c)) w) : wpList P ops Q (o :: rest) a w :=
  wpList_by hw fun _ hK => wp_load_row ty x ho g hx t c fr _ hg hu rfl hi (hK _ _ h)
end
def oneF (x : Int) : Nat → Int := fun j => if j = 0 then x else 0
theorem lies_nil (w : World) (ao : Option Addr) : Lies w ao [] := fun h => absurd rfl h
theorem check_own {seed : Nat → Int} {n : Nat} {i : Int} {P : List Int} (h : hasB n i = true) : checkB seed n i P (sealF seed n i P) = true := by
  unfold checkB; rw [h, rowEq_self]; rfl

set_option maxRecDepth 10000 in
set_option maxHeartbeats 1000000 in
theorem known_any (w : World) : Calls Try.prog 16 #[] w fun e w' => e = .returned (.bool true) ∧ Below w.heap.size w w' := by
  go_enter Try.func16, Try.ntmps16
  go_wp2_with (refine wpList_build_to rfl 23 _ rfl (row .u8 32 (oneF 1)) (by kernel_rfl) ?_)
  refine (sNew_any 4 (oneF 1) _ (by decide) (by decide)).mono ?_
  rintro e w1 ⟨rg, rfl, hrg, hR, hB1⟩
  have hn4 : nodesOf 4 = 4 := by decide
  rw [hn4] at hR
  have HR : Hid (RingAt w1 rg (oneF 1) 4) := hR
  clear hR hn4
  go_wp2_with fail
  refine (nodes_any rg 4 (oneF 1) _ HR.out).mono ?_
  rintro e w2 ⟨rfl, rfl⟩
  go_wp2_with fail
  refine (quorum_any 4 _ (by decide) (by decide)).mono ?_
  rintro e w2 ⟨rfl, rfl⟩
  rw [show quorumI 4 = 3 by decide]
  go_wp2_with fail
  refine (faults_any 4 _ (by decide) (by decide)).mono ?_
  rintro e w2 ⟨rfl, rfl⟩
  rw [show faultsI 4 = 1 by decide]
  go_wp2_with fail
  refine (seal_any rg 4 (oneF 1) 2 [] none 0 _ HR.out (lies_nil _ _) (Nat.le_refl _) (by decide)).mono ?_
  rintro e w3 ⟨rfl, hB3⟩
  have HR3 : Hid (RingAt w3 rg (oneF 1) 4) := HR.out.below hB3
  have hBB : Below w.heap.size w w3 := hB1.trans (hB3.mono hB1.size)
  clear hB1 hB3 HR
  go_wp2_with fail
  refine (check_any rg 4 (oneF 1) 2 [] none 0 _ _ HR3.out (lies_nil _ _) (Nat.le_refl _) (by decide)).mono ?_
  rintro e w4 ⟨rfl, hB4⟩
  rw [check_own (by decide)]
  have hBB4 : Below w.heap.size w w4 := hBB.trans (hB4.mono hBB.size)
  clear hB4 HR3
  go_wp2_with fail
  go_ret
  exact ⟨rfl, hBB4⟩
end Go.Proofs.Ytcckklkjigampaa
