/- The reference's Link. For rows of up to 2^38 bytes. -/
import Derived.Test.YticpkpphjpgdbaaWireC
import Derived.Test.YticpkpphjpgdbaaRefB
import Derived.Test.YticpkpphjpgdbaaDigG
import Derived.Laws.AppendOwnNone
namespace Go.Proofs.Yticpkpphjpgdbaa
open Go.RowKit Go.Dig Go.Sha Go.Inv

section
variable {ops : Array Oper} {rest : List Oper} {o : Oper} {a : Act} {w : World} {Q : Exit → Act → World → Prop}
end
theorem rowed_row {w : World} {g n : Nat} {f : Nat → Int} {t : TypeId} {fr : Nat × Nat} (h : w.heap[g]? = some (.cells (row .u8 n f) t fr)) (cap : Nat) : Rowed w (some ⟨g, 0, none⟩) (ofF n f) cap := .inr ⟨⟨g, 0, none⟩, rfl, fun j hj => by
  rw [ofF_length] at hj
  rw [addr_add, Nat.zero_add, cell_blk h, row_get hj, ofF_getD hj]⟩
theorem own_nil (w : World) (base : Nat) (hb : base ≤ w.heap.size) : (w.alloc (.cells #[] 5)).ownsRow base 5 1 (.slice (some ⟨w.heap.size, 0, none⟩) 0 0) 0 (([] : List Int).map (Value.int .u8)) :=
  ⟨rfl, .inr ⟨w.heap.size, 0, #[], rfl, hb, alloc_blk _ _, Nat.le_refl _, Nat.zero_le _, rfl, rfl⟩⟩

set_option maxRecDepth 10000 in
set_option maxHeartbeats 1000000 in
theorem rLink_any (f : Nat → Int) (P : List Int) (ao : Option Addr) (cap : Nat) (w : World) (hl : Rowed w ao P cap) (hz : P.length < 274877906944) :
    Calls Try.prog 27 #[.agg (row .u8 32 f), .slice ao P.length cap] w fun e w' => e = .returned (.agg (row .u8 32 (sha (ofF 32 f ++ P)))) ∧ Below w.heap.size w w' := by
  have HZ : Hid ((Try.prog.info? 30).map (·.zero) = some (some (.agg (row .u8 32 (fun _ => 0))))) := zero_hash
  have hsl := slice_hash
  have hA : ((w.alloc (.cells (row .u8 32 f) 30)).alloc (.cells (row .u8 32 (fun _ => 0)) 30)).heap[w.heap.size]? = some (.cells (row .u8 32 f) 30 (0, 0)) := alloc_blk_old (alloc_blk _ _) _
  have hR : ((w.alloc (.cells (row .u8 32 f) 30)).alloc (.cells (row .u8 32 (fun _ => 0)) 30)).heap[w.heap.size + 1]? = some (.cells (row .u8 32 (fun _ => 0)) 30 (0, 0)) := by
    have := alloc_blk (w.alloc (.cells (row .u8 32 f) 30)) (.cells (row .u8 32 (fun _ => 0)) 30)
    rw [World.size_alloc] at this; exact this
  have hBw : Below w.heap.size w ((w.alloc (.cells (row .u8 32 f) 30)).alloc (.cells (row .u8 32 (fun _ => 0)) 30)) := (below_alloc _ _).alloc (by simp) _
  have hsz : ((w.alloc (.cells (row .u8 32 f) 30)).alloc (.cells (row .u8 32 (fun _ => 0)) 30)).heap.size = w.heap.size + 1 + 1 := by simp
  have HO : Hid ((((w.alloc (.cells (row .u8 32 f) 30)).alloc (.cells (row .u8 32 (fun _ => 0)) 30)).alloc (.cells #[] 5)).ownsRow (w.heap.size + 2) 5 1 (.slice (some ⟨w.heap.size + 1 + 1, 0, none⟩) 0 0) 0 (([] : List Int).map (Value.int .u8))) := by
    have := own_nil ((w.alloc (.cells (row .u8 32 f) 30)).alloc (.cells (row .u8 32 (fun _ => 0)) 30)) (w.heap.size + 2) (by omega)
    rw [hsz] at this; exact this
  have HN : Hid (Rowed (((w.alloc (.cells (row .u8 32 f) 30)).alloc (.cells (row .u8 32 (fun _ => 0)) 30)).alloc (.cells #[] 5)) (some ⟨w.heap.size, 0, none⟩) (ofF 32 f) 32) := rowed_row (alloc_blk_old hA _) 32
  have HLw : Hid (Rowed w ao P cap) := hl
  have HR2 : Hid ((((w.alloc (.cells (row .u8 32 f) 30)).alloc (.cells (row .u8 32 (fun _ => 0)) 30)).alloc (.cells #[] 5)).heap[w.heap.size + 1]? = some (.cells (row .u8 32 (fun _ => 0)) 30 (0, 0))) := alloc_blk_old hR _
  have hB2 : Below w.heap.size w (((w.alloc (.cells (row .u8 32 f) 30)).alloc (.cells (row .u8 32 (fun _ => 0)) 30)).alloc (.cells #[] 5)) := hBw.alloc (by omega) _
  have hs2 : (((w.alloc (.cells (row .u8 32 f) 30)).alloc (.cells (row .u8 32 (fun _ => 0)) 30)).alloc (.cells #[] 5)).heap.size = w.heap.size + 3 := by simp
  clear hA hR hBw hsz hl
  go_enter Try.func27, Try.ntmps27
  go_wp2_with (first | refine wpList_alloc_row rfl 30 rfl _ HZ.out ?_ | refine wpList_box_row rfl 30 _ rfl _ rfl ?_ | (at_builtin; refine wpList_appO rfl _ _ rfl (w.heap.size + 2) _ 0 [] rfl HO.out (some ⟨w.heap.size, 0, none⟩) 32 32 (ofF 32 f) rfl (ofF_length _ _).symm HN.out (by omega) (by rw [hs2]; omega) ?_))
  intro v1 w1 HO1 hB1
  replace HO1 : Hid (w1.ownsRow (w.heap.size + 2) 5 1 v1 32 ((ofF 32 f).map (Value.int .u8))) := by simpa using HO1
  have hBw1 : Below w.heap.size w w1 := hB2.trans (hB1.mono (by omega))
  have HR3 : Hid (w1.heap[w.heap.size + 1]? = some (.cells (row .u8 32 (fun _ => 0)) 30 (0, 0))) := Below.blk hB1 (by omega) HR2.out
  have HL3 : Hid (Rowed w1 ao P cap) := HLw.out.below hBw1 (Nat.le_refl _)
  have hs1 : w.heap.size + 3 ≤ w1.heap.size := by have := hB1.size; omega
  clear HO HN HR2 hB2 hs2 hB1
  go_wp2_with (at_builtin; refine wpList_appO rfl _ _ rfl (w.heap.size + 2) _ 32 (ofF 32 f) rfl HO1.out ao P.length cap P rfl rfl HL3.out (by omega) (by omega) ?_)
  intro v2 w2 HO2 hB2
  replace HO2 : Hid (w2.ownsRow (w.heap.size + 2) 5 1 v2 (32 + P.length) ((ofF 32 f ++ P).map (Value.int .u8))) := by rw [List.map_append]; simpa using HO2
  obtain ⟨g, cp, rfl, hg, hcp, hgl⟩ := own_form HO2.out (by omega)
  obtain ⟨Bs, HBs⟩ : ∃ Bs, Hid (Bs = ofF 32 f ++ P) := ⟨_, rfl⟩
  have hln : 32 + P.length = Bs.length := by rw [HBs.out, List.length_append, ofF_length]
  have HC2 : Hid (∀ j, j < Bs.length → w2.cell? ⟨g, j, none⟩ = some (.int .u8 (Bs.getD j 0))) := own_cells (M := Bs) (n := 32 + P.length) (by rw [HBs.out]; exact HO2.out) hln
  have hBw2 : Below w.heap.size w w2 := hBw1.trans (hB2.mono (by omega))
  have HR4 : Hid (w2.heap[w.heap.size + 1]? = some (.cells (row .u8 32 (fun _ => 0)) 30 (0, 0))) := Below.blk hB2 (by omega) HR3.out
  have hs3 : w.heap.size + 3 ≤ w2.heap.size := by have := hB2.size; omega
  rw [hln]
  have HLN : Hid (32 + P.length = Bs.length) := hln
  clear hln
  clear HO2 HO1 HR3 HL3 hB2 hBw1 hcp
  go_wp2_with fail
  refine (rSum_any Bs g 0 cp w2 (fun j hj => by rw [Nat.zero_add]; exact HC2.out j hj) (by rw [← HLN.out]; omega)).mono ?_
  rintro e w3 ⟨rfl, hB3⟩
  have HR5 : Hid (w3.heap[w.heap.size + 1]? = some (.cells (row .u8 32 (fun _ => 0)) 30 (0, 0))) := Below.blk hB3 (by omega) HR4.out
  have hBB : Below w.heap.size w w3 := hBw2.trans (hB3.mono hBw2.size)
  clear hB3 HR4 HC2 hBw2
  go_wp2_with (refine wpList_store_blk rfl 30 _ _ rfl (w.heap.size + 1) _ rfl rfl _ _ HR5.out (row_info size_hash _) (by rw [row_size, row_size]) (row_all _ _ _) ?_)
  refine bodyPost_ret (v := .agg (row .u8 32 (sha (ofF 32 f ++ P)))) ?_ rfl ⟨rfl, below_setRow hBB (by omega) _⟩
  rw [← HBs.out]
  exact results_cell_row rfl _ _ (w.heap.size + 1) _ _ _ (.array 32 5) rfl (setRow_at HR5.out _) (by kernel_rfl) rfl (row_info size_hash _)
end Go.Proofs.Yticpkpphjpgdbaa
