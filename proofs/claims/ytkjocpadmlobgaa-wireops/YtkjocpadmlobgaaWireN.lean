/- The document's Name: is a text a name? For texts of up to 2^40 bytes. -/
import Derived.Test.YtkjocpadmlobgaaWireI
import Derived.Test.YtkjocpadmlobgaaRefM
namespace Go.Proofs.Ytkjocpadmlobgaa
open Go.RowKit Go.Dig Go.Inv Go.Oct

set_option maxRecDepth 10000 in
set_option maxHeartbeats 2000000 in
theorem rName_any (n : ByteArray) (w : World) (hn : n.size < 9223372036854775808) : Calls Try.prog 62 #[.string n] w fun x w' => x = .returned (.bool (nameB n)) ∧ w' = w := by
  go_enter Try.func62, Try.ntmps62
  go_wp2_with fail
  go_loopw [3] (fun i wr => ∃ k : Nat, k ≤ n.size ∧ i = .int .i64 (k : Int) ∧ wr = w ∧ Hid ((n.data.toList.take k).all azB = true)) (fun i _ => n.size - (intOf i).toNat)
  case atStart => exact ⟨0, by omega, rfl, rfl, rfl⟩
  case round =>
    obtain ⟨k, hk, rfl, rfl, HA⟩ := hrel
    by_cases hlt : k < n.size
    · have HF : Hid (azB n[k] = false → nameB n = false) := az_not hlt
      have HT : Hid ((n.data.toList.take (k + 1)).all azB = ((n.data.toList.take k).all azB && azB n[k])) := az_take hlt
      go_wp2_with fail
      · go_ret
        refine ⟨congrArg (fun b => Ending.returned (Value.bool b)) (Eq.symm (HF.out ?_)), rfl⟩
        simp [azB]; omega
      · refine ⟨⟨k + 1, by omega, rfl, trivial, ?_⟩, by simp [intOf]; omega⟩
        show _ = _
        rw [HT.out, HA.out]
        simp [azB]; omega
      · go_ret
        refine ⟨congrArg (fun b => Ending.returned (Value.bool b)) (Eq.symm (HF.out ?_)), rfl⟩
        simp [azB]; omega
    · obtain rfl : k = n.size := by omega
      have ha := HA.out
      rw [List.take_of_length_le (by simp)] at ha
      have HN : Hid (nameB n = (decide (1 ≤ n.size) && decide (n.size ≤ 8))) := by show _ = _; unfold nameB; rw [ha, Bool.and_true]
      clear ha HA
      by_cases h1 : 1 ≤ n.size
      · have h1' : (1 : Int) ≤ (n.size : Int) := by omega
        go_wp2_with fail
        go_ret
        refine ⟨congrArg (fun b => Ending.returned (Value.bool b)) ?_, rfl⟩
        rw [HN.out, decide_eq_true h1, Bool.eq_iff_iff]
        simp
        try omega
      · have h1' : ¬ (1 : Int) ≤ (n.size : Int) := by omega
        go_wp2_with fail
        go_ret
        exact ⟨by rw [HN.out, decide_eq_false h1]; rfl, rfl⟩
end Go.Proofs.Ytkjocpadmlobgaa
