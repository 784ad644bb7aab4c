/- wire: which names and operations may be. -/
import Derived.Test.YtoihfhlelbdboabWireB
import Derived.Laws.IdiomStrings
import Derived.Laws.StructEq
namespace Go.Proofs.Ytoihfhlelbdboab
open Go.RowKit Go.Dig Go.Inv Go.Oct

def azB (b : UInt8) : Bool := decide (97 ≤ b.toNat) && decide (b.toNat ≤ 122)
def nameB (n : ByteArray) : Bool := decide (1 ≤ n.size) && decide (n.size ≤ 8) && n.data.toList.all azB
theorem az_take {n : ByteArray} {k : Nat} (h : k < n.size) : (n.data.toList.take (k + 1)).all azB = ((n.data.toList.take k).all azB && azB n[k]) := by
  have h' : k < n.data.toList.length := by simpa using h
  rw [List.take_add_one, List.getElem?_eq_getElem h', List.all_append]
  simp
  rfl
theorem az_not {n : ByteArray} {k : Nat} (h : k < n.size) (hf : azB n[k] = false) : nameB n = false := by
  have h' : k < n.data.toList.length := by simpa using h
  have hm : n[k] ∈ n.data.toList := by
    exact (show n.data.toList[k] ∈ n.data.toList from List.getElem_mem h')
  unfold nameB
  cases ha : n.data.toList.all azB with
  | false => simp
  | true => rw [List.all_eq_true.1 ha _ hm] at hf; cases hf
set_option maxRecDepth 10000 in
set_option maxHeartbeats 1000000 in
theorem nameMayBe_any (n : ByteArray) (w : World) (hn : n.size < 9223372036854775808) : Calls Try.prog 68 #[.string n] w fun x w' => x = .returned (.bool (nameB n)) ∧ w' = w := by
  cases hi : inB n.size 1 8
  · go_enter Try.func68, Try.ntmps68
    go_wp2_with (go_at_call 59; refine (within_any _ _ _ _).mono ?_; rintro e w' ⟨rfl, rfl⟩)
    go_ret
    refine ⟨congrArg (fun b => Ending.returned (Value.bool b)) (Eq.symm ?_), rfl⟩
    simp [inB] at hi
    simp [nameB]
    omega
  · go_enter Try.func68, Try.ntmps68
    go_wp2_with (go_at_call 59; refine (within_any _ _ _ _).mono ?_; rintro e w' ⟨rfl, rfl⟩)
    go_loopw [10] (fun i wr => ∃ k : Nat, k ≤ n.size ∧ i = .int .i64 (k : Int) ∧ wr = w' ∧ Hid ((n.data.toList.take k).all azB = true)) (fun i _ => n.size - (intOf i).toNat)
    case atStart => exact ⟨0, by omega, rfl, rfl, rfl⟩
    case round =>
      obtain ⟨k, hk, rfl, rfl, HA⟩ := hrel
      by_cases hlt : k < n.size
      · have HF : Hid (azB n[k] = false → nameB n = false) := az_not hlt
        have HT : Hid ((n.data.toList.take (k + 1)).all azB = ((n.data.toList.take k).all azB && azB n[k])) := az_take hlt
        go_wp2_with fail
        · go_ret
          refine ⟨congrArg (fun b => Ending.returned (Value.bool b)) (Eq.symm (HF.out ?_)), rfl⟩
          simp [azB]; omega
        · refine ⟨⟨k + 1, by omega, rfl, trivial, ?_⟩, by simp [intOf]; omega⟩
          show _ = _
          rw [HT.out, HA.out]
          simp [azB]; omega
        · go_ret
          refine ⟨congrArg (fun b => Ending.returned (Value.bool b)) (Eq.symm (HF.out ?_)), rfl⟩
          simp [azB]; omega
      · obtain rfl : k = n.size := by omega
        go_wp2_with fail
        go_ret
        refine ⟨congrArg (fun b => Ending.returned (Value.bool b)) (Eq.symm ?_), rfl⟩
        have ha := HA.out
        rw [List.take_of_length_le (by simp)] at ha
        simp [inB] at hi
        unfold nameB
        rw [ha]
        simp
        omega

/-- an operation's cells -/
def opC (k c s : Int) (n : ByteArray) (p e t r : Int) (b : Bool) : Array Value := #[.int .i64 k, .int .i64 c, .int .i64 s, .string n, .int .i64 p, .int .i64 e, .int .i64 t, .int .i64 r, .bool b]
def eN : ByteArray := ⟨#[]⟩
def namedC (k c s : Int) (n : ByteArray) (p e t r : Int) (b : Bool) : Array Value :=
  if k = 1 then opC k c s n 0 0 0 0 false else if k = 2 then opC k c s eN p e t r false else if k = 3 then opC k c s eN p e t 0 b else opC k c s eN 0 0 0 0 false
theorem below_setRow {B : Nat} {a w : World} (h : Below B a w) {g : Nat} (hg : B ≤ g) (c : Array Value) : Below B a (w.setRow g c) :=
  h.trans ⟨rfl, rfl, rfl, by simp [World.setRow], fun k hk => by simp only [World.setRow, Array.getElem?_modify]; rw [if_neg (by omega)]⟩
theorem setRow_at {w : World} {g : Nat} {c : Array Value} {t : TypeId} {fr : Nat × Nat} (h : w.heap[g]? = some (.cells c t fr)) (c' : Array Value) : (w.setRow g c').heap[g]? = some (.cells c' t fr) := setRow_heap w g c c' t fr h
end Go.Proofs.Ytoihfhlelbdboab
