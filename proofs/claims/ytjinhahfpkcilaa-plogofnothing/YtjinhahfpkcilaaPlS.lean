/- Bytes compared, and copied. -/
import Derived.Test.YtjinhahfpkcilaaPlE
import Derived.Laws.IdiomStrings
namespace Go.Proofs.Ytjinhahfpkcilaa
open Go.RowKit Go.Dig Go.Inv Go.Oct
set_option linter.unusedVariables false
set_option linter.unusedSimpArgs false

/-- bytes as a text -/
def strOf (L : List Int) : ByteArray := L.foldl (fun r n => r.push (UInt8.ofNat n.toNat)) ByteArray.empty
theorem conv_str {w : World} {ao : Option Addr} {L : List Int} {n cap : Nat} (h : Rowed w ao L cap) (hn : n = L.length) : (convert 30 9 (.slice ao n cap)).run Try.prog w = .ok (.string (strOf L)) w := by
  subst hn
  rw [run_convert_bytes_string w 30 9 5 ao L.length cap (by kernel_rfl) (by kernel_rfl) (by kernel_rfl)]
  rcases h with ⟨rfl, rfl, rfl⟩ | ⟨ad, rfl, hc⟩
  · simp [Conv.bytesToString, strOf, Sem.run_pure]
  · have hl := run_loadCells_list (P := Try.prog) w ad (L.map (Value.int .u8)) (fun j v hj => by
      have hj' : j < L.length := by have := (List.getElem?_eq_some_iff.1 hj).1; simpa using this
      rw [hc j hj', ← hj, List.getElem?_map, List.getD, List.getElem?_eq_getElem hj']; rfl)
    rw [List.length_map] at hl
    exact run_bytesToString w ad L.length cap L hl
theorem strOf_data (L : List Int) : (strOf L).data = (L.map fun n => UInt8.ofNat n.toNat).toArray := by
  have h : ∀ (L : List Int) (r : ByteArray), (L.foldl (fun r n => r.push (UInt8.ofNat n.toNat)) r).data = r.data ++ (L.map fun n => UInt8.ofNat n.toNat).toArray := by
    intro L
    induction L with
    | nil => intro r; simp
    | cons x t ih => intro r; rw [List.foldl_cons, ih]; apply Array.toList_inj.1; simp [ByteArray.push]
  unfold strOf
  rw [h]; simp
theorem strOf_inj {P Q : List Int} (hp : ∀ y ∈ P, 0 ≤ y ∧ y < 256) (hq : ∀ y ∈ Q, 0 ≤ y ∧ y < 256) : strOf P = strOf Q ↔ P = Q := by
  refine ⟨fun h => ?_, fun h => by rw [h]⟩
  have hd := congrArg ByteArray.data h
  rw [strOf_data, strOf_data] at hd
  have hd' := congrArg Array.toList hd
  simp only at hd'
  clear h hd
  induction P generalizing Q with
  | nil => cases Q with
    | nil => rfl
    | cons _ _ => simp at hd'
  | cons x t ih => cases Q with
    | nil => simp at hd'
    | cons y s =>
      simp only [List.map_cons, List.cons.injEq] at hd'
      have h1 := hp x (by simp)
      have h2 := hq y (by simp)
      have e : x = y := by
        have := congrArg UInt8.toNat hd'.1
        simp only [UInt8.toNat_ofNat'] at this
        omega
      rw [e, ih (fun z hz => hp z (by simp [hz])) (fun z hz => hq z (by simp [hz])) hd'.2]
def BytesL (P : List Int) : Prop := ∀ y ∈ P, 0 ≤ y ∧ y < 256
theorem eqStr {P Q : List Int} (hp : BytesL P) (hq : BytesL Q) : ((strOf P).toList == (strOf Q).toList) = decide (P = Q) := by
  by_cases h : P = Q
  · subst h; simp
  · rw [decide_eq_false h, beq_eq_false_iff_ne]
    intro e
    rw [ByteArray.toList_eq, ByteArray.toList_eq, strOf_data, strOf_data] at e
    refine h ((strOf_inj hp hq).1 (ByteArray.ext ?_))
    rw [strOf_data, strOf_data]
    exact Array.toList_inj.1 e
set_option maxRecDepth 10000 in
set_option maxHeartbeats 1000000 in
theorem equalB_any (P Q : List Int) (ao bo : Option Addr) (cap dap : Nat) (w : World) (h1 : Rowed w ao P cap) (h2 : Rowed w bo Q dap) (hp : BytesL P) (hq : BytesL Q) :
    Calls Try.prog 51 #[.slice ao P.length cap, .slice bo Q.length dap] w fun e w' => e = .returned (.bool (decide (P = Q))) ∧ w' = w := by
  have c1 : (convert 30 9 (.slice ao P.length cap)).run Try.prog w = .ok (.string (strOf P)) w := conv_str h1 rfl
  have c2 : (convert 30 9 (.slice bo Q.length dap)).run Try.prog w = .ok (.string (strOf Q)) w := conv_str h2 rfl
  have HE : Hid (((strOf P).toList == (strOf Q).toList) = decide (P = Q)) := eqStr hp hq
  clear h1 h2
  go_enter Try.func51, Try.ntmps51
  go_wp2_with fail
  go_ret
  exact ⟨by rw [← HE.out]; rfl, rfl⟩

set_option maxRecDepth 10000 in
set_option maxHeartbeats 1000000 in
/-- a value is copied: new memory -/
theorem bClone_any (P : List Int) (ao : Option Addr) (cap : Nat) (w : World) (h : Rowed w ao P cap) (hl : P.length ≤ 1000000) :
    Calls Try.prog 35 #[.slice ao P.length cap] w fun e w' => ∃ v', e = .returned v' ∧ OwnB w' w.heap.size v' P ∧ Below w.heap.size w w' := by
  cases ao with
  | none =>
    rcases h with ⟨-, rfl, rfl⟩ | ⟨ad, e, -⟩
    · have hn := Lib.run_eql_slice_nil (P := Try.prog) w 30 5 none 0 0 0 0 (by kernel_rfl)
      go_enter Try.func35, Try.ntmps35
      go_wp2
      go_ret
      exact ⟨_, rfl, OwnB.nil _ _, Below.refl _ _⟩
    · cases e
  | some ad =>
    have hn := Lib.run_eql_slice_nil (P := Try.prog) w 30 5 (some ad) P.length cap 0 0 (by kernel_rfl)
    have hE : OwnB (w.alloc (.cells #[] 5)) w.heap.size (.slice (some ⟨w.heap.size, 0, none⟩) 0 0) [] := ⟨rfl, .inr ⟨w.heap.size, 0, #[], rfl, Nat.le_refl _, alloc_blk _ _, Nat.le_refl _, Nat.zero_le _, rfl, rfl⟩⟩
    have hR : Rowed (w.alloc (.cells #[] 5)) (some ad) P cap := h.below (below_alloc _ _) (Nat.le_refl _)
    have hs : (w.alloc (.cells #[] 5)).heap.size = w.heap.size + 1 := by simp
    go_enter Try.func35, Try.ntmps35
    go_wp2_with (refine wpList_app rfl _ _ rfl w.heap.size (.slice (some ⟨w.heap.size, 0, none⟩) 0 0) [] ?_ hE (some ad) P.length cap P ?_ rfl hR (by simp; omega) (by omega) ?_; rfl; rfl)
    intro v' w' hv hG
    go_wp2_with fail
    go_ret
    refine ⟨_, rfl, hv.out, (below_alloc _ _).trans (hG.out.below (by omega) fun k hk => ?_)⟩
    cases hk
    exact Nat.le_refl _
end Go.Proofs.Ytjinhahfpkcilaa
