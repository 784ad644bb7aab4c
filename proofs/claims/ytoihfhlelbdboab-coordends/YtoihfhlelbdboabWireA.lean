/- wire: which numbers may be; marks as bytes; the example that each law asks. No condition. -/
import Derived.Test.YtoihfhlelbdboabOctB
import Derived.Deep.QuietTactic
import Derived.BigQuiet
import Derived.BigRegion
import Derived.Laws.BytesString
namespace Go.Proofs.Ytoihfhlelbdboab
open Go.RowKit Go.Dig Go.Inv Go.Oct

def inB (n a b : Int) : Bool := decide (a ≤ n) && decide (n ≤ b)
theorem inB_iff {n a b : Int} : inB n a b = true ↔ a ≤ n ∧ n ≤ b := by simp [inB]

set_option maxHeartbeats 400000 in
theorem within_any (n a b : Int) (w : World) : Calls Try.prog 59 #[.int .i64 n, .int .i64 a, .int .i64 b] w fun e w' => e = .returned (.bool (inB n a b)) ∧ w' = w := by
  go_enter Try.func59, Try.ntmps59
  go_wp2_with fail
  all_goals
    go_ret
    refine ⟨congrArg (fun b => Ending.returned (.bool b)) ?_, rfl⟩
    rw [Bool.eq_iff_iff]
    simp [inB]
    try omega
def txnB (p e t : Int) : Bool := inB p 0 7 && inB e 0 100 && inB t 0 100
set_option maxHeartbeats 400000 in
theorem txnMayBe_any (p e t : Int) (w : World) : Calls Try.prog 60 #[.int .i64 p, .int .i64 e, .int .i64 t] w fun x w' => x = .returned (.bool (txnB p e t)) ∧ w' = w := by
  go_enter Try.func60, Try.ntmps60
  go_wp2_with (go_at_call 59; refine (within_any _ _ _ _).mono ?_; rintro e w' ⟨rfl, rfl⟩)
  all_goals
    go_ret
    exact ⟨by simp [txnB, *], rfl⟩
def roundB (s v : Int) : Bool := inB s 0 63 && inB v 0 8
def markB (k p e t : Int) : Bool := (!decide (k = 1) || decide (t = 0)) && inB k 1 3 && txnB p e t
set_option maxHeartbeats 400000 in
theorem markMayBe_any (k p e t : Int) (w : World) : Calls Try.prog 40 #[.agg #[.int .i64 k, .int .i64 p, .int .i64 e, .int .i64 t]] w fun x w' => x = .returned (.bool (markB k p e t)) ∧ Below w.heap.size w w' := by
  by_cases hk : k = 1
  · subst hk
    by_cases ht : t = 0
    · subst ht
      go_enter Try.func40, Try.ntmps40
      go_wp2_with (first | (go_at_call 59; refine (within_any _ _ _ _).mono ?_; rintro e w' ⟨rfl, rfl⟩) | (go_at_call 60; refine (txnMayBe_any _ _ _ _).mono ?_; rintro e w' ⟨rfl, rfl⟩))
      all_goals
        go_ret
        exact ⟨by simp [markB, *], below_alloc _ _⟩
    · go_enter Try.func40, Try.ntmps40
      go_wp2_with fail
      go_ret
      exact ⟨by simp [markB, *], below_alloc _ _⟩
  · go_enter Try.func40, Try.ntmps40
    go_wp2_with (first | (go_at_call 59; refine (within_any _ _ _ _).mono ?_; rintro e w' ⟨rfl, rfl⟩) | (go_at_call 60; refine (txnMayBe_any _ _ _ _).mono ?_; rintro e w' ⟨rfl, rfl⟩))
    all_goals
      go_ret
      exact ⟨by simp [markB, *], below_alloc _ _⟩
/-- what Encode answers: bytes that the caller may keep, and whether the record may be -/
def Enc (ok : Bool) (L : List Int) (w w' : World) (e : Ending) : Prop := ∃ v, e = .returned (.tuple #[v, .int .i64 (if ok then 0 else 1)]) ∧ OwnB w' w.heap.size v (if ok then L else []) ∧ Below w.heap.size w w'
def encMark (k p e t : Int) : List Int := nums [3, k, p, e, t]
theorem wri_new (w : World) : Wri (w.alloc (.cells #[.slice none 0 0] 94)) w.heap.size w.heap.size (.slice none 0 0) [] := ⟨alloc_blk _ _, OwnB.nil _ _, (fun e => by cases e), Nat.le_refl _⟩
theorem nums_at (w : World) (vs : List Int) (t : TypeId) : NumsAt (w.alloc (.cells (vs.map (Value.int .i64)).toArray t)) w.heap.size 0 vs := fun j hj => by
  rw [Nat.zero_add, cell_blk (alloc_blk _ _)]
  simp [List.getD, hj]
def inI (n : Int) : Prop := -9223372036854775808 ≤ n ∧ n ≤ 9223372036854775807
def AllI : List Int → Prop
  | [] => True
  | x :: t => inI x ∧ AllI t
theorem AllI.mem : ∀ {l : List Int}, AllI l → ∀ x ∈ l, inI x
  | [], _, _, h => by cases h
  | y :: t, ⟨a, b⟩, x, h => by
    rcases List.mem_cons.1 h with rfl | h
    · exact a
    · exact AllI.mem b x h
theorem i64_of {vs : List Int} (h : AllI vs) : I64 vs := fun j hj => by
  rw [List.getD, List.getElem?_eq_getElem hj]; exact h.mem _ (List.getElem_mem hj)
theorem inI_lit {n : Int} (h0 : -9223372036854775808 ≤ n) (h1 : n ≤ 9223372036854775807) : inI n := ⟨h0, h1⟩
/-- the Writer's own row and its block are no other's -/
theorem Wri.fresh {w : World} {base g : Nat} {v : Value} {L : List Int} (h : Wri w base g v L) : w.heap.size ≠ g ∧ v.ownBlock ≠ some w.heap.size := ⟨fun e => by have := h.lt; omega, fun e => by have := (h.row.lt _ e).2; omega⟩
/-- Nums of numbers that are laid ahead of the call -/
theorem wNums_new (base g : Nat) (v : Value) (L vs : List Int) (s cap : Nat) (w : World) (h : Wri w base g v L) (hs : s = w.heap.size) (hv : AllI vs) (hb : L.length + 9 * vs.length < 1099511627776) :
    Calls Try.prog 41 #[.pointer (some ⟨g, 0, none⟩), .slice (some ⟨s, 0, none⟩) vs.length cap] (w.alloc (.cells (vs.map (Value.int .i64)).toArray 3)) fun e w' => e = .returned (.tuple #[]) ∧ ∃ v', Wri w' base g v' (L ++ nums vs) ∧ Wr g w w' v v' := by
  subst hs
  refine (wNums_any base g v L vs w.heap.size 0 cap _ (h.alloc _) (nums_at w vs _) (i64_of hv) h.fresh.1 h.fresh.2 hb).mono ?_
  rintro e w' ⟨rfl, v', hw, hr⟩
  exact ⟨rfl, v', hw, (Wr.alloc g w _ v).trans hr⟩
set_option maxHeartbeats 1000000 in
theorem encodeMark_any (k p e t : Int) (w : World) (ik : inI k) (ip : inI p) (ie : inI e) (it : inI t) : Calls Try.prog 27 #[.agg #[.int .i64 k, .int .i64 p, .int .i64 e, .int .i64 t]] w fun x w' => Enc (markB k p e t) (encMark k p e t) w w' x := by
  have hBm : Below w.heap.size w (w.alloc (.cells #[.int .i64 k, .int .i64 p, .int .i64 e, .int .i64 t] 65)) := below_alloc _ _
  cases hm : markB k p e t
  · go_enter Try.func27, Try.ntmps27
    go_wp2_with (first | (go_at_call 40; refine (markMayBe_any _ _ _ _ _).mono ?_; rintro e w1 ⟨rfl, hB1⟩; have hB2 := hBm.trans (hB1.mono hBm.size)))
    refine bodyPost_ret (v := .tuple #[.slice none 0 0, .int .i64 1]) (by simp [results, Try.results27, go_sem]) rfl ?_
    exact ⟨_, rfl, OwnB.nil _ _, hB2⟩
  · go_enter Try.func27, Try.ntmps27
    go_wp2_with fail
    refine (markMayBe_any _ _ _ _ _).mono ?_
    rintro x w1 ⟨rfl, hB1⟩
    have hb1 := (hB1.block w.heap.size (by simp)).trans (alloc_blk w _)
    have hB2 : Below w.heap.size w w1 := hBm.trans (hB1.mono hBm.size)
    have hs1 : w.heap.size < w1.heap.size := by have := hB1.size; simp at this; omega
    have hc0 : (w1.alloc (.cells #[.slice none 0 0] 94)).cell? ⟨w.heap.size, 0, none⟩ = some (.int .i64 k) := (cell_blk (alloc_blk_old hb1 _) _).trans rfl
    have hc1 : (w1.alloc (.cells #[.slice none 0 0] 94)).cell? ⟨w.heap.size, 1, none⟩ = some (.int .i64 p) := (cell_blk (alloc_blk_old hb1 _) _).trans rfl
    have hc2 : (w1.alloc (.cells #[.slice none 0 0] 94)).cell? ⟨w.heap.size, 2, none⟩ = some (.int .i64 e) := (cell_blk (alloc_blk_old hb1 _) _).trans rfl
    have hc3 : (w1.alloc (.cells #[.slice none 0 0] 94)).cell? ⟨w.heap.size, 3, none⟩ = some (.int .i64 t) := (cell_blk (alloc_blk_old hb1 _) _).trans rfl
    clear hB1 hb1 hBm
    go_wp2_with fail
    have HW := wri_new w1
    refine (wNums_new w1.heap.size w1.heap.size _ [] [3, k, p, e, t] (w1.heap.size + 1) 5 _ HW (by simp) ⟨inI_lit (by decide) (by decide), ik, ip, ie, it, trivial⟩ (by simp)).mono ?_
    rintro x w2 ⟨rfl, v2, hw2, hr2⟩
    have hB3 : Below w.heap.size w w2 := hB2.trans (((below_alloc w1 _).mono (Nat.le_of_lt hs1)).trans (hr2.below (by simp; omega) (by omega) (fun k hk => by cases hk)))
    clear hc0 hc1 hc2 hc3 HW hB2 hr2
    go_wp2_with fail
    refine (wOut_any _ _ _ _ _ hw2 (by have := nums_length [3, k, p, e, t]; simp at this ⊢; omega)).mono ?_
    rintro x w3 ⟨v3, rfl, hO3, hB4⟩
    obtain ⟨ao, n, c, rfl, -⟩ := hO3.form
    have hO : OwnB w3 w.heap.size (.slice ao n c) (encMark k p e t) := hO3.mono hB3.size
    have hB5 : Below w.heap.size w w3 := hB3.trans (hB4.mono hB3.size)
    clear hO3 hB4 hB3 hw2
    go_wp2_with fail
    refine bodyPost_ret (v := .tuple #[.slice ao n c, .int .i64 0]) (by simp [results, Try.results27, go_sem]) rfl ?_
    exact ⟨_, rfl, hO, hB5⟩

/-- bytes as a text -/
def strOf (L : List Int) : ByteArray := L.foldl (fun r n => r.push (UInt8.ofNat n.toNat)) ByteArray.empty
theorem conv_str {w : World} {ao : Option Addr} {L : List Int} {n cap : Nat} (h : Rowed w ao L cap) (hn : n = L.length) : (convert 67 9 (.slice ao n cap)).run Try.prog w = .ok (.string (strOf L)) w := by
  subst hn
  rw [run_convert_bytes_string w 67 9 5 ao L.length cap (by kernel_rfl) (by kernel_rfl) (by kernel_rfl)]
  rcases h with ⟨rfl, rfl, rfl⟩ | ⟨ad, rfl, hc⟩
  · simp [Conv.bytesToString, strOf, Sem.run_pure]
  · have hl := run_loadCells_list (P := Try.prog) w ad (L.map (Value.int .u8)) (fun j v hj => by
      have hj' : j < L.length := by have := (List.getElem?_eq_some_iff.1 hj).1; simpa using this
      rw [hc j hj', ← hj, List.getElem?_map, List.getD, List.getElem?_eq_getElem hj']; rfl)
    rw [List.length_map] at hl
    exact run_bytesToString w ad L.length cap L hl
end Go.Proofs.Ytoihfhlelbdboab
