/- wire: which numbers may be; marks as bytes; the example that each law asks. No condition. -/
import Derived.Test.YticpkpphjpgdbaaSealLaw
import Derived.Test.YticpkpphjpgdbaaOctB
import Derived.Deep.QuietTactic
import Derived.BigQuiet
import Derived.BigRegion
import Derived.Laws.BytesString
namespace Go.Proofs.Yticpkpphjpgdbaa
open Go.RowKit Go.Dig Go.Inv Go.Oct

def inB (n a b : Int) : Bool := decide (a ≤ n) && decide (n ≤ b)
theorem inB_iff {n a b : Int} : inB n a b = true ↔ a ≤ n ∧ n ≤ b := by simp [inB]

def txnB (p e t : Int) : Bool := inB p 0 7 && inB e 0 100 && inB t 0 100
def roundB (s v : Int) : Bool := inB s 0 63 && inB v 0 8
def markB (k p e t : Int) : Bool := (!decide (k = 1) || decide (t = 0)) && inB k 1 3 && txnB p e t
/-- what Encode answers: bytes that the caller may keep, and whether the record may be -/
def Enc (ok : Bool) (L : List Int) (w w' : World) (e : Ending) : Prop := ∃ v, e = .returned (.tuple #[v, .int .i64 (if ok then 0 else 1)]) ∧ OwnB w' w.heap.size v (if ok then L else []) ∧ Below w.heap.size w w'
def encMark (k p e t : Int) : List Int := nums [3, k, p, e, t]
theorem wri_new (w : World) : Wri (w.alloc (.cells #[.slice none 0 0] 114)) w.heap.size w.heap.size (.slice none 0 0) [] := ⟨alloc_blk _ _, OwnB.nil _ _, (fun e => by cases e), Nat.le_refl _⟩
theorem nums_at (w : World) (vs : List Int) (t : TypeId) : NumsAt (w.alloc (.cells (vs.map (Value.int .i64)).toArray t)) w.heap.size 0 vs := fun j hj => by
  rw [Nat.zero_add, cell_blk (alloc_blk _ _)]
  simp [List.getD, hj]
def inI (n : Int) : Prop := -9223372036854775808 ≤ n ∧ n ≤ 9223372036854775807
def AllI : List Int → Prop
  | [] => True
  | x :: t => inI x ∧ AllI t
theorem AllI.mem : ∀ {l : List Int}, AllI l → ∀ x ∈ l, inI x
  | [], _, _, h => by cases h
  | y :: t, ⟨a, b⟩, x, h => by
    rcases List.mem_cons.1 h with rfl | h
    · exact a
    · exact AllI.mem b x h
theorem i64_of {vs : List Int} (h : AllI vs) : I64 vs := fun j hj => by
  rw [List.getD, List.getElem?_eq_getElem hj]; exact h.mem _ (List.getElem_mem hj)
theorem inI_lit {n : Int} (h0 : -9223372036854775808 ≤ n) (h1 : n ≤ 9223372036854775807) : inI n := ⟨h0, h1⟩
/-- the Writer's own row and its block are no other's -/
theorem Wri.fresh {w : World} {base g : Nat} {v : Value} {L : List Int} (h : Wri w base g v L) : w.heap.size ≠ g ∧ v.ownBlock ≠ some w.heap.size := ⟨fun e => by have := h.lt; omega, fun e => by have := (h.row.lt _ e).2; omega⟩
/-- Nums of numbers that are laid ahead of the call -/
theorem wNums_new (base g : Nat) (v : Value) (L vs : List Int) (s cap : Nat) (w : World) (h : Wri w base g v L) (hs : s = w.heap.size) (hv : AllI vs) (hb : L.length + 9 * vs.length < 1099511627776) :
    Calls Try.prog 77 #[.pointer (some ⟨g, 0, none⟩), .slice (some ⟨s, 0, none⟩) vs.length cap] (w.alloc (.cells (vs.map (Value.int .i64)).toArray 3)) fun e w' => e = .returned (.tuple #[]) ∧ ∃ v', Wri w' base g v' (L ++ nums vs) ∧ Wr g w w' v v' := by
  subst hs
  refine (wNums_any base g v L vs w.heap.size 0 cap _ (h.alloc _) (nums_at w vs _) (i64_of hv) h.fresh.1 h.fresh.2 hb).mono ?_
  rintro e w' ⟨rfl, v', hw, hr⟩
  exact ⟨rfl, v', hw, (Wr.alloc g w _ v).trans hr⟩
/-- bytes as a text -/
def strOf (L : List Int) : ByteArray := L.foldl (fun r n => r.push (UInt8.ofNat n.toNat)) ByteArray.empty
theorem conv_str {w : World} {ao : Option Addr} {L : List Int} {n cap : Nat} (h : Rowed w ao L cap) (hn : n = L.length) : (convert 22 9 (.slice ao n cap)).run Try.prog w = .ok (.string (strOf L)) w := by
  subst hn
  rw [run_convert_bytes_string w 22 9 5 ao L.length cap (by kernel_rfl) (by kernel_rfl) (by kernel_rfl)]
  rcases h with ⟨rfl, rfl, rfl⟩ | ⟨ad, rfl, hc⟩
  · simp [Conv.bytesToString, strOf, Sem.run_pure]
  · have hl := run_loadCells_list (P := Try.prog) w ad (L.map (Value.int .u8)) (fun j v hj => by
      have hj' : j < L.length := by have := (List.getElem?_eq_some_iff.1 hj).1; simpa using this
      rw [hc j hj', ← hj, List.getElem?_map, List.getD, List.getElem?_eq_getElem hj']; rfl)
    rw [List.length_map] at hl
    exact run_bytesToString w ad L.length cap L hl
end Go.Proofs.Yticpkpphjpgdbaa
