/- seal's New. For every number of nodes and every seed. -/
import Derived.Test.YticpkpphjpgdbaaSealA
namespace Go.Proofs.Yticpkpphjpgdbaa
open Go.RowKit Go.Dig Go.Sha Go.Inv

def nodesOf (nodes : Int) : Nat := (min (max nodes 1) 10).toNat
theorem nodesOf_bd (nodes : Int) : 0 < nodesOf nodes ∧ nodesOf nodes ≤ 10 := by unfold nodesOf; omega
theorem info_hash : (Try.prog.info? 30).map (fun i => (i.zero, i.size, i.bytes)) = some (some (.agg (row .u8 32 (fun _ => 0))), 32, 32) := by kernel_rfl
theorem made_hash (n : Nat) : madeCells (row .u8 32 (fun _ => 0)) (n * 32) = row .u8 (32 * n) (fun _ => 0) := by
  apply Array.ext_getElem?
  intro j
  by_cases hj : j < 32 * n
  · rw [row_get hj]
    have h1 : j < n * 32 := by omega
    have h2 : j % 32 < 32 := Nat.mod_lt _ (by omega)
    simp only [madeCells, Array.getElem?_map, Array.getElem?_range, h1, if_true, Option.map_some, row_size]
    rw [getElem!_def, row_get h2]
  · rw [row_get_none (Nat.le_of_not_lt hj)]
    have h1 : ¬ j < n * 32 := by omega
    simp [madeCells, h1]
section
variable {ops : Array Oper} {rest : List Oper} {o : Oper} {a : Act} {w : World} {Q : Exit → Act → World → Prop}
theorem wpList_make_hash (hgd : o.guard = none) (l c : Operand) (hop : o.op = .makeSlice 57 l c) (kl kc : IntKind) (L C : Int) (n : Nat) (hl : a.eval l = .int kl L) (hc : a.eval c = .int kc C) (hL : L = (n : Int)) (hC : C = (n : Int)) (hn : n ≤ 10)
    (h : wpList Try.prog ops Q rest (a.put o.dst (.slice (some ⟨w.heap.size, 0, none⟩) n n)) (w.alloc (.cells (row .u8 (32 * n) (fun _ => 0)) 30))) : wpList Try.prog ops Q (o :: rest) a w :=
  wpList_plain hgd fun K hK => by
    have h' := hK _ _ h
    subst hL; subst hC
    obtain ⟨i, hi, hz0, hz1, hz2⟩ := info_parts info_hash
    have hr := run_make (P := Try.prog) w 57 30 i _ (by kernel_rfl) hi hz0 kl kc (n : Int) (n : Int) (by omega) (by omega) (by rw [hz2]; omega) (by omega)
    simp only [Int.toNat_natCast, hz1, Value.cells, made_hash] at hr
    unfold Oper.wp
    simp [execOp, hop, hl, hc, hr, Result.andThen]
    exact h'
end
theorem row_ofF (f : Nat → Int) (n : Nat) : (row .u8 n f).toList = (ofF n f).map (Value.int .u8) := by rw [row_list]; unfold ofF; rw [List.map_map]; rfl
theorem wpList_store_hash {ops : Array Oper} {rest : List Oper} {o : Oper} {a : Act} {w : World} {Q : Exit → Act → World → Prop} (hgd : o.guard = none) (x y : Operand) (ho : o.op = .store 30 x y) (g off : Nat) (f : Nat → Int) (hx : a.eval x = .pointer (some ⟨g, off, none⟩)) (hy : a.eval y = .agg (row .u8 32 f))
    (n : Nat) (F : Nat → Int) (t : TypeId) (hg : w.heap[g]? = some (.cells (row .u8 n F) t (0, 0))) (hlt : off + 32 ≤ n)
    (h : ∀ w', w'.heap[g]? = some (.cells (row .u8 n (over F off 32 (ofF 32 f))) t (0, 0)) → Keeps g w w' → wpList Try.prog ops Q rest (a.put o.dst undef) w') : wpList Try.prog ops Q (o :: rest) a w := by
  refine wpList_store_mid hgd 30 x y ho g off (row .u8 32 f) hx hy (fun j hj => ?_) (row_info size_hash _) (row_all _ _ _) (by
    rw [row_ofF]
    refine h _ ?_ (Keeps.setCells _ _ (Keeps.refl _ _))
    have := set_row_over (ofF 32 f) off hg
    rw [ofF_length] at this; exact this)
  rw [row_size] at hj
  refine ⟨?_, frozen_blk hg _⟩
  rw [cell_blk hg, row_get (by omega)]; rfl
theorem keys_step (seed : Nat → Int) (k : Nat) : over (upTo (32 * k) (keysF seed)) (32 * k) 32 (ofF 32 (keyAt seed k)) = upTo (32 * (k + 1)) (keysF seed) := by
  funext j
  unfold over upTo
  by_cases h : 32 * k ≤ j ∧ j < 32 * k + 32
  · rw [if_pos h, if_pos (by omega), ofF_getD (by omega)]
    unfold keysF
    rw [show j / 32 = k by omega, show j % 32 = j - 32 * k by omega]
  · rw [if_neg h]
    by_cases h2 : j < 32 * k
    · rw [if_pos h2, if_pos (by omega)]
    · rw [if_neg h2, if_neg (by omega)]

set_option maxRecDepth 10000 in
set_option maxHeartbeats 1000000 in
theorem sNew_any (nodes : Int) (seed : Nat → Int) (w : World) (h0 : -9223372036854775808 ≤ nodes) (h1 : nodes ≤ 9223372036854775807) :
    Calls Try.prog 10 #[.int .i64 nodes, .agg (row .u8 32 seed)] w fun e w' => ∃ rg, e = .returned (.pointer (some ⟨rg, 0, none⟩)) ∧ w.heap.size ≤ rg ∧ RingAt w' rg seed (nodesOf nodes) ∧ Below w.heap.size w w' := by
  obtain ⟨n, hn⟩ : ∃ n, n = nodesOf nodes := ⟨_, rfl⟩
  have hbd := nodesOf_bd nodes
  rw [← hn] at hbd
  have hmm : min (max nodes 1) 10 = (n : Int) := by rw [hn]; unfold nodesOf; omega
  have HN : Hid (n = nodesOf nodes) := hn
  have HM : Hid (min (max nodes 1) 10 = (n : Int)) := hmm
  clear hn hmm
  go_enter Try.func10, Try.ntmps10
  have hA : ((w.alloc (.cells (row .u8 32 seed) 30)).alloc (.cells (row .u8 (32 * n) (fun _ => 0)) 30)).heap[w.heap.size]? = some (.cells (row .u8 32 seed) 30 (0, 0)) := alloc_blk_old (alloc_blk _ _) _
  have hR : ((w.alloc (.cells (row .u8 32 seed) 30)).alloc (.cells (row .u8 (32 * n) (fun _ => 0)) 30)).heap[w.heap.size + 1]? = some (.cells (row .u8 (32 * n) (upTo (32 * 0) (keysF seed))) 30 (0, 0)) := by
    have := alloc_blk (w.alloc (.cells (row .u8 32 seed) 30)) (.cells (row .u8 (32 * n) (fun _ => 0)) 30)
    rw [World.size_alloc] at this; exact this
  have hB0 : Below w.heap.size w ((w.alloc (.cells (row .u8 32 seed) 30)).alloc (.cells (row .u8 (32 * n) (fun _ => 0)) 30)) := (below_alloc _ _).alloc (by simp) _
  have HA : Hid (((w.alloc (.cells (row .u8 32 seed) 30)).alloc (.cells (row .u8 (32 * n) (fun _ => 0)) 30)).heap[w.heap.size]? = some (.cells (row .u8 32 seed) 30 (0, 0))) := hA
  have HR : Hid (((w.alloc (.cells (row .u8 32 seed) 30)).alloc (.cells (row .u8 (32 * n) (fun _ => 0)) 30)).heap[w.heap.size + 1]? = some (.cells (row .u8 (32 * n) (upTo (32 * 0) (keysF seed))) 30 (0, 0))) := hR
  clear hA hR
  obtain ⟨hn0, hn1⟩ := hbd
  go_wp2_with (first | refine wpList_box_row rfl 30 _ rfl _ rfl ?_ | (at_make; refine wpList_make_hash rfl _ _ rfl .i64 .i64 _ _ n rfl rfl (by have := HM.out; omega) (by have := HM.out; omega) hn1 ?_))
  all_goals
    generalize (w.alloc (.cells (row .u8 32 seed) 30)).alloc (.cells (row .u8 (32 * n) (fun _ => 0)) 30) = w1 at *
    go_loopw [13] (fun i wr => ∃ k : Nat, k ≤ n ∧ i = .int .i64 (k : Int) ∧ Below w.heap.size w wr ∧ Hid (wr.heap[w.heap.size]? = some (.cells (row .u8 32 seed) 30 (0, 0))) ∧ Hid (wr.heap[w.heap.size + 1]? = some (.cells (row .u8 (32 * n) (upTo (32 * k) (keysF seed))) 30 (0, 0)))) (fun i _ => n - (intOf i).toNat)
    case atStart => exact ⟨0, by omega, rfl, hB0, HA, HR⟩
    case round =>
      clear hB0 HA HR
      obtain ⟨k, hk, rfl, hB, HA, HR⟩ := hrel
      by_cases hlt : k < n
      · go_wp2_with (refine wpList_load_blk rfl 30 _ rfl w.heap.size _ rfl _ _ HA.out 32 5 (by kernel_rfl) (row_info size_hash _) ?_)
        refine (link_any seed [(k : Int)] (some ⟨wr.heap.size, 0, none⟩) 1 _ (fun _ => ⟨wr.heap.size, 0, rfl, fun j hj => ?_⟩) (Nat.le_refl _) (by simp)).mono ?_
        · obtain rfl : j = 0 := by simp at hj; exact hj
          exact cell_blk (alloc_blk _ _) 0
        rintro e w2 ⟨rfl, hB2⟩
        rw [show sha (ofF 32 seed ++ [(k : Int)]) = keyAt seed k from rfl]
        have hB2' : Below wr.heap.size wr w2 := (below_alloc _ _).trans (hB2.mono (by simp))
        have HA2 : Hid (w2.heap[w.heap.size]? = some (.cells (row .u8 32 seed) 30 (0, 0))) := Below.blk hB2' (lt_blk HA.out) HA.out
        have HR2 : Hid (w2.heap[w.heap.size + 1]? = some (.cells (row .u8 (32 * n) (upTo (32 * k) (keysF seed))) 30 (0, 0))) := Below.blk hB2' (lt_blk HR.out) HR.out
        have hBw2 : Below w.heap.size w w2 := hB.trans (hB2'.mono hB.size)
        clear hB2 hB2' HA HR hB
        go_wp2_with (refine wpList_store_hash rfl _ _ rfl (w.heap.size + 1) (k * 32) (keyAt seed k) rfl rfl _ _ _ HR2.out (by omega) ?_)
        intro w3 hR3 hK3
        rw [Nat.mul_comm k 32, keys_step] at hR3
        have HR3 : Hid (w3.heap[w.heap.size + 1]? = some (.cells (row .u8 (32 * n) (upTo (32 * (k + 1)) (keysF seed))) 30 (0, 0))) := hR3
        have HA3 : Hid (w3.heap[w.heap.size]? = some (.cells (row .u8 32 seed) 30 (0, 0))) := (hK3.block _ (lt_blk HA2.out) (by omega)).trans HA2.out
        have hB3 : Below w.heap.size w w3 := hBw2.trans (hK3.below (by omega) hBw2.size)
        clear hR3 hK3
        go_wp2_with fail
        exact ⟨⟨k + 1, by omega, by go_num, hB3, HA3, HR3⟩, by simp only [intOf]; omega⟩
      · obtain rfl : k = n := by omega
        go_wp2_with fail
        go_ret
        refine ⟨wr.heap.size, rfl, hB.size, ?_, hB.alloc hB.size _⟩
        rw [← HN.out]
        refine ⟨w.heap.size + 1, alloc_blk _ _, ?_, hn0, hn1⟩
        rw [row_congr (k := .u8) (n := 32 * k) (f := keysF seed) (g := upTo (32 * k) (keysF seed)) (fun j hj => (upTo_lt hj).symm)]
        exact alloc_blk_old HR.out _
end Go.Proofs.Yticpkpphjpgdbaa
