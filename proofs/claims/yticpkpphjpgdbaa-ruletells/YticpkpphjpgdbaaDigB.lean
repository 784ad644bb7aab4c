/- digest's mix: the state grows by the block. For every state and block. -/
import Derived.Test.YticpkpphjpgdbaaDigC
namespace Go.Proofs.Yticpkpphjpgdbaa
open Go.RowKit Go.Dig Go.Sha

theorem drewN_heap (w : World) (n : Nat) : (w.drewN n).heap = w.heap := rfl
theorem keeps_drewN {b : Nat} {x y : World} (h : Keeps b x y) (n : Nat) : Keeps b x (y.drewN n) := ⟨h.os, h.tape, h.output, h.size, h.block⟩
theorem sumAt_drewN {w : World} {g : Nat} {st bs : Nat → Int} {size : Int} (h : Hid (SumAt w g st bs size)) (n : Nat) : Hid (SumAt (w.drewN n) g st bs size) := by
  show _ = _; rw [drewN_heap]; exact h
theorem heap_drewN {w : World} {g : Nat} {o : Obj} (h : Hid (w.heap[g]? = some o)) (n : Nat) : Hid ((w.drewN n).heap[g]? = some o) := by
  show _ = _; rw [drewN_heap]; exact h
/-- the first k words are mixed -/
def mixTo (k : Nat) (st : Nat → Int) (s : St) : Nat → Int := fun j => if j < k then (st j + s.at j) % 4294967296 else st j
theorem mixTo_put (k : Nat) (st : Nat → Int) (s : St) : put (mixTo k st s) k ((st k + s.at k) % 4294967296) = mixTo (k + 1) st s := by
  funext j
  unfold put mixTo
  by_cases h : j = k
  · subst h; simp
  · by_cases h2 : j < k
    · simp [h, h2, Nat.lt_succ_of_lt h2]
    · simp [h, h2, show ¬ j < k + 1 by omega]
theorem SumAt.congr {w : World} {g : Nat} {st st' bs bs' : Nat → Int} {size : Int} (h : SumAt w g st bs size) (e : ∀ j, j < 8 → st j = st' j) (e' : ∀ j, j < 64 → bs j = bs' j) : SumAt w g st' bs' size := by
  have : sumRow st bs size = sumRow st' bs' size := by unfold sumRow; rw [row_congr e, row_congr e']
  unfold SumAt at *; rw [← this]; exact h
theorem SumAt.mixStep {w w' : World} {g : Nat} {st bs : Nat → Int} {size : Int} {s : St} {k : Nat} (h : SumAt w g (mixTo k st s) bs size) (hk : k < 8) (e : w'.heap = (w.setCell ⟨g, k, none⟩ (.int .u32 ((st k + s.at k) % 4294967296))).heap) : SumAt w' g (mixTo (k + 1) st s) bs size := by
  have := h.setSt hk _ e
  rw [mixTo_put] at this; exact this

set_option maxRecDepth 100000 in
set_option maxHeartbeats 1000000 in
theorem mix_any (g : Nat) (st bs : Nat → Int) (size : Int) (w : World) (h : SumAt w g st bs size) :
    Calls Try.prog 63 #[.pointer (some ⟨g, 0, none⟩)] w fun e w' => e = .returned (.tuple #[]) ∧ SumAt w' g (mixed st bs) bs size ∧ Keeps g w w' := by
  have HZ : Hid ((Try.prog.info? 84).map (·.zero) = some (some (.agg (row .u32 64 (fun _ => 0))))) := zero_a64w
  go_enter Try.func63, Try.ntmps63
  go_wp2_with fail
  refine (spread_any g 72 bs w h.lt (fun j hj => h.b hj)).mono ?_
  rintro e w1 ⟨rfl, hB⟩
  have h1 := h.below hB h.lt
  have hkeep : Keeps g w w1 := Keeps.of_below hB
  go_wp2_with (first | refine wpList_alloc_row rfl 84 rfl _ HZ.out ?_ | refine wpList_store_blk rfl 84 _ _ rfl w1.heap.size _ rfl rfl _ _ (alloc_blk _ _) (row_info size_a64w _) (by rw [row_size, row_size]) (row_all _ _ _) ?_)
  rw [setRow_new]
  have h2 : SumAt (w1.alloc (.cells (row .u32 64 (W bs)) 84)) g st bs size := alloc_blk_old h1 _
  have hw2 : (w1.alloc (.cells (row .u32 64 (W bs)) 84)).heap[w1.heap.size]? = some (.cells (row .u32 64 (W bs)) 84 (0, 0)) := alloc_blk _ _
  have hk2 : Keeps g w (w1.alloc (.cells (row .u32 64 (W bs)) 84)) := hkeep.trans (Keeps.of_below ((Below.refl _ _).alloc (Nat.le_refl _) _))
  have hqg : w1.heap.size ≠ g := by have := h1.lt; omega
  clear hB h1 hkeep h
  generalize w1.heap.size = q at *
  generalize w1.alloc (.cells (row .u32 64 (W bs)) 84) = w2 at *
  have c0 := h2.st (j := 0) (by decide)
  have c1 := h2.st (j := 1) (by decide)
  have c2 := h2.st (j := 2) (by decide)
  have c3 := h2.st (j := 3) (by decide)
  have c4 := h2.st (j := 4) (by decide)
  have c5 := h2.st (j := 5) (by decide)
  have c6 := h2.st (j := 6) (by decide)
  have c7 := h2.st (j := 7) (by decide)
  have HW : Hid (w2.heap[q]? = some (.cells (row .u32 64 (W bs)) 84 (0, 0))) := hw2
  have HS : Hid (SumAt w2 g st bs size) := h2
  clear hw2 h2
  simp only [Act.put, List.setIfInBounds_toArray, List.set_cons_succ, List.set_cons_zero]
  go_region
  go_wp2_with fail
  go_region
  go_wp2_with fail
  go_loopw [3, 4, 5, 6, 7, 8, 9, 10, 60] (fun xa xb xc xd xe xf xg xh i wr => ∃ (k : Nat) (s : St), Hid (s = rounds (W bs) (stOf st) k) ∧ k ≤ 64 ∧ i = .int .i64 (k : Int) ∧ xa = .int .u32 s.a ∧ xb = .int .u32 s.b ∧ xc = .int .u32 s.c ∧ xd = .int .u32 s.d ∧ xe = .int .u32 s.e ∧ xf = .int .u32 s.f ∧ xg = .int .u32 s.g ∧ xh = .int .u32 s.h ∧ Keeps g w wr ∧ Hid (SumAt wr g st bs size) ∧ Hid (wr.heap[q]? = some (.cells (row .u32 64 (W bs)) 84 (0, 0)))) (fun _ _ _ _ _ _ _ _ i _ => 64 - (intOf i).toNat)
  case atStart => exact ⟨0, stOf st, rfl, by omega, rfl, rfl, rfl, rfl, rfl, rfl, rfl, rfl, rfl, hk2.drew.drew, HS, HW⟩
  case round =>
    clear hk2 HS HW c0 c1 c2 c3 c4 c5 c6 c7
    obtain ⟨k, s, HR, hk, rfl, rfl, rfl, rfl, rfl, rfl, rfl, rfl, rfl, hK, HS, HW⟩ := hrel
    by_cases hlt : k < 64
    · have c0 : wr.cell? ⟨g, 8 + k, none⟩ = some (.int .u32 (k256 k)) := HS.out.k hlt
      have c1 : wr.cell? ⟨q, k, none⟩ = some (.int .u32 (W bs k)) := (cell_blk HW.out k).trans (row_get hlt)
      go_wp2_with fail
      go_quiet ((go_at_call 73; exact Calls.quiet_of_same (turn_at _ _ _ (by decide) (by decide))))
      have HT : Hid (T1 s (k256 k) (W bs k) = T1 s (k256 k) (W bs k)) := rfl
      unfold T1 at HT
      rw [show ((s.h + bits .xor .u32 (bits .xor .u32 (rot s.e 6) (rot s.e 11)) (rot s.e 25) + bits .xor .u32 (bits .and .u32 s.e s.f) (bits .and .u32 (bits .xor .u32 (if IntKind.u32.signed = true then -1 else IntKind.u32.max) s.e) s.g) + k256 k) % 4294967296 + W bs k) % 4294967296 = T1 s (k256 k) (W bs k) from rfl]
      clear HT
      generalize (s.h + bits BinOp.xor .u32 (bits BinOp.xor .u32 (rot s.e 6) (rot s.e 11)) (rot s.e 25) + bits BinOp.xor .u32 (bits BinOp.and .u32 s.e s.f) (bits BinOp.and .u32 (bits BinOp.xor .u32 (if IntKind.u32.signed = true then -1 else IntKind.u32.max) s.e) s.g) + k256 k) % 4294967296 = z1
      generalize bits BinOp.xor .u32 (bits BinOp.and .u32 s.e s.f) (bits BinOp.and .u32 (bits BinOp.xor .u32 (if IntKind.u32.signed = true then -1 else IntKind.u32.max) s.e) s.g) = z2
      generalize bits BinOp.xor .u32 (bits BinOp.xor .u32 (rot s.e 6) (rot s.e 11)) (rot s.e 25) = z3
      go_wp2_with (go_at_call 73; refine (turn_at _ _ _ (by decide) (by decide)).mono ?_; rintro e w' ⟨rfl, rfl⟩)
      exact ⟨⟨k + 1, Sha.step s (k256 k) (W bs k), (by show _ = _; rw [HR.out]; rfl), by omega, by go_num, rfl, rfl, rfl, rfl, rfl, rfl, rfl, rfl, keeps_drewN hK nq, sumAt_drewN HS nq, heap_drewN HW nq⟩, by simp [intOf]; omega⟩
    · obtain rfl : k = 64 := by omega
      simp only [show ((64 : Nat) : Int) = 64 from rfl]
      go_wp2_with fail
      rw [show #[Value.int .u32 s.a, Value.int .u32 s.b, Value.int .u32 s.c, Value.int .u32 s.d, Value.int .u32 s.e, Value.int .u32 s.f, Value.int .u32 s.g, Value.int .u32 s.h] = row .u32 8 s.at from rfl]
      go_loopw [135] (fun i wr => ∃ k : Nat, k ≤ 8 ∧ i = .int .i64 (k : Int) ∧ Keeps g w wr ∧ Hid (SumAt wr g (mixTo k st s) bs size)) (fun i _ => 8 - (intOf i).toNat)
      case atStart => exact ⟨0, by omega, rfl, hK, HS⟩
      case round =>
        clear hK HS HW hk hlt
        obtain ⟨k, hk, rfl, hK, HS⟩ := hrel
        by_cases hlt : k < 8
        · have hix := index_st s.at k hlt wr
          have c0 : wr.cell? ⟨g, k, none⟩ = some (.int .u32 (st k)) := by rw [HS.out.st hlt]; simp [mixTo]
          have f0 := HS.out.fr k
          go_wp2_with fail
          go_region
          go_wp2_with fail
          go_roundw
          case rel => exact ⟨k + 1, by omega, by go_num, (by repeat (first | exact hK | refine Keeps.drew ?_ | refine Keeps.setCell ?_ _ _)), SumAt.mixStep HS.out hlt rfl⟩
          case measure => simp [intOf]; omega
        · obtain rfl : k = 8 := by omega
          simp only [show ((8 : Nat) : Int) = 8 from rfl]
          go_wp2_with fail
          refine bodyPost_end (v := .tuple #[]) (by simp [results, Try.results63, go_sem]) rfl ?_
          exact ⟨rfl, HS.out.congr (fun j hj => by simp [mixTo, hj, mixed, HR.out]) (fun _ _ => rfl), hK⟩
end Go.Proofs.Yticpkpphjpgdbaa
