/- The reference's numbers of the rounds, and its block: sixty-four bytes. For every state and block. -/
import Derived.Test.YticpkpphjpgdbaaDigB
import Derived.Test.YticpkpphjpgdbaaInv3
namespace Go.Proofs.Yticpkpphjpgdbaa
open Go.RowKit Go.Dig Go.Sha Go.Inv

set_option maxRecDepth 10000 in
set_option maxHeartbeats 400000 in
theorem rk_any (w : World) : Calls Try.prog 48 #[] w fun e w' => e = .returned (.agg (row .u32 64 k256)) ∧ Below w.heap.size w w' := by
  have HZ : Hid ((Try.prog.info? 84).map (·.zero) = some (some (.agg (row .u32 64 (fun _ => 0))))) := zero_a64w
  go_enter Try.func48, Try.ntmps48
  go_wp2_with (first | refine wpList_alloc_row rfl 84 rfl _ HZ.out ?_ | refine wpList_build_to rfl _ _ rfl (row .u32 64 k256) (by kernel_rfl) ?_ | refine wpList_store_blk rfl 84 _ _ rfl w.heap.size _ rfl rfl _ _ (alloc_blk _ _) (row_info size_a64w _) (by rw [row_size, row_size]) (row_all _ _ _) ?_)
  rw [setRow_new]
  refine bodyPost_ret (v := .agg (row .u32 64 k256)) ?_ rfl ⟨rfl, (Below.refl _ _).alloc (Nat.le_refl _) _⟩
  exact results_cell_row rfl _ _ w.heap.size _ _ _ (.array 64 82) rfl (alloc_blk _ _) (by kernel_rfl) rfl (row_info size_a64w _)

theorem wrapS {x : Int} (h0 : -4611686018427387904 ≤ x) (h1 : x ≤ 4611686018427387904) : IntKind.i64.wrap x = x := by rw [IntKind.wrap_i64]; omega
theorem zero_a8w : (Try.prog.info? 83).map (·.zero) = some (some (.agg (row .u32 8 (fun _ => 0)))) := by kernel_rfl

/-- the block's memory: the state, the answer, the words -/
structure BlkM (w : World) (st : Nat → Int) (s : Nat) (ws : Nat → Int) (wr : World) : Prop where
  bel : Below w.heap.size w wr
  st : wr.heap[w.heap.size]? = some (.cells (row .u32 8 st) 83 (0, 0))
  an : wr.heap[w.heap.size + 1]? = some (.cells (row .u32 8 (fun _ => 0)) 83 (0, 0))
  ws : wr.heap[w.heap.size + 2]? = some (.cells (row .u32 64 (upTo s ws)) 84 (0, 0))
theorem BlkM.heap {w wr wr' : World} {st ws : Nat → Int} {s : Nat} (h : BlkM w st s ws wr) (e : wr' = wr.drew) : BlkM w st s ws wr' := by subst e; exact ⟨h.bel.drew, h.st, h.an, h.ws⟩
theorem BlkM.put {w wr : World} {st ws : Nat → Int} {k : Nat} (h : BlkM w st k ws wr) : BlkM w st (k + 1) ws (wr.setCell ⟨w.heap.size + 2, k, none⟩ (.int .u32 (ws k))) :=
  ⟨h.bel.setCell (p := ⟨w.heap.size + 2, _, none⟩) (by show w.heap.size ≤ w.heap.size + 2; omega) _, (set_blk_other _ _ (by omega)).trans h.st, (set_blk_other _ _ (by omega)).trans h.an, put_step h.ws rfl⟩
theorem BlkM.drew {w wr : World} {st ws : Nat → Int} {s : Nat} (h : BlkM w st s ws wr) : BlkM w st s ws wr.drew := ⟨h.bel.drew, h.st, h.an, h.ws⟩

theorem BlkM.grow {w wr wr' : World} {st ws : Nat → Int} {s : Nat} (h : BlkM w st s ws wr) (hB : Below wr.heap.size wr wr') : BlkM w st s ws wr' :=
  ⟨h.bel.trans (hB.mono h.bel.size), Below.blk hB (lt_blk h.st) h.st, Below.blk hB (lt_blk h.an) h.an, Below.blk hB (lt_blk h.ws) h.ws⟩
theorem BlkM.drewN {w wr : World} {st ws : Nat → Int} {s : Nat} (h : BlkM w st s ws wr) (n : Nat) : BlkM w st s ws (wr.drewN n) := ⟨⟨h.bel.os, h.bel.tape, h.bel.output, h.bel.size, h.bel.block⟩, h.st, h.an, h.ws⟩
theorem BlkM.setRow {w wr : World} {st ws : Nat → Int} {s q : Nat} (h : BlkM w st s ws wr) (hq : w.heap.size + 2 < q) (c : Array Value) : BlkM w st s ws (wr.setRow q c) := by
  have hb : Below w.heap.size wr (wr.setRow q c) := ⟨rfl, rfl, rfl, by simp [World.setRow], fun k hk => by simp only [World.setRow, Array.getElem?_modify]; rw [if_neg (by omega)]⟩
  have ho : ∀ k, k ≠ q → (wr.setRow q c).heap[k]? = wr.heap[k]? := fun k hk => by simp only [World.setRow, Array.getElem?_modify]; rw [if_neg (Ne.symm hk)]
  exact ⟨h.bel.trans hb, (ho _ (by omega)).trans h.st, (ho _ (by omega)).trans h.an, (ho _ (by omega)).trans h.ws⟩
theorem row_st (st : Nat → Int) : row .u32 8 st = row .u32 8 (stOf st).at := by
  apply row_congr
  intro j hj
  have : j = 0 ∨ j = 1 ∨ j = 2 ∨ j = 3 ∨ j = 4 ∨ j = 5 ∨ j = 6 ∨ j = 7 := by omega
  rcases this with rfl | rfl | rfl | rfl | rfl | rfl | rfl | rfl <;> rfl

set_option maxRecDepth 100000 in
set_option maxHeartbeats 4000000 in
theorem rblock_any (b o cap kq : Nat) (st bs : Nat → Int) (w : World) (hb : b < w.heap.size) (hc : ∀ j, j < 64 → w.cell? ⟨b, o + j, none⟩ = some (.int .u8 (bs j))) (hk : w.heap[kq]? = some (.cells (row .u32 64 k256) 84 (0, 0))) :
    Calls Try.prog 49 #[.agg (row .u32 8 st), .slice (some ⟨b, o, none⟩) 64 cap, .pointer (some ⟨kq, 0, none⟩)] w fun e w' => e = .returned (.agg (row .u32 8 (mixed st bs))) ∧ Below w.heap.size w w' := by
  have HC : Hid (∀ j, j < 64 → w.cell? ⟨b, o + j, none⟩ = some (.int .u8 (bs j))) := hc
  have HQ : Hid (w.heap[kq]? = some (.cells (row .u32 64 k256) 84 (0, 0))) := hk
  have HZ : Hid ((Try.prog.info? 84).map (·.zero) = some (some (.agg (row .u32 64 (fun _ => 0))))) := zero_a64w
  have HZ8 : Hid ((Try.prog.info? 83).map (·.zero) = some (some (.agg (row .u32 8 (fun _ => 0))))) := zero_a8w
  clear hc hk
  have hM0 : BlkM w st 0 (W bs) (((w.alloc (.cells (row .u32 8 st) 83)).alloc (.cells (row .u32 8 (fun _ => 0)) 83)).alloc (.cells (row .u32 64 (fun _ => 0)) 84)) := by
    have e1 : (w.alloc (.cells (row .u32 8 st) 83)).heap.size = w.heap.size + 1 := World.size_alloc _ _
    have e2 : ((w.alloc (.cells (row .u32 8 st) 83)).alloc (.cells (row .u32 8 (fun _ => 0)) 83)).heap.size = w.heap.size + 2 := by rw [World.size_alloc, e1]
    refine ⟨(((Below.refl _ _).alloc (Nat.le_refl _) _).alloc (by rw [e1]; omega) _).alloc (by rw [e2]; omega) _, alloc_blk_old (alloc_blk_old (alloc_blk _ _) _) _, alloc_blk_old ?_ _, ?_⟩
    · have := alloc_blk (w.alloc (.cells (row .u32 8 st) 83)) (.cells (row .u32 8 (fun _ => 0)) 83)
      rw [e1] at this; exact this
    · have := alloc_blk ((w.alloc (.cells (row .u32 8 st) 83)).alloc (.cells (row .u32 8 (fun _ => 0)) 83)) (.cells (row .u32 64 (fun _ => 0)) 84)
      rw [e2] at this; exact this
  have HM0 : Hid (BlkM w st 0 (W bs) (((w.alloc (.cells (row .u32 8 st) 83)).alloc (.cells (row .u32 8 (fun _ => 0)) 83)).alloc (.cells (row .u32 64 (fun _ => 0)) 84))) := hM0
  clear hM0
  go_enter Try.func49, Try.ntmps49
  go_wp2_with (first | refine wpList_box_row rfl 83 _ rfl _ rfl ?_ | refine wpList_alloc_row rfl 83 rfl _ HZ8.out ?_ | refine wpList_alloc_row rfl 84 rfl _ HZ.out ?_)
  go_loopw [8] (fun i wr => ∃ k : Nat, k ≤ 16 ∧ i = .int .i64 (k : Int) ∧ Hid (BlkM w st k (W bs) wr)) (fun i _ => 16 - (intOf i).toNat)
  case atStart => exact ⟨0, Nat.zero_le _, rfl, HM0⟩
  case round =>
    clear HM0
    obtain ⟨k, hk, rfl, HM⟩ := hrel
    by_cases hlt : k < 16
    · have hB := HM.out.bel
      have c0 : wr.cell? ⟨b, o + 4 * k, none⟩ = some (.int .u8 (bs (4 * k))) := (hB.cell (p := ⟨b, _, none⟩) hb).trans (HC.out _ (by omega))
      have c1 : wr.cell? ⟨b, o + (4 * k + 1), none⟩ = some (.int .u8 (bs (4 * k + 1))) := (hB.cell (p := ⟨b, _, none⟩) hb).trans (HC.out _ (by omega))
      have c2 : wr.cell? ⟨b, o + (4 * k + 2), none⟩ = some (.int .u8 (bs (4 * k + 2))) := (hB.cell (p := ⟨b, _, none⟩) hb).trans (HC.out _ (by omega))
      have c3 : wr.cell? ⟨b, o + (4 * k + 3), none⟩ = some (.int .u8 (bs (4 * k + 3))) := (hB.cell (p := ⟨b, _, none⟩) hb).trans (HC.out _ (by omega))
      have hs : wr.cell? ⟨w.heap.size + 2, k, none⟩ = some (.int .u32 (upTo k (W bs) k)) := (cell_blk HM.out.ws k).trans (row_get (by omega))
      have hf := frozen_blk HM.out.ws k
      clear hB
      go_wp2_with fail
      go_region
      rw [show bits BinOp.or IntKind.u32 (bits BinOp.or IntKind.u32 (bits BinOp.or IntKind.u32 (bs (4 * k) % 4294967296 * 16777216 % 4294967296) (bs (4 * k + 1) % 4294967296 * 65536 % 4294967296)) (bs (4 * k + 2) % 4294967296 * 256 % 4294967296)) (bs (4 * k + 3) % 4294967296) = W bs k from (W_low hlt).symm]
      go_wp2_with fail
      go_roundw
      case rel => exact ⟨k + 1, by omega, by go_num, (by show BlkM _ _ _ _ _; repeat (first | exact HM.out | refine BlkM.drew ?_ | refine BlkM.put ?_))⟩
      case measure => simp [intOf]; omega
    · obtain rfl : k = 16 := by omega
      simp only [show ((16 : Nat) : Int) = 16 from rfl]
      go_wp2_with fail
      go_loopw [9] (fun i wr => ∃ k : Nat, 16 ≤ k ∧ k ≤ 64 ∧ i = .int .i64 (k : Int) ∧ Hid (BlkM w st k (W bs) wr)) (fun i _ => 64 - (intOf i).toNat)
      case atStart => exact ⟨16, Nat.le_refl _, by omega, rfl, HM⟩
      case round =>
        clear HM hlt hk
        obtain ⟨k, hk0, hk, rfl, HM⟩ := hrel
        by_cases hlt : k < 64
        · have c0 : wr.cell? ⟨w.heap.size + 2, k - 15, none⟩ = some (.int .u32 (W bs (k - 15))) := by rw [cell_blk HM.out.ws, row_get (by omega), upTo_lt (by omega)]
          have c1 : wr.cell? ⟨w.heap.size + 2, k - 2, none⟩ = some (.int .u32 (W bs (k - 2))) := by rw [cell_blk HM.out.ws, row_get (by omega), upTo_lt (by omega)]
          go_wp2_with fail
          clear c0 c1
          rw [show decide ((k : Int) < 64) = true from decide_eq_true (by omega)]
          generalize Value.bool true = dk
          refine wp_region_last (by kernel_rfl) (by kernel_rfl) (fun xs => { tmps := (Value.agg (row IntKind.u32 8 st) :: Value.slice (some (⟨b, o, none⟩ : Addr)) 64 cap :: Value.pointer (some (⟨kq, 0, none⟩ : Addr)) :: Value.pointer (some (⟨w.heap.size, 0, none⟩ : Addr)) :: undef :: undef :: Value.pointer (some (⟨w.heap.size + 1, 0, none⟩ : Addr)) :: Value.pointer (some (⟨w.heap.size + 1 + 1, 0, none⟩ : Addr)) :: Value.int IntKind.i64 (16) :: Value.int IntKind.i64 ((k : Int)) :: Value.int IntKind.u32 (W bs (k - 15)) :: Value.int IntKind.u32 (W bs (k - 2)) :: undef :: undef :: undef :: undef :: undef :: undef :: undef :: Value.int IntKind.i64 (16) :: Value.bool false :: u21 :: u22 :: u23 :: u24 :: u25 :: u26 :: u27 :: u28 :: u29 :: u30 :: u31 :: u32 :: u33 :: u34 :: u35 :: u36 :: u37 :: u38 :: u39 :: u40 :: u41 :: u42 :: u43 :: u44 :: u45 :: u46 :: u47 :: u48 :: u49 :: u50 :: u51 :: u52 :: u53 :: u54 :: u55 :: u56 :: u57 :: Value.int IntKind.i64 ((k : Int)) :: dk :: u60 :: u61 :: Value.int IntKind.i64 ((k : Int)) :: Value.int IntKind.i64 ((k : Int) - 15) :: Value.pointer (some (⟨w.heap.size + 1 + 1, k - 15, none⟩ : Addr)) :: Value.int IntKind.u32 (W bs (k - 15)) :: Value.int IntKind.i64 ((k : Int)) :: Value.int IntKind.i64 ((k : Int) - 2) :: Value.pointer (some (⟨w.heap.size + 1 + 1, k - 2, none⟩ : Addr)) :: Value.int IntKind.u32 (W bs (k - 2)) :: xs 0 :: xs 1 :: xs 2 :: xs 3 :: xs 4 :: xs 5 :: xs 6 :: xs 7 :: xs 8 :: xs 9 :: xs 10 :: xs 11 :: xs 12 :: xs 13 :: xs 14 :: xs 15 :: xs 16 :: xs 17 :: xs 18 :: xs 19 :: xs 20 :: xs 21 :: xs 22 :: xs 23 :: xs 24 :: xs 25 :: xs 26 :: xs 27 :: xs 28 :: undef :: undef :: undef :: undef :: undef :: undef :: undef :: undef :: undef :: undef :: undef :: undef :: undef :: undef :: undef :: undef :: undef :: undef :: undef :: undef :: undef :: undef :: undef :: undef :: undef :: undef :: undef :: undef :: undef :: undef :: undef :: undef :: undef :: undef :: undef :: undef :: undef :: undef :: undef :: undef :: undef :: undef :: undef :: undef :: undef :: undef :: undef :: undef :: undef :: undef :: undef :: undef :: undef :: undef :: undef :: undef :: undef :: undef :: undef :: undef :: undef :: undef :: undef :: undef :: undef :: undef :: undef :: undef :: undef :: undef :: undef :: undef :: undef :: undef :: undef :: undef :: undef :: undef :: undef :: undef :: undef :: undef :: undef :: undef :: undef :: undef :: undef :: undef :: undef :: undef :: undef :: undef :: undef :: undef :: undef :: undef :: undef :: []).toArray, defers := [] })
            (fun ii xx _ => match ii with | 0 => xx = Value.int IntKind.i64 ((k : Int)) | 1 => xx = Value.int IntKind.i64 ((k : Int)) | 2 => xx = Value.int IntKind.i64 ((k : Int) - 16) | 3 => xx = Value.pointer (some (⟨w.heap.size + 1 + 1, k - 16, none⟩ : Addr)) | 4 => xx = Value.int IntKind.u32 (W bs (k - 16)) | 5 => xx = Value.int IntKind.u32 (W bs (k - 15)) | 6 => xx = Value.int IntKind.u32 (rot (W bs (k - 15)) 7) | 7 => xx = Value.int IntKind.u32 (W bs (k - 15)) | 8 => xx = Value.int IntKind.u32 (rot (W bs (k - 15)) 18) | 9 => xx = Value.int IntKind.u32 (bits BinOp.xor IntKind.u32 (rot (W bs (k - 15)) 7) (rot (W bs (k - 15)) 18)) | 10 => xx = Value.int IntKind.u32 (W bs (k - 15)) | 11 => xx = Value.int IntKind.u32 (W bs (k - 15) / 8) | 12 => xx = Value.int IntKind.u32 (s0 (W bs (k - 15))) | 13 => xx = Value.int IntKind.u32 ((W bs (k - 16) + s0 (W bs (k - 15))) % 4294967296) | 14 => xx = Value.int IntKind.i64 ((k : Int)) | 15 => xx = Value.int IntKind.i64 ((k : Int) - 7) | 16 => xx = Value.pointer (some (⟨w.heap.size + 1 + 1, k - 7, none⟩ : Addr)) | 17 => xx = Value.int IntKind.u32 (W bs (k - 7)) | 18 => xx = Value.int IntKind.u32 ((W bs (k - 16) + s0 (W bs (k - 15)) + W bs (k - 7)) % 4294967296) | 19 => xx = Value.int IntKind.u32 (W bs (k - 2)) | 20 => xx = Value.int IntKind.u32 (rot (W bs (k - 2)) 17) | 21 => xx = Value.int IntKind.u32 (W bs (k - 2)) | 22 => xx = Value.int IntKind.u32 (rot (W bs (k - 2)) 19) | 23 => xx = Value.int IntKind.u32 (bits BinOp.xor IntKind.u32 (rot (W bs (k - 2)) 17) (rot (W bs (k - 2)) 19)) | 24 => xx = Value.int IntKind.u32 (W bs (k - 2)) | 25 => xx = Value.int IntKind.u32 (W bs (k - 2) / 1024) | 26 => xx = Value.int IntKind.u32 (s1 (W bs (k - 2))) | 27 => xx = Value.int IntKind.u32 (W bs k) | 28 => xx = Value.pointer (some (⟨w.heap.size + 1 + 1, k, none⟩ : Addr)) | _ => True) (fun _ W1 => Hid (BlkM w st (k + 1) (W bs) W1)) (fun | 0 => u70 | 1 => u71 | 2 => u72 | 3 => u73 | 4 => u74 | 5 => u75 | 6 => u76 | 7 => u77 | 8 => u78 | 9 => u79 | 10 => u80 | 11 => u81 | 12 => u82 | 13 => u83 | 14 => u84 | 15 => u85 | 16 => u86 | 17 => u87 | 18 => u88 | 19 => u89 | 20 => u90 | 21 => u91 | 22 => u92 | 23 => u93 | 24 => u94 | 25 => u95 | 26 => u96 | 27 => u97 | 28 => u98 | _ => undef) (by repeat (first | exact trivial | refine ⟨fun _ _ => rfl, ?_⟩))
            (by intro i x w w' h hs; exact hs) (by simp) ⟨?_, ?_, ?_, ?_, ?_, ?_, ?_, ?_, ?_, ?_, ?_, ?_, ?_, ?_, ?_, ?_, ?_, ?_, ?_, ?_, ?_, ?_, ?_, ?_, ?_, ?_, ?_, ?_, ?_, ⟨rfl, by kernel_rfl, ?_⟩, trivial⟩ ?_
          · intro xs Wl hB hp K hK
            clear hp
            rw [if_pos (wanted_none rfl _)]
            go_simp
            exact hK _ _ (Below.refl _ _) rfl
          · intro xs Wl hB hp K hK
            clear hp
            rw [if_pos (wanted_none rfl _)]
            go_simp
            exact hK _ _ (Below.refl _ _) rfl
          · intro xs Wl hB hp K hK
            have h1 : xs 1 = Value.int IntKind.i64 ((k : Int)) := hp.1 rfl
            clear hp
            rw [if_pos (wanted_none rfl _)]
            simp only [h1] at hK ⊢
            clear h1
            go_simp
            exact hK _ _ (Below.refl _ _) (by show Value.int _ _ = _; rw [wrapS (by omega) (by omega)])
          · intro xs Wl hB hp K hK
            have h2 : xs 2 = Value.int IntKind.i64 ((k : Int) - 16) := hp.1 rfl
            clear hp
            rw [if_pos (wanted_none rfl _)]
            simp only [h2] at hK ⊢
            clear h2
            have i0 : (16 : Int) ≤ (k : Int) := by omega
            have i1 : (k : Int) - 16 < 64 := by omega
            have i2 : ((k : Int) - 16).toNat = k - 16 := by omega
            go_simp
            exact hK _ _ (Below.refl _ _) rfl
          · intro xs Wl hB hp K hK
            have h3 : xs 3 = Value.pointer (some (⟨w.heap.size + 1 + 1, k - 16, none⟩ : Addr)) := hp.1 rfl
            clear hp
            rw [if_pos (wanted_none rfl _)]
            simp only [h3] at hK ⊢
            clear h3
            have cc : Wl.cell? ⟨w.heap.size + 1 + 1, k - 16, none⟩ = some (.int .u32 (W bs (k - 16))) := (hB.cell (p := ⟨w.heap.size + 1 + 1, _, none⟩) (lt_blk HM.out.ws)).trans (by rw [show w.heap.size + 1 + 1 = w.heap.size + 2 from rfl, cell_blk HM.out.ws, row_get (by omega), upTo_lt (by omega)])
            go_simp
            exact hK _ _ (Below.refl _ _) rfl
          · intro xs Wl hB hp K hK
            clear hp
            rw [if_pos (wanted_none rfl _)]
            go_simp
            exact hK _ _ (Below.refl _ _) rfl
          · intro xs Wl hB hp K hK
            have h5 : xs 5 = Value.int IntKind.u32 (W bs (k - 15)) := hp.1 rfl
            clear hp
            rw [if_pos (wanted_none rfl _)]
            simp only [h5] at hK ⊢
            clear h5
            go_simp
            refine (rr_at _ _ _ (by decide) (by decide)).mono ?_
            rintro e w' ⟨rfl, rfl⟩
            exact hK _ _ (Below.refl _ _) rfl
          · intro xs Wl hB hp K hK
            clear hp
            rw [if_pos (wanted_none rfl _)]
            go_simp
            exact hK _ _ (Below.refl _ _) rfl
          · intro xs Wl hB hp K hK
            have h7 : xs 7 = Value.int IntKind.u32 (W bs (k - 15)) := hp.1 rfl
            clear hp
            rw [if_pos (wanted_none rfl _)]
            simp only [h7] at hK ⊢
            clear h7
            go_simp
            refine (rr_at _ _ _ (by decide) (by decide)).mono ?_
            rintro e w' ⟨rfl, rfl⟩
            exact hK _ _ (Below.refl _ _) rfl
          · intro xs Wl hB hp K hK
            have h6 : xs 6 = Value.int IntKind.u32 (rot (W bs (k - 15)) 7) := hp.1 rfl
            have h8 : xs 8 = Value.int IntKind.u32 (rot (W bs (k - 15)) 18) := hp.2.1 rfl
            clear hp
            rw [if_pos (wanted_none rfl _)]
            simp only [h6, h8] at hK ⊢
            clear h6 h8
            go_simp
            exact hK _ _ (Below.refl _ _) rfl
          · intro xs Wl hB hp K hK
            clear hp
            rw [if_pos (wanted_none rfl _)]
            go_simp
            exact hK _ _ (Below.refl _ _) rfl
          · intro xs Wl hB hp K hK
            have h10 : xs 10 = Value.int IntKind.u32 (W bs (k - 15)) := hp.1 rfl
            clear hp
            rw [if_pos (wanted_none rfl _)]
            simp only [h10] at hK ⊢
            clear h10
            go_simp
            exact hK _ _ (Below.refl _ _) rfl
          · intro xs Wl hB hp K hK
            have h9 : xs 9 = Value.int IntKind.u32 (bits BinOp.xor IntKind.u32 (rot (W bs (k - 15)) 7) (rot (W bs (k - 15)) 18)) := hp.1 rfl
            have h11 : xs 11 = Value.int IntKind.u32 (W bs (k - 15) / 8) := hp.2.1 rfl
            clear hp
            rw [if_pos (wanted_none rfl _)]
            simp only [h9, h11] at hK ⊢
            clear h9 h11
            go_simp
            exact hK _ _ (Below.refl _ _) rfl
          · intro xs Wl hB hp K hK
            have h4 : xs 4 = Value.int IntKind.u32 (W bs (k - 16)) := hp.1 rfl
            have h12 : xs 12 = Value.int IntKind.u32 (s0 (W bs (k - 15))) := hp.2.1 rfl
            clear hp
            rw [if_pos (wanted_none rfl _)]
            simp only [h4, h12] at hK ⊢
            clear h4 h12
            go_simp
            exact hK _ _ (Below.refl _ _) rfl
          · intro xs Wl hB hp K hK
            clear hp
            rw [if_pos (wanted_none rfl _)]
            go_simp
            exact hK _ _ (Below.refl _ _) rfl
          · intro xs Wl hB hp K hK
            have h14 : xs 14 = Value.int IntKind.i64 ((k : Int)) := hp.1 rfl
            clear hp
            rw [if_pos (wanted_none rfl _)]
            simp only [h14] at hK ⊢
            clear h14
            go_simp
            exact hK _ _ (Below.refl _ _) (by show Value.int _ _ = _; rw [wrapS (by omega) (by omega)])
          · intro xs Wl hB hp K hK
            have h15 : xs 15 = Value.int IntKind.i64 ((k : Int) - 7) := hp.1 rfl
            clear hp
            rw [if_pos (wanted_none rfl _)]
            simp only [h15] at hK ⊢
            clear h15
            have i0 : (7 : Int) ≤ (k : Int) := by omega
            have i1 : (k : Int) - 7 < 64 := by omega
            have i2 : ((k : Int) - 7).toNat = k - 7 := by omega
            go_simp
            exact hK _ _ (Below.refl _ _) rfl
          · intro xs Wl hB hp K hK
            have h16 : xs 16 = Value.pointer (some (⟨w.heap.size + 1 + 1, k - 7, none⟩ : Addr)) := hp.1 rfl
            clear hp
            rw [if_pos (wanted_none rfl _)]
            simp only [h16] at hK ⊢
            clear h16
            have cc : Wl.cell? ⟨w.heap.size + 1 + 1, k - 7, none⟩ = some (.int .u32 (W bs (k - 7))) := (hB.cell (p := ⟨w.heap.size + 1 + 1, _, none⟩) (lt_blk HM.out.ws)).trans (by rw [show w.heap.size + 1 + 1 = w.heap.size + 2 from rfl, cell_blk HM.out.ws, row_get (by omega), upTo_lt (by omega)])
            go_simp
            exact hK _ _ (Below.refl _ _) rfl
          · intro xs Wl hB hp K hK
            have h13 : xs 13 = Value.int IntKind.u32 ((W bs (k - 16) + s0 (W bs (k - 15))) % 4294967296) := hp.1 rfl
            have h17 : xs 17 = Value.int IntKind.u32 (W bs (k - 7)) := hp.2.1 rfl
            clear hp
            rw [if_pos (wanted_none rfl _)]
            simp only [h13, h17] at hK ⊢
            clear h13 h17
            go_simp
            exact hK _ _ (Below.refl _ _) (by show Value.int _ _ = _; rw [IntKind.wrap_u32']; congr 1; omega)
          · intro xs Wl hB hp K hK
            clear hp
            rw [if_pos (wanted_none rfl _)]
            go_simp
            exact hK _ _ (Below.refl _ _) rfl
          · intro xs Wl hB hp K hK
            have h19 : xs 19 = Value.int IntKind.u32 (W bs (k - 2)) := hp.1 rfl
            clear hp
            rw [if_pos (wanted_none rfl _)]
            simp only [h19] at hK ⊢
            clear h19
            go_simp
            refine (rr_at _ _ _ (by decide) (by decide)).mono ?_
            rintro e w' ⟨rfl, rfl⟩
            exact hK _ _ (Below.refl _ _) rfl
          · intro xs Wl hB hp K hK
            clear hp
            rw [if_pos (wanted_none rfl _)]
            go_simp
            exact hK _ _ (Below.refl _ _) rfl
          · intro xs Wl hB hp K hK
            have h21 : xs 21 = Value.int IntKind.u32 (W bs (k - 2)) := hp.1 rfl
            clear hp
            rw [if_pos (wanted_none rfl _)]
            simp only [h21] at hK ⊢
            clear h21
            go_simp
            refine (rr_at _ _ _ (by decide) (by decide)).mono ?_
            rintro e w' ⟨rfl, rfl⟩
            exact hK _ _ (Below.refl _ _) rfl
          · intro xs Wl hB hp K hK
            have h20 : xs 20 = Value.int IntKind.u32 (rot (W bs (k - 2)) 17) := hp.1 rfl
            have h22 : xs 22 = Value.int IntKind.u32 (rot (W bs (k - 2)) 19) := hp.2.1 rfl
            clear hp
            rw [if_pos (wanted_none rfl _)]
            simp only [h20, h22] at hK ⊢
            clear h20 h22
            go_simp
            exact hK _ _ (Below.refl _ _) rfl
          · intro xs Wl hB hp K hK
            clear hp
            rw [if_pos (wanted_none rfl _)]
            go_simp
            exact hK _ _ (Below.refl _ _) rfl
          · intro xs Wl hB hp K hK
            have h24 : xs 24 = Value.int IntKind.u32 (W bs (k - 2)) := hp.1 rfl
            clear hp
            rw [if_pos (wanted_none rfl _)]
            simp only [h24] at hK ⊢
            clear h24
            go_simp
            exact hK _ _ (Below.refl _ _) rfl
          · intro xs Wl hB hp K hK
            have h23 : xs 23 = Value.int IntKind.u32 (bits BinOp.xor IntKind.u32 (rot (W bs (k - 2)) 17) (rot (W bs (k - 2)) 19)) := hp.1 rfl
            have h25 : xs 25 = Value.int IntKind.u32 (W bs (k - 2) / 1024) := hp.2.1 rfl
            clear hp
            rw [if_pos (wanted_none rfl _)]
            simp only [h23, h25] at hK ⊢
            clear h23 h25
            go_simp
            exact hK _ _ (Below.refl _ _) rfl
          · intro xs Wl hB hp K hK
            have h18 : xs 18 = Value.int IntKind.u32 ((W bs (k - 16) + s0 (W bs (k - 15)) + W bs (k - 7)) % 4294967296) := hp.1 rfl
            have h26 : xs 26 = Value.int IntKind.u32 (s1 (W bs (k - 2))) := hp.2.1 rfl
            clear hp
            rw [if_pos (wanted_none rfl _)]
            simp only [h18, h26] at hK ⊢
            clear h18 h26
            go_simp
            exact hK _ _ (Below.refl _ _) (by show Value.int _ _ = _; rw [W_high (show ¬ k < 16 by omega), IntKind.wrap_u32']; unfold sum4; congr 1; omega)
          · intro xs Wl hB hp K hK
            have h0 : xs 0 = Value.int IntKind.i64 ((k : Int)) := hp.1 rfl
            clear hp
            rw [if_pos (wanted_none rfl _)]
            simp only [h0] at hK ⊢
            clear h0
            go_simp
            exact hK _ _ (Below.refl _ _) rfl
          · intro xs Wl hB hs K hK
            have h28 : xs 28 = Value.pointer (some (⟨w.heap.size + 1 + 1, k, none⟩ : Addr)) := hs 28 (by omega)
            have h27 : xs 27 = Value.int IntKind.u32 (W bs k) := hs 27 (by omega)
            simp only [h27, h28] at hK ⊢
            clear h27 h28 hs
            have HW : Hid (BlkM w st k (W bs) Wl) := ⟨HM.out.bel.trans (hB.mono HM.out.bel.size), Below.blk hB (lt_blk HM.out.st) HM.out.st, Below.blk hB (lt_blk HM.out.an) HM.out.an, Below.blk hB (lt_blk HM.out.ws) HM.out.ws⟩
            have cc : Wl.cell? ⟨w.heap.size + 1 + 1, k, none⟩ = some (.int .u32 (upTo k (W bs) k)) := (cell_blk HW.out.ws k).trans (row_get (by omega))
            have ff : Wl.frozen? ⟨w.heap.size + 1 + 1, k, none⟩ = false := frozen_blk HW.out.ws k
            go_simp
            exact hK undef _ HW.out.put
          · intro xs Wl HF
            go_wp2_with fail
            go_roundw
            case rel => exact ⟨k + 1, by omega, by omega, by go_num, HF⟩
            case measure => simp [intOf]; omega
        · obtain rfl : k = 64 := by omega
          simp only [show ((64 : Nat) : Int) = 64 from rfl]
          go_wp2_with (first | refine wpList_load_blk rfl 83 _ rfl w.heap.size _ rfl _ _ HM.out.st 8 82 (by kernel_rfl) (row_info size_a8w _) ?_ | refine wpList_alloc_row rfl 83 rfl _ HZ8.out ?_ | refine wpList_store_blk rfl 83 _ _ rfl wr.heap.size _ rfl rfl _ _ (alloc_blk _ _) (row_info size_a8w _) (by rw [row_size, row_size]) (row_all _ _ _) ?_)
          rw [setRow_new]
          have hM1 : BlkM w st 64 (W bs) (wr.alloc (.cells (row .u32 8 st) 83)) := HM.out.grow ((Below.refl _ _).alloc (Nat.le_refl _) _)
          have hV1 : (wr.alloc (.cells (row .u32 8 st) 83)).heap[wr.heap.size]? = some (.cells (row .u32 8 (stOf st).at) 83 (0, 0)) := by rw [alloc_blk, row_st]
          have hq : w.heap.size + 2 < wr.heap.size := lt_blk HM.out.ws
          clear HM hlt hk hk0
          generalize wr.heap.size = q at *
          generalize wr.alloc (.cells (row .u32 8 st) 83) = w1 at *
          have HM1 : Hid (BlkM w st 64 (W bs) w1) := hM1
          have HV1 : Hid (w1.heap[q]? = some (.cells (row .u32 8 (stOf st).at) 83 (0, 0))) := hV1
          clear hM1 hV1
          go_wp2_with fail
          go_loopw [13] (fun i wr => ∃ (k : Nat) (s : St), Hid (s = rounds (W bs) (stOf st) k) ∧ k ≤ 64 ∧ i = .int .i64 (k : Int) ∧ Hid (BlkM w st 64 (W bs) wr) ∧ Hid (wr.heap[q]? = some (.cells (row .u32 8 s.at) 83 (0, 0)))) (fun i _ => 64 - (intOf i).toNat)
          case atStart => exact ⟨0, stOf st, rfl, by omega, rfl, HM1, HV1⟩
          case round =>
            clear HM1 HV1
            obtain ⟨k, s, HS, hk, rfl, HM, HV⟩ := hrel
            by_cases hlt : k < 64
            · have v0 : wr.cell? ⟨q, 0, none⟩ = some (.int .u32 s.a) := (cell_blk HV.out 0).trans (row_get (by omega))
              have v1 : wr.cell? ⟨q, 1, none⟩ = some (.int .u32 s.b) := (cell_blk HV.out 1).trans (row_get (by omega))
              have v2 : wr.cell? ⟨q, 2, none⟩ = some (.int .u32 s.c) := (cell_blk HV.out 2).trans (row_get (by omega))
              have v3 : wr.cell? ⟨q, 3, none⟩ = some (.int .u32 s.d) := (cell_blk HV.out 3).trans (row_get (by omega))
              have v4 : wr.cell? ⟨q, 4, none⟩ = some (.int .u32 s.e) := (cell_blk HV.out 4).trans (row_get (by omega))
              have v5 : wr.cell? ⟨q, 5, none⟩ = some (.int .u32 s.f) := (cell_blk HV.out 5).trans (row_get (by omega))
              have v6 : wr.cell? ⟨q, 6, none⟩ = some (.int .u32 s.g) := (cell_blk HV.out 6).trans (row_get (by omega))
              have v7 : wr.cell? ⟨q, 7, none⟩ = some (.int .u32 s.h) := (cell_blk HV.out 7).trans (row_get (by omega))
              have ck : wr.cell? ⟨kq, k, none⟩ = some (.int .u32 (k256 k)) := by
                rw [cell_blk (Below.blk HM.out.bel (lt_blk HQ.out) HQ.out), row_get hlt]
              have cw : wr.cell? ⟨w.heap.size + 1 + 1, k, none⟩ = some (.int .u32 (W bs k)) := by
                rw [show w.heap.size + 1 + 1 = w.heap.size + 2 from rfl, cell_blk HM.out.ws, row_get hlt, upTo_lt hlt]
              go_wp2_with fail
              go_region
              replace v0 : (wr.drew).cell? ⟨q, 0, none⟩ = some (.int .u32 (s.a)) := v0
              replace v1 : (wr.drew).cell? ⟨q, 1, none⟩ = some (.int .u32 (s.b)) := v1
              replace v2 : (wr.drew).cell? ⟨q, 2, none⟩ = some (.int .u32 (s.c)) := v2
              replace v3 : (wr.drew).cell? ⟨q, 3, none⟩ = some (.int .u32 (s.d)) := v3
              replace v4 : (wr.drew).cell? ⟨q, 4, none⟩ = some (.int .u32 (s.e)) := v4
              replace v5 : (wr.drew).cell? ⟨q, 5, none⟩ = some (.int .u32 (s.f)) := v5
              replace v6 : (wr.drew).cell? ⟨q, 6, none⟩ = some (.int .u32 (s.g)) := v6
              replace v7 : (wr.drew).cell? ⟨q, 7, none⟩ = some (.int .u32 (s.h)) := v7
              replace ck : (wr.drew).cell? ⟨kq, k, none⟩ = some (.int .u32 (k256 k)) := ck
              replace cw : (wr.drew).cell? ⟨w.heap.size + 1 + 1, k, none⟩ = some (.int .u32 (W bs k)) := cw
              replace HM : Hid (BlkM w st 64 (W bs) wr.drew) := HM.out.drew
              replace HV : Hid (wr.drew.heap[q]? = some (.cells (row .u32 8 s.at) 83 (0, 0))) := HV.out
              generalize wr.drew = wd at *
              go_wp2_with fail
              go_quiet ((go_at_call 61; exact Calls.quiet_of_same (rr_at _ _ _ (by decide) (by decide))))
              rw [show ((s.h + bits .xor .u32 (bits .xor .u32 (rot s.e 6) (rot s.e 11)) (rot s.e 25) + bits .xor .u32 (bits .and .u32 s.e s.f) (bits .and .u32 (bits .xor .u32 (if IntKind.u32.signed = true then -1 else IntKind.u32.max) s.e) s.g) + k256 k) % 4294967296 + W bs k) % 4294967296 = T1 s (k256 k) (W bs k) from rfl]
              replace v0 : (wd.drewN nq).cell? ⟨q, 0, none⟩ = some (.int .u32 (s.a)) := v0
              replace v1 : (wd.drewN nq).cell? ⟨q, 1, none⟩ = some (.int .u32 (s.b)) := v1
              replace v2 : (wd.drewN nq).cell? ⟨q, 2, none⟩ = some (.int .u32 (s.c)) := v2
              replace v3 : (wd.drewN nq).cell? ⟨q, 3, none⟩ = some (.int .u32 (s.d)) := v3
              replace v4 : (wd.drewN nq).cell? ⟨q, 4, none⟩ = some (.int .u32 (s.e)) := v4
              replace v5 : (wd.drewN nq).cell? ⟨q, 5, none⟩ = some (.int .u32 (s.f)) := v5
              replace v6 : (wd.drewN nq).cell? ⟨q, 6, none⟩ = some (.int .u32 (s.g)) := v6
              replace v7 : (wd.drewN nq).cell? ⟨q, 7, none⟩ = some (.int .u32 (s.h)) := v7
              replace ck : (wd.drewN nq).cell? ⟨kq, k, none⟩ = some (.int .u32 (k256 k)) := ck
              replace cw : (wd.drewN nq).cell? ⟨w.heap.size + 1 + 1, k, none⟩ = some (.int .u32 (W bs k)) := cw
              replace HM : Hid (BlkM w st 64 (W bs) (wd.drewN nq)) := HM.out.drewN nq
              replace HV : Hid ((wd.drewN nq).heap[q]? = some (.cells (row .u32 8 s.at) 83 (0, 0))) := HV.out
              generalize wd.drewN nq = we at *
              clear nq
              generalize (s.h + bits BinOp.xor .u32 (bits BinOp.xor .u32 (rot s.e 6) (rot s.e 11)) (rot s.e 25) + bits BinOp.xor .u32 (bits BinOp.and .u32 s.e s.f) (bits BinOp.and .u32 (bits BinOp.xor .u32 (if IntKind.u32.signed = true then -1 else IntKind.u32.max) s.e) s.g) + k256 k) % 4294967296 = z1
              generalize bits BinOp.xor .u32 (bits BinOp.and .u32 s.e s.f) (bits BinOp.and .u32 (bits BinOp.xor .u32 (if IntKind.u32.signed = true then -1 else IntKind.u32.max) s.e) s.g) = z2
              generalize bits BinOp.xor .u32 (bits BinOp.xor .u32 (rot s.e 6) (rot s.e 11)) (rot s.e 25) = z3
              go_wp2_with fail
              go_quiet ((go_at_call 61; exact Calls.quiet_of_same (rr_at _ _ _ (by decide) (by decide))))
              rw [show (bits .xor .u32 (bits .xor .u32 (rot s.a 2) (rot s.a 13)) (rot s.a 22) + bits .xor .u32 (bits .xor .u32 (bits .and .u32 s.a s.b) (bits .and .u32 s.a s.c)) (bits .and .u32 s.b s.c)) % 4294967296 = T2 s from rfl]
              replace v0 : (we.drewN nq).cell? ⟨q, 0, none⟩ = some (.int .u32 (s.a)) := v0
              replace v1 : (we.drewN nq).cell? ⟨q, 1, none⟩ = some (.int .u32 (s.b)) := v1
              replace v2 : (we.drewN nq).cell? ⟨q, 2, none⟩ = some (.int .u32 (s.c)) := v2
              replace v3 : (we.drewN nq).cell? ⟨q, 3, none⟩ = some (.int .u32 (s.d)) := v3
              replace v4 : (we.drewN nq).cell? ⟨q, 4, none⟩ = some (.int .u32 (s.e)) := v4
              replace v5 : (we.drewN nq).cell? ⟨q, 5, none⟩ = some (.int .u32 (s.f)) := v5
              replace v6 : (we.drewN nq).cell? ⟨q, 6, none⟩ = some (.int .u32 (s.g)) := v6
              replace v7 : (we.drewN nq).cell? ⟨q, 7, none⟩ = some (.int .u32 (s.h)) := v7
              replace ck : (we.drewN nq).cell? ⟨kq, k, none⟩ = some (.int .u32 (k256 k)) := ck
              replace cw : (we.drewN nq).cell? ⟨w.heap.size + 1 + 1, k, none⟩ = some (.int .u32 (W bs k)) := cw
              replace HM : Hid (BlkM w st 64 (W bs) (we.drewN nq)) := HM.out.drewN nq
              replace HV : Hid ((we.drewN nq).heap[q]? = some (.cells (row .u32 8 s.at) 83 (0, 0))) := HV.out
              generalize we.drewN nq = wf at *
              go_wp2_with (first | refine wpList_build_to rfl 83 _ rfl (row .u32 8 (Sha.step s (k256 k) (W bs k)).at) (by kernel_rfl) ?_ | refine wpList_store_blk rfl 83 _ _ rfl q _ rfl rfl _ _ HV.out (row_info size_a8w _) (by rw [row_size, row_size]) (row_all _ _ _) ?_)
              exact ⟨⟨k + 1, Sha.step s (k256 k) (W bs k), (by show _ = _; rw [HS.out]; rfl), by omega, by go_num, HM.out.setRow hq _, setRow_heap wf q _ _ _ _ HV.out⟩, by simp only [intOf]; omega⟩
            · obtain rfl : k = 64 := by omega
              simp only [show ((64 : Nat) : Int) = 64 from rfl]
              go_wp2_with fail
              go_loopw [18] (fun i wr => ∃ k : Nat, k ≤ 8 ∧ i = .int .i64 (k : Int) ∧ Below w.heap.size w wr ∧ Hid (wr.heap[w.heap.size]? = some (.cells (row .u32 8 (mixTo k st s)) 83 (0, 0))) ∧ Hid (wr.heap[w.heap.size + 1]? = some (.cells (row .u32 8 (fun _ => 0)) 83 (0, 0))) ∧ Hid (wr.heap[q]? = some (.cells (row .u32 8 s.at) 83 (0, 0)))) (fun i _ => 8 - (intOf i).toNat)
              case atStart => exact ⟨0, by omega, rfl, HM.out.bel, HM.out.st, HM.out.an, HV⟩
              case round =>
                clear HM HV hlt hk
                obtain ⟨k, hk, rfl, hB, H0, H1, HV⟩ := hrel
                by_cases hlt : k < 8
                · have c0 : wr.cell? ⟨w.heap.size, k, none⟩ = some (.int .u32 (st k)) := by rw [cell_blk H0.out, row_get hlt]; simp [mixTo]
                  have c1 : wr.cell? ⟨q, k, none⟩ = some (.int .u32 (s.at k)) := (cell_blk HV.out k).trans (row_get hlt)
                  have f0 := frozen_blk H0.out k
                  go_wp2_with fail
                  go_region
                  go_wp2_with fail
                  go_roundw
                  case rel => exact ⟨k + 1, by omega, by go_num, (by repeat (first | exact hB | refine Below.drew ?_ | refine Below.setCell (p := ⟨w.heap.size, _, none⟩) ?_ (Nat.le_refl _) _)), (by show _ = _; refine (set_blk_row (w := wr) H0.out k _).trans ?_; rw [mixTo_put]), (set_blk_other (w := wr) _ _ (by omega)).trans H1.out, (set_blk_other (w := wr) _ _ (by omega)).trans HV.out⟩
                  case measure => simp [intOf]; omega
                · obtain rfl : k = 8 := by omega
                  simp only [show ((8 : Nat) : Int) = 8 from rfl]
                  go_wp2_with (first | refine wpList_load_blk rfl 83 _ rfl w.heap.size _ rfl _ _ H0.out 8 82 (by kernel_rfl) (row_info size_a8w _) ?_ | refine wpList_store_blk rfl 83 _ _ rfl (w.heap.size + 1) _ rfl rfl _ _ H1.out (row_info size_a8w _) (by rw [row_size, row_size]) (row_all _ _ _) ?_)
                  have hbw : Below w.heap.size w (wr.setRow (w.heap.size + 1) (row .u32 8 (mixTo 8 st s))) := hB.trans ⟨rfl, rfl, rfl, by simp [World.setRow], fun k hk => by simp only [World.setRow, Array.getElem?_modify]; rw [if_neg (by omega)]⟩
                  refine bodyPost_ret (v := .agg (row .u32 8 (mixed st bs))) ?_ rfl ⟨rfl, hbw⟩
                  rw [row_congr (k := .u32) (n := 8) (f := mixed st bs) (g := mixTo 8 st s) (fun j hj => by simp [mixTo, hj, mixed, HS.out])]
                  exact results_cell_row rfl _ _ (w.heap.size + 1) _ _ _ (.array 8 82) rfl (setRow_heap wr (w.heap.size + 1) _ _ _ _ H1.out) (by kernel_rfl) rfl (row_info size_a8w _)
end Go.Proofs.Yticpkpphjpgdbaa
