/- The reference's Sum is the digest. For rows of up to 2^39 bytes. -/
import Derived.Test.YticpkpphjpgdbaaRefA
import Derived.Test.YticpkpphjpgdbaaDigF
import Derived.Test.YticpkpphjpgdbaaOctA
namespace Go.Proofs.Yticpkpphjpgdbaa
open Go.RowKit Go.Dig Go.Sha Go.Inv

theorem own_form {w : World} {base : Nat} {e : TypeId} {v : Value} {n : Nat} {xs : List Value} (h : w.ownsRow base e 1 v n xs) (hn : 0 < n) : ∃ g cap, v = .slice (some ⟨g, 0, none⟩) n cap ∧ base ≤ g ∧ n ≤ cap ∧ g < w.heap.size := by
  rcases h.2 with ⟨_, h0⟩ | ⟨g, cap, cur, hv, hb, hh, hc, _⟩
  · omega
  · exact ⟨g, cap, hv, hb, hc, lt_blk hh⟩
theorem own_cells {w : World} {base g cap n : Nat} {e : TypeId} {M : List Int} (h : w.ownsRow base e 1 (.slice (some ⟨g, 0, none⟩) n cap) n (M.map (Value.int .u8))) (hn : n = M.length) : ∀ j, j < M.length → w.cell? ⟨g, j, none⟩ = some (.int .u8 (M.getD j 0)) := fun j hj => by
  rw [World.ownsRow.cellAt h j (by omega), List.getElem?_map, List.getD, List.getElem?_eq_getElem hj]; rfl
theorem one_byteR (w : World) (x : Int) (t : TypeId) : ∀ j, j < [x].length → (w.alloc (.cells #[.int .u8 x] t)).cell? ((⟨w.heap.size, 0, none⟩ : Addr).add j) = some (.int .u8 ([x].getD j 0)) := fun j hj => by
  obtain rfl : j = 0 := by simp at hj; exact hj
  rw [addr_add, cell_blk (alloc_blk _ _)]
  rfl
section
variable {ops : Array Oper} {rest : List Oper} {o : Oper} {a : Act} {w : World} {Q : Exit → Act → World → Prop}
/-- bytes are appended to bytes that the call owns -/
theorem wpList_appR (hgd : o.guard = none) (s x : Operand) (ho : o.op = .call { callee := .builtin .append, args := #[s, x], argTypes := #[22, 22] }) (base : Nat) (v : Value) (n : Nat) (M : List Int) (hs : a.eval s = v) (hown : w.ownsRow base 5 1 v n (M.map (Value.int .u8)))
    (ad : Addr) (m c : Nat) (N : List Int) (hx : a.eval x = .slice (some ad) m c) (hm : m = N.length) (hN : ∀ j, j < N.length → w.cell? (ad.add j) = some (.int .u8 (N.getD j 0))) (hb : n + m < 2199023255552) (hbase : base ≤ w.heap.size)
    (h : ∀ v' w', Hid (w'.ownsRow base 5 1 v' (n + m) ((M ++ N).map (Value.int .u8))) → Below base w w' → wpList Try.prog ops Q rest (a.put o.dst v') w') : wpList Try.prog ops Q (o :: rest) a w := by
  obtain ⟨i8, hi, hz0, hz1, hz2⟩ := info_parts info_u8
  refine wpList_append_own w hgd s x 22 ho base 5 i8 (.int .u8 0) 1 1 (by kernel_rfl) hi hz0 hz1 hz2 rfl (by omega) v n _ hs hown ad m c (N.map (Value.int .u8)) hx (by simp [hm]) (fun j u hu => ?_) (ints_oneCell _ _) (by unfold maxLen; omega) (by omega) hbase (fun v' w' h1 h2 _ => ?_)
  · have hj : j < N.length := by have := (List.getElem?_eq_some_iff.1 hu).1; simpa using this
    rw [hN j hj, ← hu, List.getElem?_map, List.getD, List.getElem?_eq_getElem hj]; rfl
  · exact h v' w' (by rw [List.map_append]; exact h1) ((Below.refl base w).grown h2 hbase (fun k hk => (World.ownsRow.lt hown k hk).1))
theorem wpList_appO (hgd : o.guard = none) (s x : Operand) (ho : o.op = .call { callee := .builtin .append, args := #[s, x], argTypes := #[22, 22] }) (base : Nat) (v : Value) (n : Nat) (M : List Int) (hs : a.eval s = v) (hown : w.ownsRow base 5 1 v n (M.map (Value.int .u8)))
    (ao : Option Addr) (m c : Nat) (N : List Int) (hx : a.eval x = .slice ao m c) (hm : m = N.length) (hN : Rowed w ao N c) (hb : n + m < 2199023255552) (hbase : base ≤ w.heap.size)
    (h : ∀ v' w', Hid (w'.ownsRow base 5 1 v' (n + m) ((M ++ N).map (Value.int .u8))) → Below base w w' → wpList Try.prog ops Q rest (a.put o.dst v') w') : wpList Try.prog ops Q (o :: rest) a w := by
  rcases hN with ⟨rfl, rfl, rfl⟩ | ⟨ad, rfl, hc⟩
  · subst hm
    obtain ⟨i8, hi, hz0, hz1, hz2⟩ := info_parts info_u8
    have hrun := run_append_owned_none (P := Try.prog) w base 22 o.type 5 i8 1 (by kernel_rfl) hi v n (M.map (Value.int .u8)) hown
    refine wpList_plain hgd fun K hK' => ?_
    unfold Oper.wp
    simp [execOp, ho, resolve, invoke, builtin, hs, hx, hrun, Result.andThen]
    exact hK' _ _ (h v w (by rw [List.append_nil]; exact hown) (Below.refl _ _))
  · exact wpList_appR hgd s x ho base v n M hs hown ad m c N hx hm hc hb hbase h
end
/-- so many noughts stand behind -/
def zeroed (B : List Int) (z : Nat) : List Int := B ++ 128 :: List.replicate z 0
theorem zeroed_length (B : List Int) (z : Nat) : (zeroed B z).length = B.length + 1 + z := by simp [zeroed]; omega
theorem zeroed_succ (B : List Int) (z : Nat) : zeroed B (z + 1) = zeroed B z ++ [0] := by
  unfold zeroed
  rw [List.replicate_succ', ← List.cons_append, ← List.append_assoc]
theorem zeroed_all (B : List Int) : zeroed B (gap B.length - 1) = B ++ padTo B.length 0 := by simp [zeroed, padTo, lens]

theorem heap_setRow_ne (w : World) {g k : Nat} (c : Array Value) (h : k ≠ g) : (w.setRow g c).heap[k]? = w.heap[k]? := by
  simp only [World.setRow, Array.getElem?_modify]; rw [if_neg (Ne.symm h)]
/-- what the reference's loop over the blocks keeps -/
structure SumL (w : World) (B : List Int) (S kq g n : Nat) (wr : World) : Prop where
  bel : Below w.heap.size w wr
  st : wr.heap[S]? = some (.cells (row .u32 8 (states (padded B) n)) 83 (0, 0))
  ks : wr.heap[kq]? = some (.cells (row .u32 64 k256) 84 (0, 0))
  an : wr.heap[w.heap.size]? = some (.cells (row .u8 32 (fun _ => 0)) 30 (0, 0))
  ms : ∀ j, j < (padded B).length → wr.cell? ⟨g, j, none⟩ = some (.int .u8 ((padded B).getD j 0))
theorem slice_bytes_lh (g l len cap : Nat) (L : Int) (hL : L = (l : Int)) (w : World) (h : l + 64 ≤ cap) :
    (Instr.slice 22 (.slice (some ⟨g, 0, none⟩) len cap) (some (.int .i64 L)) (some (.int .i64 (L + 64))) none).run Try.prog w = .ok (.slice (some ⟨g, l, none⟩) 64 (cap - l)) w := by
  subst hL
  have hs : (sizeOf 5).run Try.prog w = .ok 1 w := by simp [go_sem]
  have he : Try.prog.elem 22 = 5 := by kernel_rfl
  rw [run_slice_lh w 22 (some ⟨g, 0, none⟩) len cap (by kernel_rfl) .i64 .i64 _ _ (by omega) (by omega) (by omega), he, hs]
  have e : ((l : Int) + 64).toNat - l = 64 := by omega
  have hne : ¬ cap = l := by omega
  simp [sliced, hne, addr_add, e]

set_option maxRecDepth 10000 in
set_option maxHeartbeats 2000000 in
theorem rSum_rowed (B : List Int) (ao : Option Addr) (cap : Nat) (w : World) (hc : Rowed w ao B cap) (hz : B.length < 549755813888) :
    Calls Try.prog 37 #[.slice ao B.length cap] w fun e w' => e = .returned (.agg (row .u8 32 (sha B))) ∧ Below w.heap.size w w' := by
  have HZ : Hid ((Try.prog.info? 30).map (·.zero) = some (some (.agg (row .u8 32 (fun _ => 0))))) := zero_hash
  have HZ8 : Hid ((Try.prog.info? 83).map (·.zero) = some (some (.agg (row .u32 8 (fun _ => 0))))) := zero_a8w
  have HZ6 : Hid ((Try.prog.info? 84).map (·.zero) = some (some (.agg (row .u32 64 (fun _ => 0))))) := zero_a64w
  obtain ⟨i8, hi, hz0, hz1, hz2⟩ := info_parts info_u8
  have HI : Hid (Try.prog.info? 5 = some i8) := hi
  have HC : Hid (Rowed w ao B cap) := hc
  have hzc : (Value.int IntKind.u8 0).cells.size = 1 := rfl
  clear hi hc
  go_enter Try.func37, Try.ntmps37
  have hown0 : ((w.alloc (.cells (row .u8 32 (fun _ => 0)) 30)).alloc (.cells #[] 5)).ownsRow (w.heap.size + 1) 5 1 (.slice (some ⟨w.heap.size + 1, 0, none⟩) 0 0) 0 (([] : List Int).map (Value.int .u8)) := by
    refine ⟨rfl, .inr ⟨w.heap.size + 1, 0, #[], rfl, Nat.le_refl _, ?_, Nat.le_refl _, Nat.zero_le _, rfl, rfl⟩⟩
    have := alloc_blk (w.alloc (.cells (row .u8 32 (fun _ => 0)) 30)) (.cells #[] 5)
    rw [World.size_alloc] at this; exact this
  have HO0 : Hid (((w.alloc (.cells (row .u8 32 (fun _ => 0)) 30)).alloc (.cells #[] 5)).ownsRow (w.heap.size + 1) 5 1 (.slice (some ⟨w.heap.size + 1, 0, none⟩) 0 0) 0 (([] : List Int).map (Value.int .u8))) := hown0
  have hBA : Below w.heap.size w ((w.alloc (.cells (row .u8 32 (fun _ => 0)) 30)).alloc (.cells #[] 5)) := ((Below.refl _ _).alloc (Nat.le_refl _) _).alloc (by simp) _
  have HR0 : Hid (((w.alloc (.cells (row .u8 32 (fun _ => 0)) 30)).alloc (.cells #[] 5)).heap[w.heap.size]? = some (.cells (row .u8 32 (fun _ => 0)) 30 (0, 0))) := alloc_blk_old (alloc_blk _ _) _
  have hsA : ((w.alloc (.cells (row .u8 32 (fun _ => 0)) 30)).alloc (.cells #[] 5)).heap.size = w.heap.size + 2 := by simp
  have HN0 : Hid (Rowed ((w.alloc (.cells (row .u8 32 (fun _ => 0)) 30)).alloc (.cells #[] 5)) ao B cap) := HC.out.below hBA (Nat.le_refl _)
  clear hown0
  go_wp2_with (first | refine wpList_alloc_row rfl 30 rfl _ HZ.out ?_ | (at_builtin; refine wpList_appO rfl _ _ rfl (w.heap.size + 1) _ 0 [] rfl HO0.out ao B.length cap B rfl rfl HN0.out (by omega) (by rw [hsA]; omega) ?_))
  generalize (w.alloc (.cells (row .u8 32 (fun _ => 0)) 30)).alloc (.cells #[] 5) = wa at *
  intro v1 w1 HO1 hB1
  replace HO1 : Hid (w1.ownsRow (w.heap.size + 1) 5 1 v1 B.length (B.map (Value.int .u8))) := by simpa using HO1
  have hBw1 : Below w.heap.size w w1 := hBA.trans (hB1.mono (by omega))
  have HR1 : Hid (w1.heap[w.heap.size]? = some (.cells (row .u8 32 (fun _ => 0)) 30 (0, 0))) := Below.blk hB1 (by omega) HR0.out
  have hs1 : w.heap.size + 2 ≤ w1.heap.size := by have := hB1.size; omega
  clear HO0 HR0 hBA hB1 hsA HN0
  go_wp2_with (at_builtin; refine wpList_appR rfl _ _ rfl (w.heap.size + 1) _ B.length B rfl (World.ownsRow.alloc HO1.out _) ⟨w1.heap.size, 0, none⟩ 1 1 [128] rfl rfl (one_byteR _ _ _) (by omega) (by simp; omega) ?_)
  intro v2 w2 HO2 hB2
  replace HO2 : Hid (w2.ownsRow (w.heap.size + 1) 5 1 v2 (B.length + 1 + 0) ((zeroed B 0).map (Value.int .u8))) := by simpa [zeroed] using HO2
  have hBw2 : Below w.heap.size w w2 := (hBw1.alloc hBw1.size _).trans (hB2.mono (by omega))
  have HR2 : Hid (w2.heap[w.heap.size]? = some (.cells (row .u8 32 (fun _ => 0)) 30 (0, 0))) := Below.blk hB2 (by omega) (alloc_blk_old HR1.out _)
  have hs2 : w.heap.size + 2 ≤ w2.heap.size := by have := hB2.size; simp at this; omega
  clear HO1 HR1 hBw1 hB2 hs1
  go_wp2_with fail
  go_loopw [3] (fun v wr => ∃ z : Nat, z ≤ gap B.length - 1 ∧ Hid (wr.ownsRow (w.heap.size + 1) 5 1 v (B.length + 1 + z) ((zeroed B z).map (Value.int .u8))) ∧ Below w.heap.size w wr ∧ Hid (wr.heap[w.heap.size]? = some (.cells (row .u8 32 (fun _ => 0)) 30 (0, 0))) ∧ w.heap.size + 2 ≤ wr.heap.size) (fun v _ => B.length + 100 - lenV v)
  case atStart => exact ⟨0, by omega, HO2, hBw2, HR2, hs2⟩
  case round =>
    clear HO2 hBw2 HR2 hs2
    obtain ⟨z, hz', HO, hB, HR, hs⟩ := hrel
    obtain ⟨g, cp, rfl, hg, hcp, hgl⟩ := own_form HO.out (by omega)
    have hgp := gap_pos B.length
    by_cases hlt : z < gap B.length - 1
    · have hne : ¬ ((B.length : Int) + 1 + (z : Int)) % 64 = 56 := by unfold gap at hlt; omega
      go_wp2_with (at_builtin; refine wpList_appR rfl _ _ rfl (w.heap.size + 1) _ (B.length + 1 + z) (zeroed B z) rfl (World.ownsRow.alloc HO.out _) ⟨wr.heap.size, 0, none⟩ 1 1 [0] rfl rfl (one_byteR _ _ _) (by omega) (by simp; omega) ?_)
      intro v3 w3 HO3 hB3
      replace HO3 : Hid (w3.ownsRow (w.heap.size + 1) 5 1 v3 (B.length + 1 + (z + 1)) ((zeroed B (z + 1)).map (Value.int .u8))) := by rw [zeroed_succ, ← Nat.add_assoc]; simpa using HO3
      have hBw3 : Below w.heap.size w w3 := (hB.alloc hB.size _).trans (hB3.mono (by omega))
      have HR3 : Hid (w3.heap[w.heap.size]? = some (.cells (row .u8 32 (fun _ => 0)) 30 (0, 0))) := Below.blk hB3 (by omega) (alloc_blk_old HR.out _)
      have hs3 : w.heap.size + 2 ≤ w3.heap.size := by have := hB3.size; simp at this; omega
      have hl3 : lenV v3 = B.length + 1 + (z + 1) := by
        obtain ⟨g3, c3, e3, _⟩ := own_form HO3.out (by omega)
        rw [e3]; rfl
      have HL3 : Hid (lenV v3 = B.length + 1 + (z + 1)) := hl3
      clear HO hB HR hs hB3 hl3 hne
      go_wp2_with fail
      exact ⟨⟨z + 1, by omega, HO3, hBw3, HR3, hs3⟩, by rw [HL3.out]; simp only [lenV]; omega⟩
    · obtain rfl : z = gap B.length - 1 := by omega
      have heq : ((B.length : Int) + 1 + ((gap B.length - 1 : Nat) : Int)) % 64 = 56 := by unfold gap at *; omega
      rw [zeroed_all] at HO
      have hn0 : B.length + 1 + (gap B.length - 1) = B.length + gap B.length + 0 := by omega
      rw [hn0] at HO hcp
      simp only [hn0]
      obtain ⟨d, hd⟩ : ∃ d, d = B.length + gap B.length := ⟨_, rfl⟩
      have hm56 : ((d : Nat) : Int) % 64 = 56 := by rw [hd]; unfold gap at *; omega
      have hdz : d < 549755813888 + 65 := by omega
      have hd0 : 0 < d := by omega
      have HD : Hid (d = B.length + gap B.length) := hd
      rw [← hd] at HO hcp
      simp only [← hd]
      clear hd hn0 hgp hlt hz'
      clear heq
      go_wp2_with fail
      have HM56 : Hid (((d : Nat) : Int) % 64 = 56) := hm56
      clear hm56
      simp only [Nat.add_zero]
      go_loopw [3, 5] (fun v i wr => ∃ k : Nat, k ≤ 8 ∧ i = .int .i64 (7 - (k : Int)) ∧ Hid (wr.ownsRow (w.heap.size + 1) 5 1 v (d + k) ((B ++ padTo B.length k).map (Value.int .u8))) ∧ Below w.heap.size w wr ∧ Hid (wr.heap[w.heap.size]? = some (.cells (row .u8 32 (fun _ => 0)) 30 (0, 0))) ∧ w.heap.size + 2 ≤ wr.heap.size) (fun _ i _ => (intOf i + 1).toNat)
      case atStart => exact ⟨0, by omega, rfl, HO, hB, HR, hs⟩
      case round =>
        clear HO hB HR hs hcp hg hgl
        obtain ⟨k, hk, rfl, HO, hB, HR, hs⟩ := hrel
        obtain ⟨g2, cp2, rfl, hg2, hcp2, hgl2⟩ := own_form HO.out (by omega)
        by_cases hlt : k < 8
        · have hi0 : 0 ≤ 7 - (k : Int) := by omega
          have hlen : (B.length : Int) * 8 / 2 ^ (8 * (7 - k)) % 256 = lenB B.length k := by unfold lenB; rw [show 8 * (7 - k) = 56 - 8 * k by omega]
          go_wp2_with (at_builtin; refine wpList_appR rfl _ _ rfl (w.heap.size + 1) _ (d + k) (B ++ padTo B.length k) rfl (World.ownsRow.alloc HO.out _) ⟨wr.heap.size, 0, none⟩ 1 1 [lenB B.length k] rfl rfl (one_byteR _ _ _) (by omega) (by simp; omega) ?_)
          intro v3 w3 HO3 hB3
          replace HO3 : Hid (w3.ownsRow (w.heap.size + 1) 5 1 v3 (d + (k + 1)) ((B ++ padTo B.length (k + 1)).map (Value.int .u8))) := by rw [padTo_succ, ← Nat.add_assoc]; simpa using HO3
          have hBw3 : Below w.heap.size w w3 := (hB.alloc hB.size _).trans (hB3.mono (by omega))
          have HR3 : Hid (w3.heap[w.heap.size]? = some (.cells (row .u8 32 (fun _ => 0)) 30 (0, 0))) := Below.blk hB3 (by omega) (alloc_blk_old HR.out _)
          have hs3 : w.heap.size + 2 ≤ w3.heap.size := by have := hB3.size; simp at this; omega
          clear HO hB HR hs hB3 hlen
          go_wp2_with fail
          exact ⟨⟨k + 1, by omega, by rw [show (7 - ((k + 1 : Nat) : Int)) = 7 - (k : Int) - 1 by omega], HO3, hBw3, HR3, hs3⟩, by simp only [intOf]; omega⟩
        · obtain rfl : k = 8 := by omega
          have hL : (padded B).length = d + 8 := by rw [padded, pad, List.length_append, padTo_length, HD.out]; omega
          have HCM : Hid (∀ j, j < (padded B).length → wr.cell? ⟨g2, j, none⟩ = some (.int .u8 ((padded B).getD j 0))) := own_cells (M := padded B) HO.out hL.symm
          have hLm : (d + 8) % 64 = 0 := by have := HM56.out; omega
          clear HO hk hlt HM56
          have hLz : (padded B).length < 549755813888 + 80 := by omega
          rw [← hL] at hLm hcp2
          simp only [← hL]
          clear hL HD
          simp only [show (7 - ((8 : Nat) : Int)) = -1 from rfl]
          go_wp2_with (first | refine wpList_build_to rfl 83 _ rfl (row .u32 8 ini) (by kernel_rfl) ?_ | refine wpList_alloc_row rfl 83 rfl _ HZ8.out ?_ | refine wpList_store_blk rfl 83 _ _ rfl wr.heap.size _ rfl rfl _ _ (alloc_blk _ _) (row_info size_a8w _) (by rw [row_size, row_size]) (row_all _ _ _) ?_)
          rw [setRow_new]
          refine (rk_any _).mono ?_
          rintro e w3 ⟨rfl, hB3⟩
          have hBx : Below wr.heap.size wr w3 := ((Below.refl _ _).alloc (Nat.le_refl _) _).trans (hB3.mono (by simp))
          have hS3 : w3.heap[wr.heap.size]? = some (.cells (row .u32 8 ini) 83 (0, 0)) := Below.blk hB3 (by simp) (alloc_blk _ _)
          have HR3 : Hid (w3.heap[w.heap.size]? = some (.cells (row .u8 32 (fun _ => 0)) 30 (0, 0))) := Below.blk hBx (lt_blk HR.out) HR.out
          have HC3 : Hid (∀ j, j < (padded B).length → w3.cell? ⟨g2, j, none⟩ = some (.int .u8 ((padded B).getD j 0))) := fun j hj => (hBx.cell hgl2).trans (HCM.out j hj)
          have hBw3 : Below w.heap.size w w3 := hB.trans (hBx.mono hB.size)
          have hS3' : wr.heap.size < w3.heap.size := lt_blk hS3
          generalize wr.heap.size = S at *
          have HS3 : Hid (w3.heap[S]? = some (.cells (row .u32 8 ini) 83 (0, 0))) := hS3
          clear hB3 hBx hS3 HR HCM hB
          go_wp2_with (first | refine wpList_alloc_row rfl 84 rfl _ HZ6.out ?_ | refine wpList_store_blk rfl 84 _ _ rfl w3.heap.size _ rfl rfl _ _ (alloc_blk _ _) (row_info size_a64w _) (by rw [row_size, row_size]) (row_all _ _ _) ?_)
          rw [setRow_new]
          have HK4 : Hid ((w3.alloc (.cells (row .u32 64 k256) 84)).heap[w3.heap.size]? = some (.cells (row .u32 64 k256) 84 (0, 0))) := alloc_blk _ _
          have HS4 : Hid ((w3.alloc (.cells (row .u32 64 k256) 84)).heap[S]? = some (.cells (row .u32 8 ini) 83 (0, 0))) := alloc_blk_old HS3.out _
          have HR4 : Hid ((w3.alloc (.cells (row .u32 64 k256) 84)).heap[w.heap.size]? = some (.cells (row .u8 32 (fun _ => 0)) 30 (0, 0))) := alloc_blk_old HR3.out _
          have HC4 : Hid (∀ j, j < (padded B).length → (w3.alloc (.cells (row .u32 64 k256) 84)).cell? ⟨g2, j, none⟩ = some (.int .u8 ((padded B).getD j 0))) := fun j hj => (World.cell?_alloc_lt _ _ _ (by show g2 < w3.heap.size; omega)).trans (HC3.out j hj)
          have hB4 : Below w.heap.size w (w3.alloc (.cells (row .u32 64 k256) 84)) := hBw3.alloc hBw3.size _
          have hqS : S ≠ w3.heap.size := by omega
          clear HR3 HC3 HS3 hBw3
          generalize w3.heap.size = kq at *
          generalize w3.alloc (.cells (row .u32 64 k256) 84) = w4 at *
          go_wp2_with fail
          go_loopw [8] (fun i wr => ∃ n : Nat, 64 * n ≤ (padded B).length ∧ i = .int .i64 (64 * (n : Int)) ∧ Below w.heap.size w wr ∧ Hid (wr.heap[S]? = some (.cells (row .u32 8 (states (padded B) n)) 83 (0, 0))) ∧ Hid (wr.heap[kq]? = some (.cells (row .u32 64 k256) 84 (0, 0))) ∧ Hid (wr.heap[w.heap.size]? = some (.cells (row .u8 32 (fun _ => 0)) 30 (0, 0))) ∧ Hid (∀ j, j < (padded B).length → wr.cell? ⟨g2, j, none⟩ = some (.int .u8 ((padded B).getD j 0)))) (fun i _ => (padded B).length - (intOf i).toNat)
          case atStart => exact ⟨0, by omega, rfl, hB4, HS4, HK4, HR4, HC4⟩
          case round =>
            clear hB4 HS4 HK4 HR4 HC4
            obtain ⟨n, hn, rfl, hB, HS, HK, HR, HC⟩ := hrel
            by_cases hlt : 64 * n < (padded B).length
            · have hle : 64 * n + 64 ≤ (padded B).length := by omega
              have hsl : ∀ Wl : World, (Instr.slice 22 (.slice (some ⟨g2, 0, none⟩) (padded B).length cp2) (some (.int .i64 (64 * (n : Int)))) (some (.int .i64 (64 * (n : Int) + 64))) none).run Try.prog Wl = .ok (.slice (some ⟨g2, 64 * n, none⟩) 64 (cp2 - 64 * n)) Wl := fun Wl => slice_bytes_lh g2 (64 * n) _ cp2 _ (by omega) Wl (by omega)
              go_wp2_with fail
              rw [show decide (64 * (n : Int) < ((padded B).length : Int)) = true from decide_eq_true (by omega)]
              generalize Value.bool true = dk
              have hBw := hB
              have hSw : w.heap.size < S ∧ g2 ≠ S := ⟨by omega, by omega⟩
              refine wp_region_last (by kernel_rfl) (by kernel_rfl) (fun xs => { tmps := (Value.slice ao B.length cap :: undef :: Value.pointer (some (⟨w.heap.size, 0, none⟩ : Addr)) :: Value.slice (some (⟨g2, 0, none⟩ : Addr)) (padded B).length cp2 :: Value.int IntKind.u64 ((B.length : Int) * 8) :: Value.int IntKind.i64 (-1) :: Value.pointer (some (⟨S, 0, none⟩ : Addr)) :: Value.pointer (some (⟨kq, 0, none⟩ : Addr)) :: Value.int IntKind.i64 (64 * (n : Int)) :: undef :: undef :: Value.slice (some (⟨w.heap.size + 1, 0, none⟩ : Addr)) 0 0 :: Value.slice ao B.length cap :: v1 :: Value.slice (some (⟨w1.heap.size, 0, none⟩ : Addr)) 1 1 :: v2 :: Value.slice (some (⟨g, 0, none⟩ : Addr)) d cp :: Value.int IntKind.i64 ((d : Int)) :: Value.int IntKind.i64 ((d : Int) % 64) :: Value.bool false :: u20 :: u21 :: u22 :: Value.slice ao B.length cap :: Value.int IntKind.i64 ((B.length : Int)) :: Value.int IntKind.u64 ((B.length : Int)) :: Value.int IntKind.u64 ((B.length : Int) * 8) :: Value.int IntKind.i64 (-1) :: Value.bool false :: u29 :: u30 :: u31 :: u32 :: u33 :: u34 :: u35 :: u36 :: u37 :: u38 :: u39 :: Value.agg (row IntKind.u32 8 ini) :: Value.agg (row IntKind.u32 64 k256) :: Value.int IntKind.i64 (64 * (n : Int)) :: Value.slice (some (⟨g2, 0, none⟩ : Addr)) (padded B).length cp2 :: Value.int IntKind.i64 (((padded B).length : Int)) :: dk :: u46 :: u47 :: xs 0 :: xs 1 :: xs 2 :: xs 3 :: xs 4 :: xs 5 :: xs 6 :: undef :: undef :: undef :: undef :: undef :: undef :: undef :: undef :: undef :: undef :: undef :: undef :: undef :: undef :: undef :: undef :: undef :: undef :: []).toArray, defers := [] })
                (fun ii xx _ => match ii with | 0 => xx = Value.agg (row IntKind.u32 8 (states (padded B) n)) | 1 => xx = Value.slice (some (⟨g2, 0, none⟩ : Addr)) (padded B).length cp2 | 2 => xx = Value.int IntKind.i64 (64 * (n : Int)) | 3 => xx = Value.int IntKind.i64 (64 * (n : Int)) | 4 => xx = Value.int IntKind.i64 (64 * (n : Int) + 64) | 5 => xx = Value.slice (some (⟨g2, 64 * n, none⟩ : Addr)) 64 (cp2 - 64 * n) | 6 => xx = Value.agg (row IntKind.u32 8 (states (padded B) (n + 1))) | _ => True) (fun _ W1 => SumL w B S kq g2 (n + 1) W1) (fun | 0 => u48 | 1 => u49 | 2 => u50 | 3 => u51 | 4 => u52 | 5 => u53 | 6 => u54 | _ => undef) (by repeat (first | exact trivial | refine ⟨fun _ _ => rfl, ?_⟩))
                (by intro i x w w' h hs; exact hs) (by simp) ⟨?_, ?_, ?_, ?_, ?_, ?_, ?_, ⟨rfl, by kernel_rfl, ?_⟩, trivial⟩ ?_
              · intro xs Wl hB hp K hK
                clear hp
                rw [if_pos (wanted_none rfl _)]
                have hB' := hB
                exact wp_load_row _ _ rfl S rfl 83 _ (0, 0) (.array 8 82) (Below.blk hB' (lt_blk HS.out) HS.out) (by kernel_rfl) rfl (row_info size_a8w _) (hK _ _ (Below.refl _ _) rfl)
              · intro xs Wl hB hp K hK
                clear hp
                rw [if_pos (wanted_none rfl _)]
                go_simp
                exact hK _ _ (Below.refl _ _) rfl
              · intro xs Wl hB hp K hK
                clear hp
                rw [if_pos (wanted_none rfl _)]
                go_simp
                exact hK _ _ (Below.refl _ _) rfl
              · intro xs Wl hB hp K hK
                clear hp
                rw [if_pos (wanted_none rfl _)]
                go_simp
                exact hK _ _ (Below.refl _ _) rfl
              · intro xs Wl hB hp K hK
                have h3 : xs 3 = Value.int IntKind.i64 (64 * (n : Int)) := hp.1 rfl
                clear hp
                rw [if_pos (wanted_none rfl _)]
                simp only [h3] at hK ⊢
                clear h3
                go_simp
                exact hK _ _ (Below.refl _ _) (by show Value.int _ _ = _; rw [wrapS (by omega) (by omega)])
              · intro xs Wl hB hp K hK
                have h1 : xs 1 = Value.slice (some (⟨g2, 0, none⟩ : Addr)) (padded B).length cp2 := hp.1 rfl
                have h2 : xs 2 = Value.int IntKind.i64 (64 * (n : Int)) := hp.2.1 rfl
                have h4 : xs 4 = Value.int IntKind.i64 (64 * (n : Int) + 64) := hp.2.2.1 rfl
                clear hp
                rw [if_pos (wanted_none rfl _)]
                simp only [h1, h2, h4] at hK ⊢
                clear h1 h2 h4
                go_simp
                exact hK _ _ (Below.refl _ _) rfl
              · intro xs Wl hB hp K hK
                have h0 : xs 0 = Value.agg (row IntKind.u32 8 (states (padded B) n)) := hp.1 rfl
                have h5 : xs 5 = Value.slice (some (⟨g2, 64 * n, none⟩ : Addr)) 64 (cp2 - 64 * n) := hp.2.1 rfl
                clear hp
                rw [if_pos (wanted_none rfl _)]
                simp only [h0, h5] at hK ⊢
                clear h0 h5
                have hB' := hB
                go_simp
                refine (rblock_any g2 (64 * n) (cp2 - 64 * n) kq (states (padded B) n) (fun j => (padded B).getD (64 * n + j) 0) Wl (Nat.lt_of_lt_of_le (World.block_lt_of_cell? wr _ (HC.out 0 (by omega))) hB'.size) (fun j hj => (hB'.cell (World.block_lt_of_cell? wr _ (HC.out _ (by omega)))).trans (HC.out (64 * n + j) (by omega))) (Below.blk hB' (lt_blk HK.out) HK.out)).mono ?_
                rintro e w' ⟨rfl, hB2⟩
                exact hK _ _ hB2 rfl
              · intro xs Wl hB hs K hK
                have hB' := hB
                have h6 : xs 6 = Value.agg (row IntKind.u32 8 (states (padded B) (n + 1))) := hs 6 (by omega)
                refine wp_store_row _ _ _ rfl S (row .u32 8 (states (padded B) (n + 1))) rfl h6 _ _ (Below.blk hB' (lt_blk HS.out) HS.out) (row_info size_a8w _) (by rw [row_size, row_size]) (row_all _ _ _) (hK undef _ ⟨?_, ?_, ?_, ?_, ?_⟩)
                · exact below_setRow (hBw.trans (hB'.mono hBw.size)) (Nat.le_of_lt hSw.1) _
                · exact setRow_at (Below.blk hB' (lt_blk HS.out) HS.out) _
                · exact (heap_setRow_ne _ _ (Ne.symm hqS)).trans (Below.blk hB' (lt_blk HK.out) HK.out)
                · exact (heap_setRow_ne _ _ (Nat.ne_of_lt hSw.1)).trans (Below.blk hB' (lt_blk HR.out) HR.out)
                · exact fun j hj => (World.cell?_of_block (heap_setRow_ne _ _ hSw.2)).trans ((hB'.cell (World.block_lt_of_cell? wr _ (HC.out j hj))).trans (HC.out j hj))
              · intro xs Wl HF
                go_wp2_with fail
                exact ⟨⟨n + 1, by omega, by rw [show (64 * ((n + 1 : Nat) : Int)) = 64 * (n : Int) + 64 by omega], HF.bel, HF.st, HF.ks, HF.an, HF.ms⟩, by simp only [intOf]; omega⟩
            · have hnL : n = (padded B).length / 64 := by omega
              have HN : Hid (n = (padded B).length / 64) := hnL
              clear hnL
              go_wp2_with (refine wpList_alloc_row rfl 30 rfl _ HZ.out ?_)
              have hSw : w.heap.size < S := by omega
              have hSr := lt_blk HS.out
              have HH1 : Hid ((wr.alloc (.cells (row .u8 32 (fun _ => 0)) 30)).heap[wr.heap.size]? = some (.cells (row .u8 32 (upTo 0 (hashOf (states (padded B) n)))) 30 (0, 0))) := alloc_blk _ _
              have HS1 : Hid ((wr.alloc (.cells (row .u8 32 (fun _ => 0)) 30)).heap[S]? = some (.cells (row .u32 8 (states (padded B) n)) 83 (0, 0))) := alloc_blk_old HS.out _
              have HR1 : Hid ((wr.alloc (.cells (row .u8 32 (fun _ => 0)) 30)).heap[w.heap.size]? = some (.cells (row .u8 32 (fun _ => 0)) 30 (0, 0))) := alloc_blk_old HR.out _
              have hB1 : Below w.heap.size w (wr.alloc (.cells (row .u8 32 (fun _ => 0)) 30)) := hB.alloc hB.size _
              have hqw : w.heap.size < wr.heap.size := by omega
              clear HS HR HK HC hB hlt hn
              generalize wr.heap.size = hq at *
              generalize wr.alloc (.cells (row .u8 32 (fun _ => 0)) 30) = wb at *
              obtain ⟨stF, HST⟩ : ∃ f, Hid (f = states (padded B) ((padded B).length / 64)) := ⟨_, rfl⟩
              rw [show states (padded B) n = stF by rw [HST.out, ← HN.out]] at HH1 HS1
              go_wp2_with fail
              go_loopw [10] (fun i wr => ∃ k : Nat, k ≤ 32 ∧ i = .int .i64 (k : Int) ∧ Below w.heap.size w wr ∧ Hid (wr.heap[hq]? = some (.cells (row .u8 32 (upTo k (hashOf stF))) 30 (0, 0))) ∧ Hid (wr.heap[S]? = some (.cells (row .u32 8 stF) 83 (0, 0))) ∧ Hid (wr.heap[w.heap.size]? = some (.cells (row .u8 32 (fun _ => 0)) 30 (0, 0)))) (fun i _ => 32 - (intOf i).toNat)
              case atStart => exact ⟨0, by omega, rfl, hB1, HH1, HS1, HR1⟩
              case round =>
                clear HH1 HS1 HR1 hB1
                obtain ⟨k, hk, rfl, hB, HH, HS, HR⟩ := hrel
                by_cases hlt : k < 32
                · have c0 : wr.cell? ⟨S, k / 4, none⟩ = some (.int .u32 (stF (k / 4))) := (cell_blk HS.out _).trans (row_get (by omega))
                  have c1 : wr.cell? ⟨hq, k, none⟩ = some (.int .u8 (upTo k (hashOf stF) k)) := (cell_blk HH.out _).trans (row_get hlt)
                  have f1 := frozen_blk HH.out k
                  have t1 : ((k : Int) / 4).toNat = k / 4 := by omega
                  have t2 : 0 ≤ 24 - 8 * ((k : Int) % 4) := by omega
                  have t3 : (24 - 8 * ((k : Int) % 4)).toNat = 24 - 8 * (k % 4) := by omega
                  go_wp2_with fail
                  rw [show stF (k / 4) / 2 ^ (24 - 8 * (k % 4)) % 256 = hashOf stF k from rfl]
                  exact ⟨⟨k + 1, by omega, by go_num, hB.setCell (p := ⟨hq, _, none⟩) (Nat.le_of_lt hqw) _, (by show _ = _; rw [set_blk_row HH.out, upTo_put]), (set_blk_other _ _ (by omega)).trans HS.out, (set_blk_other _ _ (by omega)).trans HR.out⟩, by simp only [intOf]; omega⟩
                · obtain rfl : k = 32 := by omega
                  simp only [show ((32 : Nat) : Int) = 32 from rfl]
                  go_wp2_with (first | refine wpList_load_blk rfl 30 _ rfl hq _ rfl _ _ HH.out 32 5 (by kernel_rfl) (row_info size_hash _) ?_ | refine wpList_store_blk rfl 30 _ _ rfl w.heap.size _ rfl rfl _ _ HR.out (row_info size_hash _) (by rw [row_size, row_size]) (row_all _ _ _) ?_)
                  refine bodyPost_ret (v := .agg (row .u8 32 (sha B))) ?_ rfl ⟨rfl, below_setRow hB (Nat.le_refl _) _⟩
                  rw [show row .u8 32 (sha B) = row .u8 32 (upTo 32 (hashOf stF)) from row_congr (fun j hj => by rw [upTo_lt hj, HST.out]; rfl)]
                  exact results_cell_row rfl _ _ w.heap.size _ _ _ (.array 32 5) rfl (setRow_at HR.out _) (by kernel_rfl) rfl (row_info size_hash _)
theorem rSum_any (B : List Int) (b o cap : Nat) (w : World) (hc : ∀ j, j < B.length → w.cell? ⟨b, o + j, none⟩ = some (.int .u8 (B.getD j 0))) (hz : B.length < 549755813888) :
    Calls Try.prog 37 #[.slice (some ⟨b, o, none⟩) B.length cap] w fun e w' => e = .returned (.agg (row .u8 32 (sha B))) ∧ Below w.heap.size w w' :=
  rSum_rowed B (some ⟨b, o, none⟩) cap w (.inr ⟨_, rfl, fun j hj => by rw [addr_add]; exact hc j hj⟩) hz
end Go.Proofs.Yticpkpphjpgdbaa
