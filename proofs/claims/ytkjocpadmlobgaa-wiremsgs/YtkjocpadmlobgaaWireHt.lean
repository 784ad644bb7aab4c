/- A digest out of bytes: takeHash. For rows of up to 2^38 bytes. -/
import Derived.Test.YtkjocpadmlobgaaWireNw
import Derived.Test.YtkjocpadmlobgaaWireK
import Derived.Laws.IdiomCopy
namespace Go.Proofs.Ytkjocpadmlobgaa
open Go.RowKit Go.Dig Go.Inv Go.Oct
set_option linter.unusedVariables false

theorem zero_hash : (Try.prog.info? 25).map (·.zero) = some (some (.agg (row .u8 32 (fun _ => 0)))) := by kernel_rfl
theorem u8_info : (Try.prog.info? 5).map (·.size) = some 1 := by kernel_rfl
theorem size_setCells (g : Nat) : ∀ (vs : List Value) (o : Nat) (w : World), (w.setCells g o vs).heap.size = w.heap.size
  | [], _, _ => rfl
  | v :: t, o, w => by rw [World.setCells, size_setCells g t]; simp [World.setCell]
/-- a digest out of bytes -/
def hashF (D : List Int) : Nat → Int := fun j => D.getD j 0
set_option maxRecDepth 10000 in
/-- thirty-two bytes are copied into a digest -/
theorem copy_hash (hb sb so c : Nat) (D : List Int) (ty : TypeId) (w : World) (hD : D.length = 32) (hh : w.heap[hb]? = some (.cells (row .u8 32 (fun _ => 0)) 25 (0, 0))) (hs : ∀ j, j < 32 → w.cell? ((⟨sb, so, none⟩ : Addr).add j) = some (.int .u8 (D.getD j 0))) :
    ∃ w', (Builtin.copy_ #[22, 22] ty #[.slice (some ⟨hb, 0, none⟩) 32 32, .slice (some ⟨sb, so, none⟩) 32 c]).run Try.prog w = .ok (.int .i64 32) w' ∧ w'.heap[hb]? = some (.cells (row .u8 32 (hashF D)) 25 (0, 0)) ∧ Keeps hb w w' ∧ w'.heap.size = w.heap.size := by
  have hl : (D.map (Value.int .u8)).length = 32 := by rw [List.length_map, hD]
  have h := run_copy_cells (P := Try.prog) w 22 22 ty 5 hb 0 32 32 ⟨sb, so, none⟩ 32 c (D.map (Value.int .u8)) (by kernel_rfl) u8_info (by rw [hl]; rfl) (fun j v hj => by
      have hjl : j < 32 := by have := (List.getElem?_eq_some_iff.1 hj).1; rw [hl] at this; exact this
      rw [hs j hjl, ← hj, List.getElem?_map, List.getD, List.getElem?_eq_getElem (by omega)]
      rfl) (fun j hj => by rw [hl] at hj; rw [cell_blk hh, row_get (by omega)]; rfl) (fun j hj => frozen_blk hh _) (ints_oneCell _ _)
  rw [hl] at h
  refine ⟨_, h, ?_, (Keeps.refl _ _).setCells _ _, ?_⟩
  · obtain ⟨cur, h1, h2, h3⟩ := setCells_blk hb 25 (D.map (Value.int .u8)) 0 w _ hh
    rw [h1]
    congr 2
    apply Array.ext_getElem?
    intro k
    rw [h3, hl, row_size]
    by_cases hk : k < 32
    · rw [if_pos ⟨Nat.zero_le _, by omega, hk⟩, row_get hk, Nat.sub_zero, List.getElem?_map, List.getElem?_eq_getElem (by omega)]
      simp [hashF, List.getD, show k < D.length by omega]
    · rw [if_neg (by omega), row_get_none (by omega), row_get_none (by omega)]
  · exact size_setCells hb _ 0 w
theorem wpList_load_hashP {ops : Array Oper} {rest : List Oper} {o : Oper} {a : Act} {w : World} {Q : Exit → Act → World → Prop} (hgd : o.guard = none) (x : Operand) (ho : o.op = .load 25 x) (b off : Nat) (hx : a.eval x = .pointer (some ⟨b, off, none⟩)) (f : Nat → Int) (hc : HashAt w b off f) (h : wpList Try.prog ops Q rest (a.put o.dst (.agg (row .u8 32 f))) w) : wpList Try.prog ops Q (o :: rest) a w :=
  wpList_plain hgd fun _ hK => wp_load_hash x ho b off hx f hc (hK _ _ h)
/-- what holds while a digest is taken, in whatever order -/
structure HaI (w0 : World) (r hb : Nat) (L : List Int) (li : Nat → Bool) (xs : Nat → Value) (W : World) : Prop where
  bel : Below r w0 W
  oth : ∀ k, k < w0.heap.size → k ≠ r → k ≠ hb → W.heap[k]? = w0.heap[k]?
  d0 : li 0 = true → xs 0 = .slice (some ⟨hb, 0, none⟩) 32 32
  d1 : li 1 = true → xs 1 = .pointer (some ⟨r, 0, none⟩)
  pre : li 2 = false → RdL W r L ∧ W.heap[hb]? = some (.cells (row .u8 32 (fun _ => 0)) 25 (0, 0))
  mid : li 2 = true → ∃ (ao : Option Addr) (c : Nat) (D L' : List Int), xs 2 = .slice ao D.length c ∧ (D = [] ∨ D.length = 32) ∧ (∀ x ∈ D, 0 ≤ x ∧ x < 256) ∧ RdL W r L' ∧ TookB L L' D 32 ∧ L'.length ≤ L.length ∧
    (li 3 = false → Rowed W ao D c ∧ W.heap[hb]? = some (.cells (row .u8 32 (fun _ => 0)) 25 (0, 0))) ∧ (li 3 = true → W.heap[hb]? = some (.cells (row .u8 32 (hashF D)) 25 (0, 0)))
  late : li 3 = true → li 2 = true
section
variable {w0 : World} {r hb : Nat} {L : List Int} {li : Nat → Bool} {xs : Nat → Value} {W : World}
theorem HaI.s0 (h : HaI w0 r hb L li xs W) : HaI w0 r hb L (upd li 0 true) (upd xs 0 (.slice (some ⟨hb, 0, none⟩) 32 32)) W := ⟨h.bel, h.oth, fun _ => rfl, h.d1, h.pre, h.mid, h.late⟩
theorem HaI.s1 (h : HaI w0 r hb L li xs W) : HaI w0 r hb L (upd li 1 true) (upd xs 1 (.pointer (some ⟨r, 0, none⟩))) W := ⟨h.bel, h.oth, h.d0, fun _ => rfl, h.pre, h.mid, h.late⟩
theorem HaI.s2 (h : HaI w0 r hb L li xs W) (hr : r < hb) (e : li 2 = false) {W' : World} {v : Value} {B : Nat} {D L' : List Int} (hO : OwnB W' B v D) (hD : D = [] ∨ (D.length : Int) = 32) (hy : ∀ x ∈ D, 0 ≤ x ∧ x < 256) (hK : Keeps r W W') (hR : RdL W' r L') (hT : TookB L L' D 32) (hl : L'.length ≤ L.length) :
    HaI w0 r hb L (upd li 2 true) (upd xs 2 v) W' := by
  obtain ⟨hRL, hh⟩ := h.pre e
  have h3 : li 3 = false := by
    cases h3 : li 3 with
    | false => rfl
    | true => rw [h.late h3] at e; cases e
  obtain ⟨ao, n, c, rfl, hF⟩ := hO.form
  obtain ⟨rfl, hc, hRo⟩ := hF.out
  refine ⟨h.bel.trans (hK.below (Nat.le_refl _) (Nat.le_of_lt hRL.lt)), fun k hk h1 h2 => (hK.block k (Nat.lt_of_lt_of_le hk h.bel.size) h1).trans (h.oth k hk h1 h2), h.d0, h.d1, (fun e => by rw [upd_same] at e; cases e), fun _ => ⟨ao, c, D, L', rfl, ?_, hy, hR, hT, hl, fun _ => ⟨hRo, (hK.block _ (lt_blk hh) (by omega)).trans hh⟩, fun e3 => ?_⟩, fun _ => rfl⟩
  · rcases hD with h | h
    · exact .inl h
    · exact .inr (by omega)
  · have e3 : li 3 = true := e3
    rw [h3] at e3; cases e3
theorem HaI.s3 (h : HaI w0 r hb L li xs W) (hr : r < hb) (e : li 2 = true) {ao : Option Addr} {c : Nat} {D L' : List Int} (h2 : xs 2 = .slice ao D.length c) (hD : D = [] ∨ D.length = 32) (hy : ∀ x ∈ D, 0 ≤ x ∧ x < 256) (hR : RdL W r L') (hT : TookB L L' D 32) (hl : L'.length ≤ L.length)
    {W' : World} (hK : Keeps hb W W') (hh : W'.heap[hb]? = some (.cells (row .u8 32 (hashF D)) 25 (0, 0))) (x : Value) :
    HaI w0 r hb L (upd li 3 true) (upd xs 3 x) W' := by
  have hrW := hR.lt
  have hbs : ∀ k, k ≤ r → W'.heap[k]? = W.heap[k]? := fun k hk => hK.block k (by omega) (by omega)
  refine ⟨⟨hK.os.trans h.bel.os, hK.tape.trans h.bel.tape, hK.output.trans h.bel.output, Nat.le_trans h.bel.size hK.size, fun k hk => (hbs k (by omega)).trans (h.bel.block k hk)⟩, fun k hk h1 h2 => (hK.block k (Nat.lt_of_lt_of_le hk h.bel.size) h2).trans (h.oth k hk h1 h2), h.d0, h.d1, (fun e2 => by have e2 : li 2 = false := e2; rw [e] at e2; cases e2), fun _ => ⟨ao, c, D, L', h2, hD, hy, hR.same hbs, hT, hl, (fun e => by rw [upd_same] at e; cases e), fun _ => hh⟩, fun _ => e⟩
end
set_option maxRecDepth 10000 in
set_option maxHeartbeats 2000000 in
theorem takeHash_str (r : Nat) (L : List Int) (w : World) (h : RdL w r L) : Calls Try.prog 76 #[.pointer (some ⟨r, 0, none⟩)] w fun e w' => ∃ D, e = .returned (.agg (row .u8 32 (hashF D))) ∧ (∀ x ∈ D, 0 ≤ x ∧ x < 256) ∧ (∃ L', RdL w' r L' ∧ TookB L L' D 32 ∧ L'.length ≤ L.length) ∧ Keeps r w w' := by
  have hrw := h.lt
  have HZ : Hid ((Try.prog.info? 25).map (·.zero) = some (some (.agg (row .u8 32 (fun _ => 0))))) := zero_hash
  have hs1 : (w.alloc (.cells (row .u8 32 (fun _ => 0)) 25)).heap.size = w.heap.size + 1 := by simp
  have HB2 : Hid (Below w.heap.size w ((w.alloc (.cells (row .u8 32 (fun _ => 0)) 25)).alloc (.cells (row .u8 32 (fun _ => 0)) 25))) := ((Below.refl _ _).alloc (Nat.le_refl _) _).alloc (by simp) _
  have HR2 : Hid (RdL ((w.alloc (.cells (row .u8 32 (fun _ => 0)) 25)).alloc (.cells (row .u8 32 (fun _ => 0)) 25)) r L) := h.same (fun k hk => HB2.out.block k (by omega))
  have HH : Hid (((w.alloc (.cells (row .u8 32 (fun _ => 0)) 25)).alloc (.cells (row .u8 32 (fun _ => 0)) 25)).heap[w.heap.size + 1]? = some (.cells (row .u8 32 (fun _ => 0)) 25 (0, 0))) := by
    have := alloc_blk (w.alloc (.cells (row .u8 32 (fun _ => 0)) 25)) (.cells (row .u8 32 (fun _ => 0)) 25)
    rw [hs1] at this
    exact this
  have H0 : Hid (((w.alloc (.cells (row .u8 32 (fun _ => 0)) 25)).alloc (.cells (row .u8 32 (fun _ => 0)) 25)).heap[w.heap.size]? = some (.cells (row .u8 32 (fun _ => 0)) 25 (0, 0))) := alloc_blk_old (alloc_blk _ _) _
  have HZ2 : Hid (((w.alloc (.cells (row .u8 32 (fun _ => 0)) 25)).alloc (.cells (row .u8 32 (fun _ => 0)) 25)).heap.size = w.heap.size + 2) := by show _ = _; simp
  clear h hs1
  have hsl := slice_hash
  go_enter Try.func76, Try.ntmps76
  go_wp2_with (first | refine wpList_alloc_row rfl 25 rfl _ HZ.out ?_ | fail)
  generalize (w.alloc (.cells (row .u8 32 (fun _ => 0)) 25)).alloc (.cells (row .u8 32 (fun _ => 0)) 25) = w2 at *
  refine wp_region_steps (by kernel_rfl) (by kernel_rfl) (fun xs => { tmps := (.pointer (some ⟨r, 0, none⟩) :: undef :: .pointer (some ⟨w.heap.size, 0, none⟩) :: .pointer (some ⟨w.heap.size + 1, 0, none⟩) :: xs 0 :: xs 1 :: xs 2 :: xs 3 :: undef :: []).toArray, defers := [] })
    (HaI w2 r (w.heap.size + 1) L) (fun _ => undef) (by repeat (first | exact trivial | refine ⟨fun _ _ => rfl, ?_⟩))
    ⟨(Below.refl _ _).drew, fun _ _ _ _ => rfl, (fun e => by cases e), (fun e => by cases e), fun _ => ⟨HR2.out.same (fun _ _ => rfl), HH.out⟩, (fun e => by cases e), (fun e => by cases e)⟩ ⟨?_, ?_, ?_, ?_, trivial⟩ ?_
  · intro li xs W hI hli hp K hK
    rw [if_pos (wanted_none rfl _)]
    clear hp
    go_simp
    exact hK _ _ hI.s0
  · intro li xs W hI hli hp K hK
    rw [if_pos (wanted_none rfl _)]
    clear hp
    go_simp
    exact hK _ _ hI.s1
  · intro li xs W hI hli hp K hK
    rw [if_pos (wanted_none rfl _)]
    have h1 : xs 1 = _ := hI.d1 (hp.1 rfl)
    clear hp
    simp only [h1] at hK ⊢
    clear h1
    go_simp
    refine (rdRaw_str r L 32 W (hI.pre hli).1 (inI_lit (by decide) (by decide))).mono ?_
    rintro e w' ⟨v', rfl, D, hO, hDl, hD, hy, hk, L', hr', hT, hl⟩
    exact hK _ _ (hI.s2 (by omega) hli hO hD hy hk hr' hT hl)
  · intro li xs W hI hli hp K hK
    rw [if_pos (wanted_none rfl _)]
    have l2 : li 2 = true := hp.2.1 rfl
    have h0 : xs 0 = _ := hI.d0 (hp.1 rfl)
    obtain ⟨ao, c, D, L', h2, hD, hy, hR, hT, hl, hm, -⟩ := hI.mid l2
    have hli : li 3 = false := hli
    obtain ⟨hRo, hh⟩ := hm hli
    clear hp
    rcases hD with rfl | hD
    · have hrun := fun ty => run_copy_none (P := Try.prog) W 22 22 ty 5 (some ⟨w.heap.size + 1, 0, none⟩) ao 32 32 0 c (by kernel_rfl) u8_info (by rfl)
      have HX := fun x => hI.s3 (by omega) l2 h2 (.inl rfl) hy hR hT hl (Keeps.refl _ _) hh x
      simp only [h0, h2, List.length_nil] at hK ⊢
      clear h0 h2 hI
      go_simp
      exact hK _ _ (HX _)
    · obtain ⟨sb, so, e1, hcl⟩ := hRo.at (fun e => by rw [e] at hD; cases hD)
      subst e1
      have hcp := fun ty => copy_hash (w.heap.size + 1) sb so c D ty W hD hh (fun j hj => by rw [addr_add]; exact hcl j (by omega))
      have HX := fun W' hK hh x => hI.s3 (W' := W') (by omega) l2 h2 (.inr hD) hy hR hT hl hK hh x
      rw [hD] at h2
      simp only [h0, h2] at hK ⊢
      clear h0 h2 hI
      obtain ⟨w', hrun, hh', hk', hs'⟩ := hcp 3
      go_simp
      exact hK _ _ (HX _ hk' hh' _)
  · intro li xs W hI hall
    have h0 := hI.d0 (hall 0 (by simp))
    have h1 := hI.d1 (hall 1 (by simp))
    obtain ⟨ao, c, D, L', h2, hD, hy, hR, hT, hl, -, hm⟩ := hI.mid (hall 2 (by simp))
    have HD : Hid (W.heap[w.heap.size + 1]? = some (.cells (row .u8 32 (hashF D)) 25 (0, 0))) := hm (hall 3 (by simp))
    have HO : Hid (Keeps r w W ∧ W.heap[w.heap.size]? = some (.cells (row .u8 32 (fun _ => 0)) 25 (0, 0))) := by
      refine ⟨⟨hI.bel.os.trans HB2.out.os, hI.bel.tape.trans HB2.out.tape, hI.bel.output.trans HB2.out.output, Nat.le_trans HB2.out.size hI.bel.size, fun k hk hr => (hI.oth k (by rw [HZ2.out]; omega) hr (by omega)).trans (HB2.out.block k hk)⟩, (hI.oth _ (by rw [HZ2.out]; omega) (by omega) (by omega)).trans H0.out⟩
    have HP : Hid ((∀ x ∈ D, 0 ≤ x ∧ x < 256) ∧ RdL W r L' ∧ TookB L L' D 32 ∧ L'.length ≤ L.length) := ⟨hy, hR, hT, hl⟩
    simp only [h0, h1, h2]
    clear h0 h1 h2 hI hall hD hy hR hT hl hm HB2 HR2 HH H0 HZ2 HZ
    generalize xs 3 = x3
    clear xs
    go_wp2_with (first | (refine wpList_load_hashP rfl _ rfl (w.heap.size + 1) 0 ?_ (hashF D) ?_ ?_; rfl; exact hashAt_blk HD.out) | (refine wpList_store_blk rfl 25 _ _ rfl w.heap.size (row .u8 32 (hashF D)) ?_ ?_ 25 (row .u8 32 (fun _ => 0)) ?_ ?_ ?_ ?_ ?_; rfl; rfl; exact HO.out.2; exact row_info size_hash _; (rw [row_size, row_size]); exact row_all _ _ _))
    have HE : Hid ((W.setRow w.heap.size (row .u8 32 (hashF D))).heap[w.heap.size]? = some (.cells (row .u8 32 (hashF D)) 25 (0, 0))) := setRow_blk HO.out.2 _
    have hkE : Keeps r w (W.setRow w.heap.size (row .u8 32 (hashF D))) := ⟨HO.out.1.os, HO.out.1.tape, HO.out.1.output, Nat.le_trans HO.out.1.size (keeps_setRow W w.heap.size _).size, fun k hk hr => ((keeps_setRow W w.heap.size _).block k (Nat.lt_of_lt_of_le hk HO.out.1.size) (by omega)).trans (HO.out.1.block k hk hr)⟩
    obtain ⟨d, hd1, hd2⟩ := hash_row
    refine bodyPost_ret (v := .agg (row .u8 32 (hashF D))) ?_ rfl ⟨D, rfl, HP.out.1, ⟨L', HP.out.2.1.same (fun k hk => (keeps_setRow W w.heap.size _).block k (by have := HP.out.2.1.lt; omega) (by omega)), HP.out.2.2⟩, hkE⟩
    exact results_cell_row rfl _ _ w.heap.size _ _ _ d rfl HE.out hd1 (by cases d <;> simp_all [TypeDesc.isRow]) (row_info size_hash _)
end Go.Proofs.Ytkjocpadmlobgaa
