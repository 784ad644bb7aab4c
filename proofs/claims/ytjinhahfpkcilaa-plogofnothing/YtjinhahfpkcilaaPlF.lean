/- How long a log is; an epoch; a record that comes again. -/
import Derived.Test.YtjinhahfpkcilaaPlS
namespace Go.Proofs.Ytjinhahfpkcilaa
open Go.RowKit Go.Dig Go.Inv Go.Oct
set_option linter.unusedVariables false
set_option linter.unusedSimpArgs false

theorem zip_len {α β : Type} {l : List α} {m : List β} (h : m.length = l.length) : (l.zip m).length = l.length := by simp [h]
theorem LgS.c {own : Own} {w : World} {lb : Nat} {x : Pl} {q : List (Option Nat)} {rv sv : Value} {mb : Option Nat} {us : List Value} (h : LgS own w lb x q rv sv mb us) {n : Nat} (hn : n < 8) : ∃ b t, q[n]? = some b ∧ x.ws[n]? = some t ∧ w.cell? ⟨lb, n, none⟩ = some (.pointer (b.map fun k => ⟨k, 0, none⟩)) ∧ WrAt own w n b t := by
  have h1 := h.ql
  have h2 := h.wl
  refine ⟨q[n], x.ws[n], List.getElem?_eq_getElem _, List.getElem?_eq_getElem _, ?_, h.wr n _ _ (List.getElem?_eq_getElem _) (List.getElem?_eq_getElem _)⟩
  rw [cell_blk h.blk]
  exact lgC_get (List.getElem?_eq_getElem _)
set_option maxHeartbeats 400000 in
theorem Len_at (own : Own) (w : World) (lb : Nat) (x : Pl) (h : LogAt own w lb x) : Calls Try.prog 15 #[.pointer (some ⟨lb, 0, none⟩)] w fun e w' => e = .returned (.int .i64 (x.rs.length : Int)) ∧ w' = w := by
  obtain ⟨q, rv, sv, mb, us, h⟩ := h
  obtain ⟨ao, cap, rfl⟩ := h.rs.form
  have c8 := h.c8.1
  rw [zip_len h.ul] at c8
  clear h
  go_enter Try.func15, Try.ntmps15
  go_wp2
  go_ret
  exact ⟨rfl, rfl⟩
theorem Len_nil (w : World) : Calls Try.prog 15 #[.pointer none] w fun e w' => e = .returned (.int .i64 0) ∧ w' = w := by
  go_enter Try.func15, Try.ntmps15
  go_wp2
  go_ret
  exact ⟨rfl, rfl⟩
def epI : Option Wt → Int × Bool
  | some w => (w.ep, true)
  | none => (0, false)
theorem Pl.wr_at {x : Pl} {n : Nat} {t : Option Wt} (h : x.ws[n]? = some t) : x.wr (n : Int) = t := by unfold Pl.wr; rw [Int.toNat_natCast, h]; rfl
set_option maxRecDepth 10000 in
set_option maxHeartbeats 1000000 in
theorem Epoch_at (own : Own) (w : World) (lb : Nat) (x : Pl) (h : LogAt own w lb x) (p : Int) : Calls Try.prog 21 #[.pointer (some ⟨lb, 0, none⟩), .int .i64 p] w fun e w' => e = .returned (.tuple #[.int .i64 (x.epoch p).1, .bool (x.epoch p).2]) ∧ w' = w := by
  obtain ⟨q, rv, sv, mb, us, h⟩ := h
  have hw := lwithin_any p 0 7 w
  by_cases hp : 0 ≤ p ∧ p ≤ 7
  · obtain ⟨n, rfl⟩ : ∃ n : Nat, p = (n : Int) := ⟨p.toNat, by omega⟩
    obtain ⟨b, t, -, ht, hc, hW⟩ := h.c (n := n) (by omega)
    have hin : inB (n : Int) 0 7 = true := by simp [inB]; omega
    rw [hin] at hw
    have hn8 : (n : Int) < 8 := by omega
    have e : x.epoch (n : Int) = epI t := by unfold Pl.epoch; rw [if_pos hp, Pl.wr_at ht]; cases t <;> rfl
    rw [e]
    clear e h hin ht
    match b, t, hW with
    | none, none, _ =>
      go_enter Try.func21, Try.ntmps21
      go_wp2_with (first | (go_at_call 41; refine hw.mono ?_; rintro e w1 ⟨rfl, rfl⟩) | (refine wanted_do rfl fun _ _ => ?_))
      exact bodyPost_ret (v := .tuple #[.int .i64 0, .bool false]) (by simp [results, Try.results21, go_sem]) rfl ⟨rfl, rfl⟩
    | some k, some t, ⟨v, h1, _, _, _⟩ =>
      have c0 : w.cell? ⟨k, 0, none⟩ = some (.int .i64 t.ep) := cell_blk h1 0
      clear h1
      go_enter Try.func21, Try.ntmps21
      go_wp2_with (first | (go_at_call 41; refine hw.mono ?_; rintro e w1 ⟨rfl, rfl⟩) | (refine wanted_do rfl fun _ _ => ?_))
      exact bodyPost_ret (v := .tuple #[.int .i64 t.ep, .bool true]) (by simp [results, Try.results21, go_sem]) rfl ⟨rfl, rfl⟩
    | none, some _, hW => exact hW.elim
    | some _, none, hW => exact hW.elim
  · have e : x.epoch p = (0, false) := by unfold Pl.epoch; rw [if_neg hp]
    have hin : inB p 0 7 = false := by simp [inB]; omega
    rw [e]
    rw [hin] at hw
    clear h e hin
    go_enter Try.func21, Try.ntmps21
    go_wp2_with (first | (go_at_call 41; refine hw.mono ?_; rintro e w1 ⟨rfl, rfl⟩) | (refine wanted_do rfl fun _ _ => ?_))
    exact bodyPost_ret (v := .tuple #[.int .i64 0, .bool false]) (by simp [results, Try.results21, go_sem]) rfl ⟨rfl, rfl⟩
theorem Epoch_nil (p : Int) (w : World) : Calls Try.prog 21 #[.pointer none, .int .i64 p] w fun e w' => e = .returned (.tuple #[.int .i64 0, .bool false]) ∧ w' = w := by
  go_enter Try.func21, Try.ntmps21
  go_wp2_with fail
  exact bodyPost_ret (v := .tuple #[.int .i64 0, .bool false]) (by simp [results, Try.results21, go_sem]) rfl ⟨rfl, rfl⟩
/-- a record that came in -/
structure RcIn (w : World) (r : Rc) (ao : Option Addr) (cap : Nat) : Prop where
  row : Rowed w ao r.v cap
  cap : r.v.length ≤ cap
  by_ : BytesL r.v
theorem RcIn.below {w w' : World} {r : Rc} {ao : Option Addr} {cap : Nat} (h : RcIn w r ao cap) (hB : Below w.heap.size w w') : RcIn w' r ao cap := ⟨h.row.below hB (Nat.le_refl _), h.cap, h.by_⟩
def againI (q r : Rc) (o : Nat) : Int × Int := if q.t = r.t ∧ q.v = r.v then ((o : Int), 0) else (0, 1)
theorem slice_one (ao : Option Addr) (n cap : Nat) : (Value.slice ao n cap).oneCell' = true := rfl
set_option maxRecDepth 10000 in
set_option maxHeartbeats 2000000 in
theorem again_at (own : Own) (w : World) (lb : Nat) (x : Pl) (h : LogAt own w lb x) (o : Nat) (q r : Rc) (hq : x.rs[o]? = some q) (hqb : BytesL q.v) (ao : Option Addr) (cap : Nat) (hr : RcIn w r ao cap) (hl : x.rs.length ≤ 1000) :
    Calls Try.prog 38 #[.pointer (some ⟨lb, 0, none⟩), .int .i64 (o : Int), .agg (rrC (r, .slice ao r.v.length cap))] w fun e w' => e = .returned (.tuple #[.int .i64 (againI q r o).1, .int .i64 (againI q r o).2]) ∧ Below w.heap.size w w' := by
  obtain ⟨qs, rv, sv, mb, us, h⟩ := h
  have hb0 := alloc_blk_old (alloc_blk w (.cells (rrC (r, .slice ao r.v.length cap)) 32)) (.cells (rrC (⟨0, 0, 0, 0, []⟩, .slice none 0 0)) 32)
  have hB0 := below_alloc w (.cells (rrC (r, .slice ao r.v.length cap)) 32)
  have hb0 := alloc_blk w (.cells (rrC (r, .slice ao r.v.length cap)) 32)
  have h0 := h.below hB0
  have hr0 := hr.below hB0
  obtain ⟨W0, HW0⟩ : ∃ W0, Hid (w.alloc (.cells (rrC (r, .slice ao r.v.length cap)) 32) = W0) := ⟨_, rfl⟩
  rw [HW0.out] at hb0 hB0 h0 hr0
  have ho := (List.getElem?_eq_some_iff.1 hq).1
  have hul := h.ul
  obtain ⟨u, hu⟩ : ∃ u, us[o]? = some u := ⟨us[o]'(by omega), List.getElem?_eq_getElem _⟩
  obtain ⟨bo, bc, rfl, hbc, hbr, -⟩ := h0.vl o q u hq hu
  obtain ⟨g, gc, erv, -, hg, hgc⟩ := h0.rs.at (by rw [zip_len hul]; omega)
  subst erv
  have hz : (x.rs.zip us)[o]? = some (q, .slice bo q.v.length bc) := by rw [List.getElem?_zip_eq_some]; exact ⟨hq, hu⟩
  have HC : Hid (∀ i u, (rrC (q, .slice bo q.v.length bc))[i]? = some u → W0.cell? ⟨g, o * 5 + i, none⟩ = some u) := hgc o _ hz
  have c8 := h0.c8.1
  rw [zip_len hul] at c8
  have HB0 : Hid (Below w.heap.size w W0) := hB0
  have HQ : Hid (Rowed W0 bo q.v bc ∧ BytesL q.v ∧ RcIn W0 r ao cap) := ⟨hbr, hqb, hr0⟩
  have Hb0 : Hid (W0.heap[w.heap.size]? = some (.cells (rrC (r, .slice ao r.v.length cap)) 32 (0, 0))) := hb0
  have ho' : (o : Int) < (x.rs.length : Int) := by omega
  have ho9 : (o : Int) < 1000 := by omega
  have hwb := lt_blk hb0
  obtain ⟨kb, Hkb⟩ : ∃ p, Hid (w.heap.size = p) := ⟨_, rfl⟩
  go_enter Try.func38, Try.ntmps38
  go_upto_region 1 with (refine wpList_box_row rfl 32 _ rfl (rrC (r, .slice ao r.v.length cap)) rfl ?_; rw [HW0.out])
  rw [Hkb.out] at Hb0 hwb ⊢
  clear hb0 h0 h hB0 HW0 hr0 hbr hqb hr hgc hz hu hq ho hg hbc hul
  go_upto_region 2 with (first | (refine wpList_loadRrAt rfl _ rfl g (o * 5) (q, .slice bo q.v.length bc) ?_ HC.out ?_; rfl) | (refine wpList_alloc_row rfl 32 rfl (rrC (⟨0, 0, 0, 0, []⟩, .slice none 0 0)) (by kernel_rfl) ?_) | (refine wpList_store_whole rfl 32 _ _ rfl W0.heap.size (rrC (q, .slice bo q.v.length bc)) (rrC (⟨0, 0, 0, 0, []⟩, .slice none 0 0)) ?_ ?_ 32 (alloc_blk _ _) (by kernel_rfl) (rrC_all rfl) rfl ?_; rfl; rfl; intro w3 h3 hK3))
  have hB3 : Below W0.heap.size W0 w3 := (below_alloc _ _).trans (hK3.below (Nat.le_refl _) (by simp))
  have hkb3 : w3.heap[kb]? = some (.cells (rrC (r, .slice ao r.v.length cap)) 32 (0, 0)) := (hB3.block kb hwb).trans Hb0.out
  have d2 : w3.cell? ⟨kb, 2, none⟩ = some (.int .i64 r.t) := cell_blk hkb3 2
  have d4 : w3.cell? ⟨kb, 4, none⟩ = some (.slice ao r.v.length cap) := cell_blk hkb3 4
  have e2 : w3.cell? ⟨W0.heap.size, 2, none⟩ = some (.int .i64 q.t) := cell_blk h3 2
  have e4 : w3.cell? ⟨W0.heap.size, 4, none⟩ = some (.slice bo q.v.length bc) := cell_blk h3 4
  have HEQ : Hid (Calls Try.prog 51 #[.slice bo q.v.length bc, .slice ao r.v.length cap] w3 fun e w' => e = .returned (.bool (decide (q.v = r.v))) ∧ w' = w3) := equalB_any q.v r.v bo ao bc cap w3 (HQ.out.1.below hB3 (Nat.le_refl _)) ((HQ.out.2.2.below hB3).row) HQ.out.2.1 HQ.out.2.2.by_
  have HB3 : Hid (Below w.heap.size w w3) := HB0.out.trans (hB3.mono HB0.out.size)
  clear hB3 hkb3 h3 hK3 HC c8
  by_cases ht : q.t = r.t
  · by_cases hv : q.v = r.v
    · rw [decide_eq_true hv] at HEQ
      rw [ht] at e2
      have HV : Hid (q.t = r.t ∧ q.v = r.v) := ⟨ht, hv⟩
      clear hv ht
      go_wp2_with (first | (go_at_call 51; refine HEQ.out.mono ?_; rintro e w1 ⟨rfl, rfl⟩) | (refine wanted_do rfl fun _ _ => ?_))
      exact bodyPost_ret (v := .tuple #[.int .i64 (o : Int), .int .i64 0]) (by simp [results, Try.results38, go_sem]) rfl ⟨by unfold againI; rw [if_pos HV.out], HB3.out⟩
    · rw [decide_eq_false hv] at HEQ
      rw [ht] at e2
      have HV : Hid (¬ q.v = r.v) := hv
      clear hv ht
      go_wp2_with (first | (go_at_call 51; refine HEQ.out.mono ?_; rintro e w1 ⟨rfl, rfl⟩) | (refine wanted_do rfl fun _ _ => ?_))
      exact bodyPost_ret (v := .tuple #[.int .i64 0, .int .i64 1]) (by simp [results, Try.results38, go_sem]) rfl ⟨by unfold againI; rw [if_neg (fun e => HV.out e.2)], HB3.out⟩
  · go_wp2_with (first | (go_at_call 51; refine HEQ.out.mono ?_; rintro e w1 ⟨rfl, rfl⟩) | (refine wanted_do rfl fun _ _ => ?_))
    exact bodyPost_ret (v := .tuple #[.int .i64 0, .int .i64 1]) (by simp [results, Try.results38, go_sem]) rfl ⟨by unfold againI; rw [if_neg (fun e => ht e.1)], HB3.out⟩
end Go.Proofs.Ytjinhahfpkcilaa
