/- A record is laid. -/
import Derived.Test.YtjinhahfpkcilaaPlJ
namespace Go.Proofs.Ytjinhahfpkcilaa
open Go.RowKit Go.Dig Go.Inv Go.Oct
set_option linter.unusedVariables false
set_option linter.unusedSimpArgs false

def LyP (l : Lb) : Prop := l = .lg ∨ l = .rs
theorem rrC_one (x : Rc × Value) (h : x.2.oneCell' = true) : ∀ u ∈ rrC x, u.oneCell' = true := fun u hu => by
  simp [rrC] at hu
  rcases hu with rfl | rfl | rfl | rfl | rfl <;> first | rfl | exact h
/-- a value of its own -/
theorem ValAt.own {w : World} {base : Nat} {v : Value} {P : List Int} (h : OwnB w base v P) (own : Own) : ValAt (own.row v .vl) w v P := by
  obtain ⟨ao, n, cap, rfl, hf⟩ := h.form
  obtain ⟨h1, h2, h3⟩ := hf.out
  subst h1
  refine ⟨ao, cap, rfl, h2, h3, fun ad e => Own.row_yes ?_⟩
  subst e
  rcases h.2 with ⟨e, _⟩ | ⟨g, c, cu, e, _⟩
  · cases e
  · injection e with e
    rw [Option.some.inj e]; rfl
/-- a record lies behind the others -/
theorem LgS.laidR {own : Own} {W1 W' W4 : World} {lb : Nat} {x : Pl} {q : List (Option Nat)} {rv sv v vv : Value} {mb : Option Nat} {us : List Value} {r : Rc} (h : LgS own W1 lb x q rv sv mb us) (hv : ValAt own W1 vv r.v) (hA : ApA W1 W' rv v (fun W v => OwnRr W 0 v (x.rs.zip us ++ [(r, vv)]))) (hB : Below W'.heap.size (W'.setCell ⟨lb, 8, none⟩ v) W4) :
    LgS (own.row v .rs) W4 lb ⟨x.ws, x.rs ++ [r], x.sp⟩ q v sv mb (us ++ [vv]) ∧ Stp LyP own (own.row v .rs) W1 W4 := by
  have hlt := lt_blk h.blk
  have hsb : rv.ownBlock ≠ some lb := fun e => by have := h.lr lb e; rw [h.ll] at this; cases this
  have hsz' : W'.heap.size ≤ W4.heap.size := by have := hB.size; simpa [World.setCell] using this
  have hsz4 := Nat.le_trans hA.size hsz'
  have hx : Ext own (own.row v .rs) := Own.row_ext fun b hb => by
    rcases hA.own b hb with h1 | h1
    · exact .inr (h.lr b h1)
    · exact .inl (h.owned.fresh h1)
  have hz' : ∀ b, b < W'.heap.size → b ≠ lb → W4.heap[b]? = W'.heap[b]? := fun b h1 h2 => (hB.block b h1).trans (Below.heap_setCell _ _ _ b h2)
  have hz : ∀ b, b < W1.heap.size → b ≠ lb → rv.ownBlock ≠ some b → W4.heap[b]? = W1.heap[b]? := fun b h1 h2 h4 => (hz' b (Nat.lt_of_lt_of_le h1 hA.size) h2).trans (hA.block b h1 h4)
  have hb : ∀ b l, own b = some l → l ≠ .lg → l ≠ .rs → W4.heap[b]? = W1.heap[b]? := fun b l hl h1 h2 => hz b (h.owned b l hl) (fun e => h1 (by rw [e, h.ll] at hl; exact (Option.some.inj hl).symm)) (fun e => h2 (by have := h.lr b e; rw [this] at hl; exact (Option.some.inj hl).symm))
  have hvlb : ∀ b, v.ownBlock = some b → b ≠ lb := fun b hb e => by
    rcases hA.own b hb with h1 | h1
    · have h2 := h.lr b h1
      rw [e, h.ll] at h2; cases h2
    · omega
  have hlb : W4.heap[lb]? = some (.cells (lgC q v sv mb) 68 (0, 0)) := by
    rw [hB.block lb (Nat.lt_of_lt_of_le hlt hA.size), ← lgC_set8 h.ql rv v sv mb]
    exact set_blk ((hA.block lb hlt hsb).trans h.blk) 8 _
  have hown : Owned (own.row v .rs) W4 := fun b l hb => by
    unfold Own.row at hb
    split at hb
    · rename_i e; exact Nat.lt_of_lt_of_le (hA.r.lt b e).2 hsz'
    · exact Nat.lt_of_lt_of_le (h.owned b l hb) hsz4
  have hzip : (x.rs ++ [r]).zip (us ++ [vv]) = x.rs.zip us ++ [(r, vv)] := List.zip_append h.ul.symm
  refine ⟨⟨hown, hlb, hx lb _ h.ll, h.ql, h.wl, fun i b t h1 h2 => (h.wr i b t h1 h2).keep hx fun k hk => hk.elim (fun e => hb k _ e (by simp) (by simp)) (fun e => hb k _ e (by simp) (by simp)), ?_, by simp [h.ul], fun b hb => Own.row_yes hb,
    fun i r' u h1 h2 => ?_, h.sp.same fun k hk => hb k _ (h.ls k hk) (by simp) (by simp), fun k hk => hx k _ (h.ls k hk), h.mp.keep hx fun k hk => hb k _ hk (by simp) (by simp)⟩, ?_⟩
  · rw [hzip]
    exact hA.r.same fun b hb => hz' b (hA.r.lt b hb).2 (hvlb b hb)
  · by_cases hi : i < x.rs.length
    · rw [List.getElem?_append_left hi] at h1
      rw [List.getElem?_append_left (by rw [h.ul]; exact hi)] at h2
      exact (h.vl i r' u h1 h2).keep hx fun k hk => hb k _ hk (by simp) (by simp)
    · have hi2 : i = x.rs.length := by
        have := (List.getElem?_eq_some_iff.1 h1).1
        simp at this; omega
      subst hi2
      rw [List.getElem?_append_right (Nat.le_refl _)] at h1
      rw [List.getElem?_append_right (by rw [h.ul]; exact Nat.le_refl _)] at h2
      simp at h1
      simp [h.ul] at h2
      subst h1; subst h2
      exact hv.keep hx fun k hk => hb k _ hk (by simp) (by simp)
  · refine ⟨hB.os.trans hA.os, hB.tape.trans hA.tape, hB.output.trans hA.output, hsz4, fun b h1 h2 => hz b h1 (fun e => h2 .lg (by rw [e]; exact h.ll) (.inl rfl)) (fun e => h2 .rs (h.lr b e) (.inr rfl)), fun b hb => ?_, hown⟩
    unfold Own.row
    split
    · rename_i e
      rcases hA.own b e with h1 | h1
      · exact (h.lr b h1).symm
      · omega
    · rfl
/-- a writer's offset lies behind the others -/
theorem LgS.laidO {own : Own} {W1 W' : World} {lb i wb : Nat} {x : Pl} {q : List (Option Nat)} {rv sv v0 v : Value} {mb : Option Nat} {us : List Value} {wt : Wt} {z : Int} (h : LgS own W1 lb x q rv sv mb us) (hq : q[i]? = some (some wb)) (hw : x.ws[i]? = some (some wt))
    (hb0 : W1.heap[wb]? = some (.cells #[.int .i64 wt.ep, v0] 83 (0, 0))) (hwl : own wb = some (.wr i)) (hvl : ∀ k, v0.ownBlock = some k → own k = some (.of i)) (hG : Gr W1 W' v0 v) (hO : OwnNn W' 0 v (wt.of ++ [z])) :
    LgS (own.row v (.of i)) (W'.setCell ⟨wb, 1, none⟩ v) lb ⟨x.ws.set i (some ⟨wt.ep, wt.of ++ [z]⟩), x.rs, x.sp⟩ q rv sv mb us ∧ Stp (fun l => l = .wr i ∨ l = .of i) own (own.row v (.of i)) W1 (W'.setCell ⟨wb, 1, none⟩ v) := by
  have hwlt := lt_blk hb0
  have hne : v0.ownBlock ≠ some wb := fun e => by have := hvl wb e; rw [hwl] at this; cases this
  have h1 : Stp (fun l => l = .wr i ∨ l = .of i) own (own.row v (.of i)) W1 W' := Stp.gr hG hvl (.inr rfl) (fun k hk => (hO.lt k hk).2) h.owned
  have hx : Ext own (own.row v (.of i)) := h1.ext h.owned
  have h2 : Stp (fun l => l = .wr i ∨ l = .of i) (own.row v (.of i)) (own.row v (.of i)) W' (W'.setCell ⟨wb, 1, none⟩ v) := Stp.cell (l := .wr i) 1 v (hx wb _ hwl) (.inl rfl) h1.new
  have hS := h1.trans h2
  have hb : ∀ k l, own k = some l → l ≠ .wr i → l ≠ .of i → (W'.setCell ⟨wb, 1, none⟩ v).heap[k]? = W1.heap[k]? := fun k l hk n1 n2 => hS.block k (h.owned k l hk) fun m hm hp => by
    rw [hk] at hm; cases hm; exact hp.elim n1 n2
  refine ⟨⟨hS.new, (hb lb _ h.ll (by simp) (by simp)).trans h.blk, hx lb _ h.ll, h.ql, by rw [List.length_set]; exact h.wl, fun j b t e1 e2 => ?_, h.rs.same fun k hk => hb k _ (h.lr k hk) (by simp) (by simp), h.ul, fun k hk => hx k _ (h.lr k hk),
    fun j r' u e1 e2 => (h.vl j r' u e1 e2).keep hx fun k hk => hb k _ hk (by simp) (by simp), h.sp.same fun k hk => hb k _ (h.ls k hk) (by simp) (by simp), fun k hk => hx k _ (h.ls k hk), h.mp.keep hx fun k hk => hb k _ hk (by simp) (by simp)⟩, hS⟩
  by_cases hj : j = i
  · subst hj
    rw [hq] at e1
    cases e1
    rw [List.getElem?_set_self (by rw [h.wl]; have := (List.getElem?_eq_some_iff.1 hw).1; rw [h.wl] at this; exact this)] at e2
    cases e2
    refine ⟨v, ?_, hx wb _ hwl, hO.same fun k hk => Below.heap_setCell _ _ _ k fun e => ?_, fun k hk => Own.row_yes hk⟩
    · exact set_blk ((hG.block wb hwlt hne).trans hb0) 1 v
    · rcases hG.own k hk with h3 | h3
      · exact hne (by have e' : k = wb := e; rw [← e']; exact h3)
      · have e' : k = wb := e
        omega
  · rw [List.getElem?_set_ne (Ne.symm hj)] at e2
    exact (h.wr j b t e1 e2).keep hx fun k hk => hk.elim (fun e => hb k _ e (by simp; exact hj) (by simp)) (fun e => hb k _ e (by simp) (by simp; exact hj))
theorem LgS.keepx {own own' : Own} {w w' : World} {lb : Nat} {x : Pl} {q : List (Option Nat)} {rv sv : Value} {mb : Option Nat} {us : List Value} (h : LgS own w lb x q rv sv mb us) (hx : Ext own own') (ho : Owned own' w') (hb : ∀ k l, own k = some l → w'.heap[k]? = w.heap[k]?) : LgS own' w' lb x q rv sv mb us :=
  ⟨ho, (hb lb _ h.ll).trans h.blk, hx lb _ h.ll, h.ql, h.wl, fun i b t h1 h2 => (h.wr i b t h1 h2).keep hx fun k hk => hk.elim (hb k _) (hb k _), h.rs.same fun k hk => hb k _ (h.lr k hk), h.ul, fun k hk => hx k _ (h.lr k hk),
   fun i r u h1 h2 => (h.vl i r u h1 h2).keep hx fun k hk => hb k _ hk, h.sp.same fun k hk => hb k _ (h.ls k hk), fun k hk => hx k _ (h.ls k hk), h.mp.keep hx fun k hk => hb k _ hk⟩
/-- a new row has a label -/
theorem Stp.fresh {P : Lb → Prop} {own : Own} {w w' : World} {v : Value} {l : Lb} (h : Below w.heap.size w w') (hv : ∀ k, v.ownBlock = some k → w.heap.size ≤ k ∧ k < w'.heap.size) (ho : Owned own w) : Stp P own (own.row v l) w w' :=
  ⟨h.os, h.tape, h.output, h.size, fun k hk _ => h.block k hk, fun k hk => by
    unfold Own.row
    rw [if_neg (fun e => by have := hv k e; omega)], fun k m hk => by
    unfold Own.row at hk
    split at hk
    · rename_i e; exact (hv k e).2
    · exact Nat.lt_of_lt_of_le (ho k m hk) h.size⟩
set_option maxRecDepth 10000 in
set_option maxHeartbeats 4000000 in
theorem lay_at (own : Own) (w : World) (lb : Nat) (x : Pl) (q : List (Option Nat)) (rv sv : Value) (mb : Option Nat) (us : List Value) (h : LgS own w lb x q rv sv mb us) (i wb : Nat) (wt : Wt) (hq : q[i]? = some (some wb)) (hw : x.ws[i]? = some (some wt)) (r : Rc) (hip : r.p = (i : Int)) (ao : Option Addr) (cap : Nat) (hr : RcIn w r ao cap) (hok : r.ok = true) (hl : x.sp.length ≤ 90000) (hrl : x.rs.length ≤ 1000) (hwol : wt.of.length ≤ 1000) :
    Calls Try.prog 40 #[.pointer (some ⟨lb, 0, none⟩), .pointer (some ⟨wb, 0, none⟩), .agg (rrC (r, .slice ao r.v.length cap))] w fun e w' => e = .returned (.int .i64 (x.rs.length : Int)) ∧ ∃ own', LogAt own' w' lb (x.lay wt r) ∧ Stp (fun _ => True) own own' w w' := by
  have hb0 := alloc_blk w (.cells (rrC (r, .slice ao r.v.length cap)) 32)
  have hB0 := below_alloc w (.cells (rrC (r, .slice ao r.v.length cap)) 32)
  have h0 := h.below hB0
  have hr0 := hr.below hB0
  have hst0 : Stp (fun _ => True) own own w (w.alloc (.cells (rrC (r, .slice ao r.v.length cap)) 32)) := Stp.of_below hB0 h.owned
  have hfree : own w.heap.size = none := h.owned.fresh (Nat.le_refl _)
  obtain ⟨W0, HW0⟩ : ∃ W0, Hid (w.alloc (.cells (rrC (r, .slice ao r.v.length cap)) 32) = W0) := ⟨_, rfl⟩
  rw [HW0.out] at hb0 hB0 h0 hr0 hst0
  have HS0 : Hid (LgS own W0 lb x q rv sv mb us) := h0
  have HBa : Hid (Below w.heap.size w W0 ∧ Owned own w) := ⟨hB0, h.owned⟩
  have HIN : Hid (RcIn W0 r ao cap ∧ r.ok = true ∧ q[i]? = some (some wb) ∧ x.ws[i]? = some (some wt) ∧ r.p = (i : Int)) := ⟨hr0, hok, hq, hw, hip⟩
  have HK0 : Hid (W0.heap[w.heap.size]? = some (.cells (rrC (r, .slice ao r.v.length cap)) 32 (0, 0)) ∧ own w.heap.size = none) := ⟨hb0, hfree⟩
  have hvl : r.v.length ≤ 200 := by
    have := hok
    simp [Rc.ok] at this
    exact this.2
  obtain ⟨ra, rc, hrv⟩ := h0.rs.form
  rw [zip_len h0.ul] at hrv
  have c8 := h0.c8.1
  rw [hrv] at c8
  have c4 : W0.cell? ⟨w.heap.size, 4, none⟩ = some (.slice ao r.v.length cap) := cell_blk hb0 4
  obtain ⟨kb, Hkb⟩ : ∃ p, Hid (w.heap.size = p) := ⟨_, rfl⟩
  go_enter Try.func40, Try.ntmps40
  go_upto_region 2 with (refine wpList_box_row rfl 32 _ rfl (rrC (r, .slice ao r.v.length cap)) rfl ?_; rw [HW0.out])
  rw [Hkb.out] at HK0 c4 ⊢
  clear hb0 h0 h hB0 HW0 hst0 hfree hr0 hr hok hq hw hip hrv
  go_upto_region 3 with (go_at_call 35; refine (bClone_any r.v ao cap W0 HIN.out.1.row (by omega)).mono ?_; rintro e w2 ⟨vv, rfl, hvv, hB2⟩; obtain ⟨va, vn, vc, evv, hvf⟩ := hvv.form; subst evv; have hkk := (hB2.block kb (lt_blk HK0.out.1)).trans HK0.out.1; have d4 : w2.cell? ⟨kb, 4, none⟩ = some (.slice ao r.v.length cap) := cell_blk hkk 4; have f4 : w2.frozen? ⟨kb, 4, none⟩ = false := frozen_blk hkk 4)
  obtain ⟨vv, Hvv⟩ : ∃ v, Hid (Value.slice va vn vc = v) := ⟨_, rfl⟩
  have hkl := lt_blk HK0.out.1
  have hklb : lb ≠ kb := fun e => by have := HK0.out.2; rw [← e, HS0.out.ll] at this; cases this
  obtain ⟨W3, HW3⟩ : ∃ W, Hid (w2.setCell ⟨kb, 4, none⟩ (.slice va vn vc) = W) := ⟨_, rfl⟩
  have hk3 : W3.heap[kb]? = some (.cells (rrC (r, .slice va vn vc)) 32 (0, 0)) := by rw [← HW3.out]; exact set_blk hkk 4 _
  have hz3 : ∀ b, b ≠ kb → W3.heap[b]? = w2.heap[b]? := fun b hb => by rw [← HW3.out]; exact Below.heap_setCell _ _ _ b hb
  have hs3 : W3.heap.size = w2.heap.size := by rw [← HW3.out]; simp [World.setCell]
  have hB3 : Below w.heap.size w W3 := by
    rw [← HW3.out]
    exact (HBa.out.1.trans (hB2.mono HBa.out.1.size)).setCell (p := ⟨kb, 4, none⟩) (by rw [Hkb.out]; exact Nat.le_refl _) _
  have hs1 : Stp (fun _ => True) own (own.row (.slice va vn vc) .vl) w W3 := Stp.fresh hB3 (fun k hk => by have := hvv.lt k hk; have := HBa.out.1.size; omega) HBa.out.2
  have hx1 := hs1.ext HBa.out.2
  have ho1 : (own.row (.slice va vn vc) .vl) kb = none := by
    rw [show (own.row (.slice va vn vc) .vl) kb = own kb from by unfold Own.row; rw [if_neg (fun e => by have := hvv.lt kb e; omega)]]
    exact HK0.out.2
  have hL1 : LgS (own.row (.slice va vn vc) .vl) W3 lb x q rv sv mb us := HS0.out.keepx hx1 hs1.new fun k l hk => (hz3 k fun e => by rw [e, HK0.out.2] at hk; cases hk).trans (hB2.block k (HS0.out.owned k l hk))
  have hV1 : ValAt (own.row (.slice va vn vc) .vl) W3 (.slice va vn vc) r.v := (ValAt.own hvv own).keep (Ext.refl _) fun k hk => hz3 k fun e => by rw [e, ho1] at hk; cases hk
  obtain ⟨own1, HO1⟩ : ∃ o, Hid (own.row (.slice va vn vc) .vl = o) := ⟨_, rfl⟩
  rw [HO1.out] at hs1 ho1 hL1 hV1
  rw [HW3.out]
  rw [Hvv.out] at hk3 hV1 ⊢
  have HL1 : Hid (LgS own1 W3 lb x q rv sv mb us) := hL1
  have HV1 : Hid (ValAt own1 W3 vv r.v) := hV1
  have HK1 : Hid (W3.heap[kb]? = some (.cells (rrC (r, vv)) 32 (0, 0)) ∧ own1 kb = none ∧ vv.oneCell' = true) := ⟨hk3, ho1, by rw [← Hvv.out]; rfl⟩
  have HST1 : Hid (Stp (fun _ => True) own own1 w W3) := hs1
  have c8' : W3.cell? ⟨lb, 8, none⟩ = some rv := hL1.c8.1
  obtain ⟨rv2, hrv2⟩ : ∃ z, z = rv := ⟨_, rfl⟩
  have hlt := lt_blk hL1.blk
  have hkt := lt_blk hk3
  obtain ⟨ra2, rc2, hrv⟩ := hL1.rs.form
  rw [zip_len hL1.ul] at hrv
  subst hrv
  clear hs1 ho1 hL1 hV1 hk3 hB3 hx1 hz3 hs3 hkl hklb hvv hvf hkk d4 f4 hB2 HW3 HO1 HK0 HS0 c8 c4 rv2 hrv2
  go_upto_region 3 with fail
  refine wp_region_turnsV (by kernel_rfl) (by kernel_rfl) [6, 7, 10] (by kernel_rfl) (by decide) (by decide) (fun xS => { tmps := (Value.pointer (some (⟨lb, 0, none⟩ : Addr)) :: Value.pointer (some (⟨wb, 0, none⟩ : Addr)) :: Value.agg (rrC (r, Value.slice ao r.v.length cap)) :: undef :: undef :: Value.pointer (some (⟨kb, 0, none⟩ : Addr)) :: Value.int IntKind.i64 0 :: Value.int IntKind.i64 (x.rs.length : Int) :: Value.pointer (some (⟨lb, 0, none⟩ : Addr)) :: Value.pointer (some (⟨lb, 0, none⟩ : Addr)) :: Value.pointer (some (⟨lb, 8, none⟩ : Addr)) :: Value.slice ra x.rs.length rc :: Value.int IntKind.i64 (x.rs.length : Int) :: Value.pointer (some (⟨kb, 4, none⟩ : Addr)) :: Value.slice ao r.v.length cap :: vv :: Value.pointer (some (⟨kb, 4, none⟩ : Addr)) :: xS 0 :: xS 1 :: xS 2 :: xS 3 :: xS 4 :: xS 5 :: xS 6 :: xS 7 :: xS 8 :: xS 9 :: undef :: undef :: undef :: undef :: undef :: undef :: undef :: undef :: undef :: undef :: undef :: undef :: undef :: undef :: undef :: undef :: []).toArray, defers := [] })
    (fun ii xx WW => match ii with | 0 => xx = Value.pointer (some (⟨lb, 0, none⟩ : Addr)) | 1 => xx = Value.pointer (some (⟨lb, 0, none⟩ : Addr)) | 2 => xx = Value.pointer (some (⟨lb, 0, none⟩ : Addr)) | 3 => xx = .pointer (some ⟨lb, 8, none⟩) | 4 => xx = .slice ra2 x.rs.length rc2 | 5 => xx = .agg (rrC (r, vv)) | 8 => xx = Value.pointer (some (⟨lb, 0, none⟩ : Addr)) | 9 => xx = .pointer (some ⟨lb, 8, none⟩) | _ => True) (ApS W3 lb 8 (.slice ra2 x.rs.length rc2) (fun W v => OwnRr W 0 v (x.rs.zip us ++ [(r, vv)])) (rrC (r, vv)) 32) (fun | 0 => undef | 1 => undef | 2 => undef | 3 => undef | 4 => undef | 5 => undef | 6 => undef | 7 => undef | 8 => undef | 9 => undef | _ => undef) (by repeat (first | exact trivial | refine ⟨fun _ _ => rfl, ?_⟩)) (fun _ _ _ _ _ h => h) (by intro i hi v W; simp only [List.mem_cons, List.mem_nil_iff, or_false] at hi; rcases hi with rfl | rfl | rfl <;> trivial) (fun s A B hB h => ApS.below (fun A B v hB h => h.below hB) s A B hB h) ((Below.refl _ _).drew) ⟨?_, ?_, ?_, ?_, ?_, ?_, ?_, ?_, ?_, ?_, ?_, trivial⟩ ?_
  · rw [if_neg (by decide)]
    intro s hs hmay xS W hS hp K hK
    rw [if_pos (wanted_none rfl _)]
    clear hp
    go_simp
    exact hK _ _ (Below.refl _ _) rfl
  · rw [if_neg (by decide)]
    intro s hs hmay xS W hS hp K hK
    rw [if_pos (wanted_none rfl _)]
    clear hp
    go_simp
    exact hK _ _ (Below.refl _ _) rfl
  · rw [if_neg (by decide)]
    intro s hs hmay xS W hS hp K hK
    rw [if_pos (wanted_none rfl _)]
    have h1 : xS 1 = Value.pointer (some (⟨lb, 0, none⟩ : Addr)) := hp.1 rfl
    clear hp
    simp only [h1] at hK ⊢
    clear h1
    go_simp
    exact hK _ _ (Below.refl _ _) rfl
  · rw [if_neg (by decide)]
    intro s hs hmay xS W hS hp K hK
    rw [if_pos (wanted_none rfl _)]
    have h2 : xS 2 = Value.pointer (some (⟨lb, 0, none⟩ : Addr)) := hp.1 rfl
    clear hp
    simp only [h2] at hK ⊢
    clear h2
    go_simp
    exact hK _ _ (Below.refl _ _) rfl
  · rw [if_neg (by decide)]
    intro s hs hmay xS W hS hp K hK
    rw [if_pos (wanted_none rfl _)]
    have h3 : xS 3 = .pointer (some ⟨lb, 8, none⟩) := hp.1 rfl
    clear hp
    have hle := stage_le (n := 1) hs hmay (by kernel_rfl)
    have hB : Below W3.heap.size W3 W := by
      rcases s with _ | _ | s
      · exact hS
      · exact hS.2
      · omega
    have hc := (hB.cell (p := ⟨lb, 8, none⟩) hlt).trans c8'
    simp only [h3] at hK ⊢
    clear h3
    go_simp
    exact hK _ _ (Below.refl _ _) rfl
  · rw [if_neg (by decide)]
    intro s hs hmay xS W hS hp K hK
    rw [if_pos (wanted_none rfl _)]
    clear hp
    have hle := stage_le (n := 1) hs hmay (by kernel_rfl)
    have hB : Below W3.heap.size W3 W := by
      rcases s with _ | _ | s
      · exact hS
      · exact hS.2
      · omega
    refine wp_load_agg 32 (by kernel_rfl) _ rfl kb (rrC (r, vv)) 32 (0, 0) ?_ ((hB.block kb hkt).trans HK1.out.1) (by kernel_rfl) ?_
    · rfl
    exact hK _ _ (Below.refl _ _) rfl
  · rw [if_pos (by decide)]
    refine ⟨rfl, ?_⟩
    intro xS W hS hw K hK
    have h5 : xS 5 = .agg (rrC (r, vv)) := hw 5 (by kernel_rfl)
    clear hw
    have hB : Below W3.heap.size W3 W := hS
    refine wp_rowRr _ rfl (r, vv) h5 ?_
    exact hK _ _ ⟨⟨_, rfl, hB.size, alloc_blk _ _⟩, hB.trans ((below_alloc _ _).mono hB.size)⟩ (fun j y hj => hj)
  · rw [if_pos (by decide)]
    refine ⟨rfl, ?_⟩
    intro xS W hS hw K hK
    have h4 : xS 4 = .slice ra2 x.rs.length rc2 := hw 4 (by kernel_rfl)
    clear hw
    obtain ⟨⟨g, h6g, hgl, hgc⟩, hB⟩ := hS
    refine wp_appRr _ _ rfl 0 (.slice ra2 x.rs.length rc2) (x.rs.zip us) h4 g (r, vv) h6g (HL1.out.rs.below hB) 32 hgc (rrC_one _ HK1.out.2.2) (by rw [zip_len HL1.out.ul]; omega) (Nat.zero_le _) ?_
    intro v' w' hv hG
    exact hK _ _ (hG.apA hB hv) (fun j y hj => hj)
  · rw [if_neg (by decide)]
    intro s hs hmay xS W hS hp K hK
    rw [if_pos (wanted_none rfl _)]
    have h0 : xS 0 = Value.pointer (some (⟨lb, 0, none⟩ : Addr)) := hp.1 rfl
    clear hp
    simp only [h0] at hK ⊢
    clear h0
    go_simp
    exact hK _ _ (Below.refl _ _) rfl
  · rw [if_neg (by decide)]
    intro s hs hmay xS W hS hp K hK
    rw [if_pos (wanted_none rfl _)]
    have h8 : xS 8 = Value.pointer (some (⟨lb, 0, none⟩ : Addr)) := hp.1 rfl
    clear hp
    simp only [h8] at hK ⊢
    clear h8
    go_simp
    exact hK _ _ (Below.refl _ _) rfl
  · rw [if_pos (by decide)]
    refine ⟨rfl, ?_⟩
    intro xS W hS hw K hK
    have h9 : xS 9 = .pointer (some ⟨lb, 8, none⟩) := hw 9 (by kernel_rfl)
    clear hw
    replace hS : ApA W3 W (.slice ra2 x.rs.length rc2) (xS 7) (fun W v => OwnRr W 0 v (x.rs.zip us ++ [(r, vv)])) := hS
    obtain ⟨va, vn, vc, e7⟩ : ∃ a n c, xS 7 = .slice a n c := by obtain ⟨a, c, e⟩ := hS.r.form; exact ⟨a, _, c, e⟩
    have hsb : (Value.slice ra2 x.rs.length rc2).ownBlock ≠ some lb := fun e => by have := HL1.out.lr lb e; rw [HL1.out.ll] at this; cases this
    have hbW := (hS.block lb hlt hsb).trans HL1.out.blk
    have hc8 : W.cell? ⟨lb, 8, none⟩ = some (.slice ra2 x.rs.length rc2) := by rw [cell_blk hbW, ← cell_blk HL1.out.blk]; exact c8'
    have hf8 := frozen_blk hbW 8
    simp only [h9, e7] at hK ⊢
    clear h9
    go_simp
    simp only [← e7] at hK ⊢
    exact hK undef _ ⟨W, hS, Below.refl _ _⟩ (fun j y hj => hj)
  rintro xs0 W4 hS -
  obtain ⟨W', hA, hB4⟩ := hS
  obtain ⟨hL2, hS2⟩ := HL1.out.laidR HV1.out hA hB4
  obtain ⟨rv4, Hrv⟩ : ∃ v, Hid (xs0 7 = v) := ⟨_, rfl⟩
  rw [Hrv.out] at hL2 hS2
  have hk4 : W4.heap[kb]? = some (.cells (rrC (r, vv)) 32 (0, 0)) := (hS2.block kb hkt fun l e => by rw [HK1.out.2.1] at e; cases e).trans HK1.out.1
  have HST4 : Hid (Stp (fun _ => True) own (own1.row rv4 .rs) w W4) := HST1.out.trans (hS2.mono fun _ _ => trivial)
  have ho4 : (own1.row rv4 .rs) kb = none := (hS2.old kb hkt).trans HK1.out.2.1
  obtain ⟨own4, HO4⟩ : ∃ o, Hid (own1.row rv4 .rs = o) := ⟨_, rfl⟩
  rw [HO4.out] at hL2 HST4 ho4
  obtain ⟨v0, hwb, hwl, hof, hvl4⟩ := hL2.wr i _ _ HIN.out.2.2.1 HIN.out.2.2.2.1
  obtain ⟨oa, oc, rfl⟩ := hof.form
  have c1 : W4.cell? ⟨wb, 1, none⟩ = some (.slice oa wt.of.length oc) := cell_blk hwb 1
  have HL4 : Hid (LgS own4 W4 lb ⟨x.ws, x.rs ++ [r], x.sp⟩ q rv4 sv mb (us ++ [vv])) := hL2
  have HW4 : Hid (W4.heap[wb]? = some (.cells #[.int .i64 wt.ep, .slice oa wt.of.length oc] 83 (0, 0)) ∧ own4 wb = some (.wr i) ∧ OwnNn W4 0 (.slice oa wt.of.length oc) wt.of ∧ ∀ k, (Value.slice oa wt.of.length oc).ownBlock = some k → own4 k = some (.of i)) := ⟨hwb, hwl, hof, hvl4⟩
  have HK4 : Hid (W4.heap[kb]? = some (.cells (rrC (r, vv)) 32 (0, 0)) ∧ own4 kb = none) := ⟨hk4, ho4⟩
  clear hA hB4 hL2 hS2 hk4 ho4 HO4 hwb hwl hof hvl4 HL1 HV1 HK1 HST1 c8'
  go_upto_region 5 with (first | (refine wpList_rowNn rfl _ rfl (x.rs.length : Int) ?_ ?_; rfl) | (refine wpList_appNn rfl _ _ rfl 0 (.slice oa wt.of.length oc) wt.of ?_ W4.heap.size (x.rs.length : Int) ?_ (HW4.out.2.2.1.below (below_alloc _ _)) 3 (alloc_blk _ _) (fun u hu => by simp [nnC] at hu; subst hu; rfl) (by omega) (Nat.zero_le _) ?_; rfl; rfl; intro v7 w7 hv7 hG7; obtain ⟨va7, vc7, ev7⟩ := hv7.form; obtain ⟨vn7, Hn7⟩ : ∃ n, Hid ((wt.of ++ [(x.rs.length : Int)]).length = n) := ⟨_, rfl⟩; rw [Hn7.out] at ev7; subst ev7; have hw7 := (hG7.block wb (by simp; have := lt_blk HW4.out.1; omega) (fun e => by have := HW4.out.2.2.2 wb e; rw [HW4.out.2.1] at this; cases this)).trans (alloc_blk_old HW4.out.1 _); have d1 : w7.cell? ⟨wb, 1, none⟩ = some (.slice oa wt.of.length oc) := cell_blk hw7 1; have e1 := frozen_blk hw7 1))
  obtain ⟨hL5, hS5⟩ := (HL4.out.below (below_alloc W4 (.cells (nnC (x.rs.length : Int)) 3))).laidO HIN.out.2.2.1 HIN.out.2.2.2.1 (alloc_blk_old HW4.out.1 _) HW4.out.2.1 HW4.out.2.2.2 hG7 hv7
  obtain ⟨W8, HW8⟩ : ∃ W, Hid (w7.setCell ⟨wb, 1, none⟩ (.slice va7 vn7 vc7) = W) := ⟨_, rfl⟩
  rw [HW8.out] at hL5 hS5 ⊢
  have hk8 : W8.heap[kb]? = some (.cells (rrC (r, vv)) 32 (0, 0)) := (hS5.block kb (by simp; have := lt_blk HK4.out.1; omega) fun l e => by rw [HK4.out.2] at e; cases e).trans (alloc_blk_old HK4.out.1 _)
  have HST8 : Hid (Stp (fun _ => True) own (own4.row (.slice va7 vn7 vc7) (.of i)) w W8) := (HST4.out.trans (Stp.of_below (below_alloc _ _) HL4.out.owned)).trans (hS5.mono fun _ _ => trivial)
  obtain ⟨own5, HO5⟩ : ∃ o, Hid (own4.row (.slice va7 vn7 vc7) (.of i) = o) := ⟨_, rfl⟩
  rw [HO5.out] at hL5 HST8
  have HL5 : Hid (LgS own5 W8 lb ⟨x.ws.set i (some ⟨wt.ep, wt.of ++ [(x.rs.length : Int)]⟩), x.rs ++ [r], x.sp⟩ q rv4 sv mb (us ++ [vv])) := hL5
  have hfin : (⟨x.ws.set i (some ⟨wt.ep, wt.of ++ [(x.rs.length : Int)]⟩), x.rs ++ [r], x.sp⟩ : Pl).spn r.key (x.rs.length : Int) = x.lay wt r := by
    unfold Pl.lay Pl.spn Pl.open1
    rw [HIN.out.2.2.2.2, Int.toNat_natCast]
    rfl
  have HFIN : Hid ((⟨x.ws.set i (some ⟨wt.ep, wt.of ++ [(x.rs.length : Int)]⟩), x.rs ++ [r], x.sp⟩ : Pl).spn r.key (x.rs.length : Int) = x.lay wt r) := hfin
  have HSP : Hid (∀ W, Below W8.heap.size W8 W → Calls Try.prog 44 #[.pointer (some ⟨lb, 0, none⟩), .agg (kyC r.key), .int .i64 (x.rs.length : Int)] W fun e w' => (∃ v, e = .returned v) ∧ ∃ own6, LogAt own6 w' lb (x.lay wt r) ∧ Stp (fun _ => True) own own6 w w') := fun W hB => by
    refine (span_at own5 W lb _ q rv4 sv mb (us ++ [vv]) (HL5.out.below hB) r.key (key_in HIN.out.2.1) (x.rs.length : Int) hl).mono ?_
    rintro e w' ⟨own6, sv6, mb6, g, c, he, -, hL6, hS6⟩
    rw [HFIN.out] at hL6
    exact ⟨⟨_, he⟩, own6, ⟨_, _, _, _, _, hL6⟩, (HST8.out.trans (Stp.of_below hB HL5.out.owned)).trans (hS6.mono fun _ _ => trivial)⟩
  clear hL5 hS5 HST4 HL4 HW4 HK4 hG7 hv7 hw7 d1 e1 c1 hfin HO5
  go_wp2_with (first | (refine wpList_load_agg rfl 32 (by kernel_rfl) _ rfl kb (rrC (r, vv)) 32 (0, 0) ?_ hk8 (by kernel_rfl) ?_; rfl) | (go_at_call 32; refine (of_any r vv _).mono ?_; rintro e w9 ⟨rfl, hB9⟩) | (go_at_call 44; refine (HSP.out _ hB9).mono ?_; rintro e w10 ⟨⟨v10, rfl⟩, own6, hL6, hS6⟩))
  go_ret
  exact ⟨rfl, own6, hL6, hS6⟩
end Go.Proofs.Ytjinhahfpkcilaa
