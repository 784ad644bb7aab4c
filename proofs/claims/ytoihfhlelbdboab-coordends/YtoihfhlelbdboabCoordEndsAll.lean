/- coord: a transaction is ended once; asked so again it is OK, asked the other way it is not; the next one may begin. For any row of numbers. -/
import Derived.Test.YtoihfhlelbdboabEdLow
namespace Go.Proofs.Ytoihfhlelbdboab
open Go.RowKit Go.Dig Go.Inv Go.Oct Go.Hold
set_option linter.unusedVariables false
set_option linter.unusedSimpArgs false

/-- one producer, its marks, no tick; nothing applied from number s on -/
structure EnS (x : Co) (s : Int) (p : Pr) (M : List Mk) : Prop where
  ps : x.ps = [p]
  ms : x.ms = M
  now : x.now = 0
  ks : KeysLt x s
theorem EnS.step {x : Co} {s : Int} {p p' : Pr} {M m : List Mk} {r : Rp.Rp3} (h : EnS x s p M) (o : OpF) (hk : o.key = s) (hr : x.run o = (r, m, [p'], 0)) : ∃ x', x.apply true o = (r, m, x') ∧ EnS x' (s + 1) p' (M ++ m) := by
  have hl : lookL o.key x.rs = none := look_lt fun z hz => by have := h.ks z hz; omega
  refine ⟨_, by rw [apply_new hl, hr], rfl, by show x.ms ++ m = _; rw [h.ms], rfl, fun z hz => ?_⟩
  rcases ins_mem hz with rfl | hz
  · show o.key < s + 1; omega
  · have := h.ks z hz; omega
def nmA : ByteArray := ⟨#[97]⟩
def p0E : Pr := ⟨nmA, 0, [], none⟩
def plE (l : List Bool) : Pr := ⟨nmA, 0, [], some (0, l)⟩
def peE (c : Bool) : Pr := ⟨nmA, 0, [kindC c], none⟩
def piE (i : Nat) (l : List Bool) : Pr := if i = 0 then p0E else plE l
def initE : OpF := ⟨1, 0, 0, nmA, 0, 0, 0, 0, false⟩
def addE (s t r : Int) : OpF := ⟨2, 0, s, ⟨#[]⟩, 0, 0, t, r, false⟩
def finE (s t : Int) (c : Bool) : OpF := ⟨3, 0, s, ⟨#[]⟩, 0, 0, t, 0, c⟩
theorem key_add (s t r : Int) : (addE s t r).key = s := by simp [OpF.key, addE]
theorem key_fin (s t : Int) (c : Bool) : (finE s t c).key = s := by simp [OpF.key, finE]
theorem at_E {x : Co} {s : Int} {p : Pr} {M : List Mk} (h : EnS x s p M) : x.at 0 = some (0, p) := by unfold Co.at; rw [h.ps]; rfl
theorem run_addE {x : Co} {s : Int} {p : Pr} {M : List Mk} (h : EnS x s p M) (he : p.ep = 0) (q t r : Int) : x.run (addE q t r) = (err (p.add t r 0).2, [], [(p.add t r 0).1], 0) := by
  unfold Co.run
  have e1 : (addE q t r).k = 2 := rfl
  have e2 : (addE q t r).p = 0 := rfl
  have e3 : (addE q t r).e = 0 := rfl
  have e4 : (addE q t r).t = t := rfl
  have e5 : (addE q t r).r = r := rfl
  rw [e1, e2, e3, e4, e5, at_E h, h.now, h.ps]
  simp [he]
theorem run_finE {x : Co} {s : Int} {p : Pr} {M : List Mk} (h : EnS x s p M) (he : p.ep = 0) (q t : Int) (c : Bool) : x.run (finE q t c) = (err (p.fin 0 t c).2.2, (p.fin 0 t c).2.1, [(p.fin 0 t c).1], 0) := by
  unfold Co.run
  have e1 : (finE q t c).k = 3 := rfl
  have e2 : (finE q t c).p = 0 := rfl
  have e3 : (finE q t c).e = 0 := rfl
  have e4 : (finE q t c).t = t := rfl
  have e5 : (finE q t c).b = c := rfl
  rw [e1, e2, e3, e4, e5, at_E h, h.now, h.ps]
  simp [he]
theorem piE_ep (i : Nat) (l : List Bool) : (piE i l).ep = 0 := by unfold piE; split <;> rfl
theorem add_piE (i : Nat) (l : List Bool) (k : Nat) (h0 : i = 0 → l = noParts) : (piE i l).add 1 (k : Int) 0 = (plE (l.set k true), 0) := by
  unfold piE
  by_cases hi : i = 0
  · rw [if_pos hi, h0 hi]; simp [p0E, Pr.add, Pr.last, plE, Pr.opened]
  · rw [if_neg hi]; simp [plE, Pr.add, Pr.last, Pr.opened]
theorem fin_p0E (c : Bool) : p0E.fin 0 1 c = (p0E, [], 6) := by simp [p0E, Pr.fin]
theorem fin_plE (l : List Bool) (c : Bool) : (plE l).fin 0 1 c = (peE c, [⟨kindC c, 0, 0, 1⟩], 0) := by simp [plE, Pr.fin, Pr.last, Pr.close, peE, Pr.mark]
theorem fin_peE (c d : Bool) : (peE c).fin 0 1 d = (peE c, [], if c = d then 0 else 6) := by cases c <;> cases d <;> simp [peE, Pr.fin, kindC]
theorem add_peE1 (c : Bool) (r : Int) : (peE c).add 1 r 0 = (peE c, 6) := by simp [peE, Pr.add, Pr.last]
theorem add_peE2 (c : Bool) (r : Int) : ∃ q, (peE c).add 2 r 0 = (q, 0) ∧ q.ep = 0 := by simp [peE, Pr.add, Pr.last, Pr.opened]
/-- so many parts -/
def cntE (l : List Bool) : Nat := (partsTo l 4).length
theorem cntE_set : ∀ (l : List Bool), l.length = 4 → ∀ k, k < 4 → cntE (l.set k true) = cntE l + if l.getD k false then 0 else 1 := by
  intro l hl k hk
  match l, hl with
  | [a, b, c, d], _ =>
    revert k
    cases a <;> cases b <;> cases c <;> cases d <;> decide
def bC (l : List Bool) : Array Value := #[.bool (l.getD 0 false), .bool (l.getD 1 false), .bool (l.getD 2 false), .bool (l.getD 3 false)]
theorem bC_get {l : List Bool} {m : Nat} (hm : m < 4) : (bC l)[m]? = some (.bool (l.getD m false)) := by
  match m, hm with
  | 0, _ => rfl
  | 1, _ => rfl
  | 2, _ => rfl
  | 3, _ => rfl
theorem bC_set : ∀ {l : List Bool}, l.length = 4 → ∀ {m : Nat}, m < 4 → (bC l).setIfInBounds m (.bool true) = bC (l.set m true) := by
  intro l hl m hm
  match l, hl with
  | [a, b, c, d], _ =>
    match m, hm with
    | 0, _ => rfl
    | 1, _ => rfl
    | 2, _ => rfl
    | 3, _ => rfl
theorem cntE_le (l : List Bool) : cntE l ≤ 4 := by
  unfold cntE partsTo
  rw [List.length_map]
  exact Nat.le_trans (List.length_filter_le _ _) (by simp)
theorem opn_plE {x : Co} {s : Int} {l : List Bool} {M : List Mk} (h : EnS x s (plE l) M) : x.opn 0 = (1, partsTo l 4, true) := by
  unfold Co.opn
  rw [at_E h]
  rfl
theorem addE_in {s t r : Int} (hs : 0 ≤ s ∧ s ≤ 100) (ht : 0 ≤ t ∧ t ≤ 100) (hr : 0 ≤ r ∧ r ≤ 3) : (addE s t r).In := by
  refine ⟨?_, ?_, ?_, ?_, ?_, ?_, ?_, by show (0 : Nat) < 1073741824; decide⟩ <;> simp [addE, inI] <;> first | omega | decide
theorem finE_in {s t : Int} {c : Bool} (hs : 0 ≤ s ∧ s ≤ 100) (ht : 0 ≤ t ∧ t ≤ 100) : (finE s t c).In := by
  refine ⟨?_, ?_, ?_, ?_, ?_, ?_, ?_, by show (0 : Nat) < 1073741824; decide⟩ <;> simp [finE, inI] <;> first | omega | decide
theorem addE_ok : ∀ s, s < 20 → ∀ t, t < 3 → 0 < t → ∀ r, r < 4 → (addE (s : Nat) (t : Nat) (r : Nat)).ok = true := by decide +kernel
theorem finE_ok : ∀ s, s < 20 → ∀ c, (finE (s : Nat) 1 c).ok = true := by decide +kernel
theorem initE_in : initE.In := by
  refine ⟨?_, ?_, ?_, ?_, ?_, ?_, ?_, by show (1 : Nat) < 1073741824; decide⟩ <;> simp [initE, inI]
theorem initE_ok : initE.ok = true := by decide +kernel
def x1E : Co := ⟨[p0E], [(0, ⟨0, 0, 0⟩)], [⟨1, 0, 0, 0⟩], 0⟩
theorem initE_eq : Co.none.apply true initE = (⟨0, 0, 0⟩, [⟨1, 0, 0, 0⟩], x1E) := rfl
theorem x1E_st : EnS x1E 1 p0E [⟨1, 0, 0, 0⟩] := ⟨rfl, rfl, rfl, fun z hz => by
  simp [x1E] at hz; subst hz; show (0 : Int) < 1; omega⟩
theorem i64_and3 (n : Int) : bits .and .i64 n 3 = n % 4 := by
  have hm : (BitVec.ofInt 64 3).toNat = 2 ^ 2 - 1 := by decide
  have key : (BitVec.ofInt 64 n &&& BitVec.ofInt 64 3).toNat = (n % ((2 ^ 64 : Nat) : Int)).toNat % 2 ^ 2 := by
    rw [BitVec.toNat_and, BitVec.toNat_ofInt, hm, Nat.and_two_pow_sub_one_eq_mod]
  show IntKind.i64.wrap ((BitVec.ofInt 64 n &&& BitVec.ofInt 64 3).toNat : Nat) = n % 4
  rw [key, IntKind.wrap_i64]
  omega
end Go.Proofs.Ytoihfhlelbdboab
namespace Go.Proofs.Ytoihfhlelbdboab
open Go.RowKit Go.Dig Go.Inv Go.Oct Go.Hold
set_option linter.unusedVariables false
set_option linter.unusedSimpArgs false

theorem wanted_do {ops : Array Oper} {rest : List Oper} {o : Oper} {a : Act} {w : World} {Q : Exit → Act → World → Prop} (hw : Region.wanted o (yielded ops a.tmps) = true) (h : ∀ K : Act → World → Prop, (∀ a w, wpList Try.prog ops Q rest a w → K a w) → o.wp Try.prog a w K Q) : wpList Try.prog ops Q (o :: rest) a w :=
  wpList_step fun K hK => by rw [hw]; exact h K hK
/-- an unlabelled block that is no node has turned: a coordinator lies on -/
theorem PrC.turn {own : Own} {w w' : World} {i qb : Nat} {p : Pr} {ev : Value} {ov : Option Addr} (h : PrC own w i qb p ev ov) (ho : Owned own w) (hF : Frm (fun k => own k = none ∧ NoLow w k) w w') : PrC own w' i qb p ev ov :=
  ⟨(hF.block qb (lt_blk h.blk) fun hn => by rw [h.lab] at hn; cases hn.1).trans h.blk, h.lab,
   h.ends.same (fun _ _ => rfl) fun k hk => hF.block k (ho k _ hk) fun hn => (by rw [hk] at hn; cases hn.1),
   h.op.same (fun _ _ => rfl) fun k hk => hF.block k (ho k _ hk) fun hn => (by rw [hk] at hn; cases hn.1)⟩
theorem CoAt.turn {own : Own} {w w' : World} {cb : Nat} {x : Co} (h : CoAt own w cb x) (hF : Frm (fun k => own k = none ∧ NoLow w k) w w') : CoAt own w' cb x := by
  obtain ⟨pb, rb, mv, q, h⟩ := h
  refine ⟨pb, rb, mv, q, h.owned.mono hF.size, (hF.block _ (lt_blk h.blk) fun hn => (by rw [h.lc] at hn; cases hn.1)).trans h.blk, h.lc, h.lp, h.lr,
    h.tp.frmL hF (fun hn => by rw [h.lp] at hn; cases hn.1) (fun k ⟨_, hk⟩ z => (hk z).1), h.tr.frmL hF (fun hn => by rw [h.lr] at hn; cases hn.1) (fun k ⟨_, hk⟩ z => (hk z).2),
    h.ms.same fun k hk => hF.block k (h.ms.lt k hk).2 fun hn => (by rw [h.lm k hk] at hn; cases hn.1), h.lm, h.len, fun i p hp => ?_⟩
  obtain ⟨b, h1, ev, ov, h2⟩ := h.pr i p hp
  exact ⟨b, h1, ev, ov, h2.turn h.owned hF⟩
set_option maxRecDepth 100000 in
set_option maxHeartbeats 4000000 in
theorem ended_at (own : Own) (w : World) (cb : Nat) (x : Co) (n : Nat) (s : Nat) (c : Bool) (p : Pr) (M : List Mk) (h : CoAt own w cb x) (hi : x.Inv n) (hn : n ≤ 1000) (hE : EnS x (s : Int) p M) (hp : p.ep = 0) (hs : s < 20) :
    Calls Try.prog 9 #[.pointer (some ⟨cb, 0, none⟩), .int .i64 (s : Int), .int .i64 1, .bool c] w fun e w' => e = .returned (.int .i64 (p.fin 0 1 c).2.2) ∧
      ∃ own' x', CoAt own' w' cb x' ∧ x'.Inv (n + 1) ∧ EnS x' ((s : Int) + 1) (p.fin 0 1 c).1 (M ++ (p.fin 0 1 c).2.1) ∧ ∃ w2, Step AllP own own' w w2 ∧ Below w2.heap.size w2 w' := by
  obtain ⟨x', hx, hE'⟩ := hE.step (finE s 1 c) (key_fin _ _ _) (run_finE hE hp _ _ _)
  have HE : Hid (EnS x' ((s : Int) + 1) (p.fin 0 1 c).1 (M ++ (p.fin 0 1 c).2.1)) := hE'
  have HX : Hid (x.apply true (finE s 1 c) = (err (p.fin 0 1 c).2.2, (p.fin 0 1 c).2.1, x')) := hx
  clear hx hE' hE
  generalize p.fin 0 1 c = y at *
  go_enter Try.func9, Try.ntmps9
  go_upto_region 2 with (first | (refine wpList_build_to rfl 32 #[(0, .const (.int .i64 3)), (2, .tmp 13), (6, .tmp 14), (8, .tmp 15)] rfl (finE s 1 c).cells (by kernel_rfl) ?_) | (go_at_call 7; refine (apply_lit own _ _ x n h (finE s 1 c) (finE_in (by omega) (by omega)) hi hn (finE_ok s hs c) _ _ _ HX.out).mono ?_; rintro e w2 ⟨⟨v2, own2, rfl, hO2, hl2, hC2, hS2⟩, hI2⟩) | (refine wpList_alloc_row rfl 27 rfl (rpC rp0) (by kernel_rfl) ?_) | (refine wpList_store_whole rfl 27 _ _ rfl w2.heap.size (rpC (err y.2.2)) (rpC rp0) ?_ ?_ 27 (alloc_blk _ _) (by kernel_rfl) (rpC_all _) rfl ?_; rfl; rfl; intro w3 h3 hK3))
  have hB3 : Below w2.heap.size w2 w3 := (below_alloc _ _).trans (hK3.below (Nat.le_refl _) (by simp))
  have c0 : w3.cell? ⟨w2.heap.size, 0, none⟩ = some (.int .i64 y.2.2) := cell_blk h3 0
  clear h3 hK3 hO2 hl2
  go_wp2_with fail
  go_ret
  exact ⟨rfl, own2, x', hC2.below hB3, hI2, HE.out, w2, hS2, hB3⟩
def RowI (w : World) (a : Option Addr) (xs : List Int) : Prop := ∀ i x, xs[i]? = some x → ∃ g off, a = some ⟨g, off, none⟩ ∧ w.cell? ⟨g, off + i, none⟩ = some (.int .i64 x)
theorem RowI.keep {w w' : World} {a : Option Addr} {xs : List Int} (h : RowI w a xs) (hB : Below w.heap.size w w') : RowI w' a xs := fun i x hx => by
  obtain ⟨g, off, e, hc⟩ := h i x hx
  exact ⟨g, off, e, (hB.cell (World.block_lt_of_cell? w _ hc)).trans hc⟩
structure EdI (w1 : World) (cb sb : Nat) (wr : World) (i : Nat) (own : Own) (x : Co) (l : List Bool) : Prop where
  co : CoAt own wr cb x
  inv : x.Inv (i + 1)
  st : EnS x ((i : Int) + 1) (piE i l) [⟨1, 0, 0, 0⟩]
  ln : l.length = 4
  z : i = 0 → l = noParts
  over : Over w1.heap.size own
  below : Below w1.heap.size w1 wr
  free : own sb = none
  blk : wr.heap[sb]? = some (.cells (bC l) 33 (0, 0))
  ge : w1.heap.size ≤ sb
structure EdQ (w1 : World) (cb : Nat) (wr : World) (own : Own) (x : Co) (n s : Nat) (p : Pr) (M : List Mk) : Prop where
  co : CoAt own wr cb x
  inv : x.Inv n
  st : EnS x (s : Int) p M
  over : Over w1.heap.size own
  below : Below w1.heap.size w1 wr
theorem EdQ.step {w1 : World} {cb : Nat} {wr : World} {own : Own} {x : Co} {n s : Nat} {p : Pr} {M : List Mk} (h : EdQ w1 cb wr own x n s p M) {own' : Own} {x' : Co} {s' n' : Nat} {p' : Pr} {M' : List Mk} {w2 w3 : World} (hC : CoAt own' w3 cb x') (hI : x'.Inv n') (hE : EnS x' (s' : Int) p' M') (hS : Step AllP own own' wr w2) (hB : Below w2.heap.size w2 w3) : EdQ w1 cb w3 own' x' n' s' p' M' :=
  ⟨hC, hI, hE, h.over.step hS h.below.size, (h.below.trans (h.over.below hS h.below.size)).trans (hB.mono (h.below.trans (h.over.below hS h.below.size)).size)⟩
theorem ended_q {w1 : World} {cb : Nat} {wr : World} {own : Own} {x : Co} {n s : Nat} {p : Pr} {M : List Mk} (h : EdQ w1 cb wr own x n s p M) (c : Bool) (hp : p.ep = 0) (hs : s < 20) (hn : n ≤ 1000) :
    Calls Try.prog 9 #[.pointer (some ⟨cb, 0, none⟩), .int .i64 (s : Int), .int .i64 1, .bool c] wr fun e w' => e = .returned (.int .i64 (p.fin 0 1 c).2.2) ∧ ∃ own' x', EdQ w1 cb w' own' x' (n + 1) (s + 1) (p.fin 0 1 c).1 (M ++ (p.fin 0 1 c).2.1) ∧ ∃ w2, Step AllP own own' wr w2 ∧ Below w2.heap.size w2 w' := by
  refine (ended_at own wr cb x n s c p M h.co h.inv hn h.st hp hs).mono ?_
  rintro e w' ⟨he, own', x', hC, hI, hE, w2, hS, hB⟩
  exact ⟨he, own', x', h.step (s' := s + 1) hC hI hE hS hB, w2, hS, hB⟩
set_option maxRecDepth 100000 in
set_option maxHeartbeats 8000000 in
theorem Ends_law (w : World) (c : Bool) (a : Option Addr) (cap : Nat) (xs : List Int) (hx : RowI w a xs) : Calls Try.prog 3 #[.bool c, .slice a xs.length cap] w fun e w' => e = .returned (.bool true) ∧ Below w.heap.size w w' := by
  have HX : Hid (RowI w a xs) := hx
  clear hx
  go_enter Try.func3, Try.ntmps3
  by_cases h8 : 8 < (xs.length : Int)
  · go_wp2_with fail
    go_ret
    exact ⟨rfl, Below.refl _ _⟩
  · go_upto_region 7 with (first | (go_at_call 6; refine (New_at w).mono ?_; rintro e w2 ⟨own1, rfl, hN1, ho1, hB1⟩) | (refine wpList_build_to rfl 32 #[(0, .const (.int .i64 1)), (3, .const (.string ⟨#[97]⟩))] rfl initE.cells (by kernel_rfl) ?_) | (go_at_call 7; refine (apply_lit own1 _ _ Co.none 0 hN1 initE initE_in Co.inv_none (by omega) initE_ok _ _ _ initE_eq).mono ?_; rintro e w3 ⟨⟨v3, own3, rfl, hO3, hl3, hC3, hS3⟩, hI3⟩))
    have HN : Hid (xs.length ≤ 8) := by show xs.length ≤ 8; omega
    have hB3 := hB1.trans (ho1.below hS3 hB1.size)
    have ho3 := ho1.step hS3 hB1.size
    clear h8 hS3 hO3 hl3 hN1 ho1 hB1
    obtain ⟨cb, Hcb⟩ : ∃ c, Hid (w.heap.size = c) := ⟨_, rfl⟩
    go_upto_region 9 with (refine wpList_alloc_row rfl 33 rfl (bC noParts) (by kernel_rfl) ?_)
    have hal := alloc_blk w3 (.cells (bC noParts) 33)
    have hbl := below_alloc w3 (.cells (bC noParts) 33)
    have HA0 : Hid (EdI w w.heap.size w3.heap.size (w3.alloc (.cells (bC noParts) 33)) 0 own3 x1E noParts) := ⟨hC3.below hbl, hI3, x1E_st, rfl, fun _ => rfl, ho3, hB3.trans (hbl.mono hB3.size), hC3.owned.fresh (Nat.le_refl _), hal, hB3.size⟩
    obtain ⟨W4, HW4⟩ : ∃ W, Hid (w3.alloc (.cells (bC noParts) 33) = W) := ⟨_, rfl⟩
    obtain ⟨sb, Hsb⟩ : ∃ c, Hid (w3.heap.size = c) := ⟨_, rfl⟩
    rw [HW4.out, Hsb.out] at HA0 ⊢
    rw [Hcb.out] at HA0 ⊢
    clear hal hbl hC3 hB3 ho3 hI3 HW4 Hsb
    go_wp2_with fail
    go_loopw [6, 8, 9] (fun sv nv iv wr => ∃ (i : Nat) (own : Own) (x : Co) (l : List Bool), i ≤ xs.length ∧ sv = .int .i64 ((i : Int) + 1) ∧ nv = .int .i64 (cntE l : Int) ∧ iv = .int .i64 (i : Int) ∧ EdI w cb sb wr i own x l) (fun _ _ iv _ => xs.length - (intOf iv).toNat)
    case atStart => exact ⟨0, own3, x1E, noParts, Nat.zero_le _, rfl, rfl, rfl, HA0.out⟩
    case round =>
      clear HA0
      obtain ⟨i, own, x, l, hi, rfl, rfl, rfl, hA⟩ := hrel
      by_cases hlt : i < xs.length
      · obtain ⟨v, hv⟩ : ∃ v, xs[i]? = some v := ⟨xs[i], List.getElem?_eq_getElem hlt⟩
        obtain ⟨pb, po, rfl, hpv⟩ := (HX.out.keep hA.below) i v hv
        have hlt' : (i : Int) < (xs.length : Int) := by omega
        have hi4 : (i : Int) < 9 := by have := HN.out; omega
        have HI : Hid (i < xs.length ∧ xs.length ≤ 8) := ⟨hlt, HN.out⟩
        have HA : Hid (EdI w cb sb wr i own x l) := hA
        clear hv hlt hA hi
        obtain ⟨m, hm, hm4⟩ : ∃ m : Nat, bits .and .i64 v 3 = (m : Int) ∧ m < 4 := ⟨(v % 4).toNat, by rw [i64_and3]; omega, by omega⟩
        have hm4' : (m : Int) < 4 := by omega
        obtain ⟨y, hy, hEy⟩ : ∃ y, x.apply true (addE ((i : Int) + 1) 1 (m : Int)) = (err 0, [], y) ∧ EnS y ((i : Int) + 1 + 1) (plE (l.set m true)) [⟨1, 0, 0, 0⟩] := by
          have hr := run_addE HA.out.st (piE_ep i l) ((i : Int) + 1) 1 (m : Int)
          rw [add_piE i l m HA.out.z] at hr
          exact HA.out.st.step (addE ((i : Int) + 1) 1 (m : Int)) (key_add _ _ _) hr
        have HY : Hid (x.apply true (addE ((i : Int) + 1) 1 (m : Int)) = (err 0, [], y)) := hy
        have HEY : Hid (EnS y ((i : Int) + 1 + 1) (plE (l.set m true)) [⟨1, 0, 0, 0⟩]) := hEy
        have HOK : Hid ((addE ((i : Int) + 1) 1 (m : Int)).ok = true) := addE_ok (i + 1) (by have := HI.out; omega) 1 (by omega) (by omega) m hm4
        have HMM : Hid (m < 4) := hm4
        clear hy hEy hm4
        go_upto_region 15 with (first | (refine wpList_build_to rfl 32 #[(0, .const (.int .i64 2)), (2, .tmp 45), (6, .const (.int .i64 1)), (7, .tmp 46)] rfl (addE ((i : Int) + 1) 1 (m : Int)).cells (by kernel_rfl) ?_) | (go_at_call 7; refine (apply_lit own _ cb x (i + 1) HA.out.co (addE ((i : Int) + 1) 1 (m : Int)) (addE_in (by omega) (by omega) (by omega)) HA.out.inv (by have := HI.out; omega) HOK.out _ _ _ HY.out).mono ?_; rintro e w5 ⟨⟨v5, own5, rfl, hO5, hl5, hC5, hS5⟩, hI5⟩) | (refine wpList_alloc_row rfl 27 rfl (rpC rp0) (by kernel_rfl) ?_) | (refine wpList_store_whole rfl 27 _ _ rfl w5.heap.size (rpC (err 0)) (rpC rp0) ?_ ?_ 27 (alloc_blk _ _) (by kernel_rfl) (rpC_all _) rfl ?_; rfl; rfl; intro w6 h6 hK6))
        have hB6 : Below w5.heap.size w5 w6 := (below_alloc _ _).trans (hK6.below (Nat.le_refl _) (by simp))
        have hs5 := hS5.keep HA.out.blk HA.out.free
        have h6s : w6.heap[sb]? = some (.cells (bC l) 33 (0, 0)) := (hB6.block sb (lt_blk hs5)).trans hs5
        have hb6 : w6.cell? ⟨sb, m, none⟩ = some (.bool (l.getD m false)) := (cell_blk h6s m).trans (bC_get HMM.out)
        have hf6 : w6.frozen? ⟨sb, m, none⟩ = false := frozen_blk h6s m
        have hne : w5.heap.size ≠ sb := fun e => (by have := lt_blk hs5; omega)
        have HC6 : Hid (CoAt own5 w6 cb y) := hC5.below hB6
        have HOV : Hid (Over w.heap.size own5 ∧ own5 sb = none ∧ Below w.heap.size w w6) := ⟨HA.out.over.step hS5 HA.out.below.size, hS5.unlab HA.out.blk HA.out.free, (HA.out.below.trans (HA.out.over.below hS5 HA.out.below.size)).trans (hB6.mono (HA.out.below.trans (HA.out.over.below hS5 HA.out.below.size)).size)⟩
        have HL4 : Hid (l.length = 4 ∧ w.heap.size ≤ sb) := ⟨HA.out.ln, HA.out.ge⟩
        have hF7 : Frm (· = sb) w6 (w6.setCell ⟨sb, m, none⟩ (.bool true)) := Frm.setCell _ _ _ _
        have hlow : NoLow w6 sb := fun z => ⟨fun e => (by rw [cell_blk h6s 3] at e; simp [bC] at e), fun e => (by rw [cell_blk h6s 5] at e; simp [bC] at e)⟩
        have HC7 : Hid (CoAt own5 (w6.setCell ⟨sb, m, none⟩ (.bool true)) cb y) := HC6.out.turn (hF7.mono fun k _ e => by rw [e]; exact ⟨HOV.out.2.1, hlow⟩)
        have HS7 : Hid ((w6.setCell ⟨sb, m, none⟩ (.bool true)).heap[sb]? = some (.cells (bC (l.set m true)) 33 (0, 0))) := by
          show (w6.setCell ⟨sb, m, none⟩ (.bool true)).heap[sb]? = _
          rw [← bC_set HL4.out.1 HMM.out]; exact set_blk h6s m _
        have HB7 : Hid (Below w.heap.size w (w6.setCell ⟨sb, m, none⟩ (.bool true))) := HOV.out.2.2.setCell (p := ⟨sb, m, none⟩) HL4.out.2 _
        have HR7 : Hid ((w6.setCell ⟨sb, m, none⟩ (.bool true)).heap[w5.heap.size]? = some (.cells (rpC (err 0)) 27 (0, 0))) := (set_blk_other m _ hne).trans h6
        have HCN : Hid ((partsTo (l.set m true) 4).length = cntE l + if l.getD m false then 0 else 1) := cntE_set l HL4.out.1 m HMM.out
        obtain ⟨qr, Hqr⟩ : ∃ q, Hid (w5.heap.size = q) := ⟨_, rfl⟩
        rw [Hqr.out] at HR7 ⊢
        have hcl := cntE_le l
        clear hB6 hs5 h6s hne hF7 hlow h6 hK6 hO5 hl5 hC5 hS5 HA HY
        cases hbm : l.getD m false
        · rw [hbm] at hb6 HCN
          go_upto_region 19 with fail
          obtain ⟨W7, HW7⟩ : ∃ W, Hid (w6.setCell ⟨sb, m, none⟩ (.bool true) = W) := ⟨_, rfl⟩
          rw [HW7.out] at HC7 HS7 HB7 HR7 ⊢
          have hop := Open_at own5 W7 cb y HC7.out (by
            intro p hp
            rw [HEY.out.ps, List.mem_singleton] at hp
            subst hp
            simp [plE]) 0
          rw [opn_plE HEY.out] at hop
          have HOP : Hid (Calls Try.prog 8 #[.pointer (some ⟨cb, 0, none⟩), .int .i64 0] W7 (OpnQ W7 (1, partsTo (l.set m true) 4, true))) := hop
          have hqr := lt_blk HR7.out
          have hsb7 := lt_blk HS7.out
          have hc7 : W7.cell? ⟨qr, 0, none⟩ = some (.int .i64 0) := cell_blk HR7.out 0
          clear hb6 hf6 hop HW7
          go_upto_region 20 with (go_at_call 8; refine HOP.out.mono ?_; rintro e w8 ⟨v8, rfl, hO8, hB8⟩)
          have hc8 : w8.cell? ⟨qr, 0, none⟩ = some (.int .i64 0) := (hB8.cell (p := ⟨qr, 0, none⟩) hqr).trans hc7
          obtain ⟨a8, k8, e8⟩ := hO8.form
          rw [HCN.out] at e8
          simp only [Bool.false_eq_true, ↓reduceIte, Nat.add_zero] at e8
          subst e8
          have HA8 : Hid (EdI w cb sb w8 (i + 1) own5 y (l.set m true)) := ⟨HC7.out.below hB8, hI5, by
            have := HEY.out
            rw [show piE (i + 1) (l.set m true) = plE (l.set m true) by unfold piE; rw [if_neg (by omega)]]
            rw [show (((i + 1 : Nat) : Int) + 1) = (i : Int) + 1 + 1 by push_cast; rfl]
            exact this, by rw [List.length_set]; exact HL4.out.1, fun e => by omega, HOV.out.1, HB7.out.trans (hB8.mono HB7.out.size), HOV.out.2.1, (hB8.block sb hsb7).trans HS7.out, HL4.out.2⟩
          have HCL : Hid ((partsTo (l.set m true) 4).length = cntE l + 1) := HCN.out
          clear hO8 hB8 hc7 hqr hsb7 HC7 HS7 HB7 HR7 HOP HEY HOV HC6 HL4
          go_wp2_with (refine wanted_do rfl fun _ _ => ?_)
          have hii := HI.out
          go_roundw
          case rel => exact ⟨i + 1, own5, y, l.set m true, by omega, by go_num, (by unfold cntE; rw [HCL.out]; go_num), by go_num, HA8.out⟩
          case measure => simp [intOf]; omega
        · rw [hbm] at hb6 HCN
          go_upto_region 19 with fail
          obtain ⟨W7, HW7⟩ : ∃ W, Hid (w6.setCell ⟨sb, m, none⟩ (.bool true) = W) := ⟨_, rfl⟩
          rw [HW7.out] at HC7 HS7 HB7 HR7 ⊢
          have hop := Open_at own5 W7 cb y HC7.out (by
            intro p hp
            rw [HEY.out.ps, List.mem_singleton] at hp
            subst hp
            simp [plE]) 0
          rw [opn_plE HEY.out] at hop
          have HOP : Hid (Calls Try.prog 8 #[.pointer (some ⟨cb, 0, none⟩), .int .i64 0] W7 (OpnQ W7 (1, partsTo (l.set m true) 4, true))) := hop
          have hqr := lt_blk HR7.out
          have hsb7 := lt_blk HS7.out
          have hc7 : W7.cell? ⟨qr, 0, none⟩ = some (.int .i64 0) := cell_blk HR7.out 0
          clear hb6 hf6 hop HW7
          go_upto_region 20 with (go_at_call 8; refine HOP.out.mono ?_; rintro e w8 ⟨v8, rfl, hO8, hB8⟩)
          have hc8 : w8.cell? ⟨qr, 0, none⟩ = some (.int .i64 0) := (hB8.cell (p := ⟨qr, 0, none⟩) hqr).trans hc7
          obtain ⟨a8, k8, e8⟩ := hO8.form
          rw [HCN.out] at e8
          simp only [Bool.false_eq_true, ↓reduceIte, Nat.add_zero] at e8
          subst e8
          have HA8 : Hid (EdI w cb sb w8 (i + 1) own5 y (l.set m true)) := ⟨HC7.out.below hB8, hI5, by
            have := HEY.out
            rw [show piE (i + 1) (l.set m true) = plE (l.set m true) by unfold piE; rw [if_neg (by omega)]]
            rw [show (((i + 1 : Nat) : Int) + 1) = (i : Int) + 1 + 1 by push_cast; rfl]
            exact this, by rw [List.length_set]; exact HL4.out.1, fun e => by omega, HOV.out.1, HB7.out.trans (hB8.mono HB7.out.size), HOV.out.2.1, (hB8.block sb hsb7).trans HS7.out, HL4.out.2⟩
          have HCL : Hid ((partsTo (l.set m true) 4).length = cntE l) := HCN.out
          clear hO8 hB8 hc7 hqr hsb7 HC7 HS7 HB7 HR7 HOP HEY HOV HC6 HL4
          go_wp2_with (refine wanted_do rfl fun _ _ => ?_)
          have hii := HI.out
          go_roundw
          case rel => exact ⟨i + 1, own5, y, l.set m true, by omega, by go_num, (by unfold cntE; rw [HCL.out]; go_num), by go_num, HA8.out⟩
          case measure => simp [intOf]; omega
      · obtain rfl : i = xs.length := by omega
        have hl8 := HN.out
        have hQ : EdQ w cb wr own x (xs.length + 1) (xs.length + 1) (piE xs.length l) [⟨1, 0, 0, 0⟩] := ⟨hA.co, hA.inv, hA.st, hA.over, hA.below⟩
        have HQ : Hid (EdQ w cb wr own x (xs.length + 1) (xs.length + 1) (piE xs.length l) [⟨1, 0, 0, 0⟩]) := hQ
        have HE1 : Hid (Calls Try.prog 9 #[.pointer (some ⟨cb, 0, none⟩), .int .i64 ((xs.length : Int) + 1), .int .i64 1, .bool c] wr fun e w' => e = .returned (.int .i64 ((piE xs.length l).fin 0 1 c).2.2) ∧ ∃ own' x', EdQ w cb w' own' x' (xs.length + 2) (xs.length + 2) ((piE xs.length l).fin 0 1 c).1 ([⟨1, 0, 0, 0⟩] ++ ((piE xs.length l).fin 0 1 c).2.1) ∧ ∃ w2, Step AllP own own' wr w2 ∧ Below w2.heap.size w2 w') := ended_q hQ c (piE_ep _ _) (by omega) (by omega)
        clear hA hQ hi hlt
        have hx9 : (xs.length : Int) < 9 := by omega
        by_cases hz : xs.length = 0
        · have hz' : (xs.length : Int) = 0 := by omega
          have hf : (piE xs.length l).fin 0 1 c = (p0E, [], 6) := by rw [hz]; exact fin_p0E c
          rw [hf] at HE1
          rw [hz'] at HE1 ⊢
          go_wp2_with (first | (go_at_call 9; refine HE1.out.mono ?_; rintro e w4 ⟨rfl, own4, x4, hQ4, w2', hS2', hB2'⟩) | (go_at_call 10; refine (known_at _).mono ?_; rintro e w9 ⟨rfl, hB9⟩) | (refine wanted_do rfl fun _ _ => ?_))
          go_ret
          exact ⟨rfl, hQ4.below.trans (hB9.mono hQ4.below.size)⟩
        · have hz' : ¬ (xs.length : Int) = 0 := by omega
          have hf : (piE xs.length l).fin 0 1 c = (peE c, [⟨kindC c, 0, 0, 1⟩], 0) := by unfold piE; rw [if_neg hz]; exact fin_plE l c
          rw [hf] at HE1
          go_upto_region 25 with (go_at_call 9; refine HE1.out.mono ?_; rintro e w4 ⟨rfl, own4, x4, hQ4, w2', hS2', hB2'⟩)
          have HE2 : Hid (∀ z : Int, z = (xs.length : Int) + 2 → Calls Try.prog 9 #[.pointer (some ⟨cb, 0, none⟩), .int .i64 z, .int .i64 1, .bool c] w4 fun e w' => e = .returned (.int .i64 0) ∧ ∃ own' x', EdQ w cb w' own' x' (xs.length + 3) (xs.length + 3) (peE c) [⟨1, 0, 0, 0⟩, ⟨kindC c, 0, 0, 1⟩] ∧ ∃ w2, Step AllP own4 own' w4 w2 ∧ Below w2.heap.size w2 w') := fun z hz => by
            subst hz
            have := ended_q hQ4 c rfl (by omega) (by omega)
            rw [fin_peE, if_pos rfl] at this
            exact this
          clear hQ4 hS2' hB2' HE1 HQ
          go_upto_region 26 with (go_at_call 9; refine (HE2.out _ (by omega)).mono ?_; rintro e w5 ⟨rfl, own5, x5, hQ5, w3', hS3', hB3'⟩)
          have HE3 : Hid (∀ z : Int, z = (xs.length : Int) + 3 → Calls Try.prog 9 #[.pointer (some ⟨cb, 0, none⟩), .int .i64 z, .int .i64 1, .bool (!c)] w5 fun e w' => e = .returned (.int .i64 6) ∧ ∃ own' x', EdQ w cb w' own' x' (xs.length + 4) (xs.length + 4) (peE c) [⟨1, 0, 0, 0⟩, ⟨kindC c, 0, 0, 1⟩] ∧ ∃ w2, Step AllP own5 own' w5 w2 ∧ Below w2.heap.size w2 w') := fun z hz => by
            subst hz
            have := ended_q hQ5 (!c) rfl (by omega) (by omega)
            rw [fin_peE, if_neg (by cases c <;> simp)] at this
            exact this
          clear hQ5 hS3' hB3' HE2
          go_upto_region 27 with (go_at_call 9; refine (HE3.out _ (by omega)).mono ?_; rintro e w6 ⟨rfl, own6, x6, hQ6, w4', hS4', hB4'⟩)
          clear hS4' hB4' HE3
          have HA4 : Hid (∀ z : Int, z = (xs.length : Int) + 4 → Calls Try.prog 7 #[.pointer (some ⟨cb, 0, none⟩), .agg #[.int .i64 2, .int .i64 0, .int .i64 z, .string ⟨#[]⟩, .int .i64 0, .int .i64 0, .int .i64 1, .int .i64 0, .bool false]] w6 fun e w' => ∃ x7, ApR own6 w6 cb (err 6) [] x7 e w' ∧ x7.Inv (xs.length + 5) ∧ EnS x7 ((xs.length + 5 : Nat) : Int) (peE c) [⟨1, 0, 0, 0⟩, ⟨kindC c, 0, 0, 1⟩]) := fun z hz => by
            subst hz
            have hr := run_addE hQ6.st rfl ((xs.length : Int) + 4) 1 0
            rw [add_peE1] at hr
            obtain ⟨x7, hx, hE⟩ := hQ6.st.step (addE ((xs.length : Int) + 4) 1 0) (key_add _ _ _) hr
            exact (apply_lit own6 w6 cb x6 (xs.length + 4) hQ6.co (addE ((xs.length : Int) + 4) 1 0) (addE_in (by omega) (by omega) (by omega)) hQ6.inv (by omega) (addE_ok (xs.length + 4) (by omega) 1 (by omega) (by omega) 0 (by omega)) _ _ _ hx).mono fun e w' h => ⟨x7, h.1, h.2, hE⟩
          have HQ6 : Hid (EdQ w cb w6 own6 x6 (xs.length + 4) (xs.length + 4) (peE c) [⟨1, 0, 0, 0⟩, ⟨kindC c, 0, 0, 1⟩]) := hQ6
          clear hQ6
          go_upto_region 28 with (first | (go_at_call 7; refine (HA4.out _ (by omega)).mono ?_; rintro e w7 ⟨x7, ⟨v7, own7, rfl, hO7, hl7, hC7, hS7⟩, hI7, hE7⟩) | (refine wpList_alloc_row rfl 27 rfl (rpC rp0) (by kernel_rfl) ?_) | (refine wpList_store_whole rfl 27 _ _ rfl w7.heap.size (rpC (err 6)) (rpC rp0) ?_ ?_ 27 (alloc_blk _ _) (by kernel_rfl) (rpC_all _) rfl ?_; rfl; rfl; intro w8 h8 hK8))
          have hB8 : Below w7.heap.size w7 w8 := (below_alloc _ _).trans (hK8.below (Nat.le_refl _) (by simp))
          have hQ8 : EdQ w cb w8 own7 x7 (xs.length + 5) (xs.length + 5) (peE c) [⟨1, 0, 0, 0⟩, ⟨kindC c, 0, 0, 1⟩] := HQ6.out.step (hC7.below hB8) hI7 hE7 hS7 hB8
          have HR8 : Hid (w8.heap[w7.heap.size]? = some (.cells (rpC (err 6)) 27 (0, 0)) ∧ own7 w7.heap.size = none) := ⟨h8, hC7.owned.fresh (Nat.le_refl _)⟩
          have HA5 : Hid (∀ z : Int, z = (xs.length : Int) + 5 → Calls Try.prog 7 #[.pointer (some ⟨cb, 0, none⟩), .agg #[.int .i64 2, .int .i64 0, .int .i64 z, .string ⟨#[]⟩, .int .i64 0, .int .i64 0, .int .i64 2, .int .i64 0, .bool false]] w8 fun e w' => ∃ x9 p9, ApR own7 w8 cb (err 0) [] x9 e w' ∧ x9.Inv (xs.length + 6) ∧ EnS x9 ((xs.length + 6 : Nat) : Int) p9 [⟨1, 0, 0, 0⟩, ⟨kindC c, 0, 0, 1⟩]) := fun z hz => by
            subst hz
            have hr := run_addE hQ8.st rfl ((xs.length : Int) + 5) 2 0
            obtain ⟨p9, hp9, -⟩ := add_peE2 c 0
            rw [hp9] at hr
            obtain ⟨x9, hx, hE⟩ := hQ8.st.step (addE ((xs.length : Int) + 5) 2 0) (key_add _ _ _) hr
            exact (apply_lit own7 w8 cb x7 (xs.length + 5) hQ8.co (addE ((xs.length : Int) + 5) 2 0) (addE_in (by omega) (by omega) (by omega)) hQ8.inv (by omega) (addE_ok (xs.length + 5) (by omega) 2 (by omega) (by omega) 0 (by omega)) _ _ _ hx).mono fun e w' h => ⟨x9, p9, h.1, h.2, hE⟩
          have HQ8 : Hid (EdQ w cb w8 own7 x7 (xs.length + 5) (xs.length + 5) (peE c) [⟨1, 0, 0, 0⟩, ⟨kindC c, 0, 0, 1⟩]) := hQ8
          obtain ⟨q1, Hq1⟩ : ∃ q, Hid (w7.heap.size = q) := ⟨_, rfl⟩
          rw [Hq1.out] at HR8 ⊢
          clear hQ8 hB8 h8 hK8 hC7 hI7 hE7 hS7 hO7 hl7 HQ6 HA4
          go_upto_region 29 with (first | (go_at_call 7; refine (HA5.out _ (by omega)).mono ?_; rintro e w9 ⟨x9, p9, ⟨v9, own9, rfl, hO9, hl9, hC9, hS9⟩, hI9, hE9⟩) | (refine wpList_alloc_row rfl 27 rfl (rpC rp0) (by kernel_rfl) ?_) | (refine wpList_store_whole rfl 27 _ _ rfl w9.heap.size (rpC (err 0)) (rpC rp0) ?_ ?_ 27 (alloc_blk _ _) (by kernel_rfl) (rpC_all _) rfl ?_; rfl; rfl; intro w10 h10 hK10))
          have hB10 : Below w9.heap.size w9 w10 := (below_alloc _ _).trans (hK10.below (Nat.le_refl _) (by simp))
          have hQ10 : EdQ w cb w10 own9 x9 (xs.length + 6) (xs.length + 6) p9 [⟨1, 0, 0, 0⟩, ⟨kindC c, 0, 0, 1⟩] := HQ8.out.step (hC9.below hB10) hI9 hE9 hS9 hB10
          have h9r := hS9.keep HR8.out.1 HR8.out.2
          have h10r : w10.heap[q1]? = some (.cells (rpC (err 6)) 27 (0, 0)) := (hB10.block q1 (lt_blk h9r)).trans h9r
          have c1 : w10.cell? ⟨q1, 0, none⟩ = some (.int .i64 6) := cell_blk h10r 0
          have c2 : w10.cell? ⟨w9.heap.size, 0, none⟩ = some (.int .i64 0) := cell_blk h10 0
          have hml : x9.ms.length ≤ 50000 := by rw [hQ10.st.ms]; simp
          have HMA := Marks_at own9 w10 cb x9 hQ10.co hml
          rw [hQ10.st.ms] at HMA
          have HMK : Hid (Calls Try.prog 11 #[.pointer (some ⟨cb, 0, none⟩)] w10 fun e w' => ∃ v', e = .returned v' ∧ OwnM w' w10.heap.size v' [⟨1, 0, 0, 0⟩, ⟨kindC c, 0, 0, 1⟩] ∧ Below w10.heap.size w10 w') := HMA
          have hbe := hQ10.below
          obtain ⟨q2, Hq2⟩ : ∃ q, Hid (w9.heap.size = q) := ⟨_, rfl⟩
          rw [Hq2.out] at c2 ⊢
          clear HMA hQ10 hB10 h9r h10r h10 hK10 hC9 hI9 hE9 hS9 hO9 hl9 HQ8 HA5 HR8
          go_wp2_with (first | (go_at_call 11; refine HMK.out.mono ?_; rintro e w11 ⟨v11, rfl, hv11, hB11⟩; obtain ⟨a11, k11, rfl⟩ := hv11.form; simp only [List.length_cons, List.length_nil, Nat.zero_add, Nat.reduceAdd]; clear hv11) | (go_at_call 10; refine (known_at _).mono ?_; rintro e w12 ⟨rfl, hB12⟩) | (refine wanted_do rfl fun _ _ => ?_))
          go_ret
          exact ⟨rfl, hbe.trans ((hB11.trans (hB12.mono hB11.size)).mono hbe.size)⟩
end Go.Proofs.Ytoihfhlelbdboab
namespace Go.Proofs.Ytoihfhlelbdboab
open Go.ChangeShapes Go.WideShapes Go.ChangeAt Go.RowKit Go.Dig Go.Deep
section
variable {H : Type} {enc : TypeId × Value → H} {W : World} {base : Nat} {spare : Nat → Bool} {held : Bool} {fuel : Nat} {cs : List Value} {x : DataW H × List MemPlace}
theorem ints_cells {a : Option Addr} {len cap : Nat} (h : DataW.trod enc Try.prog W base spare held fuel 22 [.slice a len cap] = some x) : ∃ xs : List Int, len = xs.length ∧ RowI W a xs := by
  rcases ChangeShapes.open_ints Try.underlying22 Try.underlying3 (by kernel_rfl) h with ⟨hcs, _⟩ | ⟨b, l, c, zs, hcs, _, hl, hm, hz, _, hcell, hwz⟩
  · simp at hcs
    obtain ⟨rfl, rfl, rfl⟩ := hcs
    exact ⟨[], rfl, fun i x hx => by simp at hx⟩
  · simp at hcs
    obtain ⟨rfl, rfl, rfl⟩ := hcs
    have hz' : len ≤ zs.length := by rw [hz]; split <;> omega
    have hlen : (zs.take len).length = len := by simp; omega
    refine ⟨zs.take len, hlen.symm, fun i y hy => ?_⟩
    have hi : i < len := by
      rw [← hlen]; exact (List.getElem?_eq_some_iff.mp hy).1
    have hc := hcell i (by omega)
    obtain ⟨g, off, sp⟩ := b
    have hs : sp = none := by
      have := spot_none (hcell 0 (by omega))
      simpa [Addr.add] using this
    subst hs
    rw [Addr.add_lit] at hc
    rw [List.getElem?_take_of_lt hi] at hy
    refine ⟨g, off, rfl, ?_⟩
    rw [hc, List.getD_eq_getElem?_getD, hy]
    rfl
end
end Go.Proofs.Ytoihfhlelbdboab
namespace Go.Proofs.Ytoihfhlelbdboab.coordEnds
open Go.ChangeShapes Go.WideShapes Go.ChangeAt Go.RowKit Go.Dig
open Go.ChangeMaps (open_string shut_string)
set_option linter.unusedVariables false

theorem laidOut : laidOutB Try.prog = true := by kernel_rfl
theorem own : ownKnob Try.prog.godebug = none := by kernel_rfl

set_option maxRecDepth 100000 in
theorem lifted (os : Os) (started : os.Started) (H : Type) (enc : TypeId × Value → H) :
    ReturnsInHanded {} Try.checked os 3 .any (Rows.coordEndsSpec.pre6 enc Try.prog Try.f3 Rows.coordEndsRow.domain false) (Rows.coordEndsSpec.post enc Try.prog Try.f3 false true false false) := by
  refine returnsInHanded_of_change (C := Try.checked) own started (by kernel_rfl) Try.func3
    (ChangeSpec.witness6 (enc := enc) (C := Try.checked) false ⟨#[], #[.bool false, .slice none 0 0], []⟩ 8 (by kernel_rfl) (by kernel_rfl) (by kernel_rfl) (by kernel_rfl)) ?_
  intro W base args ds gs before hval0 hW hcnd _
  have hval : ∀ (j : Nat) t v, Try.f3.params[j]? = some t → args[j]? = some v → Value.okWide Try.prog W .any base t v := hval0
  have hW' := hW
  obtain ⟨p, q, hA0, hV, rfl, hfz, hnd⟩ := hW
  have hA : DataW.TrodAll enc Try.prog W 0 (fun _ => true) true Try.f3.params.toList args.toList ds p := hA0
  rw [Try.params3] at hA hval
  obtain ⟨v0, vs0, d0, ds0, p0, q0, hargs, rfl, rfl, h0, r0⟩ := trodAll_cons hA
  obtain ⟨v1, vs1, d1, ds1, p1, q1, rfl, rfl, rfl, h1, r1⟩ := trodAll_cons r0
  obtain ⟨rfl, rfl, rfl⟩ := trodAll_nil r1
  obtain rfl : args = #[v0, v1] := by cases args; simp_all
  obtain ⟨rfl, rfl⟩ := trodVars_none hV
  obtain ⟨a0, rfl, rfl, rfl⟩ := open_bool Try.underlying4 (hval 0 4 v0 rfl rfl) h0
  have k1 := h1
  have lt1 : ∀ x ∈ p1, x.block < W.heap.size := by obtain ⟨m, hm⟩ := k1; exact DataW.trod_lt m _ _ _ hm
  obtain ⟨o1, len1, c1, rfl⟩ := okWide_slice Try.underlying22 (hval 1 22 v1 rfl rfl)
  obtain ⟨xs1, rfl, l1⟩ : ∃ xs : List Int, len1 = xs.length ∧ RowI W o1 xs := by
    obtain ⟨fuel, hf⟩ := h1
    exact ints_cells hf
  clear hA0 hval0
  refine (Ends_law W a0 o1 c1 xs1 l1).mono fun e W' ⟨he, bel⟩ => ?_
  subst he
  exact ⟨_, rfl, _, _, _, [], _, [], hW', trodAll_mk1 (shut_bool Try.underlying4 _), (trodAll_cons_mk (shut_bool Try.underlying4 _) (trodAll_cons_mk (Below.trod laidOut (by kernel_rfl) (of_decide_eq_true (by kernel_rfl)) k1 bel lt1) trodAll_mk0)), rfl, bel.frame _, fun h => by cases h⟩

theorem over : Rows.coordEndsRow.holds Try.pinned (OpenSpec.ofChange Rows.coordEndsSpec) :=
  OpenClaim.holds_of_wide 3 Try.f3 rfl rfl rfl rfl rfl rfl rfl ⟨rfl, rfl, rfl, rfl, rfl⟩ rfl rfl rfl rfl rfl (by kernel_rfl) Try.func3 (by kernel_rfl)
    (of_decide_eq_true (by kernel_rfl)) (by unfold Func.isWrapper; first | (rw [if_pos (by decide +kernel)]; kernel_rfl) | (rw [if_neg (by decide +kernel)]; exact ⟨rfl, rfl⟩))
    (fun os started H enc _ => lifted os started H enc)

theorem proved : Rows.CoordEndsSaid := over
#print axioms proved
end Go.Proofs.Ytoihfhlelbdboab.coordEnds
