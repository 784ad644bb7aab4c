/- A producer is sought by its name. -/
import Derived.Test.YtoihfhlelbdboabCoG
import Derived.Test.YtoihfhlelbdboabInvIn
import Derived.RangeFuncNested
namespace Go.Proofs.Ytoihfhlelbdboab
open Go.RowKit Go.Dig Go.Inv Go.Oct Go.Hold
attribute [local go_sem] Oper.semAt_some
set_option linter.unusedVariables false
set_option linter.unusedSimpArgs false

/-- an entry of the producers' table -/
def Ent (q : List Nat) (e : Int × Option Addr) : Prop := ∃ (i b : Nat), e = ((i : Int), some ⟨b, 0, none⟩) ∧ q[i]? = some b
theorem tabP_at : ∀ (i : Nat) (q : List Nat) (j : Nat), (tabP i q)[j]? = (q[j]?).map fun b => (((i + j : Nat) : Int), some (⟨b, 0, none⟩ : Addr))
  | i, [], j => by simp [tabP]
  | i, b :: r, 0 => by simp [tabP]
  | i, b :: r, j + 1 => by
    have h := tabP_at (i + 1) r j
    simp only [tabP, List.getElem?_cons_succ]
    rw [h]
    have : i + 1 + j = i + (j + 1) := by omega
    rw [this]
theorem tabP_ent (q : List Nat) : ∀ e ∈ tabP 0 q, Ent q e := fun e he => by
  obtain ⟨j, hj⟩ := List.mem_iff_getElem?.1 he
  rw [tabP_at] at hj
  cases hq : q[j]? with
  | none => rw [hq] at hj; cases hj
  | some b =>
    rw [hq] at hj
    simp at hj
    exact ⟨j, b, hj.symm, hq⟩
theorem InT_of_L {P : Nat → Prop} {n₀ : Nat} {W : World} (hP : ∀ b z, b < n₀ → W.cell? ⟨b, 3, none⟩ = some (.pointer z) → P b) : ∀ {p : Option Addr} {t : BT (Option Addr)}, Pp.IsT n₀ W p t → Pp.InT P W p t
  | _, .nil, ht => ht
  | _, .node _ _ _ _, ⟨b, pl, pr, hp, hb, h0, h1, _, h3, h4, hl, hr⟩ => ⟨b, pl, pr, hp, hP b pl hb h3, h0, h1, h3, h4, InT_of_L hP hl, InT_of_L hP hr⟩
/-- All of the producers, behind it -/
theorem all_seq (q : List Nat) (pb : Nat) (W0 : World) (hT : Pp.Tab W0 pb (tabP 0 q)) (Bt Bf : Nat) (bT : Boxed W0 Bt 48 (.pointer (some ⟨pb, 0, none⟩))) (bF : Boxed W0 Bf 3 (.int .i64 (-9223372036854775808)))
    (P : Nat → Prop) (hP : ∀ b z, b < W0.heap.size → W0.cell? ⟨b, 3, none⟩ = some (.pointer z) → P b) (hPw : ∀ b, P b → b < W0.heap.size) (n : Nat) :
    SeqStopsK Fence.wide n Try.prog 82 #[.pointer (some ⟨Bt, 0, none⟩), .pointer (some ⟨Bf, 0, none⟩)] (fun x : { x : Int × Option Addr // Ent q x } => #[Value.int .i64 x.1.1, Value.pointer x.1.2]) (Pp.Kept P) (fun ys => ys.map (·.1) = tabP 0 q) (fun pre => pre.map (·.1) <+: tabP 0 q) q.length W0 := by
  obtain ⟨p, t, hroot, hTT, hl, hr, hlo⟩ := Pp.TabP.open (.inr ⟨pb, rfl, hT⟩)
  have hf : fromL (-9223372036854775808) (tabP 0 q) = tabP 0 q := fromL_all (fun x hx => by have := hlo x hx; omega)
  have := Pp.from_stopsA (Ent q) P (some ⟨pb, 0, none⟩) p t (-9223372036854775808) Bt Bf W0 hroot (InT_of_L hP hTT) (by rw [hl]; exact hr) (by rw [hl, hf]; exact tabP_ent q) bT bF hPw n
  rw [hl, hf, tabP_length] at this
  exact this
theorem kept_below {P : Nat → Prop} {n : Nat} {A B : World} (hP : ∀ b, P b → b < n) (h : Below n A B) : Pp.Kept P A B := fun b hb => h.block b (hP b hb)
theorem blk_turn {A B : World} {row : Option Nat} {b : Nat} {c : Array Value} {t : TypeId} {fr : Nat × Nat} (h : A.heap[b]? = some (.cells c t fr)) (hg : A.grownBy B row) (hr : ∀ r, row = some r → ∃ o : Obj, A.heap[r]? = some o ∧ o.isCells = false) : B.heap[b]? = some (.cells c t fr) :=
  (hg.block b (lt_blk h) (fun e => by obtain ⟨o, h1, h2⟩ := hr b e.symm; rw [h] at h1; cases h1; cases h2)).trans h
/-- the producer of that name -/
def Hit (nm : ByteArray) (ps : List Pr) (e : Int × Option Addr) : Prop := ∃ p, ps[e.1.toNat]? = some p ∧ p.nm = nm
theorem findN_none : ∀ (nm : ByteArray) (ps : List Pr) (i : Nat), (∀ (j : Nat) p, ps[j]? = some p → p.nm ≠ nm) → findN nm ps i = none
  | _, [], _, _ => rfl
  | nm, p :: r, i, h => by
    unfold findN
    rw [if_neg (h 0 p rfl)]
    exact findN_none nm r (i + 1) fun j p hj => h (j + 1) p hj
theorem findN_some : ∀ (nm : ByteArray) (ps : List Pr) (i k : Nat) (p : Pr), ps[k]? = some p → p.nm = nm → (∀ (j : Nat) p, j < k → ps[j]? = some p → p.nm ≠ nm) → findN nm ps i = some (i + k)
  | _, [], _, k, p, h, _, _ => by simp at h
  | nm, p :: r, i, 0, p', h, hn, _ => by
    simp at h
    unfold findN
    rw [if_pos (by rw [h]; exact hn)]
    rfl
  | nm, p :: r, i, k + 1, p', h, hn, hb => by
    unfold findN
    rw [if_neg (hb 0 p (by omega) rfl), findN_some nm r (i + 1) k p' (by simpa using h) hn fun j p hj hq => hb (j + 1) p (by omega) hq]
    congr 1
    omega
/-- those told are the first ones -/
theorem pre_at {q : List Nat} {pre : List { x : Int × Option Addr // Ent q x }} (h : pre.map (·.1) <+: tabP 0 q) {j : Nat} (hj : j < pre.length) : ∃ b, q[j]? = some b ∧ (pre[j]).1 = ((j : Int), some ⟨b, 0, none⟩) := by
  obtain ⟨t, ht⟩ := h
  have h1 : (tabP 0 q)[j]? = some (pre[j]).1 := by
    rw [← ht, List.getElem?_append_left (by simpa using hj), List.getElem?_map, List.getElem?_eq_getElem hj]; rfl
  rw [tabP_at] at h1
  cases hq : q[j]? with
  | none => rw [hq] at h1; cases h1
  | some b => rw [hq] at h1; simp at h1; exact ⟨b, rfl, h1.symm⟩
theorem results_ptr {fn : Func} {p : Tmp} (h : fn.results = #[.cell p 58]) (tmps : Array Value) (w : World) (g : Nat) (v : Value) (hp : tmps.getD p undef = .pointer (some ⟨g, 0, none⟩)) (hg : w.cell? ⟨g, 0, none⟩ = some v) : (results fn tmps).run Try.prog w = .ok v w := by
  have hp' : tmps[p]?.getD undef = .pointer (some ⟨g, 0, none⟩) := by simpa using hp
  simp [results, h, hp', asAddr, go_sem, hg]
def NmI (W0 : World) (nm : ByteArray) (ps : List Pr) (q : List Nat) (pre : List { x : Int × Option Addr // Ent q x }) (W : World) : Prop := Below W0.heap.size W0 W ∧ ∀ e ∈ pre, ¬ Hit nm ps e.1
def NmX (w : World) (nm : ByteArray) (ps : List Pr) (q : List Nat) (c : Code) (pre : List { x : Int × Option Addr // Ent q x }) (W : World) : Prop := c = .ret ∧ Below w.heap.size w W ∧ ∃ pre' e, pre = pre' ++ [e] ∧ (∀ e' ∈ pre', ¬ Hit nm ps e'.1) ∧ Hit nm ps e.1 ∧ Boxed W (w.heap.size + 1) 58 (.pointer e.1.2)
set_option maxRecDepth 100000 in
set_option maxHeartbeats 4000000 in
theorem named_at (own : Own) (w : World) (cb : Nat) (x : Co) (pb rb : Nat) (mv : Value) (q : List Nat) (h : CoS own w cb x pb rb mv q) (nm : ByteArray) :
    Calls Try.prog 48 #[.pointer (some ⟨cb, 0, none⟩), .string nm] w fun e w' => e = .returned (.pointer ((findN nm x.ps 0).bind fun i => (q[i]?).map fun b => ⟨b, 0, none⟩)) ∧ Below w.heap.size w w' := by
  have HS : Hid (CoS own w cb x pb rb mv q) := h
  have hB1 : Below w.heap.size w ((w.alloc (.cells #[.string nm] 9)).alloc (.cells #[.pointer none] 58)) := ((Below.refl _ w).alloc (Nat.le_refl _) _).alloc (by simp) _
  have b3 := (Boxed.new w 9 (.string nm)).alloc (.cells #[.pointer none] 58)
  have b4 := Boxed.new (w.alloc (.cells #[.string nm] 9)) 58 (.pointer none)
  rw [World.size_alloc] at b4
  have hsz1 : ((w.alloc (.cells #[.string nm] 9)).alloc (.cells #[.pointer none] 58)).heap.size = w.heap.size + 2 := by simp
  have h1 := h.below hB1
  have c0 : ((w.alloc (.cells #[.string nm] 9)).alloc (.cells #[.pointer none] 58)).cell? ⟨cb, 0, none⟩ = some (.pointer (some ⟨pb, 0, none⟩)) := cell_blk h1.blk 0
  refine (callsIn_wide (n := 9)).1 ?_
  refine callsIn_of_wp_marks Try.func48 rfl trivial ?_ rfl
  simp only [Try.ntmps48, List.size_toArray, List.length_cons, List.length_nil, Nat.reduceAdd, Nat.reduceSub, Array.replicate_succ, Array.replicate_zero, List.push_toArray, List.append_toArray, List.nil_append, List.cons_append]
  gi_wp2_with fail
  refine ⟨trivial, ?_⟩
  refine (callsIn_wide.2 (Pp.All_any _ _)).mono ?_
  rintro e w2 ⟨rfl, rfl⟩
  obtain ⟨W0, hW0⟩ : ∃ W0, (((w.alloc (.cells #[.string nm] 9)).alloc (.cells #[.pointer none] 58)).alloc (.cells #[.pointer (some ⟨pb, 0, none⟩)] 48)).alloc (.cells #[.int .i64 (-9223372036854775808)] 3) = W0 := ⟨_, rfl⟩
  have bT := (Boxed.new ((w.alloc (.cells #[.string nm] 9)).alloc (.cells #[.pointer none] 58)) 48 (.pointer (some ⟨pb, 0, none⟩))).alloc (.cells #[.int .i64 (-9223372036854775808)] 3)
  have bF := Boxed.new (((w.alloc (.cells #[.string nm] 9)).alloc (.cells #[.pointer none] 58)).alloc (.cells #[.pointer (some ⟨pb, 0, none⟩)] 48)) 3 (.int .i64 (-9223372036854775808))
  rw [World.size_alloc] at bF
  rw [hsz1] at bT bF ⊢
  have b3 := (b3.alloc (.cells #[.pointer (some ⟨pb, 0, none⟩)] 48)).alloc (.cells #[.int .i64 (-9223372036854775808)] 3)
  have b4 := (b4.alloc (.cells #[.pointer (some ⟨pb, 0, none⟩)] 48)).alloc (.cells #[.int .i64 (-9223372036854775808)] 3)
  have hsz0 : ((((w.alloc (.cells #[.string nm] 9)).alloc (.cells #[.pointer none] 58)).alloc (.cells #[.pointer (some ⟨pb, 0, none⟩)] 48)).alloc (.cells #[.int .i64 (-9223372036854775808)] 3)).heap.size = w.heap.size + 4 := by simp
  have hB0 : Below w.heap.size w ((((w.alloc (.cells #[.string nm] 9)).alloc (.cells #[.pointer none] 58)).alloc (.cells #[.pointer (some ⟨pb, 0, none⟩)] 48)).alloc (.cells #[.int .i64 (-9223372036854775808)] 3)) := (hB1.alloc (by omega) _).alloc (by simp; omega) _
  rw [hW0] at bT bF b3 b4 hsz0 hB0 ⊢
  clear hW0 hB1 h1 hsz1
  have hP : ∀ b z, b < W0.heap.size → W0.cell? ⟨b, 3, none⟩ = some (.pointer z) → b < W0.heap.size ∧ b ≠ w.heap.size + 1 := fun b z hb hz => ⟨hb, fun e => by subst e; rw [b4.cellN (by decide)] at hz; cases hz⟩
  have hseq := all_seq q pb W0 (h.below hB0).tp (w.heap.size + 2) (w.heap.size + 3) bT bF (fun b => b < W0.heap.size ∧ b ≠ w.heap.size + 1) hP (fun b hb => hb.1)
  have HX3 : Hid (Boxed W0 w.heap.size 9 (.string nm)) := b3
  have HX4 : Hid (Boxed W0 (w.heap.size + 1) 58 (.pointer none)) := b4
  have HB0 : Hid (Below w.heap.size w W0) := hB0
  have HS0 : Hid (W0.heap.size = w.heap.size + 4) := hsz0
  have HQ : Hid _ := hseq
  have hrun : ∀ W, Sem.run Try.prog (binOp BinOp.eql 109 (Value.func (Fn.func 82) #[] #[.pointer (some ⟨w.heap.size + 2, 0, none⟩), .pointer (some ⟨w.heap.size + 3, 0, none⟩)]) Value.nilFunc) W = .ok (.bool false) W := fun _ => rfl
  clear hseq bT bF b3 b4 hsz0 hB0 hP h
  gi_wp2_with fail
  refine wpIn_rangeFunc_ownG rfl (by decide) (gf := 82) (lb := #[.pointer (some ⟨w.heap.size + 2, 0, none⟩), .pointer (some ⟨w.heap.size + 3, 0, none⟩)]) rfl trivial (enters_of Try.func82 (by kernel_rfl) rfl) (HQ.out _) (fun h k => Pp.Kept.trans h k)
    (fun W l o o' hl _ _ _ b hb => World.putObj_heap_other (by have := hb.1; omega)) (Below.refl _ _) (fun _ => rfl)
    (NmI W0 nm x.ps q) (NmX w nm x.ps q)
    (fun s A B row hs hg hr => ⟨hs.1.trans ⟨hg.os, hg.tape, hg.output, hg.size, fun k hk => hg.block k (by have := hs.1.size; omega) (fun e => by have := (hr k e.symm).1; omega)⟩, hs.2⟩)
    (fun c s A B row hs hg hr => by
      have hs0 := HS0.out
      obtain ⟨h1, h2, pre', e, h3, h4, h5, h6⟩ := hs
      exact ⟨h1, h2.trans ⟨hg.os, hg.tape, hg.output, hg.size, fun k hk => hg.block k (by have := h2.size; omega) (fun e => by have := (hr k e.symm).1; omega)⟩, pre', e, h3, h4, h5, (hg.block _ h6.lt (fun e => by have := (hr _ e.symm).1; omega)).trans h6⟩)
    ⟨Below.refl _ _, fun e he => by cases he⟩
    (fun x' => { tmps := (Value.pointer (some (⟨cb, 0, none⟩ : Addr)) :: Value.string nm :: undef :: Value.pointer (some (⟨w.heap.size, 0, none⟩ : Addr)) :: Value.pointer (some (⟨w.heap.size + 1, 0, none⟩ : Addr)) :: undef :: Value.pointer x'.1.2 :: Value.pointer (some (⟨cb, 0, none⟩ : Addr)) :: Value.pointer (some (⟨cb, 0, none⟩ : Addr)) :: Value.pointer (some (⟨cb, 0, none⟩ : Addr)) :: Value.pointer (some (⟨pb, 0, none⟩ : Addr)) :: Value.func (Fn.func 82) #[] #[Value.pointer (some (⟨w.heap.size + 2, 0, none⟩ : Addr)), Value.pointer (some (⟨w.heap.size + 2 + 1, 0, none⟩ : Addr))] :: Value.int .i64 x'.1.1 :: Value.pointer x'.1.2 :: undef :: undef :: undef :: undef :: undef :: undef :: undef :: []).toArray, defers := [] }) ?assign ?body ?done ?stop
  case assign =>
    intro l x' W K hK
    gi_wp2
    exact hK
  case body =>
    rintro l pre ⟨⟨ek, ea⟩, i, b, he, hqb⟩ W ⟨hB, hno⟩ hlt
    cases he
    have hs0 := HS0.out
    obtain ⟨p, hp⟩ : ∃ p, x.ps[i]? = some p := by
      have h1 := (List.getElem?_eq_some_iff.1 hqb).1
      rw [HS.out.len] at h1
      exact ⟨_, List.getElem?_eq_getElem h1⟩
    obtain ⟨b', hb', ev, ov, hP⟩ := HS.out.pr i p hp
    rw [hqb] at hb'
    cases hb'
    have hPW := hP.below (HB0.out.trans (hB.mono (by omega))) HS.out.owned
    have c0 : W.cell? ⟨b, 0, none⟩ = some (.string p.nm) := cell_blk hPW.blk 0
    have hx3 : Boxed W w.heap.size 9 (.string nm) := (hB.block _ (by omega)).trans HX3.out
    have hx4 : Boxed W (w.heap.size + 1) 58 (.pointer none) := (hB.block _ (by omega)).trans HX4.out
    have c3 := hx3.cell
    have c4 := hx4.cell
    have f4 := hx4.frozen
    have hbl : b < W.heap.size := lt_blk hPW.blk
    have hwl : w.heap.size < W.heap.size := hx3.lt
    have HX : Hid (Boxed W (w.heap.size + 1) 58 (.pointer none)) := hx4
    have HP : Hid (x.ps[i]? = some p) := hp
    have HB : Hid (Below W0.heap.size W0 W) := hB
    clear hPW hP hx3 hx4 hB hp hs0
    gi_wp2_with fail
    refine wpIn_region_growG (by kernel_rfl) (by kernel_rfl) (fun xS => { tmps := (Value.pointer (some (⟨cb, 0, none⟩ : Addr)) :: Value.string nm :: undef :: Value.pointer (some (⟨w.heap.size, 0, none⟩ : Addr)) :: Value.pointer (some (⟨w.heap.size + 1, 0, none⟩ : Addr)) :: undef :: Value.pointer (some (⟨b, 0, none⟩ : Addr)) :: Value.pointer (some (⟨cb, 0, none⟩ : Addr)) :: Value.pointer (some (⟨cb, 0, none⟩ : Addr)) :: Value.pointer (some (⟨cb, 0, none⟩ : Addr)) :: Value.pointer (some (⟨pb, 0, none⟩ : Addr)) :: Value.func (Fn.func 82) #[] #[Value.pointer (some (⟨w.heap.size + 2, 0, none⟩ : Addr)), Value.pointer (some (⟨w.heap.size + 2 + 1, 0, none⟩ : Addr))] :: Value.int IntKind.i64 (i : Int) :: Value.pointer (some (⟨b, 0, none⟩ : Addr)) :: xS 0 :: xS 1 :: xS 2 :: xS 3 :: xS 4 :: xS 5 :: undef :: []).toArray, defers := [] })
      (fun ii xx WW => match ii with | 0 => xx = .pointer (some ⟨b, 0, none⟩) | 1 => xx = .pointer (some ⟨b, 0, none⟩) | 2 => xx = .pointer (some ⟨b, 0, none⟩) | 3 => xx = .string p.nm | 4 => xx = .string nm | 5 => xx = .bool (p.nm.toList == nm.toList) | _ => True) (fun | 0 => undef | 1 => undef | 2 => undef | 3 => undef | 4 => undef | 5 => undef | _ => undef) (by repeat (first | exact trivial | refine ⟨fun _ _ => rfl, ?_⟩)) (fun _ _ _ _ _ h => h) ⟨?_, ?_, ?_, ?_, ?_, ?_, trivial⟩ ?_
    · intro xS W hB hp K hK
      rw [if_pos (wanted_none rfl _)]
      clear hp
      go_simp
      exact hK _ _ (Below.refl _ _) rfl
    · intro xS W hB hp K hK
      rw [if_pos (wanted_none rfl _)]
      have h0 : xS 0 = .pointer (some ⟨b, 0, none⟩) := hp.1 rfl
      clear hp
      simp only [h0] at hK ⊢
      clear h0
      go_simp
      exact hK _ _ (Below.refl _ _) rfl
    · intro xS W hB hp K hK
      rw [if_pos (wanted_none rfl _)]
      have h1 : xS 1 = .pointer (some ⟨b, 0, none⟩) := hp.1 rfl
      clear hp
      simp only [h1] at hK ⊢
      clear h1
      go_simp
      exact hK _ _ (Below.refl _ _) rfl
    · intro xS W hB hp K hK
      rw [if_pos (wanted_none rfl _)]
      have h2 : xS 2 = .pointer (some ⟨b, 0, none⟩) := hp.1 rfl
      clear hp
      have hc := (hB.cell (p := ⟨b, 0, none⟩) hbl).trans c0
      simp only [h2] at hK ⊢
      clear h2
      go_simp
      exact hK _ _ (Below.refl _ _) rfl
    · intro xS W hB hp K hK
      rw [if_pos (wanted_none rfl _)]
      clear hp
      have hc := (hB.cell (p := ⟨w.heap.size, 0, none⟩) hwl).trans c3
      go_simp
      exact hK _ _ (Below.refl _ _) rfl
    · intro xS W hB hp K hK
      rw [if_pos (wanted_none rfl _)]
      have h3 : xS 3 = .string p.nm := hp.1 rfl
      have h4 : xS 4 = .string nm := hp.2.1 rfl
      clear hp
      simp only [h3, h4] at hK ⊢
      clear h3 h4
      go_simp
      exact hK _ _ (Below.refl _ _) rfl
    intro xS W3 hB3 hs
    have h5 : xS 5 = .bool (p.nm.toList == nm.toList) := hs 5 (by simp)
    clear hs
    simp only [h5]
    have HB3 : Hid (Below W0.heap.size W0 W3) := HB.out.trans (hB3.mono HB.out.size)
    have hx5 : Boxed W3 (w.heap.size + 1) 58 (.pointer none) := (hB3.block _ HX.out.lt).trans HX.out
    have hkf : KeepsFrom W0.heap.size W W3 := ⟨hB3.size, fun k o _ h _ => (hB3.block k (Array.getElem?_eq_some_iff.1 h).1).trans h⟩
    have hkp : Pp.Kept (fun b => b < W0.heap.size ∧ b ≠ w.heap.size + 1) W W3 := kept_below (fun b hb => Nat.lt_of_lt_of_le hb.1 HB.out.size) hB3
    have c5 := hx5.cell
    have f5 := hx5.frozen
    have HX5 : Hid (Boxed W3 (w.heap.size + 1) 58 (.pointer none)) := hx5
    have HKF : Hid _ := hkf
    have HKP : Hid _ := hkp
    clear hx5 hkf hkp c0 c3 c4 f4 h5
    cases hc : (p.nm.toList == nm.toList)
    · gi_wp2_with fail
      refine ⟨HKF.out, HKP.out, HB3.out, fun e he => ?_⟩
      rcases List.mem_append.1 he with he | he
      · exact hno e he
      · obtain rfl := List.mem_singleton.1 he
        rintro ⟨p', hp', hn'⟩
        have hp2 : x.ps[((i : Int)).toNat]? = some p' := hp'
        rw [Int.toNat_natCast, HP.out] at hp2
        cases hp2
        rw [hn'] at hc
        simp at hc
    · gi_wp2_with fail
      have hs0 := HS0.out
      have hsz : W.heap.size ≤ (W3.setCell ⟨w.heap.size + 1, 0, none⟩ (.pointer (some ⟨b, 0, none⟩))).heap.size := by simp [World.setCell]; exact HKF.out.size
      refine ⟨⟨hsz, fun k o hk h1 h2 => (set_blk_other _ _ (by omega)).trans (HKF.out.same k o hk h1 h2)⟩, rfl, (HB0.out.trans (HB3.out.mono HB0.out.size)).setCell (p := ⟨w.heap.size + 1, 0, none⟩) (by simp) _, pre, _, rfl, hno, ⟨p, HP.out, ?_⟩, HX5.out.set _⟩
      have h1 : p.nm.toList = nm.toList := by simpa using hc
      exact ByteArray.ext (Array.toList_inj.1 (by rw [← ByteArray.toList_eq, ← ByteArray.toList_eq]; exact h1))
  case done =>
    rintro D ys W hD hys ⟨hB, hno⟩ hK
    have hs0 := HS0.out
    have hx4 : Boxed W (w.heap.size + 1) 58 (.pointer none) := (hB.block _ (by omega)).trans HX4.out
    have c4 := hx4.cell
    have f4 := hx4.frozen
    have hall : ∀ (j : Nat) p, x.ps[j]? = some p → p.nm ≠ nm := fun j p hp hn => by
      have hj : j < q.length := by rw [HS.out.len]; exact (List.getElem?_eq_some_iff.1 hp).1
      have hl : ys.length = q.length := by
        have := congrArg List.length hys
        rwa [List.length_map, tabP_length] at this
      obtain ⟨b, h1, h2⟩ := pre_at (pre := ys) (by rw [hys]; exact List.prefix_rfl) (j := j) (by omega)
      exact hno (ys[j]) (List.getElem_mem _) ⟨p, by rw [h2]; exact hp, hn⟩
    have HN : Hid (findN nm x.ps 0 = none) := findN_none nm x.ps 0 hall
    have HX : Hid (Boxed W (w.heap.size + 1) 58 (.pointer none)) := hx4
    have HBW : Hid (Below w.heap.size w W) := HB0.out.trans (hB.mono HB0.out.size)
    clear hs0 hx4 hall hB hno
    gi_wp2_with fail
    have hb2 := HX.out.set (.pointer none)
    have hKs : (W.setCell ⟨w.heap.size + 1, 0, none⟩ (.pointer none)).heap[D]? = some (.deferred (some [])) := (set_blk_other _ _ (by have := HS0.out; omega)).trans hK
    have hBs : Below w.heap.size w (W.setCell ⟨w.heap.size + 1, 0, none⟩ (.pointer none)) := HBW.out.setCell (p := ⟨w.heap.size + 1, 0, none⟩) (by simp) _
    refine ⟨by simp, .inl ⟨_, _, rfl, run_takeDeferred hKs, ?_⟩⟩
    rw [HN.out]
    refine ⟨_, results_ptr rfl _ _ (w.heap.size + 1) (.pointer none) rfl ?_, rfl, hBs.trans (belowK_b (w := w) (Nat.le_refl _) _ D _ _ (by have := HS0.out; omega) hKs rfl rfl)⟩
    rw [World.cell?_of_block (a := ⟨w.heap.size + 1, 0, none⟩) (World.putObj_heap_other (by show w.heap.size + 1 ≠ D; have := HS0.out; omega))]
    exact hb2.cell
  case stop =>
    rintro D c pre W hD hpre ⟨rfl, hB, pre', e, rfl, hno, hhit, hbox⟩ hK
    gi_wp2_with fail
    refine ⟨by simp, .inl ⟨_, _, rfl, run_takeDeferred hK, ?_⟩⟩
    have hlen : pre'.length < (pre' ++ [e]).length := by simp
    obtain ⟨b, hq, he⟩ := pre_at hpre hlen
    rw [List.getElem_append_right (Nat.le_refl _)] at he
    simp at he
    obtain ⟨p, hp, hn⟩ := hhit
    rw [he] at hp hbox
    have hf : findN nm x.ps 0 = some (0 + pre'.length) := findN_some nm x.ps 0 pre'.length p hp hn fun j p' hj hp' hn' => by
      obtain ⟨b', hq', he'⟩ := pre_at hpre (j := j) (by simp; omega)
      rw [List.getElem_append_left hj] at he'
      exact hno _ (List.getElem_mem hj) ⟨p', by rw [he']; exact hp', hn'⟩
    rw [hf]
    refine ⟨_, results_ptr rfl _ _ (w.heap.size + 1) (.pointer (some ⟨b, 0, none⟩)) rfl ?_, by simp [hq], hB.trans (belowK_b (w := w) (Nat.le_refl _) _ D _ _ (by have := HS0.out; omega) hK rfl rfl)⟩
    rw [World.cell?_of_block (a := ⟨w.heap.size + 1, 0, none⟩) (World.putObj_heap_other (by show w.heap.size + 1 ≠ D; have := HS0.out; omega))]
    exact hbox.cell
end Go.Proofs.Ytoihfhlelbdboab
