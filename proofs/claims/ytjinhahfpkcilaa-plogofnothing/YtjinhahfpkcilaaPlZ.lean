/- What Records tells: each record with a clone of its value. -/
import Derived.Test.YtjinhahfpkcilaaPlY
import Derived.Test.YtjinhahfpkcilaaRangeV
namespace Go.Proofs.Ytjinhahfpkcilaa
open Go.RowKit Go.Dig Go.Inv Go.Oct
attribute [local go_sem] Oper.semAt_some
set_option linter.unusedVariables false
set_option linter.unusedSimpArgs false

/-- what a round of the caller's keeps: the blocks of P, and every box of a yield -/
def KpR (P : Nat → Prop) (b : Nat) (W W' : World) : Prop := Kept P W W' ∧ (∀ k v, Boxed W k 79 v → Boxed W' k 79 v) ∧ KeepsFrom b W W'
theorem KpR.trans {P : Nat → Prop} {b : Nat} {A B C : World} (h : KpR P b A B) (k : KpR P b B C) : KpR P b A C := ⟨h.1.trans k.1, fun b v hb => k.2.1 b v (h.2.1 b v hb), h.2.2.trans k.2.2⟩
theorem KpR.below {P : Nat → Prop} {b : Nat} {A B : World} (hP : ∀ b, P b → b < A.heap.size) (h : Below A.heap.size A B) : KpR P b A B :=
  ⟨kept_below hP h, fun b v hb => (h.block b hb.lt).trans hb, ⟨h.size, fun k o _ hk _ => (h.block k (Array.getElem?_eq_some_iff.1 hk).1).trans hk⟩⟩
theorem KpR.put {P : Nat → Prop} {b l : Nat} {A : World} {o : Obj} (o' : Obj) (hP : ∀ b, P b → b < l) (hl : A.heap[l]? = some o) (ho : o.isCells = false) (hb : l < b) : KpR P b A (A.putObj l o') :=
  ⟨fun b hb => World.putObj_heap_other (by have := hP b hb; omega), fun k v hk => (by
    refine (World.putObj_heap_other (fun e => ?_)).trans hk
    subst e
    have hb' := hl.symm.trans hk
    cases hb'
    cases ho), ⟨by simp [World.putObj], fun k o2 h1 h2 _ => (World.putObj_heap_other (by omega)).trans h2⟩⟩
theorem KpR.mono {P : Nat → Prop} {b c : Nat} {A B : World} (h : KpR P b A B) (hc : b ≤ c) : KpR P c A B := ⟨h.1, h.2.1, ⟨h.2.2.size, fun k o h1 h2 h3 => h.2.2.same k o (by omega) h2 h3⟩⟩
theorem round_wide {m m' l2 l : Nat} {fn : FuncId} {tmps : Array Value} {assign body : Code} {W : World} {R : Ending → World → Prop} (h : RoundIn Fence.wide m Try.prog l fn tmps assign body W R) : RoundIn (Fence.wide.inRound l2) m' Try.prog l fn tmps assign body W R :=
  ⟨h.1, fun c cs _ => h.2 c cs (room_wide _)⟩
/-- a record that is told: its offset, its value's clone -/
abbrev Told (L : List (Rc × Value)) := Off L × Value
def toldC (L : List (Rc × Value)) (x : Told L) : Array Value := #[.int .i64 (x.1.1 : Int), .agg (rrC ((L[x.1.1]).1, x.2))]
/-- behind the rounds so far: of the world in which the last of them ended, cells have lain on -/
def RcI (W : World) (P : Nat → Prop) (l : Nat) (L : List (Rc × Value)) (J : List (Told L) → World → Prop) (pre : List (Off L)) (W' : World) : Prop :=
  ∃ (pt : List (Told L)) (Wp : World), pt.map (·.1) = pre ∧ J pt Wp ∧ Lies (W.heap.size + 1) Wp W' ∧ Kept P W Wp ∧ Boxed Wp W.heap.size 79 (.func (.yield l) #[] #[]) ∧ W.heap.size + 1 ≤ Wp.heap.size
set_option maxRecDepth 100000 in
set_option maxHeartbeats 4000000 in
theorem Records1_seq (P : Nat → Prop) (f : Nat) (from_ : Int) (hf : max from_ 0 = (f : Int)) (v : Value) (L : List (Rc × Value)) (hL : L.length ≤ 100000) (B0 B1 B2 : Nat) (w : World) (hP : ∀ b, P b → b < w.heap.size) (hO : KeptAt P w from_ v L B0 B1)
    (h2 : Boxed w B2 44 (.func (.func 50) #[] #[.pointer (some ⟨B0, 0, none⟩), .pointer (some ⟨B1, 0, none⟩)])) (p2 : P B2)
    (hv : ∀ j : Off L, ∃ ao cap, (L[j.1]).2 = .slice ao (L[j.1]).1.v.length cap ∧ (∀ W, Kept P w W → Rowed W ao (L[j.1]).1.v cap) ∧ (L[j.1]).1.v.length ≤ 1000000) (n : Nat) (hn : 5 ≤ n) :
    SeqV Fence.wide n Try.prog 34 #[.pointer (some ⟨B2, 0, none⟩)] (toldC L) (fun x W => OwnB W w.heap.size x.2 (L[x.1.1]).1.v) (KpR P (w.heap.size + 2)) (fun xs => xs.map (·.1) = toldK L f) (fun pre => pre.map (·.1) <+: toldK L f) 100000 w := by
  intro l J Jx W hW hWz hJ hJx hY h0
  have hPW : ∀ b, P b → b < W.heap.size := fun b hb => Nat.lt_of_lt_of_le (hP b hb) hW.size
  have hk0 : Kept P w W := kept_below hP hW
  have hBa := below_alloc W (.cells #[.func (.yield l) #[] #[]] 79)
  have hy1 := Boxed.new W 79 (.func (.yield l) #[] #[])
  have hb2 : Boxed (W.alloc (.cells #[.func (.yield l) #[] #[]] 79)) B2 44 (.func (.func 50) #[] #[.pointer (some ⟨B0, 0, none⟩), .pointer (some ⟨B1, 0, none⟩)]) := Boxed.alloc (W := W) ((hW.block _ h2.lt).trans h2) _
  have c1 := hy1.cell
  have c2 := hb2.cell
  have hK1 : Kept P W (W.alloc (.cells #[.func (.yield l) #[] #[]] 79)) := kept_below hPW hBa
  have hJ1 : J [] (W.alloc (.cells #[.func (.yield l) #[] #[]] 79)) := hJ [] W _ h0 (Lies.of_below hBa)
  obtain ⟨W1, HW1⟩ : ∃ W1, Hid (W.alloc (.cells #[.func (.yield l) #[] #[]] 79) = W1) := ⟨_, rfl⟩
  have hsz1 : W1.heap.size = W.heap.size + 1 := by rw [← HW1.out]; simp
  rw [HW1.out] at hBa hy1 hb2 hK1 hJ1
  have hseq := kept_stops P f from_ hf v L hL B0 B1 W1 (fun b hb => by have := hPW b hb; omega) (hO.kept (hk0.trans hK1)) (n - 1) (by omega)
  have hseq2 : SeqV Fence.wide (n - 1) Try.prog 50 #[.pointer (some ⟨B0, 0, none⟩), .pointer (some ⟨B1, 0, none⟩)] (offC L) (fun _ _ => True) (KpR P (W1.heap.size + 2)) (fun xs => xs = toldK L f) (fun pre => pre <+: toldK L f) 100000 W1 := SeqV.of hseq fun _ _ h => h.1
  have HQ : Hid _ := hseq2
  have HY : Hid _ := hY
  have HV : Hid _ := hv
  have HI0 : Hid (RcI W P l L J [] W1) := ⟨[], W1, rfl, hJ1, Lies.refl _ _, hK1, hy1, by omega⟩
  have HK0 : Hid (Kept P w W) := hk0
  have HPW : Hid (∀ b, P b → b < W.heap.size) := hPW
  have hrun : ∀ W, Sem.run Try.prog (binOp BinOp.eql 79 (Value.func (Fn.yield l) #[] #[]) Value.nilFunc) W = .ok (.bool false) W := fun _ => rfl
  have hrun2 : ∀ W, Sem.run Try.prog (binOp BinOp.eql 44 (Value.func (Fn.func 50) #[] #[.pointer (some ⟨B0, 0, none⟩), .pointer (some ⟨B1, 0, none⟩)]) Value.nilFunc) W = .ok (.bool false) W := fun _ => rfl
  clear hseq hseq2 hY hv hk0 hPW hBa hy1 hb2 hK1 hJ1 hO h2 h0
  refine callsIn_of_wp_marks Try.func34 rfl trivial ?_ rfl
  simp only [Try.ntmps34, List.size_toArray, List.length_cons, List.length_nil, Nat.reduceAdd, Nat.reduceSub, Array.replicate_succ, Array.replicate_zero, List.push_toArray, List.append_toArray, List.nil_append, List.cons_append]
  gi_wp2_with fail
  rw [HW1.out]
  clear c1 c2
  refine rangeV rfl (by omega) (gf := 50) (lb := #[.pointer (some ⟨B0, 0, none⟩), .pointer (some ⟨B1, 0, none⟩)]) rfl trivial (enters_of Try.func50 (by kernel_rfl) rfl) HQ.out (fun h k => KpR.trans h k)
    (fun W o o' h1 h2 => KpR.put o' (fun b hb => by have := HPW.out b hb; omega) h1 h2 (by omega)) (fun _ => rfl)
    (RcI W P l L J) (fun c pre W' => c = .ret ∧ ∃ pt : List (Told L), pt.map (·.1) = pre ∧ Jx pt W')
    (fun s A B hs hl => by
      obtain ⟨pt, Wp, g1, g2, g3, g4, g5, g6⟩ := hs
      exact ⟨pt, Wp, g1, g2, g3.trans (hl.mono (by omega)), g4, g5, g6⟩)
    (fun c s A B hs hl => by
      obtain ⟨g0, pt, g1, g2⟩ := hs
      exact ⟨g0, pt, g1, hJx pt A B g2 (hl.mono (by omega))⟩)
    HI0.out
    (fun pre x' a' W' => ∃ (pt : List (Told L)) (Wp : World) (Bx : Nat), (pt.map (·.1) = pre ∧ J pt Wp ∧ Lies (W.heap.size + 1) Wp W' ∧ Kept P W Wp ∧ Boxed Wp W.heap.size 79 (.func (.yield l) #[] #[]) ∧ W.heap.size + 1 ≤ Wp.heap.size) ∧ Wp.heap.size ≤ Bx ∧ W'.heap[Bx]? = some (.cells (rrC L[x'.1]) 32 (0, 0)) ∧ a' = { tmps := (Value.func (Fn.yield l) #[] #[] :: Value.pointer (some (⟨B2, 0, none⟩ : Addr)) :: Value.pointer (some (⟨W.heap.size, 0, none⟩ : Addr)) :: Value.int .i64 (x'.1 : Int) :: Value.pointer (some (⟨Bx, 0, none⟩ : Addr)) :: Value.func (Fn.yield l) #[] #[] :: Value.bool false :: Value.func (Fn.func 50) #[] #[.pointer (some ⟨B0, 0, none⟩), .pointer (some ⟨B1, 0, none⟩)] :: Value.int .i64 (x'.1 : Int) :: Value.agg (rrC L[x'.1]) :: undef :: undef :: undef :: undef :: undef :: undef :: undef :: undef :: undef :: []).toArray, defers := [] })
    (fun pre x' a' s A B hs hl => by
      obtain ⟨pt, Wp, Bx, ⟨g1, g2, g3, g4, g5, g6⟩, h1, h2, h3⟩ := hs
      exact ⟨pt, Wp, Bx, ⟨g1, g2, g3.trans (hl.mono (by omega)), g4, g5, g6⟩, h1, hl.cells Bx _ h2 rfl, h3⟩) ?assign ?body ?done ?stop
  case assign =>
    rintro l2 pre x' W2 K ⟨pt, Wp, g1, g2, g3, g4, g5, g6⟩ - hK
    obtain ⟨ao, cap, ho1, -⟩ := HV.out x'
    simp only [offC, List.zip_toArray, List.zip_cons_cons, List.zip_nil_right, List.foldl_toArray', List.size_toArray, List.length_cons, List.length_nil, List.foldl_cons, List.foldl_nil, List.setIfInBounds_toArray, List.set_cons_succ, List.set_cons_zero]
    have ho2 : (L[x'.1]).2.oneCell' = true := by rw [ho1]; rfl
    clear ho1
    obtain ⟨r, hr⟩ : ∃ r, L[x'.1] = r := ⟨_, rfl⟩
    rw [hr] at ho2 ⊢
    gi_wp2_with (first | (refine wpListIn_allocRr rfl rfl ?_) | (refine wpListIn_storeRr rfl _ _ rfl W2 r ho2 ?_ ?_ ?_ ?_; rfl; rfl; rfl))
    have hBa := below_alloc W2 (.cells (rrC r) 32)
    have hKa : KpR P (W1.heap.size + 2) W2 (W2.alloc (.cells (rrC r) 32)) := KpR.below (fun b hb => by have := HPW.out b hb; have := g3.size; omega) hBa
    exact hK _ _ ((KeepsOthers.alloc _ _).from _) hKa ⟨pt, Wp, g1, g2, g3.trans (Lies.of_below hBa), g4, g5, g6⟩ ⟨pt, Wp, W2.heap.size, ⟨g1, g2, g3.trans (Lies.of_below hBa), g4, g5, g6⟩, g3.size, by rw [hr]; exact alloc_blk _ _, by rw [hr]⟩
  case body =>
    rintro l2 pre ⟨j, hj⟩ a' W2 - ⟨pt, Wp, Bx, ⟨g1, g2, g3, g4, g5, g6⟩, hBx, hx, rfl⟩ hlt
    dsimp only at hx ⊢
    obtain ⟨ao, cap, ho1, ho2, ho3⟩ := HV.out ⟨j, hj⟩
    dsimp only at ho1 ho2 ho3
    obtain ⟨⟨r, u⟩, hr⟩ : ∃ r, L[j] = r := ⟨_, rfl⟩
    rw [hr] at hx ho1 ho2 ho3 ⊢
    dsimp only at ho1 ho2 ho3
    subst ho1
    have c4 : W2.cell? ⟨Bx, 4, none⟩ = some (.slice ao r.v.length cap) := cell_blk hx 4
    have hPp : ∀ b, P b → b < Wp.heap.size := fun b hb => by have := HPW.out b hb; omega
    have hkW2 : Kept P Wp W2 := fun b hb => by
      have h1 := hPp b hb
      exact g3.low b (by have := HPW.out b hb; omega) h1
    have hro : Rowed W2 ao r.v cap := ho2 W2 ((HK0.out.trans g4).trans hkW2)
    have HBC : Hid _ := bClone_any r.v ao cap W2 hro ho3
    have HX : Hid (W2.heap[Bx]? = some (.cells (rrC (r, .slice ao r.v.length cap)) 32 (0, 0))) := hx
    clear hx hro ho2
    gi_wp2_with fail
    refine ⟨trivial, fun _ => by omega, ?_⟩
    refine (CallsIn.inRound l2 (callsIn_wide.2 HBC.out)).mono ?_
    rintro e W3 ⟨v', rfl, hown, hB3⟩
    have hx3 : W3.heap[Bx]? = some (.cells (rrC (r, .slice ao r.v.length cap)) 32 (0, 0)) := (hB3.block Bx (lt_blk HX.out)).trans HX.out
    have c5 : W3.cell? ⟨Bx, 4, none⟩ = some (.slice ao r.v.length cap) := cell_blk hx3 4
    have f5 : W3.frozen? ⟨Bx, 4, none⟩ = false := frozen_blk hx3 4
    have HX3 : Hid (W3.heap[Bx]? = some (.cells (rrC (r, .slice ao r.v.length cap)) 32 (0, 0))) := hx3
    obtain ⟨vo, vn, vc, rfl, -⟩ := hown.form
    have HO3 : Hid (OwnB W3 W2.heap.size (.slice vo vn vc) r.v) := hown
    have HB3 : Hid (Below W2.heap.size W2 W3) := hB3
    clear hx3 hown hB3 c4
    have hL4 : Lies W.heap.size Wp (W3.setCell ⟨Bx, 4, none⟩ (.slice vo vn vc)) := by
      have h1 : Lies W.heap.size Wp W3 := (g3.mono (by omega)).trans (Lies.of_below HB3.out)
      exact ⟨h1.os, h1.tape, h1.output, by simp [World.setCell]; exact h1.size, fun k hk hx => (set_blk_other _ _ (by omega)).trans (h1.low k hk hx), fun k o hx ho => (set_blk_other _ _ (by have := (Array.getElem?_eq_some_iff.1 hx).1; omega)).trans (h1.cells k o hx ho)⟩
    have hbW2 := lt_blk HX.out
    have hV4 : OwnB (W3.setCell ⟨Bx, 4, none⟩ (.slice vo vn vc)) w.heap.size (.slice vo vn vc) r.v := (HO3.out.same fun k hk => set_blk_other _ _ (by have := (HO3.out.lt k hk).1; omega)).mono (by have := hW.size; have := g3.size; omega)
    have hyb : Boxed (W3.setCell ⟨Bx, 4, none⟩ (.slice vo vn vc)) W.heap.size 79 (.func (.yield l) #[] #[]) := hL4.cells _ _ g5 rfl
    have c6 := hyb.cell
    have HX4 : Hid ((W3.setCell ⟨Bx, 4, none⟩ (.slice vo vn vc)).heap[Bx]? = some (.cells (rrC (r, .slice vo vn vc)) 32 (0, 0))) := set_blk HX3.out 4 _
    have hptl : pt.length < 100000 := by rw [← g1] at hlt; simpa using hlt
    obtain ⟨fn, tmps, assign, body, hy, hR⟩ := HY.out pt (⟨j, hj⟩, .slice vo vn vc) (W3.setCell ⟨Bx, 4, none⟩ (.slice vo vn vc)) (hJ pt Wp _ g2 hL4) (by show OwnB _ _ _ (L[j]).1.v; rw [hr]; exact hV4) hptl
    have hy1 : Sem.run Try.prog (Instr.yield l #[.int .i64 (j : Int), .agg (rrC (r, .slice vo vn vc))]) (W3.setCell ⟨Bx, 4, none⟩ (.slice vo vn vc)) = .ok (Next.round l fn tmps assign body) (W3.setCell ⟨Bx, 4, none⟩ (.slice vo vn vc)) := by
      have := hy
      simp only [toldC, hr] at this
      exact this
    have HYB : Hid _ := hyb
    have HL4 : Hid _ := hL4
    clear hy hV4 hyb hL4
    gi_wp2_with (first | (refine wpListIn_loadRr rfl _ rfl Bx 0 (r, .slice vo vn vc) ?_ (fun i u hu => ?_) ?_; rfl; rw [Nat.zero_add, cell_blk HX4.out]; exact hu))
    refine ⟨fun _ => by omega, (round_wide hR).mono ?_⟩
    have hk4 : ∀ b, KpR P b W2 (W3.setCell ⟨Bx, 4, none⟩ (.slice vo vn vc)) := by
      intro b0
      have h0 := g3.size
      refine ⟨fun b hb => (set_blk_other _ _ (by have := HPW.out b hb; omega)).trans (HB3.out.block b (by have := HPW.out b hb; omega)), fun k z hk => (set_blk_other _ _ (fun e => ?_)).trans ((HB3.out.block k hk.lt).trans hk), ⟨by simp [World.setCell]; exact HB3.out.size, fun k o h1 h2 h3 => (set_blk_other _ _ (fun e => ?_)).trans ((HB3.out.block k (Array.getElem?_eq_some_iff.1 h2).1).trans h2)⟩⟩
      · subst e
        have hb' := HX.out.symm.trans hk
        cases hb'
      · subst e
        have hb' := HX.out.symm.trans h2
        cases hb'
        cases h3
    rintro e W5 (⟨rfl, hJ5, hk5⟩ | ⟨rfl, hJx5, hk5⟩)
    · gi_wp2_with fail
      have hk6 := (hk4 (w.heap.size + 2)).trans hk5
      have hsz5 := hk6.2.2.size
      have h0 := g3.size
      exact ⟨(hk6.mono (by omega)).2.2, hk6.mono (by omega), pt ++ [(⟨j, hj⟩, .slice vo vn vc)], W5, by simp [g1], hJ5, Lies.refl _ _, (g4.trans hkW2).trans hk6.1, hk5.2.1 _ _ HYB.out, by omega⟩
    · gi_wp2_with fail
      have hk6 := (hk4 (w.heap.size + 2)).2.2.trans hk5
      exact ⟨⟨hk6.size, fun k o h1 h2 h3 => hk6.same k o (by omega) h2 h3⟩, rfl, pt ++ [(⟨j, hj⟩, .slice vo vn vc)], by simp [g1], hJx5⟩
  case done =>
    rintro D ys Wd hD rfl ⟨pt, Wp, g1, g2, g3, g4, g5, g6⟩ hK
    gi_wp2_with fail
    refine ⟨by simp, .inl ⟨_, _, rfl, run_takeDeferred hK, ?_⟩⟩
    refine ⟨_, results_none rfl _ _ _, ⟨_, rfl⟩, .inl ⟨pt, g1, hJ pt Wp _ g2 ((g3.mono (by omega)).trans (Lies.put _ (by omega) hK rfl))⟩⟩
  case stop =>
    rintro D c pre Wd hD hpre ⟨rfl, pt, g1, g2⟩ hK
    gi_wp2_with fail
    refine ⟨by simp, .inl ⟨_, _, rfl, run_takeDeferred hK, ?_⟩⟩
    refine ⟨_, results_none rfl _ _ _, ⟨_, rfl⟩, .inr ⟨pt, by rw [g1]; exact hpre, hJx pt Wd _ g2 (Lies.put _ (by omega) hK rfl)⟩⟩
end Go.Proofs.Ytjinhahfpkcilaa
