/- One act in both tables. For tables of up to 900 entries. -/
import Derived.Test.YtgafmckiomhceaaWalkK
namespace Go.Proofs.Ytgafmckiomhceaa
open Go.RowKit Go.Hold Go.Inv Go.Shelf
set_option linter.unusedVariables false

theorem Tab.notNum {W : World} {bt : Nat} {l : List (Int × Int)} (h : Tab W bt l) : ∀ i x, W.cell? ⟨bt, i, none⟩ ≠ some (.int .i64 x) := by
  obtain ⟨p, t, hb, _⟩ := h
  intro i x e
  match i with
  | 0 => simp [World.cell?, show W.heap[bt]? = _ from hb] at e
  | i + 1 => simp [World.cell?, show W.heap[bt]? = _ from hb] at e

theorem ints1_eq (l : List (Int × Int)) : ints1 l = (keysL l).map (Value.int .i64) := by unfold ints1 keysL; rw [List.map_map]; rfl
theorem ints2_eq (l : List (Int × Int)) : ints2 l = (valsL l).map (Value.int .i64) := by unfold ints2 valsL; rw [List.map_map]; rfl

def stepL (kind k v : Int) (l : List (Int × Int)) : List (Int × Int) := if kind = 1 then insL k v l else if kind = 2 then delL k l else l
theorem stepL_len (kind k v : Int) (l : List (Int × Int)) : (stepL kind k v l).length ≤ l.length + 1 := by
  unfold stepL
  split
  · exact length_insL k v l
  · split
    · have := length_delL k l; omega
    · omega

/-- the act's own box -/
def Three (W : World) (ab : Nat) (a b c : Int) : Prop := W.heap[ab]? = some (.cells #[.int .i64 a, .int .i64 b, .int .i64 c] 31 (0, 0))
theorem Three.cells {W : World} {ab : Nat} {a b c : Int} (h : Three W ab a b c) : W.cell? ⟨ab, 0, none⟩ = some (.int .i64 a) ∧ W.cell? ⟨ab, 1, none⟩ = some (.int .i64 b) ∧ W.cell? ⟨ab, 2, none⟩ = some (.int .i64 c) := by
  refine ⟨?_, ?_, ?_⟩ <;> simp [World.cell?, show W.heap[ab]? = _ from h]
theorem Three.frm {S : Nat → Prop} {A B : World} {ab : Nat} {a b c : Int} (h : Three A ab a b c) (hF : Frm S A B) (hn : ¬ S ab) : Three B ab a b c := (hF.block ab (lt_of_heap h) hn).trans h

structure ActI (S : Nat → Prop) (W : World) (bt rt : Nat) (l l' : List (Int × Int)) (D : Nat → Value → Prop) (li : Nat → Bool) (xs : Nat → Value) (W1 : World) : Prop where
  det : ∀ i, li i = true → D i (xs i)
  frm : Frm S W W1
  tab0 : li 3 = false → Tab W1 bt l
  tab1 : li 3 = true → Tab W1 bt l'
  ref0 : li 7 = false → Ref W1 rt l
  ref1 : li 7 = true → Ref W1 rt l'
section
variable {S : Nat → Prop} {W : World} {bt rt : Nat} {l l' : List (Int × Int)} {D : Nat → Value → Prop} {li : Nat → Bool} {xs : Nat → Value} {W1 : World}
theorem ActI.detStep (h : ActI S W bt rt l l' D li xs W1) (i : Nat) (x : Value) (hf : D i x) : ∀ j, upd li i true j = true → D j (upd xs i x j) := fun j hl => by
  by_cases hji : j = i
  · subst hji; rw [upd_same]; exact hf
  · rw [upd_other _ _ hji] at hl ⊢; exact h.det j hl
theorem ActI.mark (h : ActI S W bt rt l l' D li xs W1) (i : Nat) (x : Value) (hf : D i x) (hi : i ≠ 3 ∧ i ≠ 7) : ActI S W bt rt l l' D (upd li i true) (upd xs i x) W1 := by
  have e3 : upd li i true 3 = li 3 := upd_other _ _ (Ne.symm hi.1)
  have e7 : upd li i true 7 = li 7 := upd_other _ _ (Ne.symm hi.2)
  exact ⟨h.detStep i x hf, h.frm, by rw [e3]; exact h.tab0, by rw [e3]; exact h.tab1, by rw [e7]; exact h.ref0, by rw [e7]; exact h.ref1⟩
theorem ActI.call3 (h : ActI S W bt rt l l' D li xs W1) (x : Value) (hf : D 3 x) (hS : S bt) (hne : bt ≠ rt) (l3 : li 3 = false) (w' : World) (hT : Tab w' bt l') (hF : Frm (· = bt) W1 w') : ActI S W bt rt l l' D (upd li 3 true) (upd xs 3 x) w' := by
  have e7 : upd li 3 true 7 = li 7 := upd_other _ _ (by decide)
  have key : ∀ {m : List (Int × Int)}, Ref W1 rt m → Ref w' rt m := fun hr => hr.frm hF (fun e => hne e.symm) (fun k hk => by cases hk; exact (h.tab0 l3).notNum)
  refine ⟨h.detStep 3 x hf, h.frm.trans (hF.mono (fun k _ hk => by cases hk; exact hS)), fun hh => ?_, fun _ => hT, by rw [e7]; exact fun hh => key (h.ref0 hh), by rw [e7]; exact fun hh => key (h.ref1 hh)⟩
  rw [upd_same] at hh; cases hh
theorem ActI.call7 (h : ActI S W bt rt l l' D li xs W1) (x : Value) (hf : D 7 x) (hS : S rt) (hne : bt ≠ rt) (l7 : li 7 = false) (w' : World) (hR : Ref w' rt l') (hF : Frm (· = rt) W1 w') : ActI S W bt rt l l' D (upd li 7 true) (upd xs 7 x) w' := by
  have e3 : upd li 7 true 3 = li 3 := upd_other _ _ (by decide)
  have key : ∀ {m : List (Int × Int)}, Tab W1 bt m → Tab w' bt m := fun hr => hr.frm hF hne (fun k hk => by cases hk; exact (h.ref0 l7).cell4)
  refine ⟨h.detStep 7 x hf, h.frm.trans (hF.mono (fun k _ hk => by cases hk; exact hS)), by rw [e3]; exact fun hh => key (h.tab0 hh), by rw [e3]; exact fun hh => key (h.tab1 hh), fun hh => ?_, fun _ => hR⟩
  rw [upd_same] at hh; cases hh
end

theorem wanted_step {ops : Array Oper} {rest : List Oper} {o : Oper} {a : Act} {w : World} {Q : Exit → Act → World → Prop} (hw : Region.wanted o (yielded ops a.tmps) = true)
    (h : ∀ K : Act → World → Prop, (∀ a w, wpList Try.prog ops Q rest a w → K a w) → o.wp Try.prog a w K Q) : wpList Try.prog ops Q (o :: rest) a w :=
  wpList_step fun K hK => by rw [if_pos hw]; exact h K hK

/-- s[n:] of numbers -/
theorem wpList_from {w : World} {ops : Array Oper} {rest : List Oper} {o : Oper} {a : Act} {Q : Exit → Act → World → Prop} (hw : Region.wanted o (yielded ops a.tmps) = true) (s x : Operand) (hop : o.op = Op.slice 26 s (some x) none none)
    (v : Value) (A : List Int) (p : Nat) (hs : a.eval s = v) (hx : a.eval x = .int .i64 (p : Int)) (hv : Sl w v A) (hp : p ≤ A.length) (hA : A.length ≤ 1000000) (h : ∀ v', Sl w v' (A.drop p) → wpList Try.prog ops Q rest (a.put o.dst v') w) : wpList Try.prog ops Q (o :: rest) a w := by
  refine wanted_step hw fun K hK => ?_
  rcases hv.take with ⟨e, hA0⟩ | ⟨g, off, cap, e, hcap, ht, hd⟩
  · obtain rfl : p = 0 := by rw [hA0] at hp; simpa using hp
    have h' := h (.slice none 0 0) (.inl ⟨rfl, by rw [hA0]; simp⟩)
    unfold Oper.wp execOp
    simp only [hop, hs, Option.map_some, hx, e]
    go_simp
    exact hK _ _ h'
  · by_cases hcp : cap = p
    · have h' := h (.slice (some ⟨g, off, none⟩) 0 0) (.inr ⟨g, off, 0, by simp; omega, by simp; omega, fun i x hx => by rw [List.getElem?_drop, List.getElem?_eq_none (by omega)] at hx; cases hx⟩)
      have hAp : A.length = p := by omega
      unfold Oper.wp execOp
      simp only [hop, hs, Option.map_some, hx, e]
      rw [hcp, hAp]
      clear hAp hcp
      go_simp
      exact hK _ _ h'
    · have h' := h _ (hd p (cap - p) hp (by omega))
      unfold Oper.wp execOp
      simp only [hop, hs, Option.map_some, hx, e]
      go_simp
      exact hK _ _ h'
set_option maxHeartbeats 1000000 in
theorem act_set (bt rt : Nat) (l : List (Int × Int)) (kind k v : Int) (w : World) (hT : Tab w bt l) (hR : Ref w rt l) (hne : bt ≠ rt) (hL : l.length ≤ 900) (hk : -9223372036854775808 ≤ k) (hkind : kind = 1) :
    Calls Try.prog 10 #[.pointer (some ⟨bt, 0, none⟩), .pointer (some ⟨rt, 0, none⟩), .agg #[.int .i64 kind, .int .i64 k, .int .i64 v]] w fun e w' => e = .returned (.bool true) ∧ Tab w' bt (stepL kind k v l) ∧ Ref w' rt (stepL kind k v l) ∧ Frm (fun j => j = bt ∨ j = rt) w w' := by
  have hB0 : Below w.heap.size w (w.alloc (.cells #[.int .i64 kind, .int .i64 k, .int .i64 v] 31)) := (Below.refl _ _).alloc (Nat.le_refl _) _
  have hT0 := hT.grow hB0
  have hR0 := hR.grow hB0
  have h3 : Three (w.alloc (.cells #[.int .i64 kind, .int .i64 k, .int .i64 v] 31)) w.heap.size kind k v := World.alloc_heap_new w _
  have hbl := hT.lt
  have hrl := hR.lt
  have hnS : ¬ (w.heap.size = bt ∨ w.heap.size = rt) := by omega
  have hF0 : Frm (fun j => j = bt ∨ j = rt) w (w.alloc (.cells #[.int .i64 kind, .int .i64 k, .int .i64 v] 31)) := Frm.of_below hB0
  obtain ⟨W, hW⟩ : ∃ W, w.alloc (.cells #[.int .i64 kind, .int .i64 k, .int .i64 v] 31) = W := ⟨_, rfl⟩
  rw [hW] at hT0 hR0 h3 hF0
  have HS : Hid (stepL kind k v l = insL k v l) := by show _ = _; simp [stepL, hkind]
  have hbig : l.length + 20 < big := by unfold big; omega
  subst hkind
  obtain ⟨a0, a1, a2⟩ := h3.cells
  go_enter Try.func10, Try.ntmps10
  go_wp2_with (fail)
  clear hW
  refine (Set_any bt l k v W hT0 hbig hk).mono ?_
  rintro e w1 ⟨⟨x, rfl⟩, hT1, hF1⟩
  have hR1 : Ref w1 rt l := hR0.frm hF1 (fun e => hne e.symm) (fun j hj => by cases hj; exact hT0.notNum)
  have h31 := h3.frm hF1 (fun e => hnS (.inl e))
  obtain ⟨b0, b1, b2⟩ := h31.cells
  clear a0 a1 a2
  go_wp2_with (fail)
  refine (rSet_any rt l k v w1 hR1 (by omega)).mono ?_
  rintro e w2 ⟨⟨y, rfl⟩, hR2, hF2⟩
  have hT2 : Tab w2 bt (insL k v l) := hT1.frm hF2 hne (fun j hj => by cases hj; exact hR1.cell4)
  go_wp2
  go_ret
  exact ⟨rfl, by rw [HS.out]; exact hT2, by rw [HS.out]; exact hR2, hF0.trans ((hF1.mono (fun j _ hj => .inl hj)).trans (hF2.mono (fun j _ hj => .inr hj)))⟩

set_option maxHeartbeats 1000000 in
theorem act_get (bt rt : Nat) (l : List (Int × Int)) (kind k v : Int) (w : World) (hT : Tab w bt l) (hR : Ref w rt l) (hne : bt ≠ rt) (hL : l.length ≤ 900) (hk : -9223372036854775808 ≤ k) (hkind : kind = 3) :
    Calls Try.prog 10 #[.pointer (some ⟨bt, 0, none⟩), .pointer (some ⟨rt, 0, none⟩), .agg #[.int .i64 kind, .int .i64 k, .int .i64 v]] w fun e w' => e = .returned (.bool true) ∧ Tab w' bt (stepL kind k v l) ∧ Ref w' rt (stepL kind k v l) ∧ Frm (fun j => j = bt ∨ j = rt) w w' := by
  have hB0 : Below w.heap.size w (w.alloc (.cells #[.int .i64 kind, .int .i64 k, .int .i64 v] 31)) := (Below.refl _ _).alloc (Nat.le_refl _) _
  have hT0 := hT.grow hB0
  have hR0 := hR.grow hB0
  have h3 : Three (w.alloc (.cells #[.int .i64 kind, .int .i64 k, .int .i64 v] 31)) w.heap.size kind k v := World.alloc_heap_new w _
  have hbl := hT.lt
  have hrl := hR.lt
  have hnS : ¬ (w.heap.size = bt ∨ w.heap.size = rt) := by omega
  have hF0 : Frm (fun j => j = bt ∨ j = rt) w (w.alloc (.cells #[.int .i64 kind, .int .i64 k, .int .i64 v] 31)) := Frm.of_below hB0
  obtain ⟨W, hW⟩ : ∃ W, w.alloc (.cells #[.int .i64 kind, .int .i64 k, .int .i64 v] 31) = W := ⟨_, rfl⟩
  rw [hW] at hT0 hR0 h3 hF0
  have HS : Hid (stepL kind k v l = l) := by show _ = _; simp [stepL, hkind]
  subst hkind
  obtain ⟨a0, a1, a2⟩ := h3.cells
  go_enter Try.func10, Try.ntmps10
  go_wp2_with (fail)
  clear hW
  refine (Get_any (some ⟨bt, 0, none⟩) l k W (.inr ⟨bt, rfl, hT0⟩)).mono ?_
  rintro e w1 ⟨rfl, rfl⟩
  go_wp2_with (fail)
  refine (rGet_any rt l k w1 hR0 (by omega) hT0.rises).mono ?_
  rintro e w2 ⟨rfl, m, rfl⟩
  go_wp2
  go_ret
  exact ⟨by simp, by rw [HS.out]; exact hT0.grow (dn (Below.refl _ _) m), by rw [HS.out]; exact hR0.grow (dn (Below.refl _ _) m), hF0.drewN m⟩

set_option maxHeartbeats 2000000 in
theorem act_del (bt rt : Nat) (l : List (Int × Int)) (kind k v : Int) (w : World) (hT : Tab w bt l) (hR : Ref w rt l) (hne : bt ≠ rt) (hL : l.length ≤ 900) (hk : -9223372036854775808 ≤ k) (hkind : kind = 2) :
    Calls Try.prog 10 #[.pointer (some ⟨bt, 0, none⟩), .pointer (some ⟨rt, 0, none⟩), .agg #[.int .i64 kind, .int .i64 k, .int .i64 v]] w fun e w' => e = .returned (.bool true) ∧ Tab w' bt (stepL kind k v l) ∧ Ref w' rt (stepL kind k v l) ∧ Frm (fun j => j = bt ∨ j = rt) w w' := by
  have hB0 : Below w.heap.size w (w.alloc (.cells #[.int .i64 kind, .int .i64 k, .int .i64 v] 31)) := (Below.refl _ _).alloc (Nat.le_refl _) _
  have hT0 := hT.grow hB0
  have hR0 := hR.grow hB0
  have h3 : Three (w.alloc (.cells #[.int .i64 kind, .int .i64 k, .int .i64 v] 31)) w.heap.size kind k v := World.alloc_heap_new w _
  have hbl := hT.lt
  have hrl := hR.lt
  have hnS : ¬ (w.heap.size = bt ∨ w.heap.size = rt) := by omega
  have hF0 : Frm (fun j => j = bt ∨ j = rt) w (w.alloc (.cells #[.int .i64 kind, .int .i64 k, .int .i64 v] 31)) := Frm.of_below hB0
  obtain ⟨W, hW⟩ : ∃ W, w.alloc (.cells #[.int .i64 kind, .int .i64 k, .int .i64 v] 31) = W := ⟨_, rfl⟩
  rw [hW] at hT0 hR0 h3 hF0
  have HS : Hid (stepL kind k v l = delL k l) := by show _ = _; simp [stepL, hkind]
  have hbig : l.length + 20 < big := by unfold big; omega
  subst hkind
  obtain ⟨a0, a1, a2⟩ := h3.cells
  obtain ⟨bb, hbb⟩ : ∃ bb, (lookL k l).isSome = bb := ⟨_, rfl⟩
  have HBB : Hid ((lookL k l).isSome = bb) := hbb
  clear hbb
  go_enter Try.func10, Try.ntmps10
  go_wp2
  clear hW
  refine wp_region_steps (by kernel_rfl) (by kernel_rfl) (fun xs => { tmps := (Value.pointer (some (⟨bt, 0, none⟩ : Addr)) :: Value.pointer (some (⟨rt, 0, none⟩ : Addr)) :: Value.agg #[Value.int IntKind.i64 2, Value.int IntKind.i64 k, Value.int IntKind.i64 v] :: undef :: undef :: Value.pointer (some (⟨w.heap.size, 0, none⟩ : Addr)) :: xs 9 :: undef :: undef :: undef :: undef :: undef :: undef :: undef :: Value.pointer (some (⟨w.heap.size, 0, none⟩ : Addr)) :: Value.int IntKind.i64 2 :: undef :: undef :: undef :: undef :: undef :: undef :: undef :: undef :: undef :: undef :: undef :: undef :: undef :: undef :: undef :: undef :: undef :: undef :: undef :: undef :: undef :: undef :: undef :: undef :: undef :: undef :: undef :: undef :: undef :: undef :: Value.bool false :: Value.bool false :: undef :: undef :: undef :: undef :: undef :: undef :: undef :: undef :: undef :: undef :: undef :: undef :: Value.bool true :: Value.bool true :: xs 0 :: xs 1 :: xs 2 :: xs 3 :: xs 4 :: xs 5 :: xs 6 :: xs 7 :: xs 8 :: undef :: undef :: undef :: undef :: undef :: undef :: undef :: undef :: undef :: undef :: undef :: undef :: undef :: undef :: undef :: undef :: undef :: undef :: undef :: undef :: undef :: undef :: undef :: undef :: []).toArray, defers := [] })
    (fun li xs W1 => ActI (fun j => j = bt ∨ j = rt) W bt rt l (delL k l) (fun ii zz => match ii with | 0 => zz = .pointer (some ⟨bt, 0, none⟩) | 1 => zz = .pointer (some ⟨w.heap.size, 1, none⟩) | 2 => zz = .int .i64 k | 3 => zz = .bool bb | 4 => zz = .pointer (some ⟨rt, 0, none⟩) | 5 => zz = .pointer (some ⟨w.heap.size, 1, none⟩) | 6 => zz = .int .i64 k | 7 => zz = .bool bb | 8 => zz = .bool true | 9 => zz = .bool true | _ => True) li xs W1) (fun | 9 => Value.bool false | _ => undef) (by repeat (first | exact trivial | refine ⟨fun _ _ => rfl, ?_⟩)) ⟨fun _ h => (by cases h), (Frm.refl _ _).drew, fun _ => hT0.grow (Below.refl _ _).drew, fun h => (by cases h), fun _ => hR0.grow (Below.refl _ _).drew, fun h => (by cases h)⟩ ⟨?_, ?_, ?_, ?_, ?_, ?_, ?_, ?_, ?_, ?_, trivial⟩ ?_
  · intro li xs W1 hI hli hp K hK
    clear hp
    go_simp
    exact hK _ _ (hI.mark 0 _ rfl (by decide))
  · intro li xs W1 hI hli hp K hK
    clear hp
    go_simp
    exact hK _ _ (hI.mark 1 _ rfl (by decide))
  · intro li xs W1 hI hli hp K hK
    have h1 : xs 1 = .pointer (some ⟨w.heap.size, 1, none⟩) := hI.det 1 (hp.1 rfl)
    have cc := (h3.frm hI.frm hnS).cells.2.1
    simp only [h1] at hK
    clear hp
    go_simp
    exact hK _ _ (hI.mark 2 _ rfl (by decide))
  · intro li xs W1 hI hli hp K hK
    have h0 : xs 0 = .pointer (some ⟨bt, 0, none⟩) := hI.det 0 (hp.1 rfl)
    have h2 : xs 2 = .int .i64 k := hI.det 2 (hp.2.1 rfl)
    simp only [h0, h2] at hK
    clear hp
    go_simp
    refine (Del_any bt l k W1 (hI.tab0 hli) hbig).mono ?_
    rw [HBB.out]
    rintro e w' ⟨rfl, hT1, hF1⟩
    exact hK _ _ (hI.call3 _ rfl (.inl rfl) hne hli w' hT1 hF1)
  · intro li xs W1 hI hli hp K hK
    clear hp
    go_simp
    exact hK _ _ (hI.mark 4 _ rfl (by decide))
  · intro li xs W1 hI hli hp K hK
    clear hp
    go_simp
    exact hK _ _ (hI.mark 5 _ rfl (by decide))
  · intro li xs W1 hI hli hp K hK
    have h5 : xs 5 = .pointer (some ⟨w.heap.size, 1, none⟩) := hI.det 5 (hp.1 rfl)
    have cc := (h3.frm hI.frm hnS).cells.2.1
    simp only [h5] at hK
    clear hp
    go_simp
    exact hK _ _ (hI.mark 6 _ rfl (by decide))
  · intro li xs W1 hI hli hp K hK
    have h4 : xs 4 = .pointer (some ⟨rt, 0, none⟩) := hI.det 4 (hp.1 rfl)
    have h6 : xs 6 = .int .i64 k := hI.det 6 (hp.2.1 rfl)
    simp only [h4, h6] at hK
    clear hp
    go_simp
    refine (rDel_any rt l k W1 (hI.ref0 hli) (by omega) hT.rises).mono ?_
    rw [HBB.out]
    rintro e w' ⟨rfl, hR1, hF1⟩
    exact hK _ _ (hI.call7 _ rfl (.inr rfl) hne hli w' hR1 hF1)
  · intro li xs W1 hI hli hp K hK
    have h3' : xs 3 = .bool bb := hI.det 3 (hp.1 rfl)
    have h7 : xs 7 = .bool bb := hI.det 7 (hp.2.1 rfl)
    simp only [h3', h7] at hK
    clear hp
    go_simp
    exact hK _ _ (hI.mark 8 _ (by simp) (by decide))
  · intro li xs W1 hI hli hp K hK
    have h8 : xs 8 = .bool true := hI.det 8 (hp.1 rfl)
    simp only [h8] at hK
    clear hp
    go_simp
    exact hK _ _ (hI.mark 9 _ rfl (by decide))
  · intro li xs W1 hI hall
    have h9 : xs 9 = .bool true := hI.det 9 (hall 9 (by simp))
    simp only [h9]
    go_wp2
    go_ret
    exact ⟨rfl, by rw [HS.out]; exact hI.tab1 (hall 3 (by simp)), by rw [HS.out]; exact hI.ref1 (hall 7 (by simp)), hF0.trans hI.frm⟩

set_option maxHeartbeats 2000000 in
theorem act_from (bt rt : Nat) (l : List (Int × Int)) (kind k v : Int) (w : World) (hT : Tab w bt l) (hR : Ref w rt l) (hne : bt ≠ rt) (hL : l.length ≤ 900) (hk : -9223372036854775808 ≤ k) (h1 : kind ≠ 1) (h2 : kind ≠ 2) (h3k : kind ≠ 3) :
    Calls Try.prog 10 #[.pointer (some ⟨bt, 0, none⟩), .pointer (some ⟨rt, 0, none⟩), .agg #[.int .i64 kind, .int .i64 k, .int .i64 v]] w fun e w' => e = .returned (.bool true) ∧ Tab w' bt (stepL kind k v l) ∧ Ref w' rt (stepL kind k v l) ∧ Frm (fun j => j = bt ∨ j = rt) w w' := by
  have hB0 : Below w.heap.size w (w.alloc (.cells #[.int .i64 kind, .int .i64 k, .int .i64 v] 31)) := (Below.refl _ _).alloc (Nat.le_refl _) _
  have hT0 := hT.grow hB0
  have hR0 := hR.grow hB0
  have h3 : Three (w.alloc (.cells #[.int .i64 kind, .int .i64 k, .int .i64 v] 31)) w.heap.size kind k v := World.alloc_heap_new w _
  have hbl := hT.lt
  have hrl := hR.lt
  have hnS : ¬ (w.heap.size = bt ∨ w.heap.size = rt) := by omega
  have hF0 : Frm (fun j => j = bt ∨ j = rt) w (w.alloc (.cells #[.int .i64 kind, .int .i64 k, .int .i64 v] 31)) := Frm.of_below hB0
  obtain ⟨W, hW⟩ : ∃ W, w.alloc (.cells #[.int .i64 kind, .int .i64 k, .int .i64 v] 31) = W := ⟨_, rfl⟩
  rw [hW] at hT0 hR0 h3 hF0
  have HS : Hid (stepL kind k v l = l) := by show _ = _; simp [stepL, h1, h2]
  have hb1 : (kind == 1) = false := by simp [h1]
  have hb2 : (kind == 2) = false := by simp [h2]
  have hb3 : (kind == 3) = false := by simp [h3k]
  have hrise := hT0.rises
  have hlo := hT0.lo
  have hfl : (fromL k l).length ≤ 900 := Nat.le_trans (List.length_filter_le _ _) hL
  have HT : Hid ((fromL k l).take (1000 : Int).toNat = fromL k l) := List.take_of_length_le (by show _ ≤ 1000; omega)
  have HK : Hid (keysL (fromL k l) = (keysL l).drop (posL k l)) := by show _ = _; rw [fromL_pos hrise]; simp [keysL, List.map_drop]
  have HV : Hid (valsL (fromL k l) = (valsL l).drop (posL k l)) := by show _ = _; rw [fromL_pos hrise]; simp [valsL, List.map_drop]
  have hple := posL_le k l
  have hlk : (keysL l).length = l.length := by simp [keysL]
  have hlv : (valsL l).length = l.length := by simp [valsL]
  have HLK : Hid (posL k l ≤ (keysL l).length ∧ (keysL l).length ≤ 1000000) := ⟨by omega, by omega⟩
  have HLV : Hid (posL k l ≤ (valsL l).length ∧ (valsL l).length ≤ 1000000) := ⟨by omega, by omega⟩
  have HL9 : Hid (((keysL l).drop (posL k l)).length ≤ 1000000 ∧ ((valsL l).drop (posL k l)).length ≤ 1000000) := ⟨by simp; omega, by simp; omega⟩
  clear h1 h2 h3k hfl hlk hlv hple
  obtain ⟨a0, a1, a2⟩ := h3.cells
  go_enter Try.func10, Try.ntmps10
  go_wp2_with (fail)
  clear hW
  refine (From_any (some ⟨bt, 0, none⟩) k W).mono ?_
  rintro e w1 ⟨rfl, rfl⟩
  go_wp2_with (fail)
  refine (toldFrom_any (some ⟨bt, 0, none⟩) l k 1000 W (.inr ⟨bt, rfl, hT0⟩) (by omega) (by decide) (by decide)).mono ?_
  rintro e w2 ⟨vk, vv, rfl, hrk, hrv, hB2⟩
  rw [HT.out] at hrk hrv
  have hslk : Sl w2 vk ((keysL l).drop (posL k l)) := by rw [← HK.out]; exact Sl.of_row (b := W.heap.size) (e := 3) (by rw [ints1_eq] at hrk; rw [show (keysL (fromL k l)).length = (fromL k l).length by simp [keysL]]; exact hrk)
  have hslv : Sl w2 vv ((valsL l).drop (posL k l)) := by rw [← HV.out]; exact Sl.of_row (b := W.heap.size) (e := 3) (by rw [ints2_eq] at hrv; rw [show (valsL (fromL k l)).length = (fromL k l).length by simp [valsL]]; exact hrv)
  have hR2 := hR0.grow hB2
  obtain ⟨b0, b1, b2⟩ := Three.cells (show Three w2 w.heap.size kind k v from (hB2.block _ (lt_of_heap h3)).trans h3)
  clear a0 a1 a2 hrk hrv
  go_wp2_with (fail)
  refine (rFrom_any rt l k w2 hR2 (by omega)).mono ?_
  rintro e w3 ⟨rfl, m, rfl⟩
  have hB3 : Below W.heap.size W (w2.drewN m) := dn hB2 m
  have hR3 := hR2.grow (dn (Below.refl _ _) m)
  have hslk3 := hslk.grow (dn (Below.refl _ _) m)
  have hslv3 := hslv.grow (dn (Below.refl _ _) m)
  obtain ⟨W3, hW3⟩ : ∃ W3, w2.drewN m = W3 := ⟨_, rfl⟩
  rw [hW3] at hB3 hR3 hslk3 hslv3 ⊢
  obtain ⟨rk, rv, hb, hsk, hsv⟩ := hR3
  obtain ⟨c0, c1, _, _⟩ := two_cells hb
  generalize posL k l = P at *
  clear hW3 hslk hslv hR2 hB2 b0 b1 b2 hb1 hb2 hb3
  go_wp2_with (first | (refine wpList_from rfl _ _ rfl rk (keysL l) P rfl rfl hsk HLK.out.1 HLK.out.2 ?_; intro s1 hs1) | (go_at_call 12; refine (rows_any vk s1 ((keysL l).drop P) ((keysL l).drop P) W3 hslk3 hs1 HL9.out.1).mono ?_; rintro e w4 ⟨rfl, m4, rfl⟩; have hsv4 := hsv.grow (dn (Below.refl _ _) m4); have hslv4 := hslv3.grow (dn (Below.refl _ _) m4); rw [decide_eq_true rfl]; clear hs1 hslk3) | (refine wpList_from rfl _ _ rfl rv (valsL l) P rfl rfl hsv4 HLV.out.1 HLV.out.2 ?_; intro s2 hs2) | (go_at_call 12; refine (rows_any vv s2 ((valsL l).drop P) ((valsL l).drop P) _ hslv4 hs2 HL9.out.2).mono ?_; rintro e w5 ⟨rfl, m5, rfl⟩; rw [decide_eq_true rfl]))
  go_ret
  exact ⟨rfl, by rw [HS.out]; exact hT0.grow (dn hB3 _), by rw [HS.out]; exact hR0.grow (dn hB3 _), (hF0.trans (Frm.of_below (dn hB3 _)))⟩

theorem act_any (bt rt : Nat) (l : List (Int × Int)) (kind k v : Int) (w : World) (hT : Tab w bt l) (hR : Ref w rt l) (hne : bt ≠ rt) (hL : l.length ≤ 900) (hk : -9223372036854775808 ≤ k) :
    Calls Try.prog 10 #[.pointer (some ⟨bt, 0, none⟩), .pointer (some ⟨rt, 0, none⟩), .agg #[.int .i64 kind, .int .i64 k, .int .i64 v]] w fun e w' => e = .returned (.bool true) ∧ Tab w' bt (stepL kind k v l) ∧ Ref w' rt (stepL kind k v l) ∧ Frm (fun j => j = bt ∨ j = rt) w w' := by
  by_cases h1 : kind = 1
  · exact act_set bt rt l kind k v w hT hR hne hL hk h1
  · by_cases h2 : kind = 2
    · exact act_del bt rt l kind k v w hT hR hne hL hk h2
    · by_cases h3 : kind = 3
      · exact act_get bt rt l kind k v w hT hR hne hL hk h3
      · exact act_from bt rt l kind k v w hT hR hne hL hk h1 h2 h3


end Go.Proofs.Ytgafmckiomhceaa
