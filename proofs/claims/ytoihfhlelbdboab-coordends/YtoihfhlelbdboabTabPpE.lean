/- A table in memory, and the contracts of its calls that range over nothing. For every table of fewer than 2^40 entries. -/
import Derived.Test.YtoihfhlelbdboabTabPpC
import Derived.RangeFuncBox
import Derived.Test.YtoihfhlelbdboabTabS
namespace Go.Proofs.Ytoihfhlelbdboab.Pp
open Go.Proofs Go.RowKit Go.Hold Go.Inv

/-- A tree lies on where no block of five cells has turned. -/
theorem IsT.frm {S : Nat → Prop} {A B : World} (h : Frm S A B) (hS : ∀ k, S k → A.cell? ⟨k, 4, none⟩ = none) : ∀ {p : Option Addr} {t : BT (Option Addr)}, IsT A.heap.size A p t → IsT B.heap.size B p t
  | _, .nil, ht => ht
  | _, .node _ _ _ _, ⟨b, pl, pr, hp, hb, h0, h1, h2, h3, h4, hl, hr⟩ => by
    have hn : ¬ S b := fun hs => by rw [hS b hs] at h4; cases h4
    have hc : ∀ i, B.cell? ⟨b, i, none⟩ = A.cell? ⟨b, i, none⟩ := fun i => World.cell?_of_block (h.block b hb hn)
    exact ⟨b, pl, pr, hp, Nat.lt_of_lt_of_le hb h.size, (hc 0).trans h0, (hc 1).trans h1, (hc 2).trans h2, (hc 3).trans h3, (hc 4).trans h4, IsT.frm h hS hl, IsT.frm h hS hr⟩
theorem T.frm {S : Nat → Prop} {A B : World} (h : Frm S A B) (hS : ∀ k, S k → A.cell? ⟨k, 4, none⟩ = none) {p : Option Addr} {t : BT (Option Addr)} (ht : T A p t) : T B p t := IsT.frm h hS ht


theorem IsT.frm0 {S : Nat → Prop} {A B : World} (h : Frm S A B) (hS : ∀ k, S k → ∀ z, A.cell? ⟨k, 0, none⟩ ≠ some (.int .i64 z)) : ∀ {p : Option Addr} {t : BT (Option Addr)}, IsT A.heap.size A p t → IsT B.heap.size B p t
  | _, .nil, ht => ht
  | _, .node _ _ _ _, ⟨b, pl, pr, hp, hb, h0, h1, h2, h3, h4, hl, hr⟩ => by
    have hn : ¬ S b := fun hs => hS b hs _ h0
    have hc : ∀ i, B.cell? ⟨b, i, none⟩ = A.cell? ⟨b, i, none⟩ := fun i => World.cell?_of_block (h.block b hb hn)
    exact ⟨b, pl, pr, hp, Nat.lt_of_lt_of_le hb h.size, (hc 0).trans h0, (hc 1).trans h1, (hc 2).trans h2, (hc 3).trans h3, (hc 4).trans h4, IsT.frm0 h hS hl, IsT.frm0 h hS hr⟩
theorem T.frm0 {S : Nat → Prop} {A B : World} (h : Frm S A B) (hS : ∀ k, S k → ∀ z, A.cell? ⟨k, 0, none⟩ ≠ some (.int .i64 z)) {p : Option Addr} {t : BT (Option Addr)} (ht : T A p t) : T B p t := IsT.frm0 h hS ht


theorem IsT.frmL {S : Nat → Prop} {A B : World} (h : Frm S A B) (hS : ∀ k, S k → ∀ z, A.cell? ⟨k, 3, none⟩ ≠ some (.pointer z)) : ∀ {p : Option Addr} {t : BT (Option Addr)}, IsT A.heap.size A p t → IsT B.heap.size B p t
  | _, .nil, ht => ht
  | _, .node _ _ _ _, ⟨b, pl, pr, hp, hb, h0, h1, h2, h3, h4, hl, hr⟩ => by
    have hn : ¬ S b := fun hs => hS b hs _ h3
    have hc : ∀ i, B.cell? ⟨b, i, none⟩ = A.cell? ⟨b, i, none⟩ := fun i => World.cell?_of_block (h.block b hb hn)
    exact ⟨b, pl, pr, hp, Nat.lt_of_lt_of_le hb h.size, (hc 0).trans h0, (hc 1).trans h1, (hc 2).trans h2, (hc 3).trans h3, (hc 4).trans h4, IsT.frmL h hS hl, IsT.frmL h hS hr⟩
theorem T.frmL {S : Nat → Prop} {A B : World} (h : Frm S A B) (hS : ∀ k, S k → ∀ z, A.cell? ⟨k, 3, none⟩ ≠ some (.pointer z)) {p : Option Addr} {t : BT (Option Addr)} (ht : T A p t) : T B p t := IsT.frmL h hS ht


/-- No key is below the least int. -/
def Lo (l : List (Int × (Option Addr))) : Prop := ∀ x ∈ l, -9223372036854775808 ≤ x.1
theorem Lo.ins {l : List (Int × (Option Addr))} (h : Lo l) {k : Int} (v : (Option Addr)) (hk : -9223372036854775808 ≤ k) : Lo (insL k v l) := fun x hx => by
  rcases mem_insL hx with rfl | hx
  · exact hk
  · exact h x hx
theorem Lo.del {l : List (Int × (Option Addr))} (h : Lo l) (k : Int) : Lo (delL k l) := fun x hx => h x (List.mem_filter.1 hx).1

/-- Block bt is a table of the entries l. -/
def Tab (W : World) (bt : Nat) (l : List (Int × (Option Addr))) : Prop := ∃ p t, Boxed W bt 100 (.pointer p) ∧ T W p t ∧ t.toL = l ∧ Rises l ∧ Lo l
theorem Tab.lt {W : World} {bt : Nat} {l : List (Int × (Option Addr))} (h : Tab W bt l) : bt < W.heap.size := by obtain ⟨p, t, hb, _⟩ := h; exact hb.lt
theorem Tab.cell4 {W : World} {bt : Nat} {l : List (Int × (Option Addr))} (h : Tab W bt l) : W.cell? ⟨bt, 4, none⟩ = none := by obtain ⟨p, t, hb, _⟩ := h; exact (hb.cellN (by decide))
theorem Tab.rises {W : World} {bt : Nat} {l : List (Int × (Option Addr))} (h : Tab W bt l) : Rises l := by obtain ⟨p, t, hb, _, _, h⟩ := h; exact h.1
theorem Tab.lo {W : World} {bt : Nat} {l : List (Int × (Option Addr))} (h : Tab W bt l) : Lo l := by obtain ⟨p, t, hb, _, _, h⟩ := h; exact h.2
theorem Tab.frm {S : Nat → Prop} {A B : World} {bt : Nat} {l : List (Int × (Option Addr))} (ht : Tab A bt l) (h : Frm S A B) (hn : ¬ S bt) (hS : ∀ k, S k → A.cell? ⟨k, 4, none⟩ = none) : Tab B bt l := by
  obtain ⟨p, t, hb, hT, hl, hr⟩ := ht
  exact ⟨p, t, hb.frm h hn, hT.frm h hS, hl, hr⟩
theorem Tab.frm0 {S : Nat → Prop} {A B : World} {bt : Nat} {l : List (Int × (Option Addr))} (ht : Tab A bt l) (h : Frm S A B) (hn : ¬ S bt) (hS : ∀ k, S k → ∀ z, A.cell? ⟨k, 0, none⟩ ≠ some (.int .i64 z)) : Tab B bt l := by
  obtain ⟨p, t, hb, hT, hl, hr⟩ := ht
  exact ⟨p, t, hb.frm h hn, hT.frm0 h hS, hl, hr⟩
theorem Tab.frmL {S : Nat → Prop} {A B : World} {bt : Nat} {l : List (Int × (Option Addr))} (ht : Tab A bt l) (h : Frm S A B) (hn : ¬ S bt) (hS : ∀ k, S k → ∀ z, A.cell? ⟨k, 3, none⟩ ≠ some (.pointer z)) : Tab B bt l := by
  obtain ⟨p, t, hb, hT, hl, hr⟩ := ht
  exact ⟨p, t, hb.frm h hn, hT.frmL h hS, hl, hr⟩
theorem Tab.grow {A B : World} {bt : Nat} {l : List (Int × (Option Addr))} (ht : Tab A bt l) (h : Below A.heap.size A B) : Tab B bt l := by
  obtain ⟨p, t, hb, hT, hl, hr⟩ := ht
  exact ⟨p, t, hb.grow h, hT.grow h, hl, hr⟩

/-- The pointer is nil and there is nothing, or it is a table's. -/
def TabP (W : World) (p : Option Addr) (l : List (Int × (Option Addr))) : Prop := (p = none ∧ l = []) ∨ ∃ bt, p = some ⟨bt, 0, none⟩ ∧ Tab W bt l
theorem TabP.grow {A B : World} {p : Option Addr} {l : List (Int × (Option Addr))} (ht : TabP A p l) (h : Below A.heap.size A B) : TabP B p l := by
  rcases ht with h1 | ⟨bt, hp, ht⟩
  · exact .inl h1
  · exact .inr ⟨bt, hp, ht.grow h⟩

set_option maxRecDepth 100000 in
set_option maxHeartbeats 400000 in
theorem New_any (w : World) : Calls Try.prog 29 #[] w fun e w' => e = .returned (.pointer (some ⟨w.heap.size, 0, none⟩)) ∧ Tab w' w.heap.size [] ∧ Below w.heap.size w w' := by
  go_enter Try.func29, Try.ntmps29
  go_wp2
  go_ret
  exact ⟨rfl, ⟨none, .nil, Boxed.new _ _ _, rfl, rfl, Rises.nil, fun _ h => (by cases h)⟩, (Below.refl _ _).alloc (Nat.le_refl _) _⟩

set_option maxRecDepth 100000 in
set_option maxHeartbeats 400000 in
theorem tree_any (p : Option Addr) (l : List (Int × (Option Addr))) (w : World) (h : TabP w p l) :
    Calls Try.prog 57 #[.pointer p] w fun e w' => w' = w ∧ ∃ q t, e = .returned (.pointer q) ∧ T w q t ∧ t.toL = l ∧ Rises l := by
  rcases h with ⟨rfl, rfl⟩ | ⟨bt, rfl, q, t, hb, hT, hl, hr⟩
  · go_enter Try.func57, Try.ntmps57
    go_wp2
    go_ret
    exact ⟨rfl, none, .nil, rfl, rfl, rfl, Rises.nil⟩
  · have hc := hb.cell
    have HL : Hid (t.toL = l) := hl
    clear hl hb
    go_enter Try.func57, Try.ntmps57
    go_wp2
    go_ret
    exact ⟨rfl, q, t, rfl, hT, HL.out, hr.1⟩

set_option maxRecDepth 100000 in
set_option maxHeartbeats 400000 in
theorem tree_same (bt : Nat) (q : Option Addr) (w : World) (hb : Boxed w bt 100 (.pointer q)) :
    Calls Try.prog 57 #[.pointer (some ⟨bt, 0, none⟩)] w fun e w' => w' = w ∧ e = .returned (.pointer q) := by
  have hc := hb.cell
  clear hb
  go_enter Try.func57, Try.ntmps57
  go_wp2
  go_ret
  exact ⟨rfl, rfl⟩

set_option maxRecDepth 100000 in
set_option maxHeartbeats 400000 in
theorem Len_any (p : Option Addr) (l : List (Int × (Option Addr))) (w : World) (h : TabP w p l) :
    Calls Try.prog 49 #[.pointer p] w fun e w' => w' = w ∧ e = .returned (.int .i64 (l.length : Int)) := by
  go_enter Try.func49, Try.ntmps49
  go_wp2_with fail
  refine (tree_any p l w h).mono ?_
  rintro e w' ⟨rfl, q, t, rfl, hT, hl, hr⟩
  have HL : Hid (t.toL = l) := hl
  clear hl
  go_wp2_with fail
  refine (count_any q t _ hT).mono ?_
  rintro e w' ⟨rfl, rfl⟩
  go_wp2
  go_ret
  exact ⟨rfl, by show Ending.returned (.int .i64 (t.size : Int)) = _; rw [BT.size_eq, HL.out]⟩

set_option maxRecDepth 100000 in
set_option maxHeartbeats 400000 in
theorem Get_any (p : Option Addr) (l : List (Int × (Option Addr))) (k : Int) (w : World) (h : TabP w p l) :
    Calls Try.prog 39 #[.pointer p, .int .i64 k] w fun e w' => w' = w ∧ e = .returned (.tuple #[(Value.pointer ((lookL k l).getD (none : Option Addr))), .bool (lookL k l).isSome]) := by
  go_enter Try.func39, Try.ntmps39
  go_wp2_with fail
  refine (tree_any p l w h).mono ?_
  rintro e w' ⟨rfl, q, t, rfl, hT, hl, hr⟩
  have HL : Hid (t.toL = l) := hl
  clear hl
  go_wp2_with fail
  refine (find_any k q t _ hT).mono ?_
  rintro e w' ⟨rfl, q', rfl, hf⟩
  have hlook : Hid (lookT k t = lookL k l) := by show _ = _; rw [look_eq k t (by rw [HL.out]; exact hr), HL.out]
  have hf' : Found w' q' (lookL k l) := by rw [← hlook.out]; exact hf
  clear hf
  cases hc : lookL k l with
  | none =>
    rw [hc] at hf'
    obtain rfl : q' = none := hf'
    have HC : Hid (lookL k l = none) := hc
    clear hc hlook
    go_wp2
    go_ret2
    exact ⟨rfl, by show Ending.returned (.tuple #[(Value.pointer (none : Option Addr)), .bool false]) = _; rw [HC.out]; rfl⟩
  | some v =>
    rw [hc] at hf'
    obtain ⟨b, rfl, hb, hcell⟩ := hf'
    have HC : Hid (lookL k l = some v) := hc
    clear hc hlook
    go_wp2
    go_ret2
    exact ⟨rfl, by show Ending.returned (.tuple #[(Value.pointer v), .bool true]) = _; rw [HC.out]; rfl⟩

set_option maxRecDepth 100000 in
set_option maxHeartbeats 400000 in
theorem Set_nil (k : Int) (v : (Option Addr)) (w : World) : Calls Try.prog 51 #[.pointer none, .int .i64 k, (Value.pointer v)] w fun e w' => w' = w ∧ ∃ x, e = .returned x := by
  go_enter Try.func51, Try.ntmps51
  go_wp2
  refine bodyPost_ret (results_none rfl _ _ _) rfl ?_
  exact ⟨rfl, _, rfl⟩

set_option maxRecDepth 100000 in
set_option maxHeartbeats 400000 in
theorem Set_any (bt : Nat) (l : List (Int × (Option Addr))) (k : Int) (v : (Option Addr)) (w : World) (h : Tab w bt l) (hz : l.length + 20 < big) (hk : -9223372036854775808 ≤ k) :
    Calls Try.prog 51 #[.pointer (some ⟨bt, 0, none⟩), .int .i64 k, (Value.pointer v)] w fun e w' => (∃ x, e = .returned x) ∧ Tab w' bt (insL k v l) ∧ Frm (· = bt) w w' := by
  obtain ⟨p, t, hb, hT, hl, hr⟩ := h
  have hts : t.size = l.length := by rw [BT.size_eq, hl]
  have hc := hb.cell
  have HT : Hid ((ins k v t).toL = insL k v l) := by show _ = _; rw [toL_ins k v t (by rw [hl]; exact hr.1), hl]
  have HS : Hid (t.size + 20 < big) := by show _ < _; rw [hts]; exact hz
  clear hl hts
  go_enter Try.func51, Try.ntmps51
  go_wp2_with fail
  refine (with_any k v t p w hT HS.out).mono ?_
  rintro e w1 ⟨q, rfl, hq, hB⟩
  have hb1 := hb.grow hB
  have hc1 := hb1.cell
  have hf1 := hb1.frozen
  clear hc
  go_wp2
  go_end0
  have hF := Frm.setCell w1 bt 0 (.pointer q)
  refine ⟨⟨_, rfl⟩, ⟨q, ins k v t, hb1.set _, hq.frm hF (fun k hk => by cases hk; exact (hb1.cellN (by decide))), HT.out, rises_insL k v hr.1, hr.2.ins v hk⟩, (Frm.of_below hB).trans hF⟩

set_option maxRecDepth 100000 in
set_option maxHeartbeats 400000 in
theorem From_any (p : Option Addr) (k : Int) (w : World) :
    Calls Try.prog 73 #[.pointer p, .int .i64 k] w fun e w' => e = .returned (.func (.func 82) #[] #[.pointer (some ⟨w.heap.size, 0, none⟩), .pointer (some ⟨w.heap.size + 1, 0, none⟩)]) ∧ w' = (w.alloc (.cells #[.pointer p] 48)).alloc (.cells #[.int .i64 k] 3) := by
  go_enter Try.func73, Try.ntmps73
  go_wp2
  go_ret
  exact ⟨rfl, rfl⟩

set_option maxRecDepth 100000 in
set_option maxHeartbeats 400000 in
theorem All_any (p : Option Addr) (w : World) :
    Calls Try.prog 53 #[.pointer p] w fun e w' => e = .returned (.func (.func 82) #[] #[.pointer (some ⟨w.heap.size, 0, none⟩), .pointer (some ⟨w.heap.size + 1, 0, none⟩)]) ∧ w' = (w.alloc (.cells #[.pointer p] 48)).alloc (.cells #[.int .i64 (-9223372036854775808)] 3) := by
  go_enter Try.func53, Try.ntmps53
  go_wp2_with (go_at_call 73; refine (From_any _ _ _).mono ?_; rintro e w' ⟨rfl, rfl⟩)
  go_ret
  exact ⟨rfl, rfl⟩

end Go.Proofs.Ytoihfhlelbdboab.Pp
