/- The library's slices.BinarySearch and slices.Insert at []int, laid at this program (the shelf's contracts); Insert of one number into a row that the call owns. -/
import Derived.Test.YticpkpphjpgdbaaProg
import Derived.Test.YticpkpphjpgdbaaChecked
import Derived.Shelf.Slices.SearchI
import Derived.Shelf.Spec.SlicesInsert
import Derived.Shelf.Spec.SlicesInsertGrow
import Derived.Shelf.Slices.Empties
import Derived.Test.YticpkpphjpgdbaaOctA
namespace Go.Proofs.Yticpkpphjpgdbaa
open Go.Shelf Go.RowKit Go.Dig Go.Inv Go.Oct

def sren : Go.Shelf.Ren := ⟨fun | 21 => 57 | 25 => 55 | 27 => 69 | 28 => 70 | 31 => 65 | 32 => 66 | 35 => 80 | 37 => 74 | 39 => 86 | n => n, fun | 0 => 0 | 3 => 3 | 4 => 4 | 22 => 73 | 40 => 81 | n => n, fun n => n⟩
theorem lays25 : Lays2.n25 Try.prog sren := {
  mixed := by kernel_rfl,
  f25 := Try.func55.trans (congrArg some (by kernel_rfl)),
  f31 := Try.func65.trans (congrArg some (by kernel_rfl)),
  f32 := Try.func66.trans (congrArg some (by kernel_rfl)),
  f37 := Try.func74.trans (congrArg some (by kernel_rfl)),
  t0 := Try.underlying0, a0 := Try.isAgg0, z0 := Try.sizeOf0, v0 := Try.zeroValue0,
  t3 := Try.underlying3, a3 := Try.isAgg3, z3 := Try.sizeOf3, v3 := Try.zeroValue3,
  t4 := Try.underlying4, a4 := Try.isAgg4, z4 := Try.sizeOf4, v4 := Try.zeroValue4,
  t22 := Try.underlying73, a22 := Try.isAgg73, z22 := Try.sizeOf73, v22 := Try.zeroValue73,
  t40 := Try.underlying81, a40 := Try.isAgg81, z40 := Try.sizeOf81, v40 := Try.zeroValue81 }
theorem lays21 : Lays2.n21 Try.prog sren := {
  mixed := by kernel_rfl,
  f21 := Try.func57.trans (congrArg some (by kernel_rfl)),
  f27 := Try.func69.trans (congrArg some (by kernel_rfl)),
  f28 := Try.func70.trans (congrArg some (by kernel_rfl)),
  f35 := Try.func80.trans (congrArg some (by kernel_rfl)),
  f39 := Try.func86.trans (congrArg some (by kernel_rfl)),
  t0 := Try.underlying0, a0 := Try.isAgg0, z0 := Try.sizeOf0, v0 := Try.zeroValue0,
  t3 := Try.underlying3, a3 := Try.isAgg3, z3 := Try.sizeOf3, v3 := Try.zeroValue3,
  t4 := Try.underlying4, a4 := Try.isAgg4, z4 := Try.sizeOf4, v4 := Try.zeroValue4,
  t22 := Try.underlying73, a22 := Try.isAgg73, z22 := Try.sizeOf73, v22 := Try.zeroValue73,
  i3 := by kernel_rfl }

/-- a row of numbers that the call owns -/
def OwnI (w : World) (base : Nat) (v : Value) (L : List Int) : Prop := w.ownsRow base 3 1 v L.length (L.map (Value.int .i64))
theorem OwnI.nil (w : World) (base : Nat) : OwnI w base (.slice none 0 0) [] := World.ownsRow_nil w base _ 1
theorem OwnI.alloc {w : World} {base : Nat} {v : Value} {L : List Int} (h : OwnI w base v L) (o : Obj) : OwnI (w.alloc o) base v L := World.ownsRow.alloc h o
theorem OwnI.lt {w : World} {base : Nat} {v : Value} {L : List Int} (h : OwnI w base v L) : ∀ k, v.ownBlock = some k → base ≤ k ∧ k < w.heap.size := World.ownsRow.lt h
theorem OwnI.same {w w' : World} {base : Nat} {v : Value} {L : List Int} (h : OwnI w base v L) (hb : ∀ k, v.ownBlock = some k → w'.heap[k]? = w.heap[k]?) : OwnI w' base v L := by
  refine ⟨h.1, ?_⟩
  rcases h.2 with hn | ⟨g, cap, cur, rfl, hb', hgg, rest⟩
  · exact .inl hn
  · exact .inr ⟨g, cap, cur, rfl, hb', (hb g rfl).trans hgg, rest⟩
theorem OwnI.below {w w' : World} {base : Nat} {v : Value} {L : List Int} (h : OwnI w base v L) (hB : Below w.heap.size w w') : OwnI w' base v L := h.same fun k hk => hB.block k (h.lt k hk).2
theorem OwnI.mono {w : World} {base b : Nat} {v : Value} {L : List Int} (h : OwnI w base v L) (hb : b ≤ base) : OwnI w b v L := by
  refine ⟨h.1, ?_⟩
  rcases h.2 with hn | ⟨g, cap, cur, e, hb', rest⟩
  · exact .inl hn
  · exact .inr ⟨g, cap, cur, e, Nat.le_trans hb hb', rest⟩
/-- what setCells makes of a block -/
theorem setCells_blk (g : Nat) (e : TypeId) : ∀ (vs : List Value) (o : Nat) (w : World) (cur : Array Value), w.heap[g]? = some (.cells cur e (0, 0)) →
    ∃ cur', (w.setCells g o vs).heap[g]? = some (.cells cur' e (0, 0)) ∧ cur'.size = cur.size ∧ ∀ k, cur'[k]? = if o ≤ k ∧ k < o + vs.length ∧ k < cur.size then vs[k - o]? else cur[k]?
  | [], o, w, cur, h => ⟨cur, h, rfl, fun k => by rw [if_neg (by simp; omega)]⟩
  | v :: r, o, w, cur, h => by
    obtain ⟨c, h1, h2, h3⟩ := setCells_blk g e r (o + 1) (w.setCell ⟨g, o, none⟩ v) (cur.setIfInBounds o v) (heap_setCell_same w g o cur e v h)
    refine ⟨c, h1, by rw [h2, Array.size_setIfInBounds], fun k => ?_⟩
    rw [h3, Array.size_setIfInBounds, List.length_cons, Array.getElem?_setIfInBounds]
    by_cases hk : k = o
    · subst hk
      by_cases hs : k < cur.size
      · rw [if_neg (by omega), if_pos rfl, if_pos hs, if_pos (by omega)]; simp
      · rw [if_neg (by omega), if_pos rfl, if_neg hs, if_neg (by omega)]; simp; omega
    · by_cases hc : o + 1 ≤ k ∧ k < o + 1 + r.length ∧ k < cur.size
      · rw [if_pos hc, if_pos (by omega), show k - o = (k - (o + 1)) + 1 by omega, List.getElem?_cons_succ]
      · rw [if_neg hc, if_neg (fun e => hk e.symm), if_neg (by omega)]
theorem insRow {cur : Array Value} {L : List Int} {i : Nat} (x : Int) (hi : i ≤ L.length) (h0 : ∀ k, k < i → cur[k]? = some (.int .i64 (L.getD k 0))) (h1 : cur[i]? = some (.int .i64 x)) (h2 : ∀ k, i ≤ k → k < L.length → cur[k + 1]? = some (.int .i64 (L.getD k 0))) :
    cur.toList.take (L.length + 1) = (L.take i ++ x :: L.drop i).map (Value.int .i64) := by
  refine List.ext_getElem? fun k => ?_
  rw [List.getElem?_take, List.getElem?_map, List.getElem?_append, List.length_take, Nat.min_eq_left hi, Array.getElem?_toList]
  by_cases hk : k < i
  · rw [if_pos (by omega), if_pos hk, h0 k hk, List.getElem?_take, if_pos hk, List.getD, List.getElem?_eq_getElem (by omega)]; rfl
  · rw [if_neg hk]
    by_cases he : k = i
    · subst he
      rw [if_pos (by omega), h1]; simp
    · rw [show k - i = (k - i - 1) + 1 by omega, List.getElem?_cons_succ, List.getElem?_drop, show i + (k - i - 1) = k - 1 by omega]
      by_cases hl : k < L.length + 1
      · rw [if_pos hl]
        have := h2 (k - 1) (by omega) (by omega)
        rw [show k - 1 + 1 = k by omega] at this
        rw [this, List.getD, List.getElem?_eq_getElem (by omega)]; rfl
      · rw [if_neg hl, List.getElem?_eq_none (by omega)]; rfl
theorem OwnI.cur {cur : Array Value} {L : List Int} (h : cur.toList.take (L.length * 1) = L.map (Value.int .i64)) {k : Nat} (hk : k < L.length) : cur[k]? = some (.int .i64 (L.getD k 0)) := by
  have := congrArg (fun l => l[k]?) h
  simp only [List.getElem?_take, Nat.mul_one, if_pos hk, List.getElem?_map, Array.getElem?_toList] at this
  rw [this, List.getD, List.getElem?_eq_getElem hk]; rfl
theorem own_new {W : World} {base : Nat} {g cap : Nat} {cur : Array Value} {L : List Int} (hb : base ≤ g) (hg : W.heap[g]? = some (.cells cur 3 (0, 0))) (hc : L.length ≤ cap) (hm : cap ≤ maxLen) (hs : cur.size = cap) (ht : cur.toList.take L.length = L.map (Value.int .i64)) : OwnI W base (.slice (some ⟨g, 0, none⟩) L.length cap) L :=
  ⟨by simp, .inr ⟨g, cap, cur, rfl, hb, hg, hc, hm, by rw [hs, Nat.mul_one], by rw [Nat.mul_one]; exact ht⟩⟩
theorem zeros_size (n : Nat) : (Builtin.zeroCells (Value.int .i64 0).cells n).size = n := by simp [Builtin.zeroCells, Value.cells]
/-- a new row that is no other's -/
theorem gr_new (w : World) (o : Obj) (v : Value) (n c : Nat) : Gr w (w.drew.alloc o) v (.slice (some ⟨w.heap.size, 0, none⟩) n c) :=
  ⟨rfl, rfl, rfl, by show w.heap.size ≤ (w.heap.push o).size; simp, fun k hk _ => Below.heap_alloc w.drew o k hk, fun k h => by cases h; exact .inr (Nat.le_refl _)⟩
set_option maxHeartbeats 1000000 in
theorem insert_nil (base i vb : Nat) (x : Int) (w : World) (hi : i = 0) (hbase : base ≤ w.heap.size) (t : TypeId) (hvb : w.heap[vb]? = some (.cells #[.int .i64 x] t (0, 0))) :
    Calls Try.prog 57 #[.slice none 0 0, .int .i64 (i : Int), .slice (some ⟨vb, 0, none⟩) 1 1] w fun e w' => ∃ v', e = .returned v' ∧ OwnI w' base v' [x] ∧ Gr w w' (.slice none 0 0) v' := by
  subst hi
  refine (Any2.slices_Insert_int_end_grow (ρ := sren) lays21 none 0 0 vb 0 1 1 [] [.int .i64 x] w (by decide) (by decide) (by decide) (by decide) rfl rfl (fun _ => rfl) (fun a h => by cases h) (fun j u hj => ?_) (by simp [Value.oneCell'])).mono ?_
  · match j, hj with
    | 0, hj => rw [cell_blk hvb]; exact hj
    | j + 1, hj => simp at hj
  · rintro e w' ⟨rfl, rfl⟩
    refine ⟨_, rfl, own_new (L := [x]) hbase (alloc_blk _ _) ?_ ?_ ?_ ?_, gr_new _ _ _ _ _⟩
    · exact grownCap_ge _ _ _ _
    · exact grownCap_le_maxLen _ _ _ _ (by decide)
    · rw [Array.size_append, zeros_size]
      have := grownCap_ge w (0 + 1) 0 (sren.t 3)
      generalize grownCap w (0 + 1) 0 (sren.t 3) = G at this ⊢
      simp; omega
    · simp
theorem cells_of {w : World} {g : Nat} {cur : Array Value} {e : TypeId} {L : List Int} (hg : w.heap[g]? = some (.cells cur e (0, 0))) (ht : cur.toList.take (L.length * 1) = L.map (Value.int .i64)) : ∀ j v, (L.map (Value.int .i64))[j]? = some v → w.cell? ⟨g, 0 + j, none⟩ = some v := fun j v hj => by
  have hl : j < L.length := by have := (List.getElem?_eq_some_iff.1 hj).1; simpa using this
  rw [Nat.zero_add, cell_blk hg, OwnI.cur ht hl, ← hj, List.getElem?_map, List.getD, List.getElem?_eq_getElem hl]; rfl
theorem one_cell {w : World} {vb : Nat} {x : Int} {t : TypeId} (hvb : w.heap[vb]? = some (.cells #[.int .i64 x] t (0, 0))) : ∀ j v, [Value.int .i64 x][j]? = some v → w.cell? ⟨vb, 0 + j, none⟩ = some v := fun j u hj => by
  match j, hj with
  | 0, hj => rw [cell_blk hvb]; exact hj
  | j + 1, hj => simp at hj
theorem gr_set {w W : World} {g : Nat} {n n' c c' : Nat} (h : ∀ k, k ≠ g → W.heap[k]? = w.heap[k]?) (hs : W.heap.size = w.heap.size) (ho : W.os = w.os) (ht : W.tape = w.tape) (hp : W.output = w.output) : Gr w W (.slice (some ⟨g, 0, none⟩) n c) (.slice (some ⟨g, 0, none⟩) n' c') :=
  ⟨ho, ht, hp, Nat.le_of_eq hs.symm, fun k _ hn => h k (fun e => hn (by rw [e]; rfl)), fun _ h => .inl h⟩
theorem setCells_frame (g : Nat) : ∀ (vs : List Value) (o : Nat) (w : World), (w.setCells g o vs).heap.size = w.heap.size ∧ (w.setCells g o vs).os = w.os ∧ (w.setCells g o vs).tape = w.tape ∧ (w.setCells g o vs).output = w.output ∧ ∀ k, k ≠ g → (w.setCells g o vs).heap[k]? = w.heap[k]?
  | [], _, _ => ⟨rfl, rfl, rfl, rfl, fun _ _ => rfl⟩
  | v :: r, o, w => by
    obtain ⟨h1, h2, h3, h4, h5⟩ := setCells_frame g r (o + 1) (w.setCell ⟨g, o, none⟩ v)
    exact ⟨h1.trans (by simp [World.setCell]), h2, h3, h4, fun k hk => (h5 k hk).trans (Below.heap_setCell _ _ _ k hk)⟩
set_option maxHeartbeats 1000000 in
theorem insert_any (base : Nat) (v : Value) (L : List Int) (i vb : Nat) (x : Int) (w : World) (hown : OwnI w base v L) (hi : i ≤ L.length) (hl : L.length ≤ 1000) (hbase : base ≤ w.heap.size) (t : TypeId) (hvb : w.heap[vb]? = some (.cells #[.int .i64 x] t (0, 0))) (hne : v.ownBlock ≠ some vb) :
    Calls Try.prog 57 #[v, .int .i64 (i : Int), .slice (some ⟨vb, 0, none⟩) 1 1] w fun e w' => ∃ v', e = .returned v' ∧ OwnI w' base v' (L.take i ++ x :: L.drop i) ∧ Gr w w' v v' := by
  have hlen : (L.take i ++ x :: L.drop i).length = L.length + 1 := by simp; omega
  have hone : ∀ u ∈ L.map (Value.int .i64), u.oneCell' = true := fun u hu => by obtain ⟨y, -, rfl⟩ := List.mem_map.1 hu; rfl
  rcases hown.2 with ⟨rfl, h0⟩ | ⟨g, cap, cur, rfl, hb, hg, hc, hm, hs, ht⟩
  · obtain rfl : L = [] := List.eq_nil_of_length_eq_zero h0
    obtain rfl : i = 0 := by simpa using hi
    exact insert_nil base 0 vb x w rfl hbase t hvb
  · have hgv : vb ≠ g := fun e => hne (by rw [e]; rfl)
    have hcs := cells_of hg ht
    have hvs := one_cell hvb
    rw [Nat.mul_one] at hs
    by_cases hroom : L.length + 1 ≤ cap
    · by_cases hie : i = L.length
      · subst hie
        refine (Any2.slices_Insert_int_end_room (ρ := sren) lays21 g 0 L.length cap vb 0 1 1 [.int .i64 x] w (by decide) hroom (by unfold maxLen at hm; omega) rfl (fun j hj => ?_) (fun j hj => frozen_blk hg _) hvs (by simp [Value.oneCell'])).mono ?_
        · rw [cell_blk hg, Array.getElem?_eq_getElem (by omega)]; rfl
        · rintro e w' ⟨rfl, rfl⟩
          obtain ⟨c, h1, h2, h3⟩ := setCells_blk g 3 [.int .i64 x] (0 + L.length) w cur hg
          obtain ⟨f1, f2, f3, f4, f5⟩ := setCells_frame g [.int .i64 x] (0 + L.length) w
          have hO : OwnI (w.setCells g (0 + L.length) [.int .i64 x]) base (.slice (some ⟨g, 0, none⟩) (L.take L.length ++ x :: L.drop L.length).length cap) (L.take L.length ++ x :: L.drop L.length) := by
            refine own_new hb h1 (by rw [hlen]; omega) hm (by omega) ?_
            rw [hlen]
            refine insRow x (Nat.le_refl _) (fun k hk => ?_) ?_ (fun k h1 h2 => absurd h2 (by omega))
            · rw [h3, if_neg (by omega)]; exact OwnI.cur ht hk
            · rw [h3, if_pos (by simp; omega)]; simp
          rw [hlen] at hO
          exact ⟨_, rfl, hO, gr_set f5 f1 f2 f3 f4⟩
      · have hlt : i < L.length := by omega
        refine (Any2.slices_Insert_int_shift (ρ := sren) lays21 g 0 L.length cap i vb 0 1 1 (L.map (Value.int .i64)) [.int .i64 x] w hlt (by decide) hroom (by unfold maxLen at hm; omega) hgv (by simp) rfl hcs (fun j hj => ?_) (fun j hj => frozen_blk hg _) hvs hone (by simp [Value.oneCell']) t 3 1 cur.size (by simp [World.shape?, hvb]) (by simp [World.shape?, hg]) (by omega) (frozen_blk hvb _) (frozen_blk hvb _)).mono ?_
        · rw [cell_blk hg, Array.getElem?_eq_getElem (by omega)]; rfl
        · rintro e w' ⟨rfl, rfl⟩
          obtain ⟨c, h1, h2, h3⟩ := setCells_blk g 3 ((L.map (Value.int .i64)).drop i) (0 + (i + 1)) w.drew cur hg
          obtain ⟨f1, f2, f3, f4, f5⟩ := setCells_frame g ((L.map (Value.int .i64)).drop i) (0 + (i + 1)) w.drew
          obtain ⟨c', k1, k2, k3⟩ := setCells_blk g 3 [.int .i64 x] (0 + i) _ c h1
          obtain ⟨e1, e2, e3, e4, e5⟩ := setCells_frame g [.int .i64 x] (0 + i) (w.drew.setCells g (0 + (i + 1)) ((L.map (Value.int .i64)).drop i))
          have hO : OwnI ((w.drew.setCells g (0 + (i + 1)) ((L.map (Value.int .i64)).drop i)).setCells g (0 + i) [.int .i64 x]) base (.slice (some ⟨g, 0, none⟩) (L.take i ++ x :: L.drop i).length cap) (L.take i ++ x :: L.drop i) := by
            refine own_new hb k1 (by rw [hlen]; omega) hm (by omega) ?_
            rw [hlen]
            refine insRow x hi (fun k hk => ?_) ?_ (fun k hk hk2 => ?_)
            · rw [k3, if_neg (by omega), h3, if_neg (by omega)]; exact OwnI.cur ht (by omega)
            · rw [k3, if_pos (by simp; omega)]; simp
            · rw [k3, if_neg (by simp; omega), h3, if_pos (by simp; omega), List.getElem?_drop, show i + (k + 1 - (0 + (i + 1))) = k by omega, List.getElem?_map, List.getD, List.getElem?_eq_getElem hk2]; rfl
          rw [hlen] at hO
          exact ⟨_, rfl, hO, gr_set (fun k hk => (e5 k hk).trans (f5 k hk)) (e1.trans f1) (e2.trans f2) (e3.trans f3) (e4.trans f4)⟩
    · by_cases hie : i = L.length
      · subst hie
        refine (Any2.slices_Insert_int_end_grow (ρ := sren) lays21 (some ⟨g, 0, none⟩) L.length cap vb 0 1 1 (L.map (Value.int .i64)) [.int .i64 x] w (by decide) hc (by omega) (by omega) (by simp) rfl (fun h => by cases h) (fun a h j u hj => ?_) hvs (by simp [Value.oneCell'])).mono ?_
        · cases h; rw [addr_add]; exact hcs j u hj
        · rintro e w' ⟨rfl, rfl⟩
          have hge := grownCap_ge w (L.length + 1) cap (sren.t 3)
          have hO : OwnI (w.drew.alloc (.cells ((L.map (Value.int .i64) ++ [Value.int .i64 x]).toArray ++ Builtin.zeroCells (Value.int .i64 0).cells (grownCap w (L.length + 1) cap (sren.t 3) - (L.length + 1))) (sren.t 3))) base (.slice (some ⟨w.heap.size, 0, none⟩) (L.take L.length ++ x :: L.drop L.length).length (grownCap w (L.length + 1) cap (sren.t 3))) (L.take L.length ++ x :: L.drop L.length) := by
            refine own_new hbase (alloc_blk _ _) (by rw [hlen]; exact hge) (grownCap_le_maxLen _ _ _ _ (by unfold maxLen; omega)) ?_ ?_
            · rw [Array.size_append, zeros_size]; simp; omega
            · rw [hlen, Array.toList_append, List.take_append_of_le_length (by simp), List.take_of_length_le (by simp), List.take_length, List.drop_length, List.map_append]
              rfl
          rw [hlen] at hO
          exact ⟨_, rfl, hO, gr_new _ _ _ _ _⟩
      · have hlt : i < L.length := by omega
        refine (Any2.slices_Insert_int_grow (ρ := sren) lays21 g 0 L.length cap i vb 0 1 1 (L.map (Value.int .i64)) [.int .i64 x] w hlt (by decide) hc (by omega) (by omega) (by simp) rfl hcs hvs hone (by simp [Value.oneCell'])).mono ?_
        rintro e w' ⟨rfl, rfl⟩
        have hge := grownCap_ge w (L.length + 1) cap (sren.t 3)
        generalize hG : grownCap w (L.length + 1) cap (sren.t 3) = G at hge ⊢
        have hGm : G ≤ maxLen := by rw [← hG]; exact grownCap_le_maxLen _ _ _ _ (by unfold maxLen; omega)
        generalize hC : (((L.map (Value.int .i64)).take i).toArray ++ Builtin.zeroCells (Value.int .i64 0).cells (L.length + 1 - i) ++ Builtin.zeroCells (Value.int .i64 0).cells (G - (L.length + 1))) = C
        have hCs : C.size = G := by rw [← hC, Array.size_append, Array.size_append, zeros_size, zeros_size]; simp; omega
        have hCg : ∀ k, k < i → C[k]? = some (.int .i64 (L.getD k 0)) := fun k hk => by
          rw [← hC, Array.getElem?_append_left (by rw [Array.size_append, zeros_size]; simp; omega), Array.getElem?_append_left (by simp; omega)]
          simp [hk, List.getD, List.getElem?_eq_getElem (show k < L.length by omega)]
        have hA : (w.alloc (.cells C 3)).drew.heap[w.heap.size]? = some (.cells C 3 (0, 0)) := alloc_blk _ _
        obtain ⟨c, h1, h2, h3⟩ := setCells_blk w.heap.size 3 [.int .i64 x] i (w.alloc (.cells C 3)).drew C hA
        obtain ⟨f1, f2, f3, f4, f5⟩ := setCells_frame w.heap.size [.int .i64 x] i (w.alloc (.cells C 3)).drew
        obtain ⟨c', k1, k2, k3⟩ := setCells_blk w.heap.size 3 ((L.map (Value.int .i64)).drop i) (i + 1) ((w.alloc (.cells C 3)).drew.setCells w.heap.size i [.int .i64 x]).drew c h1
        obtain ⟨e1, e2, e3, e4, e5⟩ := setCells_frame w.heap.size ((L.map (Value.int .i64)).drop i) (i + 1) ((w.alloc (.cells C 3)).drew.setCells w.heap.size i [.int .i64 x]).drew
        have hO : OwnI (((w.alloc (.cells C 3)).drew.setCells w.heap.size i [.int .i64 x]).drew.setCells w.heap.size (i + 1) ((L.map (Value.int .i64)).drop i)) base (.slice (some ⟨w.heap.size, 0, none⟩) (L.take i ++ x :: L.drop i).length G) (L.take i ++ x :: L.drop i) := by
          refine own_new hbase k1 (by rw [hlen]; exact hge) hGm (by omega) ?_
          rw [hlen]
          refine insRow x hi (fun k hk => ?_) ?_ (fun k hk hk2 => ?_)
          · rw [k3, if_neg (by omega), h3, if_neg (by omega)]; exact hCg k hk
          · rw [k3, if_neg (by omega), h3, if_pos (by simp; omega)]; simp
          · rw [k3, if_pos (by simp; omega), List.getElem?_drop, show i + (k + 1 - (i + 1)) = k by omega, List.getElem?_map, List.getD, List.getElem?_eq_getElem hk2]; rfl
        rw [hlen] at hO
        refine ⟨_, rfl, hO, ⟨e2.trans f2, e3.trans f3, e4.trans f4, ?_, fun k hk _ => ?_, fun k h => by cases h; exact .inr (Nat.le_refl _)⟩⟩
        · exact Nat.le_trans (show w.heap.size ≤ (w.alloc (.cells C 3)).drew.heap.size by show w.heap.size ≤ (w.heap.push _).size; simp) (Nat.le_of_eq (e1.trans f1).symm)
        · exact ((e5 k (by omega)).trans (f5 k (by omega))).trans (Below.heap_alloc w _ k hk)
set_option maxHeartbeats 1000000 in
/-- where a number lies, or would lie, in a row that rises -/
theorem search_any (base : Nat) (v : Value) (L : List Int) (x : Int) (w : World) (hown : OwnI w base v L) (hs : L.Pairwise (· ≤ ·)) (hl : L.length ≤ 1000) :
    Calls Try.prog 55 #[v, .int .i64 x] w fun e w' => e = .returned (.tuple #[.int .i64 (L.countP (· < x) : Nat), .bool (L.contains x)]) ∧ ∃ q, w' = w.drewN q := by
  rcases hown.2 with ⟨rfl, h0⟩ | ⟨g, cap, cur, rfl, hb, hg, hc, hm, hz, ht⟩
  · obtain rfl : L = [] := List.eq_nil_of_length_eq_zero h0
    refine (Any.slices_BinarySearch_int_empty (ρ := sren) lays25 none 0 x w).mono ?_
    rintro e w' ⟨rfl, rfl⟩
    exact ⟨rfl, 0, rfl⟩
  · refine (Any.slices_BinarySearch_int (ρ := sren) lays25 g 0 L.length cap L x w (Nat.le_refl _) (by omega) (fun j hj => ?_) (by rw [List.take_length]; exact hs)).mono ?_
    · rw [Nat.zero_add, cell_blk hg]; exact OwnI.cur ht hj
    · rintro e w' ⟨rfl, q, rfl⟩
      rw [List.take_length]
      exact ⟨rfl, q, rfl⟩
end Go.Proofs.Yticpkpphjpgdbaa
