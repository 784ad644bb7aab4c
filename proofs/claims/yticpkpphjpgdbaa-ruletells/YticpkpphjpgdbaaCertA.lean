/- cert's Cast and Good: of every ring, a nil one too, and every vote. -/
import Derived.Test.YticpkpphjpgdbaaSealLaw
import Derived.Test.YticpkpphjpgdbaaWireC
import Derived.Test.YticpkpphjpgdbaaCertS
namespace Go.Proofs.Yticpkpphjpgdbaa
open Go.RowKit Go.Dig Go.Sha Go.Inv Go.Oct

theorem Rowed.lies {w : World} {ao : Option Addr} {P : List Int} {cap : Nat} (h : Rowed w ao P cap) : Lies w ao P := fun hp => h.at hp
/-- what is sealed of a vote -/
def vbody (x : VoteR) : List Int := num 5 ++ sealedL x
theorem vbody_length (x : VoteR) : (vbody x).length ≤ 77 := by
  have := sealedL_length x
  have := num_length 5
  unfold vbody
  rw [List.length_append]; omega
set_option maxRecDepth 10000 in
set_option maxHeartbeats 1000000 in
theorem voteBody_any (x : VoteR) (w : World) (hx : x.wf) : Calls Try.prog 68 #[.agg x.cells] w fun e w' => ∃ ao cap, e = .returned (.slice ao (vbody x).length cap) ∧ Lies w' ao (vbody x) ∧ (vbody x).length ≤ cap ∧ Below w.heap.size w w' := by
  have HB0 : Hid ((w.alloc (.cells x.cells 51)).heap[w.heap.size]? = some (.cells x.cells 51 (0, 0))) := alloc_blk _ _
  have hBw := below_alloc w (.cells x.cells 51)
  go_enter Try.func68, Try.ntmps68
  go_wp2_with (first | refine wpList_box_row rfl 51 _ rfl _ rfl ?_)
  have hs0 : (w.alloc (.cells x.cells 51)).heap.size = w.heap.size + 1 := by simp
  have hW := wri_new (w.alloc (.cells x.cells 51))
  have hB0 := below_alloc (w.alloc (.cells x.cells 51)) (.cells #[.slice none 0 0] 114)
  rw [hs0] at hW hB0
  generalize w.alloc (.cells x.cells 51) = w0 at *
  refine (wNums_new (w.heap.size + 1) (w.heap.size + 1) _ [] [5] (w.heap.size + 1 + 1) 1 _ hW (by simp [hs0]) ⟨inI_lit (by decide) (by decide), trivial⟩ (by decide)).mono ?_
  rintro e w1 ⟨rfl, v1, hw1, hr1⟩
  rw [nums_one, List.nil_append] at hw1
  have hB1 : Below (w.heap.size + 1) w0 w1 := hB0.trans (hr1.below (by simp [hs0]) (Nat.le_refl _) (fun k hk => by cases hk))
  have HB1 : Hid (w1.heap[w.heap.size]? = some (.cells x.cells 51 (0, 0))) := (hB1.block _ (by omega)).trans HB0.out
  have HV1 : Hid (VoteAt w1 w.heap.size 0 x) := voteAt_blk HB1.out
  have hz1 : w.heap.size + 1 ≤ w1.heap.size := by have := hB1.size; omega
  clear hr1 hW hB0
  go_wp2_with (first | refine wpList_load_vote rfl _ rfl w.heap.size 0 rfl x HV1.out ?_)
  refine (laySealed_any (w.heap.size + 1) (w.heap.size + 1) v1 _ x _ hw1 hx (by have := num_length 5; omega)).mono ?_
  rintro e w2 ⟨rfl, v2, hw2, hr2⟩
  have hB2 : Below (w.heap.size + 1) w0 w2 := hB1.trans (hr2.below hz1 (Nat.le_refl _) (fun k hk => (hw1.row.lt k hk).1))
  have hz2 : w.heap.size ≤ w2.heap.size := by have := hB2.size; omega
  clear hr2 hw1 HV1 HB1 hB1
  go_wp2_with fail
  refine (wOut_any _ _ _ _ _ hw2 (by have := vbody_length x; unfold vbody at this; omega)).mono ?_
  rintro e w3 ⟨v3, rfl, hO', hB3⟩
  have hO : OwnB w3 w2.heap.size v3 (vbody x) := hO'
  obtain ⟨ao, n, c, rfl, hf⟩ := hO.form
  obtain ⟨hn, hc, hR⟩ := hf.out
  subst hn
  have hB4 : Below w.heap.size w w3 := hBw.trans ((hB2.mono (by omega)).trans (hB3.mono hz2))
  clear hO hO' hB3 hB2 hw2
  go_wp2_with fail
  go_ret
  exact ⟨ao, c, rfl, hR.lies, hc, hB4⟩

/-- a ring, or none -/
abbrev RingO := Option ((Nat → Int) × Nat)
def RingV (w : World) (pr : Value) : RingO → Prop
  | none => pr = .pointer none
  | some (seed, n) => ∃ rg, pr = .pointer (some ⟨rg, 0, none⟩) ∧ RingAt w rg seed n
theorem RingV.below {w w' : World} {pr : Value} {R : RingO} (h : RingV w pr R) (hB : Below w.heap.size w w') : RingV w' pr R := by
  cases R with
  | none => exact h
  | some p => obtain ⟨rg, e, hr⟩ := h; exact ⟨rg, e, hr.below hB⟩
theorem RingV.form {w : World} {pr : Value} {R : RingO} (h : RingV w pr R) : ∃ a, pr = .pointer a := by
  cases R with
  | none => exact ⟨_, h⟩
  | some p => obtain ⟨rg, e, _⟩ := h; exact ⟨_, e⟩
def sealR (R : RingO) (i : Int) (P : List Int) : Nat → Int := match R with
  | none => zeroF
  | some (seed, n) => sealF seed n i P
def checkR (R : RingO) (i : Int) (P : List Int) (tag : Nat → Int) : Bool := match R with
  | none => false
  | some (seed, n) => checkB seed n i P tag
def nodesR (R : RingO) : Nat := match R with
  | none => 0
  | some (_, n) => n
theorem sealR_any (pr : Value) (R : RingO) (i : Int) (P : List Int) (ao : Option Addr) (cap : Nat) (w : World) (h : RingV w pr R) (hl : Lies w ao P) (hc : P.length ≤ cap) (hz : P.length < 274877906944) :
    Calls Try.prog 76 #[pr, .int .i64 i, .slice ao P.length cap] w fun e w' => e = .returned (.agg (row .u8 32 (sealR R i P))) ∧ Below w.heap.size w w' := by
  cases R with
  | none => obtain rfl : pr = .pointer none := h; exact seal_nil i _ w
  | some p => obtain ⟨rg, rfl, hr⟩ := h; exact seal_any rg p.2 p.1 i P ao cap w hr hl hc hz
theorem checkR_any (pr : Value) (R : RingO) (i : Int) (P : List Int) (ao : Option Addr) (cap : Nat) (tag : Nat → Int) (w : World) (h : RingV w pr R) (hl : Lies w ao P) (hc : P.length ≤ cap) (hz : P.length < 274877906944) :
    Calls Try.prog 67 #[pr, .int .i64 i, .slice ao P.length cap, .agg (row .u8 32 tag)] w fun e w' => e = .returned (.bool (checkR R i P tag)) ∧ Below w.heap.size w w' := by
  cases R with
  | none => obtain rfl : pr = .pointer none := h; exact check_nil i _ tag w
  | some p => obtain ⟨rg, rfl, hr⟩ := h; exact check_any rg p.2 p.1 i P ao cap tag w hr hl hc hz
theorem nodesR_any (pr : Value) (R : RingO) (w : World) (h : RingV w pr R) : Calls Try.prog 39 #[pr] w fun e w' => e = .returned (.int .i64 (nodesR R : Int)) ∧ w' = w := by
  cases R with
  | none => obtain rfl : pr = .pointer none := h; exact nodes_nil w
  | some p => obtain ⟨rg, rfl, hr⟩ := h; exact nodes_any rg p.2 p.1 w hr

theorem VoteR.head_at (x : VoteR) {k : Nat} (h : k < 36) : x.cells[k]? = (#[Value.int .i64 x.k, .int .i64 x.s, .int .i64 x.v] ++ row .u8 32 x.sum ++ #[.int .i64 x.f])[k]? :=
  Array.getElem?_append_left (by rw [Array.size_append, Array.size_append, row_size]; exact h)
/-- a vote's tag alone is another one -/
theorem VoteR.tag_at (x : VoteR) (f : Nat → Int) (k : Nat) : ({ x with tag := f } : VoteR).cells[k]? = if 36 ≤ k ∧ k < 68 then some (.int .u8 (f (k - 36))) else x.cells[k]? := by
  by_cases h : 36 ≤ k ∧ k < 68
  · rw [if_pos h]
    have := VoteR.atTag { x with tag := f } (j := k - 36) (by omega)
    rwa [show 36 + (k - 36) = k by omega] at this
  · rw [if_neg h]
    by_cases hk : k < 36
    · rw [VoteR.head_at _ hk, VoteR.head_at _ hk]
    · rw [Array.getElem?_eq_none (by rw [VoteR.size]; omega), Array.getElem?_eq_none (by rw [VoteR.size]; omega)]
theorem hash_row : ∃ d, Try.prog.underlying 30 = some d ∧ d.isRow = true := by
  have h : (Try.prog.underlying 30).map (·.isRow) = some true := by kernel_rfl
  cases hd : Try.prog.underlying 30 with
  | none => rw [hd] at h; cases h
  | some d => rw [hd] at h; exact ⟨d, rfl, by simpa using h⟩
/-- a digest lies at a place -/
def HashAt (w : World) (b o : Nat) (f : Nat → Int) : Prop := ∀ j, j < 32 → w.cell? ⟨b, o + j, none⟩ = some (.int .u8 (f j))
theorem hashAt_blk {w : World} {b : Nat} {f : Nat → Int} {t : TypeId} {fr : Nat × Nat} (h : w.heap[b]? = some (.cells (row .u8 32 f) t fr)) : HashAt w b 0 f := fun j hj => by rw [Nat.zero_add, cell_blk h, row_get hj]
theorem HashAt.same {w w' : World} {b o : Nat} {f : Nat → Int} (h : HashAt w b o f) (hb : w'.heap[b]? = w.heap[b]?) : HashAt w' b o f := fun j hj => (World.cell?_of_block (a := ⟨b, o + j, none⟩) hb).trans (h j hj)
theorem VoteAt.sum {w : World} {b o : Nat} {y : VoteR} (h : VoteAt w b o y) : HashAt w b (o + 3) y.sum := fun j hj => by rw [Nat.add_assoc, h (3 + j) (by omega), y.atSum hj]
theorem VoteAt.tag {w : World} {b o : Nat} {y : VoteR} (h : VoteAt w b o y) : HashAt w b (o + 36) y.tag := fun j hj => by rw [Nat.add_assoc, h (36 + j) (by omega), y.atTag hj]
section
variable {ops : Array Oper} {rest : List Oper} {o : Oper} {a : Act} {w : World} {Q : Exit → Act → World → Prop}
theorem wpList_load_hash (hgd : o.guard = none) (x : Operand) (ho : o.op = .load 30 x) (b off : Nat) (hx : a.eval x = .pointer (some ⟨b, off, none⟩)) (f : Nat → Int) (hc : HashAt w b off f)
    (h : wpList Try.prog ops Q rest (a.put o.dst (.agg (row .u8 32 f))) w) : wpList Try.prog ops Q (o :: rest) a w := by
  obtain ⟨d, hd1, hd2⟩ := hash_row
  refine wpList_load_mid hgd 30 x ho b off hx (row .u8 32 f).toList d (fun j v hv => ?_) hd1 hd2 (by rw [Array.length_toList]; exact row_info size_hash _) (by simpa using h)
  have hv' : (row .u8 32 f)[j]? = some v := by simpa using hv
  have hj : j < 32 := by have := (Array.getElem?_eq_some_iff.1 hv').1; rwa [row_size] at this
  rw [hc j hj, ← hv', row_get hj]
/-- v.Tag = .. -/
theorem wpList_store_tag (hgd : o.guard = none) (x y : Operand) (ho : o.op = .store 30 x y) (g : Nat) (f : Nat → Int) (z : VoteR) (hx : a.eval x = .pointer (some ⟨g, 36, none⟩)) (hy : a.eval y = .agg (row .u8 32 f))
    (t : TypeId) (hg : w.heap[g]? = some (.cells z.cells t (0, 0)))
    (h : ∀ w', w'.heap[g]? = some (.cells ({ z with tag := f } : VoteR).cells t (0, 0)) → Keeps g w w' → wpList Try.prog ops Q rest (a.put o.dst undef) w') : wpList Try.prog ops Q (o :: rest) a w := by
  refine wpList_store_mid hgd 30 x y ho g 36 (row .u8 32 f) hx hy (fun j hj => ?_) (row_info size_hash _) (row_all _ _ _) (h _ ?_ (Keeps.setCells _ _ (Keeps.refl _ _)))
  · rw [row_size] at hj
    exact ⟨by rw [cell_blk hg, VoteR.atTag z hj]; rfl, frozen_blk hg _⟩
  · obtain ⟨c, h1, h2, h3⟩ := setCells_blk g t (row .u8 32 f).toList 36 w z.cells hg
    have hc : c = ({ z with tag := f } : VoteR).cells := Array.ext_getElem? fun k => by
      have ht := VoteR.tag_at z f k
      rw [h3, ht, VoteR.size, Array.length_toList, row_size]
      by_cases hk : 36 ≤ k ∧ k < 68
      · rw [if_pos (by omega), if_pos hk, Array.getElem?_toList, row_get (by omega)]
      · rw [if_neg (by omega), if_neg hk]
    rw [h1, hc]
/-- a whole vote is stored -/
theorem wpList_put_vote (hgd : o.guard = none) (x y : Operand) (ho : o.op = .store 51 x y) (g : Nat) (z old : VoteR) (hx : a.eval x = .pointer (some ⟨g, 0, none⟩)) (hy : a.eval y = .agg z.cells)
    (t : TypeId) (hg : w.heap[g]? = some (.cells old.cells t (0, 0)))
    (h : ∀ w', w'.heap[g]? = some (.cells z.cells t (0, 0)) → Keeps g w w' → wpList Try.prog ops Q rest (a.put o.dst undef) w') : wpList Try.prog ops Q (o :: rest) a w :=
  wpList_store_blk hgd 51 x y ho g z.cells hx hy t _ hg (vote_info z) (by rw [VoteR.size, VoteR.size]) z.all (h _ (setRow_at hg _) ⟨rfl, rfl, rfl, by simp, fun k _ hk => heap_setRow_other _ _ hk⟩)
end
theorem vote_rowM : ∃ d, Try.prog.underlying 51 = some d ∧ (match d with | .struct _ | .array _ _ => true | _ => false) = true := by
  obtain ⟨d, h1, h2⟩ := vote_row
  refine ⟨d, h1, ?_⟩
  clear h1
  cases d <;> first | rfl | exact h2
/-- what a node casts -/
def castR (R : RingO) (k s v : Int) (sum : Nat → Int) (f : Int) : VoteR := ⟨k, s, v, sum, f, sealR R f (vbody ⟨k, s, v, sum, f, zeroF⟩)⟩
theorem built_cast (k s v : Int) (sum : Nat → Int) (f : Int) : Try.prog.built 51 [(0, .int .i64 k), (1, .int .i64 s), (2, .int .i64 v), (3, .agg (row .u8 32 sum)), (4, .int .i64 f)] = some (VoteR.mk k s v sum f zeroF).cells := by kernel_rfl
/-- what Good's line leaves, operation by operation -/
def goodSpec (pr : Value) (b : Nat) (x : VoteR) (R : RingO) : Nat → Value → World → Prop
  | 0, y, _ => y = pr
  | 1, y, _ => y = .pointer (some ⟨b, 35, none⟩)
  | 2, y, _ => y = .int .i64 x.f
  | 3, y, _ => y = .agg x.cells
  | 4, y, W => ∃ ao cap, y = .slice ao (vbody x).length cap ∧ Lies W ao (vbody x) ∧ (vbody x).length ≤ cap
  | 5, y, _ => y = .pointer (some ⟨b, 36, none⟩)
  | 6, y, _ => y = .agg (row .u8 32 x.tag)
  | 7, y, _ => y = .bool (checkR R x.f (vbody x) x.tag)
  | 8, y, _ => y = .bool (checkR R x.f (vbody x) x.tag)
  | _, _, _ => True
/-- whether a vote is its node's -/
def goodR (R : RingO) (x : VoteR) : Bool := checkR R x.f (vbody x) x.tag
theorem wp_load_hash {o : Oper} {a : Act} {w : World} {K : Act → World → Prop} {Q : Exit → Act → World → Prop} (x : Operand) (ho : o.op = .load 30 x) (b off : Nat) (hx : a.eval x = .pointer (some ⟨b, off, none⟩)) (f : Nat → Int) (hc : HashAt w b off f)
    (h : K (a.put o.dst (.agg (row .u8 32 f))) w) : o.wp Try.prog a w K Q := by
  obtain ⟨d, hd1, hd2⟩ := hash_row
  refine wp_load_mid 30 x ho b off hx (row .u8 32 f).toList d (fun j v hv => ?_) hd1 hd2 (by rw [Array.length_toList]; exact row_info size_hash _) (by simpa using h)
  have hv' : (row .u8 32 f)[j]? = some v := by simpa using hv
  have hj : j < 32 := by have := (Array.getElem?_eq_some_iff.1 hv').1; rwa [row_size] at this
  rw [hc j hj, ← hv', row_get hj]
theorem wp_load_vote {o : Oper} {a : Act} {w : World} {K : Act → World → Prop} {Q : Exit → Act → World → Prop} (x : Operand) (ho : o.op = .load 51 x) (b off : Nat) (hx : a.eval x = .pointer (some ⟨b, off, none⟩)) (y : VoteR)
    (hc : VoteAt w b off y) (h : K (a.put o.dst (.agg y.cells)) w) : o.wp Try.prog a w K Q := by
  obtain ⟨d, hd1, hd2⟩ := vote_row
  refine wp_load_mid 51 x ho b off hx y.cells.toList d (fun j v hv => ?_) hd1 hd2 (by rw [Array.length_toList]; exact vote_info y) (by simpa using h)
  have hv' : y.cells[j]? = some v := by simpa using hv
  have hj : j < 68 := by have := (Array.getElem?_eq_some_iff.1 hv').1; rwa [VoteR.size] at this
  rw [hc j hj]; exact hv'
set_option maxRecDepth 10000 in
set_option maxHeartbeats 1000000 in
theorem good_any (pr : Value) (R : RingO) (x : VoteR) (w : World) (h : RingV w pr R) (hx : x.wf) : Calls Try.prog 56 #[pr, .agg x.cells] w fun e w' => e = .returned (.bool (goodR R x)) ∧ Below w.heap.size w w' := by
  have HR : Hid (RingV w pr R) := h
  clear h
  have hA := alloc_blk w (.cells x.cells 51)
  have hBw := below_alloc w (.cells x.cells 51)
  go_enter Try.func56, Try.ntmps56
  go_wp2_with (refine wpList_box_row rfl 51 _ rfl _ rfl ?_)
  generalize w.alloc (.cells x.cells 51) = w1 at *
  have HA : Hid (VoteAt w1 w.heap.size 0 x) := voteAt_blk hA
  have hlt : w.heap.size < w1.heap.size := lt_blk hA
  have HA0 : Hid (w1.heap[w.heap.size]? = some (.cells x.cells 51 (0, 0))) := hA
  clear hA
  refine wp_region_growG (by kernel_rfl) (by kernel_rfl) (fun xs => { tmps := (pr :: .agg x.cells :: undef :: .pointer (some ⟨w.heap.size, 0, none⟩) :: xs 8 :: xs 0 :: xs 1 :: xs 2 :: xs 3 :: xs 4 :: xs 5 :: xs 6 :: xs 7 :: []).toArray, defers := [] })
    (goodSpec pr w.heap.size x R) (fun | 8 => .bool false | _ => undef) (by repeat (first | exact trivial | refine ⟨fun _ _ => rfl, ?_⟩))
    (by
      intro i y w w' h hs
      unfold goodSpec at *
      split at hs <;> first | exact hs | exact trivial | (obtain ⟨ao, cap, e, hl, hc⟩ := hs; exact ⟨ao, cap, e, hl.below h (Nat.le_refl _), hc⟩)) ⟨?_, ?_, ?_, ?_, ?_, ?_, ?_, ?_, ?_, trivial⟩ ?_
  · intro xs W hB hp K hK
    rw [if_pos (wanted_none rfl _)]
    go_simp
    exact hK _ _ (Below.refl _ _) rfl
  · intro xs W hB hp K hK
    rw [if_pos (wanted_none rfl _)]
    go_simp
    exact hK _ _ (Below.refl _ _) rfl
  · intro xs W hB hp K hK
    have h1 : xs 1 = .pointer (some ⟨w.heap.size, 35, none⟩) := hp.1 rfl
    have hc : W.cell? ⟨w.heap.size, 35, none⟩ = some (.int .i64 x.f) := (cell_blk ((hB.block _ hlt).trans HA0.out) _).trans x.at35
    clear hp
    rw [if_pos (wanted_none rfl _)]
    simp only [h1] at hK ⊢
    go_simp
    exact hK _ _ (Below.refl _ _) rfl
  · intro xs W hB hp K hK
    rw [if_pos (wanted_none rfl _)]
    exact wp_load_vote _ rfl w.heap.size 0 rfl x (HA.out.same (hB.block _ hlt)) (hK _ _ (Below.refl _ _) rfl)
  · intro xs W hB hp K hK
    have h3 : xs 3 = .agg x.cells := hp.1 rfl
    clear hp
    rw [if_pos (wanted_none rfl _)]
    simp only [h3] at hK ⊢
    go_simp
    refine (voteBody_any x W hx).mono ?_
    rintro e w' ⟨ao, cap, rfl, hl, hc, hB'⟩
    exact hK _ _ hB' ⟨ao, cap, rfl, hl, hc⟩
  · intro xs W hB hp K hK
    rw [if_pos (wanted_none rfl _)]
    go_simp
    exact hK _ _ (Below.refl _ _) rfl
  · intro xs W hB hp K hK
    have h5 : xs 5 = .pointer (some ⟨w.heap.size, 36, none⟩) := hp.1 rfl
    clear hp
    rw [if_pos (wanted_none rfl _)]
    refine wp_load_hash _ rfl w.heap.size 36 ?_ x.tag ?_ (hK _ _ (Below.refl _ _) rfl)
    · show xs 5 = _; exact h5
    · have := (HA.out.same (hB.block _ hlt)).tag
      rwa [Nat.zero_add] at this
  · intro xs W hB hp K hK
    have h0 : xs 0 = pr := hp.1 rfl
    have h2 : xs 2 = .int .i64 x.f := hp.2.1 rfl
    obtain ⟨ao, cap, h4, hl, hc⟩ : ∃ ao cap, xs 4 = .slice ao (vbody x).length cap ∧ Lies W ao (vbody x) ∧ (vbody x).length ≤ cap := hp.2.2.1 rfl
    have h6 : xs 6 = .agg (row .u8 32 x.tag) := hp.2.2.2.1 rfl
    clear hp
    rw [if_pos (wanted_none rfl _)]
    simp only [h0, h2, h4, h6] at hK ⊢
    clear h0 h2 h4 h6
    go_simp
    refine (checkR_any pr R x.f (vbody x) ao cap x.tag W (HR.out.below (hBw.trans (hB.mono hBw.size))) hl hc (by have := vbody_length x; omega)).mono ?_
    rintro e w' ⟨rfl, hB'⟩
    exact hK _ _ hB' rfl
  · intro xs W hB hp K hK
    have h7 : xs 7 = .bool (checkR R x.f (vbody x) x.tag) := hp.1 rfl
    clear hp
    rw [if_pos (wanted_none rfl _)]
    simp only [h7] at hK ⊢
    go_simp
    exact hK _ _ (Below.refl _ _) rfl
  · intro xs W hB hs
    have h8 : xs 8 = .bool (checkR R x.f (vbody x) x.tag) := hs 8 (by simp)
    simp only [h8]
    go_wp2_with fail
    go_ret
    exact ⟨rfl, hBw.trans (hB.mono hBw.size)⟩
end Go.Proofs.Yticpkpphjpgdbaa
