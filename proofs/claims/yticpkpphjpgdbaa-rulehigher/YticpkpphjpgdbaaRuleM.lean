/- RuleMixed's walk. -/
import Derived.Test.YticpkpphjpgdbaaRuleB
namespace Go.Proofs.Yticpkpphjpgdbaa
open Go.RowKit Go.Dig Go.Sha Go.Inv Go.Oct

/-- a row that has no room grows into new memory -/
theorem run_appV_new (w : World) (ty g : Nat) (hg : w.heap[g]? = some (.cells #[] 51 (0, 0))) (ad : Addr) (m c : Nat) (ys : List VoteW) (hm : m = ys.length) (hm0 : 0 < m) (hV : VotesIn w (some ad) c ys) (hb : m ≤ 1000) :
    ∃ v' w', (Builtin.append_ #[23, 23] ty #[.slice (some ⟨g, 0, none⟩) 0 0, .slice (some ad) m c]).run Try.prog w = .ok v' w' ∧ OwnV w' w.heap.size v' ys ∧ Below w.heap.size w w' := by
  have hown : OwnV w g (.slice (some ⟨g, 0, none⟩) 0 0) [] := ⟨rfl, .inr ⟨g, 0, #[], rfl, Nat.le_refl _, hg, Nat.le_refl _, Nat.zero_le _, rfl, rfl⟩⟩
  obtain ⟨v', w', hr, h1, hG⟩ := run_appV w g ty _ [] hown ad m c ys hm hV (by simp; omega) (Nat.le_of_lt (lt_blk hg))
  subst hm
  obtain ⟨i8, hi, hz0, hz1, hz2⟩ := info_parts info_vote
  have hcs : ∀ j u, (votesC ys)[j]? = some u → w.cell? (ad.add j) = some u := fun j u hu => by
    have hj : j < ys.length * 68 := by have := (List.getElem?_eq_some_iff.1 hu).1; rwa [votesC_length] at this
    have hq : j / 68 < ys.length := by omega
    obtain ⟨b, o, e, hv⟩ := hV.at_ (j / 68) hq
    cases e
    have h1 := hv (j % 68) (by omega)
    have h2 := votesC_at ys (j / 68) hq (j % 68) (by omega)
    rw [show j / 68 * 68 + j % 68 = j by omega] at h2
    rw [addr_add, ← hu, h2, ← h1, show o + j = o + j / 68 * 68 + j % 68 by omega]
  have h := run_append_grow (P := Try.prog) w 23 ty 51 i8 (.agg VoteR.zero.cells) (by kernel_rfl) hi hz0 ⟨g, 0, none⟩ 0 0 [] (by simp) (fun j u hu => by simp at hu) ad ys.length c (votesC ys) (by rw [votesC_length, hz1]) hcs (by omega) (by omega) (growslice_fits (by omega) (by rw [hz2]; omega))
  rw [h] at hr
  injection hr with e1 e2
  subst e1 e2
  refine ⟨_, _, h, ?_, (Below.refl _ _).drew.alloc (Nat.le_refl _) _⟩
  rcases h1.2 with ⟨e, _⟩ | ⟨g', cap', cur, e, hb', hgg, rest⟩
  · cases e
  · refine ⟨h1.1, .inr ⟨g', cap', cur, e, ?_, hgg, rest⟩⟩
    injection e with e1
    injection e1 with e1
    injection e1 with e1
    rw [← e1]; exact Nat.le_refl _
theorem slice_votes_h (g len cap k : Nat) (w : World) (h : k ≤ cap) : (Instr.slice 23 (.slice (some ⟨g, 0, none⟩) len cap) none (some (.int .i64 (k : Int))) none).run Try.prog w = .ok (.slice (some ⟨g, 0, none⟩) k cap) w := by
  have hs : (sizeOf 51).run Try.prog w = .ok 68 w := by kernel_rfl
  have he : Try.prog.elem 23 = 51 := by kernel_rfl
  rw [run_slice_h w 23 (some ⟨g, 0, none⟩) len cap (by kernel_rfl) .i64 _ (by omega) (by omega), he, hs]
  by_cases hn : cap = 0
  · subst hn
    obtain rfl : k = 0 := by omega
    simp [sliced]
  · simp [sliced, addr_add, hn]
theorem slice_votes_l (g len cap k : Nat) (w : World) (h : k ≤ len) (hc : k < cap) : (Instr.slice 23 (.slice (some ⟨g, 0, none⟩) len cap) (some (.int .i64 (k : Int))) none none).run Try.prog w = .ok (.slice (some ⟨g, k * 68, none⟩) (len - k) (cap - k)) w := by
  have hs : (sizeOf 51).run Try.prog w = .ok 68 w := by kernel_rfl
  have he : Try.prog.elem 23 = 51 := by kernel_rfl
  rw [run_slice_l w 23 (some ⟨g, 0, none⟩) len cap (by kernel_rfl) .i64 _ (by omega) (by omega), he, hs]
  have hn : ¬ cap = k := by omega
  simp [sliced, addr_add, hn]
section
variable {ops : Array Oper} {rest : List Oper} {o : Oper} {a : Act} {w : World} {Q : Exit → Act → World → Prop}
/-- the same append, behind a guard -/
theorem wpList_appG (hw : Region.wanted o (yielded ops a.tmps) = true) (s x : Operand) (ho : o.op = .call { callee := .builtin .append, args := #[s, x], argTypes := #[22, 22] }) (base : Nat) (v : Value) (L : List Int) (hs : a.eval s = v) (hown : OwnB w base v L)
    (ao : Option Addr) (m c : Nat) (N : List Int) (hx : a.eval x = .slice ao m c) (hm : m = N.length) (hN : Rowed w ao N c) (hb : L.length + m < 2199023255552) (hbase : base ≤ w.heap.size)
    (h : ∀ v' w', Hid (OwnB w' base v' (L ++ N)) → Hid (Gr w w' v v') → wpList Try.prog ops Q rest (a.put o.dst v') w') : wpList Try.prog ops Q (o :: rest) a w := by
  refine wpList_by hw fun K hK' => ?_
  rcases hN with ⟨rfl, rfl, rfl⟩ | ⟨ad, rfl, hc⟩
  · subst hm
    obtain ⟨i8, hi, hz0, hz1, hz2⟩ := info_parts info_u8
    have hrun := run_append_owned_none (P := Try.prog) w base 22 o.type 5 i8 1 (by kernel_rfl) hi v L.length (L.map (Value.int .u8)) hown
    unfold Oper.wp
    simp [execOp, ho, resolve, invoke, builtin, hs, hx, hrun, Result.andThen]
    exact hK' _ _ (h v w (by rw [List.append_nil]; exact hown) (Gr.refl _ _))
  · obtain ⟨v', w', hrun, h1, h2⟩ := run_app w base o.type v L hown ad m c N hm hc hb hbase
    unfold Oper.wp
    simp [execOp, ho, resolve, invoke, builtin, hs, hx, hrun, Result.andThen]
    exact hK' _ _ (h v' w' h1 h2)
end
theorem VotesIn.take {w : World} {ao : Option Addr} {cap : Nat} {ys : List VoteW} (h : VotesIn w ao cap ys) (k : Nat) : VotesIn w ao cap (ys.take k) :=
  ⟨Nat.le_trans (by rw [List.length_take]; omega) h.le, h.big, h.nil, fun j hj => by
    rw [List.length_take] at hj
    rw [List.getElem_take]
    exact h.at_ j (by omega)⟩
theorem VotesIn.drop {w : World} {b : Nat} {cap : Nat} {ys : List VoteW} (h : VotesIn w (some ⟨b, 0, none⟩) cap ys) (k : Nat) (hk : k ≤ ys.length) : VotesIn w (some ⟨b, k * 68, none⟩) (cap - k) (ys.drop k) :=
  ⟨by rw [List.length_drop]; have := h.le; omega, Nat.le_trans (Nat.sub_le _ _) h.big, (fun e => by cases e), fun j hj => by
    rw [List.length_drop] at hj
    rw [List.getElem_drop]
    obtain ⟨b', o, e, hv⟩ := h.at_ (k + j) (by omega)
    cases e
    exact ⟨b, k * 68, rfl, by rwa [show k * 68 + j * 68 = 0 + (k + j) * 68 by omega]⟩⟩
theorem OwnV.some {w : World} {base : Nat} {v : Value} {zs : List VoteW} (h : OwnV w base v zs) (hz : 0 < zs.length) : ∃ g cap, v = .slice (some ⟨g, 0, none⟩) zs.length cap ∧ VotesIn w (some ⟨g, 0, none⟩) cap zs ∧ base ≤ g ∧ g < w.heap.size := by
  have hlt := h.lt
  have hf := h.form
  rcases h.2 with ⟨_, h0⟩ | ⟨g, cap, cur, rfl, hb, hgg, rest⟩
  · omega
  · obtain ⟨ao, c, e, hv⟩ := hf
    injection e with e1 e2 e3
    subst e1 e3
    exact ⟨g, cap, rfl, hv, hb, lt_blk hgg⟩
theorem mixed_none (view : Int) (P : List Int) (b : Bd 1 1 view) (b' : Bd 1 1 (view + 1)) (k : Nat) (h1 : 1 ≤ k) (h2 : k ≤ 2) : provesR ring4 ((pvL 1 1 view P b 4).take k ++ (pvL 1 1 (view + 1) P b' 4).drop k) 1 9 P = none := by
  have e0 : (pvL 1 1 view P b 4).take k = pvL 1 1 view P b k := by unfold pvL; rw [← List.map_take, List.take_range]; congr 2; omega
  have hm : meetsR ring4 ((pvL 1 1 view P b 4).take k ++ (pvL 1 1 (view + 1) P b' 4).drop k) 1 1 view (sha P) = false := by
    have ht : toldL 1 1 view (sha P) ((pvL 1 1 view P b 4).take k ++ (pvL 1 1 (view + 1) P b' 4).drop k) = pvL 1 1 view P b k := by
      unfold toldL
      rw [List.take_of_length_le (by rw [List.length_append, List.length_take, List.length_drop, pvL_length, pvL_length]; omega), List.filter_append, e0]
      have f1 : (pvL 1 1 view P b k).filter (fun x => askedB 1 1 view (sha P) x.1) = pvL 1 1 view P b k := by
        rw [List.filter_eq_self]
        intro x hx
        unfold pvL at hx
        obtain ⟨i, -, rfl⟩ := List.mem_map.1 hx
        exact pv_asked 1 1 view P b i
      have f2 : ((pvL 1 1 (view + 1) P b' 4).drop k).filter (fun x => askedB 1 1 view (sha P) x.1) = [] := by
        rw [List.filter_eq_nil_iff]
        intro x hx
        have hx := List.mem_of_mem_drop hx
        unfold pvL at hx
        obtain ⟨i, -, rfl⟩ := List.mem_map.1 hx
        rw [pv_not 1 1 (view + 1) P b' i (sha P) (fun e => by omega)]; simp
      rw [f1, f2, List.append_nil]
    rw [meets_len (m := k) (by rw [ht, who_pvL _ _ _ _ _ (by omega)])]
    exact decide_eq_false (by omega)
  obtain ⟨k, rfl⟩ : ∃ j, k = j + 1 := ⟨k - 1, by omega⟩
  rw [e0] at hm ⊢
  rw [pvL_cons, List.cons_append] at hm ⊢
  rw [provesR_cons, show (pv 1 1 view P b 0).1.v = view from rfl, hm]
  simp
/-- what the line that mixes leaves, operation by operation -/
def mixSpec (g1 c1 g2 c2 k base : Nat) (l : List VoteW) : Nat → Value → World → Prop
  | 0, y, W => ∃ g, y = .slice (some ⟨g, 0, none⟩) 0 0 ∧ W.heap[g]? = some (.cells #[] 51 (0, 0))
  | 1, y, _ => y = .slice (some ⟨g1, 0, none⟩) 4 c1
  | 2, y, _ => y = .int .i64 (k : Int)
  | 3, y, _ => y = .slice (some ⟨g1, 0, none⟩) k c1
  | 4, y, W => OwnV W base y (l.take k)
  | 5, y, _ => y = .slice (some ⟨g2, 0, none⟩) 4 c2
  | 6, y, _ => y = .int .i64 (k : Int)
  | 7, y, _ => y = .slice (some ⟨g2, k * 68, none⟩) (4 - k) (c2 - k)
  | _, _, _ => True
section
variable {o : Oper} {a : Act} {w : World} {Q : Exit → Act → World → Prop} {K : Act → World → Prop}
theorem wp_appV_new (s x : Operand) (ho : o.op = .call { callee := .builtin .append, args := #[s, x], argTypes := #[23, 23] }) (g : Nat) (hs : a.eval s = .slice (some ⟨g, 0, none⟩) 0 0) (hg : w.heap[g]? = some (.cells #[] 51 (0, 0))) (ad : Addr) (m c : Nat) (ys : List VoteW) (hx : a.eval x = .slice (some ad) m c) (hm : m = ys.length) (hm0 : 0 < m) (hV : VotesIn w (some ad) c ys) (hb : m ≤ 1000)
    (h : ∀ v' w', OwnV w' w.heap.size v' ys → Below w.heap.size w w' → K (a.put o.dst v') w') : o.wp Try.prog a w K Q := by
  obtain ⟨v', w', hrun, h1, h2⟩ := run_appV_new w o.type g hg ad m c ys hm hm0 hV hb
  unfold Oper.wp
  simp [execOp, ho, resolve, invoke, builtin, hs, hx, hrun, Result.andThen]
  exact h v' w' h1 h2
theorem wp_appV (s x : Operand) (ho : o.op = .call { callee := .builtin .append, args := #[s, x], argTypes := #[23, 23] }) (base : Nat) (v : Value) (zs : List VoteW) (hs : a.eval s = v) (ad : Addr) (m c : Nat) (ys : List VoteW) (hx : a.eval x = .slice (some ad) m c) (hm : m = ys.length) (hown : OwnV w base v zs) (hV : VotesIn w (some ad) c ys) (hb : zs.length + m ≤ 1000) (hbase : base ≤ w.heap.size)
    (h : ∀ v' w', OwnV w' base v' (zs ++ ys) → Gr w w' v v' → K (a.put o.dst v') w') : o.wp Try.prog a w K Q := by
  obtain ⟨v', w', hrun, h1, h2⟩ := run_appV w base o.type v zs hown ad m c ys hm hV hb hbase
  unfold Oper.wp
  simp [execOp, ho, resolve, invoke, builtin, hs, hx, hrun, Result.andThen]
  exact h v' w' h1 h2
end
set_option maxRecDepth 10000 in
set_option maxHeartbeats 8000000 in
theorem ruleMixed_in (view : Int) (P : List Int) (ao : Option Addr) (cap k : Nat) (w : World) (v0 : 0 ≤ view) (v1 : view ≤ 7) (hP : P.length ≤ 100) (k1 : 1 ≤ k) (k2 : k ≤ 2) (hl : Lies w ao P) (hc : P.length ≤ cap) (hr : Rowed w ao P cap) (yP : BytesL P) :
    Calls Try.prog 8 #[.int .i64 view, .slice ao P.length cap, .int .i64 (k : Int)] w fun x w' => x = .returned (.bool true) ∧ Below w.heap.size w w' := by
  have e0 : ¬ (view < 0) := by omega
  have e1 : ¬ (7 < view) := by omega
  have e2 : ¬ ((100 : Int) < (P.length : Int)) := by omega
  have e3 : ¬ ((k : Int) < 1) := by omega
  have e4 : ¬ ((2 : Int) < (k : Int)) := by omega
  have ba : Bd 1 1 view := bd_in (by decide) (by decide) v0 (by omega) 1 (by decide) (by decide)
  have bb : Bd 1 1 (view + 1) := bd_in (by decide) (by decide) (by omega) (by omega) 1 (by decide) (by decide)
  have HL : Hid (Lies w ao P) := hl
  have HRw : Hid (Rowed w ao P cap) := hr
  have HP1 : Hid _ := mixed_none view P ba bb k k1 k2
  clear hl hr
  go_enter Try.func8, Try.ntmps8
  go_wp2_with (refine wpList_build_to rfl 30 _ rfl (row .u8 32 (oneF 1)) (by kernel_rfl) ?_)
  refine (sNew_any 4 (oneF 1) _ (by decide) (by decide)).mono ?_
  rintro x w1 ⟨rg, rfl, hrg, hR, hB1⟩
  rw [show nodesOf 4 = 4 by decide] at hR
  have HR : Hid (RingV w1 (.pointer (some ⟨rg, 0, none⟩)) ring4) := ⟨rg, rfl, hR⟩
  clear hR
  go_wp2_with (refine wpList_build_to rfl 30 _ rfl (row .u8 32 (oneF 1)) (by kernel_rfl) ?_)
  refine (rNew_any 4 (oneF 1) w1 (by decide) (by decide)).mono ?_
  rintro x w2 ⟨xg, rfl, hxg, hX, hB2⟩
  rw [show nodesOf 4 = 4 by decide] at hX
  have HX : Hid (RRing w2 xg (oneF 1) 4) := hX
  have HR2 : Hid (RingV w2 (.pointer (some ⟨rg, 0, none⟩)) ring4) := HR.out.below hB2
  have hBw2 : Below w.heap.size w w2 := hB1.trans (hB2.mono hB1.size)
  clear hX HR hB1 hB2
  go_wp2_with fail
  refine (votes7_any xg 4 1 view P ao cap w2 ba HX.out (HRw.out.below hBw2 (Nat.le_refl _)) (by omega)).mono ?_
  rintro x w3 ⟨v, rfl, hO, hB3⟩
  rw [show (min (4 : Int) 4).toNat = 4 by decide] at hO
  have hBw3 : Below w.heap.size w w3 := hBw2.trans (hB3.mono hBw2.size)
  have HX3 : Hid (RRing w3 xg (oneF 1) 4) := HX.out.below hB3
  obtain ⟨g1, c1, rfl, hV1, -, -⟩ := hO.some (by rw [pvL_length]; decide)
  rw [pvL_length]
  have HR3 : Hid (RingV w3 (.pointer (some ⟨rg, 0, none⟩)) ring4) := HR2.out.below hB3
  have HV1 : Hid (VotesIn w3 (some ⟨g1, 0, none⟩) c1 (pvL 1 1 view P ba 4)) := hV1
  clear hO hV1 hB3 HX HR2 hBw2
  go_wp2_with fail
  refine (votes7_any xg 4 1 (view + 1) P ao cap w3 bb HX3.out (HRw.out.below hBw3 (Nat.le_refl _)) (by omega)).mono ?_
  rintro x w4 ⟨v, rfl, hO, hB4⟩
  rw [show (min (4 : Int) 4).toNat = 4 by decide] at hO
  have hBw4 : Below w.heap.size w w4 := hBw3.trans (hB4.mono hBw3.size)
  obtain ⟨g2, c2, rfl, hV2, -, -⟩ := hO.some (by rw [pvL_length]; decide)
  rw [pvL_length]
  have HR4 : Hid (RingV w4 (.pointer (some ⟨rg, 0, none⟩)) ring4) := HR3.out.below hB4
  have HV1' : Hid (VotesIn w4 (some ⟨g1, 0, none⟩) c1 (pvL 1 1 view P ba 4)) := HV1.out.below hB4
  have HV2 : Hid (VotesIn w4 (some ⟨g2, 0, none⟩) c2 (pvL 1 1 (view + 1) P bb 4)) := hV2
  have hc1 : 4 ≤ c1 := by have := HV1.out.le; rwa [pvL_length] at this
  have hc2 : 4 ≤ c2 := by have := HV2.out.le; rwa [pvL_length] at this
  clear hO hV2 hB4 HX3 HR3 hBw3 HV1
  go_wp2_with fail
  have hk4 : k ≤ 4 := by omega
  have hsl1 : ∀ W : World, (Instr.slice 23 (.slice (some ⟨g1, 0, none⟩) 4 c1) none (some (.int .i64 (k : Int))) none).run Try.prog W = .ok (.slice (some ⟨g1, 0, none⟩) k c1) W := fun W => slice_votes_h g1 4 c1 k W (by omega)
  have hsl2 : ∀ W : World, (Instr.slice 23 (.slice (some ⟨g2, 0, none⟩) 4 c2) (some (.int .i64 (k : Int))) none none).run Try.prog W = .ok (.slice (some ⟨g2, k * 68, none⟩) (4 - k) (c2 - k)) W := fun W => slice_votes_l g2 4 c2 k W (by omega) (by omega)
  refine wp_region_pivot (by kernel_rfl) (by kernel_rfl) 8 (by decide) (by kernel_rfl) (by kernel_rfl) (fun xs => { tmps := (Value.int IntKind.i64 view :: Value.slice ao P.length cap :: Value.int IntKind.i64 (k : Int) :: undef :: undef :: undef :: Value.bool false :: Value.pointer (some (⟨rg, 0, none⟩ : Addr)) :: Value.pointer (some (⟨xg, 0, none⟩ : Addr)) :: Value.slice (some (⟨g1, 0, none⟩ : Addr)) 4 c1 :: Value.slice (some (⟨g2, 0, none⟩ : Addr)) 4 c2 :: xs 9 :: undef :: undef :: Value.int IntKind.i64 view :: Value.bool false :: Value.bool false :: Value.int IntKind.i64 view :: Value.bool false :: Value.bool false :: Value.bool false :: Value.slice ao P.length cap :: Value.int IntKind.i64 (P.length : Int) :: Value.bool false :: Value.bool false :: Value.bool false :: Value.int IntKind.i64 (k : Int) :: Value.bool false :: Value.bool false :: Value.bool false :: Value.int IntKind.i64 (k : Int) :: Value.bool false :: Value.bool false :: Value.agg (row IntKind.u8 32 (oneF 1)) :: Value.pointer (some (⟨rg, 0, none⟩ : Addr)) :: Value.agg (row IntKind.u8 32 (oneF 1)) :: Value.pointer (some (⟨xg, 0, none⟩ : Addr)) :: Value.pointer (some (⟨rg, 0, none⟩ : Addr)) :: Value.bool false :: Value.pointer (some (⟨xg, 0, none⟩ : Addr)) :: Value.int IntKind.i64 view :: Value.slice ao P.length cap :: Value.slice (some (⟨g1, 0, none⟩ : Addr)) 4 c1 :: Value.pointer (some (⟨xg, 0, none⟩ : Addr)) :: Value.int IntKind.i64 view :: Value.int IntKind.i64 (view + 1) :: Value.slice ao P.length cap :: Value.slice (some (⟨g2, 0, none⟩ : Addr)) 4 c2 :: xs 0 :: xs 1 :: xs 2 :: xs 3 :: xs 4 :: xs 5 :: xs 6 :: xs 7 :: xs 8 :: undef :: undef :: undef :: undef :: undef :: undef :: undef :: undef :: undef :: undef :: undef :: undef :: undef :: undef :: undef :: undef :: undef :: undef :: undef :: undef :: undef :: undef :: undef :: undef :: undef :: undef :: undef :: []).toArray, defers := [] })
    (mixSpec g1 c1 g2 c2 k w4.heap.size (pvL 1 1 view P ba 4)) (fun li xs W => Below w4.heap.size w4 W ∧ OwnV W w4.heap.size (xs 8) ((pvL 1 1 view P ba 4).take k ++ (pvL 1 1 (view + 1) P bb 4).drop k) ∧ (li 9 = true → xs 9 = xs 8)) (fun _ => undef) (by repeat (first | exact trivial | refine ⟨fun _ _ => rfl, ?_⟩))
    (by
      intro i y w w' h hs
      unfold mixSpec at *
      split at hs <;> first | exact hs | exact trivial | exact OwnV.below hs h | (obtain ⟨g, e, hl⟩ := hs; exact ⟨g, e, (h.block g (lt_blk hl)).trans hl⟩)) ⟨?_, ?_, ?_, ?_, ?_, ?_, ?_, ?_, ⟨rfl, ?_⟩, ?_, trivial⟩ ?_
  · intro xs W hB hp K hK
    rw [if_pos (wanted_none rfl _)]
    go_simp
    exact hK _ _ (below_alloc _ _) ⟨_, rfl, alloc_blk _ _⟩
  · intro xs W hB hp K hK
    rw [if_pos (wanted_none rfl _)]
    go_simp
    exact hK _ _ (Below.refl _ _) rfl
  · intro xs W hB hp K hK
    rw [if_pos (wanted_none rfl _)]
    go_simp
    exact hK _ _ (Below.refl _ _) rfl
  · intro xs W hB hp K hK
    have h1 : xs 1 = .slice (some ⟨g1, 0, none⟩) 4 c1 := hp.1 rfl
    have h2 : xs 2 = .int .i64 (k : Int) := hp.2.1 rfl
    clear hp
    rw [if_pos (wanted_none rfl _)]
    simp only [h1, h2] at hK ⊢
    go_simp
    exact hK _ _ (Below.refl _ _) rfl
  · intro xs W hB hp K hK
    obtain ⟨g, h0, hg⟩ : ∃ g, xs 0 = .slice (some ⟨g, 0, none⟩) 0 0 ∧ W.heap[g]? = some (.cells #[] 51 (0, 0)) := hp.1 rfl
    have h3 : xs 3 = .slice (some ⟨g1, 0, none⟩) k c1 := hp.2.1 rfl
    rw [if_pos (wanted_none rfl _)]
    refine wp_appV_new _ _ rfl g h0 hg ⟨g1, 0, none⟩ k c1 ((pvL 1 1 view P ba 4).take k) h3 (by rw [List.length_take, pvL_length]; omega) (by omega) ((HV1'.out.below hB).take k) (by omega) (fun v' w' h4 h5 => hK _ _ h5 (h4.mono hB.size))
  · intro xs W hB hp K hK
    rw [if_pos (wanted_none rfl _)]
    go_simp
    exact hK _ _ (Below.refl _ _) rfl
  · intro xs W hB hp K hK
    rw [if_pos (wanted_none rfl _)]
    go_simp
    exact hK _ _ (Below.refl _ _) rfl
  · intro xs W hB hp K hK
    have h1 : xs 5 = .slice (some ⟨g2, 0, none⟩) 4 c2 := hp.1 rfl
    have h2 : xs 6 = .int .i64 (k : Int) := hp.2.1 rfl
    clear hp
    rw [if_pos (wanted_none rfl _)]
    simp only [h1, h2] at hK ⊢
    go_simp
    exact hK _ _ (Below.refl _ _) rfl
  · intro li xs W hB hs hli K hK
    have h7 : xs 7 = .slice (some ⟨g2, k * 68, none⟩) (4 - k) (c2 - k) := hs 7 (by decide)
    have h4 : OwnV W w4.heap.size (xs 4) ((pvL 1 1 view P ba 4).take k) := hs 4 (by decide)
    refine wp_appV _ _ rfl w4.heap.size (xs 4) _ rfl ⟨g2, k * 68, none⟩ (4 - k) (c2 - k) ((pvL 1 1 (view + 1) P bb 4).drop k) h7 (by rw [List.length_drop, pvL_length]) h4 ((HV2.out.below hB).drop k (by rw [pvL_length]; omega)) (by rw [List.length_take, pvL_length]; omega) hB.size (fun v' w' h1 h2 => hK _ _ ⟨hB.trans (h2.below hB.size (fun q hq => (h4.lt q hq).1)), h1, fun e => ?_⟩)
    rw [upd_other _ _ (by decide), hli 9 (by decide)] at e; cases e
  · intro li xs W hF hli hp K hK
    rw [if_pos (wanted_none rfl _)]
    go_simp
    exact hK _ _ ⟨hF.1, hF.2.1, fun _ => rfl⟩
  · rintro li xs W ⟨hB, hO, he⟩ hall
    have h9 := he (hall 9 (by decide))
    simp only [h9]
    obtain ⟨zs, hzs⟩ : ∃ zs, (pvL 1 1 view P ba 4).take k ++ (pvL 1 1 (view + 1) P bb 4).drop k = zs := ⟨_, rfl⟩
    rw [hzs] at hO
    obtain ⟨la, lc, h8, hVin⟩ := hO.form
    have HV : Hid (VotesIn W la lc zs) := hVin
    have HP2 : Hid (provesR ring4 zs 1 9 P = none) := by have := HP1.out; rw [hzs] at this; exact this
    have HRW : Hid (RingV W (.pointer (some ⟨rg, 0, none⟩)) ring4) := HR4.out.below hB
    have hBW : Below w.heap.size w W := hBw4.trans (hB.mono hBw4.size)
    have HLW : Hid (Lies W ao P) := HL.out.below hBW (Nat.le_refl _)
    have HRR : Hid (Rowed W ao P cap) := HRw.out.below hBW (Nat.le_refl _)
    simp only [h8]
    clear h9 h8 he hO hall hVin hzs HP1 HR4 hBw4 HV1' HV2 hB hsl1 hsl2 HL HRw
    go_wp2_with fail
    refine (proves_any _ ring4 la lc zs 1 9 P ao cap W HRW.out (by decide) HV.out HLW.out hc (by omega)).mono ?_
    rintro x w5 ⟨rfl, hB5⟩
    rw [HP2.out]
    have HR5 : Hid (RingV w5 (.pointer (some ⟨rg, 0, none⟩)) ring4) := HRW.out.below hB5
    have HV5 : Hid (VotesIn w5 la lc zs) := HV.out.below hB5
    have HL5 : Hid (Lies w5 ao P) := HLW.out.below hB5 (Nat.le_refl _)
    have HRR5 : Hid (Rowed w5 ao P cap) := HRR.out.below hB5 (Nat.le_refl _)
    have hBw5 : Below w.heap.size w w5 := hBW.trans (hB5.mono hBW.size)
    clear hB5 HRW HV HLW HRR hBW
    simp only [provedV, Option.getD_none, Option.isSome_none]
    have HO6 : Hid (OwnB (w5.alloc (.cells #[.int .u8 1] 5)) w5.heap.size (.slice (some ⟨w5.heap.size, 0, none⟩) 1 1) [1]) := ⟨rfl, .inr ⟨w5.heap.size, 1, _, rfl, Nat.le_refl _, alloc_blk _ _, Nat.le_refl _, by unfold maxLen; omega, rfl, rfl⟩⟩
    have HRR6 : Hid (Rowed (w5.alloc (.cells #[.int .u8 1] 5)) ao P cap) := HRR5.out.below (below_alloc _ _) (Nat.le_refl _)
    have HS6 : Hid (w5.heap.size ≤ (w5.alloc (.cells #[.int .u8 1] 5)).heap.size) := by show _ ≤ (w5.heap.push _).size; simp
    go_wp2_with (at_builtin; refine wpList_appG ?_ _ _ rfl w5.heap.size (.slice (some ⟨w5.heap.size, 0, none⟩) 1 1) [1] ?_ HO6.out ao P.length cap P ?_ ?_ HRR6.out ?_ HS6.out ?_; kernel_rfl; rfl; rfl; rfl; (simp; omega))
    intro v6 w6 HO7 HG7
    obtain ⟨va, vn, vc, rfl, HF7⟩ := HO7.out.form
    have hB56 : Below w5.heap.size w5 w6 := (below_alloc _ _).trans (HG7.out.below HS6.out (fun q hq => (HO6.out.lt q hq).1))
    have HR6 : Hid (RingV w6 (.pointer (some ⟨rg, 0, none⟩)) ring4) := HR5.out.below hB56
    have HV6 : Hid (VotesIn w6 la lc zs) := HV5.out.below hB56
    have HL6 : Hid (Lies w6 ao P) := HL5.out.below hB56 (Nat.le_refl _)
    have HRR7 : Hid (Rowed w6 ao P cap) := HRR5.out.below hB56 (Nat.le_refl _)
    have hBw6 : Below w.heap.size w w6 := hBw5.trans (hB56.mono hBw5.size)
    have HM : Hid (mayR ring4 0 ([1] ++ P) 1 9 P zs = false) := by
      show _ = _
      unfold mayR
      rw [HP2.out, decide_eq_false (show ¬ [1] ++ P = P from fun e => by have := congrArg List.length e; simp at this), decide_eq_false (show ¬ (0 : Int) = -1 by decide)]
      rfl
    have HY : Hid (BytesL ([1] ++ P)) := fun y hy => by
      rcases List.mem_append.1 hy with h | h
      · rw [List.mem_singleton] at h; subst h; exact ⟨by decide, by decide⟩
      · exact yP y h
    clear hB56 HR5 HV5 HL5 HRR5 hBw5 HO7 HG7 HO6 HRR6 HS6 HP2
    go_wp2_with fail
    obtain ⟨hvn, hvc, hvR⟩ := HF7.out
    subst hvn
    refine (may_any _ ring4 0 ([1] ++ P) va vc (.slice none 0 0) 1 9 P ao cap la lc zs w6 HR6.out (by decide) HV6.out hvR HRR7.out HL6.out hc (by omega) HY.out yP ⟨_, _, _, rfl⟩).mono ?_
    rintro x w7 ⟨rfl, hB7⟩
    rw [HM.out]
    have hBw7 : Below w.heap.size w w7 := hBw6.trans (hB7.mono hBw6.size)
    clear hB7 HR6 HV6 HL6 HRR7 hBw6 HM HY hvR HF7
    go_wp2_with fail
    refine (known7_any w7).mono ?_
    rintro x w8 ⟨rfl, hB8⟩
    have hBw8 : Below w.heap.size w w8 := hBw7.trans (hB8.mono hBw7.size)
    clear hB8 hBw7
    go_wp2_with fail
    go_ret
    exact ⟨rfl, hBw8⟩
set_option maxRecDepth 10000 in
set_option maxHeartbeats 4000000 in
theorem ruleMixed_any (view : Int) (P : List Int) (ao : Option Addr) (cap : Nat) (n : Int) (w : World) (hl : Lies w ao P) (hc : P.length ≤ cap) (hr : Rowed w ao P cap) (yP : BytesL P) :
    Calls Try.prog 8 #[.int .i64 view, .slice ao P.length cap, .int .i64 n] w fun x w' => x = .returned (.bool true) ∧ Below w.heap.size w w' := by
  by_cases z0 : view < 0
  · go_enter Try.func8, Try.ntmps8
    go_wp2_with fail
    go_ret
    exact ⟨rfl, Below.refl _ _⟩
  by_cases z1 : 7 < view
  · go_enter Try.func8, Try.ntmps8
    go_wp2_with fail
    go_ret
    exact ⟨rfl, Below.refl _ _⟩
  by_cases z2 : (100 : Int) < (P.length : Int)
  · go_enter Try.func8, Try.ntmps8
    go_wp2_with fail
    go_ret
    exact ⟨rfl, Below.refl _ _⟩
  by_cases z3 : n < 1
  · go_enter Try.func8, Try.ntmps8
    go_wp2_with fail
    go_ret
    exact ⟨rfl, Below.refl _ _⟩
  by_cases z4 : 2 < n
  · go_enter Try.func8, Try.ntmps8
    go_wp2_with fail
    go_ret
    exact ⟨rfl, Below.refl _ _⟩
  obtain ⟨m, rfl⟩ : ∃ m : Nat, n = (m : Int) := ⟨n.toNat, by omega⟩
  exact ruleMixed_in view P ao cap m w (by omega) (by omega) (by omega) (by omega) (by omega) hl hc hr yP
end Go.Proofs.Yticpkpphjpgdbaa
