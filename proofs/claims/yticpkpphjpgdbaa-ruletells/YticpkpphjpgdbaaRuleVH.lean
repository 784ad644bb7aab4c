/- rule's Higher: the later one of two locks, each at the view that its votes prove. For every ring and locks of up to a thousand votes. -/
import Derived.Test.YticpkpphjpgdbaaRuleA
import Derived.Test.YticpkpphjpgdbaaRefP
import Derived.Test.YticpkpphjpgdbaaCertO
import Derived.Test.YticpkpphjpgdbaaRefLaw
import Derived.Test.YticpkpphjpgdbaaInv4
namespace Go.Proofs.Yticpkpphjpgdbaa
open Go.RowKit Go.Dig Go.Sha Go.Inv Go.Oct

abbrev Bd (k s v : Int) : Prop := inI k ∧ inI s ∧ inI v
theorem inI_small {n : Nat} (h : n < 1000) : inI (n : Int) := ⟨by omega, by omega⟩
/-- node i's vote -/
def pv (k s v : Int) (P : List Int) (b : Bd k s v) (i : Nat) : VoteW := castW ring4 k s v (sha P) ((i % 4 : Nat) : Int) b.1 b.2.1 b.2.2 (inI_small (by omega))
def pvL (k s v : Int) (P : List Int) (b : Bd k s v) (m : Nat) : List VoteW := (List.range m).map (pv k s v P b)
theorem pvL_succ (k s v : Int) (P : List Int) (b : Bd k s v) (m : Nat) : pvL k s v P b (m + 1) = pvL k s v P b m ++ [pv k s v P b m] := by simp [pvL, List.range_succ]
theorem pvL_length (k s v : Int) (P : List Int) (b : Bd k s v) (m : Nat) : (pvL k s v P b m).length = m := by simp [pvL]
theorem pv_cast (s v : Int) (P : List Int) (b : Bd 1 s v) {i : Nat} (h : i < 4) : castR ring4 1 s v (sha P) (i : Int) = (pv 1 s v P b i).1 := by
  show _ = castR ring4 1 s v (sha P) ((i % 4 : Nat) : Int)
  rw [Nat.mod_eq_of_lt h]
set_option maxRecDepth 10000 in
set_option maxHeartbeats 2000000 in
theorem votes7_any (rg : Nat) (n slot view : Int) (P : List Int) (ao : Option Addr) (cap : Nat) (w : World) (b : Bd 1 slot view) (hx : RRing w rg (oneF 1) 4) (hP : Rowed w ao P cap) (hz : P.length < 274877906944) :
    Calls Try.prog 22 #[.pointer (some ⟨rg, 0, none⟩), .int .i64 n, .int .i64 slot, .int .i64 view, .slice ao P.length cap] w fun e w' => ∃ v, e = .returned v ∧ OwnV w' w.heap.size v (pvL 1 slot view P b (min n 4).toNat) ∧ Below w.heap.size w w' := by
  have HX : Hid (RRing w rg (oneF 1) 4) := hx
  have HP : Hid (Rowed w ao P cap) := hP
  obtain ⟨m, hm⟩ : ∃ m, (min n 4).toNat = m := ⟨_, rfl⟩
  rw [hm]
  clear hx hP
  go_enter Try.func22, Try.ntmps22
  go_wp2_with fail
  go_loopw [11, 12] (fun lv iv wr => ∃ i : Nat, i ≤ m ∧ iv = .int .i64 (i : Int) ∧ OwnV wr w.heap.size lv (pvL 1 slot view P b i) ∧ Below w.heap.size w wr) (fun _ iv _ => m - (intOf iv).toNat)
  case atStart => exact ⟨0, Nat.zero_le _, rfl, OwnV.nil _ _, Below.refl _ _⟩
  case round =>
    obtain ⟨i, hi, rfl, hO, hB⟩ := hrel
    by_cases hlt : i < m
    · have hin : (i : Int) < n := by omega
      have hi4 : (i : Int) < 4 := by omega
      have hi4' : i < 4 := by omega
      have hll := pvL_length 1 slot view P b i
      obtain ⟨la, lc, rfl, -⟩ := hO.form
      have HLL : Hid ((pvL 1 slot view P b i).length + 1 ≤ 1000) := by show _ ≤ _; omega
      clear hll
      obtain ⟨zs, hzs⟩ : ∃ zs, pvL 1 slot view P b i = zs := ⟨_, rfl⟩
      rw [hzs] at hO HLL ⊢
      have HZS : Hid (pvL 1 slot view P b i = zs) := hzs
      clear hzs
      obtain ⟨ll, hll⟩ : ∃ ll, zs.length = ll := ⟨_, rfl⟩
      rw [hll] at hO ⊢
      clear hll
      have HO0 : Hid (OwnV wr w.heap.size (.slice la ll lc) zs) := hO
      clear hO
      go_wp2_with fail
      refine (rValueSum_any P ao cap wr (HP.out.below hB (Nat.le_refl _)) hz).mono ?_
      rintro e w1 ⟨rfl, hB1⟩
      have hBw1 : Below w.heap.size w w1 := hB.trans (hB1.mono hB.size)
      go_wp2_with fail
      refine (rCast_any rg 4 (oneF 1) 1 slot view (sha P) (i : Int) w1 (HX.out.below hBw1) b.1 b.2.1 b.2.2 (inI_small (by omega))).mono ?_
      rintro x w2 ⟨rfl, hB2⟩
      rw [show castR (some (oneF 1, 4)) 1 slot view (sha P) (i : Int) = (pv 1 slot view P b i).1 from pv_cast slot view P b hi4']
      obtain ⟨z, hz⟩ : ∃ z, pv 1 slot view P b i = z := ⟨_, rfl⟩
      rw [hz]
      have HZ : Hid (pv 1 slot view P b i = z) := hz
      have hB3 : Below w.heap.size w w2 := hBw1.trans (hB2.mono hBw1.size)
      have HO : Hid (OwnV (w2.alloc (.cells (rowV [z.1]) 51)) w.heap.size (.slice la ll lc) zs) := ((HO0.out.below hB1).below hB2).alloc _
      have HV : Hid (VotesIn (w2.alloc (.cells (rowV [z.1]) 51)) (some ⟨w2.heap.size, 0, none⟩) 1 [z]) := rowV_in (zs := [z]) (alloc_blk w2 (.cells (rowV [z.1]) 51)) (by simp)
      have hsz := hB3.size
      have HS : Hid (w.heap.size ≤ (w2.alloc (.cells (rowV [z.1]) 51)).heap.size) := by show w.heap.size ≤ (w2.heap.push _).size; simp; omega
      clear HO0 hB1 hB2 hz hBw1 hB
      go_wp2_with (first | (refine wpList_rowV ?_ 1 _ rfl [z.1] rfl (by decide) (by decide) ?_ ?_; kernel_rfl; kernel_rfl) | (refine wpList_appV rfl _ _ rfl w.heap.size (.slice la ll lc) zs ?_ (some ⟨w2.heap.size, 0, none⟩) 1 1 [z] ?_ ?_ ?_ ?_ ?_ ?_ ?_; rfl; rfl; rfl; exact HO.out; exact HV.out; exact HLL.out; exact HS.out))
      intro u w4 hO4 hG4
      obtain ⟨ao4, cap4, rfl, -⟩ := hO4.form
      have HO4 : Hid _ := hO4
      have hB4 : Below w.heap.size w w4 := (hB3.alloc hB3.size _).trans (hG4.below (by simp; omega) (fun k hk => (HO.out.lt k hk).1))
      clear hO4 hG4 HO HV HS hB3
      go_wp2_with fail
      go_roundw
      case rel => exact ⟨i + 1, by omega, by go_num, by rw [pvL_succ, HZ.out, HZS.out]; exact HO4.out, hB4⟩
      case measure => simp [intOf]; omega
    · obtain rfl : i = m := by omega
      obtain ⟨la, lc, rfl, -⟩ := hO.form
      have HO : Hid _ := hO
      clear hO
      by_cases q : (i : Int) < n
      · have q4 : ¬ (i : Int) < 4 := by omega
        go_wp2_with fail
        go_ret
        exact ⟨_, rfl, HO.out, hB⟩
      · go_wp2_with fail
        go_ret
        exact ⟨_, rfl, HO.out, hB⟩
end Go.Proofs.Yticpkpphjpgdbaa
namespace Go.Proofs.Yticpkpphjpgdbaa
open Go.RowKit Go.Dig Go.Sha Go.Inv Go.Oct

theorem pv_f (k s v : Int) (P : List Int) (b : Bd k s v) (i : Nat) : (pv k s v P b i).1.f = ((i % 4 : Nat) : Int) := rfl
theorem pv_good (k s v : Int) (P : List Int) (b : Bd k s v) (i : Nat) : goodR ring4 (pv k s v P b i).1 = true := good_cast (by unfold hasB; exact decide_eq_true ⟨by omega, by omega⟩)
theorem pv_asked (k s v : Int) (P : List Int) (b : Bd k s v) (i : Nat) : askedB k s v (sha P) (pv k s v P b i).1 = true := asked_cast _ _ _ _ _ _
theorem pv_not (k s v : Int) (P : List Int) (b : Bd k s v) (i : Nat) {k' s' v' : Int} (sum : Nat → Int) (h : ¬ (k = k' ∧ s = s' ∧ v = v')) : askedB k' s' v' sum (pv k s v P b i).1 = false := by
  cases ha : askedB k' s' v' sum (pv k s v P b i).1 with
  | false => rfl
  | true =>
    simp only [askedB, pv, castW, castR, Bool.and_eq_true] at ha
    exact absurd ⟨of_decide_eq_true ha.1.1.1, of_decide_eq_true ha.1.1.2, of_decide_eq_true ha.1.2⟩ h
theorem who_pvL (k s v : Int) (P : List Int) (b : Bd k s v) {m : Nat} (hm : m ≤ 4) : (whoL ring4 (pvL k s v P b m)).length = m := by
  have h1 := pvL_length k s v P b m
  have := who_len ring4 (pvL k s v P b m) [] (fun x hx => by
    unfold pvL at hx
    obtain ⟨i, -, rfl⟩ := List.mem_map.1 hx
    exact pv_good k s v P b i) (by
    unfold pvL
    rw [List.map_map, List.pairwise_map]
    have hlt : (List.range m).Pairwise (fun a b => a < b ∧ b < m) := by
      refine List.Pairwise.imp_of_mem ?_ List.pairwise_lt_range
      intro a b _ hb h
      exact ⟨h, List.mem_range.1 hb⟩
    refine hlt.imp ?_
    intro a b h
    show ((a % 4 : Nat) : Int) ≠ ((b % 4 : Nat) : Int)
    omega) (fun x _ => by simp)
  rw [h1] at this
  unfold whoL
  simpa using this
theorem told_pvL (k s v : Int) (P : List Int) (b : Bd k s v) {m : Nat} (hm : m ≤ 10) : toldL k s v (sha P) (pvL k s v P b m) = pvL k s v P b m := by
  unfold toldL
  rw [List.take_of_length_le (by rw [pvL_length]; exact hm), List.filter_eq_self]
  intro x hx
  unfold pvL at hx
  obtain ⟨i, -, rfl⟩ := List.mem_map.1 hx
  exact pv_asked k s v P b i
theorem told_none {k s v : Int} {sum : Nat → Int} {l : List VoteW} (h : ∀ x ∈ l, askedB k s v sum x.1 = false) : toldL k s v sum l = [] := by
  unfold toldL
  rw [List.filter_eq_nil_iff]
  intro x hx
  rw [h x (List.mem_of_mem_take hx)]; simp
theorem meets_len {k s v : Int} {sum : Nat → Int} {l : List VoteW} {m : Nat} (h : (whoL ring4 (toldL k s v sum l)).length = m) : meetsR ring4 l k s v sum = decide (3 ≤ m) := by
  unfold meetsR
  rw [h, show quorumI (nodesR ring4) = 3 by decide, show decide (0 < nodesR ring4) = true by decide, Bool.true_and, Bool.eq_iff_iff, decide_eq_true_iff, decide_eq_true_iff]
  omega
theorem meets_pvL (s v : Int) (P : List Int) (b : Bd 1 s v) {m : Nat} (hm : m ≤ 4) : meetsR ring4 (pvL 1 s v P b m) 1 s v (sha P) = decide (3 ≤ m) := meets_len (by rw [told_pvL _ _ _ _ _ (by omega), who_pvL _ _ _ _ _ hm])
theorem meets_not {k s v k' s' v' : Int} (P : List Int) (b : Bd k s v) (sum : Nat → Int) (m : Nat) (h : ¬ (k = k' ∧ s = s' ∧ v = v')) : meetsR ring4 (pvL k s v P b m) k' s' v' sum = false := by
  rw [meets_len (m := 0)]
  · rfl
  · rw [told_none (fun x hx => by
      unfold pvL at hx
      obtain ⟨i, -, rfl⟩ := List.mem_map.1 hx
      exact pv_not k s v P b i sum h)]
    rfl
theorem pvL_cons (k s v : Int) (P : List Int) (b : Bd k s v) (m : Nat) : pvL k s v P b (m + 1) = pv k s v P b 0 :: (List.range m).map (fun i => pv k s v P b (i + 1)) := by
  unfold pvL
  rw [List.range_succ_eq_map, List.map_cons, List.map_map]
  rfl
theorem provesR_cons (R : RingO) (y : VoteW) (t : List VoteW) (slot below : Int) (P : List Int) : provesR R (y :: t) slot below P = if 0 ≤ y.1.v ∧ y.1.v < below ∧ meetsR R (y :: t) 1 slot y.1.v (sha P) = true then some y.1.v else none := rfl
/-- enough of them prove their view -/
theorem proves_pvL (s v below : Int) (P : List Int) (b : Bd 1 s v) {m : Nat} (hm : m ≤ 4) (hv : 0 ≤ v) : provesR ring4 (pvL 1 s v P b m) s below P = if 3 ≤ m ∧ v < below then some v else none := by
  cases m with
  | zero => rfl
  | succ m =>
    have h := meets_pvL s v P b hm
    rw [pvL_cons] at h ⊢
    rw [provesR_cons, show (pv 1 s v P b 0).1.v = v from rfl, h]
    by_cases q : 3 ≤ m + 1
    · by_cases q2 : v < below
      · rw [if_pos ⟨hv, q2, decide_eq_true q⟩, if_pos ⟨q, q2⟩]
      · rw [if_neg (fun e => q2 e.2.1), if_neg (fun e => q2 e.2)]
    · rw [if_neg (fun e => q (of_decide_eq_true e.2.2)), if_neg (fun e => q e.1)]
/-- those of another kind or slot prove nothing -/
theorem proves_not {k s : Int} (v s' below : Int) (P Q : List Int) (b : Bd k s v) (m : Nat) (h : ¬ (k = 1 ∧ s = s')) : provesR ring4 (pvL k s v P b m) s' below Q = none := by
  cases m with
  | zero => rfl
  | succ m =>
    have h' : meetsR ring4 (pvL k s v P b (m + 1)) 1 s' v (sha Q) = false := meets_not P b _ _ (fun e => h ⟨e.1, e.2.1⟩)
    rw [pvL_cons] at h' ⊢
    rw [provesR_cons, show (pv k s v P b 0).1.v = v from rfl, h']
    simp
section
variable {ops : Array Oper} {rest : List Oper} {o : Oper} {a : Act} {w : World} {Q : Exit → Act → World → Prop}
theorem wpList_setV (hgd : o.guard = none) (x y : Operand) (ho : o.op = .store 51 x y) (base g cap n : Nat) (zs : List VoteW) (i : Nat) (hi : i < zs.length) (z : VoteW) (hx : a.eval x = .pointer (some ⟨g, i * 68, none⟩)) (hy : a.eval y = .agg z.1.cells) (hown : OwnV w base (.slice (some ⟨g, 0, none⟩) n cap) zs)
    (h : ∀ w', OwnV w' base (.slice (some ⟨g, 0, none⟩) n cap) (zs.set i z) → Keeps g w w' → wpList Try.prog ops Q rest (a.put o.dst undef) w') : wpList Try.prog ops Q (o :: rest) a w := by
  rcases hown.2 with ⟨e, _⟩ | ⟨g', cap', cur, e, hb, hgg, hc, hm, hs, ht⟩
  · cases e
  · cases e
    have hin : i * 68 + 68 ≤ cur.size := by
      have : (i + 1) * 68 ≤ cap * 68 := Nat.mul_le_mul_right _ (by omega)
      omega
    refine wpList_store_mid hgd 51 x y ho g (i * 68) z.1.cells hx hy (fun j hj => ?_) (vote_info z.1) z.1.all (h _ ?_ (Keeps.setCells _ _ (Keeps.refl _ _)))
    · rw [VoteR.size] at hj
      refine ⟨?_, frozen_blk hgg _⟩
      rw [cell_blk hgg, Array.getElem?_eq_getElem (by omega)]; rfl
    · obtain ⟨c, h1, h2, h3⟩ := setCells_blk g 51 z.1.cells.toList (i * 68) w cur hgg
      have hl : (zs.set i z).length = zs.length := by simp
      refine ⟨votesC_length _, .inr ⟨g, cap, c, by rw [hl], hb, h1, by rw [hl]; exact hc, hm, by rw [h2]; exact hs, ?_⟩⟩
      rw [hl]
      refine List.ext_getElem? fun q => ?_
      have hcl := votesC_length (zs.set i z)
      rw [hl] at hcl
      by_cases hq : q < zs.length * 68
      · have hold : (votesC zs)[q]? = cur[q]? := by rw [← ht, List.getElem?_take, if_pos hq, Array.getElem?_toList]
        rw [List.getElem?_take, if_pos hq, Array.getElem?_toList, h3, Array.length_toList, VoteR.size]
        have hd : q / 68 < zs.length := by omega
        have e1 := votesC_at (zs.set i z) (q / 68) (by rw [hl]; exact hd) (q % 68) (by omega)
        have e2 := votesC_at zs (q / 68) hd (q % 68) (by omega)
        rw [show q / 68 * 68 + q % 68 = q by omega] at e1 e2
        rw [e1]
        by_cases hqi : q / 68 = i
        · rw [if_pos (by omega), List.getElem_set, if_pos hqi.symm, Array.getElem?_toList, show q - i * 68 = q % 68 by omega]
        · rw [if_neg (by omega), List.getElem_set, if_neg (fun e => hqi e.symm), ← hold, e2]
      · rw [List.getElem?_eq_none (by rw [List.length_take]; omega), List.getElem?_eq_none (by rw [hcl]; omega)]
end
end Go.Proofs.Yticpkpphjpgdbaa
namespace Go.Proofs.Yticpkpphjpgdbaa
open Go.RowKit Go.Dig Go.Sha Go.Inv Go.Oct

theorem bd_in {s v : Int} (h0 : 0 ≤ s) (h1 : s ≤ 1000) (h2 : 0 ≤ v) (h3 : v ≤ 1000) (k : Int) (h4 : 0 ≤ k) (h5 : k ≤ 10) : Bd k s v := ⟨⟨by omega, by omega⟩, ⟨by omega, by omega⟩, ⟨by omega, by omega⟩⟩
theorem lock_row : ∃ d, Try.prog.underlying 25 = some d ∧ d.isRow = true := by
  have h : (Try.prog.underlying 25).map (·.isRow) = some true := by kernel_rfl
  cases hd : Try.prog.underlying 25 with
  | none => rw [hd] at h; cases h
  | some d => rw [hd] at h; exact ⟨d, rfl, by simpa using h⟩
theorem wpList_load_lock {ops : Array Oper} {rest : List Oper} {o : Oper} {a : Act} {w : World} {Q : Exit → Act → World → Prop} (hgd : o.guard = none) (x : Operand) (ho : o.op = .load 25 x) (g : Nat) (hx : a.eval x = .pointer (some ⟨g, 0, none⟩)) (c0 c1 c2 : Value)
    (hc : w.heap[g]? = some (.cells #[c0, c1, c2] 25 (0, 0))) (h : wpList Try.prog ops Q rest (a.put o.dst (.agg #[c0, c1, c2])) w) : wpList Try.prog ops Q (o :: rest) a w := by
  obtain ⟨d, hd1, hd2⟩ := lock_row
  refine wpList_load_mid hgd 25 x ho g 0 hx [c0, c1, c2] d (fun j v hv => ?_) hd1 hd2 (by exact lock_info c0 c1 c2) (by simpa using h)
  rw [cell_blk hc, Nat.zero_add]
  simpa using hv
/-- what RuleBinds asks, and what May tells -/
theorem may_binds (at_ proof view : Int) (m : Nat) (A B : List Int) (b : Bd 1 1 proof) (hm : m ≤ 4) (h0 : 0 ≤ at_) (h1 : 0 ≤ proof) :
    mayR ring4 at_ A 1 view B (pvL 1 1 proof B b m) = (decide (A = B) || (decide (3 ≤ m) && decide (at_ < proof) && decide (proof < view))) := by
  unfold mayR
  rw [proves_pvL 1 proof view B b hm h1, decide_eq_false (show ¬ at_ = -1 by omega), Bool.false_or]
  congr 1
  by_cases q : 3 ≤ m ∧ proof < view
  · rw [if_pos q, decide_eq_true q.1, decide_eq_true q.2]; simp
  · rw [if_neg q]
    by_cases q3 : 3 ≤ m
    · rw [decide_eq_false (show ¬ proof < view from fun e => q ⟨q3, e⟩)]; simp
    · rw [decide_eq_false q3]; simp
theorem votesIn_nil (w : World) : VotesIn w none 0 [] := ⟨Nat.le_refl _, Nat.zero_le _, fun _ => rfl, fun j hj => by simp at hj⟩
set_option maxRecDepth 10000 in
set_option maxHeartbeats 8000000 in
theorem ruleBinds_in (at_ proof view : Int) (m : Nat) (A B : List Int) (ao bo : Option Addr) (ca cb : Nat) (w : World) (t0 : 0 ≤ at_) (t1 : at_ ≤ 8) (p0 : 0 ≤ proof) (p1 : proof ≤ 8) (v0 : 0 ≤ view) (v1 : view ≤ 8) (hm : m ≤ 4) (hA : A.length ≤ 100) (hB : B.length ≤ 100)
    (hra : Rowed w ao A ca) (hlb : Lies w bo B) (hcb : B.length ≤ cb) (hrb : Rowed w bo B cb) (yA : BytesL A) (yB : BytesL B) :
    Calls Try.prog 5 #[.int .i64 at_, .int .i64 proof, .int .i64 view, .int .i64 (m : Int), .slice ao A.length ca, .slice bo B.length cb] w fun x w' => x = .returned (.bool true) ∧ Below w.heap.size w w' := by
  have e0 : ¬ (at_ < 0) := by omega
  have e1 : ¬ (8 < at_) := by omega
  have e2 : ¬ (proof < 0) := by omega
  have e3 : ¬ (8 < proof) := by omega
  have e4 : ¬ (view < 0) := by omega
  have e5 : ¬ (8 < view) := by omega
  have e6 : ¬ ((m : Int) < 0) := by omega
  have e7 : ¬ ((4 : Int) < (m : Int)) := by omega
  have e8 : ¬ ((100 : Int) < (A.length : Int)) := by omega
  have e9 : ¬ ((100 : Int) < (B.length : Int)) := by omega
  have ba : Bd 1 1 at_ := bd_in (by decide) (by decide) t0 (by omega) 1 (by decide) (by decide)
  have bp : Bd 1 1 proof := bd_in (by decide) (by decide) p0 (by omega) 1 (by decide) (by decide)
  have HLB : Hid (Lies w bo B) := hlb
  have HRA : Hid (Rowed w ao A ca) := hra
  have HRB : Hid (Rowed w bo B cb) := hrb
  have HM := may_binds at_ proof view m A B bp hm t0 p0
  have HE := eqStr yA yB
  clear hlb hra hrb
  go_enter Try.func5, Try.ntmps5
  go_wp2_with (refine wpList_build_to rfl 30 _ rfl (row .u8 32 (oneF 1)) (by kernel_rfl) ?_)
  refine (sNew_any 4 (oneF 1) _ (by decide) (by decide)).mono ?_
  rintro x w1 ⟨rg, rfl, hrg, hR, hB1⟩
  rw [show nodesOf 4 = 4 by decide] at hR
  have HR : Hid (RingV w1 (.pointer (some ⟨rg, 0, none⟩)) ring4) := ⟨rg, rfl, hR⟩
  clear hR
  go_wp2_with (refine wpList_build_to rfl 30 _ rfl (row .u8 32 (oneF 1)) (by kernel_rfl) ?_)
  refine (rNew_any 4 (oneF 1) w1 (by decide) (by decide)).mono ?_
  rintro x w2 ⟨xg, rfl, hxg, hX, hB2⟩
  rw [show nodesOf 4 = 4 by decide] at hX
  have HX : Hid (RRing w2 xg (oneF 1) 4) := hX
  have HR2 : Hid (RingV w2 (.pointer (some ⟨rg, 0, none⟩)) ring4) := HR.out.below hB2
  have hBw2 : Below w.heap.size w w2 := hB1.trans (hB2.mono hB1.size)
  clear hX HR hB1 hB2
  go_wp2_with fail
  refine (votes7_any xg 3 1 at_ A ao ca w2 ba HX.out (HRA.out.below hBw2 (Nat.le_refl _)) (by omega)).mono ?_
  rintro x w3 ⟨v, rfl, hO, hB3⟩
  have hBw3 : Below w.heap.size w w3 := hBw2.trans (hB3.mono hBw2.size)
  have HR3 : Hid (RingV w3 (.pointer (some ⟨rg, 0, none⟩)) ring4) := HR2.out.below hB3
  have HX3 : Hid (RRing w3 xg (oneF 1) 4) := HX.out.below hB3
  obtain ⟨ka, kc, rfl, -⟩ := hO.form
  clear HR2 HX hB3 hBw2 hO
  generalize (pvL 1 1 at_ A ba (min (3 : Int) 4).toNat).length = kn
  have HB4 : Hid ((w3.alloc (.cells #[.int .i64 at_, .slice ao A.length ca, .slice ka kn kc] 25)).heap[w3.heap.size]? = some (.cells #[.int .i64 at_, .slice ao A.length ca, .slice ka kn kc] 25 (0, 0))) := alloc_blk _ _
  have hB34 := below_alloc w3 (.cells #[.int .i64 at_, .slice ao A.length ca, .slice ka kn kc] 25)
  have HX4 : Hid (RRing (w3.alloc (.cells #[.int .i64 at_, .slice ao A.length ca, .slice ka kn kc] 25)) xg (oneF 1) 4) := HX3.out.below hB34
  have HR4 : Hid (RingV (w3.alloc (.cells #[.int .i64 at_, .slice ao A.length ca, .slice ka kn kc] 25)) (.pointer (some ⟨rg, 0, none⟩)) ring4) := HR3.out.below hB34
  have hBw4 : Below w.heap.size w (w3.alloc (.cells #[.int .i64 at_, .slice ao A.length ca, .slice ka kn kc] 25)) := hBw3.trans (hB34.mono hBw3.size)
  clear hB34 HX3 HR3 hBw3
  go_wp2_with fail
  generalize w3.alloc (.cells #[.int .i64 at_, .slice ao A.length ca, .slice ka kn kc] 25) = w4 at *
  refine (votes7_any xg (m : Int) 1 proof B bo cb w4 bp HX4.out (HRB.out.below hBw4 (Nat.le_refl _)) (by omega)).mono ?_
  rintro x w5 ⟨v, rfl, hO, hB5⟩
  rw [show (min (m : Int) 4).toNat = m by omega] at hO
  obtain ⟨la, lc, rfl, hVin⟩ := hO.form
  have HV5 : Hid (VotesIn w5 la lc (pvL 1 1 proof B bp m)) := hVin
  have HB5 : Hid (w5.heap[w3.heap.size]? = some (.cells #[.int .i64 at_, .slice ao A.length ca, .slice ka kn kc] 25 (0, 0))) := (hB5.block _ (lt_blk HB4.out)).trans HB4.out
  have HR5 : Hid (RingV w5 (.pointer (some ⟨rg, 0, none⟩)) ring4) := HR4.out.below hB5
  have hBw5 : Below w.heap.size w w5 := hBw4.trans (hB5.mono hBw4.size)
  have HRA5 : Hid (Rowed w5 ao A ca) := HRA.out.below hBw5 (Nat.le_refl _)
  have HRB5 : Hid (Rowed w5 bo B cb) := HRB.out.below hBw5 (Nat.le_refl _)
  have HLB5 : Hid (Lies w5 bo B) := HLB.out.below hBw5 (Nat.le_refl _)
  have c1 : (convert 22 9 (.slice ao A.length ca)).run Try.prog w5 = .ok (.string (strOf A)) w5 := conv_str HRA5.out rfl
  have c2 : (convert 22 9 (.slice bo B.length cb)).run Try.prog w5 = .ok (.string (strOf B)) w5 := conv_str HRB5.out rfl
  generalize pvL 1 1 proof B bp m = ys at *
  clear hO hVin hB5 HB4 HX4 HR4 hBw4 HRA HRB HLB
  have hcase : (A = B) ∨ (¬ A = B ∧ ¬ 3 ≤ m) ∨ (¬ A = B ∧ 3 ≤ m ∧ ¬ at_ < proof) ∨ (¬ A = B ∧ 3 ≤ m ∧ at_ < proof ∧ ¬ proof < view) ∨ (¬ A = B ∧ 3 ≤ m ∧ at_ < proof ∧ proof < view) := by
    by_cases q : A = B
    · exact .inl q
    · by_cases q3 : 3 ≤ m
      · by_cases qp : at_ < proof
        · by_cases qv : proof < view
          · exact .inr (.inr (.inr (.inr ⟨q, q3, qp, qv⟩)))
          · exact .inr (.inr (.inr (.inl ⟨q, q3, qp, qv⟩)))
        · exact .inr (.inr (.inl ⟨q, q3, qp⟩))
      · exact .inr (.inl ⟨q, q3⟩)
  obtain ⟨bb, hbb⟩ : ∃ bb, (decide (A = B) || (decide (3 ≤ m) && decide (at_ < proof) && decide (proof < view))) = bb := ⟨_, rfl⟩
  rw [hbb] at HM
  have HM' : Hid (mayR ring4 at_ A 1 view B ys = bb) := HM
  clear HM
  rcases hcase with q | ⟨q, q3⟩ | ⟨q, q3, qp⟩ | ⟨q, q3, qp, qv⟩ | ⟨q, q3, qp, qv⟩
  · have he : ((strOf A).toList == (strOf B).toList) = true := HE.trans (decide_eq_true q)
    rw [decide_eq_true q, Bool.true_or] at hbb
    subst hbb
    clear HE q
    go_wp2_with (refine wpList_load_lock rfl _ rfl w3.heap.size ?_ (.int .i64 at_) (.slice ao A.length ca) (.slice ka kn kc) ?_ ?_; rfl; exact HB5.out)
    refine (may_any _ ring4 at_ A ao ca (.slice ka kn kc) 1 view B bo cb la lc ys w5 HR5.out (by decide) HV5.out HRA5.out HRB5.out HLB5.out hcb (by omega) yA yB ⟨_, _, _, rfl⟩).mono ?_
    rintro x w6 ⟨rfl, hB6⟩
    rw [HM'.out]
    have HR6 : Hid (RingV w6 (.pointer (some ⟨rg, 0, none⟩)) ring4) := HR5.out.below hB6
    have HRB6 : Hid (Rowed w6 bo B cb) := HRB5.out.below hB6 (Nat.le_refl _)
    have HLB6 : Hid (Lies w6 bo B) := HLB5.out.below hB6 (Nat.le_refl _)
    have hBw6 : Below w.heap.size w w6 := hBw5.trans (hB6.mono hBw5.size)
    clear hB6 HR5 HV5 HRA5 HRB5 HLB5 HB5 hBw5 HM' c1 c2
    go_wp2_with fail
    refine (free_any w6).mono ?_
    rintro x w7 ⟨rfl, hB7⟩
    have HR7 : Hid (RingV w7 (.pointer (some ⟨rg, 0, none⟩)) ring4) := HR6.out.below hB7
    have HRB7 : Hid (Rowed w7 bo B cb) := HRB6.out.below hB7 (Nat.le_refl _)
    have HLB7 : Hid (Lies w7 bo B) := HLB6.out.below hB7 (Nat.le_refl _)
    have hBw7 : Below w.heap.size w w7 := hBw6.trans (hB7.mono hBw6.size)
    clear hB7 HR6 HRB6 HLB6 hBw6
    go_wp2_with fail
    refine (may_any _ ring4 (-1) [] none 0 (.slice none 0 0) 1 view B bo cb none 0 [] w7 HR7.out (by decide) (votesIn_nil w7) (.inl ⟨rfl, rfl, rfl⟩) HRB7.out HLB7.out hcb (by omega) (fun y hy => by cases hy) yB ⟨_, _, _, rfl⟩).mono ?_
    rintro x w8 ⟨rfl, hB8⟩
    rw [show mayR ring4 (-1) [] 1 view B [] = true from rfl]
    have hBw8 : Below w.heap.size w w8 := hBw7.trans (hB8.mono hBw7.size)
    clear hB8 HR7 HRB7 HLB7 hBw7
    go_wp2_with fail
    refine (known7_any w8).mono ?_
    rintro x w9 ⟨rfl, hB9⟩
    have hBw9 : Below w.heap.size w w9 := hBw8.trans (hB9.mono hBw8.size)
    clear hB9 hBw8
    go_wp2_with fail
    go_ret
    exact ⟨rfl, hBw9⟩
  · have he : ((strOf A).toList == (strOf B).toList) = false := HE.trans (decide_eq_false q)
    rw [decide_eq_false q, Bool.false_or, decide_eq_false q3, Bool.false_and, Bool.false_and] at hbb
    subst hbb
    clear HE q
    go_wp2_with (refine wpList_load_lock rfl _ rfl w3.heap.size ?_ (.int .i64 at_) (.slice ao A.length ca) (.slice ka kn kc) ?_ ?_; rfl; exact HB5.out)
    refine (may_any _ ring4 at_ A ao ca (.slice ka kn kc) 1 view B bo cb la lc ys w5 HR5.out (by decide) HV5.out HRA5.out HRB5.out HLB5.out hcb (by omega) yA yB ⟨_, _, _, rfl⟩).mono ?_
    rintro x w6 ⟨rfl, hB6⟩
    rw [HM'.out]
    have HR6 : Hid (RingV w6 (.pointer (some ⟨rg, 0, none⟩)) ring4) := HR5.out.below hB6
    have HRB6 : Hid (Rowed w6 bo B cb) := HRB5.out.below hB6 (Nat.le_refl _)
    have HLB6 : Hid (Lies w6 bo B) := HLB5.out.below hB6 (Nat.le_refl _)
    have hBw6 : Below w.heap.size w w6 := hBw5.trans (hB6.mono hBw5.size)
    clear hB6 HR5 HV5 HRA5 HRB5 HLB5 HB5 hBw5 HM' c1 c2
    go_wp2_with fail
    refine (free_any w6).mono ?_
    rintro x w7 ⟨rfl, hB7⟩
    have HR7 : Hid (RingV w7 (.pointer (some ⟨rg, 0, none⟩)) ring4) := HR6.out.below hB7
    have HRB7 : Hid (Rowed w7 bo B cb) := HRB6.out.below hB7 (Nat.le_refl _)
    have HLB7 : Hid (Lies w7 bo B) := HLB6.out.below hB7 (Nat.le_refl _)
    have hBw7 : Below w.heap.size w w7 := hBw6.trans (hB7.mono hBw6.size)
    clear hB7 HR6 HRB6 HLB6 hBw6
    go_wp2_with fail
    refine (may_any _ ring4 (-1) [] none 0 (.slice none 0 0) 1 view B bo cb none 0 [] w7 HR7.out (by decide) (votesIn_nil w7) (.inl ⟨rfl, rfl, rfl⟩) HRB7.out HLB7.out hcb (by omega) (fun y hy => by cases hy) yB ⟨_, _, _, rfl⟩).mono ?_
    rintro x w8 ⟨rfl, hB8⟩
    rw [show mayR ring4 (-1) [] 1 view B [] = true from rfl]
    have hBw8 : Below w.heap.size w w8 := hBw7.trans (hB8.mono hBw7.size)
    clear hB8 HR7 HRB7 HLB7 hBw7
    go_wp2_with fail
    refine (known7_any w8).mono ?_
    rintro x w9 ⟨rfl, hB9⟩
    have hBw9 : Below w.heap.size w w9 := hBw8.trans (hB9.mono hBw8.size)
    clear hB9 hBw8
    go_wp2_with fail
    go_ret
    exact ⟨rfl, hBw9⟩
  · have he : ((strOf A).toList == (strOf B).toList) = false := HE.trans (decide_eq_false q)
    rw [decide_eq_false q, Bool.false_or, decide_eq_true q3, decide_eq_false qp, Bool.and_false, Bool.false_and] at hbb
    subst hbb
    clear HE q
    go_wp2_with (refine wpList_load_lock rfl _ rfl w3.heap.size ?_ (.int .i64 at_) (.slice ao A.length ca) (.slice ka kn kc) ?_ ?_; rfl; exact HB5.out)
    refine (may_any _ ring4 at_ A ao ca (.slice ka kn kc) 1 view B bo cb la lc ys w5 HR5.out (by decide) HV5.out HRA5.out HRB5.out HLB5.out hcb (by omega) yA yB ⟨_, _, _, rfl⟩).mono ?_
    rintro x w6 ⟨rfl, hB6⟩
    rw [HM'.out]
    have HR6 : Hid (RingV w6 (.pointer (some ⟨rg, 0, none⟩)) ring4) := HR5.out.below hB6
    have HRB6 : Hid (Rowed w6 bo B cb) := HRB5.out.below hB6 (Nat.le_refl _)
    have HLB6 : Hid (Lies w6 bo B) := HLB5.out.below hB6 (Nat.le_refl _)
    have hBw6 : Below w.heap.size w w6 := hBw5.trans (hB6.mono hBw5.size)
    clear hB6 HR5 HV5 HRA5 HRB5 HLB5 HB5 hBw5 HM' c1 c2
    go_wp2_with fail
    refine (free_any w6).mono ?_
    rintro x w7 ⟨rfl, hB7⟩
    have HR7 : Hid (RingV w7 (.pointer (some ⟨rg, 0, none⟩)) ring4) := HR6.out.below hB7
    have HRB7 : Hid (Rowed w7 bo B cb) := HRB6.out.below hB7 (Nat.le_refl _)
    have HLB7 : Hid (Lies w7 bo B) := HLB6.out.below hB7 (Nat.le_refl _)
    have hBw7 : Below w.heap.size w w7 := hBw6.trans (hB7.mono hBw6.size)
    clear hB7 HR6 HRB6 HLB6 hBw6
    go_wp2_with fail
    refine (may_any _ ring4 (-1) [] none 0 (.slice none 0 0) 1 view B bo cb none 0 [] w7 HR7.out (by decide) (votesIn_nil w7) (.inl ⟨rfl, rfl, rfl⟩) HRB7.out HLB7.out hcb (by omega) (fun y hy => by cases hy) yB ⟨_, _, _, rfl⟩).mono ?_
    rintro x w8 ⟨rfl, hB8⟩
    rw [show mayR ring4 (-1) [] 1 view B [] = true from rfl]
    have hBw8 : Below w.heap.size w w8 := hBw7.trans (hB8.mono hBw7.size)
    clear hB8 HR7 HRB7 HLB7 hBw7
    go_wp2_with fail
    refine (known7_any w8).mono ?_
    rintro x w9 ⟨rfl, hB9⟩
    have hBw9 : Below w.heap.size w w9 := hBw8.trans (hB9.mono hBw8.size)
    clear hB9 hBw8
    go_wp2_with fail
    go_ret
    exact ⟨rfl, hBw9⟩
  · have he : ((strOf A).toList == (strOf B).toList) = false := HE.trans (decide_eq_false q)
    rw [decide_eq_false q, Bool.false_or, decide_eq_false qv, Bool.and_false] at hbb
    subst hbb
    clear HE q
    go_wp2_with (refine wpList_load_lock rfl _ rfl w3.heap.size ?_ (.int .i64 at_) (.slice ao A.length ca) (.slice ka kn kc) ?_ ?_; rfl; exact HB5.out)
    refine (may_any _ ring4 at_ A ao ca (.slice ka kn kc) 1 view B bo cb la lc ys w5 HR5.out (by decide) HV5.out HRA5.out HRB5.out HLB5.out hcb (by omega) yA yB ⟨_, _, _, rfl⟩).mono ?_
    rintro x w6 ⟨rfl, hB6⟩
    rw [HM'.out]
    have HR6 : Hid (RingV w6 (.pointer (some ⟨rg, 0, none⟩)) ring4) := HR5.out.below hB6
    have HRB6 : Hid (Rowed w6 bo B cb) := HRB5.out.below hB6 (Nat.le_refl _)
    have HLB6 : Hid (Lies w6 bo B) := HLB5.out.below hB6 (Nat.le_refl _)
    have hBw6 : Below w.heap.size w w6 := hBw5.trans (hB6.mono hBw5.size)
    clear hB6 HR5 HV5 HRA5 HRB5 HLB5 HB5 hBw5 HM' c1 c2
    go_wp2_with fail
    refine (free_any w6).mono ?_
    rintro x w7 ⟨rfl, hB7⟩
    have HR7 : Hid (RingV w7 (.pointer (some ⟨rg, 0, none⟩)) ring4) := HR6.out.below hB7
    have HRB7 : Hid (Rowed w7 bo B cb) := HRB6.out.below hB7 (Nat.le_refl _)
    have HLB7 : Hid (Lies w7 bo B) := HLB6.out.below hB7 (Nat.le_refl _)
    have hBw7 : Below w.heap.size w w7 := hBw6.trans (hB7.mono hBw6.size)
    clear hB7 HR6 HRB6 HLB6 hBw6
    go_wp2_with fail
    refine (may_any _ ring4 (-1) [] none 0 (.slice none 0 0) 1 view B bo cb none 0 [] w7 HR7.out (by decide) (votesIn_nil w7) (.inl ⟨rfl, rfl, rfl⟩) HRB7.out HLB7.out hcb (by omega) (fun y hy => by cases hy) yB ⟨_, _, _, rfl⟩).mono ?_
    rintro x w8 ⟨rfl, hB8⟩
    rw [show mayR ring4 (-1) [] 1 view B [] = true from rfl]
    have hBw8 : Below w.heap.size w w8 := hBw7.trans (hB8.mono hBw7.size)
    clear hB8 HR7 HRB7 HLB7 hBw7
    go_wp2_with fail
    refine (known7_any w8).mono ?_
    rintro x w9 ⟨rfl, hB9⟩
    have hBw9 : Below w.heap.size w w9 := hBw8.trans (hB9.mono hBw8.size)
    clear hB9 hBw8
    go_wp2_with fail
    go_ret
    exact ⟨by rw [decide_eq_false (show ¬ proof < view by omega)]; rfl, hBw9⟩
  · have he : ((strOf A).toList == (strOf B).toList) = false := HE.trans (decide_eq_false q)
    rw [decide_eq_false q, Bool.false_or, decide_eq_true q3, decide_eq_true qp, decide_eq_true qv, Bool.and_true, Bool.and_true] at hbb
    subst hbb
    clear HE q
    go_wp2_with (refine wpList_load_lock rfl _ rfl w3.heap.size ?_ (.int .i64 at_) (.slice ao A.length ca) (.slice ka kn kc) ?_ ?_; rfl; exact HB5.out)
    refine (may_any _ ring4 at_ A ao ca (.slice ka kn kc) 1 view B bo cb la lc ys w5 HR5.out (by decide) HV5.out HRA5.out HRB5.out HLB5.out hcb (by omega) yA yB ⟨_, _, _, rfl⟩).mono ?_
    rintro x w6 ⟨rfl, hB6⟩
    rw [HM'.out]
    have HR6 : Hid (RingV w6 (.pointer (some ⟨rg, 0, none⟩)) ring4) := HR5.out.below hB6
    have HRB6 : Hid (Rowed w6 bo B cb) := HRB5.out.below hB6 (Nat.le_refl _)
    have HLB6 : Hid (Lies w6 bo B) := HLB5.out.below hB6 (Nat.le_refl _)
    have hBw6 : Below w.heap.size w w6 := hBw5.trans (hB6.mono hBw5.size)
    clear hB6 HR5 HV5 HRA5 HRB5 HLB5 HB5 hBw5 HM' c1 c2
    go_wp2_with fail
    refine (free_any w6).mono ?_
    rintro x w7 ⟨rfl, hB7⟩
    have HR7 : Hid (RingV w7 (.pointer (some ⟨rg, 0, none⟩)) ring4) := HR6.out.below hB7
    have HRB7 : Hid (Rowed w7 bo B cb) := HRB6.out.below hB7 (Nat.le_refl _)
    have HLB7 : Hid (Lies w7 bo B) := HLB6.out.below hB7 (Nat.le_refl _)
    have hBw7 : Below w.heap.size w w7 := hBw6.trans (hB7.mono hBw6.size)
    clear hB7 HR6 HRB6 HLB6 hBw6
    go_wp2_with fail
    refine (may_any _ ring4 (-1) [] none 0 (.slice none 0 0) 1 view B bo cb none 0 [] w7 HR7.out (by decide) (votesIn_nil w7) (.inl ⟨rfl, rfl, rfl⟩) HRB7.out HLB7.out hcb (by omega) (fun y hy => by cases hy) yB ⟨_, _, _, rfl⟩).mono ?_
    rintro x w8 ⟨rfl, hB8⟩
    rw [show mayR ring4 (-1) [] 1 view B [] = true from rfl]
    have hBw8 : Below w.heap.size w w8 := hBw7.trans (hB8.mono hBw7.size)
    clear hB8 HR7 HRB7 HLB7 hBw7
    go_wp2_with fail
    refine (known7_any w8).mono ?_
    rintro x w9 ⟨rfl, hB9⟩
    have hBw9 : Below w.heap.size w w9 := hBw8.trans (hB9.mono hBw8.size)
    clear hB9 hBw8
    go_wp2_with fail
    go_ret
    exact ⟨rfl, hBw9⟩
set_option maxRecDepth 10000 in
set_option maxHeartbeats 4000000 in
theorem ruleBinds_any (at_ proof view n : Int) (A B : List Int) (ao bo : Option Addr) (ca cb : Nat) (w : World) (hra : Rowed w ao A ca) (hlb : Lies w bo B) (hcb : B.length ≤ cb) (hrb : Rowed w bo B cb) (yA : BytesL A) (yB : BytesL B) :
    Calls Try.prog 5 #[.int .i64 at_, .int .i64 proof, .int .i64 view, .int .i64 n, .slice ao A.length ca, .slice bo B.length cb] w fun x w' => x = .returned (.bool true) ∧ Below w.heap.size w w' := by
  by_cases z0 : at_ < 0
  · go_enter Try.func5, Try.ntmps5
    go_wp2_with fail
    go_ret
    exact ⟨rfl, Below.refl _ _⟩
  by_cases z1 : 8 < at_
  · go_enter Try.func5, Try.ntmps5
    go_wp2_with fail
    go_ret
    exact ⟨rfl, Below.refl _ _⟩
  by_cases z2 : proof < 0
  · go_enter Try.func5, Try.ntmps5
    go_wp2_with fail
    go_ret
    exact ⟨rfl, Below.refl _ _⟩
  by_cases z3 : 8 < proof
  · go_enter Try.func5, Try.ntmps5
    go_wp2_with fail
    go_ret
    exact ⟨rfl, Below.refl _ _⟩
  by_cases z4 : view < 0
  · go_enter Try.func5, Try.ntmps5
    go_wp2_with fail
    go_ret
    exact ⟨rfl, Below.refl _ _⟩
  by_cases z5 : 8 < view
  · go_enter Try.func5, Try.ntmps5
    go_wp2_with fail
    go_ret
    exact ⟨rfl, Below.refl _ _⟩
  by_cases z6 : n < 0
  · go_enter Try.func5, Try.ntmps5
    go_wp2_with fail
    go_ret
    exact ⟨rfl, Below.refl _ _⟩
  by_cases z7 : 4 < n
  · go_enter Try.func5, Try.ntmps5
    go_wp2_with fail
    go_ret
    exact ⟨rfl, Below.refl _ _⟩
  by_cases z8 : (100 : Int) < (A.length : Int)
  · go_enter Try.func5, Try.ntmps5
    go_wp2_with fail
    go_ret
    exact ⟨rfl, Below.refl _ _⟩
  by_cases z9 : (100 : Int) < (B.length : Int)
  · go_enter Try.func5, Try.ntmps5
    go_wp2_with fail
    go_ret
    exact ⟨rfl, Below.refl _ _⟩
  obtain ⟨m, rfl⟩ : ∃ m : Nat, n = (m : Int) := ⟨n.toNat, by omega⟩
  exact ruleBinds_in at_ proof view m A B ao bo ca cb w (by omega) (by omega) (by omega) (by omega) (by omega) (by omega) (by omega) (by omega) (by omega) hra hlb hcb hrb yA yB
end Go.Proofs.Yticpkpphjpgdbaa
namespace Go.Proofs.Yticpkpphjpgdbaa
open Go.RowKit Go.Dig Go.Sha Go.Inv Go.Oct

/-- a row that has no room grows into new memory -/
theorem run_appV_new (w : World) (ty g : Nat) (hg : w.heap[g]? = some (.cells #[] 51 (0, 0))) (ad : Addr) (m c : Nat) (ys : List VoteW) (hm : m = ys.length) (hm0 : 0 < m) (hV : VotesIn w (some ad) c ys) (hb : m ≤ 1000) :
    ∃ v' w', (Builtin.append_ #[23, 23] ty #[.slice (some ⟨g, 0, none⟩) 0 0, .slice (some ad) m c]).run Try.prog w = .ok v' w' ∧ OwnV w' w.heap.size v' ys ∧ Below w.heap.size w w' := by
  have hown : OwnV w g (.slice (some ⟨g, 0, none⟩) 0 0) [] := ⟨rfl, .inr ⟨g, 0, #[], rfl, Nat.le_refl _, hg, Nat.le_refl _, Nat.zero_le _, rfl, rfl⟩⟩
  obtain ⟨v', w', hr, h1, hG⟩ := run_appV w g ty _ [] hown ad m c ys hm hV (by simp; omega) (Nat.le_of_lt (lt_blk hg))
  subst hm
  obtain ⟨i8, hi, hz0, hz1, hz2⟩ := info_parts info_vote
  have hcs : ∀ j u, (votesC ys)[j]? = some u → w.cell? (ad.add j) = some u := fun j u hu => by
    have hj : j < ys.length * 68 := by have := (List.getElem?_eq_some_iff.1 hu).1; rwa [votesC_length] at this
    have hq : j / 68 < ys.length := by omega
    obtain ⟨b, o, e, hv⟩ := hV.at_ (j / 68) hq
    cases e
    have h1 := hv (j % 68) (by omega)
    have h2 := votesC_at ys (j / 68) hq (j % 68) (by omega)
    rw [show j / 68 * 68 + j % 68 = j by omega] at h2
    rw [addr_add, ← hu, h2, ← h1, show o + j = o + j / 68 * 68 + j % 68 by omega]
  have h := run_append_grow (P := Try.prog) w 23 ty 51 i8 (.agg VoteR.zero.cells) (by kernel_rfl) hi hz0 ⟨g, 0, none⟩ 0 0 [] (by simp) (fun j u hu => by simp at hu) ad ys.length c (votesC ys) (by rw [votesC_length, hz1]) hcs (by omega) (by omega) (growslice_fits (by omega) (by rw [hz2]; omega))
  rw [h] at hr
  injection hr with e1 e2
  subst e1 e2
  refine ⟨_, _, h, ?_, (Below.refl _ _).drew.alloc (Nat.le_refl _) _⟩
  rcases h1.2 with ⟨e, _⟩ | ⟨g', cap', cur, e, hb', hgg, rest⟩
  · cases e
  · refine ⟨h1.1, .inr ⟨g', cap', cur, e, ?_, hgg, rest⟩⟩
    injection e with e1
    injection e1 with e1
    injection e1 with e1
    rw [← e1]; exact Nat.le_refl _
theorem slice_votes_h (g len cap k : Nat) (w : World) (h : k ≤ cap) : (Instr.slice 23 (.slice (some ⟨g, 0, none⟩) len cap) none (some (.int .i64 (k : Int))) none).run Try.prog w = .ok (.slice (some ⟨g, 0, none⟩) k cap) w := by
  have hs : (sizeOf 51).run Try.prog w = .ok 68 w := by kernel_rfl
  have he : Try.prog.elem 23 = 51 := by kernel_rfl
  rw [run_slice_h w 23 (some ⟨g, 0, none⟩) len cap (by kernel_rfl) .i64 _ (by omega) (by omega), he, hs]
  by_cases hn : cap = 0
  · subst hn
    obtain rfl : k = 0 := by omega
    simp [sliced]
  · simp [sliced, addr_add, hn]
theorem slice_votes_l (g len cap k : Nat) (w : World) (h : k ≤ len) (hc : k < cap) : (Instr.slice 23 (.slice (some ⟨g, 0, none⟩) len cap) (some (.int .i64 (k : Int))) none none).run Try.prog w = .ok (.slice (some ⟨g, k * 68, none⟩) (len - k) (cap - k)) w := by
  have hs : (sizeOf 51).run Try.prog w = .ok 68 w := by kernel_rfl
  have he : Try.prog.elem 23 = 51 := by kernel_rfl
  rw [run_slice_l w 23 (some ⟨g, 0, none⟩) len cap (by kernel_rfl) .i64 _ (by omega) (by omega), he, hs]
  have hn : ¬ cap = k := by omega
  simp [sliced, addr_add, hn]
section
variable {ops : Array Oper} {rest : List Oper} {o : Oper} {a : Act} {w : World} {Q : Exit → Act → World → Prop}
/-- the same append, behind a guard -/
theorem wpList_appG (hw : Region.wanted o (yielded ops a.tmps) = true) (s x : Operand) (ho : o.op = .call { callee := .builtin .append, args := #[s, x], argTypes := #[22, 22] }) (base : Nat) (v : Value) (L : List Int) (hs : a.eval s = v) (hown : OwnB w base v L)
    (ao : Option Addr) (m c : Nat) (N : List Int) (hx : a.eval x = .slice ao m c) (hm : m = N.length) (hN : Rowed w ao N c) (hb : L.length + m < 2199023255552) (hbase : base ≤ w.heap.size)
    (h : ∀ v' w', Hid (OwnB w' base v' (L ++ N)) → Hid (Gr w w' v v') → wpList Try.prog ops Q rest (a.put o.dst v') w') : wpList Try.prog ops Q (o :: rest) a w := by
  refine wpList_by hw fun K hK' => ?_
  rcases hN with ⟨rfl, rfl, rfl⟩ | ⟨ad, rfl, hc⟩
  · subst hm
    obtain ⟨i8, hi, hz0, hz1, hz2⟩ := info_parts info_u8
    have hrun := run_append_owned_none (P := Try.prog) w base 22 o.type 5 i8 1 (by kernel_rfl) hi v L.length (L.map (Value.int .u8)) hown
    unfold Oper.wp
    simp [execOp, ho, resolve, invoke, builtin, hs, hx, hrun, Result.andThen]
    exact hK' _ _ (h v w (by rw [List.append_nil]; exact hown) (Gr.refl _ _))
  · obtain ⟨v', w', hrun, h1, h2⟩ := run_app w base o.type v L hown ad m c N hm hc hb hbase
    unfold Oper.wp
    simp [execOp, ho, resolve, invoke, builtin, hs, hx, hrun, Result.andThen]
    exact hK' _ _ (h v' w' h1 h2)
end
theorem VotesIn.take {w : World} {ao : Option Addr} {cap : Nat} {ys : List VoteW} (h : VotesIn w ao cap ys) (k : Nat) : VotesIn w ao cap (ys.take k) :=
  ⟨Nat.le_trans (by rw [List.length_take]; omega) h.le, h.big, h.nil, fun j hj => by
    rw [List.length_take] at hj
    rw [List.getElem_take]
    exact h.at_ j (by omega)⟩
theorem VotesIn.drop {w : World} {b : Nat} {cap : Nat} {ys : List VoteW} (h : VotesIn w (some ⟨b, 0, none⟩) cap ys) (k : Nat) (hk : k ≤ ys.length) : VotesIn w (some ⟨b, k * 68, none⟩) (cap - k) (ys.drop k) :=
  ⟨by rw [List.length_drop]; have := h.le; omega, Nat.le_trans (Nat.sub_le _ _) h.big, (fun e => by cases e), fun j hj => by
    rw [List.length_drop] at hj
    rw [List.getElem_drop]
    obtain ⟨b', o, e, hv⟩ := h.at_ (k + j) (by omega)
    cases e
    exact ⟨b, k * 68, rfl, by rwa [show k * 68 + j * 68 = 0 + (k + j) * 68 by omega]⟩⟩
theorem OwnV.some {w : World} {base : Nat} {v : Value} {zs : List VoteW} (h : OwnV w base v zs) (hz : 0 < zs.length) : ∃ g cap, v = .slice (some ⟨g, 0, none⟩) zs.length cap ∧ VotesIn w (some ⟨g, 0, none⟩) cap zs ∧ base ≤ g ∧ g < w.heap.size := by
  have hlt := h.lt
  have hf := h.form
  rcases h.2 with ⟨_, h0⟩ | ⟨g, cap, cur, rfl, hb, hgg, rest⟩
  · omega
  · obtain ⟨ao, c, e, hv⟩ := hf
    injection e with e1 e2 e3
    subst e1 e3
    exact ⟨g, cap, rfl, hv, hb, lt_blk hgg⟩
theorem mixed_none (view : Int) (P : List Int) (b : Bd 1 1 view) (b' : Bd 1 1 (view + 1)) (k : Nat) (h1 : 1 ≤ k) (h2 : k ≤ 2) : provesR ring4 ((pvL 1 1 view P b 4).take k ++ (pvL 1 1 (view + 1) P b' 4).drop k) 1 9 P = none := by
  have e0 : (pvL 1 1 view P b 4).take k = pvL 1 1 view P b k := by unfold pvL; rw [← List.map_take, List.take_range]; congr 2; omega
  have hm : meetsR ring4 ((pvL 1 1 view P b 4).take k ++ (pvL 1 1 (view + 1) P b' 4).drop k) 1 1 view (sha P) = false := by
    have ht : toldL 1 1 view (sha P) ((pvL 1 1 view P b 4).take k ++ (pvL 1 1 (view + 1) P b' 4).drop k) = pvL 1 1 view P b k := by
      unfold toldL
      rw [List.take_of_length_le (by rw [List.length_append, List.length_take, List.length_drop, pvL_length, pvL_length]; omega), List.filter_append, e0]
      have f1 : (pvL 1 1 view P b k).filter (fun x => askedB 1 1 view (sha P) x.1) = pvL 1 1 view P b k := by
        rw [List.filter_eq_self]
        intro x hx
        unfold pvL at hx
        obtain ⟨i, -, rfl⟩ := List.mem_map.1 hx
        exact pv_asked 1 1 view P b i
      have f2 : ((pvL 1 1 (view + 1) P b' 4).drop k).filter (fun x => askedB 1 1 view (sha P) x.1) = [] := by
        rw [List.filter_eq_nil_iff]
        intro x hx
        have hx := List.mem_of_mem_drop hx
        unfold pvL at hx
        obtain ⟨i, -, rfl⟩ := List.mem_map.1 hx
        rw [pv_not 1 1 (view + 1) P b' i (sha P) (fun e => by omega)]; simp
      rw [f1, f2, List.append_nil]
    rw [meets_len (m := k) (by rw [ht, who_pvL _ _ _ _ _ (by omega)])]
    exact decide_eq_false (by omega)
  obtain ⟨k, rfl⟩ : ∃ j, k = j + 1 := ⟨k - 1, by omega⟩
  rw [e0] at hm ⊢
  rw [pvL_cons, List.cons_append] at hm ⊢
  rw [provesR_cons, show (pv 1 1 view P b 0).1.v = view from rfl, hm]
  simp
/-- what the line that mixes leaves, operation by operation -/
def mixSpec (g1 c1 g2 c2 k base : Nat) (l : List VoteW) : Nat → Value → World → Prop
  | 0, y, W => ∃ g, y = .slice (some ⟨g, 0, none⟩) 0 0 ∧ W.heap[g]? = some (.cells #[] 51 (0, 0))
  | 1, y, _ => y = .slice (some ⟨g1, 0, none⟩) 4 c1
  | 2, y, _ => y = .int .i64 (k : Int)
  | 3, y, _ => y = .slice (some ⟨g1, 0, none⟩) k c1
  | 4, y, W => OwnV W base y (l.take k)
  | 5, y, _ => y = .slice (some ⟨g2, 0, none⟩) 4 c2
  | 6, y, _ => y = .int .i64 (k : Int)
  | 7, y, _ => y = .slice (some ⟨g2, k * 68, none⟩) (4 - k) (c2 - k)
  | _, _, _ => True
section
variable {o : Oper} {a : Act} {w : World} {Q : Exit → Act → World → Prop} {K : Act → World → Prop}
theorem wp_appV_new (s x : Operand) (ho : o.op = .call { callee := .builtin .append, args := #[s, x], argTypes := #[23, 23] }) (g : Nat) (hs : a.eval s = .slice (some ⟨g, 0, none⟩) 0 0) (hg : w.heap[g]? = some (.cells #[] 51 (0, 0))) (ad : Addr) (m c : Nat) (ys : List VoteW) (hx : a.eval x = .slice (some ad) m c) (hm : m = ys.length) (hm0 : 0 < m) (hV : VotesIn w (some ad) c ys) (hb : m ≤ 1000)
    (h : ∀ v' w', OwnV w' w.heap.size v' ys → Below w.heap.size w w' → K (a.put o.dst v') w') : o.wp Try.prog a w K Q := by
  obtain ⟨v', w', hrun, h1, h2⟩ := run_appV_new w o.type g hg ad m c ys hm hm0 hV hb
  unfold Oper.wp
  simp [execOp, ho, resolve, invoke, builtin, hs, hx, hrun, Result.andThen]
  exact h v' w' h1 h2
theorem wp_appV (s x : Operand) (ho : o.op = .call { callee := .builtin .append, args := #[s, x], argTypes := #[23, 23] }) (base : Nat) (v : Value) (zs : List VoteW) (hs : a.eval s = v) (ad : Addr) (m c : Nat) (ys : List VoteW) (hx : a.eval x = .slice (some ad) m c) (hm : m = ys.length) (hown : OwnV w base v zs) (hV : VotesIn w (some ad) c ys) (hb : zs.length + m ≤ 1000) (hbase : base ≤ w.heap.size)
    (h : ∀ v' w', OwnV w' base v' (zs ++ ys) → Gr w w' v v' → K (a.put o.dst v') w') : o.wp Try.prog a w K Q := by
  obtain ⟨v', w', hrun, h1, h2⟩ := run_appV w base o.type v zs hown ad m c ys hm hV hb hbase
  unfold Oper.wp
  simp [execOp, ho, resolve, invoke, builtin, hs, hx, hrun, Result.andThen]
  exact h v' w' h1 h2
end
set_option maxRecDepth 10000 in
set_option maxHeartbeats 8000000 in
theorem ruleMixed_in (view : Int) (P : List Int) (ao : Option Addr) (cap k : Nat) (w : World) (v0 : 0 ≤ view) (v1 : view ≤ 7) (hP : P.length ≤ 100) (k1 : 1 ≤ k) (k2 : k ≤ 2) (hl : Lies w ao P) (hc : P.length ≤ cap) (hr : Rowed w ao P cap) (yP : BytesL P) :
    Calls Try.prog 8 #[.int .i64 view, .slice ao P.length cap, .int .i64 (k : Int)] w fun x w' => x = .returned (.bool true) ∧ Below w.heap.size w w' := by
  have e0 : ¬ (view < 0) := by omega
  have e1 : ¬ (7 < view) := by omega
  have e2 : ¬ ((100 : Int) < (P.length : Int)) := by omega
  have e3 : ¬ ((k : Int) < 1) := by omega
  have e4 : ¬ ((2 : Int) < (k : Int)) := by omega
  have ba : Bd 1 1 view := bd_in (by decide) (by decide) v0 (by omega) 1 (by decide) (by decide)
  have bb : Bd 1 1 (view + 1) := bd_in (by decide) (by decide) (by omega) (by omega) 1 (by decide) (by decide)
  have HL : Hid (Lies w ao P) := hl
  have HRw : Hid (Rowed w ao P cap) := hr
  have HP1 : Hid _ := mixed_none view P ba bb k k1 k2
  clear hl hr
  go_enter Try.func8, Try.ntmps8
  go_wp2_with (refine wpList_build_to rfl 30 _ rfl (row .u8 32 (oneF 1)) (by kernel_rfl) ?_)
  refine (sNew_any 4 (oneF 1) _ (by decide) (by decide)).mono ?_
  rintro x w1 ⟨rg, rfl, hrg, hR, hB1⟩
  rw [show nodesOf 4 = 4 by decide] at hR
  have HR : Hid (RingV w1 (.pointer (some ⟨rg, 0, none⟩)) ring4) := ⟨rg, rfl, hR⟩
  clear hR
  go_wp2_with (refine wpList_build_to rfl 30 _ rfl (row .u8 32 (oneF 1)) (by kernel_rfl) ?_)
  refine (rNew_any 4 (oneF 1) w1 (by decide) (by decide)).mono ?_
  rintro x w2 ⟨xg, rfl, hxg, hX, hB2⟩
  rw [show nodesOf 4 = 4 by decide] at hX
  have HX : Hid (RRing w2 xg (oneF 1) 4) := hX
  have HR2 : Hid (RingV w2 (.pointer (some ⟨rg, 0, none⟩)) ring4) := HR.out.below hB2
  have hBw2 : Below w.heap.size w w2 := hB1.trans (hB2.mono hB1.size)
  clear hX HR hB1 hB2
  go_wp2_with fail
  refine (votes7_any xg 4 1 view P ao cap w2 ba HX.out (HRw.out.below hBw2 (Nat.le_refl _)) (by omega)).mono ?_
  rintro x w3 ⟨v, rfl, hO, hB3⟩
  rw [show (min (4 : Int) 4).toNat = 4 by decide] at hO
  have hBw3 : Below w.heap.size w w3 := hBw2.trans (hB3.mono hBw2.size)
  have HX3 : Hid (RRing w3 xg (oneF 1) 4) := HX.out.below hB3
  obtain ⟨g1, c1, rfl, hV1, -, -⟩ := hO.some (by rw [pvL_length]; decide)
  rw [pvL_length]
  have HR3 : Hid (RingV w3 (.pointer (some ⟨rg, 0, none⟩)) ring4) := HR2.out.below hB3
  have HV1 : Hid (VotesIn w3 (some ⟨g1, 0, none⟩) c1 (pvL 1 1 view P ba 4)) := hV1
  clear hO hV1 hB3 HX HR2 hBw2
  go_wp2_with fail
  refine (votes7_any xg 4 1 (view + 1) P ao cap w3 bb HX3.out (HRw.out.below hBw3 (Nat.le_refl _)) (by omega)).mono ?_
  rintro x w4 ⟨v, rfl, hO, hB4⟩
  rw [show (min (4 : Int) 4).toNat = 4 by decide] at hO
  have hBw4 : Below w.heap.size w w4 := hBw3.trans (hB4.mono hBw3.size)
  obtain ⟨g2, c2, rfl, hV2, -, -⟩ := hO.some (by rw [pvL_length]; decide)
  rw [pvL_length]
  have HR4 : Hid (RingV w4 (.pointer (some ⟨rg, 0, none⟩)) ring4) := HR3.out.below hB4
  have HV1' : Hid (VotesIn w4 (some ⟨g1, 0, none⟩) c1 (pvL 1 1 view P ba 4)) := HV1.out.below hB4
  have HV2 : Hid (VotesIn w4 (some ⟨g2, 0, none⟩) c2 (pvL 1 1 (view + 1) P bb 4)) := hV2
  have hc1 : 4 ≤ c1 := by have := HV1.out.le; rwa [pvL_length] at this
  have hc2 : 4 ≤ c2 := by have := HV2.out.le; rwa [pvL_length] at this
  clear hO hV2 hB4 HX3 HR3 hBw3 HV1
  go_wp2_with fail
  have hk4 : k ≤ 4 := by omega
  have hsl1 : ∀ W : World, (Instr.slice 23 (.slice (some ⟨g1, 0, none⟩) 4 c1) none (some (.int .i64 (k : Int))) none).run Try.prog W = .ok (.slice (some ⟨g1, 0, none⟩) k c1) W := fun W => slice_votes_h g1 4 c1 k W (by omega)
  have hsl2 : ∀ W : World, (Instr.slice 23 (.slice (some ⟨g2, 0, none⟩) 4 c2) (some (.int .i64 (k : Int))) none none).run Try.prog W = .ok (.slice (some ⟨g2, k * 68, none⟩) (4 - k) (c2 - k)) W := fun W => slice_votes_l g2 4 c2 k W (by omega) (by omega)
  refine wp_region_pivot (by kernel_rfl) (by kernel_rfl) 8 (by decide) (by kernel_rfl) (by kernel_rfl) (fun xs => { tmps := (Value.int IntKind.i64 view :: Value.slice ao P.length cap :: Value.int IntKind.i64 (k : Int) :: undef :: undef :: undef :: Value.bool false :: Value.pointer (some (⟨rg, 0, none⟩ : Addr)) :: Value.pointer (some (⟨xg, 0, none⟩ : Addr)) :: Value.slice (some (⟨g1, 0, none⟩ : Addr)) 4 c1 :: Value.slice (some (⟨g2, 0, none⟩ : Addr)) 4 c2 :: xs 9 :: undef :: undef :: Value.int IntKind.i64 view :: Value.bool false :: Value.bool false :: Value.int IntKind.i64 view :: Value.bool false :: Value.bool false :: Value.bool false :: Value.slice ao P.length cap :: Value.int IntKind.i64 (P.length : Int) :: Value.bool false :: Value.bool false :: Value.bool false :: Value.int IntKind.i64 (k : Int) :: Value.bool false :: Value.bool false :: Value.bool false :: Value.int IntKind.i64 (k : Int) :: Value.bool false :: Value.bool false :: Value.agg (row IntKind.u8 32 (oneF 1)) :: Value.pointer (some (⟨rg, 0, none⟩ : Addr)) :: Value.agg (row IntKind.u8 32 (oneF 1)) :: Value.pointer (some (⟨xg, 0, none⟩ : Addr)) :: Value.pointer (some (⟨rg, 0, none⟩ : Addr)) :: Value.bool false :: Value.pointer (some (⟨xg, 0, none⟩ : Addr)) :: Value.int IntKind.i64 view :: Value.slice ao P.length cap :: Value.slice (some (⟨g1, 0, none⟩ : Addr)) 4 c1 :: Value.pointer (some (⟨xg, 0, none⟩ : Addr)) :: Value.int IntKind.i64 view :: Value.int IntKind.i64 (view + 1) :: Value.slice ao P.length cap :: Value.slice (some (⟨g2, 0, none⟩ : Addr)) 4 c2 :: xs 0 :: xs 1 :: xs 2 :: xs 3 :: xs 4 :: xs 5 :: xs 6 :: xs 7 :: xs 8 :: undef :: undef :: undef :: undef :: undef :: undef :: undef :: undef :: undef :: undef :: undef :: undef :: undef :: undef :: undef :: undef :: undef :: undef :: undef :: undef :: undef :: undef :: undef :: undef :: undef :: undef :: undef :: []).toArray, defers := [] })
    (mixSpec g1 c1 g2 c2 k w4.heap.size (pvL 1 1 view P ba 4)) (fun li xs W => Below w4.heap.size w4 W ∧ OwnV W w4.heap.size (xs 8) ((pvL 1 1 view P ba 4).take k ++ (pvL 1 1 (view + 1) P bb 4).drop k) ∧ (li 9 = true → xs 9 = xs 8)) (fun _ => undef) (by repeat (first | exact trivial | refine ⟨fun _ _ => rfl, ?_⟩))
    (by
      intro i y w w' h hs
      unfold mixSpec at *
      split at hs <;> first | exact hs | exact trivial | exact OwnV.below hs h | (obtain ⟨g, e, hl⟩ := hs; exact ⟨g, e, (h.block g (lt_blk hl)).trans hl⟩)) ⟨?_, ?_, ?_, ?_, ?_, ?_, ?_, ?_, ⟨rfl, ?_⟩, ?_, trivial⟩ ?_
  · intro xs W hB hp K hK
    rw [if_pos (wanted_none rfl _)]
    go_simp
    exact hK _ _ (below_alloc _ _) ⟨_, rfl, alloc_blk _ _⟩
  · intro xs W hB hp K hK
    rw [if_pos (wanted_none rfl _)]
    go_simp
    exact hK _ _ (Below.refl _ _) rfl
  · intro xs W hB hp K hK
    rw [if_pos (wanted_none rfl _)]
    go_simp
    exact hK _ _ (Below.refl _ _) rfl
  · intro xs W hB hp K hK
    have h1 : xs 1 = .slice (some ⟨g1, 0, none⟩) 4 c1 := hp.1 rfl
    have h2 : xs 2 = .int .i64 (k : Int) := hp.2.1 rfl
    clear hp
    rw [if_pos (wanted_none rfl _)]
    simp only [h1, h2] at hK ⊢
    go_simp
    exact hK _ _ (Below.refl _ _) rfl
  · intro xs W hB hp K hK
    obtain ⟨g, h0, hg⟩ : ∃ g, xs 0 = .slice (some ⟨g, 0, none⟩) 0 0 ∧ W.heap[g]? = some (.cells #[] 51 (0, 0)) := hp.1 rfl
    have h3 : xs 3 = .slice (some ⟨g1, 0, none⟩) k c1 := hp.2.1 rfl
    rw [if_pos (wanted_none rfl _)]
    refine wp_appV_new _ _ rfl g h0 hg ⟨g1, 0, none⟩ k c1 ((pvL 1 1 view P ba 4).take k) h3 (by rw [List.length_take, pvL_length]; omega) (by omega) ((HV1'.out.below hB).take k) (by omega) (fun v' w' h4 h5 => hK _ _ h5 (h4.mono hB.size))
  · intro xs W hB hp K hK
    rw [if_pos (wanted_none rfl _)]
    go_simp
    exact hK _ _ (Below.refl _ _) rfl
  · intro xs W hB hp K hK
    rw [if_pos (wanted_none rfl _)]
    go_simp
    exact hK _ _ (Below.refl _ _) rfl
  · intro xs W hB hp K hK
    have h1 : xs 5 = .slice (some ⟨g2, 0, none⟩) 4 c2 := hp.1 rfl
    have h2 : xs 6 = .int .i64 (k : Int) := hp.2.1 rfl
    clear hp
    rw [if_pos (wanted_none rfl _)]
    simp only [h1, h2] at hK ⊢
    go_simp
    exact hK _ _ (Below.refl _ _) rfl
  · intro li xs W hB hs hli K hK
    have h7 : xs 7 = .slice (some ⟨g2, k * 68, none⟩) (4 - k) (c2 - k) := hs 7 (by decide)
    have h4 : OwnV W w4.heap.size (xs 4) ((pvL 1 1 view P ba 4).take k) := hs 4 (by decide)
    refine wp_appV _ _ rfl w4.heap.size (xs 4) _ rfl ⟨g2, k * 68, none⟩ (4 - k) (c2 - k) ((pvL 1 1 (view + 1) P bb 4).drop k) h7 (by rw [List.length_drop, pvL_length]) h4 ((HV2.out.below hB).drop k (by rw [pvL_length]; omega)) (by rw [List.length_take, pvL_length]; omega) hB.size (fun v' w' h1 h2 => hK _ _ ⟨hB.trans (h2.below hB.size (fun q hq => (h4.lt q hq).1)), h1, fun e => ?_⟩)
    rw [upd_other _ _ (by decide), hli 9 (by decide)] at e; cases e
  · intro li xs W hF hli hp K hK
    rw [if_pos (wanted_none rfl _)]
    go_simp
    exact hK _ _ ⟨hF.1, hF.2.1, fun _ => rfl⟩
  · rintro li xs W ⟨hB, hO, he⟩ hall
    have h9 := he (hall 9 (by decide))
    simp only [h9]
    obtain ⟨zs, hzs⟩ : ∃ zs, (pvL 1 1 view P ba 4).take k ++ (pvL 1 1 (view + 1) P bb 4).drop k = zs := ⟨_, rfl⟩
    rw [hzs] at hO
    obtain ⟨la, lc, h8, hVin⟩ := hO.form
    have HV : Hid (VotesIn W la lc zs) := hVin
    have HP2 : Hid (provesR ring4 zs 1 9 P = none) := by have := HP1.out; rw [hzs] at this; exact this
    have HRW : Hid (RingV W (.pointer (some ⟨rg, 0, none⟩)) ring4) := HR4.out.below hB
    have hBW : Below w.heap.size w W := hBw4.trans (hB.mono hBw4.size)
    have HLW : Hid (Lies W ao P) := HL.out.below hBW (Nat.le_refl _)
    have HRR : Hid (Rowed W ao P cap) := HRw.out.below hBW (Nat.le_refl _)
    simp only [h8]
    clear h9 h8 he hO hall hVin hzs HP1 HR4 hBw4 HV1' HV2 hB hsl1 hsl2 HL HRw
    go_wp2_with fail
    refine (proves_any _ ring4 la lc zs 1 9 P ao cap W HRW.out (by decide) HV.out HLW.out hc (by omega)).mono ?_
    rintro x w5 ⟨rfl, hB5⟩
    rw [HP2.out]
    have HR5 : Hid (RingV w5 (.pointer (some ⟨rg, 0, none⟩)) ring4) := HRW.out.below hB5
    have HV5 : Hid (VotesIn w5 la lc zs) := HV.out.below hB5
    have HL5 : Hid (Lies w5 ao P) := HLW.out.below hB5 (Nat.le_refl _)
    have HRR5 : Hid (Rowed w5 ao P cap) := HRR.out.below hB5 (Nat.le_refl _)
    have hBw5 : Below w.heap.size w w5 := hBW.trans (hB5.mono hBW.size)
    clear hB5 HRW HV HLW HRR hBW
    simp only [provedV, Option.getD_none, Option.isSome_none]
    have HO6 : Hid (OwnB (w5.alloc (.cells #[.int .u8 1] 5)) w5.heap.size (.slice (some ⟨w5.heap.size, 0, none⟩) 1 1) [1]) := ⟨rfl, .inr ⟨w5.heap.size, 1, _, rfl, Nat.le_refl _, alloc_blk _ _, Nat.le_refl _, by unfold maxLen; omega, rfl, rfl⟩⟩
    have HRR6 : Hid (Rowed (w5.alloc (.cells #[.int .u8 1] 5)) ao P cap) := HRR5.out.below (below_alloc _ _) (Nat.le_refl _)
    have HS6 : Hid (w5.heap.size ≤ (w5.alloc (.cells #[.int .u8 1] 5)).heap.size) := by show _ ≤ (w5.heap.push _).size; simp
    go_wp2_with (at_builtin; refine wpList_appG ?_ _ _ rfl w5.heap.size (.slice (some ⟨w5.heap.size, 0, none⟩) 1 1) [1] ?_ HO6.out ao P.length cap P ?_ ?_ HRR6.out ?_ HS6.out ?_; kernel_rfl; rfl; rfl; rfl; (simp; omega))
    intro v6 w6 HO7 HG7
    obtain ⟨va, vn, vc, rfl, HF7⟩ := HO7.out.form
    have hB56 : Below w5.heap.size w5 w6 := (below_alloc _ _).trans (HG7.out.below HS6.out (fun q hq => (HO6.out.lt q hq).1))
    have HR6 : Hid (RingV w6 (.pointer (some ⟨rg, 0, none⟩)) ring4) := HR5.out.below hB56
    have HV6 : Hid (VotesIn w6 la lc zs) := HV5.out.below hB56
    have HL6 : Hid (Lies w6 ao P) := HL5.out.below hB56 (Nat.le_refl _)
    have HRR7 : Hid (Rowed w6 ao P cap) := HRR5.out.below hB56 (Nat.le_refl _)
    have hBw6 : Below w.heap.size w w6 := hBw5.trans (hB56.mono hBw5.size)
    have HM : Hid (mayR ring4 0 ([1] ++ P) 1 9 P zs = false) := by
      show _ = _
      unfold mayR
      rw [HP2.out, decide_eq_false (show ¬ [1] ++ P = P from fun e => by have := congrArg List.length e; simp at this), decide_eq_false (show ¬ (0 : Int) = -1 by decide)]
      rfl
    have HY : Hid (BytesL ([1] ++ P)) := fun y hy => by
      rcases List.mem_append.1 hy with h | h
      · rw [List.mem_singleton] at h; subst h; exact ⟨by decide, by decide⟩
      · exact yP y h
    clear hB56 HR5 HV5 HL5 HRR5 hBw5 HO7 HG7 HO6 HRR6 HS6 HP2
    go_wp2_with fail
    obtain ⟨hvn, hvc, hvR⟩ := HF7.out
    subst hvn
    refine (may_any _ ring4 0 ([1] ++ P) va vc (.slice none 0 0) 1 9 P ao cap la lc zs w6 HR6.out (by decide) HV6.out hvR HRR7.out HL6.out hc (by omega) HY.out yP ⟨_, _, _, rfl⟩).mono ?_
    rintro x w7 ⟨rfl, hB7⟩
    rw [HM.out]
    have hBw7 : Below w.heap.size w w7 := hBw6.trans (hB7.mono hBw6.size)
    clear hB7 HR6 HV6 HL6 HRR7 hBw6 HM HY hvR HF7
    go_wp2_with fail
    refine (known7_any w7).mono ?_
    rintro x w8 ⟨rfl, hB8⟩
    have hBw8 : Below w.heap.size w w8 := hBw7.trans (hB8.mono hBw7.size)
    clear hB8 hBw7
    go_wp2_with fail
    go_ret
    exact ⟨rfl, hBw8⟩
set_option maxRecDepth 10000 in
set_option maxHeartbeats 4000000 in
theorem ruleMixed_any (view : Int) (P : List Int) (ao : Option Addr) (cap : Nat) (n : Int) (w : World) (hl : Lies w ao P) (hc : P.length ≤ cap) (hr : Rowed w ao P cap) (yP : BytesL P) :
    Calls Try.prog 8 #[.int .i64 view, .slice ao P.length cap, .int .i64 n] w fun x w' => x = .returned (.bool true) ∧ Below w.heap.size w w' := by
  by_cases z0 : view < 0
  · go_enter Try.func8, Try.ntmps8
    go_wp2_with fail
    go_ret
    exact ⟨rfl, Below.refl _ _⟩
  by_cases z1 : 7 < view
  · go_enter Try.func8, Try.ntmps8
    go_wp2_with fail
    go_ret
    exact ⟨rfl, Below.refl _ _⟩
  by_cases z2 : (100 : Int) < (P.length : Int)
  · go_enter Try.func8, Try.ntmps8
    go_wp2_with fail
    go_ret
    exact ⟨rfl, Below.refl _ _⟩
  by_cases z3 : n < 1
  · go_enter Try.func8, Try.ntmps8
    go_wp2_with fail
    go_ret
    exact ⟨rfl, Below.refl _ _⟩
  by_cases z4 : 2 < n
  · go_enter Try.func8, Try.ntmps8
    go_wp2_with fail
    go_ret
    exact ⟨rfl, Below.refl _ _⟩
  obtain ⟨m, rfl⟩ : ∃ m : Nat, n = (m : Int) := ⟨n.toNat, by omega⟩
  exact ruleMixed_in view P ao cap m w (by omega) (by omega) (by omega) (by omega) (by omega) hl hc hr yP
end Go.Proofs.Yticpkpphjpgdbaa
namespace Go.Inv
open Go Go.RowKit
section
variable {P : Program} {Q : Exit → Act → World → Prop}
/-- One operation of such a region whose answer is none that another one has given. -/
def GStepD (P : Program) (ops : Array Oper) (Q : Exit → Act → World → Prop) (A : (Nat → Value) → Act) (spec : Nat → Value → World → Prop) (w : World) (d k : Nat) (o : Oper) : Prop :=
  ∀ (xs : Nat → Value) (W : World), Below w.heap.size w W → Preds spec xs W o.after.toList → ∀ K : Act → World → Prop, (∀ v w', Below W.heap.size W w' → spec k v w' → (∀ x, spec d x W → x ≠ v) → K ((A xs).put o.dst v) w') →
    if Region.wanted o (yielded ops (A xs).tmps) = true then o.wp P (A xs) W K Q else K ((A xs).put o.dst undef) W
/-- One operation of such a region. -/
def DStep (P : Program) (ops : Array Oper) (Q : Exit → Act → World → Prop) (A : (Nat → Value) → Act) (spec : Nat → Value → World → Prop) (F : (Nat → Bool) → (Nat → Value) → World → Prop) (w : World) (p d1 d2 k : Nat) (o : Oper) : Prop :=
  if k = d1 then GStepD P ops Q A spec w d2 k o
  else if k = d2 then GStepD P ops Q A spec w d1 k o
  else if k < p then GStepG P ops Q A spec w k o
  else if k = p then o.guard = none ∧ ∀ (li : Nat → Bool) (xs : Nat → Value) (W : World), Below w.heap.size w W → (∀ i, i < p → spec i (xs i) W) → (∀ i, p < i → li i = false) → xs d1 ≠ xs d2 → ∀ K : Act → World → Prop, (∀ v w', F (upd li p true) (upd xs p v) w' → K ((A xs).put o.dst v) w') → o.wp P (A xs) W K Q
  else IStep P ops Q A F k o
def DSteps (P : Program) (ops : Array Oper) (Q : Exit → Act → World → Prop) (A : (Nat → Value) → Act) (spec : Nat → Value → World → Prop) (F : (Nat → Bool) → (Nat → Value) → World → Prop) (w : World) (p d1 d2 : Nat) : Nat → List Oper → Prop
  | _, [] => True
  | k, o :: r => DStep P ops Q A spec F w p d1 d2 k o ∧ DSteps P ops Q A spec F w p d1 d2 (k + 1) r
theorem DSteps.at {ops : Array Oper} {A : (Nat → Value) → Act} {spec : Nat → Value → World → Prop} {F : (Nat → Bool) → (Nat → Value) → World → Prop} {w : World} {p d1 d2 : Nat} : ∀ {l : List Oper} {k : Nat}, DSteps P ops Q A spec F w p d1 d2 k l → ∀ {i : Nat} {o : Oper}, l[i]? = some o → DStep P ops Q A spec F w p d1 d2 (k + i) o
  | [], _, _, i, o, ho => by simp at ho
  | x :: l, k, h, 0, o, ho => by simp at ho; subst ho; exact h.1
  | x :: l, k, h, i + 1, o, ho => by
    have := DSteps.at h.2 (i := i) (o := o) (by simpa using ho)
    rwa [show k + 1 + i = k + (i + 1) by omega] at this
theorem wp_region_pivotD {id : Nat} {l : List Oper} {w : World} (hm : P.follows .mixedOrders = true) (hb : back l.toArray = true) (p d1 d2 : Nat) (hpl : p < l.length) (hd1 : d1 < p) (hd2 : d2 < p) (hdd : d1 ≠ d2)
    (hw0 : ((List.range p).all fun i => waitsFor l.toArray 16 p i) = true) (hw1 : ((List.range (l.length - (p + 1))).all fun i => waitsFor l.toArray 16 (p + 1 + i) p) = true)
    (A : (Nat → Value) → Act) (spec : Nat → Value → World → Prop) (F : (Nat → Bool) → (Nat → Value) → World → Prop) (xs : Nat → Value) (hput : Puts A 0 l)
    (hstab : ∀ i v w w', Below w.heap.size w w' → spec i v w → spec i v w')
    (hstep : DSteps P l.toArray Q A spec F w p d1 d2 0 l)
    (hend : ∀ (li : Nat → Bool) (xs : Nat → Value) (W : World), F li xs W → (∀ i, i < l.length → li i = true) → Q .normal (A xs) W) :
    (Code.region id l.toArray true).wp P Q (A xs) w := by
  refine wp_region_inv hm hb A (fun li xs W => Closed l.toArray li ∧ (∀ i, l.length ≤ i → li i = false) ∧ (li p = false → Below w.heap.size w W ∧ (∀ i, li i = true → spec i (xs i) W) ∧ (li d1 = true → li d2 = true → xs d1 ≠ xs d2)) ∧ (li p = true → F li xs W)) xs
    ⟨(fun _ _ _ h => by cases h), (fun _ _ => rfl), fun _ => ⟨(Below.refl _ _).drew, (fun i h => by cases h), fun h => by cases h⟩, fun h => by cases h⟩ ?_ (fun li xs W hI hall => hend li xs W (hI.2.2.2 (hall p (by simpa using hpl))) (fun i hi => hall i (by simpa using hi)))
  rintro li xs W i o ⟨hc, hz, h0, h1⟩ ho hli hp
  have ho' : l[i]? = some o := by simpa using ho
  have hil : i < l.length := (List.getElem?_eq_some_iff.1 ho').1
  have hst := hstep.at ho'
  have hpt := hput.at ho'
  rw [Nat.zero_add] at hst hpt
  have hz' : ∀ j, l.length ≤ j → upd li i true j = false := fun j hj => by rw [upd_other _ _ (by omega)]; exact hz j hj
  have hc' : Closed l.toArray (upd li i true) := fun j q hq hj e he hbd => by
    by_cases hji : j = i
    · subst hji
      rw [ho] at hq; cases hq
      by_cases hei : e.on = j
      · rw [hei, upd_same]
      · rw [upd_other _ _ hei]; exact hp e he hbd
    · rw [upd_other _ _ hji] at hj
      by_cases hei : e.on = i
      · rw [hei, upd_same]
      · rw [upd_other _ _ hei]; exact hc j q hq hj e he hbd
  unfold wpOp
  rw [ho]
  show if Region.wanted o _ = true then _ else _
  unfold DStep at hst
  by_cases hip : i < p
  · have hpf : li p = false := by
      cases e : li p with
      | false => rfl
      | true =>
        have := waitsFor_spec hc 16 p i (List.all_eq_true.1 hw0 i (by simpa using hip)) e
        rw [this] at hli; cases hli
    obtain ⟨hB, hs, hdis⟩ := h0 hpf
    have hgo : ((¬ (i = d1 ∨ i = d2)) ∧ GStepG P l.toArray Q A spec w i o) ∨ (∃ d, ((i = d1 ∧ d = d2) ∨ (i = d2 ∧ d = d1)) ∧ GStepD P l.toArray Q A spec w d i o) := by
      by_cases e1 : i = d1
      · rw [if_pos e1] at hst; exact .inr ⟨d2, .inl ⟨e1, rfl⟩, hst⟩
      · rw [if_neg e1] at hst
        by_cases e2 : i = d2
        · rw [if_pos e2] at hst; exact .inr ⟨d1, .inr ⟨e2, rfl⟩, hst⟩
        · rw [if_neg e2, if_pos hip] at hst; exact .inl ⟨fun e => e.elim e1 e2, hst⟩
    have hpr : Preds spec xs W o.after.toList := Preds.of fun e he hbd => hs _ (hp e (by simpa using he) hbd)
    have key : ∀ v w', Below W.heap.size W w' → spec i v w' → ((i = d1 → li d2 = true → v ≠ xs d2) ∧ (i = d2 → li d1 = true → xs d1 ≠ v)) →
        ∃ v', (A xs).put o.dst v = A (upd xs i v') ∧ Closed l.toArray (upd li i true) ∧ (∀ j, l.length ≤ j → upd li i true j = false) ∧ (upd li i true p = false → Below w.heap.size w w' ∧ (∀ j, upd li i true j = true → spec j (upd xs i v' j) w') ∧ (upd li i true d1 = true → upd li i true d2 = true → upd xs i v' d1 ≠ upd xs i v' d2)) ∧ (upd li i true p = true → F (upd li i true) (upd xs i v') w') := fun v w' hB' hv hd => by
      refine ⟨v, hpt xs v, hc', hz', fun _ => ⟨hB.trans (hB'.mono hB.size), fun j hj => ?_, fun u1 u2 => ?_⟩, fun e => ?_⟩
      · by_cases hji : j = i
        · subst hji; rw [upd_same]; exact hv
        · rw [upd_other _ _ hji] at hj ⊢
          exact hstab _ _ _ _ hB' (hs j hj)
      · by_cases e1 : d1 = i
        · subst e1
          rw [upd_other _ _ (Ne.symm hdd)] at u2
          rw [upd_same, upd_other _ _ (Ne.symm hdd)]
          exact hd.1 rfl u2
        · rw [upd_other _ _ e1] at u1
          by_cases e2 : d2 = i
          · subst e2
            rw [upd_same, upd_other _ _ hdd]
            exact hd.2 rfl u1
          · rw [upd_other _ _ e2] at u2
            rw [upd_other _ _ e1, upd_other _ _ e2]; exact hdis u1 u2
      · rw [upd_other _ _ (by omega), hpf] at e; cases e
    rcases hgo with ⟨hno, hst⟩ | ⟨d, hd, hst⟩
    · have h := hst xs W hB hpr (fun a' w' => ∃ v, a' = A (upd xs i v) ∧ Closed l.toArray (upd li i true) ∧ (∀ j, l.length ≤ j → upd li i true j = false) ∧ (upd li i true p = false → Below w.heap.size w w' ∧ (∀ j, upd li i true j = true → spec j (upd xs i v j) w') ∧ (upd li i true d1 = true → upd li i true d2 = true → upd xs i v d1 ≠ upd xs i v d2)) ∧ (upd li i true p = true → F (upd li i true) (upd xs i v) w')) (fun v w' hB' hv => key v w' hB' hv ⟨fun e => absurd (.inl e) hno, fun e => absurd (.inr e) hno⟩)
      split
      · rename_i hw; rw [if_pos hw] at h; exact .inl h
      · rename_i hw; rw [if_neg hw] at h; exact h
    · have h := hst xs W hB hpr (fun a' w' => ∃ v, a' = A (upd xs i v) ∧ Closed l.toArray (upd li i true) ∧ (∀ j, l.length ≤ j → upd li i true j = false) ∧ (upd li i true p = false → Below w.heap.size w w' ∧ (∀ j, upd li i true j = true → spec j (upd xs i v j) w') ∧ (upd li i true d1 = true → upd li i true d2 = true → upd xs i v d1 ≠ upd xs i v d2)) ∧ (upd li i true p = true → F (upd li i true) (upd xs i v) w')) (fun v w' hB' hv hne => key v w' hB' hv ⟨fun e u => by
          rcases hd with ⟨_, rfl⟩ | ⟨e', _⟩
          · exact Ne.symm (hne _ (hs _ u))
          · exact absurd (e.symm.trans e') hdd, fun e u => by
          rcases hd with ⟨e', _⟩ | ⟨_, rfl⟩
          · exact absurd (e'.symm.trans e) hdd
          · exact hne _ (hs _ u)⟩)
      split
      · rename_i hw; rw [if_pos hw] at h; exact .inl h
      · rename_i hw; rw [if_neg hw] at h; exact h
  · rw [if_neg (by omega), if_neg (by omega), if_neg hip] at hst
    by_cases hie : i = p
    · subst hie
      rw [if_pos rfl] at hst
      obtain ⟨hg, hst⟩ := hst
      obtain ⟨hB, hs, hdis⟩ := h0 hli
      have hall : ∀ j, j < i → li j = true := fun j hj => by
        have hcl := waitsFor_spec hc' 16 i j (List.all_eq_true.1 hw0 j (by simpa using hj)) (upd_same _ _ _)
        rwa [upd_other _ _ (by omega)] at hcl
      have hno : ∀ j, i < j → li j = false := fun j hj => by
        by_cases hjl : j < l.length
        · cases e : li j with
          | false => rfl
          | true =>
            have := waitsFor_spec hc 16 j i (by have := List.all_eq_true.1 hw1 (j - (i + 1)) (by simp; omega); rwa [show i + 1 + (j - (i + 1)) = j by omega] at this) e
            rw [this] at hli; cases hli
        · exact hz j (by omega)
      rw [if_pos (wanted_none hg _)]
      refine .inl (hst li xs W hB (fun j hj => hs j (hall j hj)) hno (hdis (hall _ hd1) (hall _ hd2)) _ fun v w' hF => ?_)
      exact ⟨v, hpt xs v, hc', hz', (fun e => by rw [upd_same] at e; cases e), fun _ => hF⟩
    · rw [if_neg hie] at hst
      have hpt' : li p = true := by
        have h2 := waitsFor_spec hc' 16 i p (by have := List.all_eq_true.1 hw1 (i - (p + 1)) (by simp; omega); rwa [show p + 1 + (i - (p + 1)) = i by omega] at this) (upd_same _ _ _)
        rwa [upd_other _ _ (by omega)] at h2
      have h := hst li xs W (h1 hpt') hli (PredsB.of fun e he hbd => hp e (by simpa using he) hbd) (fun a' w' => ∃ v, a' = A (upd xs i v) ∧ Closed l.toArray (upd li i true) ∧ (∀ j, l.length ≤ j → upd li i true j = false) ∧ (upd li i true p = false → Below w.heap.size w w' ∧ (∀ j, upd li i true j = true → spec j (upd xs i v j) w') ∧ (upd li i true d1 = true → upd li i true d2 = true → upd xs i v d1 ≠ upd xs i v d2)) ∧ (upd li i true p = true → F (upd li i true) (upd xs i v) w')) (fun v w' hF => ⟨v, hpt xs v, hc', hz', (fun e => by rw [upd_other _ _ (by omega), hpt'] at e; cases e), fun _ => hF⟩)
      split
      · rename_i hw; rw [if_pos hw] at h; exact .inl h
      · rename_i hw; rw [if_neg hw] at h; exact h
end
end Go.Inv
namespace Go.Proofs.Yticpkpphjpgdbaa
open Go.RowKit Go.Dig Go.Sha Go.Inv Go.Oct

def gotB (o : Option Int) (K : List Int) : List Int := match o with
  | some _ => K
  | none => []
def gotV (o : Option Int) (ys : List VoteW) : List VoteW := match o with
  | some _ => ys
  | none => []
/-- a lock as Higher lays it -/
def LockG (W : World) (base : Nat) (y : Value) (o : Option Int) (K : List Int) (ys : List VoteW) : Prop := ∃ x z, y = .agg #[.int .i64 (o.getD (-1)), x, z] ∧ OwnB W base x (gotB o K) ∧ OwnV W base z (gotV o ys)
theorem LockG.below {W W' : World} {base : Nat} {y : Value} {o : Option Int} {K : List Int} {ys : List VoteW} (h : LockG W base y o K ys) (hB : Below W.heap.size W W') : LockG W' base y o K ys := by
  obtain ⟨x, z, e, h1, h2⟩ := h
  exact ⟨x, z, e, h1.below hB, h2.below hB⟩
/-- a lock as it comes in -/
structure LockIn (w : World) (K : List Int) (ka : Option Addr) (kc : Nat) (ys : List VoteW) (va : Option Addr) (vc : Nat) : Prop where
  row : Rowed w ka K kc
  lies : Lies w ka K
  le : K.length ≤ kc
  lt : K.length < 274877906944
  votes : VotesIn w va vc ys
  few : ys.length ≤ 1000
theorem LockIn.below {w w' : World} {K : List Int} {ka : Option Addr} {kc : Nat} {ys : List VoteW} {va : Option Addr} {vc : Nat} (h : LockIn w K ka kc ys va vc) (hB : Below w.heap.size w w') : LockIn w' K ka kc ys va vc :=
  ⟨h.row.below hB (Nat.le_refl _), h.lies.below hB (Nat.le_refl _), h.le, h.lt, h.votes.below hB, h.few⟩
section
variable {o : Oper} {a : Act} {w : World} {Q : Exit → Act → World → Prop} {K : Act → World → Prop}
theorem wp_appR0 (s x : Operand) (ho : o.op = .call { callee := .builtin .append, args := #[s, x], argTypes := #[22, 22] }) (hs : a.eval s = .slice none 0 0) (ao : Option Addr) (m c : Nat) (N : List Int) (hx : a.eval x = .slice ao m c) (hm : m = N.length) (hN : Rowed w ao N c) (hb : m < 1099511627776)
    (h : ∀ v' w', OwnB w' w.heap.size v' N → Below w.heap.size w w' → K (a.put o.dst v') w') : o.wp Try.prog a w K Q := by
  have hown := OwnB.nil w w.heap.size
  rcases hN with ⟨rfl, rfl, rfl⟩ | ⟨ad, rfl, hc⟩
  · subst hm
    obtain ⟨i8, hi, hz0, hz1, hz2⟩ := info_parts info_u8
    have hrun := run_append_owned_none (P := Try.prog) w w.heap.size 22 o.type 5 i8 1 (by kernel_rfl) hi (.slice none 0 0) 0 [] hown
    unfold Oper.wp
    simp [execOp, ho, resolve, invoke, builtin, hs, hx, hrun, Result.andThen]
    exact h _ w hown (Below.refl _ _)
  · obtain ⟨v', w', hrun, h1, h2⟩ := run_app w w.heap.size o.type _ [] hown ad m c N hm hc (by simp; omega) (Nat.le_refl _)
    unfold Oper.wp
    simp [execOp, ho, resolve, invoke, builtin, hs, hx, hrun, Result.andThen]
    exact h v' w' h1 (h2.below (Nat.le_refl _) (fun k hk => by cases hk))
theorem wp_appV0 (s x : Operand) (ho : o.op = .call { callee := .builtin .append, args := #[s, x], argTypes := #[23, 23] }) (hs : a.eval s = .slice none 0 0) (ao : Option Addr) (m c : Nat) (ys : List VoteW) (hx : a.eval x = .slice ao m c) (hm : m = ys.length) (hV : VotesIn w ao c ys) (hb : m ≤ 1000)
    (h : ∀ v' w', OwnV w' w.heap.size v' ys → Below w.heap.size w w' → K (a.put o.dst v') w') : o.wp Try.prog a w K Q := by
  have hown := OwnV.nil w w.heap.size
  cases ao with
  | none =>
    have hc := hV.nil rfl
    have hl := hV.le
    obtain rfl : ys = [] := List.eq_nil_of_length_eq_zero (by omega)
    subst hm hc
    obtain ⟨i8, hi, hz0, hz1, hz2⟩ := info_parts info_vote
    have hrun := run_append_owned_none (P := Try.prog) w w.heap.size 23 o.type 51 i8 68 (by kernel_rfl) hi (.slice none 0 0) 0 [] hown
    unfold Oper.wp
    simp [execOp, ho, resolve, invoke, builtin, hs, hx, hrun, Result.andThen]
    exact h _ w hown (Below.refl _ _)
  | some ad =>
    obtain ⟨v', w', hrun, h1, h2⟩ := run_appV w w.heap.size o.type _ [] hown ad m c ys hm hV (by simp; omega) (Nat.le_refl _)
    unfold Oper.wp
    simp [execOp, ho, resolve, invoke, builtin, hs, hx, hrun, Result.andThen]
    exact h v' w' h1 (h2.below (Nat.le_refl _) (fun k hk => by cases hk))
end
section
variable {ops : Array Oper} {rest : List Oper} {o : Oper} {a : Act} {w : World} {Q : Exit → Act → World → Prop}
theorem wpList_put_lock (hgd : o.guard = none) (x y : Operand) (ho : o.op = .store 25 x y) (g : Nat) (c0 c1 c2 d0 d1 d2 : Value) (hx : a.eval x = .pointer (some ⟨g, 0, none⟩)) (hy : a.eval y = .agg #[c0, c1, c2]) (t : TypeId) (hg : w.heap[g]? = some (.cells #[d0, d1, d2] t (0, 0)))
    (h1 : (#[c0, c1, c2] : Array Value).all (·.oneCell') = true) (h : ∀ w', w'.heap[g]? = some (.cells #[c0, c1, c2] t (0, 0)) → Keeps g w w' → wpList Try.prog ops Q rest (a.put o.dst undef) w') : wpList Try.prog ops Q (o :: rest) a w :=
  wpList_store_blk hgd 25 x y ho g #[c0, c1, c2] hx hy t _ hg (lock_info _ _ _) rfl h1 (h _ (setRow_at hg _) ⟨rfl, rfl, rfl, by simp, fun k _ hk => heap_setRow_other _ _ hk⟩)
end
theorem OwnB.keep {w w' : World} {base g : Nat} {v : Value} {L : List Int} (h : OwnB w base v L) (hk : Keeps g w w') (hg : g < base) : OwnB w' base v L := h.same fun k hk' => hk.block k (h.lt k hk').2 (fun e => by have := (h.lt k hk').1; omega)
theorem OwnV.keep {w w' : World} {base g : Nat} {v : Value} {zs : List VoteW} (h : OwnV w base v zs) (hk : Keeps g w w') (hg : g < base) : OwnV w' base v zs := h.same fun k hk' => hk.block k (h.lt k hk').2 (fun e => by have := (h.lt k hk').1; omega)
theorem OwnB.one {w : World} {base : Nat} {v : Value} {L : List Int} (h : OwnB w base v L) : v.oneCell' = true := by obtain ⟨a, n, c, rfl, -⟩ := h.form; rfl
theorem OwnV.one {w : World} {base : Nat} {v : Value} {zs : List VoteW} (h : OwnV w base v zs) : v.oneCell' = true := by obtain ⟨a, c, rfl, -⟩ := h.form; rfl
theorem lock_one {c0 c1 c2 : Value} (h0 : c0.oneCell' = true) (h1 : c1.oneCell' = true) (h2 : c2.oneCell' = true) : (#[c0, c1, c2] : Array Value).all (·.oneCell') = true := by simp [h0, h1, h2]
theorem two_new (w : World) (o0 o1 : Obj) {W : World} (hW : (w.alloc o0).alloc o1 = W) : W.heap.size = w.heap.size + 2 ∧ W.heap[w.heap.size]? = some o0 ∧ W.heap[w.heap.size + 1]? = some o1 ∧ Below w.heap.size w W := by
  subst hW
  refine ⟨by simp, ?_, ?_, ((Below.refl _ w).alloc (Nat.le_refl _) _).alloc (by simp) _⟩
  all_goals
    have hp : ∀ (X : World) (o : Obj), (X.alloc o).heap = X.heap.push o := fun _ _ => rfl
    simp only [hp, Array.getElem?_push, Array.size_push]
    simp
/-- what the copy's line leaves, operation by operation -/
def cpSpec (b base : Nat) (v : Int) (K : List Int) (ka : Option Addr) (kc : Nat) (ys : List VoteW) (va : Option Addr) (vc : Nat) : Nat → Value → World → Prop
  | 0, y, _ => y = .int .i64 v
  | 1, y, _ => y = .pointer (some ⟨b, 1, none⟩)
  | 2, y, _ => y = .slice ka K.length kc
  | 3, y, W => OwnB W base y K
  | 4, y, _ => y = .pointer (some ⟨b, 2, none⟩)
  | 5, y, _ => y = .slice va ys.length vc
  | 6, y, W => OwnV W base y ys
  | 7, y, W => ∃ x z, y = .agg #[.int .i64 v, x, z] ∧ OwnB W base x K ∧ OwnV W base z ys
  | _, _, _ => True
set_option maxRecDepth 10000 in
set_option maxHeartbeats 2000000 in
theorem lproved_any (pr : Value) (R : RingO) (kv : Int) (K : List Int) (ka : Option Addr) (kc : Nat) (ys : List VoteW) (va : Option Addr) (vc : Nat) (slot below : Int) (w : World) (hR : RingV w pr R) (hn : nodesR R ≤ 10) (hK : LockIn w K ka kc ys va vc) :
    Calls Try.prog 33 #[.agg #[.int .i64 kv, .slice ka K.length kc, .slice va ys.length vc], pr, .int .i64 slot, .int .i64 below] w fun e w' => ∃ y, e = .returned y ∧ LockG w' w.heap.size y (provesR R ys slot below K) K ys ∧ Below w.heap.size w w' := by
  obtain ⟨a, rfl⟩ := hR.form
  obtain ⟨W, hW⟩ : ∃ W, (w.alloc (.cells #[.int .i64 kv, .slice ka K.length kc, .slice va ys.length vc] 25)).alloc (.cells #[.int .i64 0, .slice none 0 0, .slice none 0 0] 25) = W := ⟨_, rfl⟩
  obtain ⟨hs, hb0, hb1, hBw⟩ := two_new w _ _ hW
  have HR : Hid (RingV W (.pointer a) R) := hR.below hBw
  have HK : Hid (LockIn W K ka kc ys va vc) := hK.below hBw
  have HB0 : Hid _ := hb0
  have HB1 : Hid _ := hb1
  have HS : Hid (W.heap.size = w.heap.size + 2) := hs
  have HPD : Hid (∃ d, Try.prog.underlying 25 = some d ∧ (match d with | .struct _ | .array _ _ => true | _ => false) = true) := lock_rowM
  have hc1 : W.cell? ⟨w.heap.size, 1, none⟩ = some (.slice ka K.length kc) := (cell_blk hb0 1).trans rfl
  have hc2 : W.cell? ⟨w.heap.size, 2, none⟩ = some (.slice va ys.length vc) := (cell_blk hb0 2).trans rfl
  clear hb0 hb1 hs hR hK
  go_enter Try.func33, Try.ntmps33
  go_wp2_with fail
  clear hW
  refine (proves_any (.pointer a) R va vc ys slot below K ka kc W HR.out hn HK.out.votes HK.out.lies HK.out.le HK.out.lt).mono ?_
  rintro e w2 ⟨rfl, hB2⟩
  have HB2 : Hid (w2.heap[w.heap.size + 1]? = some (.cells #[.int .i64 0, .slice none 0 0, .slice none 0 0] 25 (0, 0))) := (hB2.block _ (lt_blk HB1.out)).trans HB1.out
  have HA2 : Hid (w2.heap[w.heap.size]? = some (.cells #[.int .i64 kv, .slice ka K.length kc, .slice va ys.length vc] 25 (0, 0))) := (hB2.block _ (lt_blk HB0.out)).trans HB0.out
  have HK2 : Hid (LockIn w2 K ka kc ys va vc) := HK.out.below hB2
  have hBw2 : Below w.heap.size w w2 := hBw.trans (hB2.mono hBw.size)
  have hz2 : w.heap.size + 2 ≤ w2.heap.size := by have := hB2.size; have := HS.out; omega
  clear hB2 HB0 HB1 HS HK HR hc1 hc2 hBw
  cases hp : provesR R ys slot below K with
  | none =>
    simp only [provedV, Option.getD_none, Option.isSome_none]
    go_wp2_with fail
    refine (free_any w2).mono ?_
    rintro e w3 ⟨rfl, hB3⟩
    have HB3 : Hid (w3.heap[w.heap.size + 1]? = some (.cells #[.int .i64 0, .slice none 0 0, .slice none 0 0] 25 (0, 0))) := (hB3.block _ (lt_blk HB2.out)).trans HB2.out
    have hBw3 : Below w.heap.size w w3 := hBw2.trans (hB3.mono hBw2.size)
    have hz3 : w.heap.size + 2 ≤ w3.heap.size := by have := hB3.size; omega
    clear hB3 HB2 HA2 HK2 hBw2 hz2
    go_wp2_with (refine wpList_put_lock rfl _ _ rfl (w.heap.size + 1) (.int .i64 (-1)) (.slice none 0 0) (.slice none 0 0) (.int .i64 0) (.slice none 0 0) (.slice none 0 0) ?_ ?_ 25 ?_ ?_ ?_; rfl; rfl; exact HB3.out; exact lock_one rfl rfl rfl)
    intro w4 hc4 hk4
    go_wp2_with fail
    obtain ⟨d, hd1, hd2⟩ := HPD.out
    refine bodyPost_ret (v := .agg #[.int .i64 (-1), .slice none 0 0, .slice none 0 0]) ?_ rfl ⟨_, rfl, (by rw [hp]; exact ⟨_, _, rfl, OwnB.nil _ _, OwnV.nil _ _⟩), hBw3.trans (hk4.below (by omega) (by omega))⟩
    refine results_cell_row rfl _ _ (w.heap.size + 1) _ _ _ d rfl hc4 hd1 ?_ (lock_info _ _ _)
    cases d <;> first | rfl | exact hd2
  | some v =>
    simp only [provedV, Option.getD_some, Option.isSome_some]
    go_wp2_with fail
    refine wp_region_pivot (by kernel_rfl) (by kernel_rfl) 8 (by decide) (by kernel_rfl) (by kernel_rfl) (fun xs => { tmps := (Value.agg #[Value.int IntKind.i64 kv, Value.slice ka K.length kc, Value.slice va ys.length vc] :: Value.pointer a :: Value.int IntKind.i64 slot :: Value.int IntKind.i64 below :: Value.pointer (some (⟨w.heap.size, 0, none⟩ : Addr)) :: undef :: undef :: undef :: Value.pointer (some (⟨w.heap.size + 1, 0, none⟩ : Addr)) :: Value.int IntKind.i64 v :: Value.bool true :: Value.tuple #[Value.int IntKind.i64 v, Value.bool true] :: Value.pointer a :: Value.pointer (some (⟨w.heap.size, 2, none⟩ : Addr)) :: Value.slice va ys.length vc :: Value.int IntKind.i64 slot :: Value.int IntKind.i64 below :: Value.pointer (some (⟨w.heap.size, 1, none⟩ : Addr)) :: Value.slice ka K.length kc :: Value.tuple #[Value.int IntKind.i64 v, Value.bool true] :: Value.int IntKind.i64 v :: Value.bool true :: Value.bool true :: Value.bool false :: undef :: xs 0 :: xs 1 :: xs 2 :: xs 3 :: xs 4 :: xs 5 :: xs 6 :: xs 7 :: []).toArray, defers := [] })
      (cpSpec w.heap.size w2.heap.size v K ka kc ys va vc) (fun li xs W' => Below w.heap.size w W' ∧ ∃ x z, W'.heap[w.heap.size + 1]? = some (.cells #[.int .i64 v, x, z] 25 (0, 0)) ∧ OwnB W' w2.heap.size x K ∧ OwnV W' w2.heap.size z ys) (fun _ => undef) (by repeat (first | exact trivial | refine ⟨fun _ _ => rfl, ?_⟩))
      (by
        intro i y w w' h hs
        unfold cpSpec at *
        split at hs <;> first | exact hs | exact trivial | exact OwnB.below hs h | exact OwnV.below hs h | (obtain ⟨x, z, e, h1, h2⟩ := hs; exact ⟨x, z, e, h1.below h, h2.below h⟩)) ⟨?_, ?_, ?_, ?_, ?_, ?_, ?_, ?_, ⟨rfl, ?_⟩, trivial⟩ ?_
    · intro xs W' hB hp K' hK
      rw [if_pos (wanted_none rfl _)]
      go_simp
      exact hK _ _ (Below.refl _ _) rfl
    · intro xs W' hB hp K' hK
      rw [if_pos (wanted_none rfl _)]
      go_simp
      exact hK _ _ (Below.refl _ _) rfl
    · intro xs W' hB hp K' hK
      have h1 : xs 1 = .pointer (some ⟨w.heap.size, 1, none⟩) := hp.1 rfl
      have hc : W'.cell? ⟨w.heap.size, 1, none⟩ = some (.slice ka K.length kc) := (cell_blk ((hB.block _ (lt_blk HA2.out)).trans HA2.out) _).trans rfl
      clear hp
      rw [if_pos (wanted_none rfl _)]
      simp only [h1] at hK ⊢
      go_simp
      exact hK _ _ (Below.refl _ _) rfl
    · intro xs W' hB hp K' hK
      have h2 : xs 2 = .slice ka K.length kc := hp.1 rfl
      rw [if_pos (wanted_none rfl _)]
      exact wp_appR0 _ _ rfl rfl ka K.length kc K h2 rfl (HK2.out.below hB).row (by have := HK2.out.lt; omega) (fun v' w' h4 h5 => hK _ _ h5 (h4.mono hB.size))
    · intro xs W' hB hp K' hK
      rw [if_pos (wanted_none rfl _)]
      go_simp
      exact hK _ _ (Below.refl _ _) rfl
    · intro xs W' hB hp K' hK
      have h1 : xs 4 = .pointer (some ⟨w.heap.size, 2, none⟩) := hp.1 rfl
      have hc : W'.cell? ⟨w.heap.size, 2, none⟩ = some (.slice va ys.length vc) := (cell_blk ((hB.block _ (lt_blk HA2.out)).trans HA2.out) _).trans rfl
      clear hp
      rw [if_pos (wanted_none rfl _)]
      simp only [h1] at hK ⊢
      go_simp
      exact hK _ _ (Below.refl _ _) rfl
    · intro xs W' hB hp K' hK
      have h5 : xs 5 = .slice va ys.length vc := hp.1 rfl
      rw [if_pos (wanted_none rfl _)]
      exact wp_appV0 _ _ rfl rfl va ys.length vc ys h5 rfl (HK2.out.below hB).votes HK2.out.few (fun v' w' h4 h6 => hK _ _ h6 (h4.mono hB.size))
    · intro xs W' hB hp K' hK
      have h0 : xs 0 = .int .i64 v := hp.1 rfl
      have h3 : OwnB W' w2.heap.size (xs 3) K := hp.2.1 rfl
      have h6 : OwnV W' w2.heap.size (xs 6) ys := hp.2.2.1 rfl
      obtain ⟨a3, n3, c3, e3, -⟩ := h3.form
      obtain ⟨a6, c6, e6, -⟩ := h6.form
      rw [e3] at h3
      rw [e6] at h6
      have H3 : Hid (OwnB W' w2.heap.size (.slice a3 n3 c3) K) := h3
      have H6 : Hid (OwnV W' w2.heap.size (.slice a6 ys.length c6) ys) := h6
      clear hp h3 h6
      rw [if_pos (wanted_none rfl _)]
      simp only [h0, e3, e6] at hK ⊢
      go_simp
      exact hK _ _ (Below.refl _ _) ⟨_, _, rfl, H3.out, H6.out⟩
    · intro li xs W' hB hs hli K' hK
      obtain ⟨x, z, h7, h3, h6⟩ : ∃ x z, xs 7 = .agg #[.int .i64 v, x, z] ∧ OwnB W' w2.heap.size x K ∧ OwnV W' w2.heap.size z ys := hs 7 (by decide)
      have hg := (hB.block _ (lt_blk HB2.out)).trans HB2.out
      have hkp : Keeps (w.heap.size + 1) W' (W'.setRow (w.heap.size + 1) #[.int .i64 v, x, z]) := ⟨rfl, rfl, rfl, by simp, fun k _ hk => heap_setRow_other _ _ hk⟩
      refine wp_store_row _ _ _ rfl (w.heap.size + 1) #[.int .i64 v, x, z] rfl h7 _ _ hg (lock_info _ _ _) rfl (lock_one rfl h3.one h6.one) (hK undef _ ⟨(hBw2.trans (hB.mono hBw2.size)).trans (hkp.below (by omega) (by have := hB.size; omega)), x, z, setRow_at hg _, h3.keep hkp (by omega), h6.keep hkp (by omega)⟩)
    · rintro li xs W' ⟨hB, x, z, hg, h3, h6⟩ hall
      have HG : Hid _ := hg
      clear hg
      go_wp2_with fail
      obtain ⟨d, hd1, hd2⟩ := HPD.out
      refine bodyPost_ret (v := .agg #[.int .i64 v, x, z]) ?_ rfl ⟨_, rfl, (by rw [hp]; exact ⟨x, z, rfl, h3.mono hBw2.size, h6.mono hBw2.size⟩), hB⟩
      refine results_cell_row rfl _ _ (w.heap.size + 1) _ _ _ d rfl HG.out hd1 ?_ (lock_info _ _ _)
      cases d <;> first | rfl | exact hd2
theorem wp_load_lock {o : Oper} {a : Act} {w : World} {K : Act → World → Prop} {Q : Exit → Act → World → Prop} (x : Operand) (ho : o.op = .load 25 x) (g : Nat) (hx : a.eval x = .pointer (some ⟨g, 0, none⟩)) (c0 c1 c2 : Value)
    (hc : w.heap[g]? = some (.cells #[c0, c1, c2] 25 (0, 0))) (h : K (a.put o.dst (.agg #[c0, c1, c2])) w) : o.wp Try.prog a w K Q := by
  obtain ⟨d, hd1, hd2⟩ := lock_row
  refine wp_load_mid 25 x ho g 0 hx [c0, c1, c2] d (fun j v hv => ?_) hd1 hd2 (by exact lock_info c0 c1 c2) (by simpa using h)
  rw [cell_blk hc, Nat.zero_add]
  simpa using hv
/-- what the line of the two leaves, operation by operation -/
def hiSpec (pr : Value) (slot below : Int) (base : Nat) (la lb : Value) (oa ob : Option Int) (Ka Kb : List Int) (ya yb : List VoteW) : Nat → Value → World → Prop
  | 0, y, _ => y = la
  | 1, y, _ => y = pr
  | 2, y, _ => y = .int .i64 slot
  | 3, y, _ => y = .int .i64 below
  | 4, y, W => LockG W base y oa Ka ya
  | 5, y, _ => y = lb
  | 6, y, _ => y = pr
  | 7, y, _ => y = .int .i64 slot
  | 8, y, _ => y = .int .i64 below
  | 9, y, W => LockG W base y ob Kb yb
  | 10, y, W => ∃ g, y = .pointer (some ⟨g, 0, none⟩) ∧ base ≤ g ∧ W.heap[g]? = some (.cells #[.int .i64 0, .slice none 0 0, .slice none 0 0] 25 (0, 0))
  | 11, y, W => ∃ g, y = .pointer (some ⟨g, 0, none⟩) ∧ base ≤ g ∧ W.heap[g]? = some (.cells #[.int .i64 0, .slice none 0 0, .slice none 0 0] 25 (0, 0))
  | _, _, _ => True
/-- a row is none of a lock's own block -/
theorem ownB_neLock {w : World} {base g : Nat} {v : Value} {L : List Int} {c : Array Value} (h : OwnB w base v L) (hg : w.heap[g]? = some (.cells c 25 (0, 0))) : v.ownBlock ≠ some g := fun e => by
  rcases h.2 with ⟨rfl, _⟩ | ⟨g', cap, cur, rfl, _, hgg, _⟩
  · cases e
  · cases e; rw [hg] at hgg; injection hgg with h1; injection h1 with _ h2; exact absurd h2 (by decide)
theorem ownV_neLock {w : World} {base g : Nat} {v : Value} {zs : List VoteW} {c : Array Value} (h : OwnV w base v zs) (hg : w.heap[g]? = some (.cells c 25 (0, 0))) : v.ownBlock ≠ some g := fun e => by
  rcases h.2 with ⟨rfl, _⟩ | ⟨g', cap, cur, rfl, _, hgg, _⟩
  · cases e
  · cases e; rw [hg] at hgg; injection hgg with h1; injection h1 with _ h2; exact absurd h2 (by decide)
theorem LockG.put {W W' : World} {base g : Nat} {y : Value} {o : Option Int} {K : List Int} {ys : List VoteW} {c : Array Value} (h : LockG W base y o K ys) (hg : W.heap[g]? = some (.cells c 25 (0, 0))) (hk : Keeps g W W') : LockG W' base y o K ys := by
  obtain ⟨x, z, e, h1, h2⟩ := h
  exact ⟨x, z, e, h1.same fun k hk' => hk.block k (h1.lt k hk').2 (fun e => ownB_neLock h1 hg (by rw [← e]; exact hk')), h2.same fun k hk' => hk.block k (h2.lt k hk').2 (fun e => ownV_neLock h2 hg (by rw [← e]; exact hk'))⟩
theorem LockG.cells {W : World} {base : Nat} {y : Value} {o : Option Int} {K : List Int} {ys : List VoteW} (h : LockG W base y o K ys) : ∃ x z, y = .agg #[.int .i64 (o.getD (-1)), x, z] ∧ (#[.int .i64 (o.getD (-1)), x, z] : Array Value).all (·.oneCell') = true := by
  obtain ⟨x, z, e, h1, h2⟩ := h
  exact ⟨x, z, e, lock_one rfl h1.one h2.one⟩
/-- behind the two stores -/
def HiF (w0 : World) (oa ob : Option Int) (Ka Kb : List Int) (ya yb : List VoteW) (li : Nat → Bool) (xs : Nat → Value) (W : World) : Prop :=
  Below w0.heap.size w0 W ∧ ∃ g1 g2 x1 z1 x2 z2, xs 10 = .pointer (some ⟨g1, 0, none⟩) ∧ xs 11 = .pointer (some ⟨g2, 0, none⟩) ∧ g1 ≠ g2 ∧ w0.heap.size ≤ g1 ∧ w0.heap.size ≤ g2
    ∧ LockG W w0.heap.size (.agg #[.int .i64 (oa.getD (-1)), x1, z1]) oa Ka ya ∧ W.heap[g1]? = some (.cells #[.int .i64 (oa.getD (-1)), x1, z1] 25 (0, 0))
    ∧ xs 9 = .agg #[.int .i64 (ob.getD (-1)), x2, z2] ∧ LockG W w0.heap.size (.agg #[.int .i64 (ob.getD (-1)), x2, z2]) ob Kb yb
    ∧ (li 13 = false → W.heap[g2]? = some (.cells #[.int .i64 0, .slice none 0 0, .slice none 0 0] 25 (0, 0))) ∧ (li 13 = true → W.heap[g2]? = some (.cells #[.int .i64 (ob.getD (-1)), x2, z2] 25 (0, 0)))
set_option maxRecDepth 10000 in
set_option maxHeartbeats 2000000 in
theorem higher_any (pr : Value) (R : RingO) (slot below : Int) (ka kb : Int) (Ka Kb : List Int) (pa pb : Option Addr) (ca cb : Nat) (ya yb : List VoteW) (va vb : Option Addr) (da db : Nat) (w : World) (hR : RingV w pr R) (hn : nodesR R ≤ 10) (hA : LockIn w Ka pa ca ya va da) (hB : LockIn w Kb pb cb yb vb db)
    (oa ob : Option Int) (hoa : provesR R ya slot below Ka = oa) (hob : provesR R yb slot below Kb = ob) :
    Calls Try.prog 17 #[pr, .int .i64 slot, .int .i64 below, .agg #[.int .i64 ka, .slice pa Ka.length ca, .slice va ya.length da], .agg #[.int .i64 kb, .slice pb Kb.length cb, .slice vb yb.length db]] w
      fun e w' => ∃ y, e = .returned y ∧ (oa.getD (-1) < ob.getD (-1) → LockG w' w.heap.size y ob Kb yb) ∧ (¬ oa.getD (-1) < ob.getD (-1) → LockG w' w.heap.size y oa Ka ya) ∧ Below w.heap.size w w' := by
  obtain ⟨a, rfl⟩ := hR.form
  obtain ⟨w0, hW⟩ : ∃ W, ((w.alloc (.cells #[.int .i64 ka, .slice pa Ka.length ca, .slice va ya.length da] 25)).alloc (.cells #[.int .i64 kb, .slice pb Kb.length cb, .slice vb yb.length db] 25)).alloc (.cells #[.int .i64 0, .slice none 0 0, .slice none 0 0] 25) = W := ⟨_, rfl⟩
  obtain ⟨hs, hb0, hb1, hb2, hBw⟩ := three_new w _ _ _ hW
  have HR : Hid (RingV w0 (.pointer a) R) := hR.below hBw
  have HA : Hid (LockIn w0 Ka pa ca ya va da) := hA.below hBw
  have HBB : Hid (LockIn w0 Kb pb cb yb vb db) := hB.below hBw
  have HB0 : Hid (w0.heap[w.heap.size]? = some (.cells #[.int .i64 ka, .slice pa Ka.length ca, .slice va ya.length da] 25 (0, 0))) := hb0
  have HB1 : Hid (w0.heap[w.heap.size + 1]? = some (.cells #[.int .i64 kb, .slice pb Kb.length cb, .slice vb yb.length db] 25 (0, 0))) := hb1
  have HB2 : Hid (w0.heap[w.heap.size + 2]? = some (.cells #[.int .i64 0, .slice none 0 0, .slice none 0 0] 25 (0, 0))) := hb2
  have HS : Hid (w0.heap.size = w.heap.size + 3) := hs
  have HOA : Hid (provesR R ya slot below Ka = oa) := hoa
  have HOB : Hid (provesR R yb slot below Kb = ob) := hob
  clear hb0 hb1 hb2 hs hR hA hB hoa hob
  go_enter Try.func17, Try.ntmps17
  go_wp2_with fail
  clear hW
  refine wp_region_pivotD (by kernel_rfl) (by kernel_rfl) 12 10 11 (by decide) (by decide) (by decide) (by decide) (by kernel_rfl) (by kernel_rfl) (fun xs => { tmps := (Value.pointer a :: Value.int IntKind.i64 slot :: Value.int IntKind.i64 below :: Value.agg #[Value.int IntKind.i64 ka, Value.slice pa Ka.length ca, Value.slice va ya.length da] :: Value.agg #[Value.int IntKind.i64 kb, Value.slice pb Kb.length cb, Value.slice vb yb.length db] :: undef :: undef :: undef :: Value.pointer (some (⟨w.heap.size, 0, none⟩ : Addr)) :: Value.pointer (some (⟨w.heap.size + 1, 0, none⟩ : Addr)) :: Value.pointer (some (⟨w.heap.size + 1 + 1, 0, none⟩ : Addr)) :: xs 10 :: xs 11 :: xs 0 :: xs 1 :: xs 2 :: xs 3 :: xs 4 :: xs 5 :: xs 6 :: xs 7 :: xs 8 :: xs 9 :: undef :: undef :: undef :: undef :: undef :: undef :: undef :: []).toArray, defers := [] })
    (hiSpec (.pointer a) slot below w0.heap.size (.agg #[.int .i64 ka, .slice pa Ka.length ca, .slice va ya.length da]) (.agg #[.int .i64 kb, .slice pb Kb.length cb, .slice vb yb.length db]) oa ob Ka Kb ya yb) (HiF w0 oa ob Ka Kb ya yb) (fun _ => undef) (by repeat (first | exact trivial | refine ⟨fun _ _ => rfl, ?_⟩))
    (by
      intro i y w w' h hs
      unfold hiSpec at *
      split at hs <;> first | exact hs | exact trivial | exact LockG.below hs h | (obtain ⟨g, e, hb, hl⟩ := hs; exact ⟨g, e, hb, (h.block g (lt_blk hl)).trans hl⟩)) ⟨?_, ?_, ?_, ?_, ?_, ?_, ?_, ?_, ?_, ?_, ?_, ?_, ⟨rfl, ?_⟩, ?_, trivial⟩ ?_
  · intro xs W hB hp K hK
    rw [if_pos (wanted_none rfl _)]
    exact wp_load_lock _ rfl w.heap.size rfl _ _ _ ((hB.block _ (lt_blk HB0.out)).trans HB0.out) (hK _ _ (Below.refl _ _) rfl)
  · intro xs W hB hp K hK
    rw [if_pos (wanted_none rfl _)]
    go_simp
    exact hK _ _ (Below.refl _ _) rfl
  · intro xs W hB hp K hK
    rw [if_pos (wanted_none rfl _)]
    go_simp
    exact hK _ _ (Below.refl _ _) rfl
  · intro xs W hB hp K hK
    rw [if_pos (wanted_none rfl _)]
    go_simp
    exact hK _ _ (Below.refl _ _) rfl
  · intro xs W hB hp K hK
    have h0 : xs 0 = .agg #[.int .i64 ka, .slice pa Ka.length ca, .slice va ya.length da] := hp.1 rfl
    have h1 : xs 1 = .pointer a := hp.2.1 rfl
    have h2 : xs 2 = .int .i64 slot := hp.2.2.1 rfl
    have h3 : xs 3 = .int .i64 below := hp.2.2.2.1 rfl
    clear hp
    rw [if_pos (wanted_none rfl _)]
    simp only [h0, h1, h2, h3] at hK ⊢
    clear h0 h1 h2 h3
    go_simp
    refine (lproved_any (.pointer a) R ka Ka pa ca ya va da slot below W (HR.out.below hB) hn (HA.out.below hB)).mono ?_
    rintro e w' ⟨y, rfl, hy, hB'⟩
    rw [HOA.out] at hy
    obtain ⟨x1, z1, rfl, hx⟩ := hy
    exact hK _ _ hB' ⟨x1, z1, rfl, hx.1.mono hB.size, hx.2.mono hB.size⟩
  · intro xs W hB hp K hK
    rw [if_pos (wanted_none rfl _)]
    exact wp_load_lock _ rfl (w.heap.size + 1) rfl _ _ _ ((hB.block _ (lt_blk HB1.out)).trans HB1.out) (hK _ _ (Below.refl _ _) rfl)
  · intro xs W hB hp K hK
    rw [if_pos (wanted_none rfl _)]
    go_simp
    exact hK _ _ (Below.refl _ _) rfl
  · intro xs W hB hp K hK
    rw [if_pos (wanted_none rfl _)]
    go_simp
    exact hK _ _ (Below.refl _ _) rfl
  · intro xs W hB hp K hK
    rw [if_pos (wanted_none rfl _)]
    go_simp
    exact hK _ _ (Below.refl _ _) rfl
  · intro xs W hB hp K hK
    have h5 : xs 5 = .agg #[.int .i64 kb, .slice pb Kb.length cb, .slice vb yb.length db] := hp.1 rfl
    have h6 : xs 6 = .pointer a := hp.2.1 rfl
    have h7 : xs 7 = .int .i64 slot := hp.2.2.1 rfl
    have h8 : xs 8 = .int .i64 below := hp.2.2.2.1 rfl
    clear hp
    rw [if_pos (wanted_none rfl _)]
    simp only [h5, h6, h7, h8] at hK ⊢
    clear h5 h6 h7 h8
    go_simp
    refine (lproved_any (.pointer a) R kb Kb pb cb yb vb db slot below W (HR.out.below hB) hn (HBB.out.below hB)).mono ?_
    rintro e w' ⟨y, rfl, hy, hB'⟩
    rw [HOB.out] at hy
    obtain ⟨x1, z1, rfl, hx⟩ := hy
    exact hK _ _ hB' ⟨x1, z1, rfl, hx.1.mono hB.size, hx.2.mono hB.size⟩
  · intro xs W hB hp K hK
    rw [if_pos (wanted_none rfl _)]
    go_simp
    exact hK _ _ (below_alloc _ _) ⟨_, rfl, hB.size, alloc_blk _ _⟩ (fun x ⟨g, e, _, hg⟩ => by
      subst e
      intro e
      have := lt_blk hg
      simp at e <;> omega)
  · intro xs W hB hp K hK
    rw [if_pos (wanted_none rfl _)]
    go_simp
    exact hK _ _ (below_alloc _ _) ⟨_, rfl, hB.size, alloc_blk _ _⟩ (fun x ⟨g, e, _, hg⟩ => by
      subst e
      intro e
      have := lt_blk hg
      simp at e <;> omega)
  · intro li xs W hB hs hli hne K hK
    have h4 : LockG W w0.heap.size (xs 4) oa Ka ya := hs 4 (by decide)
    have h9 : LockG W w0.heap.size (xs 9) ob Kb yb := hs 9 (by decide)
    obtain ⟨g1, e1, hg1, hb1⟩ : ∃ g, xs 10 = .pointer (some ⟨g, 0, none⟩) ∧ w0.heap.size ≤ g ∧ W.heap[g]? = some (.cells #[.int .i64 0, .slice none 0 0, .slice none 0 0] 25 (0, 0)) := hs 10 (by decide)
    obtain ⟨g2, e2, hg2, hb2⟩ : ∃ g, xs 11 = .pointer (some ⟨g, 0, none⟩) ∧ w0.heap.size ≤ g ∧ W.heap[g]? = some (.cells #[.int .i64 0, .slice none 0 0, .slice none 0 0] 25 (0, 0)) := hs 11 (by decide)
    have hgg : g1 ≠ g2 := fun e => hne (by rw [e1, e2, e])
    obtain ⟨x1, z1, c4, o4⟩ := h4.cells
    obtain ⟨x2, z2, c9, o9⟩ := h9.cells
    rw [c4] at h4
    rw [c9] at h9
    have hkp : Keeps g1 W (W.setRow g1 #[.int .i64 (oa.getD (-1)), x1, z1]) := ⟨rfl, rfl, rfl, by simp, fun k _ hk => heap_setRow_other _ _ hk⟩
    refine wp_store_row _ _ _ rfl g1 #[.int .i64 (oa.getD (-1)), x1, z1] e1 c4 _ _ hb1 (lock_info _ _ _) rfl o4 (hK undef _ ⟨hB.trans (hkp.below hg1 hB.size), g1, g2, x1, z1, x2, z2, e1, e2, hgg, hg1, hg2, h4.put hb1 hkp, setRow_at hb1 _, c9, h9.put hb1 hkp, fun _ => (heap_setRow_other _ _ (Ne.symm hgg)).trans hb2, fun e => ?_⟩)
    rw [upd_other _ _ (by decide), hli 13 (by decide)] at e; cases e
  · intro li xs W hF hli hp K hK
    obtain ⟨hB, g1, g2, x1, z1, x2, z2, e1, e2, hgg, hg1, hg2, h4, hb1, c9, h9, hb2, -⟩ := hF
    have hb2 := hb2 hli
    obtain ⟨_, _, c9', o9⟩ := h9.cells
    cases c9'
    have hkp : Keeps g2 W (W.setRow g2 #[.int .i64 (ob.getD (-1)), x2, z2]) := ⟨rfl, rfl, rfl, by simp, fun k _ hk => heap_setRow_other _ _ hk⟩
    rw [if_pos (wanted_none rfl _)]
    refine wp_store_row _ _ _ rfl g2 #[.int .i64 (ob.getD (-1)), x2, z2] e2 c9 _ _ hb2 (lock_info _ _ _) rfl o9 (hK undef _ ⟨hB.trans (hkp.below hg2 hB.size), g1, g2, x1, z1, x2, z2, e1, e2, hgg, hg1, hg2, h4.put hb2 hkp, (heap_setRow_other _ _ hgg).trans hb1, c9, h9.put hb2 hkp, (fun e => by rw [upd_same] at e; cases e), fun _ => setRow_at hb2 _⟩)
  · rintro li xs W ⟨hB, g1, g2, x1, z1, x2, z2, e1, e2, hgg, hg1, hg2, h4, hb1, c9, h9, -, hb2⟩ hall
    have hb2 := hb2 (hall 13 (by decide))
    simp only [e1, e2, c9]
    obtain ⟨_, _, c4', o4⟩ := h4.cells
    cases c4'
    obtain ⟨_, _, c9', o9⟩ := h9.cells
    cases c9'
    have HO4 : Hid _ := o4
    have HO9 : Hid _ := o9
    have HG1 : Hid _ := hb1
    have HG2 : Hid _ := hb2
    have HG3 : Hid (W.heap[w.heap.size + 2]? = some (.cells #[.int .i64 0, .slice none 0 0, .slice none 0 0] 25 (0, 0))) := (hB.block _ (lt_blk HB2.out)).trans HB2.out
    have H4 : Hid (LockG W w0.heap.size (.agg #[.int .i64 (oa.getD (-1)), x1, z1]) oa Ka ya) := h4
    have H9 : Hid (LockG W w0.heap.size (.agg #[.int .i64 (ob.getD (-1)), x2, z2]) ob Kb yb) := h9
    have hv1 : W.cell? ⟨g1, 0, none⟩ = some (.int .i64 (oa.getD (-1))) := (cell_blk hb1 0).trans rfl
    have hv2 : W.cell? ⟨g2, 0, none⟩ = some (.int .i64 (ob.getD (-1))) := (cell_blk hb2 0).trans rfl
    have hBW : Below w.heap.size w W := hBw.trans (hB.mono hBw.size)
    have hsz : w.heap.size + 3 ≤ W.heap.size := by have := hB.size; have := HS.out; omega
    have hbase : w.heap.size ≤ w0.heap.size := hBw.size
    have HPD : Hid (∃ d, Try.prog.underlying 25 = some d ∧ (match d with | .struct _ | .array _ _ => true | _ => false) = true) := lock_rowM
    clear hb1 hb2 h4 h9 o4 o9 HR HA HBB HB0 HB1 HB2 HOA HOB hB hall hBw e1 e2 c9
    generalize hva : oa.getD (-1) = na at *
    generalize hvb : ob.getD (-1) = nb at *
    have HVA : Hid (oa.getD (-1) = na) := hva
    have HVB : Hid (ob.getD (-1) = nb) := hvb
    clear hva hvb
    by_cases q : na < nb
    · go_wp2_with (first | (refine wpList_load_lock rfl _ rfl g2 ?_ (.int .i64 nb) x2 z2 ?_ ?_; rfl; exact HG2.out) | (refine wpList_put_lock rfl _ _ rfl (w.heap.size + 2) (.int .i64 nb) x2 z2 (.int .i64 0) (.slice none 0 0) (.slice none 0 0) ?_ ?_ 25 ?_ ?_ ?_; rfl; rfl; exact HG3.out; exact HO9.out))
      intro w4 hc4 hk4
      go_wp2_with fail
      obtain ⟨d, hd1, hd2⟩ := HPD.out
      have hL : LockG w4 w.heap.size (.agg #[.int .i64 nb, x2, z2]) ob Kb yb := by
        obtain ⟨x', z', e', q1, q2⟩ := (LockG.put H9.out HG3.out hk4)
        exact ⟨x', z', e', q1.mono hbase, q2.mono hbase⟩
      refine bodyPost_ret (v := .agg #[.int .i64 nb, x2, z2]) ?_ rfl ⟨_, rfl, fun _ => hL, fun h => by exfalso; have := HVA.out; have := HVB.out; omega, hBW.trans (hk4.below (by omega) (by omega))⟩
      refine results_cell_row rfl _ _ (w.heap.size + 2) _ _ _ d rfl hc4 hd1 ?_ (lock_info _ _ _)
      cases d <;> first | rfl | exact hd2
    · go_wp2_with (first | (refine wpList_load_lock rfl _ rfl g1 ?_ (.int .i64 na) x1 z1 ?_ ?_; rfl; exact HG1.out) | (refine wpList_put_lock rfl _ _ rfl (w.heap.size + 2) (.int .i64 na) x1 z1 (.int .i64 0) (.slice none 0 0) (.slice none 0 0) ?_ ?_ 25 ?_ ?_ ?_; rfl; rfl; exact HG3.out; exact HO4.out))
      intro w4 hc4 hk4
      go_wp2_with fail
      obtain ⟨d, hd1, hd2⟩ := HPD.out
      have hL : LockG w4 w.heap.size (.agg #[.int .i64 na, x1, z1]) oa Ka ya := by
        obtain ⟨x', z', e', q1, q2⟩ := (LockG.put H4.out HG3.out hk4)
        exact ⟨x', z', e', q1.mono hbase, q2.mono hbase⟩
      refine bodyPost_ret (v := .agg #[.int .i64 na, x1, z1]) ?_ rfl ⟨_, rfl, fun h => by exfalso; have := HVA.out; have := HVB.out; omega, fun _ => hL, hBW.trans (hk4.below (by omega) (by omega))⟩
      refine results_cell_row rfl _ _ (w.heap.size + 2) _ _ _ d rfl hc4 hd1 ?_ (lock_info _ _ _)
      cases d <;> first | rfl | exact hd2
end Go.Proofs.Yticpkpphjpgdbaa
