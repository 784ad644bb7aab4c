/- RuleBinds' walk. -/
import Derived.Test.YticpkpphjpgdbaaRuleP
import Derived.Test.YticpkpphjpgdbaaRefLaw
namespace Go.Proofs.Yticpkpphjpgdbaa
open Go.RowKit Go.Dig Go.Sha Go.Inv Go.Oct

theorem bd_in {s v : Int} (h0 : 0 ≤ s) (h1 : s ≤ 1000) (h2 : 0 ≤ v) (h3 : v ≤ 1000) (k : Int) (h4 : 0 ≤ k) (h5 : k ≤ 10) : Bd k s v := ⟨⟨by omega, by omega⟩, ⟨by omega, by omega⟩, ⟨by omega, by omega⟩⟩
theorem lock_row : ∃ d, Try.prog.underlying 25 = some d ∧ d.isRow = true := by
  have h : (Try.prog.underlying 25).map (·.isRow) = some true := by kernel_rfl
  cases hd : Try.prog.underlying 25 with
  | none => rw [hd] at h; cases h
  | some d => rw [hd] at h; exact ⟨d, rfl, by simpa using h⟩
theorem wpList_load_lock {ops : Array Oper} {rest : List Oper} {o : Oper} {a : Act} {w : World} {Q : Exit → Act → World → Prop} (hgd : o.guard = none) (x : Operand) (ho : o.op = .load 25 x) (g : Nat) (hx : a.eval x = .pointer (some ⟨g, 0, none⟩)) (c0 c1 c2 : Value)
    (hc : w.heap[g]? = some (.cells #[c0, c1, c2] 25 (0, 0))) (h : wpList Try.prog ops Q rest (a.put o.dst (.agg #[c0, c1, c2])) w) : wpList Try.prog ops Q (o :: rest) a w := by
  obtain ⟨d, hd1, hd2⟩ := lock_row
  refine wpList_load_mid hgd 25 x ho g 0 hx [c0, c1, c2] d (fun j v hv => ?_) hd1 hd2 (by exact lock_info c0 c1 c2) (by simpa using h)
  rw [cell_blk hc, Nat.zero_add]
  simpa using hv
/-- what RuleBinds asks, and what May tells -/
theorem may_binds (at_ proof view : Int) (m : Nat) (A B : List Int) (b : Bd 1 1 proof) (hm : m ≤ 4) (h0 : 0 ≤ at_) (h1 : 0 ≤ proof) :
    mayR ring4 at_ A 1 view B (pvL 1 1 proof B b m) = (decide (A = B) || (decide (3 ≤ m) && decide (at_ < proof) && decide (proof < view))) := by
  unfold mayR
  rw [proves_pvL 1 proof view B b hm h1, decide_eq_false (show ¬ at_ = -1 by omega), Bool.false_or]
  congr 1
  by_cases q : 3 ≤ m ∧ proof < view
  · rw [if_pos q, decide_eq_true q.1, decide_eq_true q.2]; simp
  · rw [if_neg q]
    by_cases q3 : 3 ≤ m
    · rw [decide_eq_false (show ¬ proof < view from fun e => q ⟨q3, e⟩)]; simp
    · rw [decide_eq_false q3]; simp
theorem votesIn_nil (w : World) : VotesIn w none 0 [] := ⟨Nat.le_refl _, Nat.zero_le _, fun _ => rfl, fun j hj => by simp at hj⟩
set_option maxRecDepth 10000 in
set_option maxHeartbeats 8000000 in
theorem ruleBinds_in (at_ proof view : Int) (m : Nat) (A B : List Int) (ao bo : Option Addr) (ca cb : Nat) (w : World) (t0 : 0 ≤ at_) (t1 : at_ ≤ 8) (p0 : 0 ≤ proof) (p1 : proof ≤ 8) (v0 : 0 ≤ view) (v1 : view ≤ 8) (hm : m ≤ 4) (hA : A.length ≤ 100) (hB : B.length ≤ 100)
    (hra : Rowed w ao A ca) (hlb : Lies w bo B) (hcb : B.length ≤ cb) (hrb : Rowed w bo B cb) (yA : BytesL A) (yB : BytesL B) :
    Calls Try.prog 5 #[.int .i64 at_, .int .i64 proof, .int .i64 view, .int .i64 (m : Int), .slice ao A.length ca, .slice bo B.length cb] w fun x w' => x = .returned (.bool true) ∧ Below w.heap.size w w' := by
  have e0 : ¬ (at_ < 0) := by omega
  have e1 : ¬ (8 < at_) := by omega
  have e2 : ¬ (proof < 0) := by omega
  have e3 : ¬ (8 < proof) := by omega
  have e4 : ¬ (view < 0) := by omega
  have e5 : ¬ (8 < view) := by omega
  have e6 : ¬ ((m : Int) < 0) := by omega
  have e7 : ¬ ((4 : Int) < (m : Int)) := by omega
  have e8 : ¬ ((100 : Int) < (A.length : Int)) := by omega
  have e9 : ¬ ((100 : Int) < (B.length : Int)) := by omega
  have ba : Bd 1 1 at_ := bd_in (by decide) (by decide) t0 (by omega) 1 (by decide) (by decide)
  have bp : Bd 1 1 proof := bd_in (by decide) (by decide) p0 (by omega) 1 (by decide) (by decide)
  have HLB : Hid (Lies w bo B) := hlb
  have HRA : Hid (Rowed w ao A ca) := hra
  have HRB : Hid (Rowed w bo B cb) := hrb
  have HM := may_binds at_ proof view m A B bp hm t0 p0
  have HE := eqStr yA yB
  clear hlb hra hrb
  go_enter Try.func5, Try.ntmps5
  go_wp2_with (refine wpList_build_to rfl 30 _ rfl (row .u8 32 (oneF 1)) (by kernel_rfl) ?_)
  refine (sNew_any 4 (oneF 1) _ (by decide) (by decide)).mono ?_
  rintro x w1 ⟨rg, rfl, hrg, hR, hB1⟩
  rw [show nodesOf 4 = 4 by decide] at hR
  have HR : Hid (RingV w1 (.pointer (some ⟨rg, 0, none⟩)) ring4) := ⟨rg, rfl, hR⟩
  clear hR
  go_wp2_with (refine wpList_build_to rfl 30 _ rfl (row .u8 32 (oneF 1)) (by kernel_rfl) ?_)
  refine (rNew_any 4 (oneF 1) w1 (by decide) (by decide)).mono ?_
  rintro x w2 ⟨xg, rfl, hxg, hX, hB2⟩
  rw [show nodesOf 4 = 4 by decide] at hX
  have HX : Hid (RRing w2 xg (oneF 1) 4) := hX
  have HR2 : Hid (RingV w2 (.pointer (some ⟨rg, 0, none⟩)) ring4) := HR.out.below hB2
  have hBw2 : Below w.heap.size w w2 := hB1.trans (hB2.mono hB1.size)
  clear hX HR hB1 hB2
  go_wp2_with fail
  refine (votes7_any xg 3 1 at_ A ao ca w2 ba HX.out (HRA.out.below hBw2 (Nat.le_refl _)) (by omega)).mono ?_
  rintro x w3 ⟨v, rfl, hO, hB3⟩
  have hBw3 : Below w.heap.size w w3 := hBw2.trans (hB3.mono hBw2.size)
  have HR3 : Hid (RingV w3 (.pointer (some ⟨rg, 0, none⟩)) ring4) := HR2.out.below hB3
  have HX3 : Hid (RRing w3 xg (oneF 1) 4) := HX.out.below hB3
  obtain ⟨ka, kc, rfl, -⟩ := hO.form
  clear HR2 HX hB3 hBw2 hO
  generalize (pvL 1 1 at_ A ba (min (3 : Int) 4).toNat).length = kn
  have HB4 : Hid ((w3.alloc (.cells #[.int .i64 at_, .slice ao A.length ca, .slice ka kn kc] 25)).heap[w3.heap.size]? = some (.cells #[.int .i64 at_, .slice ao A.length ca, .slice ka kn kc] 25 (0, 0))) := alloc_blk _ _
  have hB34 := below_alloc w3 (.cells #[.int .i64 at_, .slice ao A.length ca, .slice ka kn kc] 25)
  have HX4 : Hid (RRing (w3.alloc (.cells #[.int .i64 at_, .slice ao A.length ca, .slice ka kn kc] 25)) xg (oneF 1) 4) := HX3.out.below hB34
  have HR4 : Hid (RingV (w3.alloc (.cells #[.int .i64 at_, .slice ao A.length ca, .slice ka kn kc] 25)) (.pointer (some ⟨rg, 0, none⟩)) ring4) := HR3.out.below hB34
  have hBw4 : Below w.heap.size w (w3.alloc (.cells #[.int .i64 at_, .slice ao A.length ca, .slice ka kn kc] 25)) := hBw3.trans (hB34.mono hBw3.size)
  clear hB34 HX3 HR3 hBw3
  go_wp2_with fail
  generalize w3.alloc (.cells #[.int .i64 at_, .slice ao A.length ca, .slice ka kn kc] 25) = w4 at *
  refine (votes7_any xg (m : Int) 1 proof B bo cb w4 bp HX4.out (HRB.out.below hBw4 (Nat.le_refl _)) (by omega)).mono ?_
  rintro x w5 ⟨v, rfl, hO, hB5⟩
  rw [show (min (m : Int) 4).toNat = m by omega] at hO
  obtain ⟨la, lc, rfl, hVin⟩ := hO.form
  have HV5 : Hid (VotesIn w5 la lc (pvL 1 1 proof B bp m)) := hVin
  have HB5 : Hid (w5.heap[w3.heap.size]? = some (.cells #[.int .i64 at_, .slice ao A.length ca, .slice ka kn kc] 25 (0, 0))) := (hB5.block _ (lt_blk HB4.out)).trans HB4.out
  have HR5 : Hid (RingV w5 (.pointer (some ⟨rg, 0, none⟩)) ring4) := HR4.out.below hB5
  have hBw5 : Below w.heap.size w w5 := hBw4.trans (hB5.mono hBw4.size)
  have HRA5 : Hid (Rowed w5 ao A ca) := HRA.out.below hBw5 (Nat.le_refl _)
  have HRB5 : Hid (Rowed w5 bo B cb) := HRB.out.below hBw5 (Nat.le_refl _)
  have HLB5 : Hid (Lies w5 bo B) := HLB.out.below hBw5 (Nat.le_refl _)
  have c1 : (convert 22 9 (.slice ao A.length ca)).run Try.prog w5 = .ok (.string (strOf A)) w5 := conv_str HRA5.out rfl
  have c2 : (convert 22 9 (.slice bo B.length cb)).run Try.prog w5 = .ok (.string (strOf B)) w5 := conv_str HRB5.out rfl
  generalize pvL 1 1 proof B bp m = ys at *
  clear hO hVin hB5 HB4 HX4 HR4 hBw4 HRA HRB HLB
  have hcase : (A = B) ∨ (¬ A = B ∧ ¬ 3 ≤ m) ∨ (¬ A = B ∧ 3 ≤ m ∧ ¬ at_ < proof) ∨ (¬ A = B ∧ 3 ≤ m ∧ at_ < proof ∧ ¬ proof < view) ∨ (¬ A = B ∧ 3 ≤ m ∧ at_ < proof ∧ proof < view) := by
    by_cases q : A = B
    · exact .inl q
    · by_cases q3 : 3 ≤ m
      · by_cases qp : at_ < proof
        · by_cases qv : proof < view
          · exact .inr (.inr (.inr (.inr ⟨q, q3, qp, qv⟩)))
          · exact .inr (.inr (.inr (.inl ⟨q, q3, qp, qv⟩)))
        · exact .inr (.inr (.inl ⟨q, q3, qp⟩))
      · exact .inr (.inl ⟨q, q3⟩)
  obtain ⟨bb, hbb⟩ : ∃ bb, (decide (A = B) || (decide (3 ≤ m) && decide (at_ < proof) && decide (proof < view))) = bb := ⟨_, rfl⟩
  rw [hbb] at HM
  have HM' : Hid (mayR ring4 at_ A 1 view B ys = bb) := HM
  clear HM
  rcases hcase with q | ⟨q, q3⟩ | ⟨q, q3, qp⟩ | ⟨q, q3, qp, qv⟩ | ⟨q, q3, qp, qv⟩
  · have he : ((strOf A).toList == (strOf B).toList) = true := HE.trans (decide_eq_true q)
    rw [decide_eq_true q, Bool.true_or] at hbb
    subst hbb
    clear HE q
    go_wp2_with (refine wpList_load_lock rfl _ rfl w3.heap.size ?_ (.int .i64 at_) (.slice ao A.length ca) (.slice ka kn kc) ?_ ?_; rfl; exact HB5.out)
    refine (may_any _ ring4 at_ A ao ca (.slice ka kn kc) 1 view B bo cb la lc ys w5 HR5.out (by decide) HV5.out HRA5.out HRB5.out HLB5.out hcb (by omega) yA yB ⟨_, _, _, rfl⟩).mono ?_
    rintro x w6 ⟨rfl, hB6⟩
    rw [HM'.out]
    have HR6 : Hid (RingV w6 (.pointer (some ⟨rg, 0, none⟩)) ring4) := HR5.out.below hB6
    have HRB6 : Hid (Rowed w6 bo B cb) := HRB5.out.below hB6 (Nat.le_refl _)
    have HLB6 : Hid (Lies w6 bo B) := HLB5.out.below hB6 (Nat.le_refl _)
    have hBw6 : Below w.heap.size w w6 := hBw5.trans (hB6.mono hBw5.size)
    clear hB6 HR5 HV5 HRA5 HRB5 HLB5 HB5 hBw5 HM' c1 c2
    go_wp2_with fail
    refine (free_any w6).mono ?_
    rintro x w7 ⟨rfl, hB7⟩
    have HR7 : Hid (RingV w7 (.pointer (some ⟨rg, 0, none⟩)) ring4) := HR6.out.below hB7
    have HRB7 : Hid (Rowed w7 bo B cb) := HRB6.out.below hB7 (Nat.le_refl _)
    have HLB7 : Hid (Lies w7 bo B) := HLB6.out.below hB7 (Nat.le_refl _)
    have hBw7 : Below w.heap.size w w7 := hBw6.trans (hB7.mono hBw6.size)
    clear hB7 HR6 HRB6 HLB6 hBw6
    go_wp2_with fail
    refine (may_any _ ring4 (-1) [] none 0 (.slice none 0 0) 1 view B bo cb none 0 [] w7 HR7.out (by decide) (votesIn_nil w7) (.inl ⟨rfl, rfl, rfl⟩) HRB7.out HLB7.out hcb (by omega) (fun y hy => by cases hy) yB ⟨_, _, _, rfl⟩).mono ?_
    rintro x w8 ⟨rfl, hB8⟩
    rw [show mayR ring4 (-1) [] 1 view B [] = true from rfl]
    have hBw8 : Below w.heap.size w w8 := hBw7.trans (hB8.mono hBw7.size)
    clear hB8 HR7 HRB7 HLB7 hBw7
    go_wp2_with fail
    refine (known7_any w8).mono ?_
    rintro x w9 ⟨rfl, hB9⟩
    have hBw9 : Below w.heap.size w w9 := hBw8.trans (hB9.mono hBw8.size)
    clear hB9 hBw8
    go_wp2_with fail
    go_ret
    exact ⟨rfl, hBw9⟩
  · have he : ((strOf A).toList == (strOf B).toList) = false := HE.trans (decide_eq_false q)
    rw [decide_eq_false q, Bool.false_or, decide_eq_false q3, Bool.false_and, Bool.false_and] at hbb
    subst hbb
    clear HE q
    go_wp2_with (refine wpList_load_lock rfl _ rfl w3.heap.size ?_ (.int .i64 at_) (.slice ao A.length ca) (.slice ka kn kc) ?_ ?_; rfl; exact HB5.out)
    refine (may_any _ ring4 at_ A ao ca (.slice ka kn kc) 1 view B bo cb la lc ys w5 HR5.out (by decide) HV5.out HRA5.out HRB5.out HLB5.out hcb (by omega) yA yB ⟨_, _, _, rfl⟩).mono ?_
    rintro x w6 ⟨rfl, hB6⟩
    rw [HM'.out]
    have HR6 : Hid (RingV w6 (.pointer (some ⟨rg, 0, none⟩)) ring4) := HR5.out.below hB6
    have HRB6 : Hid (Rowed w6 bo B cb) := HRB5.out.below hB6 (Nat.le_refl _)
    have HLB6 : Hid (Lies w6 bo B) := HLB5.out.below hB6 (Nat.le_refl _)
    have hBw6 : Below w.heap.size w w6 := hBw5.trans (hB6.mono hBw5.size)
    clear hB6 HR5 HV5 HRA5 HRB5 HLB5 HB5 hBw5 HM' c1 c2
    go_wp2_with fail
    refine (free_any w6).mono ?_
    rintro x w7 ⟨rfl, hB7⟩
    have HR7 : Hid (RingV w7 (.pointer (some ⟨rg, 0, none⟩)) ring4) := HR6.out.below hB7
    have HRB7 : Hid (Rowed w7 bo B cb) := HRB6.out.below hB7 (Nat.le_refl _)
    have HLB7 : Hid (Lies w7 bo B) := HLB6.out.below hB7 (Nat.le_refl _)
    have hBw7 : Below w.heap.size w w7 := hBw6.trans (hB7.mono hBw6.size)
    clear hB7 HR6 HRB6 HLB6 hBw6
    go_wp2_with fail
    refine (may_any _ ring4 (-1) [] none 0 (.slice none 0 0) 1 view B bo cb none 0 [] w7 HR7.out (by decide) (votesIn_nil w7) (.inl ⟨rfl, rfl, rfl⟩) HRB7.out HLB7.out hcb (by omega) (fun y hy => by cases hy) yB ⟨_, _, _, rfl⟩).mono ?_
    rintro x w8 ⟨rfl, hB8⟩
    rw [show mayR ring4 (-1) [] 1 view B [] = true from rfl]
    have hBw8 : Below w.heap.size w w8 := hBw7.trans (hB8.mono hBw7.size)
    clear hB8 HR7 HRB7 HLB7 hBw7
    go_wp2_with fail
    refine (known7_any w8).mono ?_
    rintro x w9 ⟨rfl, hB9⟩
    have hBw9 : Below w.heap.size w w9 := hBw8.trans (hB9.mono hBw8.size)
    clear hB9 hBw8
    go_wp2_with fail
    go_ret
    exact ⟨rfl, hBw9⟩
  · have he : ((strOf A).toList == (strOf B).toList) = false := HE.trans (decide_eq_false q)
    rw [decide_eq_false q, Bool.false_or, decide_eq_true q3, decide_eq_false qp, Bool.and_false, Bool.false_and] at hbb
    subst hbb
    clear HE q
    go_wp2_with (refine wpList_load_lock rfl _ rfl w3.heap.size ?_ (.int .i64 at_) (.slice ao A.length ca) (.slice ka kn kc) ?_ ?_; rfl; exact HB5.out)
    refine (may_any _ ring4 at_ A ao ca (.slice ka kn kc) 1 view B bo cb la lc ys w5 HR5.out (by decide) HV5.out HRA5.out HRB5.out HLB5.out hcb (by omega) yA yB ⟨_, _, _, rfl⟩).mono ?_
    rintro x w6 ⟨rfl, hB6⟩
    rw [HM'.out]
    have HR6 : Hid (RingV w6 (.pointer (some ⟨rg, 0, none⟩)) ring4) := HR5.out.below hB6
    have HRB6 : Hid (Rowed w6 bo B cb) := HRB5.out.below hB6 (Nat.le_refl _)
    have HLB6 : Hid (Lies w6 bo B) := HLB5.out.below hB6 (Nat.le_refl _)
    have hBw6 : Below w.heap.size w w6 := hBw5.trans (hB6.mono hBw5.size)
    clear hB6 HR5 HV5 HRA5 HRB5 HLB5 HB5 hBw5 HM' c1 c2
    go_wp2_with fail
    refine (free_any w6).mono ?_
    rintro x w7 ⟨rfl, hB7⟩
    have HR7 : Hid (RingV w7 (.pointer (some ⟨rg, 0, none⟩)) ring4) := HR6.out.below hB7
    have HRB7 : Hid (Rowed w7 bo B cb) := HRB6.out.below hB7 (Nat.le_refl _)
    have HLB7 : Hid (Lies w7 bo B) := HLB6.out.below hB7 (Nat.le_refl _)
    have hBw7 : Below w.heap.size w w7 := hBw6.trans (hB7.mono hBw6.size)
    clear hB7 HR6 HRB6 HLB6 hBw6
    go_wp2_with fail
    refine (may_any _ ring4 (-1) [] none 0 (.slice none 0 0) 1 view B bo cb none 0 [] w7 HR7.out (by decide) (votesIn_nil w7) (.inl ⟨rfl, rfl, rfl⟩) HRB7.out HLB7.out hcb (by omega) (fun y hy => by cases hy) yB ⟨_, _, _, rfl⟩).mono ?_
    rintro x w8 ⟨rfl, hB8⟩
    rw [show mayR ring4 (-1) [] 1 view B [] = true from rfl]
    have hBw8 : Below w.heap.size w w8 := hBw7.trans (hB8.mono hBw7.size)
    clear hB8 HR7 HRB7 HLB7 hBw7
    go_wp2_with fail
    refine (known7_any w8).mono ?_
    rintro x w9 ⟨rfl, hB9⟩
    have hBw9 : Below w.heap.size w w9 := hBw8.trans (hB9.mono hBw8.size)
    clear hB9 hBw8
    go_wp2_with fail
    go_ret
    exact ⟨rfl, hBw9⟩
  · have he : ((strOf A).toList == (strOf B).toList) = false := HE.trans (decide_eq_false q)
    rw [decide_eq_false q, Bool.false_or, decide_eq_false qv, Bool.and_false] at hbb
    subst hbb
    clear HE q
    go_wp2_with (refine wpList_load_lock rfl _ rfl w3.heap.size ?_ (.int .i64 at_) (.slice ao A.length ca) (.slice ka kn kc) ?_ ?_; rfl; exact HB5.out)
    refine (may_any _ ring4 at_ A ao ca (.slice ka kn kc) 1 view B bo cb la lc ys w5 HR5.out (by decide) HV5.out HRA5.out HRB5.out HLB5.out hcb (by omega) yA yB ⟨_, _, _, rfl⟩).mono ?_
    rintro x w6 ⟨rfl, hB6⟩
    rw [HM'.out]
    have HR6 : Hid (RingV w6 (.pointer (some ⟨rg, 0, none⟩)) ring4) := HR5.out.below hB6
    have HRB6 : Hid (Rowed w6 bo B cb) := HRB5.out.below hB6 (Nat.le_refl _)
    have HLB6 : Hid (Lies w6 bo B) := HLB5.out.below hB6 (Nat.le_refl _)
    have hBw6 : Below w.heap.size w w6 := hBw5.trans (hB6.mono hBw5.size)
    clear hB6 HR5 HV5 HRA5 HRB5 HLB5 HB5 hBw5 HM' c1 c2
    go_wp2_with fail
    refine (free_any w6).mono ?_
    rintro x w7 ⟨rfl, hB7⟩
    have HR7 : Hid (RingV w7 (.pointer (some ⟨rg, 0, none⟩)) ring4) := HR6.out.below hB7
    have HRB7 : Hid (Rowed w7 bo B cb) := HRB6.out.below hB7 (Nat.le_refl _)
    have HLB7 : Hid (Lies w7 bo B) := HLB6.out.below hB7 (Nat.le_refl _)
    have hBw7 : Below w.heap.size w w7 := hBw6.trans (hB7.mono hBw6.size)
    clear hB7 HR6 HRB6 HLB6 hBw6
    go_wp2_with fail
    refine (may_any _ ring4 (-1) [] none 0 (.slice none 0 0) 1 view B bo cb none 0 [] w7 HR7.out (by decide) (votesIn_nil w7) (.inl ⟨rfl, rfl, rfl⟩) HRB7.out HLB7.out hcb (by omega) (fun y hy => by cases hy) yB ⟨_, _, _, rfl⟩).mono ?_
    rintro x w8 ⟨rfl, hB8⟩
    rw [show mayR ring4 (-1) [] 1 view B [] = true from rfl]
    have hBw8 : Below w.heap.size w w8 := hBw7.trans (hB8.mono hBw7.size)
    clear hB8 HR7 HRB7 HLB7 hBw7
    go_wp2_with fail
    refine (known7_any w8).mono ?_
    rintro x w9 ⟨rfl, hB9⟩
    have hBw9 : Below w.heap.size w w9 := hBw8.trans (hB9.mono hBw8.size)
    clear hB9 hBw8
    go_wp2_with fail
    go_ret
    exact ⟨by rw [decide_eq_false (show ¬ proof < view by omega)]; rfl, hBw9⟩
  · have he : ((strOf A).toList == (strOf B).toList) = false := HE.trans (decide_eq_false q)
    rw [decide_eq_false q, Bool.false_or, decide_eq_true q3, decide_eq_true qp, decide_eq_true qv, Bool.and_true, Bool.and_true] at hbb
    subst hbb
    clear HE q
    go_wp2_with (refine wpList_load_lock rfl _ rfl w3.heap.size ?_ (.int .i64 at_) (.slice ao A.length ca) (.slice ka kn kc) ?_ ?_; rfl; exact HB5.out)
    refine (may_any _ ring4 at_ A ao ca (.slice ka kn kc) 1 view B bo cb la lc ys w5 HR5.out (by decide) HV5.out HRA5.out HRB5.out HLB5.out hcb (by omega) yA yB ⟨_, _, _, rfl⟩).mono ?_
    rintro x w6 ⟨rfl, hB6⟩
    rw [HM'.out]
    have HR6 : Hid (RingV w6 (.pointer (some ⟨rg, 0, none⟩)) ring4) := HR5.out.below hB6
    have HRB6 : Hid (Rowed w6 bo B cb) := HRB5.out.below hB6 (Nat.le_refl _)
    have HLB6 : Hid (Lies w6 bo B) := HLB5.out.below hB6 (Nat.le_refl _)
    have hBw6 : Below w.heap.size w w6 := hBw5.trans (hB6.mono hBw5.size)
    clear hB6 HR5 HV5 HRA5 HRB5 HLB5 HB5 hBw5 HM' c1 c2
    go_wp2_with fail
    refine (free_any w6).mono ?_
    rintro x w7 ⟨rfl, hB7⟩
    have HR7 : Hid (RingV w7 (.pointer (some ⟨rg, 0, none⟩)) ring4) := HR6.out.below hB7
    have HRB7 : Hid (Rowed w7 bo B cb) := HRB6.out.below hB7 (Nat.le_refl _)
    have HLB7 : Hid (Lies w7 bo B) := HLB6.out.below hB7 (Nat.le_refl _)
    have hBw7 : Below w.heap.size w w7 := hBw6.trans (hB7.mono hBw6.size)
    clear hB7 HR6 HRB6 HLB6 hBw6
    go_wp2_with fail
    refine (may_any _ ring4 (-1) [] none 0 (.slice none 0 0) 1 view B bo cb none 0 [] w7 HR7.out (by decide) (votesIn_nil w7) (.inl ⟨rfl, rfl, rfl⟩) HRB7.out HLB7.out hcb (by omega) (fun y hy => by cases hy) yB ⟨_, _, _, rfl⟩).mono ?_
    rintro x w8 ⟨rfl, hB8⟩
    rw [show mayR ring4 (-1) [] 1 view B [] = true from rfl]
    have hBw8 : Below w.heap.size w w8 := hBw7.trans (hB8.mono hBw7.size)
    clear hB8 HR7 HRB7 HLB7 hBw7
    go_wp2_with fail
    refine (known7_any w8).mono ?_
    rintro x w9 ⟨rfl, hB9⟩
    have hBw9 : Below w.heap.size w w9 := hBw8.trans (hB9.mono hBw8.size)
    clear hB9 hBw8
    go_wp2_with fail
    go_ret
    exact ⟨rfl, hBw9⟩
set_option maxRecDepth 10000 in
set_option maxHeartbeats 4000000 in
theorem ruleBinds_any (at_ proof view n : Int) (A B : List Int) (ao bo : Option Addr) (ca cb : Nat) (w : World) (hra : Rowed w ao A ca) (hlb : Lies w bo B) (hcb : B.length ≤ cb) (hrb : Rowed w bo B cb) (yA : BytesL A) (yB : BytesL B) :
    Calls Try.prog 5 #[.int .i64 at_, .int .i64 proof, .int .i64 view, .int .i64 n, .slice ao A.length ca, .slice bo B.length cb] w fun x w' => x = .returned (.bool true) ∧ Below w.heap.size w w' := by
  by_cases z0 : at_ < 0
  · go_enter Try.func5, Try.ntmps5
    go_wp2_with fail
    go_ret
    exact ⟨rfl, Below.refl _ _⟩
  by_cases z1 : 8 < at_
  · go_enter Try.func5, Try.ntmps5
    go_wp2_with fail
    go_ret
    exact ⟨rfl, Below.refl _ _⟩
  by_cases z2 : proof < 0
  · go_enter Try.func5, Try.ntmps5
    go_wp2_with fail
    go_ret
    exact ⟨rfl, Below.refl _ _⟩
  by_cases z3 : 8 < proof
  · go_enter Try.func5, Try.ntmps5
    go_wp2_with fail
    go_ret
    exact ⟨rfl, Below.refl _ _⟩
  by_cases z4 : view < 0
  · go_enter Try.func5, Try.ntmps5
    go_wp2_with fail
    go_ret
    exact ⟨rfl, Below.refl _ _⟩
  by_cases z5 : 8 < view
  · go_enter Try.func5, Try.ntmps5
    go_wp2_with fail
    go_ret
    exact ⟨rfl, Below.refl _ _⟩
  by_cases z6 : n < 0
  · go_enter Try.func5, Try.ntmps5
    go_wp2_with fail
    go_ret
    exact ⟨rfl, Below.refl _ _⟩
  by_cases z7 : 4 < n
  · go_enter Try.func5, Try.ntmps5
    go_wp2_with fail
    go_ret
    exact ⟨rfl, Below.refl _ _⟩
  by_cases z8 : (100 : Int) < (A.length : Int)
  · go_enter Try.func5, Try.ntmps5
    go_wp2_with fail
    go_ret
    exact ⟨rfl, Below.refl _ _⟩
  by_cases z9 : (100 : Int) < (B.length : Int)
  · go_enter Try.func5, Try.ntmps5
    go_wp2_with fail
    go_ret
    exact ⟨rfl, Below.refl _ _⟩
  obtain ⟨m, rfl⟩ : ∃ m : Nat, n = (m : Int) := ⟨n.toNat, by omega⟩
  exact ruleBinds_in at_ proof view m A B ao bo ca cb w (by omega) (by omega) (by omega) (by omega) (by omega) (by omega) (by omega) (by omega) (by omega) hra hlb hcb hrb yA yB
end Go.Proofs.Yticpkpphjpgdbaa
