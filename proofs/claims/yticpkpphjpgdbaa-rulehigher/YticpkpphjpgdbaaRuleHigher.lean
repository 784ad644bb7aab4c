/- Of two locks that are proven the later one is told, of alike ones the first; who proves nothing is free: for every views, numbers of voters and values (and the example holds). No condition. -/
import Derived.Test.YticpkpphjpgdbaaRuleH
import Derived.Test.YticpkpphjpgdbaaCertLaw
namespace Go.Proofs.Yticpkpphjpgdbaa
open Go.RowKit Go.Dig Go.Sha Go.Inv Go.Oct

set_option maxRecDepth 10000 in
set_option maxHeartbeats 8000000 in
theorem ruleHigher_in (p q : Int) (n m : Nat) (A B : List Int) (ao bo : Option Addr) (ca cb : Nat) (w : World) (p0 : 0 ≤ p) (p1 : p ≤ 7) (q0 : 0 ≤ q) (q1 : q ≤ 7) (hn : n ≤ 4) (hm : m ≤ 4) (hA : A.length ≤ 100) (hB : B.length ≤ 100)
    (hla : Lies w ao A) (hca : A.length ≤ ca) (hra : Rowed w ao A ca) (hlb : Lies w bo B) (hcb : B.length ≤ cb) (hrb : Rowed w bo B cb) :
    Calls Try.prog 6 #[.int .i64 p, .int .i64 q, .int .i64 (n : Int), .int .i64 (m : Int), .slice ao A.length ca, .slice bo B.length cb] w fun x w' => x = .returned (.bool true) ∧ Below w.heap.size w w' := by
  have e0 : ¬ (p < 0) := by omega
  have e1 : ¬ (7 < p) := by omega
  have e2 : ¬ (q < 0) := by omega
  have e3 : ¬ (7 < q) := by omega
  have e4 : ¬ ((n : Int) < 0) := by omega
  have e5 : ¬ ((4 : Int) < (n : Int)) := by omega
  have e6 : ¬ ((m : Int) < 0) := by omega
  have e7 : ¬ ((4 : Int) < (m : Int)) := by omega
  have e8 : ¬ ((100 : Int) < (A.length : Int)) := by omega
  have e9 : ¬ ((100 : Int) < (B.length : Int)) := by omega
  have bp : Bd 1 2 p := bd_in (by decide) (by decide) p0 (by omega) 1 (by decide) (by decide)
  have bq : Bd 1 2 q := bd_in (by decide) (by decide) q0 (by omega) 1 (by decide) (by decide)
  have HLA : Hid (Lies w ao A) := hla
  have HLB : Hid (Lies w bo B) := hlb
  have HRA : Hid (Rowed w ao A ca) := hra
  have HRB : Hid (Rowed w bo B cb) := hrb
  have hPA := proves_pvL 2 p 9 A bp hn p0
  have hPB := proves_pvL 2 q 9 B bq hm q0
  clear hla hlb hra hrb
  go_enter Try.func6, Try.ntmps6
  go_wp2_with (refine wpList_build_to rfl 30 _ rfl (row .u8 32 (oneF 1)) (by kernel_rfl) ?_)
  refine (sNew_any 4 (oneF 1) _ (by decide) (by decide)).mono ?_
  rintro x w1 ⟨rg, rfl, hrg, hR, hB1⟩
  rw [show nodesOf 4 = 4 by decide] at hR
  have HR : Hid (RingV w1 (.pointer (some ⟨rg, 0, none⟩)) ring4) := ⟨rg, rfl, hR⟩
  clear hR
  go_wp2_with (refine wpList_build_to rfl 30 _ rfl (row .u8 32 (oneF 1)) (by kernel_rfl) ?_)
  refine (rNew_any 4 (oneF 1) w1 (by decide) (by decide)).mono ?_
  rintro x w2 ⟨xg, rfl, hxg, hX, hB2⟩
  rw [show nodesOf 4 = 4 by decide] at hX
  have HX : Hid (RRing w2 xg (oneF 1) 4) := hX
  have HR2 : Hid (RingV w2 (.pointer (some ⟨rg, 0, none⟩)) ring4) := HR.out.below hB2
  have hBw2 : Below w.heap.size w w2 := hB1.trans (hB2.mono hB1.size)
  clear hX HR hB1 hB2
  go_wp2_with fail
  refine (votes7_any xg (n : Int) 2 p A ao ca w2 bp HX.out (HRA.out.below hBw2 (Nat.le_refl _)) (by omega)).mono ?_
  rintro x w3 ⟨v, rfl, hO, hB3⟩
  rw [show (min (n : Int) 4).toNat = n by omega] at hO
  have hBw3 : Below w.heap.size w w3 := hBw2.trans (hB3.mono hBw2.size)
  have HR3 : Hid (RingV w3 (.pointer (some ⟨rg, 0, none⟩)) ring4) := HR2.out.below hB3
  have HX3 : Hid (RRing w3 xg (oneF 1) 4) := HX.out.below hB3
  have hlya : Hid ((pvL 1 2 p A bp n).length = n) := pvL_length 1 2 p A bp n
  obtain ⟨va, da, rfl, hVa⟩ := hO.form
  generalize pvL 1 2 p A bp n = ya at *
  have HVA : Hid (VotesIn w3 va da ya) := hVa
  clear HR2 HX hB3 hBw2 hO hVa
  go_wp2_with fail
  refine (votes7_any xg (m : Int) 2 q B bo cb w3 bq HX3.out (HRB.out.below hBw3 (Nat.le_refl _)) (by omega)).mono ?_
  rintro x w4 ⟨v, rfl, hO, hB4⟩
  rw [show (min (m : Int) 4).toNat = m by omega] at hO
  have hBw4 : Below w.heap.size w w4 := hBw3.trans (hB4.mono hBw3.size)
  have HR4 : Hid (RingV w4 (.pointer (some ⟨rg, 0, none⟩)) ring4) := HR3.out.below hB4
  have hlyb : Hid ((pvL 1 2 q B bq m).length = m) := pvL_length 1 2 q B bq m
  obtain ⟨vb, db, rfl, hVb⟩ := hO.form
  generalize pvL 1 2 q B bq m = yb at *
  have HIA : Hid (LockIn w4 A ao ca ya va da) := ⟨HRA.out.below hBw4 (Nat.le_refl _), HLA.out.below hBw4 (Nat.le_refl _), hca, by omega, HVA.out.below hB4, by have := hlya.out; omega⟩
  have HIB : Hid (LockIn w4 B bo cb yb vb db) := ⟨HRB.out.below hBw4 (Nat.le_refl _), HLB.out.below hBw4 (Nat.le_refl _), hcb, by omega, hVb, by have := hlyb.out; omega⟩
  clear HR3 HX3 hB4 hBw3 hO hVb HVA hlya hlyb
  have HPA : Hid (provesR ring4 ya 2 9 A = if 3 ≤ n ∧ p < 9 then some p else none) := hPA
  have HPB : Hid (provesR ring4 yb 2 9 B = if 3 ≤ m ∧ q < 9 then some q else none) := hPB
  clear hPA hPB
  go_wp2_with fail
  refine (higher_any _ ring4 2 9 0 0 A B ao bo ca cb ya yb va vb da db w4 HR4.out (by decide) HIA.out HIB.out (if 3 ≤ n ∧ p < 9 then some p else none) (if 3 ≤ m ∧ q < 9 then some q else none) HPA.out HPB.out).mono ?_
  rintro x w5 ⟨y, rfl, hy2, hy1, hB5⟩
  have hBw5 : Below w.heap.size w w5 := hBw4.trans (hB5.mono hBw4.size)
  clear HPA HPB HIA HIB HR4
  have hcase : (3 ≤ n ∧ ¬ 3 ≤ m) ∨ (3 ≤ n ∧ 3 ≤ m ∧ q ≤ p) ∨ (3 ≤ n ∧ 3 ≤ m ∧ ¬ q ≤ p) ∨ (¬ 3 ≤ n ∧ 3 ≤ m) ∨ (¬ 3 ≤ n ∧ ¬ 3 ≤ m) := by omega
  rcases hcase with ⟨qn, qm⟩ | ⟨qn, qm, qp⟩ | ⟨qn, qm, qp⟩ | ⟨qn, qm⟩ | ⟨qn, qm⟩
  · rw [if_pos (show 3 ≤ n ∧ p < 9 by omega), if_neg (show ¬ (3 ≤ m ∧ q < 9) by omega)] at hy2 hy1
    simp only [Option.getD_some, Option.getD_none] at hy2 hy1
    obtain ⟨x, z, rfl, hx, hz⟩ := hy1 (by omega)
    clear hy1 hy2
    simp only [gotB, gotV, Option.getD_some] at hx hz ⊢
    obtain ⟨xa, xn, xc, rfl, hxf⟩ := hx.form
    obtain ⟨za, zc, rfl, -⟩ := hz.form
    obtain ⟨hxn, hxc, hxR⟩ := hxf.out
    subst hxn
    have hBA := below_alloc w5 (.cells #[.int .i64 p, .slice xa A.length xc, .slice za ya.length zc] 25)
    have hBw6 : Below w.heap.size w (w5.alloc (.cells #[.int .i64 p, .slice xa A.length xc, .slice za ya.length zc] 25)) := hBw5.trans (hBA.mono hBw5.size)
    have c1 : (convert 22 9 (.slice xa A.length xc)).run Try.prog (w5.alloc (.cells #[.int .i64 p, .slice xa A.length xc, .slice za ya.length zc] 25)) = .ok (.string (strOf A)) _ := conv_str (hxR.below hBA (Nat.le_refl _)) rfl
    have c2 : (convert 22 9 (.slice ao A.length ca)).run Try.prog (w5.alloc (.cells #[.int .i64 p, .slice xa A.length xc, .slice za ya.length zc] 25)) = .ok (.string (strOf A)) _ := conv_str (HRA.out.below hBw6 (Nat.le_refl _)) rfl
    have hself : ((strOf A).toList == (strOf A).toList) = true := by simp
    clear hBA hBw5 hB5 hBw4 hx hz hxf hxR hxc
    go_wp2_with fail
    refine (known7_any _).mono ?_
    rintro x w7 ⟨rfl, hB7⟩
    have hBw7 : Below w.heap.size w w7 := hBw6.trans (hB7.mono hBw6.size)
    clear hB7 hBw6
    go_wp2_with fail
    go_ret
    exact ⟨rfl, hBw7⟩
  · rw [if_pos (show 3 ≤ n ∧ p < 9 by omega), if_pos (show 3 ≤ m ∧ q < 9 by omega)] at hy2 hy1
    simp only [Option.getD_some] at hy2 hy1
    obtain ⟨x, z, rfl, hx, hz⟩ := hy1 (by omega)
    clear hy1 hy2
    simp only [gotB, gotV, Option.getD_some] at hx hz ⊢
    obtain ⟨xa, xn, xc, rfl, hxf⟩ := hx.form
    obtain ⟨za, zc, rfl, -⟩ := hz.form
    obtain ⟨hxn, hxc, hxR⟩ := hxf.out
    subst hxn
    have hBA := below_alloc w5 (.cells #[.int .i64 p, .slice xa A.length xc, .slice za ya.length zc] 25)
    have hBw6 : Below w.heap.size w (w5.alloc (.cells #[.int .i64 p, .slice xa A.length xc, .slice za ya.length zc] 25)) := hBw5.trans (hBA.mono hBw5.size)
    have c1 : (convert 22 9 (.slice xa A.length xc)).run Try.prog (w5.alloc (.cells #[.int .i64 p, .slice xa A.length xc, .slice za ya.length zc] 25)) = .ok (.string (strOf A)) _ := conv_str (hxR.below hBA (Nat.le_refl _)) rfl
    have c2 : (convert 22 9 (.slice ao A.length ca)).run Try.prog (w5.alloc (.cells #[.int .i64 p, .slice xa A.length xc, .slice za ya.length zc] 25)) = .ok (.string (strOf A)) _ := conv_str (HRA.out.below hBw6 (Nat.le_refl _)) rfl
    have hself : ((strOf A).toList == (strOf A).toList) = true := by simp
    clear hBA hBw5 hB5 hBw4 hx hz hxf hxR hxc
    go_wp2_with fail
    refine (known7_any _).mono ?_
    rintro x w7 ⟨rfl, hB7⟩
    have hBw7 : Below w.heap.size w w7 := hBw6.trans (hB7.mono hBw6.size)
    clear hB7 hBw6
    go_wp2_with fail
    go_ret
    exact ⟨rfl, hBw7⟩
  · rw [if_pos (show 3 ≤ n ∧ p < 9 by omega), if_pos (show 3 ≤ m ∧ q < 9 by omega)] at hy2 hy1
    simp only [Option.getD_some] at hy2 hy1
    obtain ⟨x, z, rfl, hx, hz⟩ := hy2 (by omega)
    clear hy1 hy2
    simp only [gotB, gotV, Option.getD_some] at hx hz ⊢
    obtain ⟨xa, xn, xc, rfl, hxf⟩ := hx.form
    obtain ⟨za, zc, rfl, -⟩ := hz.form
    obtain ⟨hxn, hxc, hxR⟩ := hxf.out
    subst hxn
    have hBA := below_alloc w5 (.cells #[.int .i64 q, .slice xa B.length xc, .slice za yb.length zc] 25)
    have hBw6 : Below w.heap.size w (w5.alloc (.cells #[.int .i64 q, .slice xa B.length xc, .slice za yb.length zc] 25)) := hBw5.trans (hBA.mono hBw5.size)
    have c1 : (convert 22 9 (.slice xa B.length xc)).run Try.prog (w5.alloc (.cells #[.int .i64 q, .slice xa B.length xc, .slice za yb.length zc] 25)) = .ok (.string (strOf B)) _ := conv_str (hxR.below hBA (Nat.le_refl _)) rfl
    have c2 : (convert 22 9 (.slice bo B.length cb)).run Try.prog (w5.alloc (.cells #[.int .i64 q, .slice xa B.length xc, .slice za yb.length zc] 25)) = .ok (.string (strOf B)) _ := conv_str (HRB.out.below hBw6 (Nat.le_refl _)) rfl
    have hself : ((strOf B).toList == (strOf B).toList) = true := by simp
    clear hBA hBw5 hB5 hBw4 hx hz hxf hxR hxc
    go_wp2_with fail
    refine (known7_any _).mono ?_
    rintro x w7 ⟨rfl, hB7⟩
    have hBw7 : Below w.heap.size w w7 := hBw6.trans (hB7.mono hBw6.size)
    clear hB7 hBw6
    go_wp2_with fail
    go_ret
    exact ⟨rfl, hBw7⟩
  · rw [if_neg (show ¬ (3 ≤ n ∧ p < 9) by omega), if_pos (show 3 ≤ m ∧ q < 9 by omega)] at hy2 hy1
    simp only [Option.getD_some, Option.getD_none] at hy2 hy1
    obtain ⟨x, z, rfl, hx, hz⟩ := hy2 (by omega)
    clear hy1 hy2
    simp only [gotB, gotV, Option.getD_some] at hx hz ⊢
    obtain ⟨xa, xn, xc, rfl, hxf⟩ := hx.form
    obtain ⟨za, zc, rfl, -⟩ := hz.form
    obtain ⟨hxn, hxc, hxR⟩ := hxf.out
    subst hxn
    have hBA := below_alloc w5 (.cells #[.int .i64 q, .slice xa B.length xc, .slice za yb.length zc] 25)
    have hBw6 : Below w.heap.size w (w5.alloc (.cells #[.int .i64 q, .slice xa B.length xc, .slice za yb.length zc] 25)) := hBw5.trans (hBA.mono hBw5.size)
    have c1 : (convert 22 9 (.slice xa B.length xc)).run Try.prog (w5.alloc (.cells #[.int .i64 q, .slice xa B.length xc, .slice za yb.length zc] 25)) = .ok (.string (strOf B)) _ := conv_str (hxR.below hBA (Nat.le_refl _)) rfl
    have c2 : (convert 22 9 (.slice bo B.length cb)).run Try.prog (w5.alloc (.cells #[.int .i64 q, .slice xa B.length xc, .slice za yb.length zc] 25)) = .ok (.string (strOf B)) _ := conv_str (HRB.out.below hBw6 (Nat.le_refl _)) rfl
    have hself : ((strOf B).toList == (strOf B).toList) = true := by simp
    clear hBA hBw5 hB5 hBw4 hx hz hxf hxR hxc
    go_wp2_with fail
    refine (known7_any _).mono ?_
    rintro x w7 ⟨rfl, hB7⟩
    have hBw7 : Below w.heap.size w w7 := hBw6.trans (hB7.mono hBw6.size)
    clear hB7 hBw6
    go_wp2_with fail
    go_ret
    exact ⟨rfl, hBw7⟩
  · rw [if_neg (show ¬ (3 ≤ n ∧ p < 9) by omega), if_neg (show ¬ (3 ≤ m ∧ q < 9) by omega)] at hy2 hy1
    simp only [Option.getD_none] at hy2 hy1
    obtain ⟨x, z, rfl, hx, hz⟩ := hy1 (by omega)
    clear hy1 hy2
    simp only [gotB, gotV, Option.getD_none] at hx hz ⊢
    obtain ⟨xa, xn, xc, rfl, hxf⟩ := hx.form
    obtain ⟨za, zc, rfl, -⟩ := hz.form
    obtain ⟨hxn, hxc, hxR⟩ := hxf.out
    subst hxn
    have hBA := below_alloc w5 (.cells #[.int .i64 (-1), .slice xa ([] : List Int).length xc, .slice za ([] : List VoteW).length zc] 25)
    have hBw6 : Below w.heap.size w (w5.alloc (.cells #[.int .i64 (-1), .slice xa ([] : List Int).length xc, .slice za ([] : List VoteW).length zc] 25)) := hBw5.trans (hBA.mono hBw5.size)
    simp only [List.length_nil] at hBw6 ⊢
    clear hBA hBw5 hB5 hBw4 hx hz hxf hxR hxc
    go_wp2_with fail
    refine (known7_any _).mono ?_
    rintro x w7 ⟨rfl, hB7⟩
    have hBw7 : Below w.heap.size w w7 := hBw6.trans (hB7.mono hBw6.size)
    clear hB7 hBw6
    go_wp2_with fail
    go_ret
    exact ⟨rfl, hBw7⟩
set_option maxRecDepth 10000 in
set_option maxHeartbeats 4000000 in
theorem ruleHigher_any (p q n m : Int) (A B : List Int) (ao bo : Option Addr) (ca cb : Nat) (w : World) (hla : Lies w ao A) (hca : A.length ≤ ca) (hra : Rowed w ao A ca) (hlb : Lies w bo B) (hcb : B.length ≤ cb) (hrb : Rowed w bo B cb) :
    Calls Try.prog 6 #[.int .i64 p, .int .i64 q, .int .i64 n, .int .i64 m, .slice ao A.length ca, .slice bo B.length cb] w fun x w' => x = .returned (.bool true) ∧ Below w.heap.size w w' := by
  by_cases z0 : p < 0
  · go_enter Try.func6, Try.ntmps6
    go_wp2_with fail
    go_ret
    exact ⟨rfl, Below.refl _ _⟩
  by_cases z1 : 7 < p
  · go_enter Try.func6, Try.ntmps6
    go_wp2_with fail
    go_ret
    exact ⟨rfl, Below.refl _ _⟩
  by_cases z2 : q < 0
  · go_enter Try.func6, Try.ntmps6
    go_wp2_with fail
    go_ret
    exact ⟨rfl, Below.refl _ _⟩
  by_cases z3 : 7 < q
  · go_enter Try.func6, Try.ntmps6
    go_wp2_with fail
    go_ret
    exact ⟨rfl, Below.refl _ _⟩
  by_cases z4 : n < 0
  · go_enter Try.func6, Try.ntmps6
    go_wp2_with fail
    go_ret
    exact ⟨rfl, Below.refl _ _⟩
  by_cases z5 : 4 < n
  · go_enter Try.func6, Try.ntmps6
    go_wp2_with fail
    go_ret
    exact ⟨rfl, Below.refl _ _⟩
  by_cases z6 : m < 0
  · go_enter Try.func6, Try.ntmps6
    go_wp2_with fail
    go_ret
    exact ⟨rfl, Below.refl _ _⟩
  by_cases z7 : 4 < m
  · go_enter Try.func6, Try.ntmps6
    go_wp2_with fail
    go_ret
    exact ⟨rfl, Below.refl _ _⟩
  by_cases z8 : (100 : Int) < (A.length : Int)
  · go_enter Try.func6, Try.ntmps6
    go_wp2_with fail
    go_ret
    exact ⟨rfl, Below.refl _ _⟩
  by_cases z9 : (100 : Int) < (B.length : Int)
  · go_enter Try.func6, Try.ntmps6
    go_wp2_with fail
    go_ret
    exact ⟨rfl, Below.refl _ _⟩
  obtain ⟨n, rfl⟩ : ∃ k : Nat, n = (k : Int) := ⟨n.toNat, by omega⟩
  obtain ⟨m, rfl⟩ : ∃ k : Nat, m = (k : Int) := ⟨m.toNat, by omega⟩
  exact ruleHigher_in p q n m A B ao bo ca cb w (by omega) (by omega) (by omega) (by omega) (by omega) (by omega) (by omega) (by omega) hla hca hra hlb hcb hrb
end Go.Proofs.Yticpkpphjpgdbaa
namespace Go.Proofs.Yticpkpphjpgdbaa.ruleHigher
open Go.ChangeShapes Go.WideShapes Go.ChangeAt Go.RowKit Go.Dig
open Go.ChangeMaps (open_string shut_string)
set_option linter.unusedVariables false

theorem laidOut : laidOutB Try.prog = true := by kernel_rfl
theorem own : ownKnob Try.prog.godebug = none := by kernel_rfl

set_option maxRecDepth 100000 in
theorem lifted (os : Os) (started : os.Started) (H : Type) (enc : TypeId × Value → H) :
    ReturnsInHanded {} Try.checked os 6 .any (Rows.ruleHigherSpec.pre6 enc Try.prog Try.f6 Rows.ruleHigherRow.domain false) (Rows.ruleHigherSpec.post enc Try.prog Try.f6 false true false false) := by
  refine returnsInHanded_of_change (C := Try.checked) own started (by kernel_rfl) Try.func6
    (ChangeSpec.witness6 (enc := enc) (C := Try.checked) false ⟨#[], #[.int .i64 0, .int .i64 0, .int .i64 0, .int .i64 0, .slice none 0 0, .slice none 0 0], []⟩ 8 (by kernel_rfl) (by kernel_rfl) (by kernel_rfl) (by kernel_rfl)) ?_
  intro W base args ds gs before hval0 hW hcnd _
  have hval : ∀ (j : Nat) t v, Try.f6.params[j]? = some t → args[j]? = some v → Value.okWide Try.prog W .any base t v := hval0
  have hW' := hW
  obtain ⟨p, q, hA0, hV, rfl, hfz, hnd⟩ := hW
  have hA : DataW.TrodAll enc Try.prog W 0 (fun _ => true) true Try.f6.params.toList args.toList ds p := hA0
  rw [Try.params6] at hA hval
  obtain ⟨v0, vs0, d0, ds0, p0, q0, hargs, rfl, rfl, h0, r0⟩ := trodAll_cons hA
  obtain ⟨v1, vs1, d1, ds1, p1, q1, rfl, rfl, rfl, h1, r1⟩ := trodAll_cons r0
  obtain ⟨v2, vs2, d2, ds2, p2, q2, rfl, rfl, rfl, h2, r2⟩ := trodAll_cons r1
  obtain ⟨v3, vs3, d3, ds3, p3, q3, rfl, rfl, rfl, h3, r3⟩ := trodAll_cons r2
  obtain ⟨v4, vs4, d4, ds4, p4, q4, rfl, rfl, rfl, h4, r4⟩ := trodAll_cons r3
  obtain ⟨v5, vs5, d5, ds5, p5, q5, rfl, rfl, rfl, h5, r5⟩ := trodAll_cons r4
  obtain ⟨rfl, rfl, rfl⟩ := trodAll_nil r5
  obtain rfl : args = #[v0, v1, v2, v3, v4, v5] := by cases args; simp_all
  obtain ⟨rfl, rfl⟩ := trodVars_none hV
  obtain ⟨a0, rfl, rfl, rfl, w0⟩ := open_int Try.underlying3 (hval 0 3 v0 rfl rfl) h0
  have b0 := wf_i64 w0
  obtain ⟨a1, rfl, rfl, rfl, w1⟩ := open_int Try.underlying3 (hval 1 3 v1 rfl rfl) h1
  have b1 := wf_i64 w1
  obtain ⟨a2, rfl, rfl, rfl, w2⟩ := open_int Try.underlying3 (hval 2 3 v2 rfl rfl) h2
  have b2 := wf_i64 w2
  obtain ⟨a3, rfl, rfl, rfl, w3⟩ := open_int Try.underlying3 (hval 3 3 v3 rfl rfl) h3
  have b3 := wf_i64 w3
  have k4 := h4
  have lt4 : ∀ x ∈ p4, x.block < W.heap.size := by obtain ⟨m, hm⟩ := k4; exact DataW.trod_lt m _ _ _ hm
  obtain ⟨o4, len4, c4, rfl⟩ := okWide_slice Try.underlying22 (hval 4 22 v4 rfl rfl)
  obtain ⟨P4, rfl, l4, n4, y4, R4⟩ : ∃ P : List Int, len4 = P.length ∧ Lies W o4 P ∧ P.length ≤ c4 ∧ (∀ y ∈ P, 0 ≤ y ∧ y < 256) ∧ Rowed W o4 P c4 := by
    obtain ⟨fuel, hf⟩ := h4
    exact open_rowed hf
  have k5 := h5
  have lt5 : ∀ x ∈ p5, x.block < W.heap.size := by obtain ⟨m, hm⟩ := k5; exact DataW.trod_lt m _ _ _ hm
  obtain ⟨o5, len5, c5, rfl⟩ := okWide_slice Try.underlying22 (hval 5 22 v5 rfl rfl)
  obtain ⟨P5, rfl, l5, n5, y5, R5⟩ : ∃ P : List Int, len5 = P.length ∧ Lies W o5 P ∧ P.length ≤ c5 ∧ (∀ y ∈ P, 0 ≤ y ∧ y < 256) ∧ Rowed W o5 P c5 := by
    obtain ⟨fuel, hf⟩ := h5
    exact open_rowed hf
  clear hA0 hval0
  refine (ruleHigher_any a0 a1 a2 a3 P4 P5 o4 o5 c4 c5 W l4 n4 R4 l5 n5 R5).mono fun e W' ⟨he, bel⟩ => ?_
  subst he
  exact ⟨_, rfl, _, _, _, [], _, [], hW', trodAll_mk1 (shut_bool Try.underlying4 _), (trodAll_cons_mk (shut_int Try.underlying3 w0) (trodAll_cons_mk (shut_int Try.underlying3 w1) (trodAll_cons_mk (shut_int Try.underlying3 w2) (trodAll_cons_mk (shut_int Try.underlying3 w3) (trodAll_cons_mk (Below.trod laidOut (by kernel_rfl) (of_decide_eq_true (by kernel_rfl)) k4 bel lt4) (trodAll_cons_mk (Below.trod laidOut (by kernel_rfl) (of_decide_eq_true (by kernel_rfl)) k5 bel lt5) trodAll_mk0)))))), rfl, bel.frame _, fun h => by cases h⟩

theorem over : Rows.ruleHigherRow.holds Try.pinned (OpenSpec.ofChange Rows.ruleHigherSpec) :=
  OpenClaim.holds_of_wide 6 Try.f6 rfl rfl rfl rfl rfl rfl rfl ⟨rfl, rfl, rfl, rfl, rfl⟩ rfl rfl rfl rfl rfl (by kernel_rfl) Try.func6 (by kernel_rfl)
    (of_decide_eq_true (by kernel_rfl)) (by unfold Func.isWrapper; first | (rw [if_pos (by decide +kernel)]; kernel_rfl) | (rw [if_neg (by decide +kernel)]; exact ⟨rfl, rfl⟩))
    (fun os started H enc _ => lifted os started H enc)

theorem proved : Rows.RuleHigherSaid := over
#print axioms proved
end Go.Proofs.Yticpkpphjpgdbaa.ruleHigher
