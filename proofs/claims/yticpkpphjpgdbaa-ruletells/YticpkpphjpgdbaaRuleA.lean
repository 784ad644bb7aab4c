/- rule's Free, Proves and May, of every ring, row of votes, lock and value; the law's example. -/
import Derived.Test.YticpkpphjpgdbaaCertD
import Derived.Test.YticpkpphjpgdbaaCertV
namespace Go.Proofs.Yticpkpphjpgdbaa
open Go.RowKit Go.Dig Go.Sha Go.Inv Go.Oct

theorem lock_rowM : ∃ d, Try.prog.underlying 25 = some d ∧ (match d with | .struct _ | .array _ _ => true | _ => false) = true := by
  have h : (Try.prog.underlying 25).map (fun d => match d with | .struct _ | .array _ _ => true | _ => false) = some true := by kernel_rfl
  cases hd : Try.prog.underlying 25 with
  | none => rw [hd] at h; cases h
  | some d => rw [hd] at h; exact ⟨d, rfl, by simpa using h⟩
theorem lock_info (v x y : Value) : (Try.prog.info? 25).map (·.size) = some (#[v, x, y] : Array Value).size := by rw [show (#[v, x, y] : Array Value).size = 3 from rfl]; kernel_rfl
set_option maxRecDepth 10000 in
set_option maxHeartbeats 1000000 in
theorem free_any (w : World) : Calls Try.prog 23 #[] w fun e w' => e = .returned (.agg #[.int .i64 (-1), .slice none 0 0, .slice none 0 0]) ∧ Below w.heap.size w w' := by
  have hB := below_alloc w (.cells #[.int .i64 (-1), .slice none 0 0, .slice none 0 0] 25)
  have hb := alloc_blk w (.cells #[.int .i64 (-1), .slice none 0 0, .slice none 0 0] 25)
  have HB : Hid _ := hb
  obtain ⟨d, hd1, hd2⟩ := lock_rowM
  have HD1 : Hid _ := hd1
  clear hb hd1
  go_enter Try.func23, Try.ntmps23
  go_wp2_with fail
  refine bodyPost_ret (v := .agg #[.int .i64 (-1), .slice none 0 0, .slice none 0 0]) ?_ rfl ⟨rfl, hB⟩
  refine results_cell_row rfl _ _ w.heap.size _ _ _ d rfl HB.out HD1.out ?_ (lock_info _ _ _)
  cases d <;> first | rfl | exact hd2
set_option maxRecDepth 10000 in
set_option maxHeartbeats 1000000 in
theorem leader_known (w : World) : Calls Try.prog 19 #[.int .i64 3, .int .i64 2, .int .i64 4] w fun e w' => e = .returned (.int .i64 1) ∧ ∃ q, w' = w.drewN q := by
  go_enter Try.func19, Try.ntmps19
  go_wp2_with fail
  go_quiet (fail)
  go_wp2_with fail
  go_ret
  exact ⟨rfl, _, rfl⟩
set_option maxRecDepth 10000 in
set_option maxHeartbeats 1000000 in
theorem known7_any (w : World) : Calls Try.prog 21 #[] w fun e w' => e = .returned (.bool true) ∧ Below w.heap.size w w' := by
  go_enter Try.func21, Try.ntmps21
  go_wp2_with fail
  refine (free_any w).mono ?_
  rintro e w1 ⟨rfl, hB1⟩
  have hB2 : Below w.heap.size w (w1.alloc (.cells #[.int .i64 (-1), .slice none 0 0, .slice none 0 0] 25)) := hB1.alloc hB1.size _
  go_wp2_with fail
  refine (leader_known _).mono ?_
  rintro e w2 ⟨rfl, q, rfl⟩
  have hB3 : Below w.heap.size w ((w1.alloc (.cells #[.int .i64 (-1), .slice none 0 0, .slice none 0 0] 25)).drewN q) := hB2.trans ⟨rfl, rfl, rfl, Nat.le_refl _, fun _ _ => rfl⟩
  clear hB2 hB1
  generalize (w1.alloc (.cells #[.int .i64 (-1), .slice none 0 0, .slice none 0 0] 25)).drewN q = w3 at *
  go_wp2_with fail
  go_ret
  exact ⟨rfl, hB3⟩
/-- the view that votes prove -/
def provesR (R : RingO) (ys : List VoteW) (slot below : Int) (P : List Int) : Option Int := match ys with
  | [] => none
  | y :: _ => if 0 ≤ y.1.v ∧ y.1.v < below ∧ meetsR R ys 1 slot y.1.v (sha P) = true then some y.1.v else none
def provedV (o : Option Int) : Value := .tuple #[.int .i64 (o.getD (-1)), .bool o.isSome]
set_option maxRecDepth 10000 in
set_option maxHeartbeats 1000000 in
theorem proves_any (pr : Value) (R : RingO) (ao : Option Addr) (cap : Nat) (ys : List VoteW) (slot below : Int) (P : List Int) (bo : Option Addr) (dap : Nat) (w : World) (hR : RingV w pr R) (hn : nodesR R ≤ 10) (hV : VotesIn w ao cap ys) (hl : Lies w bo P) (hc : P.length ≤ dap) (hz : P.length < 274877906944) :
    Calls Try.prog 12 #[pr, .slice ao ys.length cap, .int .i64 slot, .int .i64 below, .slice bo P.length dap] w fun e w' => e = .returned (provedV (provesR R ys slot below P)) ∧ Below w.heap.size w w' := by
  obtain ⟨a, rfl⟩ := hR.form
  have HR : Hid (RingV w (.pointer a) R) := hR
  have HV : Hid (VotesIn w ao cap ys) := hV
  have HL : Hid (Lies w bo P) := hl
  clear hR hl
  cases ys with
  | nil =>
    clear hV
    rw [show ([] : List VoteW).length = 0 from rfl]
    go_enter Try.func12, Try.ntmps12
    go_wp2_with fail
    exact bodyPost_ret (results_tmp2 rfl _ _ _) rfl ⟨rfl, Below.refl _ _⟩
  | cons y t =>
    obtain ⟨b, o, rfl, hv0⟩ := hV.at_ 0 (by simp)
    have hcv : w.cell? ⟨b, o + 2, none⟩ = some (.int .i64 y.1.v) := by
      have := hv0 2 (by omega)
      rw [Nat.zero_mul, Nat.add_zero, List.getElem_cons_zero, y.1.at2] at this; exact this
    clear hV hv0
    obtain ⟨m, hm⟩ : ∃ m, (y :: t).length = m + 1 := ⟨t.length, rfl⟩
    have HM : Hid ((y :: t).length = m + 1) := hm
    have HP : Hid (∀ v, y.1.v = v → provesR R (y :: t) slot below P = if 0 ≤ v ∧ v < below ∧ meetsR R (y :: t) 1 slot v (sha P) = true then some v else none) := fun v e => by subst e; rfl
    rw [hm]
    obtain ⟨v, hv⟩ : ∃ v, y.1.v = v := ⟨_, rfl⟩
    have HP2 : Hid _ := HP.out v hv
    rw [hv] at hcv
    clear hm hv HP
    by_cases q0 : v < 0
    · go_enter Try.func12, Try.ntmps12
      go_wp2_with fail
      exact bodyPost_ret (results_tmp2 rfl _ _ _) rfl ⟨by rw [HP2.out, if_neg (by omega)]; rfl, Below.refl _ _⟩
    · by_cases q1 : below ≤ v
      · go_enter Try.func12, Try.ntmps12
        go_wp2_with fail
        exact bodyPost_ret (results_tmp2 rfl _ _ _) rfl ⟨by rw [HP2.out, if_neg (by omega)]; rfl, Below.refl _ _⟩
      · have q0' : 0 ≤ v := by omega
        have q1' : v < below := by omega
        clear q0 q1
        go_enter Try.func12, Try.ntmps12
        go_wp2_with fail
        refine (valueSum_any P bo dap w HL.out hc hz).mono ?_
        rintro e w1 ⟨rfl, hB1⟩
        go_wp2_with fail
        have HM' := HM.out
        rw [← HM']
        refine (meets_any (.pointer a) R (some ⟨b, o, none⟩) cap (y :: t) 1 slot v (sha P) w1 (HR.out.below hB1) hn (HV.out.below hB1)).mono ?_
        rintro e w2 ⟨rfl, hB2⟩
        have hB3 : Below w.heap.size w w2 := hB1.trans (hB2.mono hB1.size)
        clear hB1 hB2 hcv HM'
        cases hq : meetsR R (y :: t) 1 slot v (sha P)
        · go_wp2_with fail
          exact bodyPost_ret (results_tmp2 rfl _ _ _) rfl ⟨by rw [HP2.out, if_neg (by rw [hq]; simp)]; rfl, hB3⟩
        · go_wp2_with fail
          exact bodyPost_ret (results_tmp2 rfl _ _ _) rfl ⟨by rw [HP2.out, if_pos ⟨q0', q1', hq⟩]; rfl, hB3⟩
theorem strOf_data (L : List Int) : (strOf L).data = (L.map fun n => UInt8.ofNat n.toNat).toArray := by
  have h : ∀ (L : List Int) (r : ByteArray), (L.foldl (fun r n => r.push (UInt8.ofNat n.toNat)) r).data = r.data ++ (L.map fun n => UInt8.ofNat n.toNat).toArray := by
    intro L
    induction L with
    | nil => intro r; simp
    | cons x t ih => intro r; rw [List.foldl_cons, ih]; apply Array.toList_inj.1; simp [ByteArray.push]
  unfold strOf
  rw [h]; simp
theorem strOf_inj {P Q : List Int} (hp : ∀ y ∈ P, 0 ≤ y ∧ y < 256) (hq : ∀ y ∈ Q, 0 ≤ y ∧ y < 256) : strOf P = strOf Q ↔ P = Q := by
  refine ⟨fun h => ?_, fun h => by rw [h]⟩
  have hd := congrArg ByteArray.data h
  rw [strOf_data, strOf_data] at hd
  have hd' := congrArg Array.toList hd
  simp only at hd'
  clear h hd
  induction P generalizing Q with
  | nil => cases Q with
    | nil => rfl
    | cons _ _ => simp at hd'
  | cons x t ih => cases Q with
    | nil => simp at hd'
    | cons y s =>
      simp only [List.map_cons, List.cons.injEq] at hd'
      have h1 := hp x (by simp)
      have h2 := hq y (by simp)
      have e : x = y := by
        have := congrArg UInt8.toNat hd'.1
        simp only [UInt8.toNat_ofNat'] at this
        omega
      rw [e, ih (fun z hz => hp z (by simp [hz])) (fun z hz => hq z (by simp [hz])) hd'.2]
def BytesL (P : List Int) : Prop := ∀ y ∈ P, 0 ≤ y ∧ y < 256
theorem eqStr {P Q : List Int} (hp : BytesL P) (hq : BytesL Q) : ((strOf P).toList == (strOf Q).toList) = decide (P = Q) := by
  by_cases h : P = Q
  · subst h; simp
  · rw [decide_eq_false h, beq_eq_false_iff_ne]
    intro e
    rw [ByteArray.toList_eq, ByteArray.toList_eq, strOf_data, strOf_data] at e
    refine h ((strOf_inj hp hq).1 (ByteArray.ext ?_))
    rw [strOf_data, strOf_data]
    exact Array.toList_inj.1 e
set_option maxRecDepth 10000 in
set_option maxHeartbeats 1000000 in
theorem equalB_any (P Q : List Int) (ao bo : Option Addr) (cap dap : Nat) (w : World) (h1 : Rowed w ao P cap) (h2 : Rowed w bo Q dap) (hp : BytesL P) (hq : BytesL Q) :
    Calls Try.prog 31 #[.slice ao P.length cap, .slice bo Q.length dap] w fun e w' => e = .returned (.bool (decide (P = Q))) ∧ w' = w := by
  have c1 : (convert 22 9 (.slice ao P.length cap)).run Try.prog w = .ok (.string (strOf P)) w := conv_str h1 rfl
  have c2 : (convert 22 9 (.slice bo Q.length dap)).run Try.prog w = .ok (.string (strOf Q)) w := conv_str h2 rfl
  have HE : Hid (((strOf P).toList == (strOf Q).toList) = decide (P = Q)) := eqStr hp hq
  clear h1 h2
  go_enter Try.func31, Try.ntmps31
  go_wp2_with fail
  go_ret
  exact ⟨by rw [← HE.out]; rfl, rfl⟩
/-- may a value be prepared? -/
def mayR (R : RingO) (kv : Int) (K : List Int) (slot view : Int) (P : List Int) (ys : List VoteW) : Bool := decide (kv = -1) || decide (K = P) || (match provesR R ys slot view P with | some v => decide (kv < v) | none => false)
set_option maxRecDepth 10000 in
set_option maxHeartbeats 1000000 in
theorem may_any (pr : Value) (R : RingO) (kv : Int) (K : List Int) (ka : Option Addr) (kc : Nat) (kw : Value) (slot view : Int) (P : List Int) (bo : Option Addr) (dap : Nat) (ao : Option Addr) (cap : Nat) (ys : List VoteW) (w : World) (hR : RingV w pr R) (hn : nodesR R ≤ 10) (hV : VotesIn w ao cap ys)
    (hK : Rowed w ka K kc) (hP : Rowed w bo P dap) (hl : Lies w bo P) (hc : P.length ≤ dap) (hz : P.length < 274877906944) (hbK : BytesL K) (hbP : BytesL P) (hkw : ∃ a b c, kw = .slice a b c) :
    Calls Try.prog 14 #[pr, .agg #[.int .i64 kv, .slice ka K.length kc, kw], .int .i64 slot, .int .i64 view, .slice bo P.length dap, .slice ao ys.length cap] w fun e w' => e = .returned (.bool (mayR R kv K slot view P ys)) ∧ Below w.heap.size w w' := by
  obtain ⟨a, rfl⟩ := hR.form
  obtain ⟨xa, xb, xc, rfl⟩ := hkw
  have HB : Hid ((w.alloc (.cells #[.int .i64 kv, .slice ka K.length kc, .slice xa xb xc] 25)).heap[w.heap.size]? = some (.cells #[.int .i64 kv, .slice ka K.length kc, .slice xa xb xc] 25 (0, 0))) := alloc_blk _ _
  have hBw := below_alloc w (.cells #[.int .i64 kv, .slice ka K.length kc, .slice xa xb xc] 25)
  have HR : Hid (RingV (w.alloc (.cells #[.int .i64 kv, .slice ka K.length kc, .slice xa xb xc] 25)) (.pointer a) R) := hR.below hBw
  have HV : Hid (VotesIn (w.alloc (.cells #[.int .i64 kv, .slice ka K.length kc, .slice xa xb xc] 25)) ao cap ys) := hV.below hBw
  have HL : Hid (Lies (w.alloc (.cells #[.int .i64 kv, .slice ka K.length kc, .slice xa xb xc] 25)) bo P) := hl.below hBw (Nat.le_refl _)
  have HK : Hid (Rowed (w.alloc (.cells #[.int .i64 kv, .slice ka K.length kc, .slice xa xb xc] 25)) ka K kc) := hK.below hBw (Nat.le_refl _)
  have HP : Hid (Rowed (w.alloc (.cells #[.int .i64 kv, .slice ka K.length kc, .slice xa xb xc] 25)) bo P dap) := hP.below hBw (Nat.le_refl _)
  have HM : Hid (∀ b, mayR R kv K slot view P ys = b → mayR R kv K slot view P ys = b) := fun _ h => h
  clear hR hV hl hK hP
  by_cases q : kv = -1
  · have e : mayR R kv K slot view P ys = true := by simp [mayR, q]
    rw [e]
    clear e
    subst q
    go_enter Try.func14, Try.ntmps14
    go_wp2_with fail
    go_ret
    exact ⟨rfl, hBw⟩
  · by_cases qe : K = P
    · have e : mayR R kv K slot view P ys = true := by simp [mayR, qe]
      rw [e]
      have HE : Hid (decide (K = P) = true) := by rw [decide_eq_true qe]; exact rfl
      clear e qe
      go_enter Try.func14, Try.ntmps14
      go_wp2_with fail
      refine (equalB_any K P ka bo kc dap _ HK.out HP.out hbK hbP).mono ?_
      rintro e w2 ⟨rfl, rfl⟩
      rw [HE.out]
      go_wp2_with fail
      go_ret
      exact ⟨rfl, hBw⟩
    · have HE : Hid (decide (K = P) = false) := by rw [decide_eq_false qe]; exact rfl
      have HN : Hid (mayR R kv K slot view P ys = (match provesR R ys slot view P with | some v => decide (kv < v) | none => false)) := by show _ = _; simp [mayR, q, qe]
      clear qe
      go_enter Try.func14, Try.ntmps14
      go_wp2_with fail
      refine (equalB_any K P ka bo kc dap _ HK.out HP.out hbK hbP).mono ?_
      rintro e w2 ⟨rfl, rfl⟩
      rw [HE.out]
      go_wp2_with fail
      generalize w.alloc (.cells #[.int .i64 kv, .slice ka K.length kc, .slice xa xb xc] 25) = w1 at *
      refine (proves_any (.pointer a) R ao cap ys slot view P bo dap w1 HR.out hn HV.out HL.out hc hz).mono ?_
      rintro e w2 ⟨rfl, hB2⟩
      have hB3 : Below w.heap.size w w2 := hBw.trans (hB2.mono hBw.size)
      have hcell : w2.cell? ⟨w.heap.size, 0, none⟩ = some (.int .i64 kv) := (cell_blk ((hB2.block _ (lt_blk HB.out)).trans HB.out) 0).trans rfl
      clear hB2 HB
      cases hp : provesR R ys slot view P with
      | none =>
        rw [hp] at HN
        unfold provedV
        go_wp2_with fail
        go_ret
        exact ⟨by rw [HN.out]; rfl, hB3⟩
      | some v =>
        rw [hp] at HN
        unfold provedV
        simp only [Option.getD_some, Option.isSome_some]
        go_wp2_with fail
        go_ret
        exact ⟨by rw [HN.out]; rfl, hB3⟩
end Go.Proofs.Yticpkpphjpgdbaa
