/- CertAccepts' walk. For every mark and numbers. -/
import Derived.Test.YtenadhpnbihijaaRefU
import Derived.Test.YtenadhpnbihijaaCertO
import Derived.Test.YtenadhpnbihijaaCertK
import Derived.Deep.CutRange
namespace Go.Proofs.Ytenadhpnbihijaa
open Go.RowKit Go.Dig Go.Sha Go.Inv Go.Oct

theorem cert_rowY : ∃ d, Try.prog.underlying 46 = some d ∧ d.isRow = true := by
  have h : (Try.prog.underlying 46).map (·.isRow) = some true := by kernel_rfl
  cases hd : Try.prog.underlying 46 with
  | none => rw [hd] at h; cases h
  | some d => rw [hd] at h; exact ⟨d, rfl, by simpa using h⟩
theorem cert_infoY (a b c d e : Value) : (Try.prog.info? 46).map (·.size) = some (#[a, b, c, d, e] : Array Value).size := by rw [show (#[a, b, c, d, e] : Array Value).size = 5 from rfl]; kernel_rfl
theorem wp_load_certY {o : Oper} {a : Act} {w : World} {K : Act → World → Prop} {Q : Exit → Act → World → Prop} (x : Operand) (ho : o.op = .load 46 x) (g : Nat) (hx : a.eval x = .pointer (some ⟨g, 0, none⟩)) (c0 c1 c2 c3 c4 : Value)
    (hc : w.heap[g]? = some (.cells #[c0, c1, c2, c3, c4] 46 (0, 0))) (h : K (a.put o.dst (.agg #[c0, c1, c2, c3, c4])) w) : o.wp Try.prog a w K Q := by
  obtain ⟨d, hd1, hd2⟩ := cert_rowY
  refine wp_load_mid 46 x ho g 0 hx [c0, c1, c2, c3, c4] d (fun j v hv => ?_) hd1 hd2 (by exact cert_infoY c0 c1 c2 c3 c4) (by simpa using h)
  rw [cell_blk hc, Nat.zero_add]
  simpa using hv
theorem wpList_load_certY {ops : Array Oper} {rest : List Oper} {o : Oper} {a : Act} {w : World} {Q : Exit → Act → World → Prop} (hgd : o.guard = none) (x : Operand) (ho : o.op = .load 46 x) (g : Nat) (hx : a.eval x = .pointer (some ⟨g, 0, none⟩)) (c0 c1 c2 c3 c4 : Value)
    (hc : w.heap[g]? = some (.cells #[c0, c1, c2, c3, c4] 46 (0, 0))) (h : wpList Try.prog ops Q rest (a.put o.dst (.agg #[c0, c1, c2, c3, c4])) w) : wpList Try.prog ops Q (o :: rest) a w :=
  wpList_plain hgd fun _ hK => wp_load_certY x ho g hx c0 c1 c2 c3 c4 hc (hK _ _ h)
def selA (which : Int) (i : Nat) : Bool := bits BinOp.and IntKind.i64 (which / 2 ^ i) 1 == 1
/-- node i's vote on the mark -/
def mvA (k p e t : Int) (i : Nat) : VoteW := castW ring4 3 0 0 (markF k p e t) ((i % 4 : Nat) : Int) ⟨by decide, by decide⟩ ⟨by decide, by decide⟩ ⟨by decide, by decide⟩ (inI_nat (by omega))
def accL (which k p e t : Int) : Nat → List VoteW
  | 0 => []
  | i + 1 => if selA which i then accL which k p e t i ++ [mvA k p e t i] else accL which k p e t i
theorem accL_length (which k p e t : Int) : ∀ i, (accL which k p e t i).length ≤ i
  | 0 => Nat.le_refl _
  | i + 1 => by
    have := accL_length which k p e t i
    unfold accL
    split
    · rw [List.length_append]; simp; omega
    · omega
theorem accL_mem (which k p e t : Int) (x : VoteW) : ∀ i, x ∈ accL which k p e t i → ∃ j, j < i ∧ x = mvA k p e t j
  | 0, h => by cases h
  | i + 1, h => by
    unfold accL at h
    split at h
    · rcases List.mem_append.1 h with h | h
      · obtain ⟨j, h1, h2⟩ := accL_mem which k p e t x i h; exact ⟨j, by omega, h2⟩
      · rw [List.mem_singleton] at h; exact ⟨i, by omega, h⟩
    · obtain ⟨j, h1, h2⟩ := accL_mem which k p e t x i h; exact ⟨j, by omega, h2⟩
theorem accL_apart (which k p e t : Int) : ∀ i, i ≤ 4 → ((accL which k p e t i).map (fun x => x.1.f)).Pairwise (· ≠ ·)
  | 0, _ => List.Pairwise.nil
  | i + 1, hi => by
    have ih := accL_apart which k p e t i (by omega)
    unfold accL
    split
    · rw [List.map_append]
      refine List.pairwise_append.2 ⟨ih, by simp, fun a ha b hb => ?_⟩
      obtain ⟨x, hx, rfl⟩ := List.mem_map.1 ha
      obtain ⟨j, h1, rfl⟩ := accL_mem which k p e t x i hx
      simp at hb
      subst hb
      show ((j % 4 : Nat) : Int) ≠ ((i % 4 : Nat) : Int)
      omega
    · exact ih
theorem accepts_count (which k p e t : Int) (hm : markB k p e t = true) : acceptsR ring4 k p e t (accL which k p e t 4) = decide (3 ≤ (accL which k p e t 4).length) := by
  have hl := accL_length which k p e t 4
  have ht : toldL 3 0 0 (markF k p e t) (accL which k p e t 4) = accL which k p e t 4 := by
    unfold toldL
    rw [List.take_of_length_le (by omega), List.filter_eq_self]
    intro x hx
    obtain ⟨j, _, rfl⟩ := accL_mem which k p e t x 4 hx
    exact asked_cast _ _ _ _ _ _
  have hw : (whoL ring4 (accL which k p e t 4)).length = (accL which k p e t 4).length := by
    have := who_len ring4 (accL which k p e t 4) [] (fun x hx => by
      obtain ⟨j, _, rfl⟩ := accL_mem which k p e t x 4 hx
      refine good_cast ?_
      unfold hasB
      exact decide_eq_true ⟨by omega, by omega⟩) (accL_apart which k p e t 4 (Nat.le_refl _)) (fun x _ => by simp)
    unfold whoL
    simpa using this
  unfold acceptsR meetsR
  rw [hm, ht, hw, show quorumI (nodesR ring4) = 3 by decide, show decide (0 < nodesR ring4) = true by decide, Bool.true_and, Bool.true_and, Bool.eq_iff_iff, decide_eq_true_iff, decide_eq_true_iff]
  omega
def accOut (wh k p e t : Int) : Bool := decide (wh < 0 ∨ 15 < wh ∨ k < 1 ∨ 3 < k ∨ p < 0 ∨ 8 ≤ p ∨ e < 0 ∨ 100 ≤ e ∨ t < 0 ∨ 100 < t ∨ (k = 1 ∧ t ≠ 0))
theorem accOut_no {wh k p e t : Int} (h : accOut wh k p e t = false) : markB k p e t = true ∧ 0 ≤ e ∧ e < 100 := by
  unfold accOut at h
  have h' := of_decide_eq_false h
  refine ⟨?_, by omega, by omega⟩
  unfold markB txnB
  rw [inB_iff.2 ⟨by omega, by omega⟩, inB_iff.2 ⟨by omega, by omega⟩, inB_iff.2 ⟨by omega, by omega⟩, inB_iff.2 ⟨by omega, by omega⟩]
  by_cases hk : k = 1
  · rw [decide_eq_true (show t = 0 by omega)]; simp
  · rw [decide_eq_false hk]; rfl
def accSpec (rg xg : Nat) (k p e t : Int) (la : Option Addr) (lc : Nat) (ys : List VoteW) (ac : Bool) : Nat → Value → World → Prop
  | 0, xx, _ => xx = .pointer (some ⟨rg, 0, none⟩)
  | 1, xx, _ => xx = .agg #[.int .i64 k, .int .i64 p, .int .i64 (e + 1), .int .i64 t, .slice la ys.length lc]
  | 2, xx, _ => xx = .bool ac
  | 3, xx, _ => xx = .pointer (some ⟨xg, 0, none⟩)
  | 4, xx, _ => xx = .agg #[.int .i64 k, .int .i64 p, .int .i64 (e + 1), .int .i64 t, .slice la ys.length lc]
  | 5, xx, _ => xx = .bool ac
  | 6, xx, _ => xx = .bool true
  | 7, xx, _ => xx = .bool true
  | 8, xx, _ => xx = .bool true
  | 9, xx, _ => xx = .bool true
  | 10, xx, _ => xx = .bool true
  | _, _, _ => True
set_option maxRecDepth 10000 in
set_option maxHeartbeats 16000000 in
theorem certAccepts_any (k p e t which : Int) (other : Bool) (w : World) (ik : inI k) (ip : inI p) (ie : inI e) (it : inI t) :
    Calls Try.prog 6 #[.agg #[.int .i64 k, .int .i64 p, .int .i64 e, .int .i64 t], .int .i64 which, .bool other] w fun x w' => x = .returned (.bool true) ∧ Below w.heap.size w w' := by
  have IK : Hid (inI k ∧ inI p ∧ inI e ∧ inI t) := ⟨ik, ip, ie, it⟩
  clear ik ip ie it
  go_enter Try.func6, Try.ntmps6
  go_upto_region 1 with fail
  go_cut [69] from 14 to 69 (fun c wx => c = .bool (accOut which k p e t) ∧ wx = w.alloc (.cells #[.int .i64 k, .int .i64 p, .int .i64 e, .int .i64 t] 44))
  case first =>
    by_cases z0 : which < 0
    · have HQ : Hid (accOut which k p e t = true) := decide_eq_true (by omega)
      go_wp2_with fail
      go_meet
      exact ⟨by rw [HQ.out], rfl⟩
    by_cases z1 : 15 < which
    · have HQ : Hid (accOut which k p e t = true) := decide_eq_true (by omega)
      go_wp2_with fail
      go_meet
      exact ⟨by rw [HQ.out], rfl⟩
    by_cases z2 : k < 1
    · have HQ : Hid (accOut which k p e t = true) := decide_eq_true (by omega)
      go_wp2_with fail
      go_meet
      exact ⟨by rw [HQ.out], rfl⟩
    by_cases z3 : 3 < k
    · have HQ : Hid (accOut which k p e t = true) := decide_eq_true (by omega)
      go_wp2_with fail
      go_meet
      exact ⟨by rw [HQ.out], rfl⟩
    by_cases z4 : p < 0
    · have HQ : Hid (accOut which k p e t = true) := decide_eq_true (by omega)
      go_wp2_with fail
      go_meet
      exact ⟨by rw [HQ.out], rfl⟩
    by_cases z5 : 8 ≤ p
    · have HQ : Hid (accOut which k p e t = true) := decide_eq_true (by omega)
      go_wp2_with fail
      go_meet
      exact ⟨by rw [HQ.out], rfl⟩
    by_cases z6 : e < 0
    · have HQ : Hid (accOut which k p e t = true) := decide_eq_true (by omega)
      go_wp2_with fail
      go_meet
      exact ⟨by rw [HQ.out], rfl⟩
    by_cases z7 : 100 ≤ e
    · have HQ : Hid (accOut which k p e t = true) := decide_eq_true (by omega)
      go_wp2_with fail
      go_meet
      exact ⟨by rw [HQ.out], rfl⟩
    by_cases z8 : t < 0
    · have HQ : Hid (accOut which k p e t = true) := decide_eq_true (by omega)
      go_wp2_with fail
      go_meet
      exact ⟨by rw [HQ.out], rfl⟩
    by_cases z9 : 100 < t
    · have HQ : Hid (accOut which k p e t = true) := decide_eq_true (by omega)
      go_wp2_with fail
      go_meet
      exact ⟨by rw [HQ.out], rfl⟩
    by_cases zk : k = 1
    · by_cases zt : t = 0
      · have HQ : Hid (accOut which k p e t = false) := decide_eq_false (by omega)
        subst zk zt
        go_wp2_with fail
        go_meet
        exact ⟨by rw [HQ.out], rfl⟩
      · have HQ : Hid (accOut which k p e t = true) := decide_eq_true (by omega)
        subst zk
        go_wp2_with fail
        go_meet
        exact ⟨by rw [HQ.out]; simp [zt], rfl⟩
    · have HQ : Hid (accOut which k p e t = false) := decide_eq_false (by omega)
      go_wp2_with fail
      go_meet
      exact ⟨by rw [HQ.out], rfl⟩
  case rest =>
    obtain ⟨rfl, rfl⟩ := hcut
    have hBw := below_alloc w (.cells #[.int .i64 k, .int .i64 p, .int .i64 e, .int .i64 t] 44)
    have hA := alloc_blk w (.cells #[.int .i64 k, .int .i64 p, .int .i64 e, .int .i64 t] 44)
    cases ho : accOut which k p e t
    · obtain ⟨hmb, he0, he1⟩ := accOut_no ho
      have HMB : Hid (markB k p e t = true) := hmb
      have HA : Hid _ := hA
      clear ho hmb hA
      go_wp2_with (refine wpList_build_to rfl 24 _ rfl (row .u8 32 (oneF 1)) (by kernel_rfl) ?_)
      generalize w.alloc (.cells #[.int .i64 k, .int .i64 p, .int .i64 e, .int .i64 t] 44) = w0 at *
      refine (sNew_any 4 (oneF 1) w0 (by decide) (by decide)).mono ?_
      rintro x w1 ⟨rg, rfl, hrg, hR, hB1⟩
      rw [show nodesOf 4 = 4 by decide] at hR
      have HR : Hid (RingV w1 (.pointer (some ⟨rg, 0, none⟩)) ring4) := ⟨rg, rfl, hR⟩
      have HA1 : Hid (w1.heap[w.heap.size]? = some (.cells #[.int .i64 k, .int .i64 p, .int .i64 e, .int .i64 t] 44 (0, 0))) := (hB1.block _ (lt_blk HA.out)).trans HA.out
      have hBw1 : Below w.heap.size w w1 := hBw.trans (hB1.mono hBw.size)
      have c0 : w1.cell? ⟨w.heap.size, 0, none⟩ = some (.int .i64 k) := (cell_blk HA1.out _).trans rfl
      have c1 : w1.cell? ⟨w.heap.size, 1, none⟩ = some (.int .i64 p) := (cell_blk HA1.out _).trans rfl
      have c2 : w1.cell? ⟨w.heap.size, 2, none⟩ = some (.int .i64 e) := (cell_blk HA1.out _).trans rfl
      have c3 : w1.cell? ⟨w.heap.size, 3, none⟩ = some (.int .i64 t) := (cell_blk HA1.out _).trans rfl
      have HG2 : Hid ((w1.alloc (.cells #[.int .i64 k, .int .i64 p, .int .i64 e, .int .i64 t, .slice none 0 0] 46)).heap[w1.heap.size]? = some (.cells #[.int .i64 k, .int .i64 p, .int .i64 e, .int .i64 t, .slice none 0 0] 46 (0, 0))) := alloc_blk _ _
      have hB12 := below_alloc w1 (.cells #[.int .i64 k, .int .i64 p, .int .i64 e, .int .i64 t, .slice none 0 0] 46)
      have hs12 : w1.heap.size + 1 ≤ (w1.alloc (.cells #[.int .i64 k, .int .i64 p, .int .i64 e, .int .i64 t, .slice none 0 0] 46)).heap.size := by simp
      clear hR hB1 HA hBw
      go_wp2_with (refine wpList_build_to rfl 46 _ rfl #[.int .i64 k, .int .i64 p, .int .i64 e, .int .i64 t, .slice none 0 0] ?_ ?_; kernel_rfl)
      clear c0 c1 c2 c3
      generalize w1.alloc (.cells #[.int .i64 k, .int .i64 p, .int .i64 e, .int .i64 t, .slice none 0 0] 46) = w2 at *
      go_loopw [9, 10] (fun nv iv wr => ∃ (i : Nat) (v : Value), i ≤ 4 ∧ nv = .int .i64 ((accL which k p e t i).length : Int) ∧ iv = .int .i64 (i : Int) ∧ Hid (wr.heap[w1.heap.size]? = some (.cells #[.int .i64 k, .int .i64 p, .int .i64 e, .int .i64 t, v] 46 (0, 0))) ∧ Hid (OwnV wr (w1.heap.size + 1) v (accL which k p e t i)) ∧ Below w1.heap.size w1 wr ∧ w1.heap.size + 1 ≤ wr.heap.size) (fun _ iv _ => 4 - (intOf iv).toNat)
      case atStart => exact ⟨0, _, Nat.zero_le _, rfl, rfl, HG2, OwnV.nil _ _, hB12, hs12⟩
      case round =>
        clear HG2 hB12 hs12
        obtain ⟨i, v, hi, rfl, rfl, HG, HO, hB, hz⟩ := hrel
        obtain ⟨la, lc, rfl, -⟩ := HO.out.form
        have hll := accL_length which k p e t i
        by_cases hlt : i < 4
        · have hi4 : (i : Int) < 4 := by omega
          cases hsel : selA which i
          · have hs : (bits BinOp.and IntKind.i64 (which / 2 ^ i) 1 == 1) = false := hsel
            have HE : Hid (accL which k p e t (i + 1) = accL which k p e t i) := by show _ = _; rw [accL, hsel]; rfl
            clear hsel
            go_wp2_with fail
            go_roundw
            case rel => exact ⟨i + 1, _, by omega, by rw [HE.out], by go_num, HG, (by show OwnV _ _ _ _; rw [HE.out]; exact HO.out), hB, hz⟩
            case measure => simp [intOf]; omega
          · have hs : (bits BinOp.and IntKind.i64 (which / 2 ^ i) 1 == 1) = true := hsel
            have HE : Hid (accL which k p e t (i + 1) = accL which k p e t i ++ [mvA k p e t i]) := by show _ = _; rw [accL, hsel]; rfl
            have HLL : Hid ((accL which k p e t i).length + 1 ≤ 1000) := by show _ ≤ _; omega
            have HNL : Hid (((accL which k p e t (i + 1)).length : Int) = ((accL which k p e t i).length : Int) + 1) := by show _ = _; rw [HE.out, List.length_append]; simp
            have HM : Hid (wr.heap[w.heap.size]? = some (.cells #[.int .i64 k, .int .i64 p, .int .i64 e, .int .i64 t] 44 (0, 0))) := (hB.block _ (lt_blk HA1.out)).trans HA1.out
            have c0 : wr.cell? ⟨w.heap.size, 0, none⟩ = some (.int .i64 k) := (cell_blk HM.out _).trans rfl
            have c1 : wr.cell? ⟨w.heap.size, 1, none⟩ = some (.int .i64 p) := (cell_blk HM.out _).trans rfl
            have c2 : wr.cell? ⟨w.heap.size, 2, none⟩ = some (.int .i64 e) := (cell_blk HM.out _).trans rfl
            have c3 : wr.cell? ⟨w.heap.size, 3, none⟩ = some (.int .i64 t) := (cell_blk HM.out _).trans rfl
            have hli : ((accL which k p e t i).length : Int) ≤ 4 := by omega
            obtain ⟨ll, hllx⟩ : ∃ ll, (accL which k p e t i).length = ll := ⟨_, rfl⟩
            rw [hllx] at HG HO HNL hli hll ⊢
            have HLX : Hid ((accL which k p e t i).length = ll) := hllx
            clear hsel hllx
            go_wp2_with fail
            refine (markVote_any _ ring4 k p e t (i : Int) wr (HR.out.below hB) IK.out.1 IK.out.2.1 IK.out.2.2.1 IK.out.2.2.2 (inI_nat (by omega))).mono ?_
            rintro x w3 ⟨rfl, hB3⟩
            have hmv : markVoteR ring4 k p e t (i : Int) = (mvA k p e t i).1 := by
              rw [markVoteR_yes HMB.out]
              show _ = castR ring4 3 0 0 (markF k p e t) ((i % 4 : Nat) : Int)
              rw [Nat.mod_eq_of_lt hlt]
            rw [hmv, HMB.out]
            obtain ⟨z, hz'⟩ : ∃ z, mvA k p e t i = z := ⟨_, rfl⟩
            rw [hz']
            have HZ : Hid (mvA k p e t i = z) := hz'
            have hz3 := hB3.size
            have HV4 : Hid (VoteAt (w3.alloc (.cells z.1.cells 26)) w3.heap.size 0 z.1) := voteAt_blk (alloc_blk _ _)
            have hB34 : Below wr.heap.size wr (w3.alloc (.cells z.1.cells 26)) := hB3.alloc hB3.size _
            have HG4 : Hid ((w3.alloc (.cells z.1.cells 26)).heap[w1.heap.size]? = some (.cells #[.int .i64 k, .int .i64 p, .int .i64 e, .int .i64 t, .slice la ll lc] 46 (0, 0))) := (hB34.block _ (lt_blk HG.out)).trans HG.out
            have c4 : (w3.alloc (.cells z.1.cells 26)).cell? ⟨w1.heap.size, 4, none⟩ = some (.slice la ll lc) := (cell_blk HG4.out _).trans rfl
            have HO4 : Hid (OwnV (w3.alloc (.cells z.1.cells 26)) (w1.heap.size + 1) (.slice la ll lc) (accL which k p e t i)) := HO.out.below hB34
            have hB14 : Below w1.heap.size w1 (w3.alloc (.cells z.1.cells 26)) := hB.trans (hB34.mono hB.size)
            have hz4 : w1.heap.size + 1 ≤ (w3.alloc (.cells z.1.cells 26)).heap.size := Nat.le_trans hz hB34.size
            clear c0 c1 c2 c3 hz' hmv HM hB34 HG HO hB c4 hz3
            go_upto_region 15 with (first | (refine wpList_alloc_vote rfl rfl ?_) | (refine wpList_store_vote rfl _ _ rfl w3 z.1 ?_ ?_ ?_ ?_; rfl; rfl; rfl))
            generalize w3.alloc (.cells z.1.cells 26) = w4 at *
            obtain ⟨g3, hg3⟩ : ∃ g, w3.heap.size = g := ⟨_, rfl⟩
            rw [hg3] at HV4 ⊢
            clear hg3
            have c4 : w4.cell? ⟨w1.heap.size, 4, none⟩ = some (.slice la ll lc) := (cell_blk HG4.out _).trans rfl
            have HO5 : Hid (OwnV (w4.alloc (.cells (rowV [z.1]) 26)) (w1.heap.size + 1) (.slice la ll lc) (accL which k p e t i)) := HO4.out.alloc _
            have HV5 : Hid (VotesIn (w4.alloc (.cells (rowV [z.1]) 26)) (some ⟨w4.heap.size, 0, none⟩) 1 [z]) := rowV_in (zs := [z]) (alloc_blk w4 (.cells (rowV [z.1]) 26)) (by simp)
            have HS5 : Hid (w1.heap.size + 1 ≤ (w4.alloc (.cells (rowV [z.1]) 26)).heap.size) := by show _ ≤ (w4.heap.push _).size; simp; omega
            have HB5 : Hid (Below w1.heap.size w1 (w4.alloc (.cells (rowV [z.1]) 26))) := hB14.alloc hB14.size _
            have HG5 : Hid ((w4.alloc (.cells (rowV [z.1]) 26)).heap[w1.heap.size]? = some (.cells #[.int .i64 k, .int .i64 p, .int .i64 e, .int .i64 t, .slice la ll lc] 46 (0, 0))) := alloc_blk_old HG4.out _
            clear HO4 hB14 HG4
            go_wp2_with (first | (refine wpList_load_vote rfl _ rfl g3 0 ?_ z.1 ?_ ?_; rfl; exact HV4.out) | (refine wpList_rowV ?_ 1 _ rfl [z.1] rfl (by decide) (by decide) ?_ ?_; kernel_rfl; kernel_rfl) | (refine wpList_appV rfl _ _ rfl (w1.heap.size + 1) (.slice la ll lc) (accL which k p e t i) ?_ (some ⟨w4.heap.size, 0, none⟩) 1 1 [z] ?_ ?_ ?_ ?_ ?_ ?_ ?_; rfl; rfl; rfl; exact HO5.out; exact HV5.out; exact HLL.out; exact HS5.out))
            intro u w6 hO6 hG6
            obtain ⟨ua, uc, rfl, -⟩ := hO6.form
            have hnb : (Value.slice la ll lc).ownBlock ≠ some w1.heap.size := fun e => by have := (HO5.out.lt _ e).1; omega
            have HG6 : Hid (w6.heap[w1.heap.size]? = some (.cells #[.int .i64 k, .int .i64 p, .int .i64 e, .int .i64 t, .slice la ll lc] 46 (0, 0))) := (hG6.block _ (by have := HS5.out; omega) hnb).trans HG5.out
            have c6 : w6.cell? ⟨w1.heap.size, 4, none⟩ = some (.slice la ll lc) := (cell_blk HG6.out _).trans rfl
            have f6 : w6.frozen? ⟨w1.heap.size, 4, none⟩ = false := frozen_blk HG6.out _
            have hB6 : Below w1.heap.size w1 w6 := HB5.out.trans (hG6.below (by have := HS5.out; omega) (fun q hq => by have := (HO5.out.lt q hq).1; omega))
            have hz6 : w1.heap.size + 1 ≤ w6.heap.size := Nat.le_trans HS5.out hG6.size
            have HO6 : Hid (OwnV w6 (w1.heap.size + 1) (.slice ua (accL which k p e t (i + 1)).length uc) (accL which k p e t (i + 1))) := by
              show OwnV _ _ _ _
              rw [HE.out, HZ.out]; exact hO6
            have hlen : (accL which k p e t i ++ [z]).length = (accL which k p e t (i + 1)).length := by rw [HE.out, HZ.out]
            rw [hlen]
            obtain ⟨nl, hnl⟩ : ∃ nl, (accL which k p e t (i + 1)).length = nl := ⟨_, rfl⟩
            rw [hnl] at HO6 HNL ⊢
            have HNX : Hid ((accL which k p e t (i + 1)).length = nl) := hnl
            have HG7 : Hid ((w6.setCell ⟨w1.heap.size, 4, none⟩ (.slice ua nl uc)).heap[w1.heap.size]? = some (.cells #[.int .i64 k, .int .i64 p, .int .i64 e, .int .i64 t, .slice ua nl uc] 46 (0, 0))) := (set_blk HG6.out 4 _).trans (by simp)
            have HO7 : Hid (OwnV (w6.setCell ⟨w1.heap.size, 4, none⟩ (.slice ua nl uc)) (w1.heap.size + 1) (.slice ua nl uc) (accL which k p e t (i + 1))) := HO6.out.same fun q hq => Below.heap_setCell _ _ _ q (by have := (HO6.out.lt q hq).1; show q ≠ w1.heap.size; omega)
            have hB7 : Below w1.heap.size w1 (w6.setCell ⟨w1.heap.size, 4, none⟩ (.slice ua nl uc)) := hB6.setCell (p := ⟨w1.heap.size, 4, none⟩) (Nat.le_refl _) _
            have hz7 : w1.heap.size + 1 ≤ (w6.setCell ⟨w1.heap.size, 4, none⟩ (.slice ua nl uc)).heap.size := by simp [World.setCell]; exact hz6
            clear hO6 hG6 HO5 HV5 HS5 HB5 HG5 HO6 HG6 hB6 hz6 HE HZ hlen hnl HV4 c4 hz4
            go_wp2_with fail
            go_roundw
            case rel => exact ⟨i + 1, _, by omega, by rw [HNX.out]; have := HNL.out; go_num, by go_num, HG7, HO7, hB7, hz7⟩
            case measure => simp [intOf]; omega
        · obtain rfl : i = 4 := by omega
          have HACC : Hid (acceptsR ring4 k p e t (accL which k p e t 4) = decide (3 ≤ (accL which k p e t 4).length)) := accepts_count which k p e t HMB.out
          obtain ⟨va, vc, hve, hVin⟩ := HO.out.form
          injection hve with hv1 hv2 hv3
          subst hv1 hv3
          have HV : Hid (VotesIn wr la lc (accL which k p e t 4)) := hVin
          have hBwr : Below w.heap.size w wr := hBw1.trans (hB.mono hBw1.size)
          have HRr : Hid (RingV wr (.pointer (some ⟨rg, 0, none⟩)) ring4) := HR.out.below hB
          clear hVin hv2 hlt hi
          generalize accL which k p e t 4 = ys at *
          cases other
          · by_cases q3 : 3 ≤ ys.length
            · have HAT : Hid (acceptsR ring4 k p e t ys = true) := HACC.out.trans (decide_eq_true q3)
              have q3' : (3 : Int) ≤ (ys.length : Int) := by omega
              clear HACC
              go_wp2_with (refine wpList_load_certY rfl _ rfl w1.heap.size ?_ (.int .i64 k) (.int .i64 p) (.int .i64 e) (.int .i64 t) (.slice la ys.length lc) ?_ ?_; rfl; exact HG.out)
              refine (accepts_any _ ring4 k p e t la lc ys wr HRr.out (by decide) IK.out.1 IK.out.2.1 IK.out.2.2.1 IK.out.2.2.2 HV.out).mono ?_
              rintro x w3 ⟨rfl, hB3⟩
              rw [HAT.out]
              have hBw3 : Below w.heap.size w w3 := hBwr.trans (hB3.mono hBwr.size)
              clear hB3 hBwr
              go_wp2_with fail
              refine (known6_any w3).mono ?_
              rintro x w4 ⟨rfl, hB4⟩
              have hBw4 : Below w.heap.size w w4 := hBw3.trans (hB4.mono hBw3.size)
              clear hB4 hBw3
              go_wp2_with fail
              go_ret
              exact ⟨rfl, hBw4⟩
            · have HAT : Hid (acceptsR ring4 k p e t ys = false) := HACC.out.trans (decide_eq_false q3)
              have q3' : ¬ (3 : Int) ≤ (ys.length : Int) := by omega
              clear HACC
              go_wp2_with (refine wpList_load_certY rfl _ rfl w1.heap.size ?_ (.int .i64 k) (.int .i64 p) (.int .i64 e) (.int .i64 t) (.slice la ys.length lc) ?_ ?_; rfl; exact HG.out)
              refine (accepts_any _ ring4 k p e t la lc ys wr HRr.out (by decide) IK.out.1 IK.out.2.1 IK.out.2.2.1 IK.out.2.2.2 HV.out).mono ?_
              rintro x w3 ⟨rfl, hB3⟩
              rw [HAT.out]
              have hBw3 : Below w.heap.size w w3 := hBwr.trans (hB3.mono hBwr.size)
              clear hB3 hBwr
              go_wp2_with fail
              refine (known6_any w3).mono ?_
              rintro x w4 ⟨rfl, hB4⟩
              have hBw4 : Below w.heap.size w w4 := hBw3.trans (hB4.mono hBw3.size)
              clear hB4 hBw3
              go_wp2_with fail
              go_ret
              exact ⟨by first | rfl | (rw [decide_eq_false (show ¬ (3 : Int) ≤ (ys.length : Int) by omega)]; rfl) | (simp; omega), hBw4⟩
          · have d2 : wr.cell? ⟨w1.heap.size, 2, none⟩ = some (.int .i64 e) := (cell_blk HG.out _).trans rfl
            have f2 : wr.frozen? ⟨w1.heap.size, 2, none⟩ = false := frozen_blk HG.out _
            have HG3 : Hid ((wr.setCell ⟨w1.heap.size, 2, none⟩ (.int .i64 (e + 1))).heap[w1.heap.size]? = some (.cells #[.int .i64 k, .int .i64 p, .int .i64 (e + 1), .int .i64 t, .slice la ys.length lc] 46 (0, 0))) := (set_blk HG.out 2 _).trans (by simp)
            have hB3 : Below w1.heap.size w1 (wr.setCell ⟨w1.heap.size, 2, none⟩ (.int .i64 (e + 1))) := hB.setCell (p := ⟨w1.heap.size, 2, none⟩) (Nat.le_refl _) _
            have hO3 : OwnV (wr.setCell ⟨w1.heap.size, 2, none⟩ (.int .i64 (e + 1))) (w1.heap.size + 1) (.slice la ys.length lc) ys := HO.out.same fun q hq => Below.heap_setCell _ _ _ q (by have := (HO.out.lt q hq).1; show q ≠ w1.heap.size; omega)
            obtain ⟨va', vc', hve', hVin'⟩ := hO3.form
            injection hve' with hv1' hv2' hv3'
            subst hv1' hv3'
            have HV3 : Hid (VotesIn (wr.setCell ⟨w1.heap.size, 2, none⟩ (.int .i64 (e + 1))) la lc ys) := hVin'
            clear hO3 hVin' hv2'
            clear HACC HG HV hB hBwr HRr HO
            go_wp2_with (refine wpList_build_to rfl 24 _ rfl (row .u8 32 (oneF 1)) (by kernel_rfl) ?_)
            generalize wr.setCell ⟨w1.heap.size, 2, none⟩ (.int .i64 (e + 1)) = w3 at *
            refine (rNew_any 4 (oneF 1) w3 (by decide) (by decide)).mono ?_
            rintro x w4 ⟨xg, rfl, hxg, hX, hB4⟩
            rw [show nodesOf 4 = 4 by decide] at hX
            have HX : Hid (RRing w4 xg (oneF 1) 4) := hX
            have hB14 : Below w1.heap.size w1 w4 := hB3.trans (hB4.mono hB3.size)
            have HR4 : Hid (RingV w4 (.pointer (some ⟨rg, 0, none⟩)) ring4) := HR.out.below hB14
            have HG4 : Hid (w4.heap[w1.heap.size]? = some (.cells #[.int .i64 k, .int .i64 p, .int .i64 (e + 1), .int .i64 t, .slice la ys.length lc] 46 (0, 0))) := (hB4.block _ (lt_blk HG3.out)).trans HG3.out
            have HV4 : Hid (VotesIn w4 la lc ys) := HV3.out.below hB4
            have hBw4 : Below w.heap.size w w4 := hBw1.trans (hB14.mono hBw1.size)
            obtain ⟨ac, HAC⟩ : ∃ ac, Hid (acceptsR ring4 k p (e + 1) t ys = ac) := ⟨_, rfl⟩
            obtain ⟨g8, hg8⟩ : ∃ g, w1.heap.size = g := ⟨_, rfl⟩
            rw [hg8] at HG4 ⊢
            clear hX hB4 hB3 hB14 HG3 HV3 hg8
            go_wp2_with fail
            refine wp_region_growG (by kernel_rfl) (by kernel_rfl) (fun xs => { tmps := (Value.agg #[Value.int IntKind.i64 k, Value.int IntKind.i64 p, Value.int IntKind.i64 e, Value.int IntKind.i64 t] :: Value.int IntKind.i64 which :: Value.bool true :: Value.pointer (some (⟨w.heap.size, 0, none⟩ : Addr)) :: undef :: undef :: xs 10 :: Value.pointer (some (⟨rg, 0, none⟩ : Addr)) :: Value.pointer (some (⟨g8, 0, none⟩ : Addr)) :: Value.int IntKind.i64 (ys.length : Int) :: Value.int IntKind.i64 4 :: u11 :: u12 :: Value.pointer (some (⟨xg, 0, none⟩ : Addr)) :: u14 :: u15 :: u16 :: u17 :: u18 :: u19 :: u20 :: u21 :: u22 :: u23 :: u24 :: u25 :: u26 :: u27 :: u28 :: u29 :: u30 :: u31 :: u32 :: u33 :: u34 :: u35 :: u36 :: u37 :: u38 :: u39 :: u40 :: u41 :: u42 :: u43 :: u44 :: u45 :: u46 :: u47 :: u48 :: u49 :: u50 :: u51 :: u52 :: u53 :: u54 :: u55 :: u56 :: u57 :: u58 :: u59 :: u60 :: u61 :: u62 :: u63 :: u64 :: u65 :: u66 :: u67 :: u68 :: Value.bool false :: Value.agg (row IntKind.u8 32 (oneF 1)) :: Value.pointer (some (⟨rg, 0, none⟩ : Addr)) :: Value.pointer (some (⟨rg, 0, none⟩ : Addr)) :: Value.bool false :: Value.agg #[Value.int IntKind.i64 k, Value.int IntKind.i64 p, Value.int IntKind.i64 e, Value.int IntKind.i64 t] :: Value.agg #[Value.int IntKind.i64 k, Value.int IntKind.i64 p, Value.int IntKind.i64 e, Value.int IntKind.i64 t, Value.slice none 0 0] :: Value.int IntKind.i64 4 :: Value.bool false :: u78 :: u79 :: u80 :: u81 :: u82 :: u83 :: u84 :: u85 :: u86 :: u87 :: u88 :: u89 :: u90 :: u91 :: u92 :: u93 :: u94 :: u95 :: u96 :: u97 :: u98 :: u99 :: u100 :: u101 :: u102 :: Value.bool true :: Value.pointer (some (⟨g8, 0, none⟩ : Addr)) :: Value.pointer (some (⟨g8, 2, none⟩ : Addr)) :: Value.int IntKind.i64 e :: Value.int IntKind.i64 (e + 1) :: Value.pointer (some (⟨g8, 0, none⟩ : Addr)) :: Value.pointer (some (⟨g8, 2, none⟩ : Addr)) :: Value.agg (row IntKind.u8 32 (oneF 1)) :: Value.pointer (some (⟨xg, 0, none⟩ : Addr)) :: xs 0 :: xs 1 :: xs 2 :: xs 3 :: xs 4 :: xs 5 :: xs 6 :: xs 7 :: xs 8 :: xs 9 :: undef :: undef :: undef :: undef :: undef :: undef :: undef :: undef :: undef :: []).toArray, defers := [] })
              (accSpec rg xg k p e t la lc ys ac) (fun | 10 => u6 | _ => undef) (by repeat (first | exact trivial | refine ⟨fun _ _ => rfl, ?_⟩)) (by
                intro i y w w' h hs
                unfold accSpec at *
                split at hs <;> first | exact hs | exact trivial) ⟨?_, ?_, ?_, ?_, ?_, ?_, ?_, ?_, ?_, ?_, ?_, trivial⟩ ?_
            · intro xs W hB hp K hK
              rw [if_pos (wanted_none rfl _)]
              clear hp
              go_simp
              exact hK _ _ (Below.refl _ _) rfl
            · intro xs W hB hp K hK
              rw [if_pos (wanted_none rfl _)]
              clear hp
              exact wp_load_certY _ rfl g8 rfl _ _ _ _ _ ((hB.block _ (lt_blk HG4.out)).trans HG4.out) (hK _ _ (Below.refl _ _) rfl)
            · intro xs W hB hp K hK
              rw [if_pos (wanted_none rfl _)]
              have h0 : xs 0 = .pointer (some ⟨rg, 0, none⟩) := hp.1 rfl
              have h1 : xs 1 = .agg #[.int .i64 k, .int .i64 p, .int .i64 (e + 1), .int .i64 t, .slice la ys.length lc] := hp.2.1 rfl
              clear hp
              simp only [h0, h1] at hK ⊢
              clear h0 h1
              go_simp
              refine (accepts_any _ ring4 k p (e + 1) t la lc ys W (HR4.out.below hB) (by decide) IK.out.1 IK.out.2.1 (show inI (e + 1) from ⟨by omega, by omega⟩) IK.out.2.2.2 (HV4.out.below hB)).mono ?_
              rintro x w' ⟨rfl, hB'⟩
              rw [HAC.out]
              exact hK _ _ hB' rfl
            · intro xs W hB hp K hK
              rw [if_pos (wanted_none rfl _)]
              clear hp
              go_simp
              exact hK _ _ (Below.refl _ _) rfl
            · intro xs W hB hp K hK
              rw [if_pos (wanted_none rfl _)]
              clear hp
              exact wp_load_certY _ rfl g8 rfl _ _ _ _ _ ((hB.block _ (lt_blk HG4.out)).trans HG4.out) (hK _ _ (Below.refl _ _) rfl)
            · intro xs W hB hp K hK
              rw [if_pos (wanted_none rfl _)]
              have h3 : xs 3 = .pointer (some ⟨xg, 0, none⟩) := hp.1 rfl
              have h4 : xs 4 = .agg #[.int .i64 k, .int .i64 p, .int .i64 (e + 1), .int .i64 t, .slice la ys.length lc] := hp.2.1 rfl
              clear hp
              simp only [h3, h4] at hK ⊢
              clear h3 h4
              go_simp
              refine (rAccepts_any xg 4 (oneF 1) k p (e + 1) t la lc ys W (HX.out.below hB) (by decide) (by decide) IK.out.1 IK.out.2.1 (show inI (e + 1) from ⟨by omega, by omega⟩) IK.out.2.2.2 (HV4.out.below hB)).mono ?_
              rintro x w' ⟨rfl, hB'⟩
              have hac : acceptsR (some (oneF 1, 4)) k p (e + 1) t ys = ac := HAC.out
              rw [hac]
              exact hK _ _ hB' rfl
            · intro xs W hB hp K hK
              rw [if_pos (wanted_none rfl _)]
              have h2 : xs 2 = .bool ac := hp.1 rfl
              have h5 : xs 5 = .bool ac := hp.2.1 rfl
              clear hp
              simp only [h2, h5] at hK ⊢
              clear h2 h5
              go_simp
              exact hK _ _ (Below.refl _ _) (by first | rfl | (show Value.bool _ = _; simp; done) | (show Value.bool _ = _; simp; omega))
            · intro xs W hB hp K hK
              rw [if_pos (wanted_none rfl _)]
              have h6 : xs 6 = .bool true := hp.1 rfl
              clear hp
              simp only [h6] at hK ⊢
              clear h6
              go_simp
              exact hK _ _ (Below.refl _ _) rfl
            · intro xs W hB hp K hK
              have hgd : xs 7 = .bool true := hp.1 rfl
              rw [wanted_g (b := true) rfl (by show (match some (xs 7) with | some (.bool b) => some b | _ => none) = some true; rw [hgd])]
              rw [if_pos (show (true == true) = true from rfl)]
              clear hgd
              clear hp
              go_simp
              refine (known6_any W).mono ?_
              rintro x w' ⟨rfl, hB'⟩
              exact hK _ _ hB' rfl
            · intro xs W hB hp K hK
              rw [if_pos (wanted_none rfl _)]
              have h7 : xs 7 = .bool true := hp.1 rfl
              have h8 : xs 8 = .bool true := hp.2.1 rfl
              clear hp
              simp only [h7, h8] at hK ⊢
              clear h7 h8
              go_simp
              exact hK _ _ (Below.refl _ _) rfl
            · intro xs W hB hp K hK
              rw [if_pos (wanted_none rfl _)]
              have h9 : xs 9 = .bool true := hp.1 rfl
              clear hp
              simp only [h9] at hK ⊢
              clear h9
              go_simp
              exact hK _ _ (Below.refl _ _) rfl
            · intro xs W hB hs
              have h10 : xs 10 = .bool true := hs 10 (by simp)
              simp only [h10]
              go_wp2_with fail
              go_ret
              exact ⟨rfl, hBw4.trans (hB.mono hBw4.size)⟩
    · go_wp2_with fail
      go_ret
      exact ⟨rfl, hBw⟩
end Go.Proofs.Ytenadhpnbihijaa
