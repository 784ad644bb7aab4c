/- cert's Meets, ValueSum, MarkVote, Accepts. For every ring, mark and row of votes. -/
import Derived.Test.YtenadhpnbihijaaCertC
import Derived.Test.YtenadhpnbihijaaWireA
namespace Go.Proofs.Ytenadhpnbihijaa
open Go.RowKit Go.Dig Go.Sha Go.Inv Go.Oct

section
variable {ops : Array Oper} {rest : List Oper} {o : Oper} {a : Act} {w : World} {Q : Exit → Act → World → Prop}
theorem wpList_load_hashG (hw : Region.wanted o (yielded ops a.tmps) = true) (x : Operand) (ho : o.op = .load 24 x) (b off : Nat) (hx : a.eval x = .pointer (some ⟨b, off, none⟩)) (f : Nat → Int) (hc : HashAt w b off f)
    (h : wpList Try.prog ops Q rest (a.put o.dst (.agg (row .u8 32 f))) w) : wpList Try.prog ops Q (o :: rest) a w := wpList_by hw fun _ hK => wp_load_hash x ho b off hx f hc (hK _ _ h)
theorem wpList_load_voteG (hw : Region.wanted o (yielded ops a.tmps) = true) (x : Operand) (ho : o.op = .load 26 x) (b off : Nat) (hx : a.eval x = .pointer (some ⟨b, off, none⟩)) (y : VoteR) (hc : VoteAt w b off y)
    (h : wpList Try.prog ops Q rest (a.put o.dst (.agg y.cells)) w) : wpList Try.prog ops Q (o :: rest) a w := wpList_by hw fun _ hK => wp_load_vote x ho b off hx y hc (hK _ _ h)
theorem wpList_alloc_hash (hgd : o.guard = none) (ho : o.op = .alloc 24) (h : wpList Try.prog ops Q rest (a.put o.dst (.pointer (some ⟨w.heap.size, 0, none⟩))) (w.alloc (.cells (row .u8 32 zeroF) 24))) :
    wpList Try.prog ops Q (o :: rest) a w := wpList_alloc_row hgd 24 ho _ zero_hash h
theorem wpList_put_hash (hgd : o.guard = none) (x y : Operand) (ho : o.op = .store 24 x y) (g : Nat) (f old : Nat → Int) (hx : a.eval x = .pointer (some ⟨g, 0, none⟩)) (hy : a.eval y = .agg (row .u8 32 f)) (t : TypeId) (hg : w.heap[g]? = some (.cells (row .u8 32 old) t (0, 0)))
    (h : ∀ w', w'.heap[g]? = some (.cells (row .u8 32 f) t (0, 0)) → Keeps g w w' → wpList Try.prog ops Q rest (a.put o.dst undef) w') : wpList Try.prog ops Q (o :: rest) a w :=
  wpList_store_blk hgd 24 x y ho g _ hx hy t _ hg (row_info size_hash _) (by rw [row_size, row_size]) (row_all _ _ _) (h _ (setRow_at hg _) ⟨rfl, rfl, rfl, by simp, fun k _ hk => heap_setRow_other _ _ hk⟩)
end
theorem hash_rowM : ∃ d, Try.prog.underlying 24 = some d ∧ (match d with | .struct _ | .array _ _ => true | _ => false) = true := by
  obtain ⟨d, h1, h2⟩ := hash_row
  refine ⟨d, h1, ?_⟩
  clear h1
  cases d <;> first | rfl | exact h2
theorem load_hash_cell (w : World) (g : Nat) (f : Nat → Int) (t : TypeId) (h : w.heap[g]? = some (.cells (row .u8 32 f) t (0, 0))) : (loadVar 24 ⟨g, 0, none⟩).run Try.prog w = .ok (.agg (row .u8 32 f)) w := by
  obtain ⟨d, hd1, hd2⟩ := hash_rowM
  refine run_loadVar_row w g t 24 _ (0, 0) d h hd1 ?_ (row_info size_hash _)
  cases d <;> first | rfl | exact hd2
theorem load_vote_cell (w : World) (g : Nat) (z : VoteR) (t : TypeId) (h : w.heap[g]? = some (.cells z.cells t (0, 0))) : (loadVar 26 ⟨g, 0, none⟩).run Try.prog w = .ok (.agg z.cells) w := by
  obtain ⟨d, hd1, hd2⟩ := vote_rowM
  refine run_loadVar_row w g t 26 _ (0, 0) d h hd1 ?_ (vote_info z)
  cases d <;> first | rfl | exact hd2
theorem results_cell_tmp {P : Program} {fn : Func} {p q : Tmp} {ty : TypeId} (h : fn.results = #[.cell p ty, .tmp q]) (tmps : Array Value) (w : World) (g : Nat) (v u : Value) (hp : tmps.getD p undef = .pointer (some ⟨g, 0, none⟩)) (hq : tmps.getD q undef = u) (hl : (loadVar ty ⟨g, 0, none⟩).run P w = .ok v w) :
    (results fn tmps).run P w = .ok (.tuple #[v, u]) w := by
  subst hq
  have hp' : tmps[p]?.getD undef = .pointer (some ⟨g, 0, none⟩) := by simpa using hp
  simp [results, h, hp', asAddr, hl]
/-- are they enough? -/
def meetsR (R : RingO) (ys : List VoteW) (k s v : Int) (sum : Nat → Int) : Bool := decide (0 < nodesR R) && decide (quorumI (nodesR R) ≤ ((whoL R (toldL k s v sum ys)).length : Int))
theorem OwnI.len {w : World} {base : Nat} {v : Value} {L : List Int} (h : OwnI w base v L) : ∃ ao cap, v = .slice ao L.length cap := by
  rcases h.2 with ⟨rfl, h0⟩ | ⟨g, cap, cur, rfl, _⟩
  · rw [h0]; exact ⟨_, _, rfl⟩
  · exact ⟨_, _, rfl⟩
set_option maxRecDepth 10000 in
set_option maxHeartbeats 1000000 in
theorem meets_any (pr : Value) (R : RingO) (ao : Option Addr) (cap : Nat) (ys : List VoteW) (k s v : Int) (sum : Nat → Int) (w : World) (hR : RingV w pr R) (hn : nodesR R ≤ 10) (hV : VotesIn w ao cap ys) :
    Calls Try.prog 18 #[pr, .slice ao ys.length cap, .int .i64 k, .int .i64 s, .int .i64 v, .agg (row .u8 32 sum)] w fun e w' => e = .returned (.bool (meetsR R ys k s v sum)) ∧ Below w.heap.size w w' := by
  obtain ⟨a, rfl⟩ := hR.form
  have HR : Hid (RingV w (.pointer a) R) := hR
  have HV : Hid (VotesIn w ao cap ys) := hV
  clear hR hV
  have hBw := below_alloc w (.cells (row .u8 32 sum) 24)
  have HS : Hid (HashAt (w.alloc (.cells (row .u8 32 sum) 24)) w.heap.size 0 sum) := hashAt_blk (alloc_blk _ _)
  go_enter Try.func18, Try.ntmps18
  go_wp2_with (refine wpList_box_row rfl 24 _ rfl _ rfl ?_)
  generalize w.alloc (.cells (row .u8 32 sum) 24) = w1 at *
  refine (nodesR_any (.pointer a) R w1 (HR.out.below hBw)).mono ?_
  rintro e w2 ⟨rfl, rfl⟩
  by_cases h0 : 0 < nodesR R
  · have h0' : (0 : Int) < (nodesR R : Int) := by omega
    go_wp2_with (first | (refine wpList_load_hashG rfl _ rfl w.heap.size 0 ?_ sum ?_ ?_; rfl; exact HS.out))
    refine (who_any (.pointer a) R ao cap ys k s v sum w2 (HR.out.below hBw) (HV.out.below hBw)).mono ?_
    rintro e w3 ⟨u, rfl, hO, hB3⟩
    obtain ⟨uo, uc, rfl⟩ := hO.len
    have hB4 : Below w.heap.size w w3 := hBw.trans (hB3.mono hBw.size)
    have hl : (whoL R (toldL k s v sum ys)).length ≤ 10 := by
      have := whoL_length R (toldL k s v sum ys) []
      have := toldL_length k s v sum ys
      simp only [List.length_nil] at *; unfold whoL; omega
    generalize hm : (whoL R (toldL k s v sum ys)).length = m at *
    have HM : Hid _ := hm
    clear hO hB3 hm
    go_wp2_with fail
    refine (quorum_any (nodesR R) _ (by omega) (by omega)).mono ?_
    rintro e w4 ⟨rfl, rfl⟩
    go_wp2_with fail
    go_ret
    refine ⟨congrArg (fun b => Ending.returned (.bool b)) ?_, hB4⟩
    unfold meetsR
    rw [HM.out, Bool.eq_iff_iff]
    simp [h0]
  · have h0' : ¬ ((0 : Int) < (nodesR R : Int)) := by omega
    go_wp2_with fail
    go_ret
    refine ⟨congrArg (fun b => Ending.returned (.bool b)) ?_, hBw⟩
    unfold meetsR
    rw [decide_eq_false h0]; rfl
set_option maxRecDepth 10000 in
set_option maxHeartbeats 1000000 in
theorem dsum_any (P : List Int) (ao : Option Addr) (cap : Nat) (w : World) (hl : Lies w ao P) (hc : P.length ≤ cap) (hz : P.length < 274877906944) :
    Calls Try.prog 43 #[.slice ao P.length cap] w fun e w' => e = .returned (.agg (row .u8 32 (sha P))) ∧ Below w.heap.size w w' := by
  have HL : Hid (Lies w ao P) := hl
  clear hl
  have hb0 := alloc_blk w (.cells (row .u8 32 zeroF) 24)
  have hBw := below_alloc w (.cells (row .u8 32 zeroF) 24)
  go_enter Try.func43, Try.ntmps43
  go_wp2_with (refine wpList_alloc_hash rfl rfl ?_)
  have hs0 : (w.alloc (.cells (row .u8 32 zeroF) 24)).heap.size = w.heap.size + 1 := by simp
  generalize w.alloc (.cells (row .u8 32 zeroF) 24) = w0 at *
  rw [← hs0]
  have hcat : cat [(ao, cap, P)] = P := by simp [cat]
  have h := sumRows_any [(ao, cap, P)] w0.heap.size 1 (w0.alloc (.cells #[.slice ao P.length cap] 47)) (fun j hj => by
    obtain rfl : j = 0 := by simp at hj; exact hj
    exact (cell_blk (alloc_blk _ _) 0).trans rfl) (fun x hx => by
    simp at hx; subst hx; exact ⟨HL.out.below (hBw.alloc (by omega) _) (Nat.le_refl _), hc⟩) (by rw [hcat]; omega) (by simp)
  rw [hcat] at h
  refine h.mono ?_
  rintro e w2 ⟨rfl, hB2⟩
  have HC : Hid (w2.heap[w.heap.size]? = some (.cells (row .u8 32 zeroF) 24 (0, 0))) := (hB2.block _ (by simp; omega)).trans (alloc_blk_old hb0 _)
  have hB : Below w.heap.size w w2 := (hBw.alloc (by omega) _).trans (hB2.mono (by simp; omega))
  have hz2 : w.heap.size < w2.heap.size := lt_blk HC.out
  clear hB2 h hb0
  go_wp2_with (refine wpList_put_hash rfl _ _ rfl w.heap.size (sha P) zeroF ?_ ?_ 24 ?_ ?_; rfl; rfl; exact HC.out)
  intro w3 hc3 hk3
  have hB3 : Below w.heap.size w w3 := hB.trans (hk3.below (Nat.le_refl _) (by omega))
  clear hk3 HC hB
  go_wp2_with fail
  refine bodyPost_ret (v := .agg (row .u8 32 (sha P))) ?_ rfl ⟨rfl, hB3⟩
  exact results_cell_row rfl _ _ w.heap.size _ _ _ (.array 32 5) rfl hc3 (by kernel_rfl) rfl (row_info size_hash _)
set_option maxRecDepth 10000 in
set_option maxHeartbeats 1000000 in
theorem valueSum_any (P : List Int) (ao : Option Addr) (cap : Nat) (w : World) (hl : Lies w ao P) (hc : P.length ≤ cap) (hz : P.length < 274877906944) :
    Calls Try.prog 25 #[.slice ao P.length cap] w fun e w' => e = .returned (.agg (row .u8 32 (sha P))) ∧ Below w.heap.size w w' := by
  have HL : Hid (Lies w ao P) := hl
  clear hl
  have hb0 := alloc_blk w (.cells (row .u8 32 zeroF) 24)
  have hBw := below_alloc w (.cells (row .u8 32 zeroF) 24)
  go_enter Try.func25, Try.ntmps25
  go_wp2_with (refine wpList_alloc_hash rfl rfl ?_)
  generalize w.alloc (.cells (row .u8 32 zeroF) 24) = w0 at *
  refine (dsum_any P ao cap w0 (HL.out.below hBw (Nat.le_refl _)) hc hz).mono ?_
  rintro e w2 ⟨rfl, hB2⟩
  have HC : Hid (w2.heap[w.heap.size]? = some (.cells (row .u8 32 zeroF) 24 (0, 0))) := (hB2.block _ (lt_blk hb0)).trans hb0
  have hB : Below w.heap.size w w2 := hBw.trans (hB2.mono hBw.size)
  have hz2 : w.heap.size < w2.heap.size := lt_blk HC.out
  clear hB2 hb0
  go_wp2_with (refine wpList_put_hash rfl _ _ rfl w.heap.size (sha P) zeroF ?_ ?_ 24 ?_ ?_; rfl; rfl; exact HC.out)
  intro w3 hc3 hk3
  have hB3 : Below w.heap.size w w3 := hB.trans (hk3.below (Nat.le_refl _) (by omega))
  clear hk3 HC hB
  go_wp2_with fail
  refine bodyPost_ret (v := .agg (row .u8 32 (sha P))) ?_ rfl ⟨rfl, hB3⟩
  exact results_cell_row rfl _ _ w.heap.size _ _ _ (.array 32 5) rfl hc3 (by kernel_rfl) rfl (row_info size_hash _)
/-- the sum that a mark is voted on by -/
def markF (k p e t : Int) : Nat → Int := if markB k p e t then sha (encMark k p e t) else zeroF
theorem encMark_length (k p e t : Int) : (encMark k p e t).length ≤ 45 := by have := nums_length [3, k, p, e, t]; unfold encMark; simp at this; omega
set_option maxRecDepth 10000 in
set_option maxHeartbeats 1000000 in
theorem markSum_any (k p e t : Int) (w : World) (ik : inI k) (ip : inI p) (ie : inI e) (it : inI t) :
    Calls Try.prog 41 #[.agg #[.int .i64 k, .int .i64 p, .int .i64 e, .int .i64 t]] w fun x w' => x = .returned (.tuple #[.agg (row .u8 32 (markF k p e t)), .bool (markB k p e t)]) ∧ Below w.heap.size w w' := by
  have hb1 : ((w.alloc (.cells #[.int .i64 k, .int .i64 p, .int .i64 e, .int .i64 t] 44)).alloc (.cells (row .u8 32 zeroF) 24)).heap[w.heap.size + 1]? = some (.cells (row .u8 32 zeroF) 24 (0, 0)) := by
    have := alloc_blk (w.alloc (.cells #[.int .i64 k, .int .i64 p, .int .i64 e, .int .i64 t] 44)) (.cells (row .u8 32 zeroF) 24)
    rwa [show (w.alloc (.cells #[.int .i64 k, .int .i64 p, .int .i64 e, .int .i64 t] 44)).heap.size = w.heap.size + 1 by simp] at this
  have HB1 : Hid _ := hb1
  have hBw : Below w.heap.size w ((w.alloc (.cells #[.int .i64 k, .int .i64 p, .int .i64 e, .int .i64 t] 44)).alloc (.cells (row .u8 32 zeroF) 24)) := (below_alloc _ _).alloc (by simp) _
  clear hb1
  go_enter Try.func41, Try.ntmps41
  go_wp2_with (refine wpList_alloc_hash rfl rfl ?_)
  generalize (w.alloc (.cells #[.int .i64 k, .int .i64 p, .int .i64 e, .int .i64 t] 44)).alloc (.cells (row .u8 32 zeroF) 24) = w1 at *
  refine (encodeMark_any k p e t w1 ik ip ie it).mono ?_
  rintro x w2 ⟨u, rfl, hO, hB2⟩
  have HC : Hid (w2.heap[w.heap.size + 1]? = some (.cells (row .u8 32 zeroF) 24 (0, 0))) := (hB2.block _ (lt_blk HB1.out)).trans HB1.out
  have hB : Below w.heap.size w w2 := hBw.trans (hB2.mono hBw.size)
  have hz2 : w.heap.size + 1 < w2.heap.size := lt_blk HC.out
  obtain ⟨ao, n, c, rfl, hf⟩ := hO.form
  have HF : Hid _ := hf
  clear hO hf hB2 HB1
  cases hm : markB k p e t
  · simp only [hm] at HF
    go_wp2_with (first | (refine wpList_build_to rfl 24 _ rfl (row .u8 32 zeroF) ?_ ?_; kernel_rfl) | (refine wpList_put_hash rfl _ _ rfl (w.heap.size + 1) zeroF zeroF ?_ ?_ 24 ?_ ?_; rfl; rfl; exact HC.out))
    intro w3 hc3 hk3
    have hB3 : Below w.heap.size w w3 := hB.trans (hk3.below (by omega) (by omega))
    clear hk3 HC hB
    go_wp2_with fail
    refine bodyPost_ret (v := .tuple #[.agg (row .u8 32 zeroF), .bool false]) ?_ rfl ⟨?_, hB3⟩
    · exact results_cell_tmp (p := 2) (q := 3) rfl _ _ (w.heap.size + 1) _ _ rfl rfl (load_hash_cell _ _ _ _ hc3)
    · simp [markF, hm]
  · rw [hm] at HF
    obtain ⟨hn, hc, hR⟩ : n = (encMark k p e t).length ∧ (encMark k p e t).length ≤ c ∧ Rowed w2 ao (encMark k p e t) c := HF.out
    subst hn
    clear HF
    go_wp2_with fail
    refine (valueSum_any (encMark k p e t) ao c w2 hR.lies hc (by have := encMark_length k p e t; omega)).mono ?_
    rintro x w3 ⟨rfl, hB3⟩
    have HC3 : Hid (w3.heap[w.heap.size + 1]? = some (.cells (row .u8 32 zeroF) 24 (0, 0))) := (hB3.block _ hz2).trans HC.out
    have hB4 : Below w.heap.size w w3 := hB.trans (hB3.mono hB.size)
    have hz3 : w.heap.size + 1 < w3.heap.size := lt_blk HC3.out
    clear hB3 HC hB hR hc
    go_wp2_with (refine wpList_put_hash rfl _ _ rfl (w.heap.size + 1) (sha (encMark k p e t)) zeroF ?_ ?_ 24 ?_ ?_; rfl; rfl; exact HC3.out)
    intro w4 hc4 hk4
    have hB5 : Below w.heap.size w w4 := hB4.trans (hk4.below (by omega) (by omega))
    clear hk4 HC3 hB4
    go_wp2_with fail
    refine bodyPost_ret (v := .tuple #[.agg (row .u8 32 (sha (encMark k p e t))), .bool true]) ?_ rfl ⟨?_, hB5⟩
    · exact results_cell_tmp (p := 2) (q := 3) rfl _ _ (w.heap.size + 1) _ _ rfl rfl (load_hash_cell _ _ _ _ hc4)
    · simp [markF, hm]
/-- what a node votes on a mark -/
def markVoteR (R : RingO) (k p e t f : Int) : VoteR := if markB k p e t then castR R 3 0 0 (markF k p e t) f else VoteR.zero
theorem markVoteR_no {R : RingO} {k p e t f : Int} (h : markB k p e t = false) : markVoteR R k p e t f = VoteR.zero := by rw [markVoteR, h]; rfl
theorem markVoteR_yes {R : RingO} {k p e t f : Int} (h : markB k p e t = true) : markVoteR R k p e t f = castR R 3 0 0 (markF k p e t) f := by rw [markVoteR, h]; rfl
set_option maxRecDepth 10000 in
set_option maxHeartbeats 1000000 in
theorem markVote_any (pr : Value) (R : RingO) (k p e t f : Int) (w : World) (h : RingV w pr R) (ik : inI k) (ip : inI p) (ie : inI e) (it : inI t) (if_ : inI f) :
    Calls Try.prog 21 #[pr, .agg #[.int .i64 k, .int .i64 p, .int .i64 e, .int .i64 t], .int .i64 f] w fun x w' => x = .returned (.tuple #[.agg (markVoteR R k p e t f).cells, .bool (markB k p e t)]) ∧ Below w.heap.size w w' := by
  obtain ⟨a, rfl⟩ := h.form
  have HR : Hid (RingV w (.pointer a) R) := h
  clear h
  have hb1 : ((w.alloc (.cells #[.int .i64 k, .int .i64 p, .int .i64 e, .int .i64 t] 44)).alloc (.cells VoteR.zero.cells 26)).heap[w.heap.size + 1]? = some (.cells VoteR.zero.cells 26 (0, 0)) := by
    have := alloc_blk (w.alloc (.cells #[.int .i64 k, .int .i64 p, .int .i64 e, .int .i64 t] 44)) (.cells VoteR.zero.cells 26)
    rwa [show (w.alloc (.cells #[.int .i64 k, .int .i64 p, .int .i64 e, .int .i64 t] 44)).heap.size = w.heap.size + 1 by simp] at this
  have HB1 : Hid _ := hb1
  have hBw : Below w.heap.size w ((w.alloc (.cells #[.int .i64 k, .int .i64 p, .int .i64 e, .int .i64 t] 44)).alloc (.cells VoteR.zero.cells 26)) := (below_alloc _ _).alloc (by simp) _
  clear hb1
  go_enter Try.func21, Try.ntmps21
  go_wp2_with (refine wpList_alloc_vote rfl rfl ?_)
  generalize (w.alloc (.cells #[.int .i64 k, .int .i64 p, .int .i64 e, .int .i64 t] 44)).alloc (.cells VoteR.zero.cells 26) = w1 at *
  refine (markSum_any k p e t w1 ik ip ie it).mono ?_
  rintro x w2 ⟨rfl, hB2⟩
  have hC2 := (hB2.block _ (lt_blk HB1.out)).trans HB1.out
  have hB : Below w.heap.size w w2 := hBw.trans (hB2.mono hBw.size)
  have HC3 : Hid ((w2.alloc (.cells (row .u8 32 zeroF) 24)).heap[w2.heap.size]? = some (.cells (row .u8 32 zeroF) 24 (0, 0))) := alloc_blk _ _
  have HB3 : Hid (Below w2.heap.size w2 (w2.alloc (.cells (row .u8 32 zeroF) 24))) := below_alloc _ _
  clear hB2 HB1
  go_wp2_with (first | (refine wpList_alloc_hash rfl rfl ?_) | (refine wpList_put_hash rfl _ _ rfl w2.heap.size (markF k p e t) zeroF ?_ ?_ 24 ?_ ?_; rfl; rfl; exact HC3.out))
  intro w3 hc3 hk3
  have hB23 : Below w2.heap.size w2 w3 := HB3.out.trans (hk3.below (Nat.le_refl _) (by simp))
  have HC4 : Hid (w3.heap[w.heap.size + 1]? = some (.cells VoteR.zero.cells 26 (0, 0))) := (hB23.block _ (lt_blk hC2)).trans hC2
  have hB3 : Below w.heap.size w w3 := hB.trans (hB23.mono hB.size)
  have HH3 : Hid (HashAt w3 w2.heap.size 0 (markF k p e t)) := hashAt_blk hc3
  have hz3 : w.heap.size + 1 < w3.heap.size := lt_blk HC4.out
  clear hc3 hk3 hB23 hC2 hB HC3 HB3
  cases hm : markB k p e t
  · go_wp2_with (first | (refine wpList_build_to rfl 26 _ rfl VoteR.zero.cells ?_ ?_; kernel_rfl) | (refine wpList_put_vote rfl _ _ rfl (w.heap.size + 1) VoteR.zero VoteR.zero ?_ ?_ 26 ?_ ?_; rfl; rfl; exact HC4.out))
    intro w4 hc4 hk4
    have hB5 : Below w.heap.size w w4 := hB3.trans (hk4.below (by omega) (by omega))
    clear hk4 HC4 hB3
    go_wp2_with fail
    refine bodyPost_ret (v := .tuple #[.agg VoteR.zero.cells, .bool false]) ?_ rfl ⟨?_, hB5⟩
    · exact results_cell_tmp (p := 6) (q := 7) rfl _ _ (w.heap.size + 1) _ _ rfl rfl (load_vote_cell _ _ _ _ hc4)
    · rw [markVoteR_no hm, hm]
  · go_wp2_with (first | (refine wpList_load_hash rfl _ rfl w2.heap.size 0 ?_ (markF k p e t) ?_ ?_; rfl; exact HH3.out))
    refine (cast_any (.pointer a) R 3 0 0 (markF k p e t) f w3 (HR.out.below hB3) (inI_lit (by decide) (by decide)) (inI_lit (by decide) (by decide)) (inI_lit (by decide) (by decide)) if_).mono ?_
    rintro x w4 ⟨rfl, hB4⟩
    have HC5 : Hid (w4.heap[w.heap.size + 1]? = some (.cells VoteR.zero.cells 26 (0, 0))) := (hB4.block _ hz3).trans HC4.out
    have hB5 : Below w.heap.size w w4 := hB3.trans (hB4.mono hB3.size)
    have hz4 : w.heap.size + 1 < w4.heap.size := lt_blk HC5.out
    obtain ⟨z, hz⟩ : ∃ z, castR R 3 0 0 (markF k p e t) f = z := ⟨_, rfl⟩
    rw [hz]
    have HZ : Hid (castR R 3 0 0 (markF k p e t) f = z) := hz
    clear hB4 HC4 hB3 hz HH3
    go_wp2_with (refine wpList_put_vote rfl _ _ rfl (w.heap.size + 1) z VoteR.zero ?_ ?_ 26 ?_ ?_; rfl; rfl; exact HC5.out)
    intro w5 hc5 hk5
    have hB6 : Below w.heap.size w w5 := hB5.trans (hk5.below (by omega) (by omega))
    clear hk5 HC5 hB5
    go_wp2_with fail
    refine bodyPost_ret (v := .tuple #[.agg z.cells, .bool true]) ?_ rfl ⟨?_, hB6⟩
    · exact results_cell_tmp (p := 6) (q := 7) rfl _ _ (w.heap.size + 1) _ _ rfl rfl (load_vote_cell _ _ _ _ hc5)
    · rw [markVoteR_yes hm, HZ.out, hm]
/-- is a mark accepted? -/
def acceptsR (R : RingO) (k p e t : Int) (ys : List VoteW) : Bool := markB k p e t && meetsR R ys 3 0 0 (markF k p e t)
set_option maxRecDepth 10000 in
set_option maxHeartbeats 1000000 in
theorem accepts_any (pr : Value) (R : RingO) (k p e t : Int) (ao : Option Addr) (cap : Nat) (ys : List VoteW) (w : World) (h : RingV w pr R) (hn : nodesR R ≤ 10) (ik : inI k) (ip : inI p) (ie : inI e) (it : inI t) (hV : VotesIn w ao cap ys) :
    Calls Try.prog 23 #[pr, .agg #[.int .i64 k, .int .i64 p, .int .i64 e, .int .i64 t, .slice ao ys.length cap]] w fun x w' => x = .returned (.bool (acceptsR R k p e t ys)) ∧ Below w.heap.size w w' := by
  obtain ⟨a, rfl⟩ := h.form
  have HR : Hid (RingV w (.pointer a) R) := h
  have HV : Hid (VotesIn w ao cap ys) := hV
  clear h hV
  have HB1 : Hid ((w.alloc (.cells #[.int .i64 k, .int .i64 p, .int .i64 e, .int .i64 t, .slice ao ys.length cap] 46)).heap[w.heap.size]? = some (.cells #[.int .i64 k, .int .i64 p, .int .i64 e, .int .i64 t, .slice ao ys.length cap] 46 (0, 0))) := alloc_blk _ _
  have hBw := below_alloc w (.cells #[.int .i64 k, .int .i64 p, .int .i64 e, .int .i64 t, .slice ao ys.length cap] 46)
  go_enter Try.func23, Try.ntmps23
  go_wp2_with fail
  generalize w.alloc (.cells #[.int .i64 k, .int .i64 p, .int .i64 e, .int .i64 t, .slice ao ys.length cap] 46) = w1 at *
  refine (markSum_any k p e t w1 ik ip ie it).mono ?_
  rintro x w2 ⟨rfl, hB2⟩
  have hC2 := (hB2.block _ (lt_blk HB1.out)).trans HB1.out
  have hB : Below w.heap.size w w2 := hBw.trans (hB2.mono hBw.size)
  have HC3 : Hid ((w2.alloc (.cells (row .u8 32 zeroF) 24)).heap[w2.heap.size]? = some (.cells (row .u8 32 zeroF) 24 (0, 0))) := alloc_blk _ _
  have HB3 : Hid (Below w2.heap.size w2 (w2.alloc (.cells (row .u8 32 zeroF) 24))) := below_alloc _ _
  clear hB2 HB1
  go_wp2_with (first | (refine wpList_alloc_hash rfl rfl ?_) | (refine wpList_put_hash rfl _ _ rfl w2.heap.size (markF k p e t) zeroF ?_ ?_ 24 ?_ ?_; rfl; rfl; exact HC3.out))
  intro w3 hc3 hk3
  have hB23 : Below w2.heap.size w2 w3 := HB3.out.trans (hk3.below (Nat.le_refl _) (by simp))
  have hB3 : Below w.heap.size w w3 := hB.trans (hB23.mono hB.size)
  have HH3 : Hid (HashAt w3 w2.heap.size 0 (markF k p e t)) := hashAt_blk hc3
  have hcV : w3.cell? ⟨w.heap.size, 4, none⟩ = some (.slice ao ys.length cap) := (cell_blk ((hB23.block _ (lt_blk hC2)).trans hC2) 4).trans rfl
  clear hc3 hk3 hB23 hC2 hB HC3 HB3
  cases hm : markB k p e t
  · go_wp2_with fail
    go_ret
    exact ⟨by simp [acceptsR, hm], hB3⟩
  · go_wp2_with (first | (refine wpList_load_hashG rfl _ rfl w2.heap.size 0 ?_ (markF k p e t) ?_ ?_; rfl; exact HH3.out))
    refine (meets_any (.pointer a) R ao cap ys 3 0 0 (markF k p e t) w3 (HR.out.below hB3) hn (HV.out.below hB3)).mono ?_
    rintro x w4 ⟨rfl, hB4⟩
    have hB5 : Below w.heap.size w w4 := hB3.trans (hB4.mono hB3.size)
    clear hB4 hB3 hcV HH3
    go_wp2_with fail
    go_ret
    exact ⟨by simp [acceptsR, hm], hB5⟩
end Go.Proofs.Ytenadhpnbihijaa
