/- cert's Meets, ValueSum, MarkVote, Accepts. For every ring, mark and row of votes. -/
import Derived.Test.YticpkpphjpgdbaaCertC
import Derived.Test.YticpkpphjpgdbaaWireA
namespace Go.Proofs.Yticpkpphjpgdbaa
open Go.RowKit Go.Dig Go.Sha Go.Inv Go.Oct

section
variable {ops : Array Oper} {rest : List Oper} {o : Oper} {a : Act} {w : World} {Q : Exit → Act → World → Prop}
theorem wpList_load_hashG (hw : Region.wanted o (yielded ops a.tmps) = true) (x : Operand) (ho : o.op = .load 30 x) (b off : Nat) (hx : a.eval x = .pointer (some ⟨b, off, none⟩)) (f : Nat → Int) (hc : HashAt w b off f)
    (h : wpList Try.prog ops Q rest (a.put o.dst (.agg (row .u8 32 f))) w) : wpList Try.prog ops Q (o :: rest) a w := wpList_by hw fun _ hK => wp_load_hash x ho b off hx f hc (hK _ _ h)
theorem wpList_load_voteG (hw : Region.wanted o (yielded ops a.tmps) = true) (x : Operand) (ho : o.op = .load 51 x) (b off : Nat) (hx : a.eval x = .pointer (some ⟨b, off, none⟩)) (y : VoteR) (hc : VoteAt w b off y)
    (h : wpList Try.prog ops Q rest (a.put o.dst (.agg y.cells)) w) : wpList Try.prog ops Q (o :: rest) a w := wpList_by hw fun _ hK => wp_load_vote x ho b off hx y hc (hK _ _ h)
theorem wpList_alloc_hash (hgd : o.guard = none) (ho : o.op = .alloc 30) (h : wpList Try.prog ops Q rest (a.put o.dst (.pointer (some ⟨w.heap.size, 0, none⟩))) (w.alloc (.cells (row .u8 32 zeroF) 30))) :
    wpList Try.prog ops Q (o :: rest) a w := wpList_alloc_row hgd 30 ho _ zero_hash h
theorem wpList_put_hash (hgd : o.guard = none) (x y : Operand) (ho : o.op = .store 30 x y) (g : Nat) (f old : Nat → Int) (hx : a.eval x = .pointer (some ⟨g, 0, none⟩)) (hy : a.eval y = .agg (row .u8 32 f)) (t : TypeId) (hg : w.heap[g]? = some (.cells (row .u8 32 old) t (0, 0)))
    (h : ∀ w', w'.heap[g]? = some (.cells (row .u8 32 f) t (0, 0)) → Keeps g w w' → wpList Try.prog ops Q rest (a.put o.dst undef) w') : wpList Try.prog ops Q (o :: rest) a w :=
  wpList_store_blk hgd 30 x y ho g _ hx hy t _ hg (row_info size_hash _) (by rw [row_size, row_size]) (row_all _ _ _) (h _ (setRow_at hg _) ⟨rfl, rfl, rfl, by simp, fun k _ hk => heap_setRow_other _ _ hk⟩)
end
theorem hash_rowM : ∃ d, Try.prog.underlying 30 = some d ∧ (match d with | .struct _ | .array _ _ => true | _ => false) = true := by
  obtain ⟨d, h1, h2⟩ := hash_row
  refine ⟨d, h1, ?_⟩
  clear h1
  cases d <;> first | rfl | exact h2
theorem load_hash_cell (w : World) (g : Nat) (f : Nat → Int) (t : TypeId) (h : w.heap[g]? = some (.cells (row .u8 32 f) t (0, 0))) : (loadVar 30 ⟨g, 0, none⟩).run Try.prog w = .ok (.agg (row .u8 32 f)) w := by
  obtain ⟨d, hd1, hd2⟩ := hash_rowM
  refine run_loadVar_row w g t 30 _ (0, 0) d h hd1 ?_ (row_info size_hash _)
  cases d <;> first | rfl | exact hd2
theorem load_vote_cell (w : World) (g : Nat) (z : VoteR) (t : TypeId) (h : w.heap[g]? = some (.cells z.cells t (0, 0))) : (loadVar 51 ⟨g, 0, none⟩).run Try.prog w = .ok (.agg z.cells) w := by
  obtain ⟨d, hd1, hd2⟩ := vote_rowM
  refine run_loadVar_row w g t 51 _ (0, 0) d h hd1 ?_ (vote_info z)
  cases d <;> first | rfl | exact hd2
theorem results_cell_tmp {P : Program} {fn : Func} {p q : Tmp} {ty : TypeId} (h : fn.results = #[.cell p ty, .tmp q]) (tmps : Array Value) (w : World) (g : Nat) (v u : Value) (hp : tmps.getD p undef = .pointer (some ⟨g, 0, none⟩)) (hq : tmps.getD q undef = u) (hl : (loadVar ty ⟨g, 0, none⟩).run P w = .ok v w) :
    (results fn tmps).run P w = .ok (.tuple #[v, u]) w := by
  subst hq
  have hp' : tmps[p]?.getD undef = .pointer (some ⟨g, 0, none⟩) := by simpa using hp
  simp [results, h, hp', asAddr, hl]
/-- are they enough? -/
def meetsR (R : RingO) (ys : List VoteW) (k s v : Int) (sum : Nat → Int) : Bool := decide (0 < nodesR R) && decide (quorumI (nodesR R) ≤ ((whoL R (toldL k s v sum ys)).length : Int))
theorem OwnI.len {w : World} {base : Nat} {v : Value} {L : List Int} (h : OwnI w base v L) : ∃ ao cap, v = .slice ao L.length cap := by
  rcases h.2 with ⟨rfl, h0⟩ | ⟨g, cap, cur, rfl, _⟩
  · rw [h0]; exact ⟨_, _, rfl⟩
  · exact ⟨_, _, rfl⟩
set_option maxRecDepth 10000 in
set_option maxHeartbeats 1000000 in
theorem meets_any (pr : Value) (R : RingO) (ao : Option Addr) (cap : Nat) (ys : List VoteW) (k s v : Int) (sum : Nat → Int) (w : World) (hR : RingV w pr R) (hn : nodesR R ≤ 10) (hV : VotesIn w ao cap ys) :
    Calls Try.prog 28 #[pr, .slice ao ys.length cap, .int .i64 k, .int .i64 s, .int .i64 v, .agg (row .u8 32 sum)] w fun e w' => e = .returned (.bool (meetsR R ys k s v sum)) ∧ Below w.heap.size w w' := by
  obtain ⟨a, rfl⟩ := hR.form
  have HR : Hid (RingV w (.pointer a) R) := hR
  have HV : Hid (VotesIn w ao cap ys) := hV
  clear hR hV
  have hBw := below_alloc w (.cells (row .u8 32 sum) 30)
  have HS : Hid (HashAt (w.alloc (.cells (row .u8 32 sum) 30)) w.heap.size 0 sum) := hashAt_blk (alloc_blk _ _)
  go_enter Try.func28, Try.ntmps28
  go_wp2_with (refine wpList_box_row rfl 30 _ rfl _ rfl ?_)
  generalize w.alloc (.cells (row .u8 32 sum) 30) = w1 at *
  refine (nodesR_any (.pointer a) R w1 (HR.out.below hBw)).mono ?_
  rintro e w2 ⟨rfl, rfl⟩
  by_cases h0 : 0 < nodesR R
  · have h0' : (0 : Int) < (nodesR R : Int) := by omega
    go_wp2_with (first | (refine wpList_load_hashG rfl _ rfl w.heap.size 0 ?_ sum ?_ ?_; rfl; exact HS.out))
    refine (who_any (.pointer a) R ao cap ys k s v sum w2 (HR.out.below hBw) (HV.out.below hBw)).mono ?_
    rintro e w3 ⟨u, rfl, hO, hB3⟩
    obtain ⟨uo, uc, rfl⟩ := hO.len
    have hB4 : Below w.heap.size w w3 := hBw.trans (hB3.mono hBw.size)
    have hl : (whoL R (toldL k s v sum ys)).length ≤ 10 := by
      have := whoL_length R (toldL k s v sum ys) []
      have := toldL_length k s v sum ys
      simp only [List.length_nil] at *; unfold whoL; omega
    generalize hm : (whoL R (toldL k s v sum ys)).length = m at *
    have HM : Hid _ := hm
    clear hO hB3 hm
    go_wp2_with fail
    refine (quorum_any (nodesR R) _ (by omega) (by omega)).mono ?_
    rintro e w4 ⟨rfl, rfl⟩
    go_wp2_with fail
    go_ret
    refine ⟨congrArg (fun b => Ending.returned (.bool b)) ?_, hB4⟩
    unfold meetsR
    rw [HM.out, Bool.eq_iff_iff]
    simp [h0]
  · have h0' : ¬ ((0 : Int) < (nodesR R : Int)) := by omega
    go_wp2_with fail
    go_ret
    refine ⟨congrArg (fun b => Ending.returned (.bool b)) ?_, hBw⟩
    unfold meetsR
    rw [decide_eq_false h0]; rfl
set_option maxRecDepth 10000 in
set_option maxHeartbeats 1000000 in
theorem dsum_any (P : List Int) (ao : Option Addr) (cap : Nat) (w : World) (hl : Lies w ao P) (hc : P.length ≤ cap) (hz : P.length < 274877906944) :
    Calls Try.prog 42 #[.slice ao P.length cap] w fun e w' => e = .returned (.agg (row .u8 32 (sha P))) ∧ Below w.heap.size w w' := by
  have HL : Hid (Lies w ao P) := hl
  clear hl
  have hb0 := alloc_blk w (.cells (row .u8 32 zeroF) 30)
  have hBw := below_alloc w (.cells (row .u8 32 zeroF) 30)
  go_enter Try.func42, Try.ntmps42
  go_wp2_with (refine wpList_alloc_hash rfl rfl ?_)
  have hs0 : (w.alloc (.cells (row .u8 32 zeroF) 30)).heap.size = w.heap.size + 1 := by simp
  generalize w.alloc (.cells (row .u8 32 zeroF) 30) = w0 at *
  rw [← hs0]
  have hcat : cat [(ao, cap, P)] = P := by simp [cat]
  have h := sumRows_any [(ao, cap, P)] w0.heap.size 1 (w0.alloc (.cells #[.slice ao P.length cap] 22)) (fun j hj => by
    obtain rfl : j = 0 := by simp at hj; exact hj
    exact (cell_blk (alloc_blk _ _) 0).trans rfl) (fun x hx => by
    simp at hx; subst hx; exact ⟨HL.out.below (hBw.alloc (by omega) _) (Nat.le_refl _), hc⟩) (by rw [hcat]; omega) (by simp)
  rw [hcat] at h
  refine h.mono ?_
  rintro e w2 ⟨rfl, hB2⟩
  have HC : Hid (w2.heap[w.heap.size]? = some (.cells (row .u8 32 zeroF) 30 (0, 0))) := (hB2.block _ (by simp; omega)).trans (alloc_blk_old hb0 _)
  have hB : Below w.heap.size w w2 := (hBw.alloc (by omega) _).trans (hB2.mono (by simp; omega))
  have hz2 : w.heap.size < w2.heap.size := lt_blk HC.out
  clear hB2 h hb0
  go_wp2_with (refine wpList_put_hash rfl _ _ rfl w.heap.size (sha P) zeroF ?_ ?_ 30 ?_ ?_; rfl; rfl; exact HC.out)
  intro w3 hc3 hk3
  have hB3 : Below w.heap.size w w3 := hB.trans (hk3.below (Nat.le_refl _) (by omega))
  clear hk3 HC hB
  go_wp2_with fail
  refine bodyPost_ret (v := .agg (row .u8 32 (sha P))) ?_ rfl ⟨rfl, hB3⟩
  exact results_cell_row rfl _ _ w.heap.size _ _ _ (.array 32 5) rfl hc3 (by kernel_rfl) rfl (row_info size_hash _)
set_option maxRecDepth 10000 in
set_option maxHeartbeats 1000000 in
theorem valueSum_any (P : List Int) (ao : Option Addr) (cap : Nat) (w : World) (hl : Lies w ao P) (hc : P.length ≤ cap) (hz : P.length < 274877906944) :
    Calls Try.prog 29 #[.slice ao P.length cap] w fun e w' => e = .returned (.agg (row .u8 32 (sha P))) ∧ Below w.heap.size w w' := by
  have HL : Hid (Lies w ao P) := hl
  clear hl
  have hb0 := alloc_blk w (.cells (row .u8 32 zeroF) 30)
  have hBw := below_alloc w (.cells (row .u8 32 zeroF) 30)
  go_enter Try.func29, Try.ntmps29
  go_wp2_with (refine wpList_alloc_hash rfl rfl ?_)
  generalize w.alloc (.cells (row .u8 32 zeroF) 30) = w0 at *
  refine (dsum_any P ao cap w0 (HL.out.below hBw (Nat.le_refl _)) hc hz).mono ?_
  rintro e w2 ⟨rfl, hB2⟩
  have HC : Hid (w2.heap[w.heap.size]? = some (.cells (row .u8 32 zeroF) 30 (0, 0))) := (hB2.block _ (lt_blk hb0)).trans hb0
  have hB : Below w.heap.size w w2 := hBw.trans (hB2.mono hBw.size)
  have hz2 : w.heap.size < w2.heap.size := lt_blk HC.out
  clear hB2 hb0
  go_wp2_with (refine wpList_put_hash rfl _ _ rfl w.heap.size (sha P) zeroF ?_ ?_ 30 ?_ ?_; rfl; rfl; exact HC.out)
  intro w3 hc3 hk3
  have hB3 : Below w.heap.size w w3 := hB.trans (hk3.below (Nat.le_refl _) (by omega))
  clear hk3 HC hB
  go_wp2_with fail
  refine bodyPost_ret (v := .agg (row .u8 32 (sha P))) ?_ rfl ⟨rfl, hB3⟩
  exact results_cell_row rfl _ _ w.heap.size _ _ _ (.array 32 5) rfl hc3 (by kernel_rfl) rfl (row_info size_hash _)
/-- the sum that a mark is voted on by -/
def markF (k p e t : Int) : Nat → Int := if markB k p e t then sha (encMark k p e t) else zeroF
theorem encMark_length (k p e t : Int) : (encMark k p e t).length ≤ 45 := by have := nums_length [3, k, p, e, t]; unfold encMark; simp at this; omega
/-- what a node votes on a mark -/
def markVoteR (R : RingO) (k p e t f : Int) : VoteR := if markB k p e t then castR R 3 0 0 (markF k p e t) f else VoteR.zero
theorem markVoteR_no {R : RingO} {k p e t f : Int} (h : markB k p e t = false) : markVoteR R k p e t f = VoteR.zero := by rw [markVoteR, h]; rfl
theorem markVoteR_yes {R : RingO} {k p e t f : Int} (h : markB k p e t = true) : markVoteR R k p e t f = castR R 3 0 0 (markF k p e t) f := by rw [markVoteR, h]; rfl
/-- is a mark accepted? -/
def acceptsR (R : RingO) (k p e t : Int) (ys : List VoteW) : Bool := markB k p e t && meetsR R ys 3 0 0 (markF k p e t)
end Go.Proofs.Yticpkpphjpgdbaa
