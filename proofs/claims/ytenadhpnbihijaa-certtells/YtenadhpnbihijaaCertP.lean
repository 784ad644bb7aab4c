/- CertCounts' walk. For every two numbers and digest. -/
import Derived.Test.YtenadhpnbihijaaCertO
namespace Go.Proofs.Ytenadhpnbihijaa
open Go.RowKit Go.Dig Go.Sha Go.Inv Go.Oct

/-- two rows that rise and have the same numbers are one -/
theorem Rise.ext : ∀ {L M : List Int}, Rise L → Rise M → (∀ x, x ∈ L ↔ x ∈ M) → L = M
  | [], [], _, _, _ => rfl
  | [], m :: t, _, _, h => absurd ((h m).2 (by simp)) (by simp)
  | l :: t, [], _, _, h => absurd ((h l).1 (by simp)) (by simp)
  | l :: s, m :: t, hL, hM, h => by
    have hl := List.pairwise_cons.1 hL
    have hm := List.pairwise_cons.1 hM
    have e : l = m := by
      rcases List.mem_cons.1 ((h l).1 (by simp)) with e | e
      · exact e
      · rcases List.mem_cons.1 ((h m).2 (by simp)) with e' | e'
        · exact e'.symm
        · have := hl.1 m e'; have := hm.1 l e; omega
    subst e
    rw [Rise.ext hl.2 hm.2 (fun x => ?_)]
    refine ⟨fun hx => ?_, fun hx => ?_⟩
    · rcases List.mem_cons.1 ((h x).1 (by simp [hx])) with rfl | e
      · exact absurd (hl.1 x hx) (by omega)
      · exact e
    · rcases List.mem_cons.1 ((h x).2 (by simp [hx])) with rfl | e
      · exact absurd (hm.1 x hx) (by omega)
      · exact e
abbrev ring7 : RingO := some (oneF 1, 7)
def c7 (sum : Nat → Int) (i : Nat) (h : i < 7) : VoteW := castW ring7 1 3 1 sum (i : Int) ⟨by decide, by decide⟩ ⟨by decide, by decide⟩ ⟨by decide, by decide⟩ (inI_nat (by omega))
def v7 (sum : Nat → Int) (i : Nat) : VoteW := castW ring7 1 3 1 sum ((i % 7 : Nat) : Int) ⟨by decide, by decide⟩ ⟨by decide, by decide⟩ ⟨by decide, by decide⟩ (inI_nat (by omega))
/-- those that voted, the last first; those that count -/
def votedL (sel : Nat → Bool) (sum : Nat → Int) : Nat → List VoteW
  | 0 => []
  | n + 1 => if sel n then v7 sum n :: votedL sel sum n else votedL sel sum n
def wantL (sel : Nat → Bool) : Nat → List Int
  | 0 => []
  | n + 1 => if sel n then wantL sel n ++ [(n : Int)] else wantL sel n
theorem voted_length (sel : Nat → Bool) (sum : Nat → Int) : ∀ n, (votedL sel sum n).length ≤ n ∧ (votedL sel sum n).length = (wantL sel n).length
  | 0 => ⟨Nat.le_refl _, rfl⟩
  | n + 1 => by
    have := voted_length sel sum n
    unfold votedL wantL
    split
    · simp only [List.length_cons, List.length_append, List.length_nil]; omega
    · omega
theorem want_mem (sel : Nat → Bool) (x : Int) : ∀ n, x ∈ wantL sel n ↔ ∃ i, i < n ∧ sel i = true ∧ x = (i : Int)
  | 0 => by simp [wantL]
  | n + 1 => by
    have ih := want_mem sel x n
    unfold wantL
    split
    · rename_i h
      rw [List.mem_append, ih, List.mem_singleton]
      refine ⟨fun hx => ?_, fun ⟨i, h1, h2, h3⟩ => ?_⟩
      · rcases hx with ⟨i, h1, h2, h3⟩ | h3
        · exact ⟨i, by omega, h2, h3⟩
        · exact ⟨n, by omega, h, h3⟩
      · by_cases e : i = n
        · subst e; exact .inr h3
        · exact .inl ⟨i, by omega, h2, h3⟩
    · rename_i h
      rw [ih]
      refine ⟨fun ⟨i, h1, h2, h3⟩ => ⟨i, by omega, h2, h3⟩, fun ⟨i, h1, h2, h3⟩ => ⟨i, ?_, h2, h3⟩⟩
      by_cases e : i = n
      · subst e; exact absurd h2 h
      · omega
theorem want_rise (sel : Nat → Bool) : ∀ n, Rise (wantL sel n)
  | 0 => List.Pairwise.nil
  | n + 1 => by
    have ih := want_rise sel n
    unfold wantL
    split
    · refine List.pairwise_append.2 ⟨ih, List.pairwise_singleton _ _, fun x hx y hy => ?_⟩
      obtain ⟨i, h1, _, rfl⟩ := (want_mem sel x n).1 hx
      rw [List.mem_singleton] at hy
      omega
    · exact ih
theorem voted_mem (sel : Nat → Bool) (sum : Nat → Int) (x : VoteW) : ∀ n, x ∈ votedL sel sum n ↔ ∃ i, i < n ∧ sel i = true ∧ x = v7 sum i
  | 0 => by simp [votedL]
  | n + 1 => by
    have ih := voted_mem sel sum x n
    unfold votedL
    split
    · rename_i h
      rw [List.mem_cons, ih]
      refine ⟨fun hx => ?_, fun ⟨i, h1, h2, h3⟩ => ?_⟩
      · rcases hx with h3 | ⟨i, h1, h2, h3⟩
        · exact ⟨n, by omega, h, h3⟩
        · exact ⟨i, by omega, h2, h3⟩
      · by_cases e : i = n
        · subst e; exact .inl h3
        · exact .inr ⟨i, by omega, h2, h3⟩
    · rename_i h
      rw [ih]
      refine ⟨fun ⟨i, h1, h2, h3⟩ => ⟨i, by omega, h2, h3⟩, fun ⟨i, h1, h2, h3⟩ => ⟨i, ?_, h2, h3⟩⟩
      by_cases e : i = n
      · subst e; exact absurd h2 h
      · omega
/-- whatever rows have just these votes: just those count -/
theorem who_voted (sel : Nat → Bool) (sum : Nat → Int) (l : List VoteW) (hl : l.length ≤ 10) (hm : ∀ x, x ∈ l ↔ x ∈ votedL sel sum 7) : whoL ring7 (toldL 1 3 1 sum l) = wantL sel 7 := by
  have ht : toldL 1 3 1 sum l = l := by
    unfold toldL
    rw [List.take_of_length_le hl, List.filter_eq_self]
    intro x hx
    obtain ⟨i, _, _, rfl⟩ := (voted_mem sel sum x 7).1 ((hm x).1 hx)
    exact asked_cast _ _ _ _ _ _
  rw [ht]
  refine Rise.ext (whoL_rise _ _ _ List.Pairwise.nil) (want_rise sel 7) fun i => ?_
  unfold whoL
  rw [whoL_mem, want_mem]
  refine ⟨fun h => ?_, fun ⟨j, h1, h2, h3⟩ => .inr ⟨v7 sum j, (hm _).2 ((voted_mem sel sum _ 7).2 ⟨j, h1, h2, rfl⟩), ?_, good_cast ?_⟩⟩
  · rcases h with h | ⟨x, hx, h1, _⟩
    · cases h
    · obtain ⟨j, h2, h3, rfl⟩ := (voted_mem sel sum x 7).1 ((hm x).1 hx)
      exact ⟨j, h2, h3, by rw [h1]; show ((j % 7 : Nat) : Int) = j; omega⟩
  · rw [h3]; show (j : Int) = ((j % 7 : Nat) : Int); omega
  · unfold hasB; exact decide_eq_true ⟨by omega, by omega⟩
/-- of another kind, slot or view there is nobody -/
theorem who_other (sel : Nat → Bool) (sum : Nat → Int) (l : List VoteW) (hm : ∀ x, x ∈ l ↔ x ∈ votedL sel sum 7) (k s v : Int) (h : ¬ (k = 1 ∧ s = 3 ∧ v = 1)) : whoL ring7 (toldL k s v sum l) = [] := by
  have : toldL k s v sum l = [] := by
    unfold toldL
    rw [List.filter_eq_nil_iff]
    intro x hx
    obtain ⟨i, _, _, rfl⟩ := (voted_mem sel sum x 7).1 ((hm x).1 (List.mem_of_mem_take hx))
    intro ha
    simp only [askedB, v7, castW, castR, Bool.and_eq_true] at ha
    exact h ⟨(of_decide_eq_true ha.1.1.1).symm, (of_decide_eq_true ha.1.1.2).symm, (of_decide_eq_true ha.1.2).symm⟩
  rw [this]; rfl
theorem OwnI.at {w : World} {base : Nat} {v : Value} {L : List Int} (h : OwnI w base v L) (hl : L ≠ []) : ∃ g cap, v = .slice (some ⟨g, 0, none⟩) L.length cap ∧ ∀ j, j < L.length → w.cell? ⟨g, j, none⟩ = some (.int .i64 (L.getD j 0)) := by
  rcases h.2 with ⟨_, h0⟩ | ⟨g, cap, cur, rfl, _, hgg, _, _, _, ht⟩
  · exact absurd (List.eq_nil_of_length_eq_zero h0) hl
  · exact ⟨g, cap, rfl, fun j hj => (cell_blk hgg j).trans (OwnI.cur ht hj)⟩
set_option maxRecDepth 10000 in
set_option maxHeartbeats 1000000 in
/-- a row is itself -/
theorem ints6_same (b1 b2 : Nat) (u v : Value) (L : List Int) (w : World) (hu : OwnI w b1 u L) (hv : OwnI w b2 v L) (hL : L.length ≤ 1000) :
    Calls Try.prog 15 #[u, v] w fun e w' => e = .returned (.bool true) ∧ ∃ q, w' = w.drewN q := by
  by_cases hn : L = []
  · subst hn
    obtain ⟨ua, uc, rfl⟩ := hu.len
    obtain ⟨va, vc, rfl⟩ := hv.len
    rw [show ([] : List Int).length = 0 from rfl]
    go_enter Try.func15, Try.ntmps15
    go_wp2_with fail
    go_loopw [5] (fun iv wr => iv = .int .i64 0 ∧ wr = w) (fun _ _ => 0)
    case atStart => exact ⟨rfl, rfl⟩
    case round =>
      obtain ⟨rfl, rfl⟩ := hrel
      go_wp2_with fail
      go_ret
      exact ⟨rfl, 0, rfl⟩
  · obtain ⟨g, uc, rfl, hcu⟩ := hu.at hn
    obtain ⟨g', vc, rfl, hcv⟩ := hv.at hn
    have HU : Hid _ := hcu
    have HV : Hid _ := hcv
    obtain ⟨n, hLn⟩ : ∃ n, L.length = n := ⟨_, rfl⟩
    rw [hLn]
    have HL : Hid (L.length = n) := hLn
    have hn1000 : n ≤ 1000 := by omega
    clear hcu hcv hu hv hLn hL
    go_enter Try.func15, Try.ntmps15
    go_wp2_with fail
    go_loopw [5] (fun iv wr => ∃ i q : Nat, i ≤ n ∧ iv = .int .i64 (i : Int) ∧ wr = w.drewN q) (fun iv _ => n - (intOf iv).toNat)
    case atStart => exact ⟨0, 0, Nat.zero_le _, rfl, rfl⟩
    case round =>
      obtain ⟨i, q, hi, rfl, rfl⟩ := hrel
      by_cases hlt : i < n
      · have c1 : w.cell? ⟨g, i, none⟩ = some (.int .i64 (L.getD i 0)) := HU.out i (by have := HL.out; omega)
        have c2 : w.cell? ⟨g', i, none⟩ = some (.int .i64 (L.getD i 0)) := HV.out i (by have := HL.out; omega)
        generalize L.getD i 0 = z at c1 c2
        go_wp2_with fail
        go_quiet (fail)
        go_wp2_with fail
        go_roundw
        case rel => exact ⟨i + 1, _, by omega, by go_num, rfl⟩
        case measure => simp [intOf]; omega
      · obtain rfl : i = n := by omega
        go_wp2_with fail
        go_ret
        exact ⟨rfl, q, rfl⟩
def selB (which : Int) (i : Nat) : Bool := bits BinOp.and IntKind.i64 (which / 2 ^ i) 1 == 1
theorem info_int6 : (Try.prog.info? 3).map (fun i => (i.zero, i.size, i.bytes)) = some (some (.int .i64 0), 1, 8) := by kernel_rfl
/-- a row of numbers is no row of votes -/
theorem own_apart {w : World} {b1 b2 : Nat} {u v : Value} {L : List Int} {zs : List VoteW} (hI : OwnI w b1 u L) (hV : OwnV w b2 v zs) {k : Nat} (h1 : u.ownBlock = some k) (h2 : v.ownBlock = some k) : False := by
  rcases hI.2 with ⟨rfl, _⟩ | ⟨g, cap, cur, rfl, _, hgg, _⟩
  · cases h1
  · cases h1
    rcases hV.2 with ⟨rfl, _⟩ | ⟨g', cap', cur', rfl, _, hgg', _⟩
    · cases h2
    · have e : g' = g := by cases h2; rfl
      rw [e, hgg] at hgg'
      injection hgg' with h3
      injection h3 with _ h4
      exact absurd h4 (by decide)
section
variable {ops : Array Oper} {rest : List Oper} {o : Oper} {a : Act} {w : World} {Q : Exit → Act → World → Prop}
theorem wpList_appI (hgd : o.guard = none) (s x : Operand) (ho : o.op = .call { callee := .builtin .append, args := #[s, x], argTypes := #[36, 36] }) (base : Nat) (v : Value) (L : List Int) (hs : a.eval s = v) (g0 : Nat) (y : Int) (hx : a.eval x = .slice (some ⟨g0, 0, none⟩) 1 1)
    (hown : OwnI w base v L) (hc : w.cell? ⟨g0, 0, none⟩ = some (.int .i64 y)) (hb : L.length ≤ 1000) (hbase : base ≤ w.heap.size)
    (h : ∀ v' w', OwnI w' base v' (L ++ [y]) → Gr w w' v v' → wpList Try.prog ops Q rest (a.put o.dst v') w') : wpList Try.prog ops Q (o :: rest) a w := by
  obtain ⟨i8, hi, hz0, hz1, hz2⟩ := info_parts info_int6
  obtain ⟨v', w', hr, h1, hg, _, h5⟩ := run_append_own_at (P := Try.prog) w base 36 o.type 3 i8 (.int .i64 0) 1 8 (by kernel_rfl) hi hz0 hz1 hz2 rfl (by omega) v L.length _ hown ⟨g0, 0, none⟩ 1 1 [.int .i64 y] rfl (fun j u hu => by
    match j, hu with
    | 0, hu => rw [addr_add]; simp at hu; subst hu; exact hc
    | j + 1, hu => simp at hu) (by simp [Value.oneCell']) (by unfold maxLen; omega) (by omega) hbase
  refine wpList_plain hgd fun K hK' => ?_
  unfold Oper.wp
  simp [execOp, ho, resolve, invoke, builtin, hs, hx, hr, Result.andThen]
  refine hK' _ _ (h v' w' ?_ ⟨hg.os, hg.tape, hg.output, hg.size, fun k hk hne => hg.block k hk (fun e => hne e.symm), fun k hk => ?_⟩)
  · unfold OwnI
    rw [List.map_append, List.length_append]; exact h1
  · rcases h5 with h5 | h5
    · exact .inl (h5.symm.trans hk)
    · rw [h5] at hk; cases hk; exact .inr (Nat.le_refl _)
end
/-- what the law's last line reads -/
structure CtxP (w : World) (rg : Nat) (sum : Nat → Int) (ao : Option Addr) (cap : Nat) (ys : List VoteW) (W : World) : Prop where
  ring : RingV W (.pointer (some ⟨rg, 0, none⟩)) ring7
  hash : HashAt W w.heap.size 0 sum
  lt : w.heap.size < W.heap.size
  votes : VotesIn W ao cap ys
  bel : Below w.heap.size w W
theorem CtxP.below {w W W' : World} {rg : Nat} {sum : Nat → Int} {ao : Option Addr} {cap : Nat} {ys : List VoteW} (h : CtxP w rg sum ao cap ys W) (hB : Below W.heap.size W W') : CtxP w rg sum ao cap ys W' :=
  ⟨h.ring.below hB, h.hash.same (hB.block _ h.lt), Nat.lt_of_lt_of_le h.lt hB.size, h.votes.below hB, h.bel.trans (hB.mono h.bel.size)⟩
theorem meets_voted (sel : Nat → Bool) (sum : Nat → Int) (l : List VoteW) (hl : l.length ≤ 10) (hm : ∀ x, x ∈ l ↔ x ∈ votedL sel sum 7) : meetsR ring7 l 1 3 1 sum = decide (5 ≤ (wantL sel 7).length) := by
  unfold meetsR
  rw [who_voted sel sum l hl hm, show quorumI (nodesR ring7) = 5 by decide, show decide (0 < nodesR ring7) = true by decide, Bool.true_and, Bool.eq_iff_iff, decide_eq_true_iff, decide_eq_true_iff]
  omega
theorem meets_other (sel : Nat → Bool) (sum : Nat → Int) (l : List VoteW) (hm : ∀ x, x ∈ l ↔ x ∈ votedL sel sum 7) (k s v : Int) (h : ¬ (k = 1 ∧ s = 3 ∧ v = 1)) : meetsR ring7 l k s v sum = false := by
  unfold meetsR
  rw [who_other sel sum l hm k s v h]
  decide
theorem v7_val (sum : Nat → Int) {i : Nat} (h : i < 7) : castR ring7 1 3 1 sum (i : Int) = (v7 sum i).1 := by
  show castR ring7 1 3 1 sum (i : Int) = castR ring7 1 3 1 sum ((i % 7 : Nat) : Int)
  rw [Nat.mod_eq_of_lt h]
/-- the loop's round: one more voted -/
theorem counts_step {w1 wr w2 w4 w6 : World} {wv u u' : Value} {ys : List VoteW} {L M : List Int} {z : VoteR} {g : Nat} (hO : OwnV w4 w1.heap.size u ys) (hW : OwnI wr w1.heap.size wv L) (hB : Below w1.heap.size w1 wr) (hB2 : Below wr.heap.size wr w2)
    (hg : Gr ((w2.alloc (.cells z.cells 26)).alloc (.cells (rowV [z]) 26)) w4 (.slice (some ⟨g, 0, none⟩) 1 1) u) (hge : g = w2.heap.size + 1) (o : Obj) (hM : OwnI w6 w1.heap.size u' M) (hg6 : Gr (w4.alloc o) w6 wv u') :
    OwnV w6 w1.heap.size u ys ∧ OwnI w6 w1.heap.size u' M ∧ Below w1.heap.size w1 w6 := by
  subst hge
  have hs2 := hB2.size
  have hs4 : w2.heap.size + 2 ≤ w4.heap.size := by have := hg.size; simp at this; omega
  have hs6 : w4.heap.size + 1 ≤ w6.heap.size := by have := hg6.size; simpa using this
  have key4 : ∀ k, k < w2.heap.size → w4.heap[k]? = w2.heap[k]? := fun k hk =>
    ((hg.block k (by simp; omega) (fun e => by have e2 : w2.heap.size + 1 = k := Option.some.inj e; omega)).trans (Below.heap_alloc _ _ k (by simp; omega))).trans (Below.heap_alloc _ _ k hk)
  have hub : ∀ k, u.ownBlock = some k → w2.heap.size < k := fun k hk => by
    rcases hg.own k hk with e | e
    · have e2 : w2.heap.size + 1 = k := Option.some.inj e
      omega
    · simp at e; omega
  have key6 : ∀ k, k < w4.heap.size → wv.ownBlock ≠ some k → w6.heap[k]? = w4.heap[k]? := fun k hk hn => (hg6.block k (by simp; omega) hn).trans (Below.heap_alloc _ _ k hk)
  refine ⟨hO.same fun k hk => key6 k (hO.lt k hk).2 (fun e => ?_), hM, ?_⟩
  · have := hub k hk; have := (hW.lt k e).2; omega
  · refine ⟨(hg6.os.trans hg.os).trans (hB2.os.trans hB.os), (hg6.tape.trans hg.tape).trans (hB2.tape.trans hB.tape), (hg6.output.trans hg.output).trans (hB2.output.trans hB.output), by have := hB.size; omega, fun k hk => ?_⟩
    have hsB := hB.size
    exact (((key6 k (by omega) (fun e => by have := (hW.lt k e).1; omega)).trans (key4 k (by omega))).trans (hB2.block k (by omega))).trans (hB.block k hk)
set_option maxRecDepth 10000 in
set_option maxHeartbeats 8000000 in
theorem certCounts_in (which : Int) (twice : Bool) (sum : Nat → Int) (w : World) (hw0 : 0 ≤ which) (hw : which ≤ 127) :
    Calls Try.prog 5 #[.int .i64 which, .bool twice, .agg (row .u8 32 sum)] w fun x w' => x = .returned (.bool true) ∧ Below w.heap.size w w' := by
  have h0 : ¬ (which < 0) := by omega
  have h127 : ¬ (127 < which) := by omega
  have hB0 := below_alloc w (.cells (row .u8 32 sum) 24)
  have hA := alloc_blk w (.cells (row .u8 32 sum) 24)
  go_enter Try.func5, Try.ntmps5
  go_wp2_with (first | refine wpList_box_row rfl 24 _ rfl _ rfl ?_ | (refine wpList_build_to rfl 24 _ rfl (row .u8 32 (oneF 1)) ?_ ?_; kernel_rfl))
  generalize w.alloc (.cells (row .u8 32 sum) 24) = w0 at *
  refine (sNew_any 7 (oneF 1) _ (by decide) (by decide)).mono ?_
  rintro x w1 ⟨rg, rfl, hrg, hR, hB1⟩
  rw [show nodesOf 7 = 7 by decide] at hR
  have HR : Hid (RingV w1 (.pointer (some ⟨rg, 0, none⟩)) ring7) := ⟨rg, rfl, hR⟩
  have HH : Hid (w1.heap[w.heap.size]? = some (.cells (row .u8 32 sum) 24 (0, 0))) := (hB1.block _ (lt_blk hA)).trans hA
  have HB : Hid (Below w.heap.size w w1) := hB0.trans (hB1.mono hB0.size)
  clear hR hB1 hA hB0
  go_wp2_with fail
  go_loopw [8, 9, 10] (fun lv wv iv wr => ∃ i : Nat, i ≤ 7 ∧ iv = .int .i64 (i : Int) ∧ OwnV wr w1.heap.size lv (votedL (selB which) sum i) ∧ OwnI wr w1.heap.size wv (wantL (selB which) i) ∧ Below w1.heap.size w1 wr) (fun _ _ iv _ => 7 - (intOf iv).toNat)
  case atStart => exact ⟨0, Nat.zero_le _, rfl, OwnV.nil _ _, OwnI.nil _ _, Below.refl _ _⟩
  case round =>
    obtain ⟨i, hi, rfl, hO, hW, hB⟩ := hrel
    by_cases hlt : i < 7
    · have hi7 : (i : Int) < 7 := by omega
      cases hsel : selB which i
      · have hs : (bits BinOp.and IntKind.i64 (which / 2 ^ i) 1 == 1) = false := hsel
        obtain ⟨ao, cap, rfl, -⟩ := hO.form
        obtain ⟨uo, uc, rfl⟩ := hW.len
        go_wp2_with fail
        go_roundw
        case rel => exact ⟨i + 1, by omega, by go_num, by rw [votedL, hsel]; exact hO, by rw [wantL, hsel]; exact hW, hB⟩
        case measure => simp [intOf]; omega
      · have hs : (bits BinOp.and IntKind.i64 (which / 2 ^ i) 1 == 1) = true := hsel
        obtain ⟨ao, cap, rfl, hVin⟩ := hO.form
        obtain ⟨uo, uc, rfl⟩ := hW.len
        have HS : Hid (HashAt wr w.heap.size 0 sum) := hashAt_blk ((hB.block _ (lt_blk HH.out)).trans HH.out)
        have hl1 := (voted_length (selB which) sum i).1
        have HW7 : Hid ((wantL (selB which) i).length ≤ 1000) := by show (wantL (selB which) i).length ≤ 1000; have := (voted_length (selB which) sum i).2; omega
        generalize hzl : (votedL (selB which) sum i).length = zl at *
        generalize hwl : (wantL (selB which) i).length = wl at *
        go_wp2_with (refine wpList_load_hash rfl _ rfl w.heap.size 0 ?_ sum ?_ ?_; rfl; exact HS.out)
        refine (cast_any (.pointer (some ⟨rg, 0, none⟩)) ring7 1 3 1 sum (i : Int) wr (HR.out.below hB) (inI_lit (by decide) (by decide)) (inI_lit (by decide) (by decide)) (inI_lit (by decide) (by decide)) (inI_nat (by omega))).mono ?_
        rintro x w2 ⟨rfl, hB2⟩
        rw [v7_val sum hlt]
        obtain ⟨z, hz⟩ : ∃ z, v7 sum i = z := ⟨_, rfl⟩
        rw [hz]
        have HZ : Hid (v7 sum i = z) := hz
        have hB2' : Below wr.heap.size wr ((w2.alloc (.cells z.1.cells 26)).alloc (.cells (rowV [z.1]) 26)) := (hB2.alloc hB2.size _).alloc (by have := hB2.size; simp; omega) _
        have HV2 : Hid (VoteAt (w2.alloc (.cells z.1.cells 26)) w2.heap.size 0 z.1) := voteAt_blk (alloc_blk _ _)
        have HN : Hid (OwnV ((w2.alloc (.cells z.1.cells 26)).alloc (.cells (rowV [z.1]) 26)) w1.heap.size (.slice (some ⟨w2.heap.size + 1, 0, none⟩) 1 1) [z]) := by
          have := (ownV_new (w2.alloc (.cells z.1.cells 26)) [z] (by simp)).mono (b := w1.heap.size) (by have := hB.size; have := hB2.size; simp; omega)
          rw [show (w2.alloc (.cells z.1.cells 26)).heap.size = w2.heap.size + 1 by simp] at this
          exact this
        have HY : Hid (VotesIn ((w2.alloc (.cells z.1.cells 26)).alloc (.cells (rowV [z.1]) 26)) ao cap (votedL (selB which) sum i)) := hVin.below hB2'
        have hsz3 : w1.heap.size ≤ ((w2.alloc (.cells z.1.cells 26)).alloc (.cells (rowV [z.1]) 26)).heap.size := by have := hB.size; have := hB2.size; simp; omega
        have HS3 : Hid _ := hsz3
        have HL : Hid _ := hzl
        have HWL : Hid _ := hwl
        have HO2 : Hid _ := hB2
        have HW2 : Hid (OwnI wr w1.heap.size (.slice uo wl uc) (wantL (selB which) i)) := hW
        clear hVin hO hz hB2' hsz3 hzl hwl hB2 HS hW
        go_wp2_with (first | refine wpList_alloc_vote rfl rfl ?_ | (refine wpList_store_vote rfl _ _ rfl w2 z.1 ?_ ?_ ?_ ?_; rfl; rfl; rfl) | (refine wpList_load_vote rfl _ rfl w2.heap.size 0 ?_ z.1 ?_ ?_; rfl; exact HV2.out) | (refine wpList_rowV ?_ 1 _ rfl [z.1] rfl (by decide) (by decide) ?_ ?_; kernel_rfl; kernel_rfl) | (refine wpList_appV rfl _ _ rfl w1.heap.size (.slice (some ⟨w2.heap.size + 1, 0, none⟩) 1 1) [z] ?_ ao zl cap (votedL (selB which) sum i) ?_ ?_ ?_ ?_ ?_ ?_ ?_; rfl; rfl; exact HL.out.symm; exact HN.out; exact HY.out; (show 1 + zl ≤ 1000; omega); exact HS3.out))
        intro u w4 hO4 hG4
        obtain ⟨zs4, hzs4⟩ : ∃ zs4, z :: votedL (selB which) sum i = zs4 := ⟨_, rfl⟩
        rw [hzs4] at hO4
        have HZS4 : Hid _ := hzs4
        clear hzs4
        obtain ⟨ao4, cap4, rfl, -⟩ := hO4.form
        obtain ⟨l4, hl4⟩ : ∃ l4, zs4.length = l4 := ⟨_, rfl⟩
        rw [hl4] at hO4 hG4 ⊢
        clear hl4
        have HO4 : Hid _ := hO4
        have HG4 : Hid _ := hG4
        have hs4 : w2.heap.size + 2 ≤ w4.heap.size := by have := hG4.size; simp at this; omega
        have hW4 : OwnI (w4.alloc (.cells #[.int .i64 (i : Int)] 3)) w1.heap.size (.slice uo wl uc) (wantL (selB which) i) := (HW2.out.same fun k hk => by
          have h1 := (HW2.out.lt k hk).2
          have h2 := HO2.out.size
          exact ((hG4.block k (by simp; omega) (fun e => by have e2 : w2.heap.size + 1 = k := Option.some.inj e; omega)).trans ((Below.heap_alloc _ _ k (by simp; omega)).trans (Below.heap_alloc _ _ k (by omega)))).trans (HO2.out.block k h1)).alloc _
        have HW4 : Hid _ := hW4
        have HC4 : Hid ((w4.alloc (.cells #[.int .i64 (i : Int)] 3)).cell? ⟨w4.heap.size, 0, none⟩ = some (.int .i64 (i : Int))) := (cell_blk (alloc_blk _ _) 0).trans rfl
        have HS4 : Hid (w1.heap.size ≤ (w4.alloc (.cells #[.int .i64 (i : Int)] 3)).heap.size) := by show w1.heap.size ≤ (w4.heap.push _).size; have := hB.size; have := HO2.out.size; simp; omega
        clear hO4 hG4 hW4 HN HY HV2
        go_wp2_with (refine wpList_appI rfl _ _ rfl w1.heap.size (.slice uo wl uc) (wantL (selB which) i) ?_ w4.heap.size (i : Int) ?_ ?_ ?_ ?_ ?_ ?_; rfl; rfl; exact HW4.out; exact HC4.out; (rw [HWL.out]; exact HW7.out); exact HS4.out)
        intro u' w6 hM hG6
        obtain ⟨mo, mc, rfl⟩ := hM.len
        obtain ⟨k1, k2, k3⟩ := counts_step (M := wantL (selB which) i ++ [(i : Int)]) HO4.out HW2.out hB HO2.out HG4.out rfl _ hM hG6
        have K1 : Hid _ := k1
        have K2 : Hid _ := k2
        clear hM hG6 HG4 k1 k2
        go_wp2_with fail
        go_roundw
        case rel => exact ⟨i + 1, by omega, by go_num, by rw [votedL, hsel, if_pos rfl, HZ.out]; rw [HZS4.out]; exact K1.out, by rw [wantL, hsel, if_pos rfl]; exact K2.out, k3⟩
        case measure => simp [intOf]; omega
    · obtain rfl : i = 7 := by omega
      obtain ⟨ao, cap, rfl, hVin⟩ := hO.form
      obtain ⟨uo, uc, rfl⟩ := hW.len
      have hl1 := (voted_length (selB which) sum 7).1
      have hl2 := (voted_length (selB which) sum 7).2
      have HW5 : Hid (Below w.heap.size w wr) := HB.out.trans (hB.mono HB.out.size)
      have hbH := (hB.block _ (lt_blk HH.out)).trans HH.out
      have HCX : Hid (CtxP w rg sum ao cap (votedL (selB which) sum 7) wr) := ⟨HR.out.below hB, hashAt_blk hbH, lt_blk hbH, hVin, HW5.out⟩
      have HWI : Hid (OwnI wr w1.heap.size (.slice uo (wantL (selB which) 7).length uc) (wantL (selB which) 7)) := hW
      have HMEM : Hid (∀ x, x ∈ votedL (selB which) sum 7 ↔ x ∈ votedL (selB which) sum 7) := fun _ => Iff.rfl
      have HLEN : Hid ((votedL (selB which) sum 7).length ≤ 10) := by show (votedL (selB which) sum 7).length ≤ 10; omega
      have HLW : Hid ((votedL (selB which) sum 7).length = (wantL (selB which) 7).length) := hl2
      by_cases hA : twice = true ∧ 0 < (votedL (selB which) sum 7).length ∧ (votedL (selB which) sum 7).length < 7
      · obtain ⟨htw, hpos, hlt7⟩ := hA
        subst htw
        obtain ⟨bb, oo, rfl, hv0⟩ := hVin.at_ 0 hpos
        rw [Nat.zero_mul, Nat.add_zero] at hv0
        obtain ⟨z, hz⟩ : ∃ z, (votedL (selB which) sum 7)[0] = z := ⟨_, rfl⟩
        rw [hz] at hv0
        have hzm : z ∈ votedL (selB which) sum 7 := by rw [← hz]; exact List.getElem_mem hpos
        have HZM : Hid _ := hzm
        have HV0 : Hid (VoteAt wr bb oo z.1) := hv0
        obtain ⟨ll, hll⟩ : ∃ ll, (votedL (selB which) sum 7).length = ll := ⟨_, rfl⟩
        have HL0 : Hid ((votedL (selB which) sum 7).length = ll) := hll
        have HW7 : Hid ((wantL (selB which) 7).length ≤ 1000) := by show (wantL (selB which) 7).length ≤ 1000; omega
        obtain ⟨wl, hwl⟩ : ∃ wl, (wantL (selB which) 7).length = wl := ⟨_, rfl⟩
        have HWL : Hid ((wantL (selB which) 7).length = wl) := hwl
        have HOa : Hid (OwnV (wr.alloc (.cells (rowV [z.1]) 26)) w1.heap.size (.slice (some ⟨bb, oo, none⟩) (votedL (selB which) sum 7).length cap) (votedL (selB which) sum 7)) := hO.alloc _
        have HOb : Hid (OwnV wr w1.heap.size (.slice (some ⟨bb, oo, none⟩) (votedL (selB which) sum 7).length cap) (votedL (selB which) sum 7)) := hO
        have HVn : Hid (VotesIn (wr.alloc (.cells (rowV [z.1]) 26)) (some ⟨wr.heap.size, 0, none⟩) 1 [z]) := rowV_in (zs := [z]) (alloc_blk wr (.cells (rowV [z.1]) 26)) (by simp)
        have HSn : Hid (w1.heap.size ≤ (wr.alloc (.cells (rowV [z.1]) 26)).heap.size) := by show w1.heap.size ≤ (wr.heap.push _).size; have := hB.size; simp; omega
        have HNn : Hid ((votedL (selB which) sum 7).length + 1 ≤ 1000) := by show (votedL (selB which) sum 7).length + 1 ≤ 1000; omega
        have HBw : Hid (Below w1.heap.size w1 wr) := hB
        rw [hll] at hpos hlt7 HOa HOb hl1 ⊢
        rw [hwl] at HWI ⊢
        clear hz hzm hll hwl hW hVin hO hB hl2 HLW HW5 hbH hv0 HCX HMEM HLEN
        have hposI : (0 : Int) < (ll : Int) := by omega
        have hltI : (ll : Int) < 7 := by omega
        go_wp2_with (first | (refine wpList_load_vote rfl _ rfl bb oo ?_ z.1 ?_ ?_; rfl; exact HV0.out) | (refine wpList_rowV ?_ 1 _ rfl [z.1] rfl (by decide) (by decide) ?_ ?_; kernel_rfl; kernel_rfl) | (refine wpList_appV rfl _ _ rfl w1.heap.size (.slice (some ⟨bb, oo, none⟩) ll cap) (votedL (selB which) sum 7) ?_ (some ⟨wr.heap.size, 0, none⟩) 1 1 [z] ?_ ?_ ?_ ?_ ?_ ?_ ?_; rfl; rfl; rfl; exact HOa.out; exact HVn.out; exact HNn.out; exact HSn.out))
        intro u4 w4 hO4 hG4
        obtain ⟨lF, hF⟩ : ∃ lF, votedL (selB which) sum 7 ++ [z] = lF := ⟨_, rfl⟩
        rw [hF] at hO4
        obtain ⟨ao4, cap4, rfl, hV4⟩ := hO4.form
        have hBg : Below w1.heap.size w1 w4 := (HBw.out.alloc HBw.out.size _).trans (hG4.below (by have := HBw.out.size; simp; omega) (fun k hk => (HOa.out.lt k hk).1))
        have HWI4 : Hid (OwnI w4 w1.heap.size (.slice uo wl uc) (wantL (selB which) 7)) := HWI.out.same fun k hk => by
          have h1 := (HWI.out.lt k hk).2
          exact (hG4.block k (by simp; omega) (fun e => own_apart HWI.out HOb.out hk e)).trans (Below.heap_alloc _ _ k h1)
        have hbH := (hBg.block _ (lt_blk HH.out)).trans HH.out
        have HCX : Hid (CtxP w rg sum ao4 cap4 lF w4) := ⟨HR.out.below hBg, hashAt_blk hbH, lt_blk hbH, hV4, HB.out.trans (hBg.mono HB.out.size)⟩
        have HMEM : Hid (∀ x, x ∈ lF ↔ x ∈ votedL (selB which) sum 7) := fun x => by
          rw [← hF, List.mem_append, List.mem_singleton]
          exact ⟨fun h => h.elim id (fun e => e ▸ HZM.out), .inl⟩
        have HLEN : Hid (lF.length ≤ 10) := by show lF.length ≤ 10; rw [← hF, List.length_append, HL0.out]; simp; omega
        obtain ⟨l4, hl4⟩ : ∃ l4, lF.length = l4 := ⟨_, rfl⟩
        have HLL : Hid (lF.length = l4) := hl4
        rw [hl4]
        clear HWI
        have HWI := HWI4
        clear HWI4 hl4 hF hO4 hG4 hV4 hBg hbH HOa HOb HVn HSn HNn HBw HV0 HZM
        go_wp2_with (first | (refine wpList_load_hash rfl _ rfl w.heap.size 0 ?_ sum ?_ ?_; rfl; exact HCX.out.hash))
        have H1 := who_any (.pointer (some ⟨rg, 0, none⟩)) ring7 ao4 cap4 lF 1 3 1 sum w4 HCX.out.ring HCX.out.votes
        rw [HLL.out, who_voted (selB which) sum lF HLEN.out HMEM.out] at H1
        refine H1.mono ?_
        clear H1
        rintro x w5 ⟨u5, rfl, hO5, hB5⟩
        have HC5 : Hid _ := HCX.out.below hB5
        have HI5 : Hid _ := HWI.out.below hB5
        have HO5 : Hid _ := hO5
        obtain ⟨xo, xc, rfl⟩ := hO5.len
        rw [HWL.out] at hO5 ⊢
        clear hB5 hO5
        go_wp2_with fail
        have H2 := ints6_same _ _ _ _ _ w5 HO5.out HI5.out HW7.out
        rw [HWL.out] at H2
        refine H2.mono ?_
        clear H2
        rintro x w6 ⟨rfl, q, hq⟩
        have hB6 : Below w5.heap.size w5 w6 := by rw [hq]; exact ⟨rfl, rfl, rfl, Nat.le_refl _, fun _ _ => rfl⟩
        have HC6 : Hid _ := HC5.out.below hB6
        clear hB6 hq HC5 HI5 HO5
        go_wp2_with (first | (refine wpList_load_hashG ?_ _ rfl w.heap.size 0 ?_ sum ?_ ?_; kernel_rfl; rfl; exact HC6.out.hash))
        have H3 := meets_any (.pointer (some ⟨rg, 0, none⟩)) ring7 ao4 cap4 lF 1 3 1 sum w6 HC6.out.ring (by decide) HC6.out.votes
        rw [HLL.out, meets_voted (selB which) sum lF HLEN.out HMEM.out, HWL.out] at H3
        refine H3.mono ?_
        clear H3
        rintro x w7 ⟨rfl, hB7⟩
        have HC7 : Hid _ := HC6.out.below hB7
        rw [show decide (5 ≤ wl) = decide ((5 : Int) ≤ (wl : Int)) by rw [Bool.eq_iff_iff, decide_eq_true_iff, decide_eq_true_iff]; omega]
        clear hB7 HC6
        cases hd5 : decide ((5 : Int) ≤ (wl : Int))
        all_goals
          go_wp2_with (first | (refine wpList_load_hashG ?_ _ rfl w.heap.size 0 ?_ sum ?_ ?_; kernel_rfl; rfl; exact HC7.out.hash))
          have H4 := meets_any (.pointer (some ⟨rg, 0, none⟩)) ring7 ao4 cap4 lF 2 3 1 sum w7 HC7.out.ring (by decide) HC7.out.votes
          rw [HLL.out, meets_other (selB which) sum lF HMEM.out 2 3 1 (by decide)] at H4
          refine H4.mono ?_
          clear H4
          rintro x w8 ⟨rfl, hB8⟩
          have HC8 : Hid _ := HC7.out.below hB8
          clear hB8 HC7
          go_wp2_with (first | (refine wpList_load_hashG ?_ _ rfl w.heap.size 0 ?_ sum ?_ ?_; kernel_rfl; rfl; exact HC8.out.hash))
          have H5 := meets_any (.pointer (some ⟨rg, 0, none⟩)) ring7 ao4 cap4 lF 1 3 2 sum w8 HC8.out.ring (by decide) HC8.out.votes
          rw [HLL.out, meets_other (selB which) sum lF HMEM.out 1 3 2 (by decide)] at H5
          refine H5.mono ?_
          clear H5
          rintro x w9 ⟨rfl, hB9⟩
          have HC9 : Hid _ := HC8.out.below hB9
          clear hB9 HC8
          go_wp2_with (first | (refine wpList_load_hashG ?_ _ rfl w.heap.size 0 ?_ sum ?_ ?_; kernel_rfl; rfl; exact HC9.out.hash))
          have H6 := meets_any (.pointer (some ⟨rg, 0, none⟩)) ring7 ao4 cap4 lF 1 4 1 sum w9 HC9.out.ring (by decide) HC9.out.votes
          rw [HLL.out, meets_other (selB which) sum lF HMEM.out 1 4 1 (by decide)] at H6
          refine H6.mono ?_
          clear H6
          rintro x w10 ⟨rfl, hB10⟩
          have hBe : Below w.heap.size w w10 := (HC9.out.below hB10).bel
          clear hB10 HC9
          go_wp2_with fail
          refine (known6_any w10).mono ?_
          rintro x w11 ⟨rfl, hB11⟩
          have hBf := hBe.trans (hB11.mono hBe.size)
          clear hB11 hBe
          go_wp2_with fail
          go_ret
          exact ⟨rfl, hBf⟩
      · have hno : twice = false ∨ (twice = true ∧ (votedL (selB which) sum 7).length = 0) ∨ (twice = true ∧ 0 < (votedL (selB which) sum 7).length ∧ 7 ≤ (votedL (selB which) sum 7).length) := by
          cases twice
          · exact .inl rfl
          · refine .inr ?_
            by_cases h1 : (votedL (selB which) sum 7).length = 0
            · exact .inl ⟨rfl, h1⟩
            · exact .inr ⟨rfl, by omega, Nat.le_of_not_lt fun h2 => hA ⟨rfl, by omega, h2⟩⟩
        generalize hF : votedL (selB which) sum 7 = lF at *
        obtain ⟨ll, hll⟩ : ∃ ll, lF.length = ll := ⟨_, rfl⟩
        have HLL : Hid (lF.length = ll) := hll
        have HW7 : Hid ((wantL (selB which) 7).length ≤ 1000) := by show (wantL (selB which) 7).length ≤ 1000; omega
        obtain ⟨wl, hwl⟩ : ∃ wl, (wantL (selB which) 7).length = wl := ⟨_, rfl⟩
        have HWL : Hid ((wantL (selB which) 7).length = wl) := hwl
        rw [hll] at hno hl1 hl2 ⊢
        rw [hwl] at hl2 ⊢
        rw [← hF] at HMEM
        have HMEM' : Hid (∀ x, x ∈ lF ↔ x ∈ votedL (selB which) sum 7) := fun x => by rw [hF]
        clear HMEM
        have HMEM := HMEM'
        have HF0 : Hid _ := hF
        clear HMEM' hF hll hwl hW hVin hO hB hA hl2 HLW HW5 hbH
        have hno' : twice = false ∨ (twice = true ∧ ll = 0) ∨ (twice = true ∧ (0 : Int) < (ll : Int) ∧ ¬ ((ll : Int) < 7)) := by
          rcases hno with h | h | h
          · exact .inl h
          · exact .inr (.inl h)
          · exact .inr (.inr ⟨h.1, by omega, by omega⟩)
        clear hno hl1
        rcases hno' with rfl | ⟨rfl, rfl⟩ | ⟨rfl, h2, h3⟩
        all_goals
          go_wp2_with (first | (refine wpList_load_hash rfl _ rfl w.heap.size 0 ?_ sum ?_ ?_; rfl; exact HCX.out.hash))
          have H1 := who_any (.pointer (some ⟨rg, 0, none⟩)) ring7 ao cap lF 1 3 1 sum wr HCX.out.ring HCX.out.votes
          rw [HLL.out, who_voted (selB which) sum lF HLEN.out HMEM.out] at H1
          refine H1.mono ?_
          clear H1
          rintro x w5 ⟨u5, rfl, hO5, hB5⟩
          have HC5 : Hid _ := HCX.out.below hB5
          have HI5 : Hid _ := HWI.out.below hB5
          have HO5 : Hid _ := hO5
          obtain ⟨xo, xc, rfl⟩ := hO5.len
          rw [HWL.out] at hO5 ⊢
          clear hB5 hO5
          go_wp2_with fail
          have H2 := ints6_same _ _ _ _ _ w5 HO5.out HI5.out HW7.out
          rw [HWL.out] at H2
          refine H2.mono ?_
          clear H2
          rintro x w6 ⟨rfl, q, hq⟩
          have hB6 : Below w5.heap.size w5 w6 := by rw [hq]; exact ⟨rfl, rfl, rfl, Nat.le_refl _, fun _ _ => rfl⟩
          have HC6 : Hid _ := HC5.out.below hB6
          clear hB6 hq HC5 HI5 HO5
          go_wp2_with (first | (refine wpList_load_hashG ?_ _ rfl w.heap.size 0 ?_ sum ?_ ?_; kernel_rfl; rfl; exact HC6.out.hash))
          have H3 := meets_any (.pointer (some ⟨rg, 0, none⟩)) ring7 ao cap lF 1 3 1 sum w6 HC6.out.ring (by decide) HC6.out.votes
          rw [HLL.out, meets_voted (selB which) sum lF HLEN.out HMEM.out, HWL.out] at H3
          refine H3.mono ?_
          clear H3
          rintro x w7 ⟨rfl, hB7⟩
          have HC7 : Hid _ := HC6.out.below hB7
          rw [show decide (5 ≤ wl) = decide ((5 : Int) ≤ (wl : Int)) by rw [Bool.eq_iff_iff, decide_eq_true_iff, decide_eq_true_iff]; omega]
          clear hB7 HC6
          cases hd5 : decide ((5 : Int) ≤ (wl : Int))
          all_goals
            go_wp2_with (first | (refine wpList_load_hashG ?_ _ rfl w.heap.size 0 ?_ sum ?_ ?_; kernel_rfl; rfl; exact HC7.out.hash))
            have H4 := meets_any (.pointer (some ⟨rg, 0, none⟩)) ring7 ao cap lF 2 3 1 sum w7 HC7.out.ring (by decide) HC7.out.votes
            rw [HLL.out, meets_other (selB which) sum lF HMEM.out 2 3 1 (by decide)] at H4
            refine H4.mono ?_
            clear H4
            rintro x w8 ⟨rfl, hB8⟩
            have HC8 : Hid _ := HC7.out.below hB8
            clear hB8 HC7
            go_wp2_with (first | (refine wpList_load_hashG ?_ _ rfl w.heap.size 0 ?_ sum ?_ ?_; kernel_rfl; rfl; exact HC8.out.hash))
            have H5 := meets_any (.pointer (some ⟨rg, 0, none⟩)) ring7 ao cap lF 1 3 2 sum w8 HC8.out.ring (by decide) HC8.out.votes
            rw [HLL.out, meets_other (selB which) sum lF HMEM.out 1 3 2 (by decide)] at H5
            refine H5.mono ?_
            clear H5
            rintro x w9 ⟨rfl, hB9⟩
            have HC9 : Hid _ := HC8.out.below hB9
            clear hB9 HC8
            go_wp2_with (first | (refine wpList_load_hashG ?_ _ rfl w.heap.size 0 ?_ sum ?_ ?_; kernel_rfl; rfl; exact HC9.out.hash))
            have H6 := meets_any (.pointer (some ⟨rg, 0, none⟩)) ring7 ao cap lF 1 4 1 sum w9 HC9.out.ring (by decide) HC9.out.votes
            rw [HLL.out, meets_other (selB which) sum lF HMEM.out 1 4 1 (by decide)] at H6
            refine H6.mono ?_
            clear H6
            rintro x w10 ⟨rfl, hB10⟩
            have hBe : Below w.heap.size w w10 := (HC9.out.below hB10).bel
            clear hB10 HC9
            go_wp2_with fail
            refine (known6_any w10).mono ?_
            rintro x w11 ⟨rfl, hB11⟩
            have hBf := hBe.trans (hB11.mono hBe.size)
            clear hB11 hBe
            go_wp2_with fail
            go_ret
            exact ⟨rfl, hBf⟩
end Go.Proofs.Ytenadhpnbihijaa
