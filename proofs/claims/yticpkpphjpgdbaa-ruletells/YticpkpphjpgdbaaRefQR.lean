/- The reference's Meets, of every ring and row of votes. -/
import Derived.Test.YticpkpphjpgdbaaRefP
import Derived.Test.YticpkpphjpgdbaaRefG
import Derived.Test.YticpkpphjpgdbaaCertV
namespace Go.Proofs.Yticpkpphjpgdbaa
open Go.RowKit Go.Dig Go.Sha Go.Inv Go.Oct

/-- what Good's line leaves, operation by operation -/
def rgoodSpec (pr : Value) (b : Nat) (x : VoteR) (R : RingO) : Nat → Value → World → Prop
  | 0, y, _ => y = pr
  | 1, y, _ => y = .pointer (some ⟨b, 35, none⟩)
  | 2, y, _ => y = .int .i64 x.f
  | 3, y, _ => y = .agg x.cells
  | 4, y, W => ∃ ao cap, y = .slice ao (vbody x).length cap ∧ Rowed W ao (vbody x) cap
  | 5, y, _ => y = .pointer (some ⟨b, 36, none⟩)
  | 6, y, _ => y = .agg (row .u8 32 x.tag)
  | 7, y, _ => y = .bool (checkR R x.f (vbody x) x.tag)
  | 8, y, _ => y = .bool (checkR R x.f (vbody x) x.tag)
  | _, _, _ => True
set_option maxRecDepth 10000 in
set_option maxHeartbeats 1000000 in
theorem rGood_any (rg n : Nat) (seed : Nat → Int) (x : VoteR) (w : World) (h : RRing w rg seed n) (hx : x.wf) : Calls Try.prog 59 #[.pointer (some ⟨rg, 0, none⟩), .agg x.cells] w fun e w' => e = .returned (.bool (goodR (some (seed, n)) x)) ∧ Below w.heap.size w w' := by
  have HR : Hid (RRing w rg seed n) := h
  clear h
  have hA := alloc_blk w (.cells x.cells 51)
  have hBw := below_alloc w (.cells x.cells 51)
  go_enter Try.func59, Try.ntmps59
  go_wp2_with (refine wpList_box_row rfl 51 _ rfl _ rfl ?_)
  generalize w.alloc (.cells x.cells 51) = w1 at *
  have HA : Hid (VoteAt w1 w.heap.size 0 x) := voteAt_blk hA
  have hlt : w.heap.size < w1.heap.size := lt_blk hA
  have HA0 : Hid (w1.heap[w.heap.size]? = some (.cells x.cells 51 (0, 0))) := hA
  clear hA
  refine wp_region_growG (by kernel_rfl) (by kernel_rfl) (fun xs => { tmps := (.pointer (some ⟨rg, 0, none⟩) :: .agg x.cells :: undef :: .pointer (some ⟨w.heap.size, 0, none⟩) :: xs 8 :: xs 0 :: xs 1 :: xs 2 :: xs 3 :: xs 4 :: xs 5 :: xs 6 :: xs 7 :: []).toArray, defers := [] })
    (rgoodSpec (.pointer (some ⟨rg, 0, none⟩)) w.heap.size x (some (seed, n))) (fun | 8 => .bool false | _ => undef) (by repeat (first | exact trivial | refine ⟨fun _ _ => rfl, ?_⟩))
    (by
      intro i y w w' h hs
      unfold rgoodSpec at *
      split at hs <;> first | exact hs | exact trivial | (obtain ⟨ao, cap, e, hl⟩ := hs; exact ⟨ao, cap, e, hl.below h (Nat.le_refl _)⟩)) ⟨?_, ?_, ?_, ?_, ?_, ?_, ?_, ?_, ?_, trivial⟩ ?_
  · intro xs W hB hp K hK
    rw [if_pos (wanted_none rfl _)]
    go_simp
    exact hK _ _ (Below.refl _ _) rfl
  · intro xs W hB hp K hK
    rw [if_pos (wanted_none rfl _)]
    go_simp
    exact hK _ _ (Below.refl _ _) rfl
  · intro xs W hB hp K hK
    have h1 : xs 1 = .pointer (some ⟨w.heap.size, 35, none⟩) := hp.1 rfl
    have hc : W.cell? ⟨w.heap.size, 35, none⟩ = some (.int .i64 x.f) := (cell_blk ((hB.block _ hlt).trans HA0.out) _).trans x.at35
    clear hp
    rw [if_pos (wanted_none rfl _)]
    simp only [h1] at hK ⊢
    go_simp
    exact hK _ _ (Below.refl _ _) rfl
  · intro xs W hB hp K hK
    rw [if_pos (wanted_none rfl _)]
    exact wp_load_vote _ rfl w.heap.size 0 rfl x (HA.out.same (hB.block _ hlt)) (hK _ _ (Below.refl _ _) rfl)
  · intro xs W hB hp K hK
    have h3 : xs 3 = .agg x.cells := hp.1 rfl
    clear hp
    rw [if_pos (wanted_none rfl _)]
    simp only [h3] at hK ⊢
    go_simp
    refine (rVoteBody_any x W hx).mono ?_
    rintro e w' ⟨ao, cap, rfl, hl, hc, hB'⟩
    exact hK _ _ hB' ⟨ao, cap, rfl, hl⟩
  · intro xs W hB hp K hK
    rw [if_pos (wanted_none rfl _)]
    go_simp
    exact hK _ _ (Below.refl _ _) rfl
  · intro xs W hB hp K hK
    have h5 : xs 5 = .pointer (some ⟨w.heap.size, 36, none⟩) := hp.1 rfl
    clear hp
    rw [if_pos (wanted_none rfl _)]
    refine wp_load_hash _ rfl w.heap.size 36 ?_ x.tag ?_ (hK _ _ (Below.refl _ _) rfl)
    · show xs 5 = _; exact h5
    · have := (HA.out.same (hB.block _ hlt)).tag
      rwa [Nat.zero_add] at this
  · intro xs W hB hp K hK
    have h0 : xs 0 = .pointer (some ⟨rg, 0, none⟩) := hp.1 rfl
    have h2 : xs 2 = .int .i64 x.f := hp.2.1 rfl
    obtain ⟨ao, cap, h4, hl⟩ : ∃ ao cap, xs 4 = .slice ao (vbody x).length cap ∧ Rowed W ao (vbody x) cap := hp.2.2.1 rfl
    have h6 : xs 6 = .agg (row .u8 32 x.tag) := hp.2.2.2.1 rfl
    clear hp
    rw [if_pos (wanted_none rfl _)]
    simp only [h0, h2, h4, h6] at hK ⊢
    clear h0 h2 h4 h6
    go_simp
    refine (rCheck_any rg n seed x.f (vbody x) ao cap x.tag W (HR.out.below (hBw.trans (hB.mono hBw.size))) hl (by have := vbody_length x; omega)).mono ?_
    rintro e w' ⟨rfl, hB'⟩
    exact hK _ _ hB' rfl
  · intro xs W hB hp K hK
    have h7 : xs 7 = .bool (checkR (some (seed, n)) x.f (vbody x) x.tag) := hp.1 rfl
    clear hp
    rw [if_pos (wanted_none rfl _)]
    simp only [h7] at hK ⊢
    go_simp
    exact hK _ _ (Below.refl _ _) rfl
  · intro xs W hB hs
    have h8 : xs 8 = .bool (checkR (some (seed, n)) x.f (vbody x) x.tag) := hs 8 (by simp)
    simp only [h8]
    go_wp2_with fail
    go_ret
    exact ⟨rfl, hBw.trans (hB.mono hBw.size)⟩
theorem rise_ext : ∀ {L M : List Int}, Rise L → Rise M → (∀ x, x ∈ L ↔ x ∈ M) → L = M
  | [], [], _, _, _ => rfl
  | [], m :: t, _, _, h => absurd ((h m).2 (by simp)) (by simp)
  | l :: t, [], _, _, h => absurd ((h l).1 (by simp)) (by simp)
  | l :: s, m :: t, hL, hM, h => by
    have hl := List.pairwise_cons.1 hL
    have hm := List.pairwise_cons.1 hM
    have e : l = m := by
      rcases List.mem_cons.1 ((h l).1 (by simp)) with e | e
      · exact e
      · rcases List.mem_cons.1 ((h m).2 (by simp)) with e' | e'
        · exact e'.symm
        · have := hl.1 m e'; have := hm.1 l e; omega
    subst e
    rw [rise_ext hl.2 hm.2 (fun x => ?_)]
    refine ⟨fun hx => ?_, fun hx => ?_⟩
    · rcases List.mem_cons.1 ((h x).1 (by simp [hx])) with rfl | e
      · exact absurd (hl.1 x hx) (by omega)
      · exact e
    · rcases List.mem_cons.1 ((h x).2 (by simp [hx])) with rfl | e
      · exact absurd (hm.1 x hx) (by omega)
      · exact e
/-- is it a vote of node i that counts? -/
def hitB (R : RingO) (k s v : Int) (sum : Nat → Int) (i : Nat) (x : VoteW) : Bool := decide (x.1.f = (i : Int)) && askedB k s v sum x.1 && goodR R x.1
def seenB (R : RingO) (k s v : Int) (sum : Nat → Int) (i : Nat) (ys : List VoteW) : Bool := ys.any (hitB R k s v sum i)
def whoR (R : RingO) (k s v : Int) (sum : Nat → Int) (ys : List VoteW) : Nat → List Int
  | 0 => []
  | i + 1 => if seenB R k s v sum i (ys.take 10) then whoR R k s v sum ys i ++ [(i : Int)] else whoR R k s v sum ys i
theorem whoR_mem {R : RingO} {k s v : Int} {sum : Nat → Int} {ys : List VoteW} {x : Int} : ∀ n, x ∈ whoR R k s v sum ys n ↔ ∃ i : Nat, i < n ∧ x = (i : Int) ∧ seenB R k s v sum i (ys.take 10) = true
  | 0 => by simp [whoR]
  | n + 1 => by
    have ih := whoR_mem (R := R) (k := k) (s := s) (v := v) (sum := sum) (ys := ys) (x := x) n
    unfold whoR
    split
    · rename_i h
      rw [List.mem_append, ih, List.mem_singleton]
      refine ⟨fun hx => ?_, fun ⟨i, h1, h2, h3⟩ => ?_⟩
      · rcases hx with ⟨i, h1, h2, h3⟩ | h3
        · exact ⟨i, by omega, h2, h3⟩
        · exact ⟨n, by omega, h3, h⟩
      · by_cases e : i = n
        · subst e; exact .inr h2
        · exact .inl ⟨i, by omega, h2, h3⟩
    · rename_i h
      rw [ih]
      refine ⟨fun ⟨i, h1, h2, h3⟩ => ⟨i, by omega, h2, h3⟩, fun ⟨i, h1, h2, h3⟩ => ⟨i, ?_, h2, h3⟩⟩
      by_cases e : i = n
      · subst e; exact absurd h3 h
      · omega
theorem whoR_rise {R : RingO} {k s v : Int} {sum : Nat → Int} {ys : List VoteW} : ∀ n, Rise (whoR R k s v sum ys n)
  | 0 => List.Pairwise.nil
  | n + 1 => by
    have ih := whoR_rise (R := R) (k := k) (s := s) (v := v) (sum := sum) (ys := ys) n
    unfold whoR
    split
    · refine List.pairwise_append.2 ⟨ih, List.pairwise_singleton _ _, fun x hx y hy => ?_⟩
      obtain ⟨i, h1, rfl, _⟩ := (whoR_mem n).1 hx
      rw [List.mem_singleton] at hy
      omega
    · exact ih
theorem whoR_length {R : RingO} {k s v : Int} {sum : Nat → Int} {ys : List VoteW} : ∀ n, (whoR R k s v sum ys n).length ≤ n
  | 0 => Nat.le_refl _
  | n + 1 => by
    have ih := whoR_length (R := R) (k := k) (s := s) (v := v) (sum := sum) (ys := ys) n
    unfold whoR
    split
    · rw [List.length_append]; simp; omega
    · omega
/-- who has a good vote is a node -/
theorem good_has {seed : Nat → Int} {n : Nat} {x : VoteR} (h : goodR (some (seed, n)) x = true) : 0 ≤ x.f ∧ x.f < (n : Int) := by
  have h' : checkB seed n x.f (vbody x) x.tag = true := h
  unfold checkB at h'
  have hb : hasB n x.f = true := by
    cases e : hasB n x.f with
    | true => rfl
    | false => rw [e] at h'; simp at h'
  unfold hasB at hb
  exact of_decide_eq_true hb
/-- the document's Who is the code's -/
theorem whoR_whoL (seed : Nat → Int) (n : Nat) (k s v : Int) (sum : Nat → Int) (ys : List VoteW) : whoR (some (seed, n)) k s v sum ys n = whoL (some (seed, n)) (toldL k s v sum ys) := by
  refine rise_ext (whoR_rise n) (whoL_rise _ _ _ List.Pairwise.nil) fun x => ?_
  unfold whoL
  rw [whoR_mem, whoL_mem]
  constructor
  · rintro ⟨i, h1, rfl, h3⟩
    obtain ⟨y, hy, hh⟩ := List.any_eq_true.1 h3
    unfold hitB at hh
    rw [Bool.and_eq_true, Bool.and_eq_true] at hh
    refine .inr ⟨y, List.mem_filter.2 ⟨hy, hh.1.2⟩, (of_decide_eq_true hh.1.1).symm, hh.2⟩
  · rintro (h | ⟨y, hy, rfl, hg⟩)
    · cases h
    · obtain ⟨h0, h1⟩ := good_has hg
      obtain ⟨hm, ha⟩ := List.mem_filter.1 hy
      refine ⟨y.1.f.toNat, by omega, by omega, List.any_eq_true.2 ⟨y, hm, ?_⟩⟩
      unfold hitB
      rw [Bool.and_eq_true, Bool.and_eq_true]
      exact ⟨⟨decide_eq_true (by omega), ha⟩, hg⟩
theorem seen_succ (R : RingO) (k s v : Int) (sum : Nat → Int) (i : Nat) (ys : List VoteW) {j : Nat} (h : j < ys.length) : seenB R k s v sum i (ys.take (j + 1)) = (seenB R k s v sum i (ys.take j) || hitB R k s v sum i ys[j]) := by
  unfold seenB
  rw [List.take_add_one, List.getElem?_eq_getElem h, List.any_append]
  simp
theorem seen_more {R : RingO} {k s v : Int} {sum : Nat → Int} {i : Nat} {ys : List VoteW} {j : Nat} (hj : j ≤ 10) (h : seenB R k s v sum i (ys.take j) = true) : seenB R k s v sum i (ys.take 10) = true := by
  unfold seenB at *
  obtain ⟨y, hy, hh⟩ := List.any_eq_true.1 h
  refine List.any_eq_true.2 ⟨y, ?_, hh⟩
  rw [show ys.take j = (ys.take 10).take j by rw [List.take_take, Nat.min_eq_left hj]] at hy
  exact List.mem_of_mem_take hy
theorem info_intN : (Try.prog.info? 3).map (fun i => (i.zero, i.size, i.bytes)) = some (some (.int .i64 0), 1, 8) := by kernel_rfl
section
variable {ops : Array Oper} {rest : List Oper} {o : Oper} {a : Act} {w : World} {Q : Exit → Act → World → Prop}
theorem wpList_appN (hgd : o.guard = none) (s x : Operand) (ho : o.op = .call { callee := .builtin .append, args := #[s, x], argTypes := #[73, 73] }) (base : Nat) (v : Value) (L : List Int) (hs : a.eval s = v) (g0 : Nat) (y : Int) (hx : a.eval x = .slice (some ⟨g0, 0, none⟩) 1 1)
    (hown : OwnI w base v L) (hc : w.cell? ⟨g0, 0, none⟩ = some (.int .i64 y)) (hb : L.length ≤ 1000) (hbase : base ≤ w.heap.size)
    (h : ∀ v' w', OwnI w' base v' (L ++ [y]) → Gr w w' v v' → wpList Try.prog ops Q rest (a.put o.dst v') w') : wpList Try.prog ops Q (o :: rest) a w := by
  obtain ⟨i8, hi, hz0, hz1, hz2⟩ := info_parts info_intN
  obtain ⟨v', w', hr, h1, hg, _, h5⟩ := run_append_own_at (P := Try.prog) w base 73 o.type 3 i8 (.int .i64 0) 1 8 (by kernel_rfl) hi hz0 hz1 hz2 rfl (by omega) v L.length _ hown ⟨g0, 0, none⟩ 1 1 [.int .i64 y] rfl (fun j u hu => by
    match j, hu with
    | 0, hu => rw [addr_add]; simp at hu; subst hu; exact hc
    | j + 1, hu => simp at hu) (by simp [Value.oneCell']) (by unfold maxLen; omega) (by omega) hbase
  refine wpList_plain hgd fun K hK' => ?_
  unfold Oper.wp
  simp [execOp, ho, resolve, invoke, builtin, hs, hx, hr, Result.andThen]
  refine hK' _ _ (h v' w' ?_ ⟨hg.os, hg.tape, hg.output, hg.size, fun k hk hne => hg.block k hk (fun e => hne e.symm), fun k hk => ?_⟩)
  · unfold OwnI
    rw [List.map_append, List.length_append]; exact h1
  · rcases h5 with h5 | h5
    · exact .inl (h5.symm.trans hk)
    · rw [h5] at hk; cases hk; exact .inr (Nat.le_refl _)
end
set_option maxRecDepth 10000 in
set_option maxHeartbeats 8000000 in
theorem rWho_any (rg n : Nat) (seed : Nat → Int) (ao : Option Addr) (cap : Nat) (ys : List VoteW) (k s v : Int) (sum : Nat → Int) (w : World) (hX : RRing w rg seed n) (hn : n ≤ 10) (hV : VotesIn w ao cap ys) :
    Calls Try.prog 43 #[.pointer (some ⟨rg, 0, none⟩), .slice ao ys.length cap, .int .i64 k, .int .i64 s, .int .i64 v, .agg (row .u8 32 sum)] w fun e w' => ∃ u, e = .returned u ∧ OwnI w' w.heap.size u (whoR (some (seed, n)) k s v sum ys n) ∧ Below w.heap.size w w' := by
  have HX : Hid (RRing w rg seed n) := hX
  have HV : Hid (VotesIn w ao cap ys) := hV
  have HA : Hid (HashAt (w.alloc (.cells (row .u8 32 sum) 30)) w.heap.size 0 sum) := hashAt_blk (alloc_blk _ _)
  have hB0 := below_alloc w (.cells (row .u8 32 sum) 30)
  have hz0 : w.heap.size < (w.alloc (.cells (row .u8 32 sum) 30)).heap.size := by simp
  obtain ⟨kg, kc, hr0, hrest⟩ := hX
  have HR0 : Hid (w.heap[rg]? = some (.cells #[.slice (some ⟨kg, 0, none⟩) n kc] 62 (0, 0))) := hr0
  obtain ⟨W, HW⟩ : ∃ W : Nat → List Int, Hid (W = whoR (some (seed, n)) k s v sum ys) := ⟨_, rfl⟩
  have HW0 : Hid (W 0 = []) := by show _ = _; rw [HW.out]; rfl
  have HWs : Hid (∀ i, W (i + 1) = if seenB (some (seed, n)) k s v sum i (ys.take 10) then W i ++ [(i : Int)] else W i) := fun i => by rw [HW.out]; rfl
  have HWl : Hid (∀ i, (W i).length ≤ i) := fun i => by rw [HW.out]; exact whoR_length i
  rw [← HW.out]
  clear hV hr0 hrest
  go_enter Try.func43, Try.ntmps43
  go_wp2_with (refine wpList_box_row rfl 30 _ rfl _ rfl ?_)
  go_loopw [13, 14] (fun rv nv wr => ∃ i : Nat, i ≤ n ∧ nv = .int .i64 (i : Int) ∧ Hid (OwnI wr (w.heap.size + 1) rv (W i)) ∧ Below w.heap.size w wr ∧ Hid (HashAt wr w.heap.size 0 sum) ∧ w.heap.size < wr.heap.size) (fun _ nv _ => n - (intOf nv).toNat)
  case atStart => exact ⟨0, Nat.zero_le _, rfl, by show OwnI _ _ _ _; rw [HW0.out]; exact OwnI.nil _ _, hB0, HA, hz0⟩
  case round =>
    clear hB0 HA hz0
    obtain ⟨i, hi, rfl, HO, hB, HA, hz⟩ := hrel
    obtain ⟨oa, on, oc, rfl⟩ := HO.out.form
    have hcr : wr.cell? ⟨rg, 0, none⟩ = some (.slice (some ⟨kg, 0, none⟩) n kc) := (cell_blk ((hB.block rg (lt_blk HR0.out)).trans HR0.out) 0).trans rfl
    by_cases hlt : i < n
    · have hlt' : (i : Int) < (n : Int) := by omega
      have HS0 : Hid (false = seenB (some (seed, n)) k s v sum i (ys.take 0)) := by show _ = _; simp [seenB]
      go_wp2_with fail
      clear hcr
      go_loopw [15, 16] (fun fv jv wq => ∃ (j : Nat) (f : Bool), j ≤ ys.length ∧ j ≤ 10 ∧ fv = .bool f ∧ jv = .int .i64 (j : Int) ∧ Hid (f = seenB (some (seed, n)) k s v sum i (ys.take j)) ∧ Hid (OwnI wq (w.heap.size + 1) (.slice oa on oc) (W i)) ∧ Below w.heap.size w wq ∧ Hid (HashAt wq w.heap.size 0 sum) ∧ w.heap.size < wq.heap.size) (fun _ jv _ => 10 - (intOf jv).toNat)
      case atStart => exact ⟨0, false, Nat.zero_le _, by omega, rfl, rfl, HS0, HO, hB, HA, hz⟩
      case round =>
        clear HO hB HA hz HS0
        obtain ⟨j, f, hj1, hj2, rfl, rfl, HF, HO, hB, HA, hz⟩ := hrel
        have hway : (j < ys.length ∧ j < 10 ∧ f = false) ∨ (f = true ∧ j < ys.length ∧ j < 10) ∨ (f = true ∧ ¬ j < ys.length) ∨ (f = true ∧ j < ys.length ∧ ¬ j < 10) ∨ (f = false ∧ ¬ j < ys.length) ∨ (f = false ∧ j < ys.length ∧ ¬ j < 10) := by
          by_cases a1 : j < ys.length
          · by_cases a2 : j < 10
            · cases f
              · exact .inl ⟨a1, a2, rfl⟩
              · exact .inr (.inl ⟨rfl, a1, a2⟩)
            · cases f
              · exact .inr (.inr (.inr (.inr (.inr ⟨rfl, a1, a2⟩))))
              · exact .inr (.inr (.inr (.inl ⟨rfl, a1, a2⟩)))
          · cases f
            · exact .inr (.inr (.inr (.inr (.inl ⟨rfl, a1⟩))))
            · exact .inr (.inr (.inl ⟨rfl, a1⟩))
        rcases hway with ⟨h1, h2, rfl⟩ | ⟨rfl, h1, h2⟩ | ⟨rfl, h1⟩ | ⟨rfl, h1, h2⟩ | ⟨rfl, h1⟩ | ⟨rfl, h1, h2⟩
        · have h1' : (j : Int) < (ys.length : Int) := by omega
          have h2' : (j : Int) < 10 := by omega
          have hs := seen_succ (some (seed, n)) k s v sum i ys h1
          rw [← HF.out, Bool.false_or] at hs
          have HSS : Hid _ := hs
          have hVr := HV.out.below hB
          obtain ⟨b, o, rfl, hva⟩ := hVr.at_ j h1
          obtain ⟨y, hy⟩ : ∃ y, ys[j] = y := ⟨_, rfl⟩
          rw [hy] at hva HSS
          have HVA : Hid (VoteAt wr b (o + j * 68) y.1) := hva
          have hblk := alloc_blk wr (.cells y.1.cells 51)
          have hB1 := below_alloc wr (.cells y.1.cells 51)
          have HV1 : Hid (VoteAt (wr.alloc (.cells y.1.cells 51)) wr.heap.size 0 y.1) := voteAt_blk hblk
          have c35 : (wr.alloc (.cells y.1.cells 51)).cell? ⟨wr.heap.size, 35, none⟩ = some (.int .i64 y.1.f) := (cell_blk hblk _).trans y.1.at35
          have c0 : (wr.alloc (.cells y.1.cells 51)).cell? ⟨wr.heap.size, 0, none⟩ = some (.int .i64 y.1.k) := (cell_blk hblk _).trans y.1.at0
          have c1 : (wr.alloc (.cells y.1.cells 51)).cell? ⟨wr.heap.size, 1, none⟩ = some (.int .i64 y.1.s) := (cell_blk hblk _).trans y.1.at1
          have c2 : (wr.alloc (.cells y.1.cells 51)).cell? ⟨wr.heap.size, 2, none⟩ = some (.int .i64 y.1.v) := (cell_blk hblk _).trans y.1.at2
          have HSU : Hid (HashAt (wr.alloc (.cells y.1.cells 51)) wr.heap.size 3 y.1.sum) := by have := (voteAt_blk hblk).sum; rwa [Nat.zero_add] at this
          have HA1 : Hid (HashAt (wr.alloc (.cells y.1.cells 51)) w.heap.size 0 sum) := HA.out.same (hB1.block _ hz)
          have HX1 : Hid (RRing (wr.alloc (.cells y.1.cells 51)) rg seed n) := (HX.out.below hB).below hB1
          have hB2 : Below w.heap.size w (wr.alloc (.cells y.1.cells 51)) := hB.trans (hB1.mono hB.size)
          have HO1 : Hid (OwnI (wr.alloc (.cells y.1.cells 51)) (w.heap.size + 1) (.slice oa on oc) (W i)) := HO.out.alloc _
          have hz1 : w.heap.size < (wr.alloc (.cells y.1.cells 51)).heap.size := by simp; omega
          have heq := equalIn_hash y.1.sum sum
          clear hs hVr hva hblk hB1 HO HA hB hz hy
          have hmiss : (¬ y.1.f = (i : Int)) ∨ (y.1.f = (i : Int) ∧ ¬ y.1.k = k) ∨ (y.1.f = (i : Int) ∧ y.1.k = k ∧ ¬ y.1.s = s) ∨ (y.1.f = (i : Int) ∧ y.1.k = k ∧ y.1.s = s ∧ ¬ y.1.v = v) ∨ (y.1.f = (i : Int) ∧ y.1.k = k ∧ y.1.s = s ∧ y.1.v = v) := by
            by_cases q1 : y.1.f = (i : Int)
            · by_cases q2 : y.1.k = k
              · by_cases q3 : y.1.s = s
                · by_cases q4 : y.1.v = v
                  · exact .inr (.inr (.inr (.inr ⟨q1, q2, q3, q4⟩)))
                  · exact .inr (.inr (.inr (.inl ⟨q1, q2, q3, q4⟩)))
                · exact .inr (.inr (.inl ⟨q1, q2, q3⟩))
              · exact .inr (.inl ⟨q1, q2⟩)
            · exact .inl q1
          rcases hmiss with q1 | ⟨q1, q2⟩ | ⟨q1, q2, q3⟩ | ⟨q1, q2, q3, q4⟩ | ⟨q1, q2, q3, q4⟩
          · have HH : Hid (hitB (some (seed, n)) k s v sum i y = false) := by show _ = _; unfold hitB askedB; simp [q1]
            rw [HH.out] at HSS
            have bq1 : (y.1.f == (i : Int)) = false := by rw [beq_eq_false_iff_ne]; exact q1
            clear q1
            go_wp2_with (first | (refine wpList_load_vote rfl _ rfl b (o + j * 68) ?_ y.1 ?_ ?_; rfl; exact HVA.out) | (refine wpList_alloc_vote rfl rfl ?_) | (refine wpList_store_vote rfl _ _ rfl wr y.1 ?_ ?_ ?_ ?_; rfl; rfl; rfl) | (refine wpList_load_hashG ?_ _ rfl wr.heap.size 3 ?_ y.1.sum ?_ ?_; kernel_rfl; rfl; exact HSU.out) | (refine wpList_load_hashG ?_ _ rfl w.heap.size 0 ?_ sum ?_ ?_; kernel_rfl; rfl; exact HA1.out) | (refine wpList_load_voteG ?_ _ rfl wr.heap.size 0 ?_ y.1 ?_ ?_; kernel_rfl; rfl; exact HV1.out))
            go_roundw
            case rel => exact ⟨j + 1, false, by omega, by omega, rfl, by go_num, (by show _ = _; exact HSS.out.symm), HO1, hB2, HA1, hz1⟩
            case measure => simp [intOf]; omega
          · have HH : Hid (hitB (some (seed, n)) k s v sum i y = false) := by show _ = _; unfold hitB askedB; simp [q1, q2]
            rw [HH.out] at HSS
            have bq1 : (y.1.f == (i : Int)) = true := by rw [beq_iff_eq]; exact q1
            have bq2 : (y.1.k == k) = false := by rw [beq_eq_false_iff_ne]; exact q2
            clear q1 q2
            go_wp2_with (first | (refine wpList_load_vote rfl _ rfl b (o + j * 68) ?_ y.1 ?_ ?_; rfl; exact HVA.out) | (refine wpList_alloc_vote rfl rfl ?_) | (refine wpList_store_vote rfl _ _ rfl wr y.1 ?_ ?_ ?_ ?_; rfl; rfl; rfl) | (refine wpList_load_hashG ?_ _ rfl wr.heap.size 3 ?_ y.1.sum ?_ ?_; kernel_rfl; rfl; exact HSU.out) | (refine wpList_load_hashG ?_ _ rfl w.heap.size 0 ?_ sum ?_ ?_; kernel_rfl; rfl; exact HA1.out) | (refine wpList_load_voteG ?_ _ rfl wr.heap.size 0 ?_ y.1 ?_ ?_; kernel_rfl; rfl; exact HV1.out))
            go_roundw
            case rel => exact ⟨j + 1, false, by omega, by omega, rfl, by go_num, (by show _ = _; exact HSS.out.symm), HO1, hB2, HA1, hz1⟩
            case measure => simp [intOf]; omega
          · have HH : Hid (hitB (some (seed, n)) k s v sum i y = false) := by show _ = _; unfold hitB askedB; simp [q1, q2, q3]
            rw [HH.out] at HSS
            have bq1 : (y.1.f == (i : Int)) = true := by rw [beq_iff_eq]; exact q1
            have bq2 : (y.1.k == k) = true := by rw [beq_iff_eq]; exact q2
            have bq3 : (y.1.s == s) = false := by rw [beq_eq_false_iff_ne]; exact q3
            clear q1 q2 q3
            go_wp2_with (first | (refine wpList_load_vote rfl _ rfl b (o + j * 68) ?_ y.1 ?_ ?_; rfl; exact HVA.out) | (refine wpList_alloc_vote rfl rfl ?_) | (refine wpList_store_vote rfl _ _ rfl wr y.1 ?_ ?_ ?_ ?_; rfl; rfl; rfl) | (refine wpList_load_hashG ?_ _ rfl wr.heap.size 3 ?_ y.1.sum ?_ ?_; kernel_rfl; rfl; exact HSU.out) | (refine wpList_load_hashG ?_ _ rfl w.heap.size 0 ?_ sum ?_ ?_; kernel_rfl; rfl; exact HA1.out) | (refine wpList_load_voteG ?_ _ rfl wr.heap.size 0 ?_ y.1 ?_ ?_; kernel_rfl; rfl; exact HV1.out))
            go_roundw
            case rel => exact ⟨j + 1, false, by omega, by omega, rfl, by go_num, (by show _ = _; exact HSS.out.symm), HO1, hB2, HA1, hz1⟩
            case measure => simp [intOf]; omega
          · have HH : Hid (hitB (some (seed, n)) k s v sum i y = false) := by show _ = _; unfold hitB askedB; simp [q1, q2, q3, q4]
            rw [HH.out] at HSS
            have bq1 : (y.1.f == (i : Int)) = true := by rw [beq_iff_eq]; exact q1
            have bq2 : (y.1.k == k) = true := by rw [beq_iff_eq]; exact q2
            have bq3 : (y.1.s == s) = true := by rw [beq_iff_eq]; exact q3
            have bq4 : (y.1.v == v) = false := by rw [beq_eq_false_iff_ne]; exact q4
            clear q1 q2 q3 q4
            go_wp2_with (first | (refine wpList_load_vote rfl _ rfl b (o + j * 68) ?_ y.1 ?_ ?_; rfl; exact HVA.out) | (refine wpList_alloc_vote rfl rfl ?_) | (refine wpList_store_vote rfl _ _ rfl wr y.1 ?_ ?_ ?_ ?_; rfl; rfl; rfl) | (refine wpList_load_hashG ?_ _ rfl wr.heap.size 3 ?_ y.1.sum ?_ ?_; kernel_rfl; rfl; exact HSU.out) | (refine wpList_load_hashG ?_ _ rfl w.heap.size 0 ?_ sum ?_ ?_; kernel_rfl; rfl; exact HA1.out) | (refine wpList_load_voteG ?_ _ rfl wr.heap.size 0 ?_ y.1 ?_ ?_; kernel_rfl; rfl; exact HV1.out))
            go_roundw
            case rel => exact ⟨j + 1, false, by omega, by omega, rfl, by go_num, (by show _ = _; exact HSS.out.symm), HO1, hB2, HA1, hz1⟩
            case measure => simp [intOf]; omega
          · have HFA : Hid (y.1.f = (i : Int) ∧ y.1.k = k ∧ y.1.s = s ∧ y.1.v = v) := ⟨q1, q2, q3, q4⟩
            have bq1 : (y.1.f == (i : Int)) = true := by rw [beq_iff_eq]; exact q1
            have bq2 : (y.1.k == k) = true := by rw [beq_iff_eq]; exact q2
            have bq3 : (y.1.s == s) = true := by rw [beq_iff_eq]; exact q3
            have bq4 : (y.1.v == v) = true := by rw [beq_iff_eq]; exact q4
            clear q1 q2 q3 q4
            cases e5 : rowEq 32 y.1.sum sum
            · have HH : Hid (hitB (some (seed, n)) k s v sum i y = false) := by show _ = _; unfold hitB askedB; rw [e5]; simp
              rw [HH.out] at HSS
              rw [e5] at heq
              go_wp2_with (first | (refine wpList_load_vote rfl _ rfl b (o + j * 68) ?_ y.1 ?_ ?_; rfl; exact HVA.out) | (refine wpList_alloc_vote rfl rfl ?_) | (refine wpList_store_vote rfl _ _ rfl wr y.1 ?_ ?_ ?_ ?_; rfl; rfl; rfl) | (refine wpList_load_hashG ?_ _ rfl wr.heap.size 3 ?_ y.1.sum ?_ ?_; kernel_rfl; rfl; exact HSU.out) | (refine wpList_load_hashG ?_ _ rfl w.heap.size 0 ?_ sum ?_ ?_; kernel_rfl; rfl; exact HA1.out) | (refine wpList_load_voteG ?_ _ rfl wr.heap.size 0 ?_ y.1 ?_ ?_; kernel_rfl; rfl; exact HV1.out))
              go_roundw
              case rel => exact ⟨j + 1, false, by omega, by omega, rfl, by go_num, (by show _ = _; exact HSS.out.symm), HO1, hB2, HA1, hz1⟩
              case measure => simp [intOf]; omega
            · have HH : Hid (hitB (some (seed, n)) k s v sum i y = goodR (some (seed, n)) y.1) := by show _ = _; unfold hitB askedB; obtain ⟨a1, a2, a3, a4⟩ := HFA.out; rw [e5, a1, a2, a3, a4]; simp
              rw [HH.out] at HSS
              rw [e5] at heq
              go_wp2_with (first | (refine wpList_load_vote rfl _ rfl b (o + j * 68) ?_ y.1 ?_ ?_; rfl; exact HVA.out) | (refine wpList_alloc_vote rfl rfl ?_) | (refine wpList_store_vote rfl _ _ rfl wr y.1 ?_ ?_ ?_ ?_; rfl; rfl; rfl) | (refine wpList_load_hashG ?_ _ rfl wr.heap.size 3 ?_ y.1.sum ?_ ?_; kernel_rfl; rfl; exact HSU.out) | (refine wpList_load_hashG ?_ _ rfl w.heap.size 0 ?_ sum ?_ ?_; kernel_rfl; rfl; exact HA1.out) | (refine wpList_load_voteG ?_ _ rfl wr.heap.size 0 ?_ y.1 ?_ ?_; kernel_rfl; rfl; exact HV1.out))
              refine (rGood_any rg n seed y.1 _ HX1.out y.2).mono ?_
              rintro e w5 ⟨rfl, hB5⟩
              have HO5 : Hid (OwnI w5 (w.heap.size + 1) (.slice oa on oc) (W i)) := HO1.out.below hB5
              have HA5 : Hid (HashAt w5 w.heap.size 0 sum) := HA1.out.same (hB5.block _ hz1)
              have hB6 : Below w.heap.size w w5 := hB2.trans (hB5.mono hB2.size)
              have hz5 : w.heap.size < w5.heap.size := Nat.lt_of_lt_of_le hz1 hB5.size
              clear hB5 HO1 HA1 hB2 hz1 HX1 HV1 HSU c35 c0 c1 c2 heq HVA
              generalize goodR (some (seed, n)) y.1 = gd at *
              cases gd
              all_goals
                go_wp2_with fail
                go_roundw
                case rel => exact ⟨j + 1, _, by omega, by omega, rfl, by go_num, (by show _ = _; exact HSS.out.symm), HO5, hB6, HA5, hz5⟩
                case measure => simp [intOf]; omega
        · have h1' : (j : Int) < (ys.length : Int) := by omega
          have h2' : (j : Int) < 10 := by omega
          have HT : Hid (W (i + 1) = W i ++ [(i : Int)]) := by
            show _ = _
            rw [HWs.out, if_pos (seen_more hj2 HF.out.symm)]
          have HOb : (Value.slice oa on oc).ownBlock ≠ some w.heap.size := fun e => by have := (HO.out.lt _ e).1; omega
          have HOa : Hid (OwnI (wr.alloc (.cells #[.int .i64 (i : Int)] 3)) (w.heap.size + 1) (.slice oa on oc) (W i)) := HO.out.alloc _
          have HCa : Hid ((wr.alloc (.cells #[.int .i64 (i : Int)] 3)).cell? ⟨wr.heap.size, 0, none⟩ = some (.int .i64 (i : Int))) := (cell_blk (alloc_blk _ _) 0).trans rfl
          have HLa : Hid ((W i).length ≤ 1000) := by have := HWl.out i; show _ ≤ _; omega
          have HSa : Hid (w.heap.size + 1 ≤ (wr.alloc (.cells #[.int .i64 (i : Int)] 3)).heap.size) := by show _ ≤ (wr.heap.push _).size; simp; omega
          go_wp2_with (at_builtin; refine wpList_appN rfl _ _ rfl (w.heap.size + 1) (.slice oa on oc) (W i) ?_ wr.heap.size (i : Int) ?_ HOa.out HCa.out HLa.out HSa.out ?_; rfl; rfl)
          intro u w4 hO4 hG4
          obtain ⟨ua, un, uc, rfl⟩ := hO4.form
          have HO4 : Hid (OwnI w4 (w.heap.size + 1) (.slice ua un uc) (W (i + 1))) := by show OwnI _ _ _ _; rw [HT.out]; exact hO4
          have hBg : Below w.heap.size (wr.alloc (.cells #[.int .i64 (i : Int)] 3)) w4 := hG4.below (by have := HSa.out; omega) (fun q hq => by have := (HOa.out.lt q hq).1; omega)
          have hB4 : Below w.heap.size w w4 := (hB.alloc hB.size _).trans hBg
          have HA4 : Hid (HashAt w4 w.heap.size 0 sum) := by
            refine HA.out.same ?_
            have h5 := hG4.block w.heap.size (by simp; omega) HOb
            exact h5.trans (Below.heap_alloc _ _ _ hz)
          have hz4 : w.heap.size < w4.heap.size := by have := hG4.size; simp at this; omega
          clear hO4 hG4 HOa HCa HSa HO HA hB hBg HT HF
          go_wp2_with fail
          go_roundw
          case rel => exact ⟨i + 1, by omega, by go_num, HO4, hB4, HA4, hz4⟩
          case measure => simp [intOf]; omega
        · have h1' : ¬ (j : Int) < (ys.length : Int) := by omega
          have HT : Hid (W (i + 1) = W i ++ [(i : Int)]) := by
            show _ = _
            rw [HWs.out, if_pos (seen_more hj2 HF.out.symm)]
          have HOb : (Value.slice oa on oc).ownBlock ≠ some w.heap.size := fun e => by have := (HO.out.lt _ e).1; omega
          have HOa : Hid (OwnI (wr.alloc (.cells #[.int .i64 (i : Int)] 3)) (w.heap.size + 1) (.slice oa on oc) (W i)) := HO.out.alloc _
          have HCa : Hid ((wr.alloc (.cells #[.int .i64 (i : Int)] 3)).cell? ⟨wr.heap.size, 0, none⟩ = some (.int .i64 (i : Int))) := (cell_blk (alloc_blk _ _) 0).trans rfl
          have HLa : Hid ((W i).length ≤ 1000) := by have := HWl.out i; show _ ≤ _; omega
          have HSa : Hid (w.heap.size + 1 ≤ (wr.alloc (.cells #[.int .i64 (i : Int)] 3)).heap.size) := by show _ ≤ (wr.heap.push _).size; simp; omega
          go_wp2_with (at_builtin; refine wpList_appN rfl _ _ rfl (w.heap.size + 1) (.slice oa on oc) (W i) ?_ wr.heap.size (i : Int) ?_ HOa.out HCa.out HLa.out HSa.out ?_; rfl; rfl)
          intro u w4 hO4 hG4
          obtain ⟨ua, un, uc, rfl⟩ := hO4.form
          have HO4 : Hid (OwnI w4 (w.heap.size + 1) (.slice ua un uc) (W (i + 1))) := by show OwnI _ _ _ _; rw [HT.out]; exact hO4
          have hBg : Below w.heap.size (wr.alloc (.cells #[.int .i64 (i : Int)] 3)) w4 := hG4.below (by have := HSa.out; omega) (fun q hq => by have := (HOa.out.lt q hq).1; omega)
          have hB4 : Below w.heap.size w w4 := (hB.alloc hB.size _).trans hBg
          have HA4 : Hid (HashAt w4 w.heap.size 0 sum) := by
            refine HA.out.same ?_
            have h5 := hG4.block w.heap.size (by simp; omega) HOb
            exact h5.trans (Below.heap_alloc _ _ _ hz)
          have hz4 : w.heap.size < w4.heap.size := by have := hG4.size; simp at this; omega
          clear hO4 hG4 HOa HCa HSa HO HA hB hBg HT HF
          go_wp2_with fail
          go_roundw
          case rel => exact ⟨i + 1, by omega, by go_num, HO4, hB4, HA4, hz4⟩
          case measure => simp [intOf]; omega
        · have h1' : (j : Int) < (ys.length : Int) := by omega
          have h2' : ¬ (j : Int) < 10 := by omega
          have HT : Hid (W (i + 1) = W i ++ [(i : Int)]) := by
            show _ = _
            rw [HWs.out, if_pos (seen_more hj2 HF.out.symm)]
          have HOb : (Value.slice oa on oc).ownBlock ≠ some w.heap.size := fun e => by have := (HO.out.lt _ e).1; omega
          have HOa : Hid (OwnI (wr.alloc (.cells #[.int .i64 (i : Int)] 3)) (w.heap.size + 1) (.slice oa on oc) (W i)) := HO.out.alloc _
          have HCa : Hid ((wr.alloc (.cells #[.int .i64 (i : Int)] 3)).cell? ⟨wr.heap.size, 0, none⟩ = some (.int .i64 (i : Int))) := (cell_blk (alloc_blk _ _) 0).trans rfl
          have HLa : Hid ((W i).length ≤ 1000) := by have := HWl.out i; show _ ≤ _; omega
          have HSa : Hid (w.heap.size + 1 ≤ (wr.alloc (.cells #[.int .i64 (i : Int)] 3)).heap.size) := by show _ ≤ (wr.heap.push _).size; simp; omega
          go_wp2_with (at_builtin; refine wpList_appN rfl _ _ rfl (w.heap.size + 1) (.slice oa on oc) (W i) ?_ wr.heap.size (i : Int) ?_ HOa.out HCa.out HLa.out HSa.out ?_; rfl; rfl)
          intro u w4 hO4 hG4
          obtain ⟨ua, un, uc, rfl⟩ := hO4.form
          have HO4 : Hid (OwnI w4 (w.heap.size + 1) (.slice ua un uc) (W (i + 1))) := by show OwnI _ _ _ _; rw [HT.out]; exact hO4
          have hBg : Below w.heap.size (wr.alloc (.cells #[.int .i64 (i : Int)] 3)) w4 := hG4.below (by have := HSa.out; omega) (fun q hq => by have := (HOa.out.lt q hq).1; omega)
          have hB4 : Below w.heap.size w w4 := (hB.alloc hB.size _).trans hBg
          have HA4 : Hid (HashAt w4 w.heap.size 0 sum) := by
            refine HA.out.same ?_
            have h5 := hG4.block w.heap.size (by simp; omega) HOb
            exact h5.trans (Below.heap_alloc _ _ _ hz)
          have hz4 : w.heap.size < w4.heap.size := by have := hG4.size; simp at this; omega
          clear hO4 hG4 HOa HCa HSa HO HA hB hBg HT HF
          go_wp2_with fail
          go_roundw
          case rel => exact ⟨i + 1, by omega, by go_num, HO4, hB4, HA4, hz4⟩
          case measure => simp [intOf]; omega
        · have h1' : ¬ (j : Int) < (ys.length : Int) := by omega
          have HT : Hid (W (i + 1) = W i) := by
            show _ = _
            rw [HWs.out, if_neg]
            rw [show ys.take 10 = ys.take j from (by rw [List.take_of_length_le (show ys.length ≤ 10 by omega), List.take_of_length_le (show ys.length ≤ j by omega)]), ← HF.out]; decide
          have HO4 : Hid (OwnI wr (w.heap.size + 1) (.slice oa on oc) (W (i + 1))) := by show OwnI _ _ _ _; rw [HT.out]; exact HO.out
          clear HO HT HF
          go_wp2_with fail
          go_roundw
          case rel => exact ⟨i + 1, by omega, by go_num, HO4, hB, HA, hz⟩
          case measure => simp [intOf]; omega
        · have h1' : (j : Int) < (ys.length : Int) := by omega
          have h2' : ¬ (j : Int) < 10 := by omega
          have HT : Hid (W (i + 1) = W i) := by
            show _ = _
            rw [HWs.out, if_neg]
            rw [show (10 : Nat) = j by omega, ← HF.out]; decide
          have HO4 : Hid (OwnI wr (w.heap.size + 1) (.slice oa on oc) (W (i + 1))) := by show OwnI _ _ _ _; rw [HT.out]; exact HO.out
          clear HO HT HF
          go_wp2_with fail
          go_roundw
          case rel => exact ⟨i + 1, by omega, by go_num, HO4, hB, HA, hz⟩
          case measure => simp [intOf]; omega
    · obtain rfl : i = n := by omega
      go_wp2_with fail
      go_ret
      exact ⟨_, rfl, HO.out.mono (by omega), hB⟩
end Go.Proofs.Yticpkpphjpgdbaa
namespace Go.Proofs.Yticpkpphjpgdbaa
open Go.RowKit Go.Dig Go.Sha Go.Inv Go.Oct

/-- what Meets' line leaves, operation by operation -/
def rmSpec (rg kg kc n m : Nat) (ao : Option Addr) (len cap : Nat) (k s v : Int) (sum : Nat → Int) (b : Bool) : Nat → Value → World → Prop
  | 0, y, _ => y = .pointer (some ⟨rg, 0, none⟩)
  | 1, y, _ => y = .slice ao len cap
  | 2, y, _ => y = .int .i64 k
  | 3, y, _ => y = .int .i64 s
  | 4, y, _ => y = .int .i64 v
  | 5, y, _ => y = .agg (row .u8 32 sum)
  | 6, y, _ => ∃ uo uc, y = .slice uo m uc
  | 7, y, _ => y = .int .i64 (m : Int)
  | 8, y, _ => y = .pointer (some ⟨rg, 0, none⟩)
  | 9, y, _ => y = .pointer (some ⟨rg, 0, none⟩)
  | 10, y, _ => y = .pointer (some ⟨rg, 0, none⟩)
  | 11, y, _ => y = .slice (some ⟨kg, 0, none⟩) n kc
  | 12, y, _ => y = .int .i64 (n : Int)
  | 13, y, _ => y = .int .i64 (quorumI n)
  | 14, y, _ => y = .bool b
  | 15, y, _ => y = .bool b
  | _, _, _ => True
set_option maxRecDepth 10000 in
set_option maxHeartbeats 2000000 in
theorem rMeets_any (rg n : Nat) (seed : Nat → Int) (ao : Option Addr) (cap : Nat) (ys : List VoteW) (k s v : Int) (sum : Nat → Int) (w : World) (hX : RRing w rg seed n) (hn0 : 0 < n) (hn : n ≤ 10) (hV : VotesIn w ao cap ys) :
    Calls Try.prog 30 #[.pointer (some ⟨rg, 0, none⟩), .slice ao ys.length cap, .int .i64 k, .int .i64 s, .int .i64 v, .agg (row .u8 32 sum)] w fun e w' => e = .returned (.bool (meetsR (some (seed, n)) ys k s v sum)) ∧ Below w.heap.size w w' := by
  have HX : Hid (RRing w rg seed n) := hX
  have HV : Hid (VotesIn w ao cap ys) := hV
  obtain ⟨kg, kc, hr0, hrest⟩ := hX
  have HR0 : Hid (w.heap[rg]? = some (.cells #[.slice (some ⟨kg, 0, none⟩) n kc] 62 (0, 0))) := hr0
  have hBw := below_alloc w (.cells (row .u8 32 sum) 30)
  have hA := alloc_blk w (.cells (row .u8 32 sum) 30)
  obtain ⟨m, hm⟩ : ∃ m, (whoL (some (seed, n)) (toldL k s v sum ys)).length = m := ⟨_, rfl⟩
  have hm10 : m ≤ 10 := by
    rw [← hm, ← whoR_whoL]
    exact Nat.le_trans (whoR_length n) hn
  have HMT : Hid (meetsR (some (seed, n)) ys k s v sum = decide (quorumI n ≤ (m : Int))) := by
    show _ = _
    unfold meetsR
    rw [hm, show nodesR (some (seed, n)) = n from rfl, decide_eq_true hn0, Bool.true_and]
  have HM : Hid ((whoL (some (seed, n)) (toldL k s v sum ys)).length = m) := hm
  rw [HMT.out]
  clear hV hr0 hrest hm HMT
  obtain ⟨b, hb⟩ : ∃ b, decide (quorumI n ≤ (m : Int)) = b := ⟨_, rfl⟩
  rw [hb]
  have HB : Hid (decide (quorumI n ≤ (m : Int)) = b) := hb
  clear hb
  go_enter Try.func30, Try.ntmps30
  go_wp2_with (refine wpList_box_row rfl 30 _ rfl _ rfl ?_)
  generalize w.alloc (.cells (row .u8 32 sum) 30) = w1 at *
  have hlt : w.heap.size < w1.heap.size := lt_blk hA
  have HA : Hid (HashAt w1 w.heap.size 0 sum) := hashAt_blk hA
  have HR1 : Hid (w1.heap[rg]? = some (.cells #[.slice (some ⟨kg, 0, none⟩) n kc] 62 (0, 0))) := (hBw.block rg (lt_blk HR0.out)).trans HR0.out
  have hrg : rg < w1.heap.size := lt_blk HR1.out
  clear hA
  refine wp_region_growG (by kernel_rfl) (by kernel_rfl) (fun xs => { tmps := (.pointer (some ⟨rg, 0, none⟩) :: .slice ao ys.length cap :: .int .i64 k :: .int .i64 s :: .int .i64 v :: .agg (row .u8 32 sum) :: undef :: undef :: undef :: undef :: undef :: .pointer (some ⟨w.heap.size, 0, none⟩) :: xs 15 :: xs 0 :: xs 1 :: xs 2 :: xs 3 :: xs 4 :: xs 5 :: xs 6 :: xs 7 :: xs 8 :: xs 9 :: xs 10 :: xs 11 :: xs 12 :: xs 13 :: xs 14 :: []).toArray, defers := [] })
    (rmSpec rg kg kc n m ao ys.length cap k s v sum b) (fun | 15 => .bool false | _ => undef) (by repeat (first | exact trivial | refine ⟨fun _ _ => rfl, ?_⟩))
    (by
      intro i y w w' h hs
      unfold rmSpec at *
      split at hs <;> first | exact hs | exact trivial) ⟨?_, ?_, ?_, ?_, ?_, ?_, ?_, ?_, ?_, ?_, ?_, ?_, ?_, ?_, ?_, ?_, trivial⟩ ?_
  · intro xs W hB hp K hK
    rw [if_pos (wanted_none rfl _)]
    go_simp
    exact hK _ _ (Below.refl _ _) rfl
  · intro xs W hB hp K hK
    rw [if_pos (wanted_none rfl _)]
    go_simp
    exact hK _ _ (Below.refl _ _) rfl
  · intro xs W hB hp K hK
    rw [if_pos (wanted_none rfl _)]
    go_simp
    exact hK _ _ (Below.refl _ _) rfl
  · intro xs W hB hp K hK
    rw [if_pos (wanted_none rfl _)]
    go_simp
    exact hK _ _ (Below.refl _ _) rfl
  · intro xs W hB hp K hK
    rw [if_pos (wanted_none rfl _)]
    go_simp
    exact hK _ _ (Below.refl _ _) rfl
  · intro xs W hB hp K hK
    rw [if_pos (wanted_none rfl _)]
    exact wp_load_hash _ rfl w.heap.size 0 rfl sum (HA.out.same (hB.block _ hlt)) (hK _ _ (Below.refl _ _) rfl)
  · intro xs W hB hp K hK
    have h0 : xs 0 = .pointer (some ⟨rg, 0, none⟩) := hp.1 rfl
    have h1 : xs 1 = .slice ao ys.length cap := hp.2.1 rfl
    have h2 : xs 2 = .int .i64 k := hp.2.2.1 rfl
    have h3 : xs 3 = .int .i64 s := hp.2.2.2.1 rfl
    have h4 : xs 4 = .int .i64 v := hp.2.2.2.2.1 rfl
    have h5 : xs 5 = .agg (row .u8 32 sum) := hp.2.2.2.2.2.1 rfl
    clear hp
    rw [if_pos (wanted_none rfl _)]
    simp only [h0, h1, h2, h3, h4, h5] at hK ⊢
    clear h0 h1 h2 h3 h4 h5
    go_simp
    have hB1 : Below w.heap.size w W := hBw.trans (hB.mono hBw.size)
    refine (rWho_any rg n seed ao cap ys k s v sum W (HX.out.below hB1) hn (HV.out.below hB1)).mono ?_
    rintro e w' ⟨u, rfl, hO, hB'⟩
    obtain ⟨uo, uc, rfl⟩ := hO.len
    rw [whoR_whoL, HM.out]
    exact hK _ _ hB' ⟨uo, uc, rfl⟩
  · intro xs W hB hp K hK
    obtain ⟨uo, uc, h6⟩ : ∃ uo uc, xs 6 = .slice uo m uc := hp.1 rfl
    clear hp
    rw [if_pos (wanted_none rfl _)]
    simp only [h6] at hK ⊢
    go_simp
    exact hK _ _ (Below.refl _ _) rfl
  · intro xs W hB hp K hK
    rw [if_pos (wanted_none rfl _)]
    go_simp
    exact hK _ _ (Below.refl _ _) rfl
  · intro xs W hB hp K hK
    have h8 : xs 8 = .pointer (some ⟨rg, 0, none⟩) := hp.1 rfl
    clear hp
    rw [if_pos (wanted_none rfl _)]
    simp only [h8] at hK ⊢
    go_simp
    exact hK _ _ (Below.refl _ _) rfl
  · intro xs W hB hp K hK
    have h9 : xs 9 = .pointer (some ⟨rg, 0, none⟩) := hp.1 rfl
    clear hp
    rw [if_pos (wanted_none rfl _)]
    simp only [h9] at hK ⊢
    go_simp
    exact hK _ _ (Below.refl _ _) rfl
  · intro xs W hB hp K hK
    have h10 : xs 10 = .pointer (some ⟨rg, 0, none⟩) := hp.1 rfl
    have hc : W.cell? ⟨rg, 0, none⟩ = some (.slice (some ⟨kg, 0, none⟩) n kc) := (cell_blk ((hB.block _ hrg).trans HR1.out) 0).trans rfl
    clear hp
    rw [if_pos (wanted_none rfl _)]
    simp only [h10] at hK ⊢
    go_simp
    exact hK _ _ (Below.refl _ _) rfl
  · intro xs W hB hp K hK
    have h11 : xs 11 = .slice (some ⟨kg, 0, none⟩) n kc := hp.1 rfl
    clear hp
    rw [if_pos (wanted_none rfl _)]
    simp only [h11] at hK ⊢
    go_simp
    exact hK _ _ (Below.refl _ _) rfl
  · intro xs W hB hp K hK
    have h12 : xs 12 = .int .i64 (n : Int) := hp.1 rfl
    clear hp
    rw [if_pos (wanted_none rfl _)]
    simp only [h12] at hK ⊢
    go_simp
    refine (rQuorum_any n W (by omega) (by omega)).mono ?_
    rintro e w' ⟨rfl, rfl⟩
    exact hK _ _ (Below.refl _ _) rfl
  · intro xs W hB hp K hK
    have h7 : xs 7 = .int .i64 (m : Int) := hp.1 rfl
    have h13 : xs 13 = .int .i64 (quorumI n) := hp.2.1 rfl
    clear hp
    rw [if_pos (wanted_none rfl _)]
    simp only [h7, h13] at hK ⊢
    go_simp
    exact hK _ _ (Below.refl _ _) (congrArg Value.bool HB.out)
  · intro xs W hB hp K hK
    have h14 : xs 14 = .bool b := hp.1 rfl
    clear hp
    rw [if_pos (wanted_none rfl _)]
    simp only [h14] at hK ⊢
    go_simp
    exact hK _ _ (Below.refl _ _) rfl
  · intro xs W hB hs
    have h15 : xs 15 = .bool b := hs 15 (by simp)
    simp only [h15]
    go_wp2_with fail
    go_ret
    exact ⟨rfl, hBw.trans (hB.mono hBw.size)⟩
end Go.Proofs.Yticpkpphjpgdbaa
