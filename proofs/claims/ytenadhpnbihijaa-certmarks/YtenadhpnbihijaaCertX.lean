/- CertMarks' walk. For every number of nodes, mark, row of votes, node and bytes. -/
import Derived.Test.YtenadhpnbihijaaRefU
import Derived.Test.YtenadhpnbihijaaRefS
import Derived.Test.YtenadhpnbihijaaCertK
import Derived.Test.YtenadhpnbihijaaRefLaw
namespace Go.Proofs.Ytenadhpnbihijaa
open Go.RowKit Go.Dig Go.Sha Go.Inv Go.Oct

theorem cert_rowD : ∃ d, Try.prog.underlying 46 = some d ∧ d.isRow = true := by
  have h : (Try.prog.underlying 46).map (·.isRow) = some true := by kernel_rfl
  cases hd : Try.prog.underlying 46 with
  | none => rw [hd] at h; cases h
  | some d => rw [hd] at h; exact ⟨d, rfl, by simpa using h⟩
theorem cert_info (a b c d e : Value) : (Try.prog.info? 46).map (·.size) = some (#[a, b, c, d, e] : Array Value).size := by rw [show (#[a, b, c, d, e] : Array Value).size = 5 from rfl]; kernel_rfl
theorem wp_load_cert {o : Oper} {a : Act} {w : World} {K : Act → World → Prop} {Q : Exit → Act → World → Prop} (x : Operand) (ho : o.op = .load 46 x) (g : Nat) (hx : a.eval x = .pointer (some ⟨g, 0, none⟩)) (c0 c1 c2 c3 c4 : Value)
    (hc : w.heap[g]? = some (.cells #[c0, c1, c2, c3, c4] 46 (0, 0))) (h : K (a.put o.dst (.agg #[c0, c1, c2, c3, c4])) w) : o.wp Try.prog a w K Q := by
  obtain ⟨d, hd1, hd2⟩ := cert_rowD
  refine wp_load_mid 46 x ho g 0 hx [c0, c1, c2, c3, c4] d (fun j v hv => ?_) hd1 hd2 (by exact cert_info c0 c1 c2 c3 c4) (by simpa using h)
  rw [cell_blk hc, Nat.zero_add]
  simpa using hv
/-- what stands all through -/
structure MarkI (W : World) (b rg xg : Nat) (k p e t : Int) (n : Nat) (ao : Option Addr) (cap : Nat) (ys : List VoteW) (bo : Option Addr) (bc : Nat) (B : List Int) : Prop where
  blk : W.heap[b]? = some (.cells #[.int .i64 k, .int .i64 p, .int .i64 e, .int .i64 t, .slice ao ys.length cap] 46 (0, 0))
  ring : RingV W (.pointer (some ⟨rg, 0, none⟩)) (some (oneF 1, n))
  ref : RRing W xg (oneF 1) n
  row : VotesIn W ao cap ys
  lies : Lies W bo B
  rowed : Rowed W bo B bc
section
variable {W W' : World} {b rg xg : Nat} {k p e t : Int} {n : Nat} {ao : Option Addr} {cap : Nat} {ys : List VoteW} {bo : Option Addr} {bc : Nat} {B : List Int}
theorem MarkI.below (h : MarkI W b rg xg k p e t n ao cap ys bo bc B) (hB : Below W.heap.size W W') : MarkI W' b rg xg k p e t n ao cap ys bo bc B :=
  ⟨(hB.block _ (lt_blk h.blk)).trans h.blk, h.ring.below hB, h.ref.below hB, h.row.below hB, h.lies.below hB (Nat.le_refl _), h.rowed.below hB (Nat.le_refl _)⟩
theorem MarkI.c0 (h : MarkI W b rg xg k p e t n ao cap ys bo bc B) : W.cell? ⟨b, 0, none⟩ = some (.int .i64 k) := (cell_blk h.blk _).trans rfl
theorem MarkI.c1 (h : MarkI W b rg xg k p e t n ao cap ys bo bc B) : W.cell? ⟨b, 1, none⟩ = some (.int .i64 p) := (cell_blk h.blk _).trans rfl
theorem MarkI.c2 (h : MarkI W b rg xg k p e t n ao cap ys bo bc B) : W.cell? ⟨b, 2, none⟩ = some (.int .i64 e) := (cell_blk h.blk _).trans rfl
theorem MarkI.c3 (h : MarkI W b rg xg k p e t n ao cap ys bo bc B) : W.cell? ⟨b, 3, none⟩ = some (.int .i64 t) := (cell_blk h.blk _).trans rfl
end
def marksSpec (rg xg : Nat) (k p e t : Int) (ao : Option Addr) (cap : Nat) (ys : List VoteW) (bo : Option Addr) (bc : Nat) (B : List Int) (z : VoteR) (mb ac : Bool) : Nat → Value → World → Prop
  | 0, xx, _ => xx = .agg z.cells
  | 1, xx, _ => xx = .agg z.cells
  | 2, xx, _ => xx = .bool true
  | 3, xx, _ => xx = .bool true
  | 4, xx, _ => xx = .bool mb
  | 5, xx, _ => xx = .bool mb
  | 6, xx, _ => xx = .bool true
  | 7, xx, _ => xx = .bool true
  | 8, xx, _ => xx = .bool true
  | 9, xx, _ => xx = .pointer (some ⟨rg, 0, none⟩)
  | 10, xx, _ => xx = .agg #[.int .i64 k, .int .i64 p, .int .i64 e, .int .i64 t, .slice ao ys.length cap]
  | 11, xx, _ => xx = .bool ac
  | 12, xx, _ => xx = .pointer (some ⟨xg, 0, none⟩)
  | 13, xx, _ => xx = .agg #[.int .i64 k, .int .i64 p, .int .i64 e, .int .i64 t, .slice ao ys.length cap]
  | 14, xx, _ => xx = .bool ac
  | 15, xx, _ => xx = .bool true
  | 16, xx, _ => xx = .bool true
  | 17, xx, _ => xx = .bool true
  | 18, xx, _ => xx = .slice bo B.length bc
  | 19, xx, _ => xx = .agg (row .u8 32 (sha B))
  | 20, xx, _ => xx = .slice bo B.length bc
  | 21, xx, _ => xx = .agg (row .u8 32 (sha B))
  | 22, xx, _ => xx = .bool true
  | 23, xx, _ => xx = .bool true
  | 24, xx, _ => xx = .bool true
  | 25, xx, _ => xx = .bool true
  | 26, xx, _ => xx = .bool true
  | 27, xx, _ => xx = .bool true
  | _, _, _ => True
set_option maxRecDepth 10000 in
set_option maxHeartbeats 8000000 in
theorem certMarks_in (nodes k p e t f : Int) (ao : Option Addr) (cap : Nat) (ys : List VoteW) (B : List Int) (bo : Option Addr) (bc : Nat) (w : World) (h0 : -9223372036854775808 ≤ nodes) (h1 : nodes ≤ 9223372036854775807) (ik : inI k) (ip : inI p) (ie : inI e) (it : inI t) (if_ : inI f) (hV : VotesIn w ao cap ys) (hl : ys.length ≤ 30)
    (hlb : Lies w bo B) (hcb : B.length ≤ bc) (hrb : Rowed w bo B bc) (hB0 : B.length ≤ 1000) :
    Calls Try.prog 4 #[.int .i64 nodes, .agg #[.int .i64 k, .int .i64 p, .int .i64 e, .int .i64 t, .slice ao ys.length cap], .int .i64 f, .slice bo B.length bc] w fun x w' => x = .returned (.bool true) ∧ Below w.heap.size w w' := by
  have hl30 : ¬ ((30 : Int) < (ys.length : Int)) := by omega
  have hb30 : ¬ ((1000 : Int) < (B.length : Int)) := by omega
  obtain ⟨n, hn⟩ : ∃ n, nodesOf nodes = n := ⟨_, rfl⟩
  have hn0 : 0 < n := by rw [← hn]; unfold nodesOf; omega
  have hn1 : n ≤ 10 := by rw [← hn]; unfold nodesOf; omega
  have HNN : Hid (nodesOf nodes = n) := hn
  have IK : Hid (inI k ∧ inI p ∧ inI e ∧ inI t ∧ inI f) := ⟨ik, ip, ie, it, if_⟩
  have HB1 : Hid ((w.alloc (.cells #[.int .i64 k, .int .i64 p, .int .i64 e, .int .i64 t, .slice ao ys.length cap] 46)).heap[w.heap.size]? = some (.cells #[.int .i64 k, .int .i64 p, .int .i64 e, .int .i64 t, .slice ao ys.length cap] 46 (0, 0))) := alloc_blk _ _
  have hBa := below_alloc w (.cells #[.int .i64 k, .int .i64 p, .int .i64 e, .int .i64 t, .slice ao ys.length cap] 46)
  have HV : Hid (VotesIn (w.alloc (.cells #[.int .i64 k, .int .i64 p, .int .i64 e, .int .i64 t, .slice ao ys.length cap] 46)) ao cap ys) := hV.below hBa
  have HL : Hid (Lies (w.alloc (.cells #[.int .i64 k, .int .i64 p, .int .i64 e, .int .i64 t, .slice ao ys.length cap] 46)) bo B) := hlb.below hBa (Nat.le_refl _)
  have HRB : Hid (Rowed (w.alloc (.cells #[.int .i64 k, .int .i64 p, .int .i64 e, .int .i64 t, .slice ao ys.length cap] 46)) bo B bc) := hrb.below hBa (Nat.le_refl _)
  clear hV hn ik ip ie it if_ hlb hrb
  go_enter Try.func4, Try.ntmps4
  go_wp2_with (refine wpList_build_to rfl 24 _ rfl (row .u8 32 (oneF 1)) (by kernel_rfl) ?_)
  generalize w.alloc (.cells #[.int .i64 k, .int .i64 p, .int .i64 e, .int .i64 t, .slice ao ys.length cap] 46) = w0 at *
  refine (sNew_any nodes (oneF 1) w0 h0 h1).mono ?_
  rintro x w1 ⟨rg, rfl, hrg, hR, hB1⟩
  rw [HNN.out] at hR
  have HR : Hid (RingV w1 (.pointer (some ⟨rg, 0, none⟩)) (some (oneF 1, n))) := ⟨rg, rfl, hR⟩
  clear hR
  go_wp2_with (refine wpList_build_to rfl 24 _ rfl (row .u8 32 (oneF 1)) (by kernel_rfl) ?_)
  refine (rNew_any nodes (oneF 1) w1 h0 h1).mono ?_
  rintro x w2 ⟨xg, rfl, hxg, hX, hB2⟩
  rw [HNN.out] at hX
  have hB12 : Below w0.heap.size w0 w2 := hB1.trans (hB2.mono hB1.size)
  obtain ⟨b, hb⟩ : ∃ b, w.heap.size = b := ⟨_, rfl⟩
  have HT : Hid (MarkI w2 b rg xg k p e t n ao cap ys bo bc B) := by
    rw [← hb]
    exact ⟨(hB12.block _ (lt_blk HB1.out)).trans HB1.out, HR.out.below hB2, hX, HV.out.below hB12, HL.out.below hB12 (Nat.le_refl _), HRB.out.below hB12 (Nat.le_refl _)⟩
  have hBw2 : Below w.heap.size w w2 := hBa.trans (hB12.mono hBa.size)
  rw [hb]
  clear hX HR hB1 hB2 hB12 HB1 HV hBa HL HRB hb
  have c0 := HT.out.c0
  have c1 := HT.out.c1
  have c2 := HT.out.c2
  have c3 := HT.out.c3
  go_wp2_with fail
  refine (markVote_any _ (some (oneF 1, n)) k p e t f w2 HT.out.ring IK.out.1 IK.out.2.1 IK.out.2.2.1 IK.out.2.2.2.1 IK.out.2.2.2.2).mono ?_
  rintro x w3 ⟨rfl, hB3⟩
  obtain ⟨z, hz⟩ : ∃ z, markVoteR (some (oneF 1, n)) k p e t f = z := ⟨_, rfl⟩
  obtain ⟨mb, hmb⟩ : ∃ mb, markB k p e t = mb := ⟨_, rfl⟩
  rw [hz, hmb]
  have HZ : Hid (markVoteR (some (oneF 1, n)) k p e t f = z) := hz
  have HMB : Hid (markB k p e t = mb) := hmb
  have hB34 := below_alloc w3 (.cells z.cells 26)
  have hBw4 : Below w.heap.size w (w3.alloc (.cells z.cells 26)) := (hBw2.trans (hB3.mono hBw2.size)).trans (hB34.mono (by have := hBw2.size; have := hB3.size; omega))
  have HT4 : Hid (MarkI (w3.alloc (.cells z.cells 26)) b rg xg k p e t n ao cap ys bo bc B) := (HT.out.below hB3).below hB34
  have HG4 : Hid ((w3.alloc (.cells z.cells 26)).heap[w3.heap.size]? = some (.cells z.cells 26 (0, 0))) := alloc_blk _ _
  clear c0 c1 c2 c3 hz hmb HT hB3 hB34 hBw2
  have c0 := HT4.out.c0
  have c1 := HT4.out.c1
  have c2 := HT4.out.c2
  have c3 := HT4.out.c3
  go_wp2_with (first | (refine wpList_alloc_vote rfl rfl ?_) | (refine wpList_store_vote rfl _ _ rfl w3 z ?_ ?_ ?_ ?_; rfl; rfl; rfl))
  generalize w3.alloc (.cells z.cells 26) = w4 at *
  obtain ⟨g1, hg1⟩ : ∃ g, w3.heap.size = g := ⟨_, rfl⟩
  rw [hg1] at HG4 ⊢
  clear hg1
  refine (rMarkVote_any xg n (oneF 1) k p e t f w4 HT4.out.ref IK.out.1 IK.out.2.1 IK.out.2.2.1 IK.out.2.2.2.1 IK.out.2.2.2.2).mono ?_
  rintro x w5 ⟨rfl, hB5⟩
  rw [HZ.out, HMB.out]
  have hB56 := below_alloc w5 (.cells z.cells 26)
  have hBw6 : Below w.heap.size w (w5.alloc (.cells z.cells 26)) := (hBw4.trans (hB5.mono hBw4.size)).trans (hB56.mono (by have := hBw4.size; have := hB5.size; omega))
  have HT6 : Hid (MarkI (w5.alloc (.cells z.cells 26)) b rg xg k p e t n ao cap ys bo bc B) := (HT4.out.below hB5).below hB56
  have HG6 : Hid ((w5.alloc (.cells z.cells 26)).heap[g1]? = some (.cells z.cells 26 (0, 0))) := (hB56.block _ (Nat.lt_of_lt_of_le (lt_blk HG4.out) hB5.size)).trans ((hB5.block _ (lt_blk HG4.out)).trans HG4.out)
  have HG7 : Hid ((w5.alloc (.cells z.cells 26)).heap[w5.heap.size]? = some (.cells z.cells 26 (0, 0))) := alloc_blk _ _
  clear c0 c1 c2 c3 HT4 hB5 hB56 hBw4 HG4
  go_wp2_with (first | (refine wpList_alloc_vote rfl rfl ?_) | (refine wpList_store_vote rfl _ _ rfl w5 z ?_ ?_ ?_ ?_; rfl; rfl; rfl))
  generalize w5.alloc (.cells z.cells 26) = w6 at *
  obtain ⟨g2, hg2⟩ : ∃ g, w5.heap.size = g := ⟨_, rfl⟩
  rw [hg2] at HG7 ⊢
  clear hg2
  obtain ⟨ac, HAC⟩ : ∃ ac, Hid (acceptsR (some (oneF 1, n)) k p e t ys = ac) := ⟨_, rfl⟩
  refine wp_region_growG (by kernel_rfl) (by kernel_rfl) (fun xs => { tmps := (Value.int IntKind.i64 nodes :: Value.agg #[Value.int IntKind.i64 k, Value.int IntKind.i64 p, Value.int IntKind.i64 e, Value.int IntKind.i64 t, Value.slice ao ys.length cap] :: Value.int IntKind.i64 f :: Value.slice bo B.length bc :: undef :: Value.pointer (some (⟨b, 0, none⟩ : Addr)) :: undef :: undef :: xs 27 :: Value.pointer (some (⟨rg, 0, none⟩ : Addr)) :: Value.pointer (some (⟨xg, 0, none⟩ : Addr)) :: Value.pointer (some (⟨g1, 0, none⟩ : Addr)) :: Value.bool mb :: Value.pointer (some (⟨g2, 0, none⟩ : Addr)) :: Value.bool mb :: Value.pointer (some (⟨b, 4, none⟩ : Addr)) :: Value.slice ao ys.length cap :: Value.int IntKind.i64 (ys.length : Int) :: Value.bool false :: Value.bool false :: Value.slice bo B.length bc :: Value.int IntKind.i64 (B.length : Int) :: Value.bool false :: Value.bool false :: Value.int IntKind.i64 nodes :: Value.agg (row IntKind.u8 32 (oneF 1)) :: Value.pointer (some (⟨rg, 0, none⟩ : Addr)) :: Value.int IntKind.i64 nodes :: Value.agg (row IntKind.u8 32 (oneF 1)) :: Value.pointer (some (⟨xg, 0, none⟩ : Addr)) :: Value.pointer (some (⟨rg, 0, none⟩ : Addr)) :: Value.bool false :: Value.tuple #[Value.agg z.cells, Value.bool mb] :: Value.pointer (some (⟨rg, 0, none⟩ : Addr)) :: Value.pointer (some (⟨b, 0, none⟩ : Addr)) :: Value.agg #[Value.int IntKind.i64 k, Value.int IntKind.i64 p, Value.int IntKind.i64 e, Value.int IntKind.i64 t] :: Value.int IntKind.i64 f :: Value.tuple #[Value.agg z.cells, Value.bool mb] :: Value.agg z.cells :: Value.bool mb :: Value.tuple #[Value.agg z.cells, Value.bool mb] :: Value.pointer (some (⟨xg, 0, none⟩ : Addr)) :: Value.pointer (some (⟨b, 0, none⟩ : Addr)) :: Value.agg #[Value.int IntKind.i64 k, Value.int IntKind.i64 p, Value.int IntKind.i64 e, Value.int IntKind.i64 t] :: Value.int IntKind.i64 f :: Value.tuple #[Value.agg z.cells, Value.bool mb] :: Value.agg z.cells :: Value.bool mb :: xs 0 :: xs 1 :: xs 2 :: xs 3 :: xs 4 :: xs 5 :: xs 6 :: xs 7 :: xs 8 :: xs 9 :: xs 10 :: xs 11 :: xs 12 :: xs 13 :: xs 14 :: xs 15 :: xs 16 :: xs 17 :: xs 18 :: xs 19 :: xs 20 :: xs 21 :: xs 22 :: xs 23 :: xs 24 :: xs 25 :: xs 26 :: []).toArray, defers := [] })
    (marksSpec rg xg k p e t ao cap ys bo bc B z mb ac) (fun | 27 => .bool false | _ => undef) (by repeat (first | exact trivial | refine ⟨fun _ _ => rfl, ?_⟩)) (by
      intro i y w w' h hs
      unfold marksSpec at *
      split at hs <;> first | exact hs | exact trivial) ⟨?_, ?_, ?_, ?_, ?_, ?_, ?_, ?_, ?_, ?_, ?_, ?_, ?_, ?_, ?_, ?_, ?_, ?_, ?_, ?_, ?_, ?_, ?_, ?_, ?_, ?_, ?_, ?_, trivial⟩ ?_
  · intro xs W hB hp K hK
    rw [if_pos (wanted_none rfl _)]
    clear hp
    exact wp_load_vote _ rfl g1 0 rfl z (voteAt_blk ((hB.block _ (lt_blk HG6.out)).trans HG6.out)) (hK _ _ (Below.refl _ _) rfl)
  · intro xs W hB hp K hK
    rw [if_pos (wanted_none rfl _)]
    clear hp
    exact wp_load_vote _ rfl g2 0 rfl z (voteAt_blk ((hB.block _ (lt_blk HG7.out)).trans HG7.out)) (hK _ _ (Below.refl _ _) rfl)
  · intro xs W hB hp K hK
    rw [if_pos (wanted_none rfl _)]
    have h0 : xs 0 = .agg z.cells := hp.1 rfl
    have h1 : xs 1 = .agg z.cells := hp.2.1 rfl
    clear hp
    have heq := equalIn_vote z
    simp only [h0, h1] at hK ⊢
    clear h0 h1
    go_simp
    exact hK _ _ (Below.refl _ _) (by first | rfl | (show Value.bool _ = _; simp; done) | (show Value.bool _ = _; simp; omega))
  · intro xs W hB hp K hK
    rw [if_pos (wanted_none rfl _)]
    have h2 : xs 2 = .bool true := hp.1 rfl
    clear hp
    simp only [h2] at hK ⊢
    clear h2
    go_simp
    exact hK _ _ (Below.refl _ _) rfl
  · intro xs W hB hp K hK
    have hgd : xs 3 = .bool true := hp.1 rfl
    rw [wanted_g (b := true) rfl (by show (match some (xs 3) with | some (.bool b) => some b | _ => none) = some true; rw [hgd])]
    rw [if_pos (show (true == true) = true from rfl)]
    clear hgd
    clear hp
    go_simp
    exact hK _ _ (Below.refl _ _) rfl
  · intro xs W hB hp K hK
    have hgd : xs 3 = .bool true := hp.1 rfl
    rw [wanted_g (b := true) rfl (by show (match some (xs 3) with | some (.bool b) => some b | _ => none) = some true; rw [hgd])]
    rw [if_pos (show (true == true) = true from rfl)]
    clear hgd
    clear hp
    go_simp
    exact hK _ _ (Below.refl _ _) rfl
  · intro xs W hB hp K hK
    have hgd : xs 3 = .bool true := hp.2.2.1 rfl
    rw [wanted_g (b := true) rfl (by show (match some (xs 3) with | some (.bool b) => some b | _ => none) = some true; rw [hgd])]
    rw [if_pos (show (true == true) = true from rfl)]
    clear hgd
    have h4 : xs 4 = .bool mb := hp.1 rfl
    have h5 : xs 5 = .bool mb := hp.2.1 rfl
    clear hp
    simp only [h4, h5] at hK ⊢
    clear h4 h5
    go_simp
    exact hK _ _ (Below.refl _ _) (by first | rfl | (show Value.bool _ = _; simp; done) | (show Value.bool _ = _; simp; omega))
  · intro xs W hB hp K hK
    rw [if_pos (wanted_none rfl _)]
    have h3 : xs 3 = .bool true := hp.1 rfl
    have h6 : xs 6 = .bool true := hp.2.1 rfl
    clear hp
    simp only [h3, h6] at hK ⊢
    clear h3 h6
    go_simp
    exact hK _ _ (Below.refl _ _) rfl
  · intro xs W hB hp K hK
    rw [if_pos (wanted_none rfl _)]
    have h7 : xs 7 = .bool true := hp.1 rfl
    clear hp
    simp only [h7] at hK ⊢
    clear h7
    go_simp
    exact hK _ _ (Below.refl _ _) rfl
  · intro xs W hB hp K hK
    have hgd : xs 8 = .bool true := hp.1 rfl
    rw [wanted_g (b := true) rfl (by show (match some (xs 8) with | some (.bool b) => some b | _ => none) = some true; rw [hgd])]
    rw [if_pos (show (true == true) = true from rfl)]
    clear hgd
    clear hp
    go_simp
    exact hK _ _ (Below.refl _ _) rfl
  · intro xs W hB hp K hK
    have hgd : xs 8 = .bool true := hp.1 rfl
    rw [wanted_g (b := true) rfl (by show (match some (xs 8) with | some (.bool b) => some b | _ => none) = some true; rw [hgd])]
    rw [if_pos (show (true == true) = true from rfl)]
    clear hgd
    clear hp
    exact wp_load_cert _ rfl b rfl _ _ _ _ _ (HT6.out.below hB).blk (hK _ _ (Below.refl _ _) rfl)
  · intro xs W hB hp K hK
    have hgd : xs 8 = .bool true := hp.2.2.1 rfl
    rw [wanted_g (b := true) rfl (by show (match some (xs 8) with | some (.bool b) => some b | _ => none) = some true; rw [hgd])]
    rw [if_pos (show (true == true) = true from rfl)]
    clear hgd
    have h9 : xs 9 = .pointer (some ⟨rg, 0, none⟩) := hp.1 rfl
    have h10 : xs 10 = .agg #[.int .i64 k, .int .i64 p, .int .i64 e, .int .i64 t, .slice ao ys.length cap] := hp.2.1 rfl
    clear hp
    simp only [h9, h10] at hK ⊢
    clear h9 h10
    go_simp
    refine (accepts_any _ (some (oneF 1, n)) k p e t ao cap ys W (HT6.out.below hB).ring (by exact hn1) IK.out.1 IK.out.2.1 IK.out.2.2.1 IK.out.2.2.2.1 (HT6.out.below hB).row).mono ?_
    rintro x w' ⟨rfl, hB'⟩
    rw [HAC.out]
    exact hK _ _ hB' rfl
  · intro xs W hB hp K hK
    have hgd : xs 8 = .bool true := hp.1 rfl
    rw [wanted_g (b := true) rfl (by show (match some (xs 8) with | some (.bool b) => some b | _ => none) = some true; rw [hgd])]
    rw [if_pos (show (true == true) = true from rfl)]
    clear hgd
    clear hp
    go_simp
    exact hK _ _ (Below.refl _ _) rfl
  · intro xs W hB hp K hK
    have hgd : xs 8 = .bool true := hp.1 rfl
    rw [wanted_g (b := true) rfl (by show (match some (xs 8) with | some (.bool b) => some b | _ => none) = some true; rw [hgd])]
    rw [if_pos (show (true == true) = true from rfl)]
    clear hgd
    clear hp
    exact wp_load_cert _ rfl b rfl _ _ _ _ _ (HT6.out.below hB).blk (hK _ _ (Below.refl _ _) rfl)
  · intro xs W hB hp K hK
    have hgd : xs 8 = .bool true := hp.2.2.2.1 rfl
    rw [wanted_g (b := true) rfl (by show (match some (xs 8) with | some (.bool b) => some b | _ => none) = some true; rw [hgd])]
    rw [if_pos (show (true == true) = true from rfl)]
    clear hgd
    have h12 : xs 12 = .pointer (some ⟨xg, 0, none⟩) := hp.1 rfl
    have h13 : xs 13 = .agg #[.int .i64 k, .int .i64 p, .int .i64 e, .int .i64 t, .slice ao ys.length cap] := hp.2.1 rfl
    clear hp
    simp only [h12, h13] at hK ⊢
    clear h12 h13
    go_simp
    refine (rAccepts_any xg n (oneF 1) k p e t ao cap ys W (HT6.out.below hB).ref hn0 hn1 IK.out.1 IK.out.2.1 IK.out.2.2.1 IK.out.2.2.2.1 (HT6.out.below hB).row).mono ?_
    rintro x w' ⟨rfl, hB'⟩
    rw [HAC.out]
    exact hK _ _ hB' rfl
  · intro xs W hB hp K hK
    have hgd : xs 8 = .bool true := hp.2.2.1 rfl
    rw [wanted_g (b := true) rfl (by show (match some (xs 8) with | some (.bool b) => some b | _ => none) = some true; rw [hgd])]
    rw [if_pos (show (true == true) = true from rfl)]
    clear hgd
    have h11 : xs 11 = .bool ac := hp.1 rfl
    have h14 : xs 14 = .bool ac := hp.2.1 rfl
    clear hp
    simp only [h11, h14] at hK ⊢
    clear h11 h14
    go_simp
    exact hK _ _ (Below.refl _ _) (by first | rfl | (show Value.bool _ = _; simp; done) | (show Value.bool _ = _; simp; omega))
  · intro xs W hB hp K hK
    rw [if_pos (wanted_none rfl _)]
    have h8 : xs 8 = .bool true := hp.1 rfl
    have h15 : xs 15 = .bool true := hp.2.1 rfl
    clear hp
    simp only [h8, h15] at hK ⊢
    clear h8 h15
    go_simp
    exact hK _ _ (Below.refl _ _) rfl
  · intro xs W hB hp K hK
    rw [if_pos (wanted_none rfl _)]
    have h16 : xs 16 = .bool true := hp.1 rfl
    clear hp
    simp only [h16] at hK ⊢
    clear h16
    go_simp
    exact hK _ _ (Below.refl _ _) rfl
  · intro xs W hB hp K hK
    have hgd : xs 17 = .bool true := hp.1 rfl
    rw [wanted_g (b := true) rfl (by show (match some (xs 17) with | some (.bool b) => some b | _ => none) = some true; rw [hgd])]
    rw [if_pos (show (true == true) = true from rfl)]
    clear hgd
    clear hp
    go_simp
    exact hK _ _ (Below.refl _ _) rfl
  · intro xs W hB hp K hK
    have hgd : xs 17 = .bool true := hp.2.1 rfl
    rw [wanted_g (b := true) rfl (by show (match some (xs 17) with | some (.bool b) => some b | _ => none) = some true; rw [hgd])]
    rw [if_pos (show (true == true) = true from rfl)]
    clear hgd
    have h18 : xs 18 = .slice bo B.length bc := hp.1 rfl
    clear hp
    simp only [h18] at hK ⊢
    clear h18
    go_simp
    refine (valueSum_any B bo bc W (HT6.out.below hB).lies hcb (by omega)).mono ?_
    rintro x w' ⟨rfl, hB'⟩
    exact hK _ _ hB' rfl
  · intro xs W hB hp K hK
    have hgd : xs 17 = .bool true := hp.1 rfl
    rw [wanted_g (b := true) rfl (by show (match some (xs 17) with | some (.bool b) => some b | _ => none) = some true; rw [hgd])]
    rw [if_pos (show (true == true) = true from rfl)]
    clear hgd
    clear hp
    go_simp
    exact hK _ _ (Below.refl _ _) rfl
  · intro xs W hB hp K hK
    have hgd : xs 17 = .bool true := hp.2.2.1 rfl
    rw [wanted_g (b := true) rfl (by show (match some (xs 17) with | some (.bool b) => some b | _ => none) = some true; rw [hgd])]
    rw [if_pos (show (true == true) = true from rfl)]
    clear hgd
    have h20 : xs 20 = .slice bo B.length bc := hp.1 rfl
    clear hp
    simp only [h20] at hK ⊢
    clear h20
    go_simp
    refine (rValueSum_any B bo bc W (HT6.out.below hB).rowed (by omega)).mono ?_
    rintro x w' ⟨rfl, hB'⟩
    exact hK _ _ hB' rfl
  · intro xs W hB hp K hK
    have hgd : xs 17 = .bool true := hp.2.2.1 rfl
    rw [wanted_g (b := true) rfl (by show (match some (xs 17) with | some (.bool b) => some b | _ => none) = some true; rw [hgd])]
    rw [if_pos (show (true == true) = true from rfl)]
    clear hgd
    have h19 : xs 19 = .agg (row .u8 32 (sha B)) := hp.1 rfl
    have h21 : xs 21 = .agg (row .u8 32 (sha B)) := hp.2.1 rfl
    clear hp
    have heq := equalIn_hash (sha B) (sha B)
    rw [rowEq_self] at heq
    simp only [h19, h21] at hK ⊢
    clear h19 h21
    go_simp
    exact hK _ _ (Below.refl _ _) (by first | rfl | (show Value.bool _ = _; simp; done) | (show Value.bool _ = _; simp; omega))
  · intro xs W hB hp K hK
    rw [if_pos (wanted_none rfl _)]
    have h17 : xs 17 = .bool true := hp.1 rfl
    have h22 : xs 22 = .bool true := hp.2.1 rfl
    clear hp
    simp only [h17, h22] at hK ⊢
    clear h17 h22
    go_simp
    exact hK _ _ (Below.refl _ _) rfl
  · intro xs W hB hp K hK
    rw [if_pos (wanted_none rfl _)]
    have h23 : xs 23 = .bool true := hp.1 rfl
    clear hp
    simp only [h23] at hK ⊢
    clear h23
    go_simp
    exact hK _ _ (Below.refl _ _) rfl
  · intro xs W hB hp K hK
    have hgd : xs 24 = .bool true := hp.1 rfl
    rw [wanted_g (b := true) rfl (by show (match some (xs 24) with | some (.bool b) => some b | _ => none) = some true; rw [hgd])]
    rw [if_pos (show (true == true) = true from rfl)]
    clear hgd
    clear hp
    go_simp
    refine (known6_any W).mono ?_
    rintro x w' ⟨rfl, hB'⟩
    exact hK _ _ hB' rfl
  · intro xs W hB hp K hK
    rw [if_pos (wanted_none rfl _)]
    have h24 : xs 24 = .bool true := hp.1 rfl
    have h25 : xs 25 = .bool true := hp.2.1 rfl
    clear hp
    simp only [h24, h25] at hK ⊢
    clear h24 h25
    go_simp
    exact hK _ _ (Below.refl _ _) rfl
  · intro xs W hB hp K hK
    rw [if_pos (wanted_none rfl _)]
    have h26 : xs 26 = .bool true := hp.1 rfl
    clear hp
    simp only [h26] at hK ⊢
    clear h26
    go_simp
    exact hK _ _ (Below.refl _ _) rfl
  · intro xs W hB hs
    have h27 : xs 27 = .bool true := hs 27 (by simp)
    simp only [h27]
    go_wp2_with fail
    go_ret
    exact ⟨rfl, hBw6.trans (hB.mono hBw6.size)⟩
set_option maxRecDepth 10000 in
set_option maxHeartbeats 2000000 in
theorem certMarks_any (nodes k p e t f : Int) (ao : Option Addr) (cap : Nat) (ys : List VoteW) (B : List Int) (bo : Option Addr) (bc : Nat) (w : World) (h0 : -9223372036854775808 ≤ nodes) (h1 : nodes ≤ 9223372036854775807) (ik : inI k) (ip : inI p) (ie : inI e) (it : inI t) (if_ : inI f) (hV : VotesIn w ao cap ys)
    (hlb : Lies w bo B) (hcb : B.length ≤ bc) (hrb : Rowed w bo B bc) :
    Calls Try.prog 4 #[.int .i64 nodes, .agg #[.int .i64 k, .int .i64 p, .int .i64 e, .int .i64 t, .slice ao ys.length cap], .int .i64 f, .slice bo B.length bc] w fun x w' => x = .returned (.bool true) ∧ Below w.heap.size w w' := by
  have hBa := below_alloc w (.cells #[.int .i64 k, .int .i64 p, .int .i64 e, .int .i64 t, .slice ao ys.length cap] 46)
  by_cases z0 : (30 : Int) < (ys.length : Int)
  · go_enter Try.func4, Try.ntmps4
    go_wp2_with fail
    go_ret
    exact ⟨rfl, hBa⟩
  by_cases z1 : (1000 : Int) < (B.length : Int)
  · go_enter Try.func4, Try.ntmps4
    go_wp2_with fail
    go_ret
    exact ⟨rfl, hBa⟩
  exact certMarks_in nodes k p e t f ao cap ys B bo bc w h0 h1 ik ip ie it if_ hV (by omega) hlb hcb hrb (by omega)
end Go.Proofs.Ytenadhpnbihijaa
