/- CertTells' walk. For every number of nodes, row of votes and vote. -/
import Derived.Test.YtenadhpnbihijaaCertP
import Derived.Test.YtenadhpnbihijaaRefR
import Derived.Test.YtenadhpnbihijaaRefS
namespace Go.Proofs.Ytenadhpnbihijaa
open Go.RowKit Go.Dig Go.Sha Go.Inv Go.Oct

/-- what stands all through: the vote, the rings, the row -/
structure TellI (W : World) (b rg xg : Nat) (x : VoteR) (n : Nat) (ao : Option Addr) (cap : Nat) (ys : List VoteW) : Prop where
  blk : W.heap[b]? = some (.cells x.cells 26 (0, 0))
  ring : RingV W (.pointer (some ⟨rg, 0, none⟩)) (some (oneF 1, n))
  ref : RRing W xg (oneF 1) n
  row : VotesIn W ao cap ys
theorem TellI.below {W W' : World} {b rg xg : Nat} {x : VoteR} {n : Nat} {ao : Option Addr} {cap : Nat} {ys : List VoteW} (h : TellI W b rg xg x n ao cap ys) (hB : Below W.heap.size W W') : TellI W' b rg xg x n ao cap ys :=
  ⟨(hB.block _ (lt_blk h.blk)).trans h.blk, h.ring.below hB, h.ref.below hB, h.row.below hB⟩
section
variable {W : World} {b rg xg : Nat} {x : VoteR} {n : Nat} {ao : Option Addr} {cap : Nat} {ys : List VoteW}
theorem TellI.c0 (h : TellI W b rg xg x n ao cap ys) : W.cell? ⟨b, 0, none⟩ = some (.int .i64 x.k) := (cell_blk h.blk _).trans x.at0
theorem TellI.c1 (h : TellI W b rg xg x n ao cap ys) : W.cell? ⟨b, 1, none⟩ = some (.int .i64 x.s) := (cell_blk h.blk _).trans x.at1
theorem TellI.c2 (h : TellI W b rg xg x n ao cap ys) : W.cell? ⟨b, 2, none⟩ = some (.int .i64 x.v) := (cell_blk h.blk _).trans x.at2
theorem TellI.c35 (h : TellI W b rg xg x n ao cap ys) : W.cell? ⟨b, 35, none⟩ = some (.int .i64 x.f) := (cell_blk h.blk _).trans x.at35
theorem TellI.vote (h : TellI W b rg xg x n ao cap ys) : VoteAt W b 0 x := voteAt_blk h.blk
theorem TellI.sum (h : TellI W b rg xg x n ao cap ys) : HashAt W b 3 x.sum := by have := h.vote.sum; rwa [Nat.zero_add] at this
end
def tellSpec (b rg xg base : Nat) (ao : Option Addr) (cap : Nat) (ys : List VoteW) (x : VoteW) (z : VoteR) (gd mt : Bool) (L : List Int) : Nat → Value → World → Prop
  | 0, xx, _ => xx = .agg z.cells
  | 1, xx, _ => xx = .pointer (some ⟨xg, 0, none⟩)
  | 2, xx, _ => xx = .pointer (some ⟨b, 0, none⟩)
  | 3, xx, _ => xx = .int .i64 x.1.k
  | 4, xx, _ => xx = .pointer (some ⟨b, 1, none⟩)
  | 5, xx, _ => xx = .int .i64 x.1.s
  | 6, xx, _ => xx = .pointer (some ⟨b, 2, none⟩)
  | 7, xx, _ => xx = .int .i64 x.1.v
  | 8, xx, _ => xx = .pointer (some ⟨b, 3, none⟩)
  | 9, xx, _ => xx = .agg (row .u8 32 x.1.sum)
  | 10, xx, _ => xx = .pointer (some ⟨b, 35, none⟩)
  | 11, xx, _ => xx = .int .i64 x.1.f
  | 12, xx, _ => xx = .agg z.cells
  | 13, xx, _ => xx = .bool true
  | 14, xx, _ => xx = .bool true
  | 15, xx, _ => xx = .pointer (some ⟨rg, 0, none⟩)
  | 16, xx, _ => xx = .agg x.1.cells
  | 17, xx, _ => xx = .bool gd
  | 18, xx, _ => xx = .pointer (some ⟨xg, 0, none⟩)
  | 19, xx, _ => xx = .agg x.1.cells
  | 20, xx, _ => xx = .bool gd
  | 21, xx, _ => xx = .bool true
  | 22, xx, _ => xx = .bool true
  | 23, xx, _ => xx = .bool true
  | 24, xx, _ => xx = .pointer (some ⟨rg, 0, none⟩)
  | 25, xx, _ => xx = .slice ao ys.length cap
  | 26, xx, _ => xx = .pointer (some ⟨b, 0, none⟩)
  | 27, xx, _ => xx = .int .i64 x.1.k
  | 28, xx, _ => xx = .pointer (some ⟨b, 1, none⟩)
  | 29, xx, _ => xx = .int .i64 x.1.s
  | 30, xx, _ => xx = .pointer (some ⟨b, 2, none⟩)
  | 31, xx, _ => xx = .int .i64 x.1.v
  | 32, xx, _ => xx = .pointer (some ⟨b, 3, none⟩)
  | 33, xx, _ => xx = .agg (row .u8 32 x.1.sum)
  | 34, xx, WW => OwnI WW base xx L
  | 35, xx, _ => xx = .pointer (some ⟨xg, 0, none⟩)
  | 36, xx, _ => xx = .slice ao ys.length cap
  | 37, xx, _ => xx = .pointer (some ⟨b, 0, none⟩)
  | 38, xx, _ => xx = .int .i64 x.1.k
  | 39, xx, _ => xx = .pointer (some ⟨b, 1, none⟩)
  | 40, xx, _ => xx = .int .i64 x.1.s
  | 41, xx, _ => xx = .pointer (some ⟨b, 2, none⟩)
  | 42, xx, _ => xx = .int .i64 x.1.v
  | 43, xx, _ => xx = .pointer (some ⟨b, 3, none⟩)
  | 44, xx, _ => xx = .agg (row .u8 32 x.1.sum)
  | 45, xx, WW => OwnI WW base xx L
  | 46, xx, _ => xx = .bool true
  | 47, xx, _ => xx = .bool true
  | 48, xx, _ => xx = .bool true
  | 49, xx, _ => xx = .pointer (some ⟨rg, 0, none⟩)
  | 50, xx, _ => xx = .slice ao ys.length cap
  | 51, xx, _ => xx = .pointer (some ⟨b, 0, none⟩)
  | 52, xx, _ => xx = .int .i64 x.1.k
  | 53, xx, _ => xx = .pointer (some ⟨b, 1, none⟩)
  | 54, xx, _ => xx = .int .i64 x.1.s
  | 55, xx, _ => xx = .pointer (some ⟨b, 2, none⟩)
  | 56, xx, _ => xx = .int .i64 x.1.v
  | 57, xx, _ => xx = .pointer (some ⟨b, 3, none⟩)
  | 58, xx, _ => xx = .agg (row .u8 32 x.1.sum)
  | 59, xx, _ => xx = .bool mt
  | 60, xx, _ => xx = .pointer (some ⟨xg, 0, none⟩)
  | 61, xx, _ => xx = .slice ao ys.length cap
  | 62, xx, _ => xx = .pointer (some ⟨b, 0, none⟩)
  | 63, xx, _ => xx = .int .i64 x.1.k
  | 64, xx, _ => xx = .pointer (some ⟨b, 1, none⟩)
  | 65, xx, _ => xx = .int .i64 x.1.s
  | 66, xx, _ => xx = .pointer (some ⟨b, 2, none⟩)
  | 67, xx, _ => xx = .int .i64 x.1.v
  | 68, xx, _ => xx = .pointer (some ⟨b, 3, none⟩)
  | 69, xx, _ => xx = .agg (row .u8 32 x.1.sum)
  | 70, xx, _ => xx = .bool mt
  | 71, xx, _ => xx = .bool true
  | 72, xx, _ => xx = .bool true
  | 73, xx, _ => xx = .bool true
  | 74, xx, _ => xx = .bool true
  | 75, xx, _ => xx = .bool true
  | 76, xx, _ => xx = .bool true
  | _, _, _ => True
set_option maxRecDepth 10000 in
set_option maxHeartbeats 8000000 in
theorem certTells_in (nodes : Int) (ao : Option Addr) (cap : Nat) (ys : List VoteW) (x : VoteW) (w : World) (h0 : -9223372036854775808 ≤ nodes) (h1 : nodes ≤ 9223372036854775807) (hV : VotesIn w ao cap ys) (hl : ys.length ≤ 30) :
    Calls Try.prog 3 #[.int .i64 nodes, .slice ao ys.length cap, .agg x.1.cells] w fun e w' => e = .returned (.bool true) ∧ Below w.heap.size w w' := by
  have hl30 : ¬ ((30 : Int) < (ys.length : Int)) := by omega
  obtain ⟨n, hn⟩ : ∃ n, nodesOf nodes = n := ⟨_, rfl⟩
  have hn0 : 0 < n := by rw [← hn]; unfold nodesOf; omega
  have hn1 : n ≤ 10 := by rw [← hn]; unfold nodesOf; omega
  have HNN : Hid (nodesOf nodes = n) := hn
  have HB0 : Hid ((w.alloc (.cells x.1.cells 26)).heap[w.heap.size]? = some (.cells x.1.cells 26 (0, 0))) := alloc_blk _ _
  have hBa := below_alloc w (.cells x.1.cells 26)
  have HV : Hid (VotesIn (w.alloc (.cells x.1.cells 26)) ao cap ys) := hV.below hBa
  clear hV hn
  go_enter Try.func3, Try.ntmps3
  go_wp2_with (first | refine wpList_box_row rfl 26 _ rfl _ rfl ?_ | refine wpList_build_to rfl 24 _ rfl (row .u8 32 (oneF 1)) (by kernel_rfl) ?_)
  generalize w.alloc (.cells x.1.cells 26) = w0 at *
  refine (sNew_any nodes (oneF 1) w0 h0 h1).mono ?_
  rintro e w1 ⟨rg, rfl, hrg, hR, hB1⟩
  rw [HNN.out] at hR
  have HR : Hid (RingV w1 (.pointer (some ⟨rg, 0, none⟩)) (some (oneF 1, n))) := ⟨rg, rfl, hR⟩
  clear hR
  go_wp2_with (refine wpList_build_to rfl 24 _ rfl (row .u8 32 (oneF 1)) (by kernel_rfl) ?_)
  refine (rNew_any nodes (oneF 1) w1 h0 h1).mono ?_
  rintro e w2 ⟨xg, rfl, hxg, hX, hB2⟩
  rw [HNN.out] at hX
  have hB12 : Below w0.heap.size w0 w2 := hB1.trans (hB2.mono hB1.size)
  have HT : Hid (TellI w2 w.heap.size rg xg x.1 n ao cap ys) := ⟨(hB12.block _ (lt_blk HB0.out)).trans HB0.out, HR.out.below hB2, hX, HV.out.below hB12⟩
  have hBw2 : Below w.heap.size w w2 := hBa.trans (hB12.mono hBa.size)
  clear hX HR hB1 hB2 hB12 HB0 HV hBa
  have c0 := HT.out.c0
  have c1 := HT.out.c1
  have c2 := HT.out.c2
  have c35 := HT.out.c35
  go_wp2_with (refine wpList_load_hashG ?_ _ rfl w.heap.size 3 ?_ x.1.sum ?_ ?_; kernel_rfl; rfl; exact HT.out.sum)
  refine (cast_any _ (some (oneF 1, n)) x.1.k x.1.s x.1.v x.1.sum x.1.f w2 HT.out.ring x.2.1 x.2.2.1 x.2.2.2.1 x.2.2.2.2).mono ?_
  rintro e w3 ⟨rfl, hB3⟩
  obtain ⟨z, hz⟩ : ∃ z, castR (some (oneF 1, n)) x.1.k x.1.s x.1.v x.1.sum x.1.f = z := ⟨_, rfl⟩
  rw [hz]
  have HZ : Hid (castR (some (oneF 1, n)) x.1.k x.1.s x.1.v x.1.sum x.1.f = z) := hz
  have hB34 := below_alloc w3 (.cells z.cells 26)
  have hBw4 : Below w.heap.size w (w3.alloc (.cells z.cells 26)) := (hBw2.trans (hB3.mono hBw2.size)).trans (hB34.mono (by have := hBw2.size; have := hB3.size; omega))
  have HT4 : Hid (TellI (w3.alloc (.cells z.cells 26)) w.heap.size rg xg x.1 n ao cap ys) := (HT.out.below hB3).below hB34
  have HZ4 : Hid (VoteAt (w3.alloc (.cells z.cells 26)) w3.heap.size 0 z) := voteAt_blk (alloc_blk _ _)
  clear c0 c1 c2 c35 hz HT hB3 hB34 hBw2
  have hgz : w3.heap.size < (w3.alloc (.cells z.cells 26)).heap.size := by simp
  go_wp2_with (first | (refine wpList_alloc_vote rfl rfl ?_) | (refine wpList_store_vote rfl _ _ rfl w3 z ?_ ?_ ?_ ?_; rfl; rfl; rfl))
  generalize w3.alloc (.cells z.cells 26) = w4 at *
  obtain ⟨gz, hgg⟩ : ∃ g, w3.heap.size = g := ⟨_, rfl⟩
  rw [hgg] at HZ4 hgz ⊢
  obtain ⟨b, hb⟩ : ∃ g, w.heap.size = g := ⟨_, rfl⟩
  rw [hb] at HT4 ⊢
  have HBW : Hid (w.heap.size = b) := hb
  clear hb hgg
  obtain ⟨gd, HGD⟩ : ∃ gd, Hid (goodR (some (oneF 1, n)) x.1 = gd) := ⟨_, rfl⟩
  obtain ⟨mt, HMT⟩ : ∃ mt, Hid (meetsR (some (oneF 1, n)) ys x.1.k x.1.s x.1.v x.1.sum = mt) := ⟨_, rfl⟩
  have hl10 : (whoL (some (oneF 1, n)) (toldL x.1.k x.1.s x.1.v x.1.sum ys)).length ≤ 1000 := by
    have := whoL_length (some (oneF 1, n)) (toldL x.1.k x.1.s x.1.v x.1.sum ys) []
    have := toldL_length x.1.k x.1.s x.1.v x.1.sum ys
    simp only [List.length_nil] at *; unfold whoL; omega
  obtain ⟨L, HL⟩ : ∃ L, Hid (whoL (some (oneF 1, n)) (toldL x.1.k x.1.s x.1.v x.1.sum ys) = L) := ⟨_, rfl⟩
  rw [HL.out] at hl10
  simp only [List.append_eq, List.cons_append, List.nil_append, Act.put, List.setIfInBounds_toArray, List.set_cons_succ, List.set_cons_zero]
  refine wp_region_growG (by kernel_rfl) (by kernel_rfl) (fun xs => { tmps := (Value.int IntKind.i64 nodes :: Value.slice ao ys.length cap :: Value.agg x.1.cells :: undef :: undef :: Value.pointer (some (⟨b, 0, none⟩ : Addr)) :: xs 76 :: Value.pointer (some (⟨rg, 0, none⟩ : Addr)) :: Value.pointer (some (⟨xg, 0, none⟩ : Addr)) :: Value.pointer (some (⟨gz, 0, none⟩ : Addr)) :: Value.slice ao ys.length cap :: Value.int IntKind.i64 (ys.length : Int) :: Value.bool false :: Value.int IntKind.i64 nodes :: Value.agg (row IntKind.u8 32 (oneF 1)) :: Value.pointer (some (⟨rg, 0, none⟩ : Addr)) :: Value.int IntKind.i64 nodes :: Value.agg (row IntKind.u8 32 (oneF 1)) :: Value.pointer (some (⟨xg, 0, none⟩ : Addr)) :: Value.pointer (some (⟨rg, 0, none⟩ : Addr)) :: Value.bool false :: Value.pointer (some (⟨rg, 0, none⟩ : Addr)) :: Value.pointer (some (⟨b, 0, none⟩ : Addr)) :: Value.int IntKind.i64 x.1.k :: Value.pointer (some (⟨b, 1, none⟩ : Addr)) :: Value.int IntKind.i64 x.1.s :: Value.pointer (some (⟨b, 2, none⟩ : Addr)) :: Value.int IntKind.i64 x.1.v :: Value.pointer (some (⟨b, 3, none⟩ : Addr)) :: Value.agg (row IntKind.u8 32 x.1.sum) :: Value.pointer (some (⟨b, 35, none⟩ : Addr)) :: Value.int IntKind.i64 x.1.f :: Value.agg z.cells :: xs 0 :: xs 1 :: xs 2 :: xs 3 :: xs 4 :: xs 5 :: xs 6 :: xs 7 :: xs 8 :: xs 9 :: xs 10 :: xs 11 :: xs 12 :: xs 13 :: xs 14 :: xs 15 :: xs 16 :: xs 17 :: xs 18 :: xs 19 :: xs 20 :: xs 21 :: xs 22 :: xs 23 :: xs 24 :: xs 25 :: xs 26 :: xs 27 :: xs 28 :: xs 29 :: xs 30 :: xs 31 :: xs 32 :: xs 33 :: xs 34 :: xs 35 :: xs 36 :: xs 37 :: xs 38 :: xs 39 :: xs 40 :: xs 41 :: xs 42 :: xs 43 :: xs 44 :: xs 45 :: xs 46 :: xs 47 :: xs 48 :: xs 49 :: xs 50 :: xs 51 :: xs 52 :: xs 53 :: xs 54 :: xs 55 :: xs 56 :: xs 57 :: xs 58 :: xs 59 :: xs 60 :: xs 61 :: xs 62 :: xs 63 :: xs 64 :: xs 65 :: xs 66 :: xs 67 :: xs 68 :: xs 69 :: xs 70 :: xs 71 :: xs 72 :: xs 73 :: xs 74 :: xs 75 :: []).toArray, defers := [] })
    (tellSpec b rg xg w4.heap.size ao cap ys x z gd mt L) (fun | 76 => .bool false | _ => undef) (by repeat (first | exact trivial | refine ⟨fun _ _ => rfl, ?_⟩)) (by
      intro i y w w' h hs
      unfold tellSpec at *
      split at hs <;> first | exact hs | exact trivial | exact OwnI.below hs h) ⟨?_, ?_, ?_, ?_, ?_, ?_, ?_, ?_, ?_, ?_, ?_, ?_, ?_, ?_, ?_, ?_, ?_, ?_, ?_, ?_, ?_, ?_, ?_, ?_, ?_, ?_, ?_, ?_, ?_, ?_, ?_, ?_, ?_, ?_, ?_, ?_, ?_, ?_, ?_, ?_, ?_, ?_, ?_, ?_, ?_, ?_, ?_, ?_, ?_, ?_, ?_, ?_, ?_, ?_, ?_, ?_, ?_, ?_, ?_, ?_, ?_, ?_, ?_, ?_, ?_, ?_, ?_, ?_, ?_, ?_, ?_, ?_, ?_, ?_, ?_, ?_, ?_, trivial⟩ ?_
  · intro xs W hB hp K hK
    rw [if_pos (wanted_none rfl _)]
    clear hp
    exact wp_load_vote _ rfl gz 0 rfl z (HZ4.out.same (hB.block _ hgz)) (hK _ _ (Below.refl _ _) rfl)
  · intro xs W hB hp K hK
    rw [if_pos (wanted_none rfl _)]
    clear hp
    go_simp
    exact hK _ _ (Below.refl _ _) rfl
  · intro xs W hB hp K hK
    rw [if_pos (wanted_none rfl _)]
    clear hp
    go_simp
    exact hK _ _ (Below.refl _ _) rfl
  · intro xs W hB hp K hK
    rw [if_pos (wanted_none rfl _)]
    have h2 : xs 2 = .pointer (some ⟨b, 0, none⟩) := hp.1 rfl
    clear hp
    have cc := (HT4.out.below hB).c0
    simp only [h2] at hK ⊢
    clear h2
    go_simp
    exact hK _ _ (Below.refl _ _) rfl
  · intro xs W hB hp K hK
    rw [if_pos (wanted_none rfl _)]
    clear hp
    go_simp
    exact hK _ _ (Below.refl _ _) rfl
  · intro xs W hB hp K hK
    rw [if_pos (wanted_none rfl _)]
    have h4 : xs 4 = .pointer (some ⟨b, 1, none⟩) := hp.1 rfl
    clear hp
    have cc := (HT4.out.below hB).c1
    simp only [h4] at hK ⊢
    clear h4
    go_simp
    exact hK _ _ (Below.refl _ _) rfl
  · intro xs W hB hp K hK
    rw [if_pos (wanted_none rfl _)]
    clear hp
    go_simp
    exact hK _ _ (Below.refl _ _) rfl
  · intro xs W hB hp K hK
    rw [if_pos (wanted_none rfl _)]
    have h6 : xs 6 = .pointer (some ⟨b, 2, none⟩) := hp.1 rfl
    clear hp
    have cc := (HT4.out.below hB).c2
    simp only [h6] at hK ⊢
    clear h6
    go_simp
    exact hK _ _ (Below.refl _ _) rfl
  · intro xs W hB hp K hK
    rw [if_pos (wanted_none rfl _)]
    clear hp
    go_simp
    exact hK _ _ (Below.refl _ _) rfl
  · intro xs W hB hp K hK
    rw [if_pos (wanted_none rfl _)]
    have h8 : xs 8 = .pointer (some ⟨b, 3, none⟩) := hp.1 rfl
    clear hp
    exact wp_load_hash _ rfl b 3 h8 x.1.sum (HT4.out.below hB).sum (hK _ _ (Below.refl _ _) rfl)
  · intro xs W hB hp K hK
    rw [if_pos (wanted_none rfl _)]
    clear hp
    go_simp
    exact hK _ _ (Below.refl _ _) rfl
  · intro xs W hB hp K hK
    rw [if_pos (wanted_none rfl _)]
    have h10 : xs 10 = .pointer (some ⟨b, 35, none⟩) := hp.1 rfl
    clear hp
    have cc := (HT4.out.below hB).c35
    simp only [h10] at hK ⊢
    clear h10
    go_simp
    exact hK _ _ (Below.refl _ _) rfl
  · intro xs W hB hp K hK
    rw [if_pos (wanted_none rfl _)]
    have h1 : xs 1 = .pointer (some ⟨xg, 0, none⟩) := hp.1 rfl
    have h3 : xs 3 = .int .i64 x.1.k := hp.2.1 rfl
    have h5 : xs 5 = .int .i64 x.1.s := hp.2.2.1 rfl
    have h7 : xs 7 = .int .i64 x.1.v := hp.2.2.2.1 rfl
    have h9 : xs 9 = .agg (row .u8 32 x.1.sum) := hp.2.2.2.2.1 rfl
    have h11 : xs 11 = .int .i64 x.1.f := hp.2.2.2.2.2.1 rfl
    clear hp
    simp only [h1, h3, h5, h7, h9, h11] at hK ⊢
    clear h1 h3 h5 h7 h9 h11
    go_simp
    refine (rCast_any xg n (oneF 1) x.1.k x.1.s x.1.v x.1.sum x.1.f W (HT4.out.below hB).ref x.2.1 x.2.2.1 x.2.2.2.1 x.2.2.2.2).mono ?_
    rintro e w' ⟨rfl, hB'⟩
    rw [HZ.out]
    exact hK _ _ hB' rfl
  · intro xs W hB hp K hK
    rw [if_pos (wanted_none rfl _)]
    have h0 : xs 0 = .agg z.cells := hp.1 rfl
    have h12 : xs 12 = .agg z.cells := hp.2.1 rfl
    clear hp
    have heq := equalIn_vote z
    simp only [h0, h12] at hK ⊢
    clear h0 h12
    go_simp
    exact hK _ _ (Below.refl _ _) (by first | rfl | (show Value.bool _ = _; simp; done) | (show Value.bool _ = _; simp; omega))
  · intro xs W hB hp K hK
    rw [if_pos (wanted_none rfl _)]
    have h13 : xs 13 = .bool true := hp.1 rfl
    clear hp
    simp only [h13] at hK ⊢
    clear h13
    go_simp
    exact hK _ _ (Below.refl _ _) rfl
  · intro xs W hB hp K hK
    have hgd : xs 14 = .bool true := hp.1 rfl
    rw [wanted_g (b := true) rfl (by show (match some (xs 14) with | some (.bool b) => some b | _ => none) = some true; rw [hgd])]
    rw [if_pos (show (true == true) = true from rfl)]
    clear hgd
    clear hp
    go_simp
    exact hK _ _ (Below.refl _ _) rfl
  · intro xs W hB hp K hK
    have hgd : xs 14 = .bool true := hp.1 rfl
    rw [wanted_g (b := true) rfl (by show (match some (xs 14) with | some (.bool b) => some b | _ => none) = some true; rw [hgd])]
    rw [if_pos (show (true == true) = true from rfl)]
    clear hgd
    clear hp
    exact wp_load_vote _ rfl b 0 rfl x.1 (HT4.out.below hB).vote (hK _ _ (Below.refl _ _) rfl)
  · intro xs W hB hp K hK
    have hgd : xs 14 = .bool true := hp.2.2.1 rfl
    rw [wanted_g (b := true) rfl (by show (match some (xs 14) with | some (.bool b) => some b | _ => none) = some true; rw [hgd])]
    rw [if_pos (show (true == true) = true from rfl)]
    clear hgd
    have h15 : xs 15 = .pointer (some ⟨rg, 0, none⟩) := hp.1 rfl
    have h16 : xs 16 = .agg x.1.cells := hp.2.1 rfl
    clear hp
    simp only [h15, h16] at hK ⊢
    clear h15 h16
    go_simp
    refine (good_any _ (some (oneF 1, n)) x.1 W (HT4.out.below hB).ring x.2).mono ?_
    rintro e w' ⟨rfl, hB'⟩
    rw [HGD.out]
    exact hK _ _ hB' rfl
  · intro xs W hB hp K hK
    have hgd : xs 14 = .bool true := hp.1 rfl
    rw [wanted_g (b := true) rfl (by show (match some (xs 14) with | some (.bool b) => some b | _ => none) = some true; rw [hgd])]
    rw [if_pos (show (true == true) = true from rfl)]
    clear hgd
    clear hp
    go_simp
    exact hK _ _ (Below.refl _ _) rfl
  · intro xs W hB hp K hK
    have hgd : xs 14 = .bool true := hp.1 rfl
    rw [wanted_g (b := true) rfl (by show (match some (xs 14) with | some (.bool b) => some b | _ => none) = some true; rw [hgd])]
    rw [if_pos (show (true == true) = true from rfl)]
    clear hgd
    clear hp
    exact wp_load_vote _ rfl b 0 rfl x.1 (HT4.out.below hB).vote (hK _ _ (Below.refl _ _) rfl)
  · intro xs W hB hp K hK
    have hgd : xs 14 = .bool true := hp.2.2.2.1 rfl
    rw [wanted_g (b := true) rfl (by show (match some (xs 14) with | some (.bool b) => some b | _ => none) = some true; rw [hgd])]
    rw [if_pos (show (true == true) = true from rfl)]
    clear hgd
    have h18 : xs 18 = .pointer (some ⟨xg, 0, none⟩) := hp.1 rfl
    have h19 : xs 19 = .agg x.1.cells := hp.2.1 rfl
    clear hp
    simp only [h18, h19] at hK ⊢
    clear h18 h19
    go_simp
    refine (rGood_any xg n (oneF 1) x.1 W (HT4.out.below hB).ref x.2).mono ?_
    rintro e w' ⟨rfl, hB'⟩
    rw [HGD.out]
    exact hK _ _ hB' rfl
  · intro xs W hB hp K hK
    have hgd : xs 14 = .bool true := hp.2.2.1 rfl
    rw [wanted_g (b := true) rfl (by show (match some (xs 14) with | some (.bool b) => some b | _ => none) = some true; rw [hgd])]
    rw [if_pos (show (true == true) = true from rfl)]
    clear hgd
    have h17 : xs 17 = .bool gd := hp.1 rfl
    have h20 : xs 20 = .bool gd := hp.2.1 rfl
    clear hp
    simp only [h17, h20] at hK ⊢
    clear h17 h20
    go_simp
    exact hK _ _ (Below.refl _ _) (by first | rfl | (show Value.bool _ = _; simp; done) | (show Value.bool _ = _; simp; omega))
  · intro xs W hB hp K hK
    rw [if_pos (wanted_none rfl _)]
    have h14 : xs 14 = .bool true := hp.1 rfl
    have h21 : xs 21 = .bool true := hp.2.1 rfl
    clear hp
    simp only [h14, h21] at hK ⊢
    clear h14 h21
    go_simp
    exact hK _ _ (Below.refl _ _) rfl
  · intro xs W hB hp K hK
    rw [if_pos (wanted_none rfl _)]
    have h22 : xs 22 = .bool true := hp.1 rfl
    clear hp
    simp only [h22] at hK ⊢
    clear h22
    go_simp
    exact hK _ _ (Below.refl _ _) rfl
  · intro xs W hB hp K hK
    have hgd : xs 23 = .bool true := hp.1 rfl
    rw [wanted_g (b := true) rfl (by show (match some (xs 23) with | some (.bool b) => some b | _ => none) = some true; rw [hgd])]
    rw [if_pos (show (true == true) = true from rfl)]
    clear hgd
    clear hp
    go_simp
    exact hK _ _ (Below.refl _ _) rfl
  · intro xs W hB hp K hK
    have hgd : xs 23 = .bool true := hp.1 rfl
    rw [wanted_g (b := true) rfl (by show (match some (xs 23) with | some (.bool b) => some b | _ => none) = some true; rw [hgd])]
    rw [if_pos (show (true == true) = true from rfl)]
    clear hgd
    clear hp
    go_simp
    exact hK _ _ (Below.refl _ _) rfl
  · intro xs W hB hp K hK
    have hgd : xs 23 = .bool true := hp.1 rfl
    rw [wanted_g (b := true) rfl (by show (match some (xs 23) with | some (.bool b) => some b | _ => none) = some true; rw [hgd])]
    rw [if_pos (show (true == true) = true from rfl)]
    clear hgd
    clear hp
    go_simp
    exact hK _ _ (Below.refl _ _) rfl
  · intro xs W hB hp K hK
    have hgd : xs 23 = .bool true := hp.2.1 rfl
    rw [wanted_g (b := true) rfl (by show (match some (xs 23) with | some (.bool b) => some b | _ => none) = some true; rw [hgd])]
    rw [if_pos (show (true == true) = true from rfl)]
    clear hgd
    have h26 : xs 26 = .pointer (some ⟨b, 0, none⟩) := hp.1 rfl
    clear hp
    have cc := (HT4.out.below hB).c0
    simp only [h26] at hK ⊢
    clear h26
    go_simp
    exact hK _ _ (Below.refl _ _) rfl
  · intro xs W hB hp K hK
    have hgd : xs 23 = .bool true := hp.1 rfl
    rw [wanted_g (b := true) rfl (by show (match some (xs 23) with | some (.bool b) => some b | _ => none) = some true; rw [hgd])]
    rw [if_pos (show (true == true) = true from rfl)]
    clear hgd
    clear hp
    go_simp
    exact hK _ _ (Below.refl _ _) rfl
  · intro xs W hB hp K hK
    have hgd : xs 23 = .bool true := hp.2.1 rfl
    rw [wanted_g (b := true) rfl (by show (match some (xs 23) with | some (.bool b) => some b | _ => none) = some true; rw [hgd])]
    rw [if_pos (show (true == true) = true from rfl)]
    clear hgd
    have h28 : xs 28 = .pointer (some ⟨b, 1, none⟩) := hp.1 rfl
    clear hp
    have cc := (HT4.out.below hB).c1
    simp only [h28] at hK ⊢
    clear h28
    go_simp
    exact hK _ _ (Below.refl _ _) rfl
  · intro xs W hB hp K hK
    have hgd : xs 23 = .bool true := hp.1 rfl
    rw [wanted_g (b := true) rfl (by show (match some (xs 23) with | some (.bool b) => some b | _ => none) = some true; rw [hgd])]
    rw [if_pos (show (true == true) = true from rfl)]
    clear hgd
    clear hp
    go_simp
    exact hK _ _ (Below.refl _ _) rfl
  · intro xs W hB hp K hK
    have hgd : xs 23 = .bool true := hp.2.1 rfl
    rw [wanted_g (b := true) rfl (by show (match some (xs 23) with | some (.bool b) => some b | _ => none) = some true; rw [hgd])]
    rw [if_pos (show (true == true) = true from rfl)]
    clear hgd
    have h30 : xs 30 = .pointer (some ⟨b, 2, none⟩) := hp.1 rfl
    clear hp
    have cc := (HT4.out.below hB).c2
    simp only [h30] at hK ⊢
    clear h30
    go_simp
    exact hK _ _ (Below.refl _ _) rfl
  · intro xs W hB hp K hK
    have hgd : xs 23 = .bool true := hp.1 rfl
    rw [wanted_g (b := true) rfl (by show (match some (xs 23) with | some (.bool b) => some b | _ => none) = some true; rw [hgd])]
    rw [if_pos (show (true == true) = true from rfl)]
    clear hgd
    clear hp
    go_simp
    exact hK _ _ (Below.refl _ _) rfl
  · intro xs W hB hp K hK
    have hgd : xs 23 = .bool true := hp.2.1 rfl
    rw [wanted_g (b := true) rfl (by show (match some (xs 23) with | some (.bool b) => some b | _ => none) = some true; rw [hgd])]
    rw [if_pos (show (true == true) = true from rfl)]
    clear hgd
    have h32 : xs 32 = .pointer (some ⟨b, 3, none⟩) := hp.1 rfl
    clear hp
    exact wp_load_hash _ rfl b 3 h32 x.1.sum (HT4.out.below hB).sum (hK _ _ (Below.refl _ _) rfl)
  · intro xs W hB hp K hK
    have hgd : xs 23 = .bool true := hp.2.2.2.2.2.2.1 rfl
    rw [wanted_g (b := true) rfl (by show (match some (xs 23) with | some (.bool b) => some b | _ => none) = some true; rw [hgd])]
    rw [if_pos (show (true == true) = true from rfl)]
    clear hgd
    have h24 : xs 24 = .pointer (some ⟨rg, 0, none⟩) := hp.1 rfl
    have h25 : xs 25 = .slice ao ys.length cap := hp.2.1 rfl
    have h27 : xs 27 = .int .i64 x.1.k := hp.2.2.1 rfl
    have h29 : xs 29 = .int .i64 x.1.s := hp.2.2.2.1 rfl
    have h31 : xs 31 = .int .i64 x.1.v := hp.2.2.2.2.1 rfl
    have h33 : xs 33 = .agg (row .u8 32 x.1.sum) := hp.2.2.2.2.2.1 rfl
    clear hp
    simp only [h24, h25, h27, h29, h31, h33] at hK ⊢
    clear h24 h25 h27 h29 h31 h33
    go_simp
    refine (who_any _ (some (oneF 1, n)) ao cap ys x.1.k x.1.s x.1.v x.1.sum W (HT4.out.below hB).ring (HT4.out.below hB).row).mono ?_
    rintro e w' ⟨u, rfl, hO, hB'⟩
    rw [HL.out] at hO
    exact hK _ _ hB' (hO.mono hB.size)
  · intro xs W hB hp K hK
    have hgd : xs 23 = .bool true := hp.1 rfl
    rw [wanted_g (b := true) rfl (by show (match some (xs 23) with | some (.bool b) => some b | _ => none) = some true; rw [hgd])]
    rw [if_pos (show (true == true) = true from rfl)]
    clear hgd
    clear hp
    go_simp
    exact hK _ _ (Below.refl _ _) rfl
  · intro xs W hB hp K hK
    have hgd : xs 23 = .bool true := hp.1 rfl
    rw [wanted_g (b := true) rfl (by show (match some (xs 23) with | some (.bool b) => some b | _ => none) = some true; rw [hgd])]
    rw [if_pos (show (true == true) = true from rfl)]
    clear hgd
    clear hp
    go_simp
    exact hK _ _ (Below.refl _ _) rfl
  · intro xs W hB hp K hK
    have hgd : xs 23 = .bool true := hp.1 rfl
    rw [wanted_g (b := true) rfl (by show (match some (xs 23) with | some (.bool b) => some b | _ => none) = some true; rw [hgd])]
    rw [if_pos (show (true == true) = true from rfl)]
    clear hgd
    clear hp
    go_simp
    exact hK _ _ (Below.refl _ _) rfl
  · intro xs W hB hp K hK
    have hgd : xs 23 = .bool true := hp.2.1 rfl
    rw [wanted_g (b := true) rfl (by show (match some (xs 23) with | some (.bool b) => some b | _ => none) = some true; rw [hgd])]
    rw [if_pos (show (true == true) = true from rfl)]
    clear hgd
    have h37 : xs 37 = .pointer (some ⟨b, 0, none⟩) := hp.1 rfl
    clear hp
    have cc := (HT4.out.below hB).c0
    simp only [h37] at hK ⊢
    clear h37
    go_simp
    exact hK _ _ (Below.refl _ _) rfl
  · intro xs W hB hp K hK
    have hgd : xs 23 = .bool true := hp.1 rfl
    rw [wanted_g (b := true) rfl (by show (match some (xs 23) with | some (.bool b) => some b | _ => none) = some true; rw [hgd])]
    rw [if_pos (show (true == true) = true from rfl)]
    clear hgd
    clear hp
    go_simp
    exact hK _ _ (Below.refl _ _) rfl
  · intro xs W hB hp K hK
    have hgd : xs 23 = .bool true := hp.2.1 rfl
    rw [wanted_g (b := true) rfl (by show (match some (xs 23) with | some (.bool b) => some b | _ => none) = some true; rw [hgd])]
    rw [if_pos (show (true == true) = true from rfl)]
    clear hgd
    have h39 : xs 39 = .pointer (some ⟨b, 1, none⟩) := hp.1 rfl
    clear hp
    have cc := (HT4.out.below hB).c1
    simp only [h39] at hK ⊢
    clear h39
    go_simp
    exact hK _ _ (Below.refl _ _) rfl
  · intro xs W hB hp K hK
    have hgd : xs 23 = .bool true := hp.1 rfl
    rw [wanted_g (b := true) rfl (by show (match some (xs 23) with | some (.bool b) => some b | _ => none) = some true; rw [hgd])]
    rw [if_pos (show (true == true) = true from rfl)]
    clear hgd
    clear hp
    go_simp
    exact hK _ _ (Below.refl _ _) rfl
  · intro xs W hB hp K hK
    have hgd : xs 23 = .bool true := hp.2.1 rfl
    rw [wanted_g (b := true) rfl (by show (match some (xs 23) with | some (.bool b) => some b | _ => none) = some true; rw [hgd])]
    rw [if_pos (show (true == true) = true from rfl)]
    clear hgd
    have h41 : xs 41 = .pointer (some ⟨b, 2, none⟩) := hp.1 rfl
    clear hp
    have cc := (HT4.out.below hB).c2
    simp only [h41] at hK ⊢
    clear h41
    go_simp
    exact hK _ _ (Below.refl _ _) rfl
  · intro xs W hB hp K hK
    have hgd : xs 23 = .bool true := hp.1 rfl
    rw [wanted_g (b := true) rfl (by show (match some (xs 23) with | some (.bool b) => some b | _ => none) = some true; rw [hgd])]
    rw [if_pos (show (true == true) = true from rfl)]
    clear hgd
    clear hp
    go_simp
    exact hK _ _ (Below.refl _ _) rfl
  · intro xs W hB hp K hK
    have hgd : xs 23 = .bool true := hp.2.1 rfl
    rw [wanted_g (b := true) rfl (by show (match some (xs 23) with | some (.bool b) => some b | _ => none) = some true; rw [hgd])]
    rw [if_pos (show (true == true) = true from rfl)]
    clear hgd
    have h43 : xs 43 = .pointer (some ⟨b, 3, none⟩) := hp.1 rfl
    clear hp
    exact wp_load_hash _ rfl b 3 h43 x.1.sum (HT4.out.below hB).sum (hK _ _ (Below.refl _ _) rfl)
  · intro xs W hB hp K hK
    have hgd : xs 23 = .bool true := hp.2.2.2.2.2.2.2.1 rfl
    rw [wanted_g (b := true) rfl (by show (match some (xs 23) with | some (.bool b) => some b | _ => none) = some true; rw [hgd])]
    rw [if_pos (show (true == true) = true from rfl)]
    clear hgd
    have h35 : xs 35 = .pointer (some ⟨xg, 0, none⟩) := hp.1 rfl
    have h36 : xs 36 = .slice ao ys.length cap := hp.2.1 rfl
    have h38 : xs 38 = .int .i64 x.1.k := hp.2.2.1 rfl
    have h40 : xs 40 = .int .i64 x.1.s := hp.2.2.2.1 rfl
    have h42 : xs 42 = .int .i64 x.1.v := hp.2.2.2.2.1 rfl
    have h44 : xs 44 = .agg (row .u8 32 x.1.sum) := hp.2.2.2.2.2.1 rfl
    clear hp
    simp only [h35, h36, h38, h40, h42, h44] at hK ⊢
    clear h35 h36 h38 h40 h42 h44
    go_simp
    refine (rWho_any xg n (oneF 1) ao cap ys x.1.k x.1.s x.1.v x.1.sum W (HT4.out.below hB).ref hn1 (HT4.out.below hB).row).mono ?_
    rintro e w' ⟨u, rfl, hO, hB'⟩
    rw [whoR_whoL, HL.out] at hO
    exact hK _ _ hB' (hO.mono hB.size)
  · intro xs W hB hp K hK
    have hgd : xs 23 = .bool true := hp.2.2.2.1 rfl
    rw [wanted_g (b := true) rfl (by show (match some (xs 23) with | some (.bool b) => some b | _ => none) = some true; rw [hgd])]
    rw [if_pos (show (true == true) = true from rfl)]
    clear hgd
    have h34 : OwnI W w4.heap.size (xs 34) L := hp.1 rfl
    have h45 : OwnI W w4.heap.size (xs 45) L := hp.2.1 rfl
    clear hp
    obtain ⟨ua, uc, e1⟩ := h34.len
    obtain ⟨va, vc, e2⟩ := h45.len
    rw [e1] at h34
    rw [e2] at h45
    simp only [e1, e2] at hK ⊢
    have H1 : Hid (OwnI W w4.heap.size (.slice ua L.length uc) L) := h34
    have H2 : Hid (OwnI W w4.heap.size (.slice va L.length vc) L) := h45
    clear h34 h45 e1 e2
    go_simp
    refine (ints6_same w4.heap.size w4.heap.size _ _ L W H1.out H2.out hl10).mono ?_
    rintro e w' ⟨rfl, q, rfl⟩
    exact hK _ _ ⟨rfl, rfl, rfl, Nat.le_refl _, fun _ _ => rfl⟩ rfl
  · intro xs W hB hp K hK
    rw [if_pos (wanted_none rfl _)]
    have h23 : xs 23 = .bool true := hp.1 rfl
    have h46 : xs 46 = .bool true := hp.2.1 rfl
    clear hp
    simp only [h23, h46] at hK ⊢
    clear h23 h46
    go_simp
    exact hK _ _ (Below.refl _ _) rfl
  · intro xs W hB hp K hK
    rw [if_pos (wanted_none rfl _)]
    have h47 : xs 47 = .bool true := hp.1 rfl
    clear hp
    simp only [h47] at hK ⊢
    clear h47
    go_simp
    exact hK _ _ (Below.refl _ _) rfl
  · intro xs W hB hp K hK
    have hgd : xs 48 = .bool true := hp.1 rfl
    rw [wanted_g (b := true) rfl (by show (match some (xs 48) with | some (.bool b) => some b | _ => none) = some true; rw [hgd])]
    rw [if_pos (show (true == true) = true from rfl)]
    clear hgd
    clear hp
    go_simp
    exact hK _ _ (Below.refl _ _) rfl
  · intro xs W hB hp K hK
    have hgd : xs 48 = .bool true := hp.1 rfl
    rw [wanted_g (b := true) rfl (by show (match some (xs 48) with | some (.bool b) => some b | _ => none) = some true; rw [hgd])]
    rw [if_pos (show (true == true) = true from rfl)]
    clear hgd
    clear hp
    go_simp
    exact hK _ _ (Below.refl _ _) rfl
  · intro xs W hB hp K hK
    have hgd : xs 48 = .bool true := hp.1 rfl
    rw [wanted_g (b := true) rfl (by show (match some (xs 48) with | some (.bool b) => some b | _ => none) = some true; rw [hgd])]
    rw [if_pos (show (true == true) = true from rfl)]
    clear hgd
    clear hp
    go_simp
    exact hK _ _ (Below.refl _ _) rfl
  · intro xs W hB hp K hK
    have hgd : xs 48 = .bool true := hp.2.1 rfl
    rw [wanted_g (b := true) rfl (by show (match some (xs 48) with | some (.bool b) => some b | _ => none) = some true; rw [hgd])]
    rw [if_pos (show (true == true) = true from rfl)]
    clear hgd
    have h51 : xs 51 = .pointer (some ⟨b, 0, none⟩) := hp.1 rfl
    clear hp
    have cc := (HT4.out.below hB).c0
    simp only [h51] at hK ⊢
    clear h51
    go_simp
    exact hK _ _ (Below.refl _ _) rfl
  · intro xs W hB hp K hK
    have hgd : xs 48 = .bool true := hp.1 rfl
    rw [wanted_g (b := true) rfl (by show (match some (xs 48) with | some (.bool b) => some b | _ => none) = some true; rw [hgd])]
    rw [if_pos (show (true == true) = true from rfl)]
    clear hgd
    clear hp
    go_simp
    exact hK _ _ (Below.refl _ _) rfl
  · intro xs W hB hp K hK
    have hgd : xs 48 = .bool true := hp.2.1 rfl
    rw [wanted_g (b := true) rfl (by show (match some (xs 48) with | some (.bool b) => some b | _ => none) = some true; rw [hgd])]
    rw [if_pos (show (true == true) = true from rfl)]
    clear hgd
    have h53 : xs 53 = .pointer (some ⟨b, 1, none⟩) := hp.1 rfl
    clear hp
    have cc := (HT4.out.below hB).c1
    simp only [h53] at hK ⊢
    clear h53
    go_simp
    exact hK _ _ (Below.refl _ _) rfl
  · intro xs W hB hp K hK
    have hgd : xs 48 = .bool true := hp.1 rfl
    rw [wanted_g (b := true) rfl (by show (match some (xs 48) with | some (.bool b) => some b | _ => none) = some true; rw [hgd])]
    rw [if_pos (show (true == true) = true from rfl)]
    clear hgd
    clear hp
    go_simp
    exact hK _ _ (Below.refl _ _) rfl
  · intro xs W hB hp K hK
    have hgd : xs 48 = .bool true := hp.2.1 rfl
    rw [wanted_g (b := true) rfl (by show (match some (xs 48) with | some (.bool b) => some b | _ => none) = some true; rw [hgd])]
    rw [if_pos (show (true == true) = true from rfl)]
    clear hgd
    have h55 : xs 55 = .pointer (some ⟨b, 2, none⟩) := hp.1 rfl
    clear hp
    have cc := (HT4.out.below hB).c2
    simp only [h55] at hK ⊢
    clear h55
    go_simp
    exact hK _ _ (Below.refl _ _) rfl
  · intro xs W hB hp K hK
    have hgd : xs 48 = .bool true := hp.1 rfl
    rw [wanted_g (b := true) rfl (by show (match some (xs 48) with | some (.bool b) => some b | _ => none) = some true; rw [hgd])]
    rw [if_pos (show (true == true) = true from rfl)]
    clear hgd
    clear hp
    go_simp
    exact hK _ _ (Below.refl _ _) rfl
  · intro xs W hB hp K hK
    have hgd : xs 48 = .bool true := hp.2.1 rfl
    rw [wanted_g (b := true) rfl (by show (match some (xs 48) with | some (.bool b) => some b | _ => none) = some true; rw [hgd])]
    rw [if_pos (show (true == true) = true from rfl)]
    clear hgd
    have h57 : xs 57 = .pointer (some ⟨b, 3, none⟩) := hp.1 rfl
    clear hp
    exact wp_load_hash _ rfl b 3 h57 x.1.sum (HT4.out.below hB).sum (hK _ _ (Below.refl _ _) rfl)
  · intro xs W hB hp K hK
    have hgd : xs 48 = .bool true := hp.2.2.2.2.2.2.1 rfl
    rw [wanted_g (b := true) rfl (by show (match some (xs 48) with | some (.bool b) => some b | _ => none) = some true; rw [hgd])]
    rw [if_pos (show (true == true) = true from rfl)]
    clear hgd
    have h49 : xs 49 = .pointer (some ⟨rg, 0, none⟩) := hp.1 rfl
    have h50 : xs 50 = .slice ao ys.length cap := hp.2.1 rfl
    have h52 : xs 52 = .int .i64 x.1.k := hp.2.2.1 rfl
    have h54 : xs 54 = .int .i64 x.1.s := hp.2.2.2.1 rfl
    have h56 : xs 56 = .int .i64 x.1.v := hp.2.2.2.2.1 rfl
    have h58 : xs 58 = .agg (row .u8 32 x.1.sum) := hp.2.2.2.2.2.1 rfl
    clear hp
    simp only [h49, h50, h52, h54, h56, h58] at hK ⊢
    clear h49 h50 h52 h54 h56 h58
    go_simp
    refine (meets_any _ (some (oneF 1, n)) ao cap ys x.1.k x.1.s x.1.v x.1.sum W (HT4.out.below hB).ring (by exact hn1) (HT4.out.below hB).row).mono ?_
    rintro e w' ⟨rfl, hB'⟩
    rw [HMT.out]
    exact hK _ _ hB' rfl
  · intro xs W hB hp K hK
    have hgd : xs 48 = .bool true := hp.1 rfl
    rw [wanted_g (b := true) rfl (by show (match some (xs 48) with | some (.bool b) => some b | _ => none) = some true; rw [hgd])]
    rw [if_pos (show (true == true) = true from rfl)]
    clear hgd
    clear hp
    go_simp
    exact hK _ _ (Below.refl _ _) rfl
  · intro xs W hB hp K hK
    have hgd : xs 48 = .bool true := hp.1 rfl
    rw [wanted_g (b := true) rfl (by show (match some (xs 48) with | some (.bool b) => some b | _ => none) = some true; rw [hgd])]
    rw [if_pos (show (true == true) = true from rfl)]
    clear hgd
    clear hp
    go_simp
    exact hK _ _ (Below.refl _ _) rfl
  · intro xs W hB hp K hK
    have hgd : xs 48 = .bool true := hp.1 rfl
    rw [wanted_g (b := true) rfl (by show (match some (xs 48) with | some (.bool b) => some b | _ => none) = some true; rw [hgd])]
    rw [if_pos (show (true == true) = true from rfl)]
    clear hgd
    clear hp
    go_simp
    exact hK _ _ (Below.refl _ _) rfl
  · intro xs W hB hp K hK
    have hgd : xs 48 = .bool true := hp.2.1 rfl
    rw [wanted_g (b := true) rfl (by show (match some (xs 48) with | some (.bool b) => some b | _ => none) = some true; rw [hgd])]
    rw [if_pos (show (true == true) = true from rfl)]
    clear hgd
    have h62 : xs 62 = .pointer (some ⟨b, 0, none⟩) := hp.1 rfl
    clear hp
    have cc := (HT4.out.below hB).c0
    simp only [h62] at hK ⊢
    clear h62
    go_simp
    exact hK _ _ (Below.refl _ _) rfl
  · intro xs W hB hp K hK
    have hgd : xs 48 = .bool true := hp.1 rfl
    rw [wanted_g (b := true) rfl (by show (match some (xs 48) with | some (.bool b) => some b | _ => none) = some true; rw [hgd])]
    rw [if_pos (show (true == true) = true from rfl)]
    clear hgd
    clear hp
    go_simp
    exact hK _ _ (Below.refl _ _) rfl
  · intro xs W hB hp K hK
    have hgd : xs 48 = .bool true := hp.2.1 rfl
    rw [wanted_g (b := true) rfl (by show (match some (xs 48) with | some (.bool b) => some b | _ => none) = some true; rw [hgd])]
    rw [if_pos (show (true == true) = true from rfl)]
    clear hgd
    have h64 : xs 64 = .pointer (some ⟨b, 1, none⟩) := hp.1 rfl
    clear hp
    have cc := (HT4.out.below hB).c1
    simp only [h64] at hK ⊢
    clear h64
    go_simp
    exact hK _ _ (Below.refl _ _) rfl
  · intro xs W hB hp K hK
    have hgd : xs 48 = .bool true := hp.1 rfl
    rw [wanted_g (b := true) rfl (by show (match some (xs 48) with | some (.bool b) => some b | _ => none) = some true; rw [hgd])]
    rw [if_pos (show (true == true) = true from rfl)]
    clear hgd
    clear hp
    go_simp
    exact hK _ _ (Below.refl _ _) rfl
  · intro xs W hB hp K hK
    have hgd : xs 48 = .bool true := hp.2.1 rfl
    rw [wanted_g (b := true) rfl (by show (match some (xs 48) with | some (.bool b) => some b | _ => none) = some true; rw [hgd])]
    rw [if_pos (show (true == true) = true from rfl)]
    clear hgd
    have h66 : xs 66 = .pointer (some ⟨b, 2, none⟩) := hp.1 rfl
    clear hp
    have cc := (HT4.out.below hB).c2
    simp only [h66] at hK ⊢
    clear h66
    go_simp
    exact hK _ _ (Below.refl _ _) rfl
  · intro xs W hB hp K hK
    have hgd : xs 48 = .bool true := hp.1 rfl
    rw [wanted_g (b := true) rfl (by show (match some (xs 48) with | some (.bool b) => some b | _ => none) = some true; rw [hgd])]
    rw [if_pos (show (true == true) = true from rfl)]
    clear hgd
    clear hp
    go_simp
    exact hK _ _ (Below.refl _ _) rfl
  · intro xs W hB hp K hK
    have hgd : xs 48 = .bool true := hp.2.1 rfl
    rw [wanted_g (b := true) rfl (by show (match some (xs 48) with | some (.bool b) => some b | _ => none) = some true; rw [hgd])]
    rw [if_pos (show (true == true) = true from rfl)]
    clear hgd
    have h68 : xs 68 = .pointer (some ⟨b, 3, none⟩) := hp.1 rfl
    clear hp
    exact wp_load_hash _ rfl b 3 h68 x.1.sum (HT4.out.below hB).sum (hK _ _ (Below.refl _ _) rfl)
  · intro xs W hB hp K hK
    have hgd : xs 48 = .bool true := hp.2.2.2.2.2.2.2.1 rfl
    rw [wanted_g (b := true) rfl (by show (match some (xs 48) with | some (.bool b) => some b | _ => none) = some true; rw [hgd])]
    rw [if_pos (show (true == true) = true from rfl)]
    clear hgd
    have h60 : xs 60 = .pointer (some ⟨xg, 0, none⟩) := hp.1 rfl
    have h61 : xs 61 = .slice ao ys.length cap := hp.2.1 rfl
    have h63 : xs 63 = .int .i64 x.1.k := hp.2.2.1 rfl
    have h65 : xs 65 = .int .i64 x.1.s := hp.2.2.2.1 rfl
    have h67 : xs 67 = .int .i64 x.1.v := hp.2.2.2.2.1 rfl
    have h69 : xs 69 = .agg (row .u8 32 x.1.sum) := hp.2.2.2.2.2.1 rfl
    clear hp
    simp only [h60, h61, h63, h65, h67, h69] at hK ⊢
    clear h60 h61 h63 h65 h67 h69
    go_simp
    refine (rMeets_any xg n (oneF 1) ao cap ys x.1.k x.1.s x.1.v x.1.sum W (HT4.out.below hB).ref hn0 hn1 (HT4.out.below hB).row).mono ?_
    rintro e w' ⟨rfl, hB'⟩
    rw [HMT.out]
    exact hK _ _ hB' rfl
  · intro xs W hB hp K hK
    have hgd : xs 48 = .bool true := hp.2.2.1 rfl
    rw [wanted_g (b := true) rfl (by show (match some (xs 48) with | some (.bool b) => some b | _ => none) = some true; rw [hgd])]
    rw [if_pos (show (true == true) = true from rfl)]
    clear hgd
    have h59 : xs 59 = .bool mt := hp.1 rfl
    have h70 : xs 70 = .bool mt := hp.2.1 rfl
    clear hp
    simp only [h59, h70] at hK ⊢
    clear h59 h70
    go_simp
    exact hK _ _ (Below.refl _ _) (by first | rfl | (show Value.bool _ = _; simp; done) | (show Value.bool _ = _; simp; omega))
  · intro xs W hB hp K hK
    rw [if_pos (wanted_none rfl _)]
    have h48 : xs 48 = .bool true := hp.1 rfl
    have h71 : xs 71 = .bool true := hp.2.1 rfl
    clear hp
    simp only [h48, h71] at hK ⊢
    clear h48 h71
    go_simp
    exact hK _ _ (Below.refl _ _) rfl
  · intro xs W hB hp K hK
    rw [if_pos (wanted_none rfl _)]
    have h72 : xs 72 = .bool true := hp.1 rfl
    clear hp
    simp only [h72] at hK ⊢
    clear h72
    go_simp
    exact hK _ _ (Below.refl _ _) rfl
  · intro xs W hB hp K hK
    have hgd : xs 73 = .bool true := hp.1 rfl
    rw [wanted_g (b := true) rfl (by show (match some (xs 73) with | some (.bool b) => some b | _ => none) = some true; rw [hgd])]
    rw [if_pos (show (true == true) = true from rfl)]
    clear hgd
    clear hp
    go_simp
    refine (known6_any W).mono ?_
    rintro e w' ⟨rfl, hB'⟩
    exact hK _ _ hB' rfl
  · intro xs W hB hp K hK
    rw [if_pos (wanted_none rfl _)]
    have h73 : xs 73 = .bool true := hp.1 rfl
    have h74 : xs 74 = .bool true := hp.2.1 rfl
    clear hp
    simp only [h73, h74] at hK ⊢
    clear h73 h74
    go_simp
    exact hK _ _ (Below.refl _ _) rfl
  · intro xs W hB hp K hK
    rw [if_pos (wanted_none rfl _)]
    have h75 : xs 75 = .bool true := hp.1 rfl
    clear hp
    simp only [h75] at hK ⊢
    clear h75
    go_simp
    exact hK _ _ (Below.refl _ _) rfl
  · intro xs W hB hs
    have h76 : xs 76 = .bool true := hs 76 (by simp)
    simp only [h76]
    go_wp2_with fail
    go_ret
    exact ⟨rfl, hBw4.trans (hB.mono hBw4.size)⟩
set_option maxRecDepth 10000 in
set_option maxHeartbeats 1000000 in
theorem certTells_any (nodes : Int) (ao : Option Addr) (cap : Nat) (ys : List VoteW) (x : VoteW) (w : World) (h0 : -9223372036854775808 ≤ nodes) (h1 : nodes ≤ 9223372036854775807) (hV : VotesIn w ao cap ys) :
    Calls Try.prog 3 #[.int .i64 nodes, .slice ao ys.length cap, .agg x.1.cells] w fun e w' => e = .returned (.bool true) ∧ Below w.heap.size w w' := by
  by_cases h : ys.length ≤ 30
  · exact certTells_in nodes ao cap ys x w h0 h1 hV h
  · have hl30 : (30 : Int) < (ys.length : Int) := by omega
    have hBa := below_alloc w (.cells x.1.cells 26)
    clear hV h
    go_enter Try.func3, Try.ntmps3
    go_wp2_with (refine wpList_box_row rfl 26 _ rfl _ rfl ?_)
    go_ret
    exact ⟨rfl, hBa⟩
end Go.Proofs.Ytenadhpnbihijaa
