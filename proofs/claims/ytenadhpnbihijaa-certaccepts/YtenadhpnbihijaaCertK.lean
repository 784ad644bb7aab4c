/- The example that each of seneschallaw6's laws asks. No condition. -/
import Derived.Test.YtenadhpnbihijaaCertD
import Derived.Great.BuildSlice
namespace Go.Proofs.Ytenadhpnbihijaa
open Go.RowKit Go.Dig Go.Sha Go.Inv Go.Oct

/-- a vote that a node of the ring casts is good -/
theorem good_cast {seed : Nat → Int} {n : Nat} {k s v : Int} {sum : Nat → Int} {f : Int} (h : hasB n f = true) : goodR (some (seed, n)) (castR (some (seed, n)) k s v sum f) = true := check_own h
def castW (R : RingO) (k s v : Int) (sum : Nat → Int) (f : Int) (ik : inI k) (is : inI s) (iv : inI v) (if_ : inI f) : VoteW := ⟨castR R k s v sum f, ik, is, iv, if_⟩
theorem asked_cast (R : RingO) (k s v : Int) (sum : Nat → Int) (f : Int) : askedB k s v sum (castR R k s v sum f) = true := by simp [askedB, castR, rowEq_self]
theorem vote_partsK : (Try.prog.info? 26).map (fun i => (i.zero, i.size)) = some (some (.agg VoteR.zero.cells), 68) := by kernel_rfl
def rowV (zs : List VoteR) : Array Value := (zs.flatMap fun z => z.cells.toList).toArray
theorem rowV_at (zs : List VoteR) : ∀ (j : Nat) (hj : j < zs.length) (i : Nat), i < 68 → (zs.flatMap fun z => z.cells.toList)[j * 68 + i]? = zs[j].cells[i]? := by
  induction zs with
  | nil => intro j hj; simp at hj
  | cons z t ih =>
    intro j hj i hi
    rw [List.flatMap_cons, List.getElem?_append]
    have hz : z.cells.toList.length = 68 := by rw [Array.length_toList, VoteR.size]
    rw [hz]
    cases j with
    | zero => rw [if_pos (by omega)]; simp
    | succ j => rw [if_neg (by omega), show (j + 1) * 68 + i - 68 = j * 68 + i by omega, ih j (by simpa using hj) i hi]; simp
theorem rowV_in {w : World} {b : Nat} {zs : List VoteW} {t : TypeId} {fr : Nat × Nat} (h : w.heap[b]? = some (.cells (rowV (zs.map (·.1))) t fr)) (hl : zs.length ≤ 1000) : VotesIn w (some ⟨b, 0, none⟩) zs.length zs :=
  ⟨Nat.le_refl _, by unfold maxLen; omega, (fun e => by cases e), fun j hj => ⟨b, 0, rfl, fun i hi => by
    rw [cell_blk h, Nat.zero_add]
    have := rowV_at (zs.map (·.1)) j (by simpa using hj) i hi
    simp only [rowV, List.getElem?_toArray, List.getElem_map] at this ⊢
    exact this⟩⟩
section
variable {ops : Array Oper} {rest : List Oper} {o : Oper} {a : Act} {w : World} {Q : Exit → Act → World → Prop}
theorem wpList_rowV (hw : Region.wanted o (yielded ops a.tmps) = true) (m : Nat) (parts : Array (Nat × Operand)) (ho : o.op = .buildSlice 22 m parts) (zs : List VoteR) (hm : zs.length = m) (h0 : 0 < m) (hb : m ≤ 100)
    (hx : (parts.map fun (p : Nat × Operand) => (p.1, a.eval p.2)).toList = ((zs.map fun z => Value.agg z.cells).zipIdx 0).map fun x => (x.2, x.1))
    (h : wpList Try.prog ops Q rest (a.put o.dst (.slice (some ⟨w.heap.size, 0, none⟩) m m)) (w.alloc (.cells (rowV zs) 26))) : wpList Try.prog ops Q (o :: rest) a w := by
  have hp := vote_partsK
  cases hie : Try.prog.info? 26 with
  | none => rw [hie] at hp; cases hp
  | some ie =>
    rw [hie] at hp
    simp at hp
    obtain ⟨hz, hs⟩ := hp
    refine wpList_by hw fun K hK => wp_buildSlice 22 26 m parts ho (rowV zs) ie _ (by kernel_rfl) hie hz (by rw [hs]; omega) (by rw [hs]; omega) ?_ (hK _ _ h)
    have hf := Great.fill_whole (s := 68) (by decide) (zs.map fun z => Value.agg z.cells) ((Array.range (m * ie.size)).map ((Value.agg VoteR.zero.cells).cells[· % (Value.agg VoteR.zero.cells).cells.size]!)) (fun v hv => by
      obtain ⟨z, -, rfl⟩ := List.mem_map.1 hv; exact z.size) (by rw [List.length_map, hm, Array.size_map, Array.size_range, hs])
    rw [hx, hs]
    rw [hs] at hf
    rw [hf, List.flatMap_map]
    rfl
end
/-- one node's vote, told once, twice or thrice, is one node's -/
theorem who_same_vote (R : RingO) (x : VoteW) (hg : goodR R x.1 = true) (xs : List VoteW) (h : ∀ y ∈ xs, y = x) (hne : xs ≠ []) : whoL R xs = [x.1.f] := by
  have key : ∀ (xs : List VoteW), (∀ y ∈ xs, y = x) → xs.foldl (whoStep R) [x.1.f] = [x.1.f] := by
    intro xs
    induction xs with
    | nil => intro _; rfl
    | cons y t ih =>
      intro h
      obtain rfl := h y (by simp)
      rw [List.foldl_cons]
      have : whoStep R [y.1.f] y = [y.1.f] := by simp [whoStep]
      rw [this]
      exact ih (fun z hz => h z (by simp [hz]))
  cases xs with
  | nil => exact absurd rfl hne
  | cons y t =>
    obtain rfl := h y (by simp)
    unfold whoL
    rw [List.foldl_cons]
    have : whoStep R [] y = [y.1.f] := by simp [whoStep, hg, insL]
    rw [this]
    exact key t (fun z hz => h z (by simp [hz]))
abbrev ring4 : RingO := some (oneF 1, 4)
/-- known's vote -/
def kv : VoteW := castW ring4 2 1 2 (oneF 3) 0 (inI_lit (by decide) (by decide)) (inI_lit (by decide) (by decide)) (inI_lit (by decide) (by decide)) (inI_lit (by decide) (by decide))
theorem kv_good : goodR ring4 kv.1 = true := good_cast (by decide)
theorem kv_told (m : Nat) (hm : m ≤ 10) : toldL 2 1 2 (oneF 3) (List.replicate m kv) = List.replicate m kv := by
  unfold toldL
  rw [List.take_of_length_le (by simpa using hm), List.filter_eq_self]
  intro x hx
  rw [List.eq_of_mem_replicate hx]
  exact asked_cast _ _ _ _ _ _
theorem kv_who (m : Nat) (h0 : 0 < m) (hm : m ≤ 10) : whoL ring4 (toldL 2 1 2 (oneF 3) (List.replicate m kv)) = [0] := by
  rw [kv_told m hm]
  exact who_same_vote ring4 kv kv_good _ (fun y hy => List.eq_of_mem_replicate hy) (by intro e; have := congrArg List.length e; simp at this; omega)
set_option maxRecDepth 10000 in
set_option maxHeartbeats 8000000 in
theorem known6_any (w : World) : Calls Try.prog 20 #[] w fun e w' => e = .returned (.bool true) ∧ Below w.heap.size w w' := by
  go_enter Try.func20, Try.ntmps20
  go_wp2_with (refine wpList_build_to rfl 24 _ rfl (row .u8 32 (oneF 1)) (by kernel_rfl) ?_)
  refine (sNew_any 4 (oneF 1) _ (by decide) (by decide)).mono ?_
  rintro e w1 ⟨rg, rfl, hrg, hR, hB1⟩
  have hn4 : nodesOf 4 = 4 := by decide
  rw [hn4] at hR
  have HR : Hid (RingV w1 (.pointer (some ⟨rg, 0, none⟩)) ring4) := ⟨rg, rfl, hR⟩
  clear hR hn4
  go_wp2_with (refine wpList_build_to rfl 24 _ rfl (row .u8 32 (oneF 3)) (by kernel_rfl) ?_)
  refine (cast_any (.pointer (some ⟨rg, 0, none⟩)) ring4 2 1 2 (oneF 3) 0 w1 HR.out (inI_lit (by decide) (by decide)) (inI_lit (by decide) (by decide)) (inI_lit (by decide) (by decide)) (inI_lit (by decide) (by decide))).mono ?_
  rintro e w2 ⟨rfl, hB2⟩
  have hkv : castR ring4 2 1 2 (oneF 3) 0 = kv.1 := rfl
  rw [hkv]
  have HR2 : Hid (RingV w2 (.pointer (some ⟨rg, 0, none⟩)) ring4) := HR.out.below (hB2)
  have hBB : Below w.heap.size w w2 := hB1.trans (hB2.mono hB1.size)
  have hg := kv_good
  have h2 := kv_who 2 (by decide) (by decide)
  have h3 := kv_who 3 (by decide) (by decide)
  have hf : kv.1.f = 0 := rfl
  clear hB1 hB2 HR hkv
  generalize kv = x at *
  have HV : Hid (VoteAt (w2.alloc (.cells x.1.cells 26)) w2.heap.size 0 x.1) := voteAt_blk (alloc_blk _ _)
  have HV2 : Hid (VotesIn ((w2.alloc (.cells x.1.cells 26)).alloc (.cells (rowV [x.1, x.1]) 26)) (some ⟨w2.heap.size + 1, 0, none⟩) 2 (List.replicate 2 x)) := by
    have := rowV_in (zs := [x, x]) (alloc_blk (w2.alloc (.cells x.1.cells 26)) (.cells (rowV [x.1, x.1]) 26)) (by simp)
    rw [show (w2.alloc (.cells x.1.cells 26)).heap.size = w2.heap.size + 1 by simp] at this
    exact this
  go_wp2_with (first | refine wpList_alloc_vote rfl rfl ?_ | (refine wpList_store_vote rfl _ _ rfl w2 x.1 ?_ ?_ ?_ ?_; rfl; rfl; rfl) | (refine wpList_load_vote rfl _ rfl w2.heap.size 0 ?_ x.1 ?_ ?_; rfl; exact HV.out) | (refine wpList_rowV rfl 2 _ rfl [x.1, x.1] rfl (by decide) (by decide) ?_ ?_; kernel_rfl) | (refine wpList_build_to rfl 24 _ rfl (row .u8 32 (oneF 3)) ?_ ?_; kernel_rfl))
  have hBv : Below w2.heap.size w2 ((w2.alloc (.cells x.1.cells 26)).alloc (.cells (rowV [x.1, x.1]) 26)) := (below_alloc _ _).alloc (by simp) _
  have hbv : ((w2.alloc (.cells x.1.cells 26)).alloc (.cells (rowV [x.1, x.1]) 26)).heap[w2.heap.size]? = some (.cells x.1.cells 26 (0, 0)) := alloc_blk_old (alloc_blk _ _) _
  generalize (w2.alloc (.cells x.1.cells 26)).alloc (.cells (rowV [x.1, x.1]) 26) = w3 at *
  refine (who_any (.pointer (some ⟨rg, 0, none⟩)) ring4 (some ⟨w2.heap.size + 1, 0, none⟩) 2 (List.replicate 2 x) 2 1 2 (oneF 3) w3 (HR2.out.below hBv) HV2.out).mono ?_
  rintro e w4 ⟨u, rfl, hO, hB4⟩
  rw [h2] at hO
  have HR4 : Hid (RingV w4 (.pointer (some ⟨rg, 0, none⟩)) ring4) := HR2.out.below (hBv.trans (hB4.mono hBv.size))
  have hbv4 : w4.heap[w2.heap.size]? = some (.cells x.1.cells 26 (0, 0)) := (hB4.block _ (lt_blk hbv)).trans hbv
  have HB4 : Hid (Below w.heap.size w w4) := hBB.trans ((hBv.trans (hB4.mono hBv.size)).mono hBB.size)
  obtain ⟨g, cap, rfl, hcu⟩ : ∃ g cap, u = .slice (some ⟨g, 0, none⟩) 1 cap ∧ ∀ w', Below w4.heap.size w4 w' → w'.cell? ⟨g, 0, none⟩ = some (.int .i64 0) := by
    rcases hO.2 with ⟨_, h0⟩ | ⟨g, cap, cur, rfl, _, hgg, _, _, _, ht⟩
    · simp at h0
    · exact ⟨g, cap, rfl, fun w' hB' => (cell_blk ((hB'.block g (lt_blk hgg)).trans hgg) 0).trans (OwnI.cur (L := [0]) ht (k := 0) (by decide))⟩
  have HCU : Hid _ := hcu
  have HBV4 : Hid _ := hbv4
  have HV4 : Hid (VoteAt w4 w2.heap.size 0 x.1) := voteAt_blk hbv4
  clear hO hB4 hbv hBv HV HV2 hbv4 hcu HR2 hBB
  go_wp2_with (first | (refine wpList_load_vote rfl _ rfl w2.heap.size 0 ?_ x.1 ?_ ?_; rfl; exact HV4.out))
  refine (good_any (.pointer (some ⟨rg, 0, none⟩)) ring4 x.1 w4 HR4.out x.2).mono ?_
  rintro e w5 ⟨rfl, hB5⟩
  rw [hg]
  have HR5 : Hid (RingV w5 (.pointer (some ⟨rg, 0, none⟩)) ring4) := HR4.out.below hB5
  have hc5 := HCU.out w5 hB5
  have HV5 : Hid (VoteAt w5 w2.heap.size 0 x.1) := HV4.out.same (hB5.block _ (lt_blk HBV4.out))
  have HB5 : Hid (Below w.heap.size w w5) := HB4.out.trans (hB5.mono HB4.out.size)
  have HV6 : Hid (VotesIn (w5.alloc (.cells (rowV [x.1, x.1, x.1]) 26)) (some ⟨w5.heap.size, 0, none⟩) 3 (List.replicate 3 x)) := rowV_in (zs := [x, x, x]) (alloc_blk w5 (.cells (rowV [x.1, x.1, x.1]) 26)) (by simp)
  clear hB5 HV4 HR4 HB4 HCU HBV4
  go_wp2_with (first | (refine wpList_load_voteG ?_ _ rfl w2.heap.size 0 ?_ x.1 ?_ ?_; kernel_rfl; rfl; exact HV5.out) | (refine wpList_rowV ?_ 3 _ rfl [x.1, x.1, x.1] rfl (by decide) (by decide) ?_ ?_; kernel_rfl; kernel_rfl) | (refine wpList_build_g ?_ 24 _ rfl (row .u8 32 (oneF 3)) ?_ ?_; kernel_rfl; kernel_rfl))
  have hB6 := below_alloc w5 (.cells (rowV [x.1, x.1, x.1]) 26)
  generalize w5.alloc (.cells (rowV [x.1, x.1, x.1]) 26) = w6 at *
  refine (meets_any (.pointer (some ⟨rg, 0, none⟩)) ring4 (some ⟨w5.heap.size, 0, none⟩) 3 (List.replicate 3 x) 2 1 2 (oneF 3) w6 (HR5.out.below hB6) (by decide) HV6.out).mono ?_
  rintro e w7 ⟨rfl, hB7⟩
  have hm : meetsR ring4 (List.replicate 3 x) 2 1 2 (oneF 3) = false := by
    unfold meetsR
    rw [h3]
    decide
  rw [hm]
  have hB8 : Below w.heap.size w w7 := HB5.out.trans ((hB6.trans (hB7.mono hB6.size)).mono HB5.out.size)
  clear hB6 hB7 HV6 HR5 HV5 hc5
  go_wp2_with fail
  go_ret
  exact ⟨rfl, hB8⟩
end Go.Proofs.Ytenadhpnbihijaa
