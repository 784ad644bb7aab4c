/- The document's messages out of bytes: DecodeMsg. For rows of up to 2^30 bytes. -/
import Derived.Test.YtkjocpadmlobgaaWireHr
import Derived.Test.YtkjocpadmlobgaaWireHv
import Derived.Test.YtkjocpadmlobgaaWireRk
import Derived.Test.YtkjocpadmlobgaaWireRg
import Derived.Test.YtkjocpadmlobgaaWireDg
namespace Go.Proofs.Ytkjocpadmlobgaa
open Go.RowKit Go.Dig Go.Inv Go.Oct
set_option linter.unusedVariables false

theorem msg_sep {B : List Int} {m : MsgR} {P : List Int} {ys : List VoteR} (hE : encMsg m P ys = B) : B = num 1 ++ (nums [m.k, m.f, m.t, m.s, m.v] ++ (num (P.length : Int) ++ (P ++ (num (ys.length : Int) ++ (ys.flatMap voteL ++ (ofF 32 m.tag ++ [])))))) := by
  rw [← hE]
  unfold encMsg
  simp only [nums_cons, nums_nil, List.append_nil, List.append_assoc]
theorem msg_k (a0 : Int) : (#[.int .i64 a0, .int .i64 0, .int .i64 0, .int .i64 0, .int .i64 0, .slice none 0 0, .slice none 0 0, .int .u8 0, .int .u8 0, .int .u8 0, .int .u8 0, .int .u8 0, .int .u8 0, .int .u8 0, .int .u8 0, .int .u8 0, .int .u8 0, .int .u8 0, .int .u8 0, .int .u8 0, .int .u8 0, .int .u8 0, .int .u8 0, .int .u8 0, .int .u8 0, .int .u8 0, .int .u8 0, .int .u8 0, .int .u8 0, .int .u8 0, .int .u8 0, .int .u8 0, .int .u8 0, .int .u8 0, .int .u8 0, .int .u8 0, .int .u8 0, .int .u8 0, .int .u8 0] : Array Value) = MsgR.cells { MsgR.zero with k := a0 } := by kernel_rfl
theorem vote_k (a0 : Int) : (#[.int .i64 a0, .int .i64 0, .int .i64 0, .int .u8 0, .int .u8 0, .int .u8 0, .int .u8 0, .int .u8 0, .int .u8 0, .int .u8 0, .int .u8 0, .int .u8 0, .int .u8 0, .int .u8 0, .int .u8 0, .int .u8 0, .int .u8 0, .int .u8 0, .int .u8 0, .int .u8 0, .int .u8 0, .int .u8 0, .int .u8 0, .int .u8 0, .int .u8 0, .int .u8 0, .int .u8 0, .int .u8 0, .int .u8 0, .int .u8 0, .int .u8 0, .int .u8 0, .int .u8 0, .int .u8 0, .int .u8 0, .int .i64 0, .int .u8 0, .int .u8 0, .int .u8 0, .int .u8 0, .int .u8 0, .int .u8 0, .int .u8 0, .int .u8 0, .int .u8 0, .int .u8 0, .int .u8 0, .int .u8 0, .int .u8 0, .int .u8 0, .int .u8 0, .int .u8 0, .int .u8 0, .int .u8 0, .int .u8 0, .int .u8 0, .int .u8 0, .int .u8 0, .int .u8 0, .int .u8 0, .int .u8 0, .int .u8 0, .int .u8 0, .int .u8 0, .int .u8 0, .int .u8 0, .int .u8 0, .int .u8 0] : Array Value) = VoteR.cells { VoteR.zero with k := a0 } := by kernel_rfl
theorem set_msg {w : World} {g : Nat} {m m' : MsgR} {t : TypeId} {i : Nat} {v : Value} (hg : w.heap[g]? = some (.cells m.cells t (0, 0))) (h : m'.cells = m.cells.setIfInBounds i v) : (w.setCell ⟨g, i, none⟩ v).heap[g]? = some (.cells m'.cells t (0, 0)) := by
  rw [h]; exact set_blk hg _ _
/-- what stands while votes are taken -/
structure RhK (w : World) (g b9 vb : Nat) (m : MsgR) (P : List Int) (ys : List VoteR) (W : World) : Prop where
  bel : Below w.heap.size w W
  m0 : W.heap[w.heap.size]? = some (.cells MsgR.zero.cells 27 (0, 0))
  mg : W.heap[g]? = some (.cells m.cells 27 (0, 0))
  own : OwnVR W b9 (.slice m.ya m.yl m.yc) ys
  row : RowF W m.va P m.vc
  lr : w.heap.size + 1 < g
  gb : g < b9
  gv : g < vb
  ol : ∀ ad, m.ya = some ad → b9 ≤ ad.block ∧ ad.block < vb
  vl : ∀ ad, m.va = some ad → g < ad.block ∧ ad.block < b9
  bv : b9 ≤ vb
theorem ownBlock_slice {ao : Option Addr} {n c k : Nat} (h : (Value.slice ao n c).ownBlock = some k) : ∃ ad, ao = some ad ∧ ad.block = k := by
  cases ao with
  | none => simp [Value.ownBlock] at h
  | some ad => exact ⟨ad, rfl, by simpa [Value.ownBlock] using h⟩
theorem RhK.same {w W W' : World} {g b9 vb : Nat} {m : MsgR} {P : List Int} {ys : List VoteR} (h : RhK w g b9 vb m P ys W) (hB : Below w.heap.size W W') (hs : ∀ k, k < vb → k ≠ w.heap.size + 1 → W'.heap[k]? = W.heap[k]?) : RhK w g b9 vb m P ys W' := by
  have h1 := h.lr
  have h2 := h.gv
  have h3 := h.gb
  refine ⟨h.bel.trans hB, (hs _ (by omega) (by omega)).trans h.m0, (hs _ h2 (by omega)).trans h.mg, h.own.same (fun k hk => ?_), h.row.same (fun ad e => ?_), h1, h.gb, h2, h.ol, h.vl, h.bv⟩
  · obtain ⟨ad, e, rfl⟩ := ownBlock_slice hk
    have := h.ol ad e
    exact hs _ this.2 (by omega)
  · have := h.vl ad e
    have := h.bv
    exact hs _ (by omega) (by omega)
theorem RhK.keeps {w W W' : World} {g b9 vb : Nat} {m : MsgR} {P : List Int} {ys : List VoteR} (h : RhK w g b9 vb m P ys W) (hk : Keeps (w.heap.size + 1) W W') (hv : vb ≤ W.heap.size) : RhK w g b9 vb m P ys W' :=
  h.same (hk.below (by omega) (by have := h.gv; have := h.lr; omega)) (fun k h1 h2 => hk.block k (by omega) h2)
theorem RhK.push {w W26 w27 : World} {g b9 vb : Nat} {m : MsgR} {P : List Int} {ys : List VoteR} {y5 : VoteR} {ya' : Option Addr} {nl yc' : Nat} (h : RhK w g b9 vb m P ys W26) (hvb : vb ≤ W26.heap.size) (hown : OwnVR w27 b9 (.slice ya' nl yc') (ys ++ [y5])) (halt : ∀ ad, ya' = some ad → b9 ≤ ad.block ∧ ad.block < w27.heap.size) (v' : Value)
    (hgr : Gr (W26.alloc (.cells y5.cells 62)) w27 (.slice m.ya m.yl m.yc) v') :
    w27.heap[g]? = some (.cells m.cells 27 (0, 0)) ∧ RhK w g b9 (w27.setCell ⟨g, 6, none⟩ (.slice ya' nl yc')).heap.size { m with ya := ya', yl := nl, yc := yc' } P (ys ++ [y5]) (w27.setCell ⟨g, 6, none⟩ (.slice ya' nl yc')) ∧ ∀ q, q < g → (w27.setCell ⟨g, 6, none⟩ (.slice ya' nl yc')).heap[q]? = W26.heap[q]? := by
  have hgb := h.gb
  have hlr := h.lr
  have hbv := h.bv
  have hnot : ∀ k, k < b9 → (Value.slice m.ya m.yl m.yc).ownBlock ≠ some k := fun k hk e => by
    obtain ⟨ad, e', e2⟩ := ownBlock_slice e
    have := (h.ol ad e').1
    omega
  have hsz := hgr.size
  have hsa : (W26.alloc (.cells y5.cells 62)).heap.size = W26.heap.size + 1 := by simp
  have hblk : ∀ k, k < b9 → w27.heap[k]? = W26.heap[k]? := fun k hk => (hgr.block k (by omega) (hnot k hk)).trans ((below_alloc _ _).block k (by omega))
  have hg27 : w27.heap[g]? = some (.cells m.cells 27 (0, 0)) := (hblk g hgb).trans h.mg
  have hset : ∀ k, k ≠ g → (w27.setCell ⟨g, 6, none⟩ (.slice ya' nl yc')).heap[k]? = w27.heap[k]? := fun k hk => Below.heap_setCell _ _ _ _ hk
  have hss : (w27.setCell ⟨g, 6, none⟩ (.slice ya' nl yc')).heap.size = w27.heap.size := by simp [World.setCell]
  have hmg : (w27.setCell ⟨g, 6, none⟩ (.slice ya' nl yc')).heap[g]? = some (.cells (MsgR.cells { m with ya := ya', yl := nl, yc := yc' }) 27 (0, 0)) := set_msg hg27 (MsgR.set_ya m ya' nl yc')
  have hos : (w27.setCell ⟨g, 6, none⟩ (.slice ya' nl yc')).os = w27.os ∧ (w27.setCell ⟨g, 6, none⟩ (.slice ya' nl yc')).tape = w27.tape ∧ (w27.setCell ⟨g, 6, none⟩ (.slice ya' nl yc')).output = w27.output := ⟨rfl, rfl, rfl⟩
  generalize w27.setCell ⟨g, 6, none⟩ (.slice ya' nl yc') = w28 at *
  refine ⟨hg27, ⟨h.bel.trans ⟨hos.1.trans hgr.os, hos.2.1.trans hgr.tape, hos.2.2.trans hgr.output, by omega, fun k hk => (hset k (by omega)).trans (hblk k (by omega))⟩, ((hset _ (by omega)).trans (hblk _ (by omega))).trans h.m0, hmg, ?_, ?_, hlr, hgb, by omega, fun ad e => ?_, h.vl, by omega⟩, fun q hq => (hset q (by omega)).trans (hblk q (by omega))⟩
  · exact hown.same (fun k hk => hset k (by have := (hown.lt k hk).1; omega))
  · exact h.row.same (fun ad e => by
      have := h.vl ad e
      exact (hset _ (by omega)).trans (hblk _ this.2))
  · have := halt ad e
    omega
/-- votes that are taken, the document's way -/
def VTk (L Li : List Int) (er eri : Bool) (ny : Int) (ys : List VoteR) : Prop := ∀ (zs : List VoteR) (R : List Int), (zs.length : Int) = ny → (∀ z ∈ zs, VoteOk z) → L = zs.flatMap voteL ++ R → er = false → eri = false ∧ ys.length ≤ zs.length ∧ VotesEq ys (zs.take ys.length) ∧ Li = (zs.drop ys.length).flatMap voteL ++ R
def RhL (w : World) (g b9 : Nat) (m : MsgR) (P L : List Int) (er : Bool) (ny : Int) (lim i : Nat) (W : World) : Prop := ∃ (ya : Option Addr) (yc : Nat) (ys : List VoteR) (Li : List Int) (eri : Bool), RhK w g b9 W.heap.size { m with ya := ya, yl := ys.length, yc := yc } P ys W ∧ RdR W (w.heap.size + 1) Li eri ∧ ys.length = i ∧ (∀ y ∈ ys, y.wf ∧ VBytes y) ∧ VTk L Li er eri ny ys ∧ Li.length ≤ lim
theorem VotesEq.append : ∀ {l k : List VoteR} {x y : VoteR}, VotesEq l k → VoteEq x y → VotesEq (l ++ [x]) (k ++ [y])
  | [], [], _, _, _, h => ⟨h, trivial⟩
  | _ :: _, _ :: _, _, _, h, h2 => ⟨h.1, VotesEq.append h.2 h2⟩
theorem VTk.next {L Li L9 : List Int} {er eri er9 : Bool} {ny : Int} {ys : List VoteR} {y4 : VoteR} (h : VTk L Li er eri ny ys) (hlt : (ys.length : Int) < ny) (hy : ∀ (z : VoteR) (R : List Int), VoteOk z → Li = voteL z ++ R → VoteEq y4 z ∧ L9 = R ∧ er9 = eri) : VTk L L9 er er9 ny (ys ++ [y4]) := fun zs R hl hok e he => by
  obtain ⟨h1, h2, h3, h4⟩ := h zs R hl hok e he
  have hlt' : ys.length < zs.length := by omega
  have hd : zs.drop ys.length = zs[ys.length] :: zs.drop (ys.length + 1) := List.drop_eq_getElem_cons hlt'
  rw [hd, List.flatMap_cons, List.append_assoc] at h4
  obtain ⟨a1, a2, a3⟩ := hy _ _ (hok _ (List.getElem_mem hlt')) h4
  have ht : zs.take (ys.length + 1) = zs.take ys.length ++ [zs[ys.length]] := by rw [List.take_add_one, List.getElem?_eq_getElem hlt']; rfl
  rw [List.length_append, List.length_singleton, ht]
  exact ⟨a3.trans h1, hlt', h3.append a1, a2⟩
theorem vote_tookR {Li L2 L3 L4 L5 L8 L9 D D9 : List Int} {e0 e2 e3 e4 e5 e8 e9 : Bool} {k s v f : Int} (t1 : TookN Li L2 [k] e0 e2) (t2 : TookN L2 L3 [s] e2 e3) (t3 : TookN L3 L4 [v] e3 e4) (t4 : TookR L4 L5 D 32 e4 e5) (t5 : TookN L5 L8 [f] e5 e8) (t6 : TookR L8 L9 D9 32 e8 e9) (z : VoteR) (R : List Int) (hz : VoteOk z) (e : Li = voteL z ++ R) :
    VoteEq ⟨k, s, v, hashF D, f, hashF D9⟩ z ∧ L9 = R ∧ e9 = e0 := by
  unfold voteL sealedL at e
  simp only [List.append_assoc] at e
  obtain ⟨e1, e2, q1⟩ := ((t1.append t2).append t3) [z.k, z.s, z.v] _ (numOk_cons hz.1 (numOk_cons hz.2.1 (numOk_cons hz.2.2.1 numOk_nil))) rfl e
  obtain ⟨e3, e4, q2⟩ := t4 _ _ (by rw [ofF_length]; rfl) e2
  obtain ⟨e5, e6, q3⟩ := t5.one hz.2.2.2 e4
  obtain ⟨e7, e8, q4⟩ := t6 _ _ (by rw [ofF_length]; rfl) e6
  simp only [List.cons_append, List.nil_append, List.cons.injEq, and_true] at e1
  refine ⟨⟨e1.1, e1.2.1, e1.2.2, fun j hj => ?_, e5, fun j hj => ?_⟩, e8, q4.trans (q3.trans (q2.trans q1))⟩
  · show hashF D j = _
    unfold hashF; rw [e3, ofF_getD hj]
  · show hashF D9 j = _
    unfold hashF; rw [e7, ofF_getD hj]
theorem rhNone {B L : List Int} {er : Bool} {b0 : Nat} {m : MsgR} {P : List Int} {ys : List VoteR} {W : World} (hv : m.vl = P.length) (hyl : m.yl = ys.length)
    (h : ∀ m1 P1 ys1, MsgEnc m1 P1 ys1 B → (m.k = m1.k ∧ m.f = m1.f ∧ m.t = m1.t ∧ m.s = m1.s ∧ m.v = m1.v ∧ P = P1 ∧ VotesEq ys ys1 ∧ ∀ j, j < 32 → m.tag j = m1.tag j) ∧ L = [] ∧ er = false)
    (hn : (L = [] → er = false → False) ∨ msgB m ys = false ∨ ¬ encMsg m P ys = B) : DecMsg B b0 (.returned (.tuple #[.agg MsgR.zero.cells, .int .i64 2])) W := by
  rcases hn with hn | hn
  · exact ⟨MsgR.zero, 2, rfl, .inr ⟨rfl, rfl, fun m1 P1 ys1 hE => hn (h m1 P1 ys1 hE).2.1 (h m1 P1 ys1 hE).2.2⟩⟩
  · exact decMsg_none hv hyl (fun m1 P1 ys1 hE => (h m1 P1 ys1 hE).1) hn
set_option maxRecDepth 10000 in
set_option maxHeartbeats 8000000 in
theorem rdMsg_str (B : List Int) (ao : Option Addr) (cap : Nat) (w : World) (hR : Rowed w ao B cap) (hy : ∀ x ∈ B, 0 ≤ x ∧ x < 256) (hl : B.length < 1073741824) (hc : B.length ≤ cap) :
    Calls Try.prog 13 #[.slice ao B.length cap] w fun e w' => DecMsg B w.heap.size e w' ∧ Below w.heap.size w w' := by
  have HR : Hid (Rowed w ao B cap) := hR
  have HY : Hid (ByteL B) := hy
  have HL30 : Hid (B.length < 1073741824) := hl
  have HZM : Hid ((Try.prog.info? 27).map (·.zero) = some (some (.agg MsgR.zero.cells))) := zero_msg
  have HB2 : Hid (Below w.heap.size w ((w.alloc (.cells MsgR.zero.cells 27)).alloc (.cells #[.slice ao B.length cap, .bool false] 86))) := ((Below.refl _ _).alloc (Nat.le_refl _) _).alloc (by simp) _
  have H0 : Hid (((w.alloc (.cells MsgR.zero.cells 27)).alloc (.cells #[.slice ao B.length cap, .bool false] 86)).heap[w.heap.size]? = some (.cells MsgR.zero.cells 27 (0, 0))) := alloc_blk_old (alloc_blk _ _) _
  have HRR : Hid (RdR ((w.alloc (.cells MsgR.zero.cells 27)).alloc (.cells #[.slice ao B.length cap, .bool false] 86)) (w.heap.size + 1) B false) := by
    have h1 : (w.alloc (.cells MsgR.zero.cells 27)).heap.size = w.heap.size + 1 := by simp
    have hb := alloc_blk (w.alloc (.cells MsgR.zero.cells 27)) (.cells #[.slice ao B.length cap, .bool false] 86)
    rw [h1] at hb
    refine ⟨ao, cap, hb, hR.below HB2.out (Nat.le_refl _), hc, hy, by omega, fun ad e hne => ?_, (fun e => by cases e)⟩
    obtain ⟨gb, go, e1, hcl⟩ := hR.at hne
    rw [e1] at e
    cases e
    have := World.block_lt_of_cell? w _ (hcl 0 (List.length_pos_iff.2 hne))
    exact ⟨by simp at this ⊢; omega, rfl⟩
  obtain ⟨n, HN⟩ : ∃ n, Hid (B.length = n) := ⟨_, rfl⟩
  rw [HN.out] at HB2 H0 HRR ⊢
  clear hR hy hc hl
  go_enter Try.func13, Try.ntmps13
  go_wp2_with (first | refine wpList_alloc_row rfl 27 rfl _ HZM.out ?_ | fail)
  change Calls _ _ _ ((w.alloc (.cells MsgR.zero.cells 27)).alloc (.cells #[.slice ao n cap, .bool false] 86)) _
  generalize ((w.alloc (.cells MsgR.zero.cells 27)).alloc (.cells #[.slice ao n cap, .bool false] 86)) = w0 at *
  refine (rrNum_str (w.heap.size + 1) B false w0 HRR.out).mono ?_
  rintro e w1 ⟨⟨z, rfl, -, -, L1, er1, hr1, ht1, hl1⟩, hk1⟩
  have hlt0 := HRR.out.lt
  have H1 : Hid (w1.heap[w.heap.size]? = some (.cells MsgR.zero.cells 27 (0, 0))) := (hk1.block _ (by omega) (by omega)).trans H0.out
  have HW1 : Hid (Below w.heap.size w w1) := HB2.out.trans (hk1.below (by omega) (by omega))
  by_cases hz : z = 1
  · subst hz
    have HRX : Hid (RdR w1 (w.heap.size + 1) L1 er1) := hr1
    have HLX : Hid (L1.length ≤ B.length) := hl1
    have HSX : Hid (∀ m1 P1 ys1, MsgEnc m1 P1 ys1 B → L1 = nums [m1.k, m1.f, m1.t, m1.s, m1.v] ++ (num (P1.length : Int) ++ (P1 ++ (num (ys1.length : Int) ++ (ys1.flatMap voteL ++ (ofF 32 m1.tag ++ []))))) ∧ er1 = false) := fun m1 P1 ys1 hE => (ht1.one ⟨by decide, by decide⟩ (msg_sep hE.2.2.2)).2
    clear hr1 ht1 hl1 hk1 HB2 H0 HRR hlt0
    go_wp2_with fail
    refine (rrNum_str (w.heap.size + 1) L1 er1 w1 HRX.out).mono ?_
    rintro e w2 ⟨⟨a0, rfl, i0, -, L2, er2, hr2, ht2, hl2⟩, hk2⟩
    have hlt1 := HRX.out.lt
    have H2 : Hid (w2.heap[w.heap.size]? = some (.cells MsgR.zero.cells 27 (0, 0))) := (hk2.block _ (by omega) (by omega)).trans H1.out
    have HW2 : Hid (Below w.heap.size w w2) := HW1.out.trans (hk2.below (by omega) (by omega))
    have HR2 : Hid (RdR w2 (w.heap.size + 1) L2 er2) := hr2
    have HT2 : Hid (TookN L1 L2 [a0] er1 er2 ∧ L2.length ≤ B.length) := ⟨ht2, Nat.le_trans hl2 HLX.out⟩
    clear hr2 ht2 hk2 hl2 HRX H1 HW1 HLX hlt1
    obtain ⟨b0, HB0⟩ : ∃ b0 : MsgR, Hid (b0 = { MsgR.zero with k := a0 }) := ⟨_, rfl⟩
    go_upto_region 5 with (first | refine wpList_build_to rfl 27 _ rfl (MsgR.cells { MsgR.zero with k := a0 }) (by kernel_rfl) ?_ | refine wpList_alloc_row rfl 27 rfl _ HZM.out ?_ | (refine wpList_store_msgP rfl _ _ rfl w2.heap.size { MsgR.zero with k := a0 } MsgR.zero ?_ ?_ (alloc_blk _ _) ?_; rfl; rfl))
    rw [setRow_new, ← HB0.out]
    have hlt2 := HR2.out.lt
    have HG3 : Hid ((w2.alloc (.cells b0.cells 27)).heap[w2.heap.size]? = some (.cells b0.cells 27 (0, 0))) := alloc_blk _ _
    have H3 : Hid ((w2.alloc (.cells b0.cells 27)).heap[w.heap.size]? = some (.cells MsgR.zero.cells 27 (0, 0))) := alloc_blk_old H2.out _
    have HR3 : Hid (RdR (w2.alloc (.cells b0.cells 27)) (w.heap.size + 1) L2 er2) := HR2.out.same (fun q hq => (below_alloc _ _).block q (by omega))
    have HW3 : Hid (Below w.heap.size w (w2.alloc (.cells b0.cells 27))) := HW2.out.alloc (by omega) _
    generalize w2.alloc (.cells b0.cells 27) = w3 at *
    obtain ⟨g, hg⟩ : ∃ g, w2.heap.size = g := ⟨_, rfl⟩
    rw [hg] at HG3 hlt2
    simp only [hg]
    clear hg HR2 H2 HW2
    go_wp2_with fail
    refine (rrNum_str (w.heap.size + 1) L2 er2 w3 HR3.out).mono ?_
    rintro e u3 ⟨⟨a1, rfl, ia1, -, L3, er3, hr, ht, hl⟩, hk⟩
    have hlt3 := HR3.out.lt
    have HGU : Hid (u3.heap[g]? = some (.cells b0.cells 27 (0, 0))) := (hk.block _ (lt_blk HG3.out) (by omega)).trans HG3.out
    have HU0 : Hid (u3.heap[w.heap.size]? = some (.cells MsgR.zero.cells 27 (0, 0))) := (hk.block _ (lt_blk H3.out) (by omega)).trans H3.out
    have HWU : Hid (Below w.heap.size w u3) := HW3.out.trans (hk.below (by omega) (by omega))
    have HT4 : Hid (TookN L2 L3 [a1] er2 er3 ∧ L3.length ≤ B.length) := ⟨ht, Nat.le_trans hl HT2.out.2⟩
    have hcc : u3.cell? ⟨g, 1, none⟩ = some (.int .i64 b0.f) := (cell_blk HGU.out _).trans (MsgR.at1 _)
    have hff : u3.frozen? ⟨g, 1, none⟩ = false := frozen_blk HGU.out _
    obtain ⟨b1, Hb1⟩ : ∃ b1 : MsgR, Hid (b1 = { b0 with f := a1 }) := ⟨_, rfl⟩
    have HG4 : Hid ((u3.setCell ⟨g, 1, none⟩ (.int .i64 a1)).heap[g]? = some (.cells b1.cells 27 (0, 0))) := set_msg HGU.out (by rw [Hb1.out]; exact MsgR.set_f _ _)
    have H4 : Hid ((u3.setCell ⟨g, 1, none⟩ (.int .i64 a1)).heap[w.heap.size]? = some (.cells MsgR.zero.cells 27 (0, 0))) := (Below.heap_setCell _ _ _ _ (by simp; omega)).trans HU0.out
    have HR4 : Hid (RdR (u3.setCell ⟨g, 1, none⟩ (.int .i64 a1)) (w.heap.size + 1) L3 er3) := hr.same (fun q hq => Below.heap_setCell _ _ _ _ (by simp; omega))
    have HW4 : Hid (Below w.heap.size w (u3.setCell ⟨g, 1, none⟩ (.int .i64 a1))) := HWU.out.setCell (p := ⟨g, 1, none⟩) (by simp; omega) _
    clear hr ht hl hk HGU HU0 HWU HR3 HG3 H3 HW3 hlt3
    go_upto_region 6 with fail
    generalize u3.setCell ⟨g, 1, none⟩ (.int .i64 a1) = w4 at *
    clear hcc hff
    go_wp2_with fail
    refine (rrNum_str (w.heap.size + 1) L3 er3 w4 HR4.out).mono ?_
    rintro e u4 ⟨⟨a2, rfl, ia2, -, L4, er4, hr, ht, hl⟩, hk⟩
    have hlt4 := HR4.out.lt
    have HGU : Hid (u4.heap[g]? = some (.cells b1.cells 27 (0, 0))) := (hk.block _ (lt_blk HG4.out) (by omega)).trans HG4.out
    have HU0 : Hid (u4.heap[w.heap.size]? = some (.cells MsgR.zero.cells 27 (0, 0))) := (hk.block _ (lt_blk H4.out) (by omega)).trans H4.out
    have HWU : Hid (Below w.heap.size w u4) := HW4.out.trans (hk.below (by omega) (by omega))
    have HT5 : Hid (TookN L3 L4 [a2] er3 er4 ∧ L4.length ≤ B.length) := ⟨ht, Nat.le_trans hl HT4.out.2⟩
    have hcc : u4.cell? ⟨g, 2, none⟩ = some (.int .i64 b1.t) := (cell_blk HGU.out _).trans (MsgR.at2 _)
    have hff : u4.frozen? ⟨g, 2, none⟩ = false := frozen_blk HGU.out _
    obtain ⟨b2, Hb2⟩ : ∃ b2 : MsgR, Hid (b2 = { b1 with t := a2 }) := ⟨_, rfl⟩
    have HG5 : Hid ((u4.setCell ⟨g, 2, none⟩ (.int .i64 a2)).heap[g]? = some (.cells b2.cells 27 (0, 0))) := set_msg HGU.out (by rw [Hb2.out]; exact MsgR.set_t _ _)
    have H5 : Hid ((u4.setCell ⟨g, 2, none⟩ (.int .i64 a2)).heap[w.heap.size]? = some (.cells MsgR.zero.cells 27 (0, 0))) := (Below.heap_setCell _ _ _ _ (by simp; omega)).trans HU0.out
    have HR5 : Hid (RdR (u4.setCell ⟨g, 2, none⟩ (.int .i64 a2)) (w.heap.size + 1) L4 er4) := hr.same (fun q hq => Below.heap_setCell _ _ _ _ (by simp; omega))
    have HW5 : Hid (Below w.heap.size w (u4.setCell ⟨g, 2, none⟩ (.int .i64 a2))) := HWU.out.setCell (p := ⟨g, 2, none⟩) (by simp; omega) _
    clear hr ht hl hk HGU HU0 HWU HR4 HG4 H4 HW4 hlt4
    go_upto_region 7 with fail
    generalize u4.setCell ⟨g, 2, none⟩ (.int .i64 a2) = w5 at *
    clear hcc hff
    go_wp2_with fail
    refine (rrNum_str (w.heap.size + 1) L4 er4 w5 HR5.out).mono ?_
    rintro e u5 ⟨⟨a3, rfl, ia3, -, L5, er5, hr, ht, hl⟩, hk⟩
    have hlt5 := HR5.out.lt
    have HGU : Hid (u5.heap[g]? = some (.cells b2.cells 27 (0, 0))) := (hk.block _ (lt_blk HG5.out) (by omega)).trans HG5.out
    have HU0 : Hid (u5.heap[w.heap.size]? = some (.cells MsgR.zero.cells 27 (0, 0))) := (hk.block _ (lt_blk H5.out) (by omega)).trans H5.out
    have HWU : Hid (Below w.heap.size w u5) := HW5.out.trans (hk.below (by omega) (by omega))
    have HT6 : Hid (TookN L4 L5 [a3] er4 er5 ∧ L5.length ≤ B.length) := ⟨ht, Nat.le_trans hl HT5.out.2⟩
    have hcc : u5.cell? ⟨g, 3, none⟩ = some (.int .i64 b2.s) := (cell_blk HGU.out _).trans (MsgR.at3 _)
    have hff : u5.frozen? ⟨g, 3, none⟩ = false := frozen_blk HGU.out _
    obtain ⟨b3, Hb3⟩ : ∃ b3 : MsgR, Hid (b3 = { b2 with s := a3 }) := ⟨_, rfl⟩
    have HG6 : Hid ((u5.setCell ⟨g, 3, none⟩ (.int .i64 a3)).heap[g]? = some (.cells b3.cells 27 (0, 0))) := set_msg HGU.out (by rw [Hb3.out]; exact MsgR.set_s _ _)
    have H6 : Hid ((u5.setCell ⟨g, 3, none⟩ (.int .i64 a3)).heap[w.heap.size]? = some (.cells MsgR.zero.cells 27 (0, 0))) := (Below.heap_setCell _ _ _ _ (by simp; omega)).trans HU0.out
    have HR6 : Hid (RdR (u5.setCell ⟨g, 3, none⟩ (.int .i64 a3)) (w.heap.size + 1) L5 er5) := hr.same (fun q hq => Below.heap_setCell _ _ _ _ (by simp; omega))
    have HW6 : Hid (Below w.heap.size w (u5.setCell ⟨g, 3, none⟩ (.int .i64 a3))) := HWU.out.setCell (p := ⟨g, 3, none⟩) (by simp; omega) _
    clear hr ht hl hk HGU HU0 HWU HR5 HG5 H5 HW5 hlt5
    go_upto_region 8 with fail
    generalize u5.setCell ⟨g, 3, none⟩ (.int .i64 a3) = w6 at *
    clear hcc hff
    go_wp2_with fail
    refine (rrNum_str (w.heap.size + 1) L5 er5 w6 HR6.out).mono ?_
    rintro e u6 ⟨⟨a4, rfl, ia4, -, L6, er6, hr, ht, hl⟩, hk⟩
    have hlt6 := HR6.out.lt
    have HGU : Hid (u6.heap[g]? = some (.cells b3.cells 27 (0, 0))) := (hk.block _ (lt_blk HG6.out) (by omega)).trans HG6.out
    have HU0 : Hid (u6.heap[w.heap.size]? = some (.cells MsgR.zero.cells 27 (0, 0))) := (hk.block _ (lt_blk H6.out) (by omega)).trans H6.out
    have HWU : Hid (Below w.heap.size w u6) := HW6.out.trans (hk.below (by omega) (by omega))
    have HT7 : Hid (TookN L5 L6 [a4] er5 er6 ∧ L6.length ≤ B.length) := ⟨ht, Nat.le_trans hl HT6.out.2⟩
    have hcc : u6.cell? ⟨g, 4, none⟩ = some (.int .i64 b3.v) := (cell_blk HGU.out _).trans (MsgR.at4 _)
    have hff : u6.frozen? ⟨g, 4, none⟩ = false := frozen_blk HGU.out _
    obtain ⟨b4, Hb4⟩ : ∃ b4 : MsgR, Hid (b4 = { b3 with v := a4 }) := ⟨_, rfl⟩
    have HG7 : Hid ((u6.setCell ⟨g, 4, none⟩ (.int .i64 a4)).heap[g]? = some (.cells b4.cells 27 (0, 0))) := set_msg HGU.out (by rw [Hb4.out]; exact MsgR.set_v _ _)
    have H7 : Hid ((u6.setCell ⟨g, 4, none⟩ (.int .i64 a4)).heap[w.heap.size]? = some (.cells MsgR.zero.cells 27 (0, 0))) := (Below.heap_setCell _ _ _ _ (by simp; omega)).trans HU0.out
    have HR7 : Hid (RdR (u6.setCell ⟨g, 4, none⟩ (.int .i64 a4)) (w.heap.size + 1) L6 er6) := hr.same (fun q hq => Below.heap_setCell _ _ _ _ (by simp; omega))
    have HW7 : Hid (Below w.heap.size w (u6.setCell ⟨g, 4, none⟩ (.int .i64 a4))) := HWU.out.setCell (p := ⟨g, 4, none⟩) (by simp; omega) _
    clear hr ht hl hk HGU HU0 HWU HR6 HG6 H6 HW6 hlt6
    go_upto_region 9 with fail
    generalize u6.setCell ⟨g, 4, none⟩ (.int .i64 a4) = w7 at *
    clear hcc hff
    go_wp2_with fail
    refine (rrBytes_str (w.heap.size + 1) L6 er6 w7 HR7.out).mono ?_
    rintro e u7 ⟨vn, rfl, P, hO, hDl, hDb, hk, L7, er7, hr, hl, ht⟩
    have hlt7 := HR7.out.lt
    have HGU : Hid (u7.heap[g]? = some (.cells b4.cells 27 (0, 0))) := (hk.block _ (lt_blk HG7.out) (by omega)).trans HG7.out
    have HU0 : Hid (u7.heap[w.heap.size]? = some (.cells MsgR.zero.cells 27 (0, 0))) := (hk.block _ (lt_blk H7.out) (by omega)).trans H7.out
    have HWU : Hid (Below w.heap.size w u7) := HW7.out.trans (hk.below (by omega) (by omega))
    have HT8 : Hid ((∀ D' R, NumOk (D'.length : Int) → L6 = num (D'.length : Int) ++ (D' ++ R) → P = D' ∧ L7 = R ∧ er7 = er6) ∧ L7.length ≤ B.length) := ⟨ht, Nat.le_trans hl HT7.out.2⟩
    obtain ⟨va, vc, rfl, hvc, hvR, hvb⟩ := OwnB.form2r hO
    have HP8 : Hid (P.length ≤ B.length ∧ ByteL P ∧ P.length ≤ vc ∧ RowF u7 va P vc ∧ ∀ ad, va = some ad → g < ad.block ∧ ad.block < u7.heap.size) := ⟨Nat.le_trans hDl HT7.out.2, hDb, hvc, hO.rowF hvR, fun ad e => by have := hvb ad e; have := lt_blk HG7.out; omega⟩
    obtain ⟨pl, HPL⟩ : ∃ pl, Hid (P.length = pl) := ⟨_, rfl⟩
    rw [HPL.out]
    have hcc : u7.cell? ⟨g, 5, none⟩ = some (.slice b4.va b4.vl b4.vc) := (cell_blk HGU.out _).trans (MsgR.at5 _)
    have hff : u7.frozen? ⟨g, 5, none⟩ = false := frozen_blk HGU.out _
    obtain ⟨b5, Hb5⟩ : ∃ b5 : MsgR, Hid (b5 = { b4 with va := va, vl := pl, vc := vc }) := ⟨_, rfl⟩
    have HG8 : Hid ((u7.setCell ⟨g, 5, none⟩ (.slice va pl vc)).heap[g]? = some (.cells b5.cells 27 (0, 0))) := set_msg HGU.out (by rw [Hb5.out]; exact MsgR.set_va _ _ _ _)
    have H8 : Hid ((u7.setCell ⟨g, 5, none⟩ (.slice va pl vc)).heap[w.heap.size]? = some (.cells MsgR.zero.cells 27 (0, 0))) := (Below.heap_setCell _ _ _ _ (by simp; omega)).trans HU0.out
    have HR8 : Hid (RdR (u7.setCell ⟨g, 5, none⟩ (.slice va pl vc)) (w.heap.size + 1) L7 er7) := hr.same (fun q hq => Below.heap_setCell _ _ _ _ (by simp; omega))
    have HW8 : Hid (Below w.heap.size w (u7.setCell ⟨g, 5, none⟩ (.slice va pl vc))) := HWU.out.setCell (p := ⟨g, 5, none⟩) (by simp; omega) _
    have HV8 : Hid (RowF (u7.setCell ⟨g, 5, none⟩ (.slice va pl vc)) va P vc ∧ ∀ ad, va = some ad → g < ad.block ∧ ad.block < (u7.setCell ⟨g, 5, none⟩ (.slice va pl vc)).heap.size) := ⟨HP8.out.2.2.2.1.same (fun ad e => Below.heap_setCell _ _ _ _ (by have := HP8.out.2.2.2.2 ad e; simp; omega)), fun ad e => by have := HP8.out.2.2.2.2 ad e; simpa [World.setCell] using this⟩
    clear hr ht hl hk hO hDl hDb hvc hvR hvb HGU HU0 HWU HR7 HG7 H7 HW7 hlt7
    go_upto_region 10 with fail
    generalize u7.setCell ⟨g, 5, none⟩ (.slice va pl vc) = w8 at *
    clear hcc hff
    go_wp2_with fail
    refine (rrNum_str (w.heap.size + 1) L7 er7 w8 HR8.out).mono ?_
    rintro e w9 ⟨⟨ny, rfl, iny, hny0, L8, er8, hr, ht, hl⟩, hk⟩
    have hlt8 := HR8.out.lt
    have HG9 : Hid (w9.heap[g]? = some (.cells b5.cells 27 (0, 0))) := (hk.block _ (lt_blk HG8.out) (by omega)).trans HG8.out
    have H9 : Hid (w9.heap[w.heap.size]? = some (.cells MsgR.zero.cells 27 (0, 0))) := (hk.block _ (lt_blk H8.out) (by omega)).trans H8.out
    have HW9 : Hid (Below w.heap.size w w9) := HW8.out.trans (hk.below (by omega) (by omega))
    have HT9 : Hid (TookN L7 L8 [ny] er7 er8 ∧ L8.length ≤ B.length) := ⟨ht, Nat.le_trans hl HT8.out.2⟩
    have HR9 : Hid (RdR w9 (w.heap.size + 1) L8 er8) := hr
    have HV9 : Hid (RowF w9 va P vc ∧ ∀ ad, va = some ad → g < ad.block ∧ ad.block < w9.heap.size) := ⟨HV8.out.1.same (fun ad e => hk.block _ (HV8.out.2 ad e).2 (by have := (HV8.out.2 ad e).1; omega)), fun ad e => ⟨(HV8.out.2 ad e).1, Nat.lt_of_lt_of_le (HV8.out.2 ad e).2 hk.size⟩⟩
    have HNY : Hid (inI ny ∧ 0 ≤ ny) := ⟨iny, hny0⟩
    clear hr ht hl hk HR8 HG8 H8 HW8 HV8 hlt8 iny hny0
    go_wp2_with fail
    have HM5 : Hid (b5 = ⟨a0, a1, a2, a3, a4, va, pl, vc, none, 0, 0, fun _ => 0⟩) := by rw [Hb5.out, Hb4.out, Hb3.out, Hb2.out, Hb1.out, HB0.out]; rfl
    have HIN : Hid (inI a0 ∧ inI a1 ∧ inI a2 ∧ inI a3 ∧ inI a4) := ⟨i0, ia1, ia2, ia3, ia4⟩
    have HTT : Hid (∀ m1 P1 ys1, MsgEnc m1 P1 ys1 B → (a0 = m1.k ∧ a1 = m1.f ∧ a2 = m1.t ∧ a3 = m1.s ∧ a4 = m1.v) ∧ P = P1 ∧ ny = (ys1.length : Int) ∧ ys1.length ≤ 10 ∧ (∀ z ∈ ys1, VoteOk z) ∧ L8 = ys1.flatMap voteL ++ (ofF 32 m1.tag ++ []) ∧ er8 = false) := fun m1 P1 ys1 hE => by
      obtain ⟨c1, c2⟩ := HSX.out m1 P1 ys1 hE
      have hok := msgB_ok hE.2.2.1 hE.1 hE.2.1
      obtain ⟨d1, d2, d3⟩ := ((((HT2.out.1.append HT4.out.1).append HT5.out.1).append HT6.out.1).append HT7.out.1) [m1.k, m1.f, m1.t, m1.s, m1.v] _ (numOk_cons hok.k (numOk_cons hok.f (numOk_cons hok.t (numOk_cons hok.s (numOk_cons hok.v numOk_nil))))) rfl c1
      obtain ⟨f1, f2, f3⟩ := HT8.out.1 P1 _ (num_len (by have := hok.vb; omega)) d2
      obtain ⟨g1, g2, g3⟩ := HT9.out.1.one (num_len (by have := hok.yb; omega)) f2
      simp only [List.cons_append, List.nil_append, List.cons.injEq, and_true] at d1
      exact ⟨⟨d1.1, d1.2.1, d1.2.2.1, d1.2.2.2.1, d1.2.2.2.2⟩, f1, g1, hok.yb, hok.ys, g2, g3.trans (f3.trans (d3.trans c2))⟩
    have HL8 : Hid (L8.length ≤ B.length) := HT9.out.2
    have HPP : Hid (P.length ≤ B.length ∧ ByteL P ∧ P.length ≤ vc ∧ P.length = pl) := ⟨HP8.out.1, HP8.out.2.1, HP8.out.2.2.1, HPL.out⟩
    have HK9 : Hid (RhK w g w9.heap.size w9.heap.size b5 P [] w9) := ⟨HW9.out, H9.out, HG9.out, by rw [HM5.out]; exact OwnVR.nil _ _, by rw [HM5.out]; exact HV9.out.1, hlt2, lt_blk HG9.out, lt_blk HG9.out, (fun ad e => by rw [HM5.out] at e; cases e), (fun ad e => by rw [HM5.out] at e; exact HV9.out.2 ad e), Nat.le_refl _⟩
    clear HSX HT2 HT4 HT5 HT6 HT7 HT8 HT9 HP8 HPL HB0 Hb1 Hb2 Hb3 Hb4 Hb5 HG9 H9 HW9 HV9 i0 ia1 ia2 ia3 ia4
    go_loopw [7] (fun iv wr => ∃ i : Nat, i ≤ 11 ∧ iv = .int .i64 (i : Int) ∧ Hid (RhL w g w9.heap.size b5 P L8 er8 ny B.length i wr)) (fun iv _ => 11 - (intOf iv).toNat)
    case atStart => exact ⟨0, by omega, rfl, none, 0, [], L8, er8, by rw [show ({ b5 with ya := none, yl := ([] : List VoteR).length, yc := 0 } : MsgR) = b5 by rw [HM5.out]; rfl]; exact HK9.out, HR9.out, rfl, (fun y hy => by cases hy), (fun zs R _ _ e he => ⟨he, Nat.zero_le _, trivial, e⟩), HL8.out⟩
    case round =>
      clear HK9 HR9 hlt2
      obtain ⟨i, hi, rfl, HY⟩ := hrel
      obtain ⟨ya, yc, ys, Li, eri, hK, hRi, hyl, hyw, hvt, hli⟩ := HY.out
      clear HY
      have c1 : wr.cell? ⟨w.heap.size + 1, 1, none⟩ = some (.bool eri) := by
        obtain ⟨ao', cap', hb, -⟩ := hRi
        exact (cell_blk hb _).trans rfl
      have HKi : Hid (RhK w g w9.heap.size wr.heap.size { b5 with ya := ya, yl := ys.length, yc := yc } P ys wr) := hK
      have HRi : Hid (RdR wr (w.heap.size + 1) Li eri) := hRi
      have HYi : Hid (ys.length = i ∧ (∀ y ∈ ys, y.wf ∧ VBytes y) ∧ VTk L8 Li er8 eri ny ys ∧ Li.length ≤ B.length) := ⟨hyl, hyw, hvt, hli⟩
      clear hK hRi hyl hyw hvt hli
      by_cases hgo : (i : Int) < ny ∧ eri = false ∧ i ≤ 10
      case pos =>
        obtain ⟨hgo1, rfl, hgo3⟩ := hgo
        have hgo3' : (i : Int) ≤ 10 := by omega
        go_upto_region 14 with fail
        clear c1
        obtain ⟨M, HM⟩ : ∃ M : MsgR, Hid ({ b5 with ya := ya, yl := ys.length, yc := yc } = M) := ⟨_, rfl⟩
        obtain ⟨vb, HVB⟩ : ∃ vb, Hid (wr.heap.size = vb) := ⟨_, rfl⟩
        have HK20 : Hid (RhK w g w9.heap.size vb M P ys wr) := by rw [← HM.out, ← HVB.out]; exact HKi.out
        have hvb20 : vb ≤ wr.heap.size := Nat.le_of_eq HVB.out.symm
        have HR20 : Hid (RdR wr (w.heap.size + 1) Li false) := HRi.out
        have HT20 : Hid (True ∧ Li.length ≤ B.length) := ⟨trivial, HYi.out.2.2.2⟩
        have hgv : g < vb := HK20.out.gv
        have hlr : w.heap.size + 1 < g := HK20.out.lr
        clear HKi HRi
        go_wp2_with fail
        refine (rrNum_str (w.heap.size + 1) Li false wr HR20.out).mono ?_
        rintro x u20 ⟨⟨v0, rfl, iv0, -, M1, q1, hr, ht, hl⟩, hk⟩
        have hsz := hk.size
        have HK21' : Hid (RhK w g w9.heap.size vb M P ys u20) := HK20.out.keeps hk hvb20
        have HT21 : Hid (TookN Li M1 [v0] false q1 ∧ M1.length ≤ B.length) := ⟨ht, Nat.le_trans hl HT20.out.2⟩
        have HRu : Hid (RdR u20 (w.heap.size + 1) M1 q1) := hr
        have hvbu : vb ≤ u20.heap.size := by omega
        clear hr ht hl hk hsz HK20 hvb20 HR20
        go_upto_region 15 with (first | refine wpList_build_to rfl 62 _ rfl (VoteR.cells { VoteR.zero with k := v0 }) (by kernel_rfl) ?_ | refine wpList_alloc_row rfl 62 rfl _ zero_vote ?_ | (refine wpList_store_blk rfl 62 _ _ rfl u20.heap.size (VoteR.cells { VoteR.zero with k := v0 }) ?_ ?_ 62 VoteR.zero.cells (alloc_blk _ _) (vote_info _) (by rw [VoteR.size, VoteR.size]) (VoteR.all _) ?_; rfl; rfl))
        obtain ⟨y0, Hy0⟩ : ∃ y0 : VoteR, Hid (y0 = { VoteR.zero with k := v0 }) := ⟨_, rfl⟩
        rw [setRow_new, ← Hy0.out]
        have HV21 : Hid (VBlk (u20.alloc (.cells y0.cells 62)) u20.heap.size [y0]) := ⟨y0.cells, alloc_blk _ _, VoteR.size _, fun j hj i hi => by
          obtain rfl : j = 0 := by simpa using hj
          rw [Nat.zero_mul, Nat.zero_add]; rfl⟩
        have HK21 : Hid (RhK w g w9.heap.size vb M P ys (u20.alloc (.cells y0.cells 62))) := HK21'.out.same ((Below.refl _ _).alloc (by omega) _) (fun q hq _ => (below_alloc _ _).block q (by omega))
        have HR21 : Hid (RdR (u20.alloc (.cells y0.cells 62)) (w.heap.size + 1) M1 q1) := HRu.out.same (fun q hq => (below_alloc _ _).block q (by omega))
        have hvb21 : vb ≤ (u20.alloc (.cells y0.cells 62)).heap.size := by simp; omega
        generalize u20.alloc (.cells y0.cells 62) = W21 at *
        obtain ⟨vB, hvB⟩ : ∃ vB, u20.heap.size = vB := ⟨_, rfl⟩
        simp only [hvB] at *
        clear hvB HK21' HRu
        have hvr : vB ≠ w.heap.size + 1 := by omega
        go_wp2_with fail
        refine (rrNum_str (w.heap.size + 1) M1 q1 W21 HR21.out).mono ?_
        rintro x u21 ⟨⟨v1, rfl, iv1, -, M2, q2, hr, ht, hl⟩, hk⟩
        have hsz := hk.size
        have HK22' : Hid (RhK w g w9.heap.size vb M P ys u21) := HK21.out.keeps hk hvb21
        have HT22 : Hid (TookN M1 M2 [v1] q1 q2 ∧ M2.length ≤ B.length) := ⟨ht, Nat.le_trans hl HT21.out.2⟩
        have HVu : Hid (VBlk u21 vB [y0]) := HV21.out.same (hk.block _ HV21.out.lt hvr)
        have hcc : u21.cell? ⟨vB, 1, none⟩ = some (.int .i64 y0.s) := (HVu.out.cell (j := 0) (Nat.zero_lt_succ _) (i := 1) (by decide)).trans (VoteR.at1 _)
        have hff : u21.frozen? ⟨vB, 1, none⟩ = false := HVu.out.fr 1
        obtain ⟨y1, Hy1⟩ : ∃ y1 : VoteR, Hid (y1 = { y0 with s := v1 }) := ⟨_, rfl⟩
        have HV22 : Hid (VBlk (u21.setCell ⟨vB, 1, none⟩ (.int .i64 v1)) vB [y1]) := HVu.out.setCell (j := 0) (Nat.zero_lt_succ _) (i := 1) (by decide) _ y1 (by rw [Hy1.out]; exact VoteR.set_s _ _)
        have hvb22 : vb ≤ (u21.setCell ⟨vB, 1, none⟩ (.int .i64 v1)).heap.size := by simp only [World.setCell, Array.size_modify]; omega
        have HK22 : Hid (RhK w g w9.heap.size vb M P ys (u21.setCell ⟨vB, 1, none⟩ (.int .i64 v1))) := HK22'.out.same ((Below.refl _ _).setCell (p := ⟨vB, 1, none⟩) (by simp; omega) _) (fun q hq _ => Below.heap_setCell _ _ _ _ (by simp; omega))
        have HR22 : Hid (RdR (u21.setCell ⟨vB, 1, none⟩ (.int .i64 v1)) (w.heap.size + 1) M2 q2) := hr.same (fun q hq => Below.heap_setCell _ _ _ _ (by simp; omega))
        clear hr ht hl hk hsz HVu HK22' HK21 HV21 HR21 hvb21
        go_upto_region 16 with fail
        generalize u21.setCell ⟨vB, 1, none⟩ (.int .i64 v1) = W22 at *
        clear hcc hff
        go_wp2_with fail
        refine (rrNum_str (w.heap.size + 1) M2 q2 W22 HR22.out).mono ?_
        rintro x u22 ⟨⟨v2, rfl, iv2, -, M3, q3, hr, ht, hl⟩, hk⟩
        have hsz := hk.size
        have HK23' : Hid (RhK w g w9.heap.size vb M P ys u22) := HK22.out.keeps hk hvb22
        have HT23 : Hid (TookN M2 M3 [v2] q2 q3 ∧ M3.length ≤ B.length) := ⟨ht, Nat.le_trans hl HT22.out.2⟩
        have HVu : Hid (VBlk u22 vB [y1]) := HV22.out.same (hk.block _ HV22.out.lt hvr)
        have hcc : u22.cell? ⟨vB, 2, none⟩ = some (.int .i64 y1.v) := (HVu.out.cell (j := 0) (Nat.zero_lt_succ _) (i := 2) (by decide)).trans (VoteR.at2 _)
        have hff : u22.frozen? ⟨vB, 2, none⟩ = false := HVu.out.fr 2
        obtain ⟨y2, Hy2⟩ : ∃ y2 : VoteR, Hid (y2 = { y1 with v := v2 }) := ⟨_, rfl⟩
        have HV23 : Hid (VBlk (u22.setCell ⟨vB, 2, none⟩ (.int .i64 v2)) vB [y2]) := HVu.out.setCell (j := 0) (Nat.zero_lt_succ _) (i := 2) (by decide) _ y2 (by rw [Hy2.out]; exact VoteR.set_v _ _)
        have hvb23 : vb ≤ (u22.setCell ⟨vB, 2, none⟩ (.int .i64 v2)).heap.size := by simp only [World.setCell, Array.size_modify]; omega
        have HK23 : Hid (RhK w g w9.heap.size vb M P ys (u22.setCell ⟨vB, 2, none⟩ (.int .i64 v2))) := HK23'.out.same ((Below.refl _ _).setCell (p := ⟨vB, 2, none⟩) (by simp; omega) _) (fun q hq _ => Below.heap_setCell _ _ _ _ (by simp; omega))
        have HR23 : Hid (RdR (u22.setCell ⟨vB, 2, none⟩ (.int .i64 v2)) (w.heap.size + 1) M3 q3) := hr.same (fun q hq => Below.heap_setCell _ _ _ _ (by simp; omega))
        clear hr ht hl hk hsz HVu HK23' HK22 HV22 HR22 hvb22
        go_upto_region 17 with fail
        generalize u22.setCell ⟨vB, 2, none⟩ (.int .i64 v2) = W23 at *
        clear hcc hff
        go_wp2_with fail
        refine (rHash_str (w.heap.size + 1) M3 q3 W23 HR23.out).mono ?_
        rintro x u23 ⟨D3, rfl, iD3, ⟨M4, q4, hr, ht, hl⟩, hk⟩
        have hsz := hk.size
        have HKu : Hid (RhK w g w9.heap.size vb M P ys u23) := HK23.out.keeps hk hvb23
        have HT24 : Hid (TookR M3 M4 D3 32 q3 q4 ∧ M4.length ≤ B.length) := ⟨ht, Nat.le_trans hl HT23.out.2⟩
        have HVu : Hid (VBlk u23 vB [y2]) := HV23.out.same (hk.block _ HV23.out.lt hvr)
        have HRu : Hid (RdR u23 (w.heap.size + 1) M4 q4) := hr
        have hvbu : vb ≤ u23.heap.size := by omega
        clear hr ht hl hk hsz HK23 HV23 HR23 hvb23
        go_upto_region 18 with (refine wpList_store_hashV rfl _ _ rfl vB 0 3 [y2] { y2 with sum := hashF D3 } (hashF D3) ?_ ?_ HVu.out (Nat.zero_lt_succ _) (by decide) (fun q hq => VoteR.sum_at y2 (hashF D3) q hq) ?_; rfl; rfl)
        intro W24 hv hk
        obtain ⟨y3, Hy3⟩ : ∃ y3 : VoteR, Hid (y3 = { y2 with sum := hashF D3 }) := ⟨_, rfl⟩
        have HV24 : Hid (VBlk W24 vB [y3]) := by rw [Hy3.out]; exact hv
        have hvb24 : vb ≤ W24.heap.size := Nat.le_trans hvbu hk.size
        have HK24 : Hid (RhK w g w9.heap.size vb M P ys W24) := HKu.out.same (hk.below (by omega) (by omega)) (fun q hq _ => hk.block q (by omega) (by omega))
        have HR24 : Hid (RdR W24 (w.heap.size + 1) M4 q4) := HRu.out.same (fun q hq => hk.block q (by have := HRu.out.lt; omega) (by omega))
        clear hv hk HKu HVu HRu hvbu
        go_wp2_with fail
        refine (rrNum_str (w.heap.size + 1) M4 q4 W24 HR24.out).mono ?_
        rintro x u24 ⟨⟨v4, rfl, iv4, -, M5, q5, hr, ht, hl⟩, hk⟩
        have hsz := hk.size
        have HK25' : Hid (RhK w g w9.heap.size vb M P ys u24) := HK24.out.keeps hk hvb24
        have HT25 : Hid (TookN M4 M5 [v4] q4 q5 ∧ M5.length ≤ B.length) := ⟨ht, Nat.le_trans hl HT24.out.2⟩
        have HVu : Hid (VBlk u24 vB [y3]) := HV24.out.same (hk.block _ HV24.out.lt hvr)
        have hcc : u24.cell? ⟨vB, 35, none⟩ = some (.int .i64 y3.f) := (HVu.out.cell (j := 0) (Nat.zero_lt_succ _) (i := 35) (by decide)).trans (VoteR.at35 _)
        have hff : u24.frozen? ⟨vB, 35, none⟩ = false := HVu.out.fr 35
        obtain ⟨y4, Hy4⟩ : ∃ y4 : VoteR, Hid (y4 = { y3 with f := v4 }) := ⟨_, rfl⟩
        have HV25 : Hid (VBlk (u24.setCell ⟨vB, 35, none⟩ (.int .i64 v4)) vB [y4]) := HVu.out.setCell (j := 0) (Nat.zero_lt_succ _) (i := 35) (by decide) _ y4 (by rw [Hy4.out]; exact VoteR.set_f _ _)
        have hvb25 : vb ≤ (u24.setCell ⟨vB, 35, none⟩ (.int .i64 v4)).heap.size := by simp only [World.setCell, Array.size_modify]; omega
        have HK25 : Hid (RhK w g w9.heap.size vb M P ys (u24.setCell ⟨vB, 35, none⟩ (.int .i64 v4))) := HK25'.out.same ((Below.refl _ _).setCell (p := ⟨vB, 35, none⟩) (by simp; omega) _) (fun q hq _ => Below.heap_setCell _ _ _ _ (by simp; omega))
        have HR25 : Hid (RdR (u24.setCell ⟨vB, 35, none⟩ (.int .i64 v4)) (w.heap.size + 1) M5 q5) := hr.same (fun q hq => Below.heap_setCell _ _ _ _ (by simp; omega))
        clear hr ht hl hk hsz HVu HK25' HK24 HV24 HR24 hvb24
        go_upto_region 19 with fail
        generalize u24.setCell ⟨vB, 35, none⟩ (.int .i64 v4) = W25 at *
        clear hcc hff
        go_wp2_with fail
        refine (rHash_str (w.heap.size + 1) M5 q5 W25 HR25.out).mono ?_
        rintro x u25 ⟨D5, rfl, iD5, ⟨M6, q6, hr, ht, hl⟩, hk⟩
        have hsz := hk.size
        have HKu : Hid (RhK w g w9.heap.size vb M P ys u25) := HK25.out.keeps hk hvb25
        have HT26 : Hid (TookR M5 M6 D5 32 q5 q6 ∧ M6.length ≤ B.length) := ⟨ht, Nat.le_trans hl HT25.out.2⟩
        have HVu : Hid (VBlk u25 vB [y4]) := HV25.out.same (hk.block _ HV25.out.lt hvr)
        have HRu : Hid (RdR u25 (w.heap.size + 1) M6 q6) := hr
        have hvbu : vb ≤ u25.heap.size := by omega
        clear hr ht hl hk hsz HK25 HV25 HR25 hvb25
        go_upto_region 20 with (refine wpList_store_hashV rfl _ _ rfl vB 0 36 [y4] { y4 with tag := hashF D5 } (hashF D5) ?_ ?_ HVu.out (Nat.zero_lt_succ _) (by decide) (fun q hq => VoteR.tag_at y4 (hashF D5) q) ?_; rfl; rfl)
        intro W26 hv hk
        obtain ⟨y5, Hy5⟩ : ∃ y5 : VoteR, Hid (y5 = { y4 with tag := hashF D5 }) := ⟨_, rfl⟩
        have HV26 : Hid (VBlk W26 vB [y5]) := by rw [Hy5.out]; exact hv
        have hvb26 : vb ≤ W26.heap.size := Nat.le_trans hvbu hk.size
        have HK26 : Hid (RhK w g w9.heap.size vb M P ys W26) := HKu.out.same (hk.below (by omega) (by omega)) (fun q hq _ => hk.block q (by omega) (by omega))
        have HR26 : Hid (RdR W26 (w.heap.size + 1) M6 q6) := HRu.out.same (fun q hq => hk.block q (by have := HRu.out.lt; omega) (by omega))
        clear hv hk HKu HVu HRu hvbu
        go_upto_region 20 with fail
        have hcc : W26.cell? ⟨g, 6, none⟩ = some (.slice M.ya M.yl M.yc) := (cell_blk HK26.out.mg _).trans (MsgR.at6 _)
        have HVA : Hid (VoteAt W26 vB 0 y5) := fun q hq => by
          have := HV26.out.cell (j := 0) (Nat.zero_lt_succ _) (i := q) hq
          rw [Nat.zero_mul] at this
          exact this
        have HOW : Hid (OwnVR (W26.alloc (.cells y5.cells 62)) w9.heap.size (.slice M.ya M.yl M.yc) ys) := HK26.out.own.same (fun k hk => by
          obtain ⟨ad, e, rfl⟩ := ownBlock_slice hk
          have := HK26.out.ol ad e
          exact (below_alloc _ _).block _ (by omega))
        have HVA2 : Hid (VoteAt (W26.alloc (.cells y5.cells 62)) W26.heap.size 0 y5) := voteAt_blk (alloc_blk _ _)
        have hyb : ys.length + 1 ≤ 1000 := by have := HYi.out.1; omega
        have hbv := HK26.out.bv
        have hbase : w9.heap.size ≤ (W26.alloc (.cells y5.cells 62)).heap.size := by simp; omega
        go_wp2_with (first | (refine wpList_load_vote rfl _ rfl vB 0 ?_ y5 HVA.out ?_; rfl) | (refine wpList_row_voteH rfl _ rfl y5 ?_ ?_; rfl) | (refine wpList_appVR rfl _ _ rfl w9.heap.size (.slice M.ya M.yl M.yc) ys ?_ W26.heap.size 0 1 y5 ?_ HOW.out HVA2.out hyb hbase (Nat.le_refl _) ?_; rfl; rfl))
        intro v' w27 hown hgr
        obtain ⟨ya', yc', rfl, hat, halt⟩ := hown.form
        obtain ⟨nl, hnl⟩ : ∃ nl, (ys ++ [y5]).length = nl := ⟨_, rfl⟩
        rw [hnl] at hown hgr ⊢
        obtain ⟨hg27, hkn, hq27⟩ := HK26.out.push hvb26 hown halt _ hgr
        have hcc' : w27.cell? ⟨g, 6, none⟩ = some (.slice M.ya M.yl M.yc) := (cell_blk hg27 _).trans (MsgR.at6 _)
        have hff' : w27.frozen? ⟨g, 6, none⟩ = false := frozen_blk hg27 _
        have HKN : Hid (RhK w g w9.heap.size (w27.setCell ⟨g, 6, none⟩ (.slice ya' nl yc')).heap.size { b5 with ya := ya', yl := (ys ++ [y5]).length, yc := yc' } P (ys ++ [y5]) (w27.setCell ⟨g, 6, none⟩ (.slice ya' nl yc'))) := by
          rw [hnl]
          rw [← HM.out] at hkn
          exact hkn
        have HRN : Hid (RdR (w27.setCell ⟨g, 6, none⟩ (.slice ya' nl yc')) (w.heap.size + 1) M6 q6) := HR26.out.same (fun q hq => hq27 q (by omega))
        clear hg27 hkn hq27
        have he5 : y5 = ⟨v0, v1, v2, hashF D3, v4, hashF D5⟩ := by rw [Hy5.out, Hy4.out, Hy3.out, Hy2.out, Hy1.out, Hy0.out]
        have HYN : Hid ((ys ++ [y5]).length = i + 1 ∧ (∀ y ∈ ys ++ [y5], y.wf ∧ VBytes y) ∧ VTk L8 M6 er8 q6 ny (ys ++ [y5]) ∧ M6.length ≤ B.length) := by
          refine ⟨by rw [List.length_append, HYi.out.1]; rfl, fun y hy => ?_, HYi.out.2.2.1.next (by rw [HYi.out.1]; exact hgo1) (fun z R hz e => ?_), HT26.out.2⟩
          · rcases List.mem_append.1 hy with h | h
            · exact HYi.out.2.1 y h
            · rw [List.mem_singleton.1 h, he5]
              exact ⟨⟨iv0, iv1, iv2, iv4⟩, fun j _ => ⟨hashF_bytes iD3 j, hashF_bytes iD5 j⟩⟩
          · rw [he5]
            exact vote_tookR HT21.out.1 HT22.out.1 HT23.out.1 HT24.out.1 HT25.out.1 HT26.out.1 z R hz e
        clear hgr hown hat halt hcc HVA HOW HVA2 hyb hbase HK26 HV26 HR26 hvb26 HT20 HT21 HT22 HT23 HT24 HT25 HT26 Hy0 Hy1 Hy2 Hy3 Hy4 Hy5 HYi he5 iv0 iv1 iv2 iv4
        go_wp2_with fail
        exact ⟨⟨i + 1, by omega, rfl, ya', yc', ys ++ [y5], M6, q6, HKN.out, HRN.out, HYN.out.1, HYN.out.2.1, HYN.out.2.2.1, HYN.out.2.2.2⟩, by simp [intOf]; omega⟩

      case neg =>
        have HOUT : Hid (∀ m1 P1 ys1, MsgEnc m1 P1 ys1 B → (a0 = m1.k ∧ a1 = m1.f ∧ a2 = m1.t ∧ a3 = m1.s ∧ a4 = m1.v) ∧ P = P1 ∧ VotesEq ys ys1 ∧ Li = ofF 32 m1.tag ++ [] ∧ eri = false) := fun m1 P1 ys1 hE => by
          obtain ⟨q1, q2, q3, q4, q5, q6, q7⟩ := HTT.out m1 P1 ys1 hE
          obtain ⟨r1, r2, r3, r4⟩ := HYi.out.2.2.1 ys1 _ q3.symm q5 q6 q7
          have hn : ys.length = ys1.length := by
            have h1 := HYi.out.1
            by_cases hlt : ys.length < ys1.length
            · exact absurd ⟨by omega, r1, by omega⟩ hgo
            · omega
          rw [hn, List.take_of_length_le (Nat.le_refl _)] at r3
          rw [hn, List.drop_of_length_le (Nat.le_refl _), List.flatMap_nil, List.nil_append] at r4
          exact ⟨q1, q2, r3, r4, r1⟩
        have h3 : (¬ (i : Int) < ny) ∨ ((i : Int) < ny ∧ eri = true) ∨ ((i : Int) < ny ∧ eri = false ∧ ¬ (i : Int) ≤ 10) := by
          by_cases h1 : (i : Int) < ny
          · cases h2 : eri with
            | true => exact .inr (.inl ⟨h1, rfl⟩)
            | false => exact .inr (.inr ⟨h1, rfl, fun h => hgo ⟨h1, h2, by omega⟩⟩)
          · exact .inl h1
        clear hgo
        rcases h3 with h1 | ⟨h1, h1e⟩ | ⟨h1, h1e, h2⟩
        · clear c1
          go_wp2_with fail
          refine (rHash_str (w.heap.size + 1) Li eri wr HRi.out).mono ?_
          rintro x uA ⟨D, rfl, iD, ⟨M1, q1, hr, ht, hl⟩, hk⟩
          have HKA : Hid (RhK w g w9.heap.size wr.heap.size { b5 with ya := ya, yl := ys.length, yc := yc } P ys uA) := HKi.out.keeps hk (Nat.le_refl _)
          have HRA : Hid (RdR uA (w.heap.size + 1) M1 q1) := hr
          have HC0 : Hid (∀ m1 P1 ys1, MsgEnc m1 P1 ys1 B → (a0 = m1.k ∧ a1 = m1.f ∧ a2 = m1.t ∧ a3 = m1.s ∧ a4 = m1.v) ∧ P = P1 ∧ VotesEq ys ys1 ∧ (∀ j, j < 32 → hashF D j = m1.tag j) ∧ M1 = [] ∧ q1 = false) := fun m1 P1 ys1 hE => by
            obtain ⟨p1, p2, p3, p4, p5⟩ := HOUT.out m1 P1 ys1 hE
            obtain ⟨s1, s2, s3⟩ := ht (ofF 32 m1.tag) [] (by rw [ofF_length]; rfl) p4
            exact ⟨p1, p2, p3, fun j hj => by unfold hashF; rw [s1, ofF_getD hj], s2, s3.trans p5⟩
          have HSA : Hid (wr.heap.size ≤ uA.heap.size) := hk.size
          clear hr ht hl hk HKi HRi HOUT
          go_wp2_with (refine wpList_store_tagMP rfl _ _ rfl g (hashF D) { b5 with ya := ya, yl := ys.length, yc := yc } ?_ ?_ 27 HKA.out.mg ?_; rfl; rfl)
          intro wB hgB hkB
          obtain ⟨mm, HMM⟩ : ∃ mm : MsgR, Hid (mm = ⟨a0, a1, a2, a3, a4, va, pl, vc, ya, ys.length, yc, hashF D⟩) := ⟨_, rfl⟩
          have HGB : Hid (wB.heap[g]? = some (.cells mm.cells 27 (0, 0))) := by
            rw [HM5.out] at hgB
            rw [HMM.out]
            exact hgB
          have hKA := HKA.out
          have hgv := hKA.gv
          have hgb := hKA.gb
          have hlr := hKA.lr
          have hsA := HSA.out
          have HGMB : Hid (MsgIn wB mm P ys ∧ MsgGot wB (w.heap.size + 1) mm P ys) := by
            obtain ⟨ao2, cap2, e2, hat, hlt⟩ := hKA.own.form
            have hrow : RowF wB va P vc := by
              have := hKA.row
              rw [HM5.out] at this
              exact this.same (fun ad e => hkB.block _ (by have := hKA.vl ad (by rw [HM5.out]; exact e); have := hKA.bv; omega) (by have := hKA.vl ad (by rw [HM5.out]; exact e); omega))
            have hvot : VotesAt wB ya ys := by
              have e3 : ao2 = ya := by injection e2 with h1 h2 h3; exact h1.symm
              subst e3
              exact hat.same (fun ad e => hkB.block _ (hlt ad e).2 (by have := (hlt ad e).1; omega))
            have h37 : P.length < 137438953472 := by have := HPP.out.1; have := HL30.out; omega
            rw [HMM.out]
            have hI : MsgIn wB ⟨a0, a1, a2, a3, a4, va, pl, vc, ya, ys.length, yc, hashF D⟩ P ys := ⟨HPP.out.2.2.2.symm, hrow.1, rfl, hvot, HIN.out, fun y hy => (HYi.out.2.1 y hy).1, HPP.out.2.1, fun y hy => (HYi.out.2.1 y hy).2, fun j _ => hashF_bytes iD j⟩
            exact ⟨hI, ⟨⟨HPP.out.2.2.2.symm, hrow.1, rfl, hvot, HIN.out, fun y hy => (HYi.out.2.1 y hy).1, h37, by have := HYi.out.1; omega⟩, HPP.out.2.1, fun y hy => (HYi.out.2.1 y hy).2, fun j => hashF_bytes iD j, fun ad e => by have := hKA.vl ad (by rw [HM5.out]; exact e); omega, fun ad e => by have := hKA.ol ad e; omega, HPP.out.2.2.1, hrow.2⟩⟩
          have HCM : Hid (∀ m1 P1 ys1, MsgEnc m1 P1 ys1 B → (mm.k = m1.k ∧ mm.f = m1.f ∧ mm.t = m1.t ∧ mm.s = m1.s ∧ mm.v = m1.v ∧ P = P1 ∧ VotesEq ys ys1 ∧ ∀ j, j < 32 → mm.tag j = m1.tag j) ∧ M1 = [] ∧ q1 = false) := fun m1 P1 ys1 hE => by
            obtain ⟨⟨p1, p2, p3, p4, p5⟩, p6, p7, p8, p9, p10⟩ := HC0.out m1 P1 ys1 hE
            rw [HMM.out]
            exact ⟨⟨p1, p2, p3, p4, p5, p6, p7, p8⟩, p9, p10⟩
          have HVY : Hid (mm.vl = P.length ∧ mm.yl = ys.length) := by rw [HMM.out]; exact ⟨HPP.out.2.2.2.symm, rfl⟩
          have HZB : Hid (wB.heap[w.heap.size]? = some (.cells MsgR.zero.cells 27 (0, 0))) := (hkB.block _ (by have := lt_blk hKA.m0; omega) (by omega)).trans hKA.m0
          have HRB : Hid (RdR wB (w.heap.size + 1) M1 q1) := HRA.out.same (fun q hq => hkB.block q (by have := HRA.out.lt; omega) (by omega))
          have HWB : Hid (Below w.heap.size w wB) := hKA.bel.trans (hkB.below (by omega) (by have := lt_blk hKA.m0; omega))
          have HLN : Hid (P.length < 137438953472 ∧ ys.length < 1073741824) := ⟨by have := HPP.out.1; have := HL30.out; omega, by have := HYi.out.1; omega⟩
          clear hgB hkB hKA HKA HRA HC0 HSA hsA hgv hgb hlr HYi HTT HIN HM5 HPP
          go_wp2_with (refine wpList_load_msgP rfl _ rfl g mm 27 (0, 0) ?_ ?_ ?_; rfl; exact HGB.out)
          refine (rEncodeMsg_any mm P ys wB HGMB.out.1 HLN.out.1 HLN.out.2).mono ?_
          rintro x w7 ⟨v7, rfl, hO7, hB7⟩
          have HG7 : Hid (w7.heap[g]? = some (.cells mm.cells 27 (0, 0))) := (hB7.block _ (lt_blk HGB.out)).trans HGB.out
          have H7 : Hid (w7.heap[w.heap.size]? = some (.cells MsgR.zero.cells 27 (0, 0))) := (hB7.block _ (lt_blk HZB.out)).trans HZB.out
          have HR7 : Hid (RdR w7 (w.heap.size + 1) M1 q1) := HRB.out.same (fun q hq => hB7.block _ (by have := HRB.out.lt; omega))
          have HW7 : Hid (Below w.heap.size w w7) := HWB.out.trans (hB7.mono (by have := lt_blk HZB.out; omega))
          have HGM7 : Hid (MsgGot w7 (w.heap.size + 1) mm P ys) := HGMB.out.2.below hB7 (Nat.le_refl _)
          obtain ⟨ok, HOK⟩ : ∃ ok, Hid (msgB mm ys = ok) := ⟨_, rfl⟩
          rw [HOK.out] at hO7 ⊢
          obtain ⟨ao7, c7, rfl, -, hR7, -⟩ := OwnB.form2r hO7
          have HC7 : Hid (Rowed w7 ao7 (if ok = true then encMsg mm P ys else []) c7) := hR7
          clear hO7 hB7 hR7 HGB HZB HRB HWB HGMB
          obtain ⟨n7, HN7⟩ : ∃ n7, Hid ((if ok = true then encMsg mm P ys else []).length = n7) := ⟨_, rfl⟩
          rw [HN7.out]
          obtain ⟨fe, HFE⟩ : ∃ fe : Int, Hid ((if ok = true then (0 : Int) else 1) = fe) := ⟨_, rfl⟩
          rw [HFE.out]
          go_wp2_with fail
          refine (rrWhole_str (w.heap.size + 1) M1 q1 w7 HR7.out).mono ?_
          rintro x w8 ⟨rfl, rfl⟩
          obtain ⟨wh, HWH⟩ : ∃ wh, Hid ((!q1 && decide (M1 = [])) = wh) := ⟨_, rfl⟩
          rw [HWH.out]
          cases wh
          case false =>
            have HD : Hid (∀ W, DecMsg B w.heap.size (.returned (.tuple #[.agg MsgR.zero.cells, .int .i64 2])) W) := fun W => rhNone HVY.out.1 HVY.out.2 HCM.out (.inl (fun h1 h2 => by have := HWH.out; rw [h1, h2] at this; simp at this))
            go_wp2_with (first | refine wpList_build_to rfl 27 _ rfl MsgR.zero.cells (by kernel_rfl) ?_ | (refine wpList_store_msgP rfl _ _ rfl w.heap.size MsgR.zero MsgR.zero ?_ ?_ H7.out ?_; rfl; rfl))
            have HC8 : Hid ((w8.setRow w.heap.size MsgR.zero.cells).heap[w.heap.size]? = some (.cells MsgR.zero.cells 27 (0, 0))) := setRow_blk H7.out _
            have hW8 : Below w.heap.size w (w8.setRow w.heap.size MsgR.zero.cells) := HW7.out.trans ((keeps_setRow w8 _ _).below (Nat.le_refl _) (by have := lt_blk H7.out; omega))
            refine bodyPost_ret (v := .tuple #[.agg MsgR.zero.cells, .int .i64 2]) ?_ rfl ⟨HD.out _, hW8⟩
            exact results_cell_tmp (p := 2) (q := 3) rfl _ _ w.heap.size _ _ rfl rfl (load_msg_cell _ _ _ _ _ HC8.out)
          case true =>
            cases ok
            case false =>
              obtain rfl : fe = 1 := HFE.out.symm
              have HD : Hid (∀ W, DecMsg B w.heap.size (.returned (.tuple #[.agg MsgR.zero.cells, .int .i64 2])) W) := fun W => rhNone HVY.out.1 HVY.out.2 HCM.out (.inr (.inl HOK.out))
              go_wp2_with (first | refine wpList_build_to rfl 27 _ rfl MsgR.zero.cells (by kernel_rfl) ?_ | (refine wpList_store_msgP rfl _ _ rfl w.heap.size MsgR.zero MsgR.zero ?_ ?_ H7.out ?_; rfl; rfl))
              have HC8 : Hid ((w8.setRow w.heap.size MsgR.zero.cells).heap[w.heap.size]? = some (.cells MsgR.zero.cells 27 (0, 0))) := setRow_blk H7.out _
              have hW8 : Below w.heap.size w (w8.setRow w.heap.size MsgR.zero.cells) := HW7.out.trans ((keeps_setRow w8 _ _).below (Nat.le_refl _) (by have := lt_blk H7.out; omega))
              refine bodyPost_ret (v := .tuple #[.agg MsgR.zero.cells, .int .i64 2]) ?_ rfl ⟨HD.out _, hW8⟩
              exact results_cell_tmp (p := 2) (q := 3) rfl _ _ w.heap.size _ _ rfl rfl (load_msg_cell _ _ _ _ _ HC8.out)
            case true =>
              obtain rfl : fe = 0 := HFE.out.symm
              simp only [if_true] at HC7 HN7
              have hcv1 := conv_str (w := w8) HC7.out HN7.out.symm
              have hcv2 := conv_str (w := w8) (HR.out.below HW7.out (Nat.le_refl _)) HN.out.symm
              obtain ⟨sA, HSA⟩ : ∃ sA, Hid (strOf (encMsg mm P ys) = sA) := ⟨_, rfl⟩
              obtain ⟨sB, HSB⟩ : ∃ sB, Hid (strOf B = sB) := ⟨_, rfl⟩
              rw [HSA.out] at hcv1
              rw [HSB.out] at hcv2
              by_cases hs : sA = sB
              case neg =>
                have hs1 : (sA.toList == sB.toList) = false := beq_false_of_ne (fun h => hs (ByteArray.ext (Array.toList_inj.1 (by rw [← ByteArray.toList_eq, ← ByteArray.toList_eq]; exact h))))
                have HD : Hid (∀ W, DecMsg B w.heap.size (.returned (.tuple #[.agg MsgR.zero.cells, .int .i64 2])) W) := fun W => rhNone HVY.out.1 HVY.out.2 HCM.out (.inr (.inr (fun h => hs (HSA.out.symm.trans ((congrArg strOf h).trans HSB.out)))))
                go_wp2_with (first | refine wpList_build_to rfl 27 _ rfl MsgR.zero.cells (by kernel_rfl) ?_ | (refine wpList_store_msgP rfl _ _ rfl w.heap.size MsgR.zero MsgR.zero ?_ ?_ H7.out ?_; rfl; rfl))
                have HC8 : Hid ((w8.setRow w.heap.size MsgR.zero.cells).heap[w.heap.size]? = some (.cells MsgR.zero.cells 27 (0, 0))) := setRow_blk H7.out _
                have hW8 : Below w.heap.size w (w8.setRow w.heap.size MsgR.zero.cells) := HW7.out.trans ((keeps_setRow w8 _ _).below (Nat.le_refl _) (by have := lt_blk H7.out; omega))
                refine bodyPost_ret (v := .tuple #[.agg MsgR.zero.cells, .int .i64 2]) ?_ rfl ⟨HD.out _, hW8⟩
                exact results_cell_tmp (p := 2) (q := 3) rfl _ _ w.heap.size _ _ rfl rfl (load_msg_cell _ _ _ _ _ HC8.out)
              case pos =>
                subst hs
                have HEQ : Hid (encMsg mm P ys = B) := strOf_inj (encMsg_bytes HGM7.out.pb HGM7.out.yb (fun j _ => HGM7.out.tb j)) HY.out (HSA.out.trans HSB.out.symm)
                go_wp2_with (first | (refine wpList_load_msgP rfl _ rfl g mm 27 (0, 0) ?_ ?_ ?_; rfl; exact HG7.out) | (refine wpList_store_msgP rfl _ _ rfl w.heap.size mm MsgR.zero ?_ ?_ H7.out ?_; rfl; rfl))
                have HC8 : Hid ((w8.setRow w.heap.size mm.cells).heap[w.heap.size]? = some (.cells mm.cells 27 (0, 0))) := setRow_blk H7.out _
                have hW8 : Below w.heap.size w (w8.setRow w.heap.size mm.cells) := HW7.out.trans ((keeps_setRow w8 _ _).below (Nat.le_refl _) (by have := lt_blk H7.out; omega))
                refine bodyPost_ret (v := .tuple #[.agg mm.cells, .int .i64 0]) ?_ rfl ⟨⟨mm, 0, rfl, .inl ⟨rfl, P, ys, (HGM7.out.setRow (Nat.lt_succ_self _) _).mono (Nat.le_succ _), HVY.out.1, HVY.out.2, HOK.out, HEQ.out⟩⟩, hW8⟩
                exact results_cell_tmp (p := 2) (q := 3) rfl _ _ w.heap.size _ _ rfl rfl (load_msg_cell _ _ _ _ _ HC8.out)
        · rw [h1e] at c1
          go_wp2_with fail
          refine (rHash_str (w.heap.size + 1) Li eri wr HRi.out).mono ?_
          rintro x uA ⟨D, rfl, iD, ⟨M1, q1, hr, ht, hl⟩, hk⟩
          have HKA : Hid (RhK w g w9.heap.size wr.heap.size { b5 with ya := ya, yl := ys.length, yc := yc } P ys uA) := HKi.out.keeps hk (Nat.le_refl _)
          have HRA : Hid (RdR uA (w.heap.size + 1) M1 q1) := hr
          have HC0 : Hid (∀ m1 P1 ys1, MsgEnc m1 P1 ys1 B → (a0 = m1.k ∧ a1 = m1.f ∧ a2 = m1.t ∧ a3 = m1.s ∧ a4 = m1.v) ∧ P = P1 ∧ VotesEq ys ys1 ∧ (∀ j, j < 32 → hashF D j = m1.tag j) ∧ M1 = [] ∧ q1 = false) := fun m1 P1 ys1 hE => by
            obtain ⟨p1, p2, p3, p4, p5⟩ := HOUT.out m1 P1 ys1 hE
            obtain ⟨s1, s2, s3⟩ := ht (ofF 32 m1.tag) [] (by rw [ofF_length]; rfl) p4
            exact ⟨p1, p2, p3, fun j hj => by unfold hashF; rw [s1, ofF_getD hj], s2, s3.trans p5⟩
          have HSA : Hid (wr.heap.size ≤ uA.heap.size) := hk.size
          clear hr ht hl hk HKi HRi HOUT
          go_wp2_with (refine wpList_store_tagMP rfl _ _ rfl g (hashF D) { b5 with ya := ya, yl := ys.length, yc := yc } ?_ ?_ 27 HKA.out.mg ?_; rfl; rfl)
          intro wB hgB hkB
          obtain ⟨mm, HMM⟩ : ∃ mm : MsgR, Hid (mm = ⟨a0, a1, a2, a3, a4, va, pl, vc, ya, ys.length, yc, hashF D⟩) := ⟨_, rfl⟩
          have HGB : Hid (wB.heap[g]? = some (.cells mm.cells 27 (0, 0))) := by
            rw [HM5.out] at hgB
            rw [HMM.out]
            exact hgB
          have hKA := HKA.out
          have hgv := hKA.gv
          have hgb := hKA.gb
          have hlr := hKA.lr
          have hsA := HSA.out
          have HGMB : Hid (MsgIn wB mm P ys ∧ MsgGot wB (w.heap.size + 1) mm P ys) := by
            obtain ⟨ao2, cap2, e2, hat, hlt⟩ := hKA.own.form
            have hrow : RowF wB va P vc := by
              have := hKA.row
              rw [HM5.out] at this
              exact this.same (fun ad e => hkB.block _ (by have := hKA.vl ad (by rw [HM5.out]; exact e); have := hKA.bv; omega) (by have := hKA.vl ad (by rw [HM5.out]; exact e); omega))
            have hvot : VotesAt wB ya ys := by
              have e3 : ao2 = ya := by injection e2 with h1 h2 h3; exact h1.symm
              subst e3
              exact hat.same (fun ad e => hkB.block _ (hlt ad e).2 (by have := (hlt ad e).1; omega))
            have h37 : P.length < 137438953472 := by have := HPP.out.1; have := HL30.out; omega
            rw [HMM.out]
            have hI : MsgIn wB ⟨a0, a1, a2, a3, a4, va, pl, vc, ya, ys.length, yc, hashF D⟩ P ys := ⟨HPP.out.2.2.2.symm, hrow.1, rfl, hvot, HIN.out, fun y hy => (HYi.out.2.1 y hy).1, HPP.out.2.1, fun y hy => (HYi.out.2.1 y hy).2, fun j _ => hashF_bytes iD j⟩
            exact ⟨hI, ⟨⟨HPP.out.2.2.2.symm, hrow.1, rfl, hvot, HIN.out, fun y hy => (HYi.out.2.1 y hy).1, h37, by have := HYi.out.1; omega⟩, HPP.out.2.1, fun y hy => (HYi.out.2.1 y hy).2, fun j => hashF_bytes iD j, fun ad e => by have := hKA.vl ad (by rw [HM5.out]; exact e); omega, fun ad e => by have := hKA.ol ad e; omega, HPP.out.2.2.1, hrow.2⟩⟩
          have HCM : Hid (∀ m1 P1 ys1, MsgEnc m1 P1 ys1 B → (mm.k = m1.k ∧ mm.f = m1.f ∧ mm.t = m1.t ∧ mm.s = m1.s ∧ mm.v = m1.v ∧ P = P1 ∧ VotesEq ys ys1 ∧ ∀ j, j < 32 → mm.tag j = m1.tag j) ∧ M1 = [] ∧ q1 = false) := fun m1 P1 ys1 hE => by
            obtain ⟨⟨p1, p2, p3, p4, p5⟩, p6, p7, p8, p9, p10⟩ := HC0.out m1 P1 ys1 hE
            rw [HMM.out]
            exact ⟨⟨p1, p2, p3, p4, p5, p6, p7, p8⟩, p9, p10⟩
          have HVY : Hid (mm.vl = P.length ∧ mm.yl = ys.length) := by rw [HMM.out]; exact ⟨HPP.out.2.2.2.symm, rfl⟩
          have HZB : Hid (wB.heap[w.heap.size]? = some (.cells MsgR.zero.cells 27 (0, 0))) := (hkB.block _ (by have := lt_blk hKA.m0; omega) (by omega)).trans hKA.m0
          have HRB : Hid (RdR wB (w.heap.size + 1) M1 q1) := HRA.out.same (fun q hq => hkB.block q (by have := HRA.out.lt; omega) (by omega))
          have HWB : Hid (Below w.heap.size w wB) := hKA.bel.trans (hkB.below (by omega) (by have := lt_blk hKA.m0; omega))
          have HLN : Hid (P.length < 137438953472 ∧ ys.length < 1073741824) := ⟨by have := HPP.out.1; have := HL30.out; omega, by have := HYi.out.1; omega⟩
          clear hgB hkB hKA HKA HRA HC0 HSA hsA hgv hgb hlr HYi HTT HIN HM5 HPP
          go_wp2_with (refine wpList_load_msgP rfl _ rfl g mm 27 (0, 0) ?_ ?_ ?_; rfl; exact HGB.out)
          refine (rEncodeMsg_any mm P ys wB HGMB.out.1 HLN.out.1 HLN.out.2).mono ?_
          rintro x w7 ⟨v7, rfl, hO7, hB7⟩
          have HG7 : Hid (w7.heap[g]? = some (.cells mm.cells 27 (0, 0))) := (hB7.block _ (lt_blk HGB.out)).trans HGB.out
          have H7 : Hid (w7.heap[w.heap.size]? = some (.cells MsgR.zero.cells 27 (0, 0))) := (hB7.block _ (lt_blk HZB.out)).trans HZB.out
          have HR7 : Hid (RdR w7 (w.heap.size + 1) M1 q1) := HRB.out.same (fun q hq => hB7.block _ (by have := HRB.out.lt; omega))
          have HW7 : Hid (Below w.heap.size w w7) := HWB.out.trans (hB7.mono (by have := lt_blk HZB.out; omega))
          have HGM7 : Hid (MsgGot w7 (w.heap.size + 1) mm P ys) := HGMB.out.2.below hB7 (Nat.le_refl _)
          obtain ⟨ok, HOK⟩ : ∃ ok, Hid (msgB mm ys = ok) := ⟨_, rfl⟩
          rw [HOK.out] at hO7 ⊢
          obtain ⟨ao7, c7, rfl, -, hR7, -⟩ := OwnB.form2r hO7
          have HC7 : Hid (Rowed w7 ao7 (if ok = true then encMsg mm P ys else []) c7) := hR7
          clear hO7 hB7 hR7 HGB HZB HRB HWB HGMB
          obtain ⟨n7, HN7⟩ : ∃ n7, Hid ((if ok = true then encMsg mm P ys else []).length = n7) := ⟨_, rfl⟩
          rw [HN7.out]
          obtain ⟨fe, HFE⟩ : ∃ fe : Int, Hid ((if ok = true then (0 : Int) else 1) = fe) := ⟨_, rfl⟩
          rw [HFE.out]
          go_wp2_with fail
          refine (rrWhole_str (w.heap.size + 1) M1 q1 w7 HR7.out).mono ?_
          rintro x w8 ⟨rfl, rfl⟩
          obtain ⟨wh, HWH⟩ : ∃ wh, Hid ((!q1 && decide (M1 = [])) = wh) := ⟨_, rfl⟩
          rw [HWH.out]
          cases wh
          case false =>
            have HD : Hid (∀ W, DecMsg B w.heap.size (.returned (.tuple #[.agg MsgR.zero.cells, .int .i64 2])) W) := fun W => rhNone HVY.out.1 HVY.out.2 HCM.out (.inl (fun h1 h2 => by have := HWH.out; rw [h1, h2] at this; simp at this))
            go_wp2_with (first | refine wpList_build_to rfl 27 _ rfl MsgR.zero.cells (by kernel_rfl) ?_ | (refine wpList_store_msgP rfl _ _ rfl w.heap.size MsgR.zero MsgR.zero ?_ ?_ H7.out ?_; rfl; rfl))
            have HC8 : Hid ((w8.setRow w.heap.size MsgR.zero.cells).heap[w.heap.size]? = some (.cells MsgR.zero.cells 27 (0, 0))) := setRow_blk H7.out _
            have hW8 : Below w.heap.size w (w8.setRow w.heap.size MsgR.zero.cells) := HW7.out.trans ((keeps_setRow w8 _ _).below (Nat.le_refl _) (by have := lt_blk H7.out; omega))
            refine bodyPost_ret (v := .tuple #[.agg MsgR.zero.cells, .int .i64 2]) ?_ rfl ⟨HD.out _, hW8⟩
            exact results_cell_tmp (p := 2) (q := 3) rfl _ _ w.heap.size _ _ rfl rfl (load_msg_cell _ _ _ _ _ HC8.out)
          case true =>
            cases ok
            case false =>
              obtain rfl : fe = 1 := HFE.out.symm
              have HD : Hid (∀ W, DecMsg B w.heap.size (.returned (.tuple #[.agg MsgR.zero.cells, .int .i64 2])) W) := fun W => rhNone HVY.out.1 HVY.out.2 HCM.out (.inr (.inl HOK.out))
              go_wp2_with (first | refine wpList_build_to rfl 27 _ rfl MsgR.zero.cells (by kernel_rfl) ?_ | (refine wpList_store_msgP rfl _ _ rfl w.heap.size MsgR.zero MsgR.zero ?_ ?_ H7.out ?_; rfl; rfl))
              have HC8 : Hid ((w8.setRow w.heap.size MsgR.zero.cells).heap[w.heap.size]? = some (.cells MsgR.zero.cells 27 (0, 0))) := setRow_blk H7.out _
              have hW8 : Below w.heap.size w (w8.setRow w.heap.size MsgR.zero.cells) := HW7.out.trans ((keeps_setRow w8 _ _).below (Nat.le_refl _) (by have := lt_blk H7.out; omega))
              refine bodyPost_ret (v := .tuple #[.agg MsgR.zero.cells, .int .i64 2]) ?_ rfl ⟨HD.out _, hW8⟩
              exact results_cell_tmp (p := 2) (q := 3) rfl _ _ w.heap.size _ _ rfl rfl (load_msg_cell _ _ _ _ _ HC8.out)
            case true =>
              obtain rfl : fe = 0 := HFE.out.symm
              simp only [if_true] at HC7 HN7
              have hcv1 := conv_str (w := w8) HC7.out HN7.out.symm
              have hcv2 := conv_str (w := w8) (HR.out.below HW7.out (Nat.le_refl _)) HN.out.symm
              obtain ⟨sA, HSA⟩ : ∃ sA, Hid (strOf (encMsg mm P ys) = sA) := ⟨_, rfl⟩
              obtain ⟨sB, HSB⟩ : ∃ sB, Hid (strOf B = sB) := ⟨_, rfl⟩
              rw [HSA.out] at hcv1
              rw [HSB.out] at hcv2
              by_cases hs : sA = sB
              case neg =>
                have hs1 : (sA.toList == sB.toList) = false := beq_false_of_ne (fun h => hs (ByteArray.ext (Array.toList_inj.1 (by rw [← ByteArray.toList_eq, ← ByteArray.toList_eq]; exact h))))
                have HD : Hid (∀ W, DecMsg B w.heap.size (.returned (.tuple #[.agg MsgR.zero.cells, .int .i64 2])) W) := fun W => rhNone HVY.out.1 HVY.out.2 HCM.out (.inr (.inr (fun h => hs (HSA.out.symm.trans ((congrArg strOf h).trans HSB.out)))))
                go_wp2_with (first | refine wpList_build_to rfl 27 _ rfl MsgR.zero.cells (by kernel_rfl) ?_ | (refine wpList_store_msgP rfl _ _ rfl w.heap.size MsgR.zero MsgR.zero ?_ ?_ H7.out ?_; rfl; rfl))
                have HC8 : Hid ((w8.setRow w.heap.size MsgR.zero.cells).heap[w.heap.size]? = some (.cells MsgR.zero.cells 27 (0, 0))) := setRow_blk H7.out _
                have hW8 : Below w.heap.size w (w8.setRow w.heap.size MsgR.zero.cells) := HW7.out.trans ((keeps_setRow w8 _ _).below (Nat.le_refl _) (by have := lt_blk H7.out; omega))
                refine bodyPost_ret (v := .tuple #[.agg MsgR.zero.cells, .int .i64 2]) ?_ rfl ⟨HD.out _, hW8⟩
                exact results_cell_tmp (p := 2) (q := 3) rfl _ _ w.heap.size _ _ rfl rfl (load_msg_cell _ _ _ _ _ HC8.out)
              case pos =>
                subst hs
                have HEQ : Hid (encMsg mm P ys = B) := strOf_inj (encMsg_bytes HGM7.out.pb HGM7.out.yb (fun j _ => HGM7.out.tb j)) HY.out (HSA.out.trans HSB.out.symm)
                go_wp2_with (first | (refine wpList_load_msgP rfl _ rfl g mm 27 (0, 0) ?_ ?_ ?_; rfl; exact HG7.out) | (refine wpList_store_msgP rfl _ _ rfl w.heap.size mm MsgR.zero ?_ ?_ H7.out ?_; rfl; rfl))
                have HC8 : Hid ((w8.setRow w.heap.size mm.cells).heap[w.heap.size]? = some (.cells mm.cells 27 (0, 0))) := setRow_blk H7.out _
                have hW8 : Below w.heap.size w (w8.setRow w.heap.size mm.cells) := HW7.out.trans ((keeps_setRow w8 _ _).below (Nat.le_refl _) (by have := lt_blk H7.out; omega))
                refine bodyPost_ret (v := .tuple #[.agg mm.cells, .int .i64 0]) ?_ rfl ⟨⟨mm, 0, rfl, .inl ⟨rfl, P, ys, (HGM7.out.setRow (Nat.lt_succ_self _) _).mono (Nat.le_succ _), HVY.out.1, HVY.out.2, HOK.out, HEQ.out⟩⟩, hW8⟩
                exact results_cell_tmp (p := 2) (q := 3) rfl _ _ w.heap.size _ _ rfl rfl (load_msg_cell _ _ _ _ _ HC8.out)
        · rw [h1e] at c1
          go_wp2_with fail
          refine (rHash_str (w.heap.size + 1) Li eri wr HRi.out).mono ?_
          rintro x uA ⟨D, rfl, iD, ⟨M1, q1, hr, ht, hl⟩, hk⟩
          have HKA : Hid (RhK w g w9.heap.size wr.heap.size { b5 with ya := ya, yl := ys.length, yc := yc } P ys uA) := HKi.out.keeps hk (Nat.le_refl _)
          have HRA : Hid (RdR uA (w.heap.size + 1) M1 q1) := hr
          have HC0 : Hid (∀ m1 P1 ys1, MsgEnc m1 P1 ys1 B → (a0 = m1.k ∧ a1 = m1.f ∧ a2 = m1.t ∧ a3 = m1.s ∧ a4 = m1.v) ∧ P = P1 ∧ VotesEq ys ys1 ∧ (∀ j, j < 32 → hashF D j = m1.tag j) ∧ M1 = [] ∧ q1 = false) := fun m1 P1 ys1 hE => by
            obtain ⟨p1, p2, p3, p4, p5⟩ := HOUT.out m1 P1 ys1 hE
            obtain ⟨s1, s2, s3⟩ := ht (ofF 32 m1.tag) [] (by rw [ofF_length]; rfl) p4
            exact ⟨p1, p2, p3, fun j hj => by unfold hashF; rw [s1, ofF_getD hj], s2, s3.trans p5⟩
          have HSA : Hid (wr.heap.size ≤ uA.heap.size) := hk.size
          clear hr ht hl hk HKi HRi HOUT
          go_wp2_with (refine wpList_store_tagMP rfl _ _ rfl g (hashF D) { b5 with ya := ya, yl := ys.length, yc := yc } ?_ ?_ 27 HKA.out.mg ?_; rfl; rfl)
          intro wB hgB hkB
          obtain ⟨mm, HMM⟩ : ∃ mm : MsgR, Hid (mm = ⟨a0, a1, a2, a3, a4, va, pl, vc, ya, ys.length, yc, hashF D⟩) := ⟨_, rfl⟩
          have HGB : Hid (wB.heap[g]? = some (.cells mm.cells 27 (0, 0))) := by
            rw [HM5.out] at hgB
            rw [HMM.out]
            exact hgB
          have hKA := HKA.out
          have hgv := hKA.gv
          have hgb := hKA.gb
          have hlr := hKA.lr
          have hsA := HSA.out
          have HGMB : Hid (MsgIn wB mm P ys ∧ MsgGot wB (w.heap.size + 1) mm P ys) := by
            obtain ⟨ao2, cap2, e2, hat, hlt⟩ := hKA.own.form
            have hrow : RowF wB va P vc := by
              have := hKA.row
              rw [HM5.out] at this
              exact this.same (fun ad e => hkB.block _ (by have := hKA.vl ad (by rw [HM5.out]; exact e); have := hKA.bv; omega) (by have := hKA.vl ad (by rw [HM5.out]; exact e); omega))
            have hvot : VotesAt wB ya ys := by
              have e3 : ao2 = ya := by injection e2 with h1 h2 h3; exact h1.symm
              subst e3
              exact hat.same (fun ad e => hkB.block _ (hlt ad e).2 (by have := (hlt ad e).1; omega))
            have h37 : P.length < 137438953472 := by have := HPP.out.1; have := HL30.out; omega
            rw [HMM.out]
            have hI : MsgIn wB ⟨a0, a1, a2, a3, a4, va, pl, vc, ya, ys.length, yc, hashF D⟩ P ys := ⟨HPP.out.2.2.2.symm, hrow.1, rfl, hvot, HIN.out, fun y hy => (HYi.out.2.1 y hy).1, HPP.out.2.1, fun y hy => (HYi.out.2.1 y hy).2, fun j _ => hashF_bytes iD j⟩
            exact ⟨hI, ⟨⟨HPP.out.2.2.2.symm, hrow.1, rfl, hvot, HIN.out, fun y hy => (HYi.out.2.1 y hy).1, h37, by have := HYi.out.1; omega⟩, HPP.out.2.1, fun y hy => (HYi.out.2.1 y hy).2, fun j => hashF_bytes iD j, fun ad e => by have := hKA.vl ad (by rw [HM5.out]; exact e); omega, fun ad e => by have := hKA.ol ad e; omega, HPP.out.2.2.1, hrow.2⟩⟩
          have HCM : Hid (∀ m1 P1 ys1, MsgEnc m1 P1 ys1 B → (mm.k = m1.k ∧ mm.f = m1.f ∧ mm.t = m1.t ∧ mm.s = m1.s ∧ mm.v = m1.v ∧ P = P1 ∧ VotesEq ys ys1 ∧ ∀ j, j < 32 → mm.tag j = m1.tag j) ∧ M1 = [] ∧ q1 = false) := fun m1 P1 ys1 hE => by
            obtain ⟨⟨p1, p2, p3, p4, p5⟩, p6, p7, p8, p9, p10⟩ := HC0.out m1 P1 ys1 hE
            rw [HMM.out]
            exact ⟨⟨p1, p2, p3, p4, p5, p6, p7, p8⟩, p9, p10⟩
          have HVY : Hid (mm.vl = P.length ∧ mm.yl = ys.length) := by rw [HMM.out]; exact ⟨HPP.out.2.2.2.symm, rfl⟩
          have HZB : Hid (wB.heap[w.heap.size]? = some (.cells MsgR.zero.cells 27 (0, 0))) := (hkB.block _ (by have := lt_blk hKA.m0; omega) (by omega)).trans hKA.m0
          have HRB : Hid (RdR wB (w.heap.size + 1) M1 q1) := HRA.out.same (fun q hq => hkB.block q (by have := HRA.out.lt; omega) (by omega))
          have HWB : Hid (Below w.heap.size w wB) := hKA.bel.trans (hkB.below (by omega) (by have := lt_blk hKA.m0; omega))
          have HLN : Hid (P.length < 137438953472 ∧ ys.length < 1073741824) := ⟨by have := HPP.out.1; have := HL30.out; omega, by have := HYi.out.1; omega⟩
          clear hgB hkB hKA HKA HRA HC0 HSA hsA hgv hgb hlr HYi HTT HIN HM5 HPP
          go_wp2_with (refine wpList_load_msgP rfl _ rfl g mm 27 (0, 0) ?_ ?_ ?_; rfl; exact HGB.out)
          refine (rEncodeMsg_any mm P ys wB HGMB.out.1 HLN.out.1 HLN.out.2).mono ?_
          rintro x w7 ⟨v7, rfl, hO7, hB7⟩
          have HG7 : Hid (w7.heap[g]? = some (.cells mm.cells 27 (0, 0))) := (hB7.block _ (lt_blk HGB.out)).trans HGB.out
          have H7 : Hid (w7.heap[w.heap.size]? = some (.cells MsgR.zero.cells 27 (0, 0))) := (hB7.block _ (lt_blk HZB.out)).trans HZB.out
          have HR7 : Hid (RdR w7 (w.heap.size + 1) M1 q1) := HRB.out.same (fun q hq => hB7.block _ (by have := HRB.out.lt; omega))
          have HW7 : Hid (Below w.heap.size w w7) := HWB.out.trans (hB7.mono (by have := lt_blk HZB.out; omega))
          have HGM7 : Hid (MsgGot w7 (w.heap.size + 1) mm P ys) := HGMB.out.2.below hB7 (Nat.le_refl _)
          obtain ⟨ok, HOK⟩ : ∃ ok, Hid (msgB mm ys = ok) := ⟨_, rfl⟩
          rw [HOK.out] at hO7 ⊢
          obtain ⟨ao7, c7, rfl, -, hR7, -⟩ := OwnB.form2r hO7
          have HC7 : Hid (Rowed w7 ao7 (if ok = true then encMsg mm P ys else []) c7) := hR7
          clear hO7 hB7 hR7 HGB HZB HRB HWB HGMB
          obtain ⟨n7, HN7⟩ : ∃ n7, Hid ((if ok = true then encMsg mm P ys else []).length = n7) := ⟨_, rfl⟩
          rw [HN7.out]
          obtain ⟨fe, HFE⟩ : ∃ fe : Int, Hid ((if ok = true then (0 : Int) else 1) = fe) := ⟨_, rfl⟩
          rw [HFE.out]
          go_wp2_with fail
          refine (rrWhole_str (w.heap.size + 1) M1 q1 w7 HR7.out).mono ?_
          rintro x w8 ⟨rfl, rfl⟩
          obtain ⟨wh, HWH⟩ : ∃ wh, Hid ((!q1 && decide (M1 = [])) = wh) := ⟨_, rfl⟩
          rw [HWH.out]
          cases wh
          case false =>
            have HD : Hid (∀ W, DecMsg B w.heap.size (.returned (.tuple #[.agg MsgR.zero.cells, .int .i64 2])) W) := fun W => rhNone HVY.out.1 HVY.out.2 HCM.out (.inl (fun h1 h2 => by have := HWH.out; rw [h1, h2] at this; simp at this))
            go_wp2_with (first | refine wpList_build_to rfl 27 _ rfl MsgR.zero.cells (by kernel_rfl) ?_ | (refine wpList_store_msgP rfl _ _ rfl w.heap.size MsgR.zero MsgR.zero ?_ ?_ H7.out ?_; rfl; rfl))
            have HC8 : Hid ((w8.setRow w.heap.size MsgR.zero.cells).heap[w.heap.size]? = some (.cells MsgR.zero.cells 27 (0, 0))) := setRow_blk H7.out _
            have hW8 : Below w.heap.size w (w8.setRow w.heap.size MsgR.zero.cells) := HW7.out.trans ((keeps_setRow w8 _ _).below (Nat.le_refl _) (by have := lt_blk H7.out; omega))
            refine bodyPost_ret (v := .tuple #[.agg MsgR.zero.cells, .int .i64 2]) ?_ rfl ⟨HD.out _, hW8⟩
            exact results_cell_tmp (p := 2) (q := 3) rfl _ _ w.heap.size _ _ rfl rfl (load_msg_cell _ _ _ _ _ HC8.out)
          case true =>
            cases ok
            case false =>
              obtain rfl : fe = 1 := HFE.out.symm
              have HD : Hid (∀ W, DecMsg B w.heap.size (.returned (.tuple #[.agg MsgR.zero.cells, .int .i64 2])) W) := fun W => rhNone HVY.out.1 HVY.out.2 HCM.out (.inr (.inl HOK.out))
              go_wp2_with (first | refine wpList_build_to rfl 27 _ rfl MsgR.zero.cells (by kernel_rfl) ?_ | (refine wpList_store_msgP rfl _ _ rfl w.heap.size MsgR.zero MsgR.zero ?_ ?_ H7.out ?_; rfl; rfl))
              have HC8 : Hid ((w8.setRow w.heap.size MsgR.zero.cells).heap[w.heap.size]? = some (.cells MsgR.zero.cells 27 (0, 0))) := setRow_blk H7.out _
              have hW8 : Below w.heap.size w (w8.setRow w.heap.size MsgR.zero.cells) := HW7.out.trans ((keeps_setRow w8 _ _).below (Nat.le_refl _) (by have := lt_blk H7.out; omega))
              refine bodyPost_ret (v := .tuple #[.agg MsgR.zero.cells, .int .i64 2]) ?_ rfl ⟨HD.out _, hW8⟩
              exact results_cell_tmp (p := 2) (q := 3) rfl _ _ w.heap.size _ _ rfl rfl (load_msg_cell _ _ _ _ _ HC8.out)
            case true =>
              obtain rfl : fe = 0 := HFE.out.symm
              simp only [if_true] at HC7 HN7
              have hcv1 := conv_str (w := w8) HC7.out HN7.out.symm
              have hcv2 := conv_str (w := w8) (HR.out.below HW7.out (Nat.le_refl _)) HN.out.symm
              obtain ⟨sA, HSA⟩ : ∃ sA, Hid (strOf (encMsg mm P ys) = sA) := ⟨_, rfl⟩
              obtain ⟨sB, HSB⟩ : ∃ sB, Hid (strOf B = sB) := ⟨_, rfl⟩
              rw [HSA.out] at hcv1
              rw [HSB.out] at hcv2
              by_cases hs : sA = sB
              case neg =>
                have hs1 : (sA.toList == sB.toList) = false := beq_false_of_ne (fun h => hs (ByteArray.ext (Array.toList_inj.1 (by rw [← ByteArray.toList_eq, ← ByteArray.toList_eq]; exact h))))
                have HD : Hid (∀ W, DecMsg B w.heap.size (.returned (.tuple #[.agg MsgR.zero.cells, .int .i64 2])) W) := fun W => rhNone HVY.out.1 HVY.out.2 HCM.out (.inr (.inr (fun h => hs (HSA.out.symm.trans ((congrArg strOf h).trans HSB.out)))))
                go_wp2_with (first | refine wpList_build_to rfl 27 _ rfl MsgR.zero.cells (by kernel_rfl) ?_ | (refine wpList_store_msgP rfl _ _ rfl w.heap.size MsgR.zero MsgR.zero ?_ ?_ H7.out ?_; rfl; rfl))
                have HC8 : Hid ((w8.setRow w.heap.size MsgR.zero.cells).heap[w.heap.size]? = some (.cells MsgR.zero.cells 27 (0, 0))) := setRow_blk H7.out _
                have hW8 : Below w.heap.size w (w8.setRow w.heap.size MsgR.zero.cells) := HW7.out.trans ((keeps_setRow w8 _ _).below (Nat.le_refl _) (by have := lt_blk H7.out; omega))
                refine bodyPost_ret (v := .tuple #[.agg MsgR.zero.cells, .int .i64 2]) ?_ rfl ⟨HD.out _, hW8⟩
                exact results_cell_tmp (p := 2) (q := 3) rfl _ _ w.heap.size _ _ rfl rfl (load_msg_cell _ _ _ _ _ HC8.out)
              case pos =>
                subst hs
                have HEQ : Hid (encMsg mm P ys = B) := strOf_inj (encMsg_bytes HGM7.out.pb HGM7.out.yb (fun j _ => HGM7.out.tb j)) HY.out (HSA.out.trans HSB.out.symm)
                go_wp2_with (first | (refine wpList_load_msgP rfl _ rfl g mm 27 (0, 0) ?_ ?_ ?_; rfl; exact HG7.out) | (refine wpList_store_msgP rfl _ _ rfl w.heap.size mm MsgR.zero ?_ ?_ H7.out ?_; rfl; rfl))
                have HC8 : Hid ((w8.setRow w.heap.size mm.cells).heap[w.heap.size]? = some (.cells mm.cells 27 (0, 0))) := setRow_blk H7.out _
                have hW8 : Below w.heap.size w (w8.setRow w.heap.size mm.cells) := HW7.out.trans ((keeps_setRow w8 _ _).below (Nat.le_refl _) (by have := lt_blk H7.out; omega))
                refine bodyPost_ret (v := .tuple #[.agg mm.cells, .int .i64 0]) ?_ rfl ⟨⟨mm, 0, rfl, .inl ⟨rfl, P, ys, (HGM7.out.setRow (Nat.lt_succ_self _) _).mono (Nat.le_succ _), HVY.out.1, HVY.out.2, HOK.out, HEQ.out⟩⟩, hW8⟩
                exact results_cell_tmp (p := 2) (q := 3) rfl _ _ w.heap.size _ _ rfl rfl (load_msg_cell _ _ _ _ _ HC8.out)
      
  · have HT1 : Hid (∀ m1 P1 ys1, MsgEnc m1 P1 ys1 B → False) := fun m1 P1 ys1 hE => hz (ht1.one ⟨by decide, by decide⟩ (msg_sep hE.2.2.2)).1
    have HR1 : Hid (RdR w1 (w.heap.size + 1) L1 er1) := hr1
    clear hr1 ht1 hl1 hk1 HB2 H0 HRR
    go_wp2_with fail
    refine (rrBad_str (w.heap.size + 1) L1 er1 w1 HR1.out).mono ?_
    rintro e w1' ⟨rfl, hr2, hk2, -⟩
    have hlt1 := HR1.out.lt
    have H1' : Hid (w1'.heap[w.heap.size]? = some (.cells MsgR.zero.cells 27 (0, 0))) := (hk2.block _ (by omega) (by omega)).trans H1.out
    have HW1' : Hid (Below w.heap.size w w1') := HW1.out.trans (hk2.below (by omega) (by omega))
    have HRX : Hid (RdR w1' (w.heap.size + 1) [] true) := hr2
    have HLX : Hid (([] : List Int).length ≤ B.length) := Nat.zero_le _
    have HSX : Hid (∀ m1 P1 ys1, MsgEnc m1 P1 ys1 B → ([] : List Int) = nums [m1.k, m1.f, m1.t, m1.s, m1.v] ++ (num (P1.length : Int) ++ (P1 ++ (num (ys1.length : Int) ++ (ys1.flatMap voteL ++ (ofF 32 m1.tag ++ []))))) ∧ true = false) := fun m1 P1 ys1 hE => (HT1.out m1 P1 ys1 hE).elim
    clear hr2 hk2 HR1 HT1 H1 HW1 hlt1
    go_wp2_with fail
    refine (rrNum_str (w.heap.size + 1) ([] : List Int) true w1' HRX.out).mono ?_
    rintro e w2 ⟨⟨a0, rfl, i0, -, L2, er2, hr2, ht2, hl2⟩, hk2⟩
    have hlt1 := HRX.out.lt
    have H2 : Hid (w2.heap[w.heap.size]? = some (.cells MsgR.zero.cells 27 (0, 0))) := (hk2.block _ (by omega) (by omega)).trans H1'.out
    have HW2 : Hid (Below w.heap.size w w2) := HW1'.out.trans (hk2.below (by omega) (by omega))
    have HR2 : Hid (RdR w2 (w.heap.size + 1) L2 er2) := hr2
    have HT2 : Hid (TookN ([] : List Int) L2 [a0] true er2 ∧ L2.length ≤ B.length) := ⟨ht2, Nat.le_trans hl2 HLX.out⟩
    clear hr2 ht2 hk2 hl2 HRX H1' HW1' HLX hlt1
    obtain ⟨b0, HB0⟩ : ∃ b0 : MsgR, Hid (b0 = { MsgR.zero with k := a0 }) := ⟨_, rfl⟩
    go_upto_region 5 with (first | refine wpList_build_to rfl 27 _ rfl (MsgR.cells { MsgR.zero with k := a0 }) (by kernel_rfl) ?_ | refine wpList_alloc_row rfl 27 rfl _ HZM.out ?_ | (refine wpList_store_msgP rfl _ _ rfl w2.heap.size { MsgR.zero with k := a0 } MsgR.zero ?_ ?_ (alloc_blk _ _) ?_; rfl; rfl))
    rw [setRow_new, ← HB0.out]
    have hlt2 := HR2.out.lt
    have HG3 : Hid ((w2.alloc (.cells b0.cells 27)).heap[w2.heap.size]? = some (.cells b0.cells 27 (0, 0))) := alloc_blk _ _
    have H3 : Hid ((w2.alloc (.cells b0.cells 27)).heap[w.heap.size]? = some (.cells MsgR.zero.cells 27 (0, 0))) := alloc_blk_old H2.out _
    have HR3 : Hid (RdR (w2.alloc (.cells b0.cells 27)) (w.heap.size + 1) L2 er2) := HR2.out.same (fun q hq => (below_alloc _ _).block q (by omega))
    have HW3 : Hid (Below w.heap.size w (w2.alloc (.cells b0.cells 27))) := HW2.out.alloc (by omega) _
    generalize w2.alloc (.cells b0.cells 27) = w3 at *
    obtain ⟨g, hg⟩ : ∃ g, w2.heap.size = g := ⟨_, rfl⟩
    rw [hg] at HG3 hlt2
    simp only [hg]
    clear hg HR2 H2 HW2
    go_wp2_with fail
    refine (rrNum_str (w.heap.size + 1) L2 er2 w3 HR3.out).mono ?_
    rintro e u3 ⟨⟨a1, rfl, ia1, -, L3, er3, hr, ht, hl⟩, hk⟩
    have hlt3 := HR3.out.lt
    have HGU : Hid (u3.heap[g]? = some (.cells b0.cells 27 (0, 0))) := (hk.block _ (lt_blk HG3.out) (by omega)).trans HG3.out
    have HU0 : Hid (u3.heap[w.heap.size]? = some (.cells MsgR.zero.cells 27 (0, 0))) := (hk.block _ (lt_blk H3.out) (by omega)).trans H3.out
    have HWU : Hid (Below w.heap.size w u3) := HW3.out.trans (hk.below (by omega) (by omega))
    have HT4 : Hid (TookN L2 L3 [a1] er2 er3 ∧ L3.length ≤ B.length) := ⟨ht, Nat.le_trans hl HT2.out.2⟩
    have hcc : u3.cell? ⟨g, 1, none⟩ = some (.int .i64 b0.f) := (cell_blk HGU.out _).trans (MsgR.at1 _)
    have hff : u3.frozen? ⟨g, 1, none⟩ = false := frozen_blk HGU.out _
    obtain ⟨b1, Hb1⟩ : ∃ b1 : MsgR, Hid (b1 = { b0 with f := a1 }) := ⟨_, rfl⟩
    have HG4 : Hid ((u3.setCell ⟨g, 1, none⟩ (.int .i64 a1)).heap[g]? = some (.cells b1.cells 27 (0, 0))) := set_msg HGU.out (by rw [Hb1.out]; exact MsgR.set_f _ _)
    have H4 : Hid ((u3.setCell ⟨g, 1, none⟩ (.int .i64 a1)).heap[w.heap.size]? = some (.cells MsgR.zero.cells 27 (0, 0))) := (Below.heap_setCell _ _ _ _ (by simp; omega)).trans HU0.out
    have HR4 : Hid (RdR (u3.setCell ⟨g, 1, none⟩ (.int .i64 a1)) (w.heap.size + 1) L3 er3) := hr.same (fun q hq => Below.heap_setCell _ _ _ _ (by simp; omega))
    have HW4 : Hid (Below w.heap.size w (u3.setCell ⟨g, 1, none⟩ (.int .i64 a1))) := HWU.out.setCell (p := ⟨g, 1, none⟩) (by simp; omega) _
    clear hr ht hl hk HGU HU0 HWU HR3 HG3 H3 HW3 hlt3
    go_upto_region 6 with fail
    generalize u3.setCell ⟨g, 1, none⟩ (.int .i64 a1) = w4 at *
    clear hcc hff
    go_wp2_with fail
    refine (rrNum_str (w.heap.size + 1) L3 er3 w4 HR4.out).mono ?_
    rintro e u4 ⟨⟨a2, rfl, ia2, -, L4, er4, hr, ht, hl⟩, hk⟩
    have hlt4 := HR4.out.lt
    have HGU : Hid (u4.heap[g]? = some (.cells b1.cells 27 (0, 0))) := (hk.block _ (lt_blk HG4.out) (by omega)).trans HG4.out
    have HU0 : Hid (u4.heap[w.heap.size]? = some (.cells MsgR.zero.cells 27 (0, 0))) := (hk.block _ (lt_blk H4.out) (by omega)).trans H4.out
    have HWU : Hid (Below w.heap.size w u4) := HW4.out.trans (hk.below (by omega) (by omega))
    have HT5 : Hid (TookN L3 L4 [a2] er3 er4 ∧ L4.length ≤ B.length) := ⟨ht, Nat.le_trans hl HT4.out.2⟩
    have hcc : u4.cell? ⟨g, 2, none⟩ = some (.int .i64 b1.t) := (cell_blk HGU.out _).trans (MsgR.at2 _)
    have hff : u4.frozen? ⟨g, 2, none⟩ = false := frozen_blk HGU.out _
    obtain ⟨b2, Hb2⟩ : ∃ b2 : MsgR, Hid (b2 = { b1 with t := a2 }) := ⟨_, rfl⟩
    have HG5 : Hid ((u4.setCell ⟨g, 2, none⟩ (.int .i64 a2)).heap[g]? = some (.cells b2.cells 27 (0, 0))) := set_msg HGU.out (by rw [Hb2.out]; exact MsgR.set_t _ _)
    have H5 : Hid ((u4.setCell ⟨g, 2, none⟩ (.int .i64 a2)).heap[w.heap.size]? = some (.cells MsgR.zero.cells 27 (0, 0))) := (Below.heap_setCell _ _ _ _ (by simp; omega)).trans HU0.out
    have HR5 : Hid (RdR (u4.setCell ⟨g, 2, none⟩ (.int .i64 a2)) (w.heap.size + 1) L4 er4) := hr.same (fun q hq => Below.heap_setCell _ _ _ _ (by simp; omega))
    have HW5 : Hid (Below w.heap.size w (u4.setCell ⟨g, 2, none⟩ (.int .i64 a2))) := HWU.out.setCell (p := ⟨g, 2, none⟩) (by simp; omega) _
    clear hr ht hl hk HGU HU0 HWU HR4 HG4 H4 HW4 hlt4
    go_upto_region 7 with fail
    generalize u4.setCell ⟨g, 2, none⟩ (.int .i64 a2) = w5 at *
    clear hcc hff
    go_wp2_with fail
    refine (rrNum_str (w.heap.size + 1) L4 er4 w5 HR5.out).mono ?_
    rintro e u5 ⟨⟨a3, rfl, ia3, -, L5, er5, hr, ht, hl⟩, hk⟩
    have hlt5 := HR5.out.lt
    have HGU : Hid (u5.heap[g]? = some (.cells b2.cells 27 (0, 0))) := (hk.block _ (lt_blk HG5.out) (by omega)).trans HG5.out
    have HU0 : Hid (u5.heap[w.heap.size]? = some (.cells MsgR.zero.cells 27 (0, 0))) := (hk.block _ (lt_blk H5.out) (by omega)).trans H5.out
    have HWU : Hid (Below w.heap.size w u5) := HW5.out.trans (hk.below (by omega) (by omega))
    have HT6 : Hid (TookN L4 L5 [a3] er4 er5 ∧ L5.length ≤ B.length) := ⟨ht, Nat.le_trans hl HT5.out.2⟩
    have hcc : u5.cell? ⟨g, 3, none⟩ = some (.int .i64 b2.s) := (cell_blk HGU.out _).trans (MsgR.at3 _)
    have hff : u5.frozen? ⟨g, 3, none⟩ = false := frozen_blk HGU.out _
    obtain ⟨b3, Hb3⟩ : ∃ b3 : MsgR, Hid (b3 = { b2 with s := a3 }) := ⟨_, rfl⟩
    have HG6 : Hid ((u5.setCell ⟨g, 3, none⟩ (.int .i64 a3)).heap[g]? = some (.cells b3.cells 27 (0, 0))) := set_msg HGU.out (by rw [Hb3.out]; exact MsgR.set_s _ _)
    have H6 : Hid ((u5.setCell ⟨g, 3, none⟩ (.int .i64 a3)).heap[w.heap.size]? = some (.cells MsgR.zero.cells 27 (0, 0))) := (Below.heap_setCell _ _ _ _ (by simp; omega)).trans HU0.out
    have HR6 : Hid (RdR (u5.setCell ⟨g, 3, none⟩ (.int .i64 a3)) (w.heap.size + 1) L5 er5) := hr.same (fun q hq => Below.heap_setCell _ _ _ _ (by simp; omega))
    have HW6 : Hid (Below w.heap.size w (u5.setCell ⟨g, 3, none⟩ (.int .i64 a3))) := HWU.out.setCell (p := ⟨g, 3, none⟩) (by simp; omega) _
    clear hr ht hl hk HGU HU0 HWU HR5 HG5 H5 HW5 hlt5
    go_upto_region 8 with fail
    generalize u5.setCell ⟨g, 3, none⟩ (.int .i64 a3) = w6 at *
    clear hcc hff
    go_wp2_with fail
    refine (rrNum_str (w.heap.size + 1) L5 er5 w6 HR6.out).mono ?_
    rintro e u6 ⟨⟨a4, rfl, ia4, -, L6, er6, hr, ht, hl⟩, hk⟩
    have hlt6 := HR6.out.lt
    have HGU : Hid (u6.heap[g]? = some (.cells b3.cells 27 (0, 0))) := (hk.block _ (lt_blk HG6.out) (by omega)).trans HG6.out
    have HU0 : Hid (u6.heap[w.heap.size]? = some (.cells MsgR.zero.cells 27 (0, 0))) := (hk.block _ (lt_blk H6.out) (by omega)).trans H6.out
    have HWU : Hid (Below w.heap.size w u6) := HW6.out.trans (hk.below (by omega) (by omega))
    have HT7 : Hid (TookN L5 L6 [a4] er5 er6 ∧ L6.length ≤ B.length) := ⟨ht, Nat.le_trans hl HT6.out.2⟩
    have hcc : u6.cell? ⟨g, 4, none⟩ = some (.int .i64 b3.v) := (cell_blk HGU.out _).trans (MsgR.at4 _)
    have hff : u6.frozen? ⟨g, 4, none⟩ = false := frozen_blk HGU.out _
    obtain ⟨b4, Hb4⟩ : ∃ b4 : MsgR, Hid (b4 = { b3 with v := a4 }) := ⟨_, rfl⟩
    have HG7 : Hid ((u6.setCell ⟨g, 4, none⟩ (.int .i64 a4)).heap[g]? = some (.cells b4.cells 27 (0, 0))) := set_msg HGU.out (by rw [Hb4.out]; exact MsgR.set_v _ _)
    have H7 : Hid ((u6.setCell ⟨g, 4, none⟩ (.int .i64 a4)).heap[w.heap.size]? = some (.cells MsgR.zero.cells 27 (0, 0))) := (Below.heap_setCell _ _ _ _ (by simp; omega)).trans HU0.out
    have HR7 : Hid (RdR (u6.setCell ⟨g, 4, none⟩ (.int .i64 a4)) (w.heap.size + 1) L6 er6) := hr.same (fun q hq => Below.heap_setCell _ _ _ _ (by simp; omega))
    have HW7 : Hid (Below w.heap.size w (u6.setCell ⟨g, 4, none⟩ (.int .i64 a4))) := HWU.out.setCell (p := ⟨g, 4, none⟩) (by simp; omega) _
    clear hr ht hl hk HGU HU0 HWU HR6 HG6 H6 HW6 hlt6
    go_upto_region 9 with fail
    generalize u6.setCell ⟨g, 4, none⟩ (.int .i64 a4) = w7 at *
    clear hcc hff
    go_wp2_with fail
    refine (rrBytes_str (w.heap.size + 1) L6 er6 w7 HR7.out).mono ?_
    rintro e u7 ⟨vn, rfl, P, hO, hDl, hDb, hk, L7, er7, hr, hl, ht⟩
    have hlt7 := HR7.out.lt
    have HGU : Hid (u7.heap[g]? = some (.cells b4.cells 27 (0, 0))) := (hk.block _ (lt_blk HG7.out) (by omega)).trans HG7.out
    have HU0 : Hid (u7.heap[w.heap.size]? = some (.cells MsgR.zero.cells 27 (0, 0))) := (hk.block _ (lt_blk H7.out) (by omega)).trans H7.out
    have HWU : Hid (Below w.heap.size w u7) := HW7.out.trans (hk.below (by omega) (by omega))
    have HT8 : Hid ((∀ D' R, NumOk (D'.length : Int) → L6 = num (D'.length : Int) ++ (D' ++ R) → P = D' ∧ L7 = R ∧ er7 = er6) ∧ L7.length ≤ B.length) := ⟨ht, Nat.le_trans hl HT7.out.2⟩
    obtain ⟨va, vc, rfl, hvc, hvR, hvb⟩ := OwnB.form2r hO
    have HP8 : Hid (P.length ≤ B.length ∧ ByteL P ∧ P.length ≤ vc ∧ RowF u7 va P vc ∧ ∀ ad, va = some ad → g < ad.block ∧ ad.block < u7.heap.size) := ⟨Nat.le_trans hDl HT7.out.2, hDb, hvc, hO.rowF hvR, fun ad e => by have := hvb ad e; have := lt_blk HG7.out; omega⟩
    obtain ⟨pl, HPL⟩ : ∃ pl, Hid (P.length = pl) := ⟨_, rfl⟩
    rw [HPL.out]
    have hcc : u7.cell? ⟨g, 5, none⟩ = some (.slice b4.va b4.vl b4.vc) := (cell_blk HGU.out _).trans (MsgR.at5 _)
    have hff : u7.frozen? ⟨g, 5, none⟩ = false := frozen_blk HGU.out _
    obtain ⟨b5, Hb5⟩ : ∃ b5 : MsgR, Hid (b5 = { b4 with va := va, vl := pl, vc := vc }) := ⟨_, rfl⟩
    have HG8 : Hid ((u7.setCell ⟨g, 5, none⟩ (.slice va pl vc)).heap[g]? = some (.cells b5.cells 27 (0, 0))) := set_msg HGU.out (by rw [Hb5.out]; exact MsgR.set_va _ _ _ _)
    have H8 : Hid ((u7.setCell ⟨g, 5, none⟩ (.slice va pl vc)).heap[w.heap.size]? = some (.cells MsgR.zero.cells 27 (0, 0))) := (Below.heap_setCell _ _ _ _ (by simp; omega)).trans HU0.out
    have HR8 : Hid (RdR (u7.setCell ⟨g, 5, none⟩ (.slice va pl vc)) (w.heap.size + 1) L7 er7) := hr.same (fun q hq => Below.heap_setCell _ _ _ _ (by simp; omega))
    have HW8 : Hid (Below w.heap.size w (u7.setCell ⟨g, 5, none⟩ (.slice va pl vc))) := HWU.out.setCell (p := ⟨g, 5, none⟩) (by simp; omega) _
    have HV8 : Hid (RowF (u7.setCell ⟨g, 5, none⟩ (.slice va pl vc)) va P vc ∧ ∀ ad, va = some ad → g < ad.block ∧ ad.block < (u7.setCell ⟨g, 5, none⟩ (.slice va pl vc)).heap.size) := ⟨HP8.out.2.2.2.1.same (fun ad e => Below.heap_setCell _ _ _ _ (by have := HP8.out.2.2.2.2 ad e; simp; omega)), fun ad e => by have := HP8.out.2.2.2.2 ad e; simpa [World.setCell] using this⟩
    clear hr ht hl hk hO hDl hDb hvc hvR hvb HGU HU0 HWU HR7 HG7 H7 HW7 hlt7
    go_upto_region 10 with fail
    generalize u7.setCell ⟨g, 5, none⟩ (.slice va pl vc) = w8 at *
    clear hcc hff
    go_wp2_with fail
    refine (rrNum_str (w.heap.size + 1) L7 er7 w8 HR8.out).mono ?_
    rintro e w9 ⟨⟨ny, rfl, iny, hny0, L8, er8, hr, ht, hl⟩, hk⟩
    have hlt8 := HR8.out.lt
    have HG9 : Hid (w9.heap[g]? = some (.cells b5.cells 27 (0, 0))) := (hk.block _ (lt_blk HG8.out) (by omega)).trans HG8.out
    have H9 : Hid (w9.heap[w.heap.size]? = some (.cells MsgR.zero.cells 27 (0, 0))) := (hk.block _ (lt_blk H8.out) (by omega)).trans H8.out
    have HW9 : Hid (Below w.heap.size w w9) := HW8.out.trans (hk.below (by omega) (by omega))
    have HT9 : Hid (TookN L7 L8 [ny] er7 er8 ∧ L8.length ≤ B.length) := ⟨ht, Nat.le_trans hl HT8.out.2⟩
    have HR9 : Hid (RdR w9 (w.heap.size + 1) L8 er8) := hr
    have HV9 : Hid (RowF w9 va P vc ∧ ∀ ad, va = some ad → g < ad.block ∧ ad.block < w9.heap.size) := ⟨HV8.out.1.same (fun ad e => hk.block _ (HV8.out.2 ad e).2 (by have := (HV8.out.2 ad e).1; omega)), fun ad e => ⟨(HV8.out.2 ad e).1, Nat.lt_of_lt_of_le (HV8.out.2 ad e).2 hk.size⟩⟩
    have HNY : Hid (inI ny ∧ 0 ≤ ny) := ⟨iny, hny0⟩
    clear hr ht hl hk HR8 HG8 H8 HW8 HV8 hlt8 iny hny0
    go_wp2_with fail
    have HM5 : Hid (b5 = ⟨a0, a1, a2, a3, a4, va, pl, vc, none, 0, 0, fun _ => 0⟩) := by rw [Hb5.out, Hb4.out, Hb3.out, Hb2.out, Hb1.out, HB0.out]; rfl
    have HIN : Hid (inI a0 ∧ inI a1 ∧ inI a2 ∧ inI a3 ∧ inI a4) := ⟨i0, ia1, ia2, ia3, ia4⟩
    have HTT : Hid (∀ m1 P1 ys1, MsgEnc m1 P1 ys1 B → (a0 = m1.k ∧ a1 = m1.f ∧ a2 = m1.t ∧ a3 = m1.s ∧ a4 = m1.v) ∧ P = P1 ∧ ny = (ys1.length : Int) ∧ ys1.length ≤ 10 ∧ (∀ z ∈ ys1, VoteOk z) ∧ L8 = ys1.flatMap voteL ++ (ofF 32 m1.tag ++ []) ∧ er8 = false) := fun m1 P1 ys1 hE => by
      obtain ⟨c1, c2⟩ := HSX.out m1 P1 ys1 hE
      have hok := msgB_ok hE.2.2.1 hE.1 hE.2.1
      obtain ⟨d1, d2, d3⟩ := ((((HT2.out.1.append HT4.out.1).append HT5.out.1).append HT6.out.1).append HT7.out.1) [m1.k, m1.f, m1.t, m1.s, m1.v] _ (numOk_cons hok.k (numOk_cons hok.f (numOk_cons hok.t (numOk_cons hok.s (numOk_cons hok.v numOk_nil))))) rfl c1
      obtain ⟨f1, f2, f3⟩ := HT8.out.1 P1 _ (num_len (by have := hok.vb; omega)) d2
      obtain ⟨g1, g2, g3⟩ := HT9.out.1.one (num_len (by have := hok.yb; omega)) f2
      simp only [List.cons_append, List.nil_append, List.cons.injEq, and_true] at d1
      exact ⟨⟨d1.1, d1.2.1, d1.2.2.1, d1.2.2.2.1, d1.2.2.2.2⟩, f1, g1, hok.yb, hok.ys, g2, g3.trans (f3.trans (d3.trans c2))⟩
    have HL8 : Hid (L8.length ≤ B.length) := HT9.out.2
    have HPP : Hid (P.length ≤ B.length ∧ ByteL P ∧ P.length ≤ vc ∧ P.length = pl) := ⟨HP8.out.1, HP8.out.2.1, HP8.out.2.2.1, HPL.out⟩
    have HK9 : Hid (RhK w g w9.heap.size w9.heap.size b5 P [] w9) := ⟨HW9.out, H9.out, HG9.out, by rw [HM5.out]; exact OwnVR.nil _ _, by rw [HM5.out]; exact HV9.out.1, hlt2, lt_blk HG9.out, lt_blk HG9.out, (fun ad e => by rw [HM5.out] at e; cases e), (fun ad e => by rw [HM5.out] at e; exact HV9.out.2 ad e), Nat.le_refl _⟩
    clear HSX HT2 HT4 HT5 HT6 HT7 HT8 HT9 HP8 HPL HB0 Hb1 Hb2 Hb3 Hb4 Hb5 HG9 H9 HW9 HV9 i0 ia1 ia2 ia3 ia4
    go_loopw [7] (fun iv wr => ∃ i : Nat, i ≤ 11 ∧ iv = .int .i64 (i : Int) ∧ Hid (RhL w g w9.heap.size b5 P L8 er8 ny B.length i wr)) (fun iv _ => 11 - (intOf iv).toNat)
    case atStart => exact ⟨0, by omega, rfl, none, 0, [], L8, er8, by rw [show ({ b5 with ya := none, yl := ([] : List VoteR).length, yc := 0 } : MsgR) = b5 by rw [HM5.out]; rfl]; exact HK9.out, HR9.out, rfl, (fun y hy => by cases hy), (fun zs R _ _ e he => ⟨he, Nat.zero_le _, trivial, e⟩), HL8.out⟩
    case round =>
      clear HK9 HR9 hlt2
      obtain ⟨i, hi, rfl, HY⟩ := hrel
      obtain ⟨ya, yc, ys, Li, eri, hK, hRi, hyl, hyw, hvt, hli⟩ := HY.out
      clear HY
      have c1 : wr.cell? ⟨w.heap.size + 1, 1, none⟩ = some (.bool eri) := by
        obtain ⟨ao', cap', hb, -⟩ := hRi
        exact (cell_blk hb _).trans rfl
      have HKi : Hid (RhK w g w9.heap.size wr.heap.size { b5 with ya := ya, yl := ys.length, yc := yc } P ys wr) := hK
      have HRi : Hid (RdR wr (w.heap.size + 1) Li eri) := hRi
      have HYi : Hid (ys.length = i ∧ (∀ y ∈ ys, y.wf ∧ VBytes y) ∧ VTk L8 Li er8 eri ny ys ∧ Li.length ≤ B.length) := ⟨hyl, hyw, hvt, hli⟩
      clear hK hRi hyl hyw hvt hli
      by_cases hgo : (i : Int) < ny ∧ eri = false ∧ i ≤ 10
      case pos =>
        obtain ⟨hgo1, rfl, hgo3⟩ := hgo
        have hgo3' : (i : Int) ≤ 10 := by omega
        go_upto_region 14 with fail
        clear c1
        obtain ⟨M, HM⟩ : ∃ M : MsgR, Hid ({ b5 with ya := ya, yl := ys.length, yc := yc } = M) := ⟨_, rfl⟩
        obtain ⟨vb, HVB⟩ : ∃ vb, Hid (wr.heap.size = vb) := ⟨_, rfl⟩
        have HK20 : Hid (RhK w g w9.heap.size vb M P ys wr) := by rw [← HM.out, ← HVB.out]; exact HKi.out
        have hvb20 : vb ≤ wr.heap.size := Nat.le_of_eq HVB.out.symm
        have HR20 : Hid (RdR wr (w.heap.size + 1) Li false) := HRi.out
        have HT20 : Hid (True ∧ Li.length ≤ B.length) := ⟨trivial, HYi.out.2.2.2⟩
        have hgv : g < vb := HK20.out.gv
        have hlr : w.heap.size + 1 < g := HK20.out.lr
        clear HKi HRi
        go_wp2_with fail
        refine (rrNum_str (w.heap.size + 1) Li false wr HR20.out).mono ?_
        rintro x u20 ⟨⟨v0, rfl, iv0, -, M1, q1, hr, ht, hl⟩, hk⟩
        have hsz := hk.size
        have HK21' : Hid (RhK w g w9.heap.size vb M P ys u20) := HK20.out.keeps hk hvb20
        have HT21 : Hid (TookN Li M1 [v0] false q1 ∧ M1.length ≤ B.length) := ⟨ht, Nat.le_trans hl HT20.out.2⟩
        have HRu : Hid (RdR u20 (w.heap.size + 1) M1 q1) := hr
        have hvbu : vb ≤ u20.heap.size := by omega
        clear hr ht hl hk hsz HK20 hvb20 HR20
        go_upto_region 15 with (first | refine wpList_build_to rfl 62 _ rfl (VoteR.cells { VoteR.zero with k := v0 }) (by kernel_rfl) ?_ | refine wpList_alloc_row rfl 62 rfl _ zero_vote ?_ | (refine wpList_store_blk rfl 62 _ _ rfl u20.heap.size (VoteR.cells { VoteR.zero with k := v0 }) ?_ ?_ 62 VoteR.zero.cells (alloc_blk _ _) (vote_info _) (by rw [VoteR.size, VoteR.size]) (VoteR.all _) ?_; rfl; rfl))
        obtain ⟨y0, Hy0⟩ : ∃ y0 : VoteR, Hid (y0 = { VoteR.zero with k := v0 }) := ⟨_, rfl⟩
        rw [setRow_new, ← Hy0.out]
        have HV21 : Hid (VBlk (u20.alloc (.cells y0.cells 62)) u20.heap.size [y0]) := ⟨y0.cells, alloc_blk _ _, VoteR.size _, fun j hj i hi => by
          obtain rfl : j = 0 := by simpa using hj
          rw [Nat.zero_mul, Nat.zero_add]; rfl⟩
        have HK21 : Hid (RhK w g w9.heap.size vb M P ys (u20.alloc (.cells y0.cells 62))) := HK21'.out.same ((Below.refl _ _).alloc (by omega) _) (fun q hq _ => (below_alloc _ _).block q (by omega))
        have HR21 : Hid (RdR (u20.alloc (.cells y0.cells 62)) (w.heap.size + 1) M1 q1) := HRu.out.same (fun q hq => (below_alloc _ _).block q (by omega))
        have hvb21 : vb ≤ (u20.alloc (.cells y0.cells 62)).heap.size := by simp; omega
        generalize u20.alloc (.cells y0.cells 62) = W21 at *
        obtain ⟨vB, hvB⟩ : ∃ vB, u20.heap.size = vB := ⟨_, rfl⟩
        simp only [hvB] at *
        clear hvB HK21' HRu
        have hvr : vB ≠ w.heap.size + 1 := by omega
        go_wp2_with fail
        refine (rrNum_str (w.heap.size + 1) M1 q1 W21 HR21.out).mono ?_
        rintro x u21 ⟨⟨v1, rfl, iv1, -, M2, q2, hr, ht, hl⟩, hk⟩
        have hsz := hk.size
        have HK22' : Hid (RhK w g w9.heap.size vb M P ys u21) := HK21.out.keeps hk hvb21
        have HT22 : Hid (TookN M1 M2 [v1] q1 q2 ∧ M2.length ≤ B.length) := ⟨ht, Nat.le_trans hl HT21.out.2⟩
        have HVu : Hid (VBlk u21 vB [y0]) := HV21.out.same (hk.block _ HV21.out.lt hvr)
        have hcc : u21.cell? ⟨vB, 1, none⟩ = some (.int .i64 y0.s) := (HVu.out.cell (j := 0) (Nat.zero_lt_succ _) (i := 1) (by decide)).trans (VoteR.at1 _)
        have hff : u21.frozen? ⟨vB, 1, none⟩ = false := HVu.out.fr 1
        obtain ⟨y1, Hy1⟩ : ∃ y1 : VoteR, Hid (y1 = { y0 with s := v1 }) := ⟨_, rfl⟩
        have HV22 : Hid (VBlk (u21.setCell ⟨vB, 1, none⟩ (.int .i64 v1)) vB [y1]) := HVu.out.setCell (j := 0) (Nat.zero_lt_succ _) (i := 1) (by decide) _ y1 (by rw [Hy1.out]; exact VoteR.set_s _ _)
        have hvb22 : vb ≤ (u21.setCell ⟨vB, 1, none⟩ (.int .i64 v1)).heap.size := by simp only [World.setCell, Array.size_modify]; omega
        have HK22 : Hid (RhK w g w9.heap.size vb M P ys (u21.setCell ⟨vB, 1, none⟩ (.int .i64 v1))) := HK22'.out.same ((Below.refl _ _).setCell (p := ⟨vB, 1, none⟩) (by simp; omega) _) (fun q hq _ => Below.heap_setCell _ _ _ _ (by simp; omega))
        have HR22 : Hid (RdR (u21.setCell ⟨vB, 1, none⟩ (.int .i64 v1)) (w.heap.size + 1) M2 q2) := hr.same (fun q hq => Below.heap_setCell _ _ _ _ (by simp; omega))
        clear hr ht hl hk hsz HVu HK22' HK21 HV21 HR21 hvb21
        go_upto_region 16 with fail
        generalize u21.setCell ⟨vB, 1, none⟩ (.int .i64 v1) = W22 at *
        clear hcc hff
        go_wp2_with fail
        refine (rrNum_str (w.heap.size + 1) M2 q2 W22 HR22.out).mono ?_
        rintro x u22 ⟨⟨v2, rfl, iv2, -, M3, q3, hr, ht, hl⟩, hk⟩
        have hsz := hk.size
        have HK23' : Hid (RhK w g w9.heap.size vb M P ys u22) := HK22.out.keeps hk hvb22
        have HT23 : Hid (TookN M2 M3 [v2] q2 q3 ∧ M3.length ≤ B.length) := ⟨ht, Nat.le_trans hl HT22.out.2⟩
        have HVu : Hid (VBlk u22 vB [y1]) := HV22.out.same (hk.block _ HV22.out.lt hvr)
        have hcc : u22.cell? ⟨vB, 2, none⟩ = some (.int .i64 y1.v) := (HVu.out.cell (j := 0) (Nat.zero_lt_succ _) (i := 2) (by decide)).trans (VoteR.at2 _)
        have hff : u22.frozen? ⟨vB, 2, none⟩ = false := HVu.out.fr 2
        obtain ⟨y2, Hy2⟩ : ∃ y2 : VoteR, Hid (y2 = { y1 with v := v2 }) := ⟨_, rfl⟩
        have HV23 : Hid (VBlk (u22.setCell ⟨vB, 2, none⟩ (.int .i64 v2)) vB [y2]) := HVu.out.setCell (j := 0) (Nat.zero_lt_succ _) (i := 2) (by decide) _ y2 (by rw [Hy2.out]; exact VoteR.set_v _ _)
        have hvb23 : vb ≤ (u22.setCell ⟨vB, 2, none⟩ (.int .i64 v2)).heap.size := by simp only [World.setCell, Array.size_modify]; omega
        have HK23 : Hid (RhK w g w9.heap.size vb M P ys (u22.setCell ⟨vB, 2, none⟩ (.int .i64 v2))) := HK23'.out.same ((Below.refl _ _).setCell (p := ⟨vB, 2, none⟩) (by simp; omega) _) (fun q hq _ => Below.heap_setCell _ _ _ _ (by simp; omega))
        have HR23 : Hid (RdR (u22.setCell ⟨vB, 2, none⟩ (.int .i64 v2)) (w.heap.size + 1) M3 q3) := hr.same (fun q hq => Below.heap_setCell _ _ _ _ (by simp; omega))
        clear hr ht hl hk hsz HVu HK23' HK22 HV22 HR22 hvb22
        go_upto_region 17 with fail
        generalize u22.setCell ⟨vB, 2, none⟩ (.int .i64 v2) = W23 at *
        clear hcc hff
        go_wp2_with fail
        refine (rHash_str (w.heap.size + 1) M3 q3 W23 HR23.out).mono ?_
        rintro x u23 ⟨D3, rfl, iD3, ⟨M4, q4, hr, ht, hl⟩, hk⟩
        have hsz := hk.size
        have HKu : Hid (RhK w g w9.heap.size vb M P ys u23) := HK23.out.keeps hk hvb23
        have HT24 : Hid (TookR M3 M4 D3 32 q3 q4 ∧ M4.length ≤ B.length) := ⟨ht, Nat.le_trans hl HT23.out.2⟩
        have HVu : Hid (VBlk u23 vB [y2]) := HV23.out.same (hk.block _ HV23.out.lt hvr)
        have HRu : Hid (RdR u23 (w.heap.size + 1) M4 q4) := hr
        have hvbu : vb ≤ u23.heap.size := by omega
        clear hr ht hl hk hsz HK23 HV23 HR23 hvb23
        go_upto_region 18 with (refine wpList_store_hashV rfl _ _ rfl vB 0 3 [y2] { y2 with sum := hashF D3 } (hashF D3) ?_ ?_ HVu.out (Nat.zero_lt_succ _) (by decide) (fun q hq => VoteR.sum_at y2 (hashF D3) q hq) ?_; rfl; rfl)
        intro W24 hv hk
        obtain ⟨y3, Hy3⟩ : ∃ y3 : VoteR, Hid (y3 = { y2 with sum := hashF D3 }) := ⟨_, rfl⟩
        have HV24 : Hid (VBlk W24 vB [y3]) := by rw [Hy3.out]; exact hv
        have hvb24 : vb ≤ W24.heap.size := Nat.le_trans hvbu hk.size
        have HK24 : Hid (RhK w g w9.heap.size vb M P ys W24) := HKu.out.same (hk.below (by omega) (by omega)) (fun q hq _ => hk.block q (by omega) (by omega))
        have HR24 : Hid (RdR W24 (w.heap.size + 1) M4 q4) := HRu.out.same (fun q hq => hk.block q (by have := HRu.out.lt; omega) (by omega))
        clear hv hk HKu HVu HRu hvbu
        go_wp2_with fail
        refine (rrNum_str (w.heap.size + 1) M4 q4 W24 HR24.out).mono ?_
        rintro x u24 ⟨⟨v4, rfl, iv4, -, M5, q5, hr, ht, hl⟩, hk⟩
        have hsz := hk.size
        have HK25' : Hid (RhK w g w9.heap.size vb M P ys u24) := HK24.out.keeps hk hvb24
        have HT25 : Hid (TookN M4 M5 [v4] q4 q5 ∧ M5.length ≤ B.length) := ⟨ht, Nat.le_trans hl HT24.out.2⟩
        have HVu : Hid (VBlk u24 vB [y3]) := HV24.out.same (hk.block _ HV24.out.lt hvr)
        have hcc : u24.cell? ⟨vB, 35, none⟩ = some (.int .i64 y3.f) := (HVu.out.cell (j := 0) (Nat.zero_lt_succ _) (i := 35) (by decide)).trans (VoteR.at35 _)
        have hff : u24.frozen? ⟨vB, 35, none⟩ = false := HVu.out.fr 35
        obtain ⟨y4, Hy4⟩ : ∃ y4 : VoteR, Hid (y4 = { y3 with f := v4 }) := ⟨_, rfl⟩
        have HV25 : Hid (VBlk (u24.setCell ⟨vB, 35, none⟩ (.int .i64 v4)) vB [y4]) := HVu.out.setCell (j := 0) (Nat.zero_lt_succ _) (i := 35) (by decide) _ y4 (by rw [Hy4.out]; exact VoteR.set_f _ _)
        have hvb25 : vb ≤ (u24.setCell ⟨vB, 35, none⟩ (.int .i64 v4)).heap.size := by simp only [World.setCell, Array.size_modify]; omega
        have HK25 : Hid (RhK w g w9.heap.size vb M P ys (u24.setCell ⟨vB, 35, none⟩ (.int .i64 v4))) := HK25'.out.same ((Below.refl _ _).setCell (p := ⟨vB, 35, none⟩) (by simp; omega) _) (fun q hq _ => Below.heap_setCell _ _ _ _ (by simp; omega))
        have HR25 : Hid (RdR (u24.setCell ⟨vB, 35, none⟩ (.int .i64 v4)) (w.heap.size + 1) M5 q5) := hr.same (fun q hq => Below.heap_setCell _ _ _ _ (by simp; omega))
        clear hr ht hl hk hsz HVu HK25' HK24 HV24 HR24 hvb24
        go_upto_region 19 with fail
        generalize u24.setCell ⟨vB, 35, none⟩ (.int .i64 v4) = W25 at *
        clear hcc hff
        go_wp2_with fail
        refine (rHash_str (w.heap.size + 1) M5 q5 W25 HR25.out).mono ?_
        rintro x u25 ⟨D5, rfl, iD5, ⟨M6, q6, hr, ht, hl⟩, hk⟩
        have hsz := hk.size
        have HKu : Hid (RhK w g w9.heap.size vb M P ys u25) := HK25.out.keeps hk hvb25
        have HT26 : Hid (TookR M5 M6 D5 32 q5 q6 ∧ M6.length ≤ B.length) := ⟨ht, Nat.le_trans hl HT25.out.2⟩
        have HVu : Hid (VBlk u25 vB [y4]) := HV25.out.same (hk.block _ HV25.out.lt hvr)
        have HRu : Hid (RdR u25 (w.heap.size + 1) M6 q6) := hr
        have hvbu : vb ≤ u25.heap.size := by omega
        clear hr ht hl hk hsz HK25 HV25 HR25 hvb25
        go_upto_region 20 with (refine wpList_store_hashV rfl _ _ rfl vB 0 36 [y4] { y4 with tag := hashF D5 } (hashF D5) ?_ ?_ HVu.out (Nat.zero_lt_succ _) (by decide) (fun q hq => VoteR.tag_at y4 (hashF D5) q) ?_; rfl; rfl)
        intro W26 hv hk
        obtain ⟨y5, Hy5⟩ : ∃ y5 : VoteR, Hid (y5 = { y4 with tag := hashF D5 }) := ⟨_, rfl⟩
        have HV26 : Hid (VBlk W26 vB [y5]) := by rw [Hy5.out]; exact hv
        have hvb26 : vb ≤ W26.heap.size := Nat.le_trans hvbu hk.size
        have HK26 : Hid (RhK w g w9.heap.size vb M P ys W26) := HKu.out.same (hk.below (by omega) (by omega)) (fun q hq _ => hk.block q (by omega) (by omega))
        have HR26 : Hid (RdR W26 (w.heap.size + 1) M6 q6) := HRu.out.same (fun q hq => hk.block q (by have := HRu.out.lt; omega) (by omega))
        clear hv hk HKu HVu HRu hvbu
        go_upto_region 20 with fail
        have hcc : W26.cell? ⟨g, 6, none⟩ = some (.slice M.ya M.yl M.yc) := (cell_blk HK26.out.mg _).trans (MsgR.at6 _)
        have HVA : Hid (VoteAt W26 vB 0 y5) := fun q hq => by
          have := HV26.out.cell (j := 0) (Nat.zero_lt_succ _) (i := q) hq
          rw [Nat.zero_mul] at this
          exact this
        have HOW : Hid (OwnVR (W26.alloc (.cells y5.cells 62)) w9.heap.size (.slice M.ya M.yl M.yc) ys) := HK26.out.own.same (fun k hk => by
          obtain ⟨ad, e, rfl⟩ := ownBlock_slice hk
          have := HK26.out.ol ad e
          exact (below_alloc _ _).block _ (by omega))
        have HVA2 : Hid (VoteAt (W26.alloc (.cells y5.cells 62)) W26.heap.size 0 y5) := voteAt_blk (alloc_blk _ _)
        have hyb : ys.length + 1 ≤ 1000 := by have := HYi.out.1; omega
        have hbv := HK26.out.bv
        have hbase : w9.heap.size ≤ (W26.alloc (.cells y5.cells 62)).heap.size := by simp; omega
        go_wp2_with (first | (refine wpList_load_vote rfl _ rfl vB 0 ?_ y5 HVA.out ?_; rfl) | (refine wpList_row_voteH rfl _ rfl y5 ?_ ?_; rfl) | (refine wpList_appVR rfl _ _ rfl w9.heap.size (.slice M.ya M.yl M.yc) ys ?_ W26.heap.size 0 1 y5 ?_ HOW.out HVA2.out hyb hbase (Nat.le_refl _) ?_; rfl; rfl))
        intro v' w27 hown hgr
        obtain ⟨ya', yc', rfl, hat, halt⟩ := hown.form
        obtain ⟨nl, hnl⟩ : ∃ nl, (ys ++ [y5]).length = nl := ⟨_, rfl⟩
        rw [hnl] at hown hgr ⊢
        obtain ⟨hg27, hkn, hq27⟩ := HK26.out.push hvb26 hown halt _ hgr
        have hcc' : w27.cell? ⟨g, 6, none⟩ = some (.slice M.ya M.yl M.yc) := (cell_blk hg27 _).trans (MsgR.at6 _)
        have hff' : w27.frozen? ⟨g, 6, none⟩ = false := frozen_blk hg27 _
        have HKN : Hid (RhK w g w9.heap.size (w27.setCell ⟨g, 6, none⟩ (.slice ya' nl yc')).heap.size { b5 with ya := ya', yl := (ys ++ [y5]).length, yc := yc' } P (ys ++ [y5]) (w27.setCell ⟨g, 6, none⟩ (.slice ya' nl yc'))) := by
          rw [hnl]
          rw [← HM.out] at hkn
          exact hkn
        have HRN : Hid (RdR (w27.setCell ⟨g, 6, none⟩ (.slice ya' nl yc')) (w.heap.size + 1) M6 q6) := HR26.out.same (fun q hq => hq27 q (by omega))
        clear hg27 hkn hq27
        have he5 : y5 = ⟨v0, v1, v2, hashF D3, v4, hashF D5⟩ := by rw [Hy5.out, Hy4.out, Hy3.out, Hy2.out, Hy1.out, Hy0.out]
        have HYN : Hid ((ys ++ [y5]).length = i + 1 ∧ (∀ y ∈ ys ++ [y5], y.wf ∧ VBytes y) ∧ VTk L8 M6 er8 q6 ny (ys ++ [y5]) ∧ M6.length ≤ B.length) := by
          refine ⟨by rw [List.length_append, HYi.out.1]; rfl, fun y hy => ?_, HYi.out.2.2.1.next (by rw [HYi.out.1]; exact hgo1) (fun z R hz e => ?_), HT26.out.2⟩
          · rcases List.mem_append.1 hy with h | h
            · exact HYi.out.2.1 y h
            · rw [List.mem_singleton.1 h, he5]
              exact ⟨⟨iv0, iv1, iv2, iv4⟩, fun j _ => ⟨hashF_bytes iD3 j, hashF_bytes iD5 j⟩⟩
          · rw [he5]
            exact vote_tookR HT21.out.1 HT22.out.1 HT23.out.1 HT24.out.1 HT25.out.1 HT26.out.1 z R hz e
        clear hgr hown hat halt hcc HVA HOW HVA2 hyb hbase HK26 HV26 HR26 hvb26 HT20 HT21 HT22 HT23 HT24 HT25 HT26 Hy0 Hy1 Hy2 Hy3 Hy4 Hy5 HYi he5 iv0 iv1 iv2 iv4
        go_wp2_with fail
        exact ⟨⟨i + 1, by omega, rfl, ya', yc', ys ++ [y5], M6, q6, HKN.out, HRN.out, HYN.out.1, HYN.out.2.1, HYN.out.2.2.1, HYN.out.2.2.2⟩, by simp [intOf]; omega⟩

      case neg =>
        have HOUT : Hid (∀ m1 P1 ys1, MsgEnc m1 P1 ys1 B → (a0 = m1.k ∧ a1 = m1.f ∧ a2 = m1.t ∧ a3 = m1.s ∧ a4 = m1.v) ∧ P = P1 ∧ VotesEq ys ys1 ∧ Li = ofF 32 m1.tag ++ [] ∧ eri = false) := fun m1 P1 ys1 hE => by
          obtain ⟨q1, q2, q3, q4, q5, q6, q7⟩ := HTT.out m1 P1 ys1 hE
          obtain ⟨r1, r2, r3, r4⟩ := HYi.out.2.2.1 ys1 _ q3.symm q5 q6 q7
          have hn : ys.length = ys1.length := by
            have h1 := HYi.out.1
            by_cases hlt : ys.length < ys1.length
            · exact absurd ⟨by omega, r1, by omega⟩ hgo
            · omega
          rw [hn, List.take_of_length_le (Nat.le_refl _)] at r3
          rw [hn, List.drop_of_length_le (Nat.le_refl _), List.flatMap_nil, List.nil_append] at r4
          exact ⟨q1, q2, r3, r4, r1⟩
        have h3 : (¬ (i : Int) < ny) ∨ ((i : Int) < ny ∧ eri = true) ∨ ((i : Int) < ny ∧ eri = false ∧ ¬ (i : Int) ≤ 10) := by
          by_cases h1 : (i : Int) < ny
          · cases h2 : eri with
            | true => exact .inr (.inl ⟨h1, rfl⟩)
            | false => exact .inr (.inr ⟨h1, rfl, fun h => hgo ⟨h1, h2, by omega⟩⟩)
          · exact .inl h1
        clear hgo
        rcases h3 with h1 | ⟨h1, h1e⟩ | ⟨h1, h1e, h2⟩
        · clear c1
          go_wp2_with fail
          refine (rHash_str (w.heap.size + 1) Li eri wr HRi.out).mono ?_
          rintro x uA ⟨D, rfl, iD, ⟨M1, q1, hr, ht, hl⟩, hk⟩
          have HKA : Hid (RhK w g w9.heap.size wr.heap.size { b5 with ya := ya, yl := ys.length, yc := yc } P ys uA) := HKi.out.keeps hk (Nat.le_refl _)
          have HRA : Hid (RdR uA (w.heap.size + 1) M1 q1) := hr
          have HC0 : Hid (∀ m1 P1 ys1, MsgEnc m1 P1 ys1 B → (a0 = m1.k ∧ a1 = m1.f ∧ a2 = m1.t ∧ a3 = m1.s ∧ a4 = m1.v) ∧ P = P1 ∧ VotesEq ys ys1 ∧ (∀ j, j < 32 → hashF D j = m1.tag j) ∧ M1 = [] ∧ q1 = false) := fun m1 P1 ys1 hE => by
            obtain ⟨p1, p2, p3, p4, p5⟩ := HOUT.out m1 P1 ys1 hE
            obtain ⟨s1, s2, s3⟩ := ht (ofF 32 m1.tag) [] (by rw [ofF_length]; rfl) p4
            exact ⟨p1, p2, p3, fun j hj => by unfold hashF; rw [s1, ofF_getD hj], s2, s3.trans p5⟩
          have HSA : Hid (wr.heap.size ≤ uA.heap.size) := hk.size
          clear hr ht hl hk HKi HRi HOUT
          go_wp2_with (refine wpList_store_tagMP rfl _ _ rfl g (hashF D) { b5 with ya := ya, yl := ys.length, yc := yc } ?_ ?_ 27 HKA.out.mg ?_; rfl; rfl)
          intro wB hgB hkB
          obtain ⟨mm, HMM⟩ : ∃ mm : MsgR, Hid (mm = ⟨a0, a1, a2, a3, a4, va, pl, vc, ya, ys.length, yc, hashF D⟩) := ⟨_, rfl⟩
          have HGB : Hid (wB.heap[g]? = some (.cells mm.cells 27 (0, 0))) := by
            rw [HM5.out] at hgB
            rw [HMM.out]
            exact hgB
          have hKA := HKA.out
          have hgv := hKA.gv
          have hgb := hKA.gb
          have hlr := hKA.lr
          have hsA := HSA.out
          have HGMB : Hid (MsgIn wB mm P ys ∧ MsgGot wB (w.heap.size + 1) mm P ys) := by
            obtain ⟨ao2, cap2, e2, hat, hlt⟩ := hKA.own.form
            have hrow : RowF wB va P vc := by
              have := hKA.row
              rw [HM5.out] at this
              exact this.same (fun ad e => hkB.block _ (by have := hKA.vl ad (by rw [HM5.out]; exact e); have := hKA.bv; omega) (by have := hKA.vl ad (by rw [HM5.out]; exact e); omega))
            have hvot : VotesAt wB ya ys := by
              have e3 : ao2 = ya := by injection e2 with h1 h2 h3; exact h1.symm
              subst e3
              exact hat.same (fun ad e => hkB.block _ (hlt ad e).2 (by have := (hlt ad e).1; omega))
            have h37 : P.length < 137438953472 := by have := HPP.out.1; have := HL30.out; omega
            rw [HMM.out]
            have hI : MsgIn wB ⟨a0, a1, a2, a3, a4, va, pl, vc, ya, ys.length, yc, hashF D⟩ P ys := ⟨HPP.out.2.2.2.symm, hrow.1, rfl, hvot, HIN.out, fun y hy => (HYi.out.2.1 y hy).1, HPP.out.2.1, fun y hy => (HYi.out.2.1 y hy).2, fun j _ => hashF_bytes iD j⟩
            exact ⟨hI, ⟨⟨HPP.out.2.2.2.symm, hrow.1, rfl, hvot, HIN.out, fun y hy => (HYi.out.2.1 y hy).1, h37, by have := HYi.out.1; omega⟩, HPP.out.2.1, fun y hy => (HYi.out.2.1 y hy).2, fun j => hashF_bytes iD j, fun ad e => by have := hKA.vl ad (by rw [HM5.out]; exact e); omega, fun ad e => by have := hKA.ol ad e; omega, HPP.out.2.2.1, hrow.2⟩⟩
          have HCM : Hid (∀ m1 P1 ys1, MsgEnc m1 P1 ys1 B → (mm.k = m1.k ∧ mm.f = m1.f ∧ mm.t = m1.t ∧ mm.s = m1.s ∧ mm.v = m1.v ∧ P = P1 ∧ VotesEq ys ys1 ∧ ∀ j, j < 32 → mm.tag j = m1.tag j) ∧ M1 = [] ∧ q1 = false) := fun m1 P1 ys1 hE => by
            obtain ⟨⟨p1, p2, p3, p4, p5⟩, p6, p7, p8, p9, p10⟩ := HC0.out m1 P1 ys1 hE
            rw [HMM.out]
            exact ⟨⟨p1, p2, p3, p4, p5, p6, p7, p8⟩, p9, p10⟩
          have HVY : Hid (mm.vl = P.length ∧ mm.yl = ys.length) := by rw [HMM.out]; exact ⟨HPP.out.2.2.2.symm, rfl⟩
          have HZB : Hid (wB.heap[w.heap.size]? = some (.cells MsgR.zero.cells 27 (0, 0))) := (hkB.block _ (by have := lt_blk hKA.m0; omega) (by omega)).trans hKA.m0
          have HRB : Hid (RdR wB (w.heap.size + 1) M1 q1) := HRA.out.same (fun q hq => hkB.block q (by have := HRA.out.lt; omega) (by omega))
          have HWB : Hid (Below w.heap.size w wB) := hKA.bel.trans (hkB.below (by omega) (by have := lt_blk hKA.m0; omega))
          have HLN : Hid (P.length < 137438953472 ∧ ys.length < 1073741824) := ⟨by have := HPP.out.1; have := HL30.out; omega, by have := HYi.out.1; omega⟩
          clear hgB hkB hKA HKA HRA HC0 HSA hsA hgv hgb hlr HYi HTT HIN HM5 HPP
          go_wp2_with (refine wpList_load_msgP rfl _ rfl g mm 27 (0, 0) ?_ ?_ ?_; rfl; exact HGB.out)
          refine (rEncodeMsg_any mm P ys wB HGMB.out.1 HLN.out.1 HLN.out.2).mono ?_
          rintro x w7 ⟨v7, rfl, hO7, hB7⟩
          have HG7 : Hid (w7.heap[g]? = some (.cells mm.cells 27 (0, 0))) := (hB7.block _ (lt_blk HGB.out)).trans HGB.out
          have H7 : Hid (w7.heap[w.heap.size]? = some (.cells MsgR.zero.cells 27 (0, 0))) := (hB7.block _ (lt_blk HZB.out)).trans HZB.out
          have HR7 : Hid (RdR w7 (w.heap.size + 1) M1 q1) := HRB.out.same (fun q hq => hB7.block _ (by have := HRB.out.lt; omega))
          have HW7 : Hid (Below w.heap.size w w7) := HWB.out.trans (hB7.mono (by have := lt_blk HZB.out; omega))
          have HGM7 : Hid (MsgGot w7 (w.heap.size + 1) mm P ys) := HGMB.out.2.below hB7 (Nat.le_refl _)
          obtain ⟨ok, HOK⟩ : ∃ ok, Hid (msgB mm ys = ok) := ⟨_, rfl⟩
          rw [HOK.out] at hO7 ⊢
          obtain ⟨ao7, c7, rfl, -, hR7, -⟩ := OwnB.form2r hO7
          have HC7 : Hid (Rowed w7 ao7 (if ok = true then encMsg mm P ys else []) c7) := hR7
          clear hO7 hB7 hR7 HGB HZB HRB HWB HGMB
          obtain ⟨n7, HN7⟩ : ∃ n7, Hid ((if ok = true then encMsg mm P ys else []).length = n7) := ⟨_, rfl⟩
          rw [HN7.out]
          obtain ⟨fe, HFE⟩ : ∃ fe : Int, Hid ((if ok = true then (0 : Int) else 1) = fe) := ⟨_, rfl⟩
          rw [HFE.out]
          go_wp2_with fail
          refine (rrWhole_str (w.heap.size + 1) M1 q1 w7 HR7.out).mono ?_
          rintro x w8 ⟨rfl, rfl⟩
          obtain ⟨wh, HWH⟩ : ∃ wh, Hid ((!q1 && decide (M1 = [])) = wh) := ⟨_, rfl⟩
          rw [HWH.out]
          cases wh
          case false =>
            have HD : Hid (∀ W, DecMsg B w.heap.size (.returned (.tuple #[.agg MsgR.zero.cells, .int .i64 2])) W) := fun W => rhNone HVY.out.1 HVY.out.2 HCM.out (.inl (fun h1 h2 => by have := HWH.out; rw [h1, h2] at this; simp at this))
            go_wp2_with (first | refine wpList_build_to rfl 27 _ rfl MsgR.zero.cells (by kernel_rfl) ?_ | (refine wpList_store_msgP rfl _ _ rfl w.heap.size MsgR.zero MsgR.zero ?_ ?_ H7.out ?_; rfl; rfl))
            have HC8 : Hid ((w8.setRow w.heap.size MsgR.zero.cells).heap[w.heap.size]? = some (.cells MsgR.zero.cells 27 (0, 0))) := setRow_blk H7.out _
            have hW8 : Below w.heap.size w (w8.setRow w.heap.size MsgR.zero.cells) := HW7.out.trans ((keeps_setRow w8 _ _).below (Nat.le_refl _) (by have := lt_blk H7.out; omega))
            refine bodyPost_ret (v := .tuple #[.agg MsgR.zero.cells, .int .i64 2]) ?_ rfl ⟨HD.out _, hW8⟩
            exact results_cell_tmp (p := 2) (q := 3) rfl _ _ w.heap.size _ _ rfl rfl (load_msg_cell _ _ _ _ _ HC8.out)
          case true =>
            cases ok
            case false =>
              obtain rfl : fe = 1 := HFE.out.symm
              have HD : Hid (∀ W, DecMsg B w.heap.size (.returned (.tuple #[.agg MsgR.zero.cells, .int .i64 2])) W) := fun W => rhNone HVY.out.1 HVY.out.2 HCM.out (.inr (.inl HOK.out))
              go_wp2_with (first | refine wpList_build_to rfl 27 _ rfl MsgR.zero.cells (by kernel_rfl) ?_ | (refine wpList_store_msgP rfl _ _ rfl w.heap.size MsgR.zero MsgR.zero ?_ ?_ H7.out ?_; rfl; rfl))
              have HC8 : Hid ((w8.setRow w.heap.size MsgR.zero.cells).heap[w.heap.size]? = some (.cells MsgR.zero.cells 27 (0, 0))) := setRow_blk H7.out _
              have hW8 : Below w.heap.size w (w8.setRow w.heap.size MsgR.zero.cells) := HW7.out.trans ((keeps_setRow w8 _ _).below (Nat.le_refl _) (by have := lt_blk H7.out; omega))
              refine bodyPost_ret (v := .tuple #[.agg MsgR.zero.cells, .int .i64 2]) ?_ rfl ⟨HD.out _, hW8⟩
              exact results_cell_tmp (p := 2) (q := 3) rfl _ _ w.heap.size _ _ rfl rfl (load_msg_cell _ _ _ _ _ HC8.out)
            case true =>
              obtain rfl : fe = 0 := HFE.out.symm
              simp only [if_true] at HC7 HN7
              have hcv1 := conv_str (w := w8) HC7.out HN7.out.symm
              have hcv2 := conv_str (w := w8) (HR.out.below HW7.out (Nat.le_refl _)) HN.out.symm
              obtain ⟨sA, HSA⟩ : ∃ sA, Hid (strOf (encMsg mm P ys) = sA) := ⟨_, rfl⟩
              obtain ⟨sB, HSB⟩ : ∃ sB, Hid (strOf B = sB) := ⟨_, rfl⟩
              rw [HSA.out] at hcv1
              rw [HSB.out] at hcv2
              by_cases hs : sA = sB
              case neg =>
                have hs1 : (sA.toList == sB.toList) = false := beq_false_of_ne (fun h => hs (ByteArray.ext (Array.toList_inj.1 (by rw [← ByteArray.toList_eq, ← ByteArray.toList_eq]; exact h))))
                have HD : Hid (∀ W, DecMsg B w.heap.size (.returned (.tuple #[.agg MsgR.zero.cells, .int .i64 2])) W) := fun W => rhNone HVY.out.1 HVY.out.2 HCM.out (.inr (.inr (fun h => hs (HSA.out.symm.trans ((congrArg strOf h).trans HSB.out)))))
                go_wp2_with (first | refine wpList_build_to rfl 27 _ rfl MsgR.zero.cells (by kernel_rfl) ?_ | (refine wpList_store_msgP rfl _ _ rfl w.heap.size MsgR.zero MsgR.zero ?_ ?_ H7.out ?_; rfl; rfl))
                have HC8 : Hid ((w8.setRow w.heap.size MsgR.zero.cells).heap[w.heap.size]? = some (.cells MsgR.zero.cells 27 (0, 0))) := setRow_blk H7.out _
                have hW8 : Below w.heap.size w (w8.setRow w.heap.size MsgR.zero.cells) := HW7.out.trans ((keeps_setRow w8 _ _).below (Nat.le_refl _) (by have := lt_blk H7.out; omega))
                refine bodyPost_ret (v := .tuple #[.agg MsgR.zero.cells, .int .i64 2]) ?_ rfl ⟨HD.out _, hW8⟩
                exact results_cell_tmp (p := 2) (q := 3) rfl _ _ w.heap.size _ _ rfl rfl (load_msg_cell _ _ _ _ _ HC8.out)
              case pos =>
                subst hs
                have HEQ : Hid (encMsg mm P ys = B) := strOf_inj (encMsg_bytes HGM7.out.pb HGM7.out.yb (fun j _ => HGM7.out.tb j)) HY.out (HSA.out.trans HSB.out.symm)
                go_wp2_with (first | (refine wpList_load_msgP rfl _ rfl g mm 27 (0, 0) ?_ ?_ ?_; rfl; exact HG7.out) | (refine wpList_store_msgP rfl _ _ rfl w.heap.size mm MsgR.zero ?_ ?_ H7.out ?_; rfl; rfl))
                have HC8 : Hid ((w8.setRow w.heap.size mm.cells).heap[w.heap.size]? = some (.cells mm.cells 27 (0, 0))) := setRow_blk H7.out _
                have hW8 : Below w.heap.size w (w8.setRow w.heap.size mm.cells) := HW7.out.trans ((keeps_setRow w8 _ _).below (Nat.le_refl _) (by have := lt_blk H7.out; omega))
                refine bodyPost_ret (v := .tuple #[.agg mm.cells, .int .i64 0]) ?_ rfl ⟨⟨mm, 0, rfl, .inl ⟨rfl, P, ys, (HGM7.out.setRow (Nat.lt_succ_self _) _).mono (Nat.le_succ _), HVY.out.1, HVY.out.2, HOK.out, HEQ.out⟩⟩, hW8⟩
                exact results_cell_tmp (p := 2) (q := 3) rfl _ _ w.heap.size _ _ rfl rfl (load_msg_cell _ _ _ _ _ HC8.out)
        · rw [h1e] at c1
          go_wp2_with fail
          refine (rHash_str (w.heap.size + 1) Li eri wr HRi.out).mono ?_
          rintro x uA ⟨D, rfl, iD, ⟨M1, q1, hr, ht, hl⟩, hk⟩
          have HKA : Hid (RhK w g w9.heap.size wr.heap.size { b5 with ya := ya, yl := ys.length, yc := yc } P ys uA) := HKi.out.keeps hk (Nat.le_refl _)
          have HRA : Hid (RdR uA (w.heap.size + 1) M1 q1) := hr
          have HC0 : Hid (∀ m1 P1 ys1, MsgEnc m1 P1 ys1 B → (a0 = m1.k ∧ a1 = m1.f ∧ a2 = m1.t ∧ a3 = m1.s ∧ a4 = m1.v) ∧ P = P1 ∧ VotesEq ys ys1 ∧ (∀ j, j < 32 → hashF D j = m1.tag j) ∧ M1 = [] ∧ q1 = false) := fun m1 P1 ys1 hE => by
            obtain ⟨p1, p2, p3, p4, p5⟩ := HOUT.out m1 P1 ys1 hE
            obtain ⟨s1, s2, s3⟩ := ht (ofF 32 m1.tag) [] (by rw [ofF_length]; rfl) p4
            exact ⟨p1, p2, p3, fun j hj => by unfold hashF; rw [s1, ofF_getD hj], s2, s3.trans p5⟩
          have HSA : Hid (wr.heap.size ≤ uA.heap.size) := hk.size
          clear hr ht hl hk HKi HRi HOUT
          go_wp2_with (refine wpList_store_tagMP rfl _ _ rfl g (hashF D) { b5 with ya := ya, yl := ys.length, yc := yc } ?_ ?_ 27 HKA.out.mg ?_; rfl; rfl)
          intro wB hgB hkB
          obtain ⟨mm, HMM⟩ : ∃ mm : MsgR, Hid (mm = ⟨a0, a1, a2, a3, a4, va, pl, vc, ya, ys.length, yc, hashF D⟩) := ⟨_, rfl⟩
          have HGB : Hid (wB.heap[g]? = some (.cells mm.cells 27 (0, 0))) := by
            rw [HM5.out] at hgB
            rw [HMM.out]
            exact hgB
          have hKA := HKA.out
          have hgv := hKA.gv
          have hgb := hKA.gb
          have hlr := hKA.lr
          have hsA := HSA.out
          have HGMB : Hid (MsgIn wB mm P ys ∧ MsgGot wB (w.heap.size + 1) mm P ys) := by
            obtain ⟨ao2, cap2, e2, hat, hlt⟩ := hKA.own.form
            have hrow : RowF wB va P vc := by
              have := hKA.row
              rw [HM5.out] at this
              exact this.same (fun ad e => hkB.block _ (by have := hKA.vl ad (by rw [HM5.out]; exact e); have := hKA.bv; omega) (by have := hKA.vl ad (by rw [HM5.out]; exact e); omega))
            have hvot : VotesAt wB ya ys := by
              have e3 : ao2 = ya := by injection e2 with h1 h2 h3; exact h1.symm
              subst e3
              exact hat.same (fun ad e => hkB.block _ (hlt ad e).2 (by have := (hlt ad e).1; omega))
            have h37 : P.length < 137438953472 := by have := HPP.out.1; have := HL30.out; omega
            rw [HMM.out]
            have hI : MsgIn wB ⟨a0, a1, a2, a3, a4, va, pl, vc, ya, ys.length, yc, hashF D⟩ P ys := ⟨HPP.out.2.2.2.symm, hrow.1, rfl, hvot, HIN.out, fun y hy => (HYi.out.2.1 y hy).1, HPP.out.2.1, fun y hy => (HYi.out.2.1 y hy).2, fun j _ => hashF_bytes iD j⟩
            exact ⟨hI, ⟨⟨HPP.out.2.2.2.symm, hrow.1, rfl, hvot, HIN.out, fun y hy => (HYi.out.2.1 y hy).1, h37, by have := HYi.out.1; omega⟩, HPP.out.2.1, fun y hy => (HYi.out.2.1 y hy).2, fun j => hashF_bytes iD j, fun ad e => by have := hKA.vl ad (by rw [HM5.out]; exact e); omega, fun ad e => by have := hKA.ol ad e; omega, HPP.out.2.2.1, hrow.2⟩⟩
          have HCM : Hid (∀ m1 P1 ys1, MsgEnc m1 P1 ys1 B → (mm.k = m1.k ∧ mm.f = m1.f ∧ mm.t = m1.t ∧ mm.s = m1.s ∧ mm.v = m1.v ∧ P = P1 ∧ VotesEq ys ys1 ∧ ∀ j, j < 32 → mm.tag j = m1.tag j) ∧ M1 = [] ∧ q1 = false) := fun m1 P1 ys1 hE => by
            obtain ⟨⟨p1, p2, p3, p4, p5⟩, p6, p7, p8, p9, p10⟩ := HC0.out m1 P1 ys1 hE
            rw [HMM.out]
            exact ⟨⟨p1, p2, p3, p4, p5, p6, p7, p8⟩, p9, p10⟩
          have HVY : Hid (mm.vl = P.length ∧ mm.yl = ys.length) := by rw [HMM.out]; exact ⟨HPP.out.2.2.2.symm, rfl⟩
          have HZB : Hid (wB.heap[w.heap.size]? = some (.cells MsgR.zero.cells 27 (0, 0))) := (hkB.block _ (by have := lt_blk hKA.m0; omega) (by omega)).trans hKA.m0
          have HRB : Hid (RdR wB (w.heap.size + 1) M1 q1) := HRA.out.same (fun q hq => hkB.block q (by have := HRA.out.lt; omega) (by omega))
          have HWB : Hid (Below w.heap.size w wB) := hKA.bel.trans (hkB.below (by omega) (by have := lt_blk hKA.m0; omega))
          have HLN : Hid (P.length < 137438953472 ∧ ys.length < 1073741824) := ⟨by have := HPP.out.1; have := HL30.out; omega, by have := HYi.out.1; omega⟩
          clear hgB hkB hKA HKA HRA HC0 HSA hsA hgv hgb hlr HYi HTT HIN HM5 HPP
          go_wp2_with (refine wpList_load_msgP rfl _ rfl g mm 27 (0, 0) ?_ ?_ ?_; rfl; exact HGB.out)
          refine (rEncodeMsg_any mm P ys wB HGMB.out.1 HLN.out.1 HLN.out.2).mono ?_
          rintro x w7 ⟨v7, rfl, hO7, hB7⟩
          have HG7 : Hid (w7.heap[g]? = some (.cells mm.cells 27 (0, 0))) := (hB7.block _ (lt_blk HGB.out)).trans HGB.out
          have H7 : Hid (w7.heap[w.heap.size]? = some (.cells MsgR.zero.cells 27 (0, 0))) := (hB7.block _ (lt_blk HZB.out)).trans HZB.out
          have HR7 : Hid (RdR w7 (w.heap.size + 1) M1 q1) := HRB.out.same (fun q hq => hB7.block _ (by have := HRB.out.lt; omega))
          have HW7 : Hid (Below w.heap.size w w7) := HWB.out.trans (hB7.mono (by have := lt_blk HZB.out; omega))
          have HGM7 : Hid (MsgGot w7 (w.heap.size + 1) mm P ys) := HGMB.out.2.below hB7 (Nat.le_refl _)
          obtain ⟨ok, HOK⟩ : ∃ ok, Hid (msgB mm ys = ok) := ⟨_, rfl⟩
          rw [HOK.out] at hO7 ⊢
          obtain ⟨ao7, c7, rfl, -, hR7, -⟩ := OwnB.form2r hO7
          have HC7 : Hid (Rowed w7 ao7 (if ok = true then encMsg mm P ys else []) c7) := hR7
          clear hO7 hB7 hR7 HGB HZB HRB HWB HGMB
          obtain ⟨n7, HN7⟩ : ∃ n7, Hid ((if ok = true then encMsg mm P ys else []).length = n7) := ⟨_, rfl⟩
          rw [HN7.out]
          obtain ⟨fe, HFE⟩ : ∃ fe : Int, Hid ((if ok = true then (0 : Int) else 1) = fe) := ⟨_, rfl⟩
          rw [HFE.out]
          go_wp2_with fail
          refine (rrWhole_str (w.heap.size + 1) M1 q1 w7 HR7.out).mono ?_
          rintro x w8 ⟨rfl, rfl⟩
          obtain ⟨wh, HWH⟩ : ∃ wh, Hid ((!q1 && decide (M1 = [])) = wh) := ⟨_, rfl⟩
          rw [HWH.out]
          cases wh
          case false =>
            have HD : Hid (∀ W, DecMsg B w.heap.size (.returned (.tuple #[.agg MsgR.zero.cells, .int .i64 2])) W) := fun W => rhNone HVY.out.1 HVY.out.2 HCM.out (.inl (fun h1 h2 => by have := HWH.out; rw [h1, h2] at this; simp at this))
            go_wp2_with (first | refine wpList_build_to rfl 27 _ rfl MsgR.zero.cells (by kernel_rfl) ?_ | (refine wpList_store_msgP rfl _ _ rfl w.heap.size MsgR.zero MsgR.zero ?_ ?_ H7.out ?_; rfl; rfl))
            have HC8 : Hid ((w8.setRow w.heap.size MsgR.zero.cells).heap[w.heap.size]? = some (.cells MsgR.zero.cells 27 (0, 0))) := setRow_blk H7.out _
            have hW8 : Below w.heap.size w (w8.setRow w.heap.size MsgR.zero.cells) := HW7.out.trans ((keeps_setRow w8 _ _).below (Nat.le_refl _) (by have := lt_blk H7.out; omega))
            refine bodyPost_ret (v := .tuple #[.agg MsgR.zero.cells, .int .i64 2]) ?_ rfl ⟨HD.out _, hW8⟩
            exact results_cell_tmp (p := 2) (q := 3) rfl _ _ w.heap.size _ _ rfl rfl (load_msg_cell _ _ _ _ _ HC8.out)
          case true =>
            cases ok
            case false =>
              obtain rfl : fe = 1 := HFE.out.symm
              have HD : Hid (∀ W, DecMsg B w.heap.size (.returned (.tuple #[.agg MsgR.zero.cells, .int .i64 2])) W) := fun W => rhNone HVY.out.1 HVY.out.2 HCM.out (.inr (.inl HOK.out))
              go_wp2_with (first | refine wpList_build_to rfl 27 _ rfl MsgR.zero.cells (by kernel_rfl) ?_ | (refine wpList_store_msgP rfl _ _ rfl w.heap.size MsgR.zero MsgR.zero ?_ ?_ H7.out ?_; rfl; rfl))
              have HC8 : Hid ((w8.setRow w.heap.size MsgR.zero.cells).heap[w.heap.size]? = some (.cells MsgR.zero.cells 27 (0, 0))) := setRow_blk H7.out _
              have hW8 : Below w.heap.size w (w8.setRow w.heap.size MsgR.zero.cells) := HW7.out.trans ((keeps_setRow w8 _ _).below (Nat.le_refl _) (by have := lt_blk H7.out; omega))
              refine bodyPost_ret (v := .tuple #[.agg MsgR.zero.cells, .int .i64 2]) ?_ rfl ⟨HD.out _, hW8⟩
              exact results_cell_tmp (p := 2) (q := 3) rfl _ _ w.heap.size _ _ rfl rfl (load_msg_cell _ _ _ _ _ HC8.out)
            case true =>
              obtain rfl : fe = 0 := HFE.out.symm
              simp only [if_true] at HC7 HN7
              have hcv1 := conv_str (w := w8) HC7.out HN7.out.symm
              have hcv2 := conv_str (w := w8) (HR.out.below HW7.out (Nat.le_refl _)) HN.out.symm
              obtain ⟨sA, HSA⟩ : ∃ sA, Hid (strOf (encMsg mm P ys) = sA) := ⟨_, rfl⟩
              obtain ⟨sB, HSB⟩ : ∃ sB, Hid (strOf B = sB) := ⟨_, rfl⟩
              rw [HSA.out] at hcv1
              rw [HSB.out] at hcv2
              by_cases hs : sA = sB
              case neg =>
                have hs1 : (sA.toList == sB.toList) = false := beq_false_of_ne (fun h => hs (ByteArray.ext (Array.toList_inj.1 (by rw [← ByteArray.toList_eq, ← ByteArray.toList_eq]; exact h))))
                have HD : Hid (∀ W, DecMsg B w.heap.size (.returned (.tuple #[.agg MsgR.zero.cells, .int .i64 2])) W) := fun W => rhNone HVY.out.1 HVY.out.2 HCM.out (.inr (.inr (fun h => hs (HSA.out.symm.trans ((congrArg strOf h).trans HSB.out)))))
                go_wp2_with (first | refine wpList_build_to rfl 27 _ rfl MsgR.zero.cells (by kernel_rfl) ?_ | (refine wpList_store_msgP rfl _ _ rfl w.heap.size MsgR.zero MsgR.zero ?_ ?_ H7.out ?_; rfl; rfl))
                have HC8 : Hid ((w8.setRow w.heap.size MsgR.zero.cells).heap[w.heap.size]? = some (.cells MsgR.zero.cells 27 (0, 0))) := setRow_blk H7.out _
                have hW8 : Below w.heap.size w (w8.setRow w.heap.size MsgR.zero.cells) := HW7.out.trans ((keeps_setRow w8 _ _).below (Nat.le_refl _) (by have := lt_blk H7.out; omega))
                refine bodyPost_ret (v := .tuple #[.agg MsgR.zero.cells, .int .i64 2]) ?_ rfl ⟨HD.out _, hW8⟩
                exact results_cell_tmp (p := 2) (q := 3) rfl _ _ w.heap.size _ _ rfl rfl (load_msg_cell _ _ _ _ _ HC8.out)
              case pos =>
                subst hs
                have HEQ : Hid (encMsg mm P ys = B) := strOf_inj (encMsg_bytes HGM7.out.pb HGM7.out.yb (fun j _ => HGM7.out.tb j)) HY.out (HSA.out.trans HSB.out.symm)
                go_wp2_with (first | (refine wpList_load_msgP rfl _ rfl g mm 27 (0, 0) ?_ ?_ ?_; rfl; exact HG7.out) | (refine wpList_store_msgP rfl _ _ rfl w.heap.size mm MsgR.zero ?_ ?_ H7.out ?_; rfl; rfl))
                have HC8 : Hid ((w8.setRow w.heap.size mm.cells).heap[w.heap.size]? = some (.cells mm.cells 27 (0, 0))) := setRow_blk H7.out _
                have hW8 : Below w.heap.size w (w8.setRow w.heap.size mm.cells) := HW7.out.trans ((keeps_setRow w8 _ _).below (Nat.le_refl _) (by have := lt_blk H7.out; omega))
                refine bodyPost_ret (v := .tuple #[.agg mm.cells, .int .i64 0]) ?_ rfl ⟨⟨mm, 0, rfl, .inl ⟨rfl, P, ys, (HGM7.out.setRow (Nat.lt_succ_self _) _).mono (Nat.le_succ _), HVY.out.1, HVY.out.2, HOK.out, HEQ.out⟩⟩, hW8⟩
                exact results_cell_tmp (p := 2) (q := 3) rfl _ _ w.heap.size _ _ rfl rfl (load_msg_cell _ _ _ _ _ HC8.out)
        · rw [h1e] at c1
          go_wp2_with fail
          refine (rHash_str (w.heap.size + 1) Li eri wr HRi.out).mono ?_
          rintro x uA ⟨D, rfl, iD, ⟨M1, q1, hr, ht, hl⟩, hk⟩
          have HKA : Hid (RhK w g w9.heap.size wr.heap.size { b5 with ya := ya, yl := ys.length, yc := yc } P ys uA) := HKi.out.keeps hk (Nat.le_refl _)
          have HRA : Hid (RdR uA (w.heap.size + 1) M1 q1) := hr
          have HC0 : Hid (∀ m1 P1 ys1, MsgEnc m1 P1 ys1 B → (a0 = m1.k ∧ a1 = m1.f ∧ a2 = m1.t ∧ a3 = m1.s ∧ a4 = m1.v) ∧ P = P1 ∧ VotesEq ys ys1 ∧ (∀ j, j < 32 → hashF D j = m1.tag j) ∧ M1 = [] ∧ q1 = false) := fun m1 P1 ys1 hE => by
            obtain ⟨p1, p2, p3, p4, p5⟩ := HOUT.out m1 P1 ys1 hE
            obtain ⟨s1, s2, s3⟩ := ht (ofF 32 m1.tag) [] (by rw [ofF_length]; rfl) p4
            exact ⟨p1, p2, p3, fun j hj => by unfold hashF; rw [s1, ofF_getD hj], s2, s3.trans p5⟩
          have HSA : Hid (wr.heap.size ≤ uA.heap.size) := hk.size
          clear hr ht hl hk HKi HRi HOUT
          go_wp2_with (refine wpList_store_tagMP rfl _ _ rfl g (hashF D) { b5 with ya := ya, yl := ys.length, yc := yc } ?_ ?_ 27 HKA.out.mg ?_; rfl; rfl)
          intro wB hgB hkB
          obtain ⟨mm, HMM⟩ : ∃ mm : MsgR, Hid (mm = ⟨a0, a1, a2, a3, a4, va, pl, vc, ya, ys.length, yc, hashF D⟩) := ⟨_, rfl⟩
          have HGB : Hid (wB.heap[g]? = some (.cells mm.cells 27 (0, 0))) := by
            rw [HM5.out] at hgB
            rw [HMM.out]
            exact hgB
          have hKA := HKA.out
          have hgv := hKA.gv
          have hgb := hKA.gb
          have hlr := hKA.lr
          have hsA := HSA.out
          have HGMB : Hid (MsgIn wB mm P ys ∧ MsgGot wB (w.heap.size + 1) mm P ys) := by
            obtain ⟨ao2, cap2, e2, hat, hlt⟩ := hKA.own.form
            have hrow : RowF wB va P vc := by
              have := hKA.row
              rw [HM5.out] at this
              exact this.same (fun ad e => hkB.block _ (by have := hKA.vl ad (by rw [HM5.out]; exact e); have := hKA.bv; omega) (by have := hKA.vl ad (by rw [HM5.out]; exact e); omega))
            have hvot : VotesAt wB ya ys := by
              have e3 : ao2 = ya := by injection e2 with h1 h2 h3; exact h1.symm
              subst e3
              exact hat.same (fun ad e => hkB.block _ (hlt ad e).2 (by have := (hlt ad e).1; omega))
            have h37 : P.length < 137438953472 := by have := HPP.out.1; have := HL30.out; omega
            rw [HMM.out]
            have hI : MsgIn wB ⟨a0, a1, a2, a3, a4, va, pl, vc, ya, ys.length, yc, hashF D⟩ P ys := ⟨HPP.out.2.2.2.symm, hrow.1, rfl, hvot, HIN.out, fun y hy => (HYi.out.2.1 y hy).1, HPP.out.2.1, fun y hy => (HYi.out.2.1 y hy).2, fun j _ => hashF_bytes iD j⟩
            exact ⟨hI, ⟨⟨HPP.out.2.2.2.symm, hrow.1, rfl, hvot, HIN.out, fun y hy => (HYi.out.2.1 y hy).1, h37, by have := HYi.out.1; omega⟩, HPP.out.2.1, fun y hy => (HYi.out.2.1 y hy).2, fun j => hashF_bytes iD j, fun ad e => by have := hKA.vl ad (by rw [HM5.out]; exact e); omega, fun ad e => by have := hKA.ol ad e; omega, HPP.out.2.2.1, hrow.2⟩⟩
          have HCM : Hid (∀ m1 P1 ys1, MsgEnc m1 P1 ys1 B → (mm.k = m1.k ∧ mm.f = m1.f ∧ mm.t = m1.t ∧ mm.s = m1.s ∧ mm.v = m1.v ∧ P = P1 ∧ VotesEq ys ys1 ∧ ∀ j, j < 32 → mm.tag j = m1.tag j) ∧ M1 = [] ∧ q1 = false) := fun m1 P1 ys1 hE => by
            obtain ⟨⟨p1, p2, p3, p4, p5⟩, p6, p7, p8, p9, p10⟩ := HC0.out m1 P1 ys1 hE
            rw [HMM.out]
            exact ⟨⟨p1, p2, p3, p4, p5, p6, p7, p8⟩, p9, p10⟩
          have HVY : Hid (mm.vl = P.length ∧ mm.yl = ys.length) := by rw [HMM.out]; exact ⟨HPP.out.2.2.2.symm, rfl⟩
          have HZB : Hid (wB.heap[w.heap.size]? = some (.cells MsgR.zero.cells 27 (0, 0))) := (hkB.block _ (by have := lt_blk hKA.m0; omega) (by omega)).trans hKA.m0
          have HRB : Hid (RdR wB (w.heap.size + 1) M1 q1) := HRA.out.same (fun q hq => hkB.block q (by have := HRA.out.lt; omega) (by omega))
          have HWB : Hid (Below w.heap.size w wB) := hKA.bel.trans (hkB.below (by omega) (by have := lt_blk hKA.m0; omega))
          have HLN : Hid (P.length < 137438953472 ∧ ys.length < 1073741824) := ⟨by have := HPP.out.1; have := HL30.out; omega, by have := HYi.out.1; omega⟩
          clear hgB hkB hKA HKA HRA HC0 HSA hsA hgv hgb hlr HYi HTT HIN HM5 HPP
          go_wp2_with (refine wpList_load_msgP rfl _ rfl g mm 27 (0, 0) ?_ ?_ ?_; rfl; exact HGB.out)
          refine (rEncodeMsg_any mm P ys wB HGMB.out.1 HLN.out.1 HLN.out.2).mono ?_
          rintro x w7 ⟨v7, rfl, hO7, hB7⟩
          have HG7 : Hid (w7.heap[g]? = some (.cells mm.cells 27 (0, 0))) := (hB7.block _ (lt_blk HGB.out)).trans HGB.out
          have H7 : Hid (w7.heap[w.heap.size]? = some (.cells MsgR.zero.cells 27 (0, 0))) := (hB7.block _ (lt_blk HZB.out)).trans HZB.out
          have HR7 : Hid (RdR w7 (w.heap.size + 1) M1 q1) := HRB.out.same (fun q hq => hB7.block _ (by have := HRB.out.lt; omega))
          have HW7 : Hid (Below w.heap.size w w7) := HWB.out.trans (hB7.mono (by have := lt_blk HZB.out; omega))
          have HGM7 : Hid (MsgGot w7 (w.heap.size + 1) mm P ys) := HGMB.out.2.below hB7 (Nat.le_refl _)
          obtain ⟨ok, HOK⟩ : ∃ ok, Hid (msgB mm ys = ok) := ⟨_, rfl⟩
          rw [HOK.out] at hO7 ⊢
          obtain ⟨ao7, c7, rfl, -, hR7, -⟩ := OwnB.form2r hO7
          have HC7 : Hid (Rowed w7 ao7 (if ok = true then encMsg mm P ys else []) c7) := hR7
          clear hO7 hB7 hR7 HGB HZB HRB HWB HGMB
          obtain ⟨n7, HN7⟩ : ∃ n7, Hid ((if ok = true then encMsg mm P ys else []).length = n7) := ⟨_, rfl⟩
          rw [HN7.out]
          obtain ⟨fe, HFE⟩ : ∃ fe : Int, Hid ((if ok = true then (0 : Int) else 1) = fe) := ⟨_, rfl⟩
          rw [HFE.out]
          go_wp2_with fail
          refine (rrWhole_str (w.heap.size + 1) M1 q1 w7 HR7.out).mono ?_
          rintro x w8 ⟨rfl, rfl⟩
          obtain ⟨wh, HWH⟩ : ∃ wh, Hid ((!q1 && decide (M1 = [])) = wh) := ⟨_, rfl⟩
          rw [HWH.out]
          cases wh
          case false =>
            have HD : Hid (∀ W, DecMsg B w.heap.size (.returned (.tuple #[.agg MsgR.zero.cells, .int .i64 2])) W) := fun W => rhNone HVY.out.1 HVY.out.2 HCM.out (.inl (fun h1 h2 => by have := HWH.out; rw [h1, h2] at this; simp at this))
            go_wp2_with (first | refine wpList_build_to rfl 27 _ rfl MsgR.zero.cells (by kernel_rfl) ?_ | (refine wpList_store_msgP rfl _ _ rfl w.heap.size MsgR.zero MsgR.zero ?_ ?_ H7.out ?_; rfl; rfl))
            have HC8 : Hid ((w8.setRow w.heap.size MsgR.zero.cells).heap[w.heap.size]? = some (.cells MsgR.zero.cells 27 (0, 0))) := setRow_blk H7.out _
            have hW8 : Below w.heap.size w (w8.setRow w.heap.size MsgR.zero.cells) := HW7.out.trans ((keeps_setRow w8 _ _).below (Nat.le_refl _) (by have := lt_blk H7.out; omega))
            refine bodyPost_ret (v := .tuple #[.agg MsgR.zero.cells, .int .i64 2]) ?_ rfl ⟨HD.out _, hW8⟩
            exact results_cell_tmp (p := 2) (q := 3) rfl _ _ w.heap.size _ _ rfl rfl (load_msg_cell _ _ _ _ _ HC8.out)
          case true =>
            cases ok
            case false =>
              obtain rfl : fe = 1 := HFE.out.symm
              have HD : Hid (∀ W, DecMsg B w.heap.size (.returned (.tuple #[.agg MsgR.zero.cells, .int .i64 2])) W) := fun W => rhNone HVY.out.1 HVY.out.2 HCM.out (.inr (.inl HOK.out))
              go_wp2_with (first | refine wpList_build_to rfl 27 _ rfl MsgR.zero.cells (by kernel_rfl) ?_ | (refine wpList_store_msgP rfl _ _ rfl w.heap.size MsgR.zero MsgR.zero ?_ ?_ H7.out ?_; rfl; rfl))
              have HC8 : Hid ((w8.setRow w.heap.size MsgR.zero.cells).heap[w.heap.size]? = some (.cells MsgR.zero.cells 27 (0, 0))) := setRow_blk H7.out _
              have hW8 : Below w.heap.size w (w8.setRow w.heap.size MsgR.zero.cells) := HW7.out.trans ((keeps_setRow w8 _ _).below (Nat.le_refl _) (by have := lt_blk H7.out; omega))
              refine bodyPost_ret (v := .tuple #[.agg MsgR.zero.cells, .int .i64 2]) ?_ rfl ⟨HD.out _, hW8⟩
              exact results_cell_tmp (p := 2) (q := 3) rfl _ _ w.heap.size _ _ rfl rfl (load_msg_cell _ _ _ _ _ HC8.out)
            case true =>
              obtain rfl : fe = 0 := HFE.out.symm
              simp only [if_true] at HC7 HN7
              have hcv1 := conv_str (w := w8) HC7.out HN7.out.symm
              have hcv2 := conv_str (w := w8) (HR.out.below HW7.out (Nat.le_refl _)) HN.out.symm
              obtain ⟨sA, HSA⟩ : ∃ sA, Hid (strOf (encMsg mm P ys) = sA) := ⟨_, rfl⟩
              obtain ⟨sB, HSB⟩ : ∃ sB, Hid (strOf B = sB) := ⟨_, rfl⟩
              rw [HSA.out] at hcv1
              rw [HSB.out] at hcv2
              by_cases hs : sA = sB
              case neg =>
                have hs1 : (sA.toList == sB.toList) = false := beq_false_of_ne (fun h => hs (ByteArray.ext (Array.toList_inj.1 (by rw [← ByteArray.toList_eq, ← ByteArray.toList_eq]; exact h))))
                have HD : Hid (∀ W, DecMsg B w.heap.size (.returned (.tuple #[.agg MsgR.zero.cells, .int .i64 2])) W) := fun W => rhNone HVY.out.1 HVY.out.2 HCM.out (.inr (.inr (fun h => hs (HSA.out.symm.trans ((congrArg strOf h).trans HSB.out)))))
                go_wp2_with (first | refine wpList_build_to rfl 27 _ rfl MsgR.zero.cells (by kernel_rfl) ?_ | (refine wpList_store_msgP rfl _ _ rfl w.heap.size MsgR.zero MsgR.zero ?_ ?_ H7.out ?_; rfl; rfl))
                have HC8 : Hid ((w8.setRow w.heap.size MsgR.zero.cells).heap[w.heap.size]? = some (.cells MsgR.zero.cells 27 (0, 0))) := setRow_blk H7.out _
                have hW8 : Below w.heap.size w (w8.setRow w.heap.size MsgR.zero.cells) := HW7.out.trans ((keeps_setRow w8 _ _).below (Nat.le_refl _) (by have := lt_blk H7.out; omega))
                refine bodyPost_ret (v := .tuple #[.agg MsgR.zero.cells, .int .i64 2]) ?_ rfl ⟨HD.out _, hW8⟩
                exact results_cell_tmp (p := 2) (q := 3) rfl _ _ w.heap.size _ _ rfl rfl (load_msg_cell _ _ _ _ _ HC8.out)
              case pos =>
                subst hs
                have HEQ : Hid (encMsg mm P ys = B) := strOf_inj (encMsg_bytes HGM7.out.pb HGM7.out.yb (fun j _ => HGM7.out.tb j)) HY.out (HSA.out.trans HSB.out.symm)
                go_wp2_with (first | (refine wpList_load_msgP rfl _ rfl g mm 27 (0, 0) ?_ ?_ ?_; rfl; exact HG7.out) | (refine wpList_store_msgP rfl _ _ rfl w.heap.size mm MsgR.zero ?_ ?_ H7.out ?_; rfl; rfl))
                have HC8 : Hid ((w8.setRow w.heap.size mm.cells).heap[w.heap.size]? = some (.cells mm.cells 27 (0, 0))) := setRow_blk H7.out _
                have hW8 : Below w.heap.size w (w8.setRow w.heap.size mm.cells) := HW7.out.trans ((keeps_setRow w8 _ _).below (Nat.le_refl _) (by have := lt_blk H7.out; omega))
                refine bodyPost_ret (v := .tuple #[.agg mm.cells, .int .i64 0]) ?_ rfl ⟨⟨mm, 0, rfl, .inl ⟨rfl, P, ys, (HGM7.out.setRow (Nat.lt_succ_self _) _).mono (Nat.le_succ _), HVY.out.1, HVY.out.2, HOK.out, HEQ.out⟩⟩, hW8⟩
                exact results_cell_tmp (p := 2) (q := 3) rfl _ _ w.heap.size _ _ rfl rfl (load_msg_cell _ _ _ _ _ HC8.out)
      
end Go.Proofs.Ytkjocpadmlobgaa
