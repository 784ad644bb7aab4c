/- A message out of bytes: decode. For rows of up to 2^30 bytes. -/
import Derived.Test.YtkjocpadmlobgaaWireMt
import Derived.Test.YtkjocpadmlobgaaWireDk
import Derived.Test.YtkjocpadmlobgaaWireE
namespace Go.Proofs.Ytkjocpadmlobgaa
open Go.RowKit Go.Dig Go.Inv Go.Oct
set_option linter.unusedVariables false

theorem encMsg_bytes {m : MsgR} {P : List Int} {ys : List VoteR} (hP : ByteL P) (hy : ∀ y ∈ ys, VBytes y) (ht : ∀ j, j < 32 → 0 ≤ m.tag j ∧ m.tag j < 256) : ByteL (encMsg m P ys) := by
  have hof : ∀ (f : Nat → Int), (∀ j, j < 32 → 0 ≤ f j ∧ f j < 256) → ByteL (ofF 32 f) := fun f h x hx => by
    obtain ⟨j, hj, rfl⟩ := List.mem_map.1 hx
    exact h j (by simpa using hj)
  have hv : ByteL (ys.flatMap voteL) := fun x hx => by
    obtain ⟨y, hm, hx⟩ := List.mem_flatMap.1 hx
    have h1 := hof y.sum (fun j hj => (hy y hm j hj).1)
    have h2 := hof y.tag (fun j hj => (hy y hm j hj).2)
    unfold voteL sealedL at hx
    exact ((((nums_bytes _).append h1).append (num_bytes _)).append h2) x hx
  unfold encMsg
  exact (((((nums_bytes _).append (num_bytes _)).append hP).append (num_bytes _)).append hv).append (hof m.tag ht)
/-- a message that may be, and its bytes -/
def MsgEnc (m : MsgR) (P : List Int) (ys : List VoteR) (B : List Int) : Prop := m.vl = P.length ∧ m.yl = ys.length ∧ msgB m ys = true ∧ encMsg m P ys = B
/-- a message that lies behind a place -/
structure MsgGot (w : World) (b0 : Nat) (m : MsgR) (P : List Int) (ys : List VoteR) : Prop where
  at_ : MsgAt w m P ys
  pb : ByteL P
  yb : ∀ y ∈ ys, VBytes y
  tb : ∀ j, 0 ≤ m.tag j ∧ m.tag j < 256
  va : ∀ ad, m.va = some ad → b0 ≤ ad.block
  ya : ∀ ad, m.ya = some ad → b0 ≤ ad.block
  vc : P.length ≤ m.vc
  vf : VaOk w m.va
theorem MsgGot.mono {w : World} {b0 b1 : Nat} {m : MsgR} {P : List Int} {ys : List VoteR} (h : MsgGot w b0 m P ys) (hb : b1 ≤ b0) : MsgGot w b1 m P ys := ⟨h.at_, h.pb, h.yb, h.tb, fun ad e => Nat.le_trans hb (h.va ad e), fun ad e => Nat.le_trans hb (h.ya ad e), h.vc, h.vf⟩
theorem MsgGot.below {w w' : World} {b0 B : Nat} {m : MsgR} {P : List Int} {ys : List VoteR} (h : MsgGot w b0 m P ys) (hB : Below B w w') (hb : w.heap.size ≤ B) : MsgGot w' b0 m P ys := ⟨h.at_.below hB hb, h.pb, h.yb, h.tb, h.va, h.ya, h.vc, h.vf.same (fun ad e => by obtain ⟨cur, hc⟩ := h.vf ad e; exact hB.block _ (by have := lt_blk hc; omega))⟩
theorem MsgGot.setRow {w : World} {b0 g : Nat} {m : MsgR} {P : List Int} {ys : List VoteR} (h : MsgGot w b0 m P ys) (hg : g < b0) (c : Array Value) : MsgGot (w.setRow g c) b0 m P ys := by
  have hk : ∀ k, b0 ≤ k → (w.setRow g c).heap[k]? = w.heap[k]? := fun k hk => by simp only [World.setRow, Array.getElem?_modify]; rw [if_neg (by omega)]
  obtain ⟨a1, a2, a3, a4, a5, a6, a7, a8⟩ := h.at_
  exact ⟨⟨a1, a2.same (fun ad e => hk _ (h.va ad e)), a3, a4.same (fun ad e => hk _ (h.ya ad e)), a5, a6, a7, a8⟩, h.pb, h.yb, h.tb, h.va, h.ya, h.vc, h.vf.same (fun ad e => hk _ (h.va ad e))⟩
/-- what is decoded of bytes: a message whose bytes they are, or none -/
def DecMsg (B : List Int) (b0 : Nat) (e : Ending) (w : World) : Prop := ∃ (m : MsgR) (f : Int), e = .returned (.tuple #[.agg m.cells, .int .i64 f]) ∧
  ((f = 0 ∧ ∃ P ys, MsgGot w b0 m P ys ∧ MsgEnc m P ys B) ∨ (f = 2 ∧ m = MsgR.zero ∧ ∀ m1 P1 ys1, ¬ MsgEnc m1 P1 ys1 B))
theorem DecMsg.form {B : List Int} {b0 : Nat} {e : Ending} {w : World} (h : DecMsg B b0 e w) : ∃ (m : MsgR) (f : Int), e = .returned (.tuple #[.agg m.cells, .int .i64 f]) := by
  obtain ⟨m, f, he, _⟩ := h
  exact ⟨m, f, he⟩
theorem votesB_same : ∀ {l k : List VoteR}, VotesEq l k → l.all voteB = k.all voteB
  | [], [], _ => rfl
  | x :: l, y :: k, h => by
    have h1 : voteB x = voteB y := by unfold voteB; rw [h.1.1, h.1.2.1, h.1.2.2.1, h.1.2.2.2.2.1]
    simp only [List.all_cons, h1, votesB_same h.2]
theorem decMsg_none {B : List Int} {b0 : Nat} {m : MsgR} {P : List Int} {ys : List VoteR} {W : World} (hv : m.vl = P.length) (hyl : m.yl = ys.length)
    (h : ∀ m1 P1 ys1, MsgEnc m1 P1 ys1 B → m.k = m1.k ∧ m.f = m1.f ∧ m.t = m1.t ∧ m.s = m1.s ∧ m.v = m1.v ∧ P = P1 ∧ VotesEq ys ys1 ∧ ∀ j, j < 32 → m.tag j = m1.tag j)
    (hn : msgB m ys = false ∨ ¬ encMsg m P ys = B) : DecMsg B b0 (.returned (.tuple #[.agg MsgR.zero.cells, .int .i64 2])) W :=
  ⟨MsgR.zero, 2, rfl, .inr ⟨rfl, rfl, fun m1 P1 ys1 hE => by
    obtain ⟨e1, e2, e3, e4, e5, rfl, e7, e8⟩ := h _ _ _ hE
    obtain ⟨f1, f2, f3, f4⟩ := hE
    obtain ⟨g1, g2⟩ := flat_same ys ys1 e7
    rcases hn with hn | hn
    · have : msgB m ys = msgB m1 ys1 := by
        unfold msgB
        rw [e1, e2, e3, e4, e5, hv, f1, hyl, f2, g2, votesB_same e7]
      rw [this, f3] at hn
      cases hn
    · apply hn
      rw [← f4]
      unfold encMsg
      rw [e1, e2, e3, e4, e5, g1, g2, ofF_same e8]⟩⟩
theorem msg_back {B L1 : List Int} {z : Int} {m : MsgR} {P : List Int} {ys : List VoteR} (hT : Took B L1 [z]) (h : MTook L1 m P ys) :
    ∀ m1 P1 ys1, MsgEnc m1 P1 ys1 B → m.k = m1.k ∧ m.f = m1.f ∧ m.t = m1.t ∧ m.s = m1.s ∧ m.v = m1.v ∧ P = P1 ∧ VotesEq ys ys1 ∧ ∀ j, j < 32 → m.tag j = m1.tag j := fun m1 P1 ys1 ⟨f1, f2, f3, f4⟩ => by
  have hok := msgB_ok f3 f1 f2
  have hB : B = num 1 ++ (nums [m1.k, m1.f, m1.t, m1.s, m1.v] ++ (num (P1.length : Int) ++ (P1 ++ (votesL ys1 ++ (ofF 32 m1.tag ++ []))))) := by
    rw [← f4]
    unfold encMsg votesL
    simp only [nums_cons, nums_nil, List.append_nil, List.append_assoc]
  exact h m1 P1 ys1 [] hok.k hok.f hok.t hok.s hok.v (num_len (by have := hok.vb; omega)) hok.yb hok.ys (hT.one ⟨by decide, by decide⟩ hB).2
theorem load_msg_cell (w : World) (g : Nat) (m : MsgR) (t : TypeId) (fr : Nat × Nat) (hg : w.heap[g]? = some (.cells m.cells t fr)) : (loadVar 27 ⟨g, 0, none⟩).run Try.prog w = .ok (.agg m.cells) w := by
  obtain ⟨d, hd1, hd2⟩ := msg_row
  exact run_loadVar_row w g t 27 m.cells fr d hg hd1 (by cases d <;> simp_all [TypeDesc.isRow]) (msg_info m)

theorem msg_cells_inj {m n : MsgR} (h : m.cells = n.cells) : m.k = n.k ∧ m.f = n.f ∧ m.t = n.t ∧ m.s = n.s ∧ m.v = n.v ∧ (m.va = n.va ∧ m.vl = n.vl ∧ m.vc = n.vc) ∧ (m.ya = n.ya ∧ m.yl = n.yl ∧ m.yc = n.yc) ∧ ∀ j, j < 32 → m.tag j = n.tag j := by
  have h0 : ∀ i : Nat, m.cells[i]? = n.cells[i]? := fun i => by rw [h]
  have a0 := h0 0; have a1 := h0 1; have a2 := h0 2; have a3 := h0 3; have a4 := h0 4; have a5 := h0 5; have a6 := h0 6
  rw [MsgR.at0, MsgR.at0] at a0; rw [MsgR.at1, MsgR.at1] at a1; rw [MsgR.at2, MsgR.at2] at a2; rw [MsgR.at3, MsgR.at3] at a3; rw [MsgR.at4, MsgR.at4] at a4; rw [MsgR.at5, MsgR.at5] at a5; rw [MsgR.at6, MsgR.at6] at a6
  simp only [Option.some.injEq, Value.int.injEq, true_and, Value.slice.injEq] at a0 a1 a2 a3 a4 a5 a6
  refine ⟨a0, a1, a2, a3, a4, a5, a6, fun j hj => ?_⟩
  have := h0 (7 + j)
  rw [MsgR.atTag _ hj, MsgR.atTag _ hj] at this
  simpa using this
theorem decMsg_over {B : List Int} {b0 : Nat} {m : MsgR} {f : Int} {w : World} (h : DecMsg B (b0 + 1) (.returned (.tuple #[.agg m.cells, .int .i64 f])) w) : DecMsg B b0 (.returned (.tuple #[.agg m.cells, .int .i64 f])) (w.setRow b0 m.cells) := by
  obtain ⟨m', f', he, hd⟩ := h
  have hc : m.cells = m'.cells ∧ f = f' := by simpa using he
  refine ⟨m', f', by rw [hc.1, hc.2], ?_⟩
  rcases hd with ⟨h0, P, ys, hg, hE⟩ | hn
  · exact .inl ⟨h0, P, ys, (hg.setRow (Nat.lt_succ_self _) _).mono (Nat.le_succ _), hE⟩
  · exact .inr hn
set_option maxRecDepth 10000 in
set_option maxHeartbeats 4000000 in
theorem decodeMsg_str (B : List Int) (ao : Option Addr) (cap : Nat) (w : World) (hR : Rowed w ao B cap) (hy : ∀ x ∈ B, 0 ≤ x ∧ x < 256) (hl : B.length < 1073741824) :
    Calls Try.prog 44 #[.slice ao B.length cap, .func (.func 45) #[] #[], .func (.func 10) #[] #[]] w fun e w' => DecMsg B w.heap.size e w' ∧ Below w.heap.size w w' := by
  have HB0 : Hid (Below w.heap.size w (w.alloc (.cells (MsgR.zero.cells) 27))) := below_alloc _ _
  have H0 : Hid ((w.alloc (.cells (MsgR.zero.cells) 27)).heap[w.heap.size]? = some (.cells (MsgR.zero.cells) 27)) := alloc_blk _ _
  have HR : Hid (Rowed w ao B cap) := hR
  have HY : Hid (∀ x ∈ B, 0 ≤ x ∧ x < 256) := hy
  have HBL : Hid (B.length < 1073741824) := hl
  have hNR := newReader_str B ao cap (w.alloc (.cells (MsgR.zero.cells) 27)) (hR.below HB0.out (Nat.le_refl _)) hy (by omega)
  obtain ⟨n, HN⟩ : ∃ n, Hid (B.length = n) := ⟨_, rfl⟩
  rw [HN.out] at hNR hl ⊢
  have HNR : Hid (Calls Try.prog 71 #[.slice ao n cap] (w.alloc (.cells (MsgR.zero.cells) 27)) fun e w' => ∃ r, e = .returned (.pointer (some ⟨r, 0, none⟩)) ∧ RdL w' r B ∧ (w.alloc (.cells (MsgR.zero.cells) 27)).heap.size ≤ r ∧ Below (w.alloc (.cells (MsgR.zero.cells) 27)).heap.size (w.alloc (.cells (MsgR.zero.cells) 27)) w') := hNR
  have hs0 : (w.alloc (.cells (MsgR.zero.cells) 27)).heap.size = w.heap.size + 1 := by simp
  clear hNR hR hy
  go_enter Try.func44, Try.ntmps44
  go_upto_region 1 with fail
  change Code.wp _ _ _ _ (w.alloc (.cells (MsgR.zero.cells) 27))
  generalize w.alloc (.cells (MsgR.zero.cells) 27) = w0 at *
  go_wp2_with fail
  refine HNR.out.mono ?_
  rintro e w1 ⟨r, rfl, hr1, hr0, hB1⟩
  rw [hs0] at hr0 hB1
  have HR1 : Hid (RdL w1 r B) := hr1
  clear hr1 HNR
  go_wp2_with fail
  refine (rdNum_str r B w1 HR1.out).mono ?_
  rintro e w2 ⟨⟨z, rfl, -, -, L1, hr2, ht2, hl2⟩, hk2, -⟩
  have hrw1 := HR1.out.lt
  have HR2 : Hid (RdL w2 r L1) := hr2
  have HT2 : Hid (Took B L1 [z] ∧ L1.length ≤ B.length) := ⟨ht2, hl2⟩
  have hB2 : Below (w.heap.size + 1) w0 w2 := hB1.trans (hk2.below hr0 (by omega))
  clear hr2 hk2 hB1 HR1 ht2 hl2
  go_wp2_with fail
  refine (takeMsg_str r L1 w2 HR2.out (by have := HT2.out.2; have := HBL.out; omega)).mono ?_
  rintro e w3 ⟨m, P, ys, rfl, hat, hpb, hyb, htb, hfr, hy10, hpl, hvc, hvf, hmt, hB3'⟩
  have HCM : Hid (∀ m1 P1 ys1, MsgEnc m1 P1 ys1 B → m.k = m1.k ∧ m.f = m1.f ∧ m.t = m1.t ∧ m.s = m1.s ∧ m.v = m1.v ∧ P = P1 ∧ VotesEq ys ys1 ∧ ∀ j, j < 32 → m.tag j = m1.tag j) := msg_back HT2.out.1 hmt
  have HGM : Hid (MsgGot w3 (w.heap.size + 1) m P ys) := ⟨hat, hpb, hyb, htb, fun ad e => by have := hfr.1 ad e; have := hB2.size; omega, fun ad e => by have := hfr.2 ad e; have := hB2.size; omega, hvc, hvf⟩
  have HVY : Hid (m.vl = P.length ∧ m.yl = ys.length) := ⟨hat.vl, hat.yl⟩
  clear hat hpb hyb htb hfr hy10 hpl hvc hvf hmt
  have hB3 : Below (w.heap.size + 1) w0 w3 := hB2.trans (hB3'.mono hr0)
  have hz3 : w.heap.size + 1 ≤ w3.heap.size := by have := hB3.size; omega
  clear hB3' hB2 HR2 HT2
  go_upto_region 4 with ((refine wpList_store_msgP rfl _ _ rfl w3.heap.size m MsgR.zero ?_ ?_ (alloc_blk _ _) ?_; rfl; rfl))
  rw [setRow_new]
  have HG4 : Hid ((w3.alloc (.cells (m.cells) 27)).heap[w3.heap.size]? = some (.cells (m.cells) 27 (0, 0))) := alloc_blk _ _
  have hB4 : Below (w.heap.size + 1) w0 (w3.alloc (.cells (m.cells) 27)) := hB3.alloc hz3 _
  have hs4 : (w3.alloc (.cells (m.cells) 27)).heap.size = w3.heap.size + 1 := by simp
  have HGM4 : Hid (MsgGot (w3.alloc (.cells m.cells 27)) (w.heap.size + 1) m P ys) := HGM.out.below (below_alloc _ _) (Nat.le_refl _)
  clear HGM
  generalize w3.alloc (.cells (m.cells) 27) = w4 at *
  obtain ⟨g, hg⟩ : ∃ g, w3.heap.size = g := ⟨_, rfl⟩
  rw [hg] at HG4 hs4 hz3
  simp only [hg]
  clear hg hB3
  go_wp2_with ((refine wpList_load_msgP rfl _ rfl g m 27 (0, 0) ?_ ?_ ?_; rfl; exact HG4.out))
  refine (encodeMsg_any m P ys w4 HGM4.out.at_).mono ?_
  rintro e w5 ⟨v5, rfl, hO5, hB5'⟩
  have hB5 : Below (w.heap.size + 1) w0 w5 := hB4.trans (hB5'.mono (by omega))
  have HG5 : Hid (w5.heap[g]? = some (.cells (m.cells) 27 (0, 0))) := (hB5'.block g (by omega)).trans HG4.out
  have H05 : Hid (w5.heap[w.heap.size]? = some (.cells (MsgR.zero.cells) 27 (0, 0))) := (hB5.block _ (Nat.lt_succ_self _)).trans H0.out
  have HR5 : Hid (Rowed w5 ao B cap) := HR.out.below (HB0.out.trans (hB5.mono (Nat.le_succ _))) (Nat.le_refl _)
  have hW5 : Below w.heap.size w w5 := HB0.out.trans (hB5.mono (Nat.le_succ _))
  have hz5 : w.heap.size < w5.heap.size := lt_blk H05.out
  have HGM5 : Hid (MsgGot w5 (w.heap.size + 1) m P ys) := HGM4.out.below hB5' (Nat.le_refl _)
  clear HGM4
  clear hB5' hB4 HG4 hB5
  obtain ⟨ok, HOK⟩ : ∃ ok, Hid (msgB m ys = ok) := ⟨_, rfl⟩
  rw [HOK.out] at hO5 ⊢
  cases ok
  · simp only [Bool.false_eq_true, if_false] at hO5 ⊢
    clear hO5
    have HD : Hid (∀ W, DecMsg B w.heap.size (.returned (.tuple #[.agg MsgR.zero.cells, .int .i64 2])) W) := fun W => decMsg_none HVY.out.1 HVY.out.2 HCM.out (.inl HOK.out)
    have HA6 : Hid ((w5.alloc (.cells (MsgR.zero.cells) 27)).heap[w5.heap.size]? = some (.cells (MsgR.zero.cells) 27)) := alloc_blk _ _
    have H06 : Hid ((w5.alloc (.cells (MsgR.zero.cells) 27)).heap[w.heap.size]? = some (.cells (MsgR.zero.cells) 27 (0, 0))) := alloc_blk_old H05.out _
    have hW6 : Below w.heap.size w (w5.alloc (.cells (MsgR.zero.cells) 27)) := hW5.alloc (by omega) _
    go_upto_region 7 with fail
    change Code.wp _ _ _ _ (w5.alloc (.cells (MsgR.zero.cells) 27))
    obtain ⟨g7, hg7⟩ : ∃ g7, w5.heap.size = g7 := ⟨_, rfl⟩
    rw [hg7] at HA6
    simp only [hg7]
    generalize w5.alloc (.cells (MsgR.zero.cells) 27) = w7 at *
    have hz7 : w.heap.size < w7.heap.size := lt_blk H06.out
    go_wp2_with (first | ((refine wpList_load_msgP rfl _ rfl g7 MsgR.zero 27 (0, 0) ?_ ?_ ?_; rfl; exact HA6.out)) | ((refine wpList_store_msgP rfl _ _ rfl w.heap.size MsgR.zero MsgR.zero ?_ ?_ H06.out ?_; rfl; rfl)))
    have HC8 : Hid ((w7.setRow w.heap.size (MsgR.zero.cells)).heap[w.heap.size]? = some (.cells (MsgR.zero.cells) 27 (0, 0))) := setRow_blk H06.out _
    have hW8 : Below w.heap.size w (w7.setRow w.heap.size (MsgR.zero.cells)) := hW6.trans ((keeps_setRow w7 _ _).below (Nat.le_refl _) (by omega))
    refine bodyPost_ret (v := .tuple #[.agg (MsgR.zero.cells), .int .i64 2]) ?_ rfl ⟨HD.out _, hW8⟩
    exact results_cell_tmp (p := 6) (q := 7) rfl _ _ w.heap.size _ _ rfl rfl (load_msg_cell _ _ _ _ _ HC8.out)
  · simp only [if_true] at hO5 ⊢
    obtain ⟨ao5, n5, c5, rfl, HF5⟩ := hO5.form
    clear hO5
    go_wp2_with fail
    refine (bytesEqual_any (encMsg m P ys) B ao5 ao n5 n c5 cap w5 HF5.out.2.2 HR5.out HF5.out.1 HN.out.symm).mono ?_
    rintro e w6 ⟨rfl, rfl⟩
    obtain ⟨eb, HEB⟩ : ∃ eb, Hid (((strOf (encMsg m P ys)).toList == (strOf B).toList) = eb) := ⟨_, rfl⟩
    rw [HEB.out]
    cases eb
    · have HD : Hid (∀ W, DecMsg B w.heap.size (.returned (.tuple #[.agg MsgR.zero.cells, .int .i64 2])) W) := fun W => decMsg_none HVY.out.1 HVY.out.2 HCM.out (.inr (fun h => by have h2 := HEB.out; rw [h] at h2; simp at h2))
      have HA6 : Hid ((w6.alloc (.cells (MsgR.zero.cells) 27)).heap[w6.heap.size]? = some (.cells (MsgR.zero.cells) 27)) := alloc_blk _ _
      have H06 : Hid ((w6.alloc (.cells (MsgR.zero.cells) 27)).heap[w.heap.size]? = some (.cells (MsgR.zero.cells) 27 (0, 0))) := alloc_blk_old H05.out _
      have hW6 : Below w.heap.size w (w6.alloc (.cells (MsgR.zero.cells) 27)) := hW5.alloc (by omega) _
      go_upto_region 7 with fail
      change Code.wp _ _ _ _ (w6.alloc (.cells (MsgR.zero.cells) 27))
      obtain ⟨g7, hg7⟩ : ∃ g7, w6.heap.size = g7 := ⟨_, rfl⟩
      rw [hg7] at HA6
      simp only [hg7]
      generalize w6.alloc (.cells (MsgR.zero.cells) 27) = w7 at *
      have hz7 : w.heap.size < w7.heap.size := lt_blk H06.out
      go_wp2_with (first | ((refine wpList_load_msgP rfl _ rfl g7 MsgR.zero 27 (0, 0) ?_ ?_ ?_; rfl; exact HA6.out)) | ((refine wpList_store_msgP rfl _ _ rfl w.heap.size MsgR.zero MsgR.zero ?_ ?_ H06.out ?_; rfl; rfl)))
      have HC8 : Hid ((w7.setRow w.heap.size (MsgR.zero.cells)).heap[w.heap.size]? = some (.cells (MsgR.zero.cells) 27 (0, 0))) := setRow_blk H06.out _
      have hW8 : Below w.heap.size w (w7.setRow w.heap.size (MsgR.zero.cells)) := hW6.trans ((keeps_setRow w7 _ _).below (Nat.le_refl _) (by omega))
      refine bodyPost_ret (v := .tuple #[.agg (MsgR.zero.cells), .int .i64 2]) ?_ rfl ⟨HD.out _, hW8⟩
      exact results_cell_tmp (p := 6) (q := 7) rfl _ _ w.heap.size _ _ rfl rfl (load_msg_cell _ _ _ _ _ HC8.out)
    · have HEQ : Hid (encMsg m P ys = B) := by
        have h1 := HEB.out
        rw [← beq_toListBytes] at h1
        exact strOf_inj (encMsg_bytes HGM5.out.pb HGM5.out.yb (fun j _ => HGM5.out.tb j)) HY.out (ByteArray.ext (eq_of_beq (show ((strOf (encMsg m P ys)).data == (strOf B).data) = true from h1)))
      go_wp2_with (first | ((refine wpList_load_msgP rfl _ rfl g m 27 (0, 0) ?_ ?_ ?_; rfl; exact HG5.out)) | ((refine wpList_store_msgP rfl _ _ rfl w.heap.size m MsgR.zero ?_ ?_ H05.out ?_; rfl; rfl)))
      have HC6 : Hid ((w6.setRow w.heap.size (m.cells)).heap[w.heap.size]? = some (.cells (m.cells) 27 (0, 0))) := setRow_blk H05.out _
      have hW6 : Below w.heap.size w (w6.setRow w.heap.size (m.cells)) := hW5.trans ((keeps_setRow w6 _ _).below (Nat.le_refl _) (by omega))
      refine bodyPost_ret (v := .tuple #[.agg (m.cells), .int .i64 0]) ?_ rfl ⟨⟨m, 0, rfl, .inl ⟨rfl, P, ys, (HGM5.out.setRow (Nat.lt_succ_self _) _).mono (Nat.le_succ _), HVY.out.1, HVY.out.2, HOK.out, HEQ.out⟩⟩, hW6⟩
      exact results_cell_tmp (p := 6) (q := 7) rfl _ _ w.heap.size _ _ rfl rfl (load_msg_cell _ _ _ _ _ HC6.out)
set_option maxRecDepth 10000 in
set_option maxHeartbeats 1000000 in
theorem dMsg_str (B : List Int) (ao : Option Addr) (cap : Nat) (w : World) (hR : Rowed w ao B cap) (hy : ∀ x ∈ B, 0 ≤ x ∧ x < 256) (hl : B.length < 1073741824) :
    Calls Try.prog 12 #[.slice ao B.length cap] w fun e w' => DecMsg B w.heap.size e w' ∧ Below w.heap.size w w' := by
  have HB0 : Hid (Below w.heap.size w (w.alloc (.cells (MsgR.zero.cells) 27))) := below_alloc _ _
  have H0 : Hid ((w.alloc (.cells (MsgR.zero.cells) 27)).heap[w.heap.size]? = some (.cells (MsgR.zero.cells) 27)) := alloc_blk _ _
  have hD := decodeMsg_str B ao cap (w.alloc (.cells (MsgR.zero.cells) 27)) (hR.below HB0.out (Nat.le_refl _)) hy hl
  obtain ⟨n, HN⟩ : ∃ n, Hid (B.length = n) := ⟨_, rfl⟩
  rw [HN.out] at hD ⊢
  have HD : Hid (Calls Try.prog 44 #[.slice ao n cap, .func (.func 45) #[] #[], .func (.func 10) #[] #[]] (w.alloc (.cells (MsgR.zero.cells) 27)) fun e w' => DecMsg B (w.alloc (.cells (MsgR.zero.cells) 27)).heap.size e w' ∧ Below (w.alloc (.cells (MsgR.zero.cells) 27)).heap.size (w.alloc (.cells (MsgR.zero.cells) 27)) w') := hD
  have hs0 : (w.alloc (.cells (MsgR.zero.cells) 27)).heap.size = w.heap.size + 1 := by simp
  clear hD hR hy hl
  go_enter Try.func12, Try.ntmps12
  go_upto_region 1 with fail
  change Code.wp _ _ _ _ (w.alloc (.cells (MsgR.zero.cells) 27))
  generalize w.alloc (.cells (MsgR.zero.cells) 27) = w0 at *
  go_wp2_with fail
  refine HD.out.mono ?_
  rintro e w1 ⟨hd, hB1⟩
  rw [hs0] at hB1
  obtain ⟨m, f, rfl⟩ := hd.form
  rw [hs0] at hd
  have HF : Hid (DecMsg B w.heap.size (.returned (.tuple #[.agg m.cells, .int .i64 f])) (w1.setRow w.heap.size m.cells)) := decMsg_over hd
  have H01 : Hid (w1.heap[w.heap.size]? = some (.cells (MsgR.zero.cells) 27 (0, 0))) := (hB1.block _ (Nat.lt_succ_self _)).trans H0.out
  have hW1 : Below w.heap.size w w1 := HB0.out.trans (hB1.mono (Nat.le_succ _))
  have hz1 : w.heap.size < w1.heap.size := lt_blk H01.out
  clear hd hB1 HD
  go_wp2_with ((refine wpList_store_msgP rfl _ _ rfl w.heap.size m MsgR.zero ?_ ?_ H01.out ?_; rfl; rfl))
  have HC2 : Hid ((w1.setRow w.heap.size (m.cells)).heap[w.heap.size]? = some (.cells (m.cells) 27 (0, 0))) := setRow_blk H01.out _
  have hW2 : Below w.heap.size w (w1.setRow w.heap.size (m.cells)) := hW1.trans ((keeps_setRow w1 _ _).below (Nat.le_refl _) (by omega))
  refine bodyPost_ret (v := .tuple #[.agg (m.cells), .int .i64 f]) ?_ rfl ⟨HF.out, hW2⟩
  exact results_cell_tmp (p := 2) (q := 3) rfl _ _ w.heap.size _ _ rfl rfl (load_msg_cell _ _ _ _ _ HC2.out)
end Go.Proofs.Ytkjocpadmlobgaa
