/- A transaction begins. -/
import Derived.Test.YtjinhahfpkcilaaPlH
import Derived.Test.YtjinhahfpkcilaaInv9
namespace Go.Proofs.Ytjinhahfpkcilaa
open Go.RowKit Go.Dig Go.Inv Go.Oct
set_option linter.unusedVariables false
set_option linter.unusedSimpArgs false

theorem stage_le {ops : Array Oper} {ts : List Nat} {k s n : Nat} (hs : s ≤ ts.length) (h : mayAt ops ts k s = true) (hd : ((List.range (ts.length + 1)).all fun t => !mayAt ops ts k t || decide (t ≤ n)) = true) : s ≤ n := by
  have := List.all_eq_true.1 hd s (by simp; omega)
  rw [h] at this
  simpa using this
/-- a row has grown, and nothing else -/
structure ApA (w1 W : World) (sv v : Value) (R : World → Value → Prop) : Prop where
  r : R W v
  own : ∀ k, v.ownBlock = some k → sv.ownBlock = some k ∨ w1.heap.size ≤ k
  os : W.os = w1.os
  tape : W.tape = w1.tape
  output : W.output = w1.output
  size : w1.heap.size ≤ W.heap.size
  block : ∀ k, k < w1.heap.size → sv.ownBlock ≠ some k → W.heap[k]? = w1.heap[k]?
/-- l.x = append(l.x, y), step by step: y is laid, the row grows, the field is set -/
def ApS (w1 : World) (lb off : Nat) (sv : Value) (R : World → Value → Prop) (c : Array Value) (e : TypeId) : List Value → World → Prop
  | [], W => Below w1.heap.size w1 W
  | [s], W => (∃ g, s = .slice (some ⟨g, 0, none⟩) 1 1 ∧ w1.heap.size ≤ g ∧ W.heap[g]? = some (.cells c e (0, 0))) ∧ Below w1.heap.size w1 W
  | [_, v], W => ApA w1 W sv v R
  | [_, v, _], W => ∃ W', ApA w1 W' sv v R ∧ Below W'.heap.size (W'.setCell ⟨lb, off, none⟩ v) W
  | _, _ => True
theorem ApA.below {w1 A B : World} {sv v : Value} {R : World → Value → Prop} (hR : ∀ A B v, Below A.heap.size A B → R A v → R B v) (hB : Below A.heap.size A B) (h : ApA w1 A sv v R) : ApA w1 B sv v R :=
  ⟨hR _ _ _ hB h.r, h.own, hB.os.trans h.os, hB.tape.trans h.tape, hB.output.trans h.output, Nat.le_trans h.size hB.size, fun k hk hn => (hB.block k (Nat.lt_of_lt_of_le hk h.size)).trans (h.block k hk hn)⟩
theorem ApS.below {w1 : World} {lb off : Nat} {sv : Value} {R : World → Value → Prop} {c : Array Value} {e : TypeId} (hR : ∀ A B v, Below A.heap.size A B → R A v → R B v) : ∀ (s : List Value) (A B : World), Below A.heap.size A B → ApS w1 lb off sv R c e s A → ApS w1 lb off sv R c e s B
  | [], A, B, hB, h => Below.trans h (hB.mono (Below.size h))
  | [s], A, B, hB, ⟨⟨g, h1, h2, h3⟩, h4⟩ => ⟨⟨g, h1, h2, (hB.block g (lt_blk h3)).trans h3⟩, h4.trans (hB.mono h4.size)⟩
  | [_, v], A, B, hB, h => ApA.below hR hB h
  | [_, v, _], A, B, hB, ⟨W', h1, h2⟩ => ⟨W', h1, h2.trans (hB.mono (by have := h2.size; simpa [World.setCell] using this))⟩
  | _ :: _ :: _ :: _ :: _, _, _, _, _ => trivial
theorem Gr.apA {w1 W w' : World} {sv v : Value} {R : World → Value → Prop} (hB : Below w1.heap.size w1 W) (hG : Gr W w' sv v) (hr : R w' v) : ApA w1 w' sv v R :=
  ⟨hr, fun k hk => (hG.own k hk).imp_right fun h => Nat.le_trans hB.size h, hG.os.trans hB.os, hG.tape.trans hB.tape, hG.output.trans hB.output, Nat.le_trans hB.size hG.size, fun k hk hn => (hG.block k (Nat.lt_of_lt_of_le hk hB.size) hn).trans (hB.block k hk)⟩
def BgP (l : Lb) : Prop := l = .lg ∨ l = .sp ∨ l = .mp
theorem lgC_set10 {q : List (Option Nat)} (hq : q.length = 8) (rv sv : Value) (mb mb' : Option Nat) : (lgC q rv sv mb).setIfInBounds 10 (.map mb') = lgC q rv sv mb' := by
  match q, hq with
  | [a, b, c, d, e, f, g, h], _ => rfl
theorem lgC_set9 {q : List (Option Nat)} (hq : q.length = 8) (rv sv sv' : Value) (mb : Option Nat) : (lgC q rv sv mb).setIfInBounds 9 sv' = lgC q rv sv' mb := by
  match q, hq with
  | [a, b, c, d, e, f, g, h], _ => rfl
theorem lgC_set8 {q : List (Option Nat)} (hq : q.length = 8) (rv rv' sv : Value) (mb : Option Nat) : (lgC q rv sv mb).setIfInBounds 8 rv' = lgC q rv' sv mb := by
  match q, hq with
  | [a, b, c, d, e, f, g, h], _ => rfl
/-- a map is made -/
theorem LgS.map0 {own : Own} {w : World} {lb : Nat} {x : Pl} {q : List (Option Nat)} {rv sv : Value} {us : List Value} (h : LgS own w lb x q rv sv none us) :
    LgS (own.put w.heap.size .mp) ((w.alloc (.map #[] 0)).setCell ⟨lb, 10, none⟩ (.map (some w.heap.size))) lb x q rv sv (some w.heap.size) us ∧ Stp BgP own (own.put w.heap.size .mp) w ((w.alloc (.map #[] 0)).setCell ⟨lb, 10, none⟩ (.map (some w.heap.size))) := by
  have hf := h.owned.fresh (Nat.le_refl _)
  have hx : Ext own (own.put w.heap.size .mp) := Own.put_ext hf
  have hB := below_alloc w (.map #[] 0)
  have hs : w.heap.size < (w.alloc (.map #[] 0)).heap.size := by simp
  have h1 : Stp BgP own (own.put w.heap.size .mp) w (w.alloc (.map #[] 0)) := Stp.alloc hB (Nat.le_refl _) hs h.owned
  have h2 : Stp BgP (own.put w.heap.size .mp) (own.put w.heap.size .mp) (w.alloc (.map #[] 0)) _ := Stp.cell (l := .lg) 10 (.map (some w.heap.size)) (hx lb _ h.ll) (.inl rfl) h1.new
  have hS := h1.trans h2
  have hb : ∀ k l, own k = some l → l ≠ .lg → ((w.alloc (.map #[] 0)).setCell ⟨lb, 10, none⟩ (.map (some w.heap.size))).heap[k]? = w.heap[k]? := fun k l hk hl =>
    (Below.heap_setCell _ _ _ k fun e => hl (by rw [e, h.ll] at hk; exact (Option.some.inj hk).symm)).trans (hB.block k (h.owned k l hk))
  have hlt := lt_blk h.blk
  have hblk : (w.alloc (.map #[] 0)).heap[lb]? = some (.cells (lgC q rv sv none) 68 (0, 0)) := alloc_blk_old h.blk _
  have hne : lb ≠ w.heap.size := by omega
  refine ⟨⟨hS.new, ?_, hx lb _ h.ll, h.ql, h.wl, fun i b t h1 h2 => (h.wr i b t h1 h2).keep hx fun k hk => hk.elim (fun e => hb k _ e (by simp)) (fun e => hb k _ e (by simp)), h.rs.same fun k hk => hb k _ (h.lr k hk) (by simp), h.ul, fun k hk => hx k _ (h.lr k hk),
   fun i r u h1 h2 => (h.vl i r u h1 h2).keep hx fun k hk => hb k _ hk (by simp), h.sp.same fun k hk => hb k _ (h.ls k hk) (by simp), fun k hk => hx k _ (h.ls k hk), ?_, Own.put_same _ _ _⟩, hS⟩
  · rw [← lgC_set10 h.ql rv sv none (some w.heap.size)]
    exact set_blk hblk 10 _
  · have e : x.sp.map Sp.key = [] := h.mp
    rw [e]
    exact (MapP.made w).same (Below.heap_setCell _ _ _ _ (Ne.symm hne))
def newS (k : Ky) (f : Int) : Sp := ⟨k.1, k.2.1, k.2.2, f, 0⟩
theorem ssC_one (s : Sp) : ∀ u ∈ ssC s, u.oneCell' = true := fun u hu => by
  simp [ssC] at hu
  rcases hu with rfl | rfl | rfl | rfl | rfl <;> rfl
theorem Pl.place_none {x : Pl} {k : Ky} (h : x.place k = Option.none) : k ∉ x.sp.map Sp.key := idxK_none.1 h
section
variable {ops : Array Oper} {rest : List Oper} {o : Oper} {a : Act} {w : World} {K : Act → World → Prop} {Q : Exit → Act → World → Prop}
/-- a key gets a place -/
theorem wp_mapPut (m x v : Operand) (ho : o.op = .mapUpdate 66 m x v) (nb : Nat) (L : List Ky) (k : Ky) (hm : a.eval m = .map (some nb)) (hx : a.eval x = .agg (kyC k)) (hv : a.eval v = .int .i64 (L.length : Int)) (h : MapP w nb L) (hk : k.In) (hn : k ∉ L) (hl : L.length < 100000)
    (hK : ∀ w', MapP w' nb (L ++ [k]) → w.grownBy w' (some nb) → K (a.put o.dst undef) w') : o.wp Try.prog a w K Q := by
  obtain ⟨w', hrun, h1, h2⟩ := h.put hk hn hl
  unfold Oper.wp
  simp [execOp, ho, hm, hx, hv, hrun, Result.andThen]
  exact hK w' h1 h2
end
/-- one has begun -/
theorem LgS.begun {own : Own} {W1 W' W4 Wm W5 : World} {lb nb : Nat} {x : Pl} {q : List (Option Nat)} {rv sv v : Value} {us : List Value} {k : Ky} {f : Int} (h : LgS own W1 lb x q rv sv (some nb) us) (hA : ApA W1 W' sv v (fun W v => OwnSs W 0 v (x.sp ++ [newS k f]))) (hB : Below W'.heap.size (W'.setCell ⟨lb, 9, none⟩ v) W4) (hBm : Below W4.heap.size W4 Wm) (hM : MapP W5 nb (x.sp.map Sp.key ++ [k])) (hG : Wm.grownBy W5 (some nb)) :
    LgS (own.row v .sp) W5 lb ⟨x.ws, x.rs, x.sp ++ [newS k f]⟩ q rv v (some nb) us ∧ Stp BgP own (own.row v .sp) W1 W5 := by
  have hlt := lt_blk h.blk
  have hsb : sv.ownBlock ≠ some lb := fun e => by have := h.ls lb e; rw [h.ll] at this; cases this
  have hln : nb ≠ lb := fun e => by have := h.mp.2; rw [e, h.ll] at this; cases this
  have hsz' : W'.heap.size ≤ W4.heap.size := by have := hB.size; simpa [World.setCell] using this
  have hsz4 := Nat.le_trans hA.size hsz'
  have hx : Ext own (own.row v .sp) := Own.row_ext fun b hb => by
    rcases hA.own b hb with h1 | h1
    · exact .inr (h.ls b h1)
    · exact .inl (h.owned.fresh h1)
  -- any block that lay in W', but lb and nb
  have hz' : ∀ b, b < W'.heap.size → b ≠ lb → b ≠ nb → W5.heap[b]? = W'.heap[b]? := fun b h1 h2 h3 =>
    (((hG.block b (Nat.lt_of_lt_of_le (Nat.lt_of_lt_of_le h1 hsz') hBm.size) (fun e => h3 (Option.some.inj e))).trans (hBm.block b (Nat.lt_of_lt_of_le h1 hsz'))).trans (hB.block b h1)).trans (Below.heap_setCell _ _ _ b h2)
  have hz : ∀ b, b < W1.heap.size → b ≠ lb → b ≠ nb → sv.ownBlock ≠ some b → W5.heap[b]? = W1.heap[b]? := fun b h1 h2 h3 h4 => (hz' b (Nat.lt_of_lt_of_le h1 hA.size) h2 h3).trans (hA.block b h1 h4)
  have hb : ∀ b l, own b = some l → l ≠ .lg → l ≠ .sp → l ≠ .mp → W5.heap[b]? = W1.heap[b]? := fun b l hl h1 h2 h3 => hz b (h.owned b l hl) (fun e => h1 (by rw [e, h.ll] at hl; exact (Option.some.inj hl).symm)) (fun e => h3 (by rw [e, h.mp.2] at hl; exact (Option.some.inj hl).symm)) (fun e => h2 (by have := h.ls b e; rw [this] at hl; exact (Option.some.inj hl).symm))
  have hvlb : ∀ b, v.ownBlock = some b → b ≠ lb ∧ b ≠ nb := fun b hb => by
    rcases hA.own b hb with h1 | h1
    · have h2 := h.ls b h1
      exact ⟨fun e => (by rw [e, h.ll] at h2; cases h2), fun e => (by rw [e, h.mp.2] at h2; cases h2)⟩
    · have := h.mp.1.lt
      exact ⟨by omega, by omega⟩
  have hsz5 : W1.heap.size ≤ W5.heap.size := Nat.le_trans hsz4 (Nat.le_trans hBm.size hG.size)
  have hlb : W5.heap[lb]? = some (.cells (lgC q rv v (some nb)) 68 (0, 0)) := by
    rw [hG.block lb (Nat.lt_of_lt_of_le (Nat.lt_of_lt_of_le hlt hsz4) hBm.size) (fun e => hln (Option.some.inj e).symm), hBm.block lb (Nat.lt_of_lt_of_le hlt hsz4), hB.block lb (Nat.lt_of_lt_of_le hlt hA.size), ← lgC_set9 h.ql rv sv v (some nb)]
    exact set_blk ((hA.block lb hlt hsb).trans h.blk) 9 _
  have hown : Owned (own.row v .sp) W5 := fun b l hb => by
    unfold Own.row at hb
    split at hb
    · rename_i e; exact Nat.lt_of_lt_of_le (hA.r.lt b e).2 (Nat.le_trans hsz' (Nat.le_trans hBm.size hG.size))
    · exact Nat.lt_of_lt_of_le (h.owned b l hb) hsz5
  refine ⟨⟨hown, hlb, hx lb _ h.ll, h.ql, h.wl, fun i b t h1 h2 => (h.wr i b t h1 h2).keep hx fun k hk => hk.elim (fun e => hb k _ e (by simp) (by simp) (by simp)) (fun e => hb k _ e (by simp) (by simp) (by simp)), h.rs.same fun k hk => hb k _ (h.lr k hk) (by simp) (by simp) (by simp), h.ul, fun k hk => hx k _ (h.lr k hk),
    fun i r u h1 h2 => (h.vl i r u h1 h2).keep hx fun k hk => hb k _ hk (by simp) (by simp) (by simp), hA.r.same fun b hb => hz' b (hA.r.lt b hb).2 (hvlb b hb).1 (hvlb b hb).2, fun b hb => Own.row_yes hb, ?_⟩, ?_⟩
  · refine ⟨?_, hx nb _ h.mp.2⟩
    rw [List.map_append]
    exact hM
  · refine ⟨hG.os.trans (hBm.os.trans (hB.os.trans hA.os)), hG.tape.trans (hBm.tape.trans (hB.tape.trans hA.tape)), hG.output.trans (hBm.output.trans (hB.output.trans hA.output)), hsz5, fun b h1 h2 => hz b h1 (fun e => h2 .lg (by rw [e]; exact h.ll) (.inl rfl)) (fun e => h2 .mp (by rw [e]; exact h.mp.2) (.inr (.inr rfl))) (fun e => h2 .sp (h.ls b e) (.inr (.inl rfl))), fun b hb => ?_, hown⟩
    unfold Own.row
    split
    · rename_i e
      rcases hA.own b e with h1 | h1
      · exact (h.ls b h1).symm
      · omega
    · rfl
set_option maxRecDepth 10000 in
set_option maxHeartbeats 4000000 in
theorem begin_at (own : Own) (w : World) (lb : Nat) (x : Pl) (q : List (Option Nat)) (rv sv : Value) (mb : Option Nat) (us : List Value) (h : LgS own w lb x q rv sv mb us) (k : Ky) (hk : k.In) (f : Int) (hn : x.place k = Option.none) (hl : x.sp.length ≤ 90000) :
    Calls Try.prog 53 #[.pointer (some ⟨lb, 0, none⟩), .agg (kyC k), .int .i64 f] w fun e w' => e = .returned (.int .i64 (x.sp.length : Int)) ∧
      ∃ own' sv' mb', LgS own' w' lb ⟨x.ws, x.rs, x.sp ++ [newS k f]⟩ q rv sv' mb' us ∧ Stp BgP own own' w w' := by
  have hb0 := alloc_blk w (.cells (kyC k) 76)
  have hB0 := below_alloc w (.cells (kyC k) 76)
  have h0 := h.below hB0
  have hst0 : Stp BgP own own w (w.alloc (.cells (kyC k) 76)) := Stp.of_below hB0 h.owned
  have hfree : own w.heap.size = none := h.owned.fresh (Nat.le_refl _)
  obtain ⟨W0, HW0⟩ : ∃ W0, Hid (w.alloc (.cells (kyC k) 76) = W0) := ⟨_, rfl⟩
  rw [HW0.out] at hb0 hB0 h0 hst0
  obtain ⟨kb, Hkb⟩ : ∃ p, Hid (w.heap.size = p) := ⟨_, rfl⟩
  have c10 : W0.cell? ⟨lb, 10, none⟩ = some (.map mb) := h0.c8.2.2
  go_enter Try.func53, Try.ntmps53
  go_upto_region 1 with (refine wpList_box_row rfl 76 _ rfl (kyC k) rfl ?_; rw [HW0.out])
  rw [Hkb.out] at hb0 hfree ⊢
  have HS0 : Hid (LgS own W0 lb x q rv sv mb us) := h0
  have HK0 : Hid (W0.heap[kb]? = some (.cells (kyC k) 76 (0, 0)) ∧ own kb = none) := ⟨hb0, hfree⟩
  have HST0 : Hid (Stp BgP own own w W0) := hst0
  have HKI : Hid (k.In ∧ x.place k = Option.none) := ⟨hk, hn⟩
  clear hb0 h0 h hB0 HW0 hst0 hfree hk hn
  have heq := run_eql_map_nil (P := Try.prog) W0 66 76 3 mb und_map
  cases mb with
  | none =>
    have hmm := @run_makeMap Try.prog
    have hA := alloc_blk_old HS0.out.blk (.map #[] 0)
    have fA : (W0.alloc (.map #[] 0)).frozen? ⟨lb, 10, none⟩ = false := frozen_blk hA 10
    have cA : (W0.alloc (.map #[] 0)).cell? ⟨lb, 10, none⟩ = some (.map none) := by rw [cell_blk hA, ← cell_blk HS0.out.blk]; exact c10
    obtain ⟨hL1, hS1⟩ := HS0.out.map0
    have HL1 : Hid (LgS (own.put W0.heap.size .mp) ((W0.alloc (.map #[] 0)).setCell ⟨lb, 10, none⟩ (.map (some W0.heap.size))) lb x q rv sv (some W0.heap.size) us) := hL1
    have HS1 : Hid (Stp BgP own (own.put W0.heap.size .mp) W0 ((W0.alloc (.map #[] 0)).setCell ⟨lb, 10, none⟩ (.map (some W0.heap.size)))) := hS1
    clear hL1 hS1 hA
    go_upto_region 3 with fail
    obtain ⟨W1, HW1⟩ : ∃ W, Hid ((W0.alloc (.map #[] 0)).setCell ⟨lb, 10, none⟩ (.map (some W0.heap.size)) = W) := ⟨_, rfl⟩
    obtain ⟨nb, Hnb⟩ : ∃ p, Hid (W0.heap.size = p) := ⟨_, rfl⟩
    have hkW : ((W0.alloc (.map #[] 0)).setCell ⟨lb, 10, none⟩ (.map (some W0.heap.size))).heap[kb]? = some (.cells (kyC k) 76 (0, 0)) := by
      have e : kb ≠ lb := fun e => by have := HK0.out.2; rw [e, HS0.out.ll] at this; cases this
      rw [Below.heap_setCell _ _ _ kb e]
      exact alloc_blk_old HK0.out.1 _
    have hk0 : (own.put W0.heap.size .mp) kb = none := by
      unfold Own.put
      rw [if_neg (by have := lt_blk HK0.out.1; omega)]
      exact HK0.out.2
    have HST1 : Hid (Stp BgP own (own.put W0.heap.size .mp) w ((W0.alloc (.map #[] 0)).setCell ⟨lb, 10, none⟩ (.map (some W0.heap.size)))) := HST0.out.trans HS1.out
    have HK1 : Hid (((W0.alloc (.map #[] 0)).setCell ⟨lb, 10, none⟩ (.map (some W0.heap.size))).heap[kb]? = some (.cells (kyC k) 76 (0, 0)) ∧ (own.put W0.heap.size .mp) kb = none) := ⟨hkW, hk0⟩
    obtain ⟨own1, HO1⟩ : ∃ o, Hid (own.put W0.heap.size .mp = o) := ⟨_, rfl⟩
    rw [HW1.out, HO1.out, Hnb.out] at HL1
    rw [HW1.out, HO1.out] at HST1 HK1
    rw [HW1.out] at ⊢
    clear HS1 HS0 HST0 HK0 HW1 HO1 Hnb hkW hk0 hmm fA cA c10 heq
    have hl1 := HL1.out
    obtain ⟨sa, sc, rfl⟩ := hl1.sp.form
    have c9 : W1.cell? ⟨lb, 9, none⟩ = some (.slice sa x.sp.length sc) := hl1.c8.2.1
    have hlt := lt_blk hl1.blk
    have hkt := lt_blk HK1.out.1
    clear hl1
    go_upto_region 4 with fail
    refine wp_region_turnsV (by kernel_rfl) (by kernel_rfl) [13, 14, 17] (by kernel_rfl) (by decide) (by decide) (fun xS => { tmps := (Value.pointer (some (⟨lb, 0, none⟩ : Addr)) :: Value.agg (kyC k) :: Value.int IntKind.i64 f :: undef :: Value.pointer (some (⟨kb, 0, none⟩ : Addr)) :: undef :: Value.int IntKind.i64 0 :: Value.int IntKind.i64 (x.sp.length : Int) :: Value.pointer (some (⟨lb, 0, none⟩ : Addr)) :: Value.pointer (some (⟨lb, 0, none⟩ : Addr)) :: Value.pointer (some (⟨lb, 10, none⟩ : Addr)) :: Value.map none :: Value.bool true :: Value.pointer (some (⟨lb, 0, none⟩ : Addr)) :: Value.map (some W0.heap.size) :: Value.pointer (some (⟨lb, 0, none⟩ : Addr)) :: Value.pointer (some (⟨lb, 10, none⟩ : Addr)) :: Value.pointer (some (⟨lb, 0, none⟩ : Addr)) :: Value.pointer (some (⟨lb, 0, none⟩ : Addr)) :: Value.pointer (some (⟨lb, 9, none⟩ : Addr)) :: Value.slice sa x.sp.length sc :: Value.int IntKind.i64 (x.sp.length : Int) :: xS 0 :: xS 1 :: xS 2 :: xS 3 :: xS 4 :: xS 5 :: xS 6 :: xS 7 :: xS 8 :: xS 9 :: xS 10 :: xS 11 :: xS 12 :: xS 13 :: xS 14 :: xS 15 :: xS 16 :: undef :: undef :: undef :: undef :: undef :: undef :: undef :: []).toArray, defers := [] })
      (fun ii xx WW => match ii with | 0 => xx = Value.pointer (some (⟨lb, 0, none⟩ : Addr)) | 1 => xx = Value.pointer (some (⟨lb, 0, none⟩ : Addr)) | 2 => xx = Value.pointer (some (⟨lb, 0, none⟩ : Addr)) | 3 => xx = .pointer (some ⟨lb, 9, none⟩) | 4 => xx = .slice sa x.sp.length sc | 5 => xx = .pointer (some ⟨kb, 0, none⟩) | 6 => xx = .int .i64 k.1 | 7 => xx = .pointer (some ⟨kb, 1, none⟩) | 8 => xx = .int .i64 k.2.1 | 9 => xx = .pointer (some ⟨kb, 2, none⟩) | 10 => xx = .int .i64 k.2.2 | 11 => xx = Value.int IntKind.i64 f | 12 => xx = .agg (ssC (newS k f)) | 15 => xx = Value.pointer (some (⟨lb, 0, none⟩ : Addr)) | 16 => xx = .pointer (some ⟨lb, 9, none⟩) | _ => True) (ApS W1 lb 9 (.slice sa x.sp.length sc) (fun W v => OwnSs W 0 v (x.sp ++ [newS k f])) (ssC (newS k f)) 55) (fun | 0 => undef | 1 => undef | 2 => undef | 3 => undef | 4 => undef | 5 => undef | 6 => undef | 7 => undef | 8 => undef | 9 => undef | 10 => undef | 11 => undef | 12 => undef | 13 => undef | 14 => undef | 15 => undef | 16 => undef | _ => undef) (by repeat (first | exact trivial | refine ⟨fun _ _ => rfl, ?_⟩)) (fun _ _ _ _ _ h => h) (by intro i hi v W; simp only [List.mem_cons, List.mem_nil_iff, or_false] at hi; rcases hi with rfl | rfl | rfl <;> trivial) (fun s A B hB h => ApS.below (fun A B v hB h => h.below hB) s A B hB h) ((Below.refl _ _).drew) ⟨?_, ?_, ?_, ?_, ?_, ?_, ?_, ?_, ?_, ?_, ?_, ?_, ?_, ?_, ?_, ?_, ?_, ?_, trivial⟩ ?_
    · rw [if_neg (by decide)]
      intro s hs hmay xS W hS hp K hK
      rw [if_pos (wanted_none rfl _)]
      clear hp
      go_simp
      exact hK _ _ (Below.refl _ _) rfl
    · rw [if_neg (by decide)]
      intro s hs hmay xS W hS hp K hK
      rw [if_pos (wanted_none rfl _)]
      clear hp
      go_simp
      exact hK _ _ (Below.refl _ _) rfl
    · rw [if_neg (by decide)]
      intro s hs hmay xS W hS hp K hK
      rw [if_pos (wanted_none rfl _)]
      have h1 : xS 1 = Value.pointer (some (⟨lb, 0, none⟩ : Addr)) := hp.1 rfl
      clear hp
      simp only [h1] at hK ⊢
      clear h1
      go_simp
      exact hK _ _ (Below.refl _ _) rfl
    · rw [if_neg (by decide)]
      intro s hs hmay xS W hS hp K hK
      rw [if_pos (wanted_none rfl _)]
      have h2 : xS 2 = Value.pointer (some (⟨lb, 0, none⟩ : Addr)) := hp.1 rfl
      clear hp
      simp only [h2] at hK ⊢
      clear h2
      go_simp
      exact hK _ _ (Below.refl _ _) rfl
    · rw [if_neg (by decide)]
      intro s hs hmay xS W hS hp K hK
      rw [if_pos (wanted_none rfl _)]
      have h3 : xS 3 = .pointer (some ⟨lb, 9, none⟩) := hp.1 rfl
      clear hp
      have hle := stage_le (n := 1) hs hmay (by kernel_rfl)
      have hB : Below W1.heap.size W1 W := by
        rcases s with _ | _ | s
        · exact hS
        · exact hS.2
        · omega
      have hc := (hB.cell (p := ⟨lb, 9, none⟩) hlt).trans c9
      simp only [h3] at hK ⊢
      clear h3
      go_simp
      exact hK _ _ (Below.refl _ _) rfl
    · rw [if_neg (by decide)]
      intro s hs hmay xS W hS hp K hK
      rw [if_pos (wanted_none rfl _)]
      clear hp
      go_simp
      exact hK _ _ (Below.refl _ _) rfl
    · rw [if_neg (by decide)]
      intro s hs hmay xS W hS hp K hK
      rw [if_pos (wanted_none rfl _)]
      have hse := stage_of (s0 := 0) hs hmay (by kernel_rfl)
      subst hse
      replace hS : Below W1.heap.size W1 W := hS
      have h5 : xS 5 = .pointer (some ⟨kb, 0, none⟩) := hp.1 rfl
      clear hp
      have hB : Below W1.heap.size W1 W := hS
      have hc : W.cell? ⟨kb, 0, none⟩ = some (.int .i64 k.1) := cell_blk ((hB.block kb hkt).trans HK1.out.1) 0
      simp only [h5] at hK ⊢
      clear h5
      go_simp
      exact hK _ _ (Below.refl _ _) rfl
    · rw [if_neg (by decide)]
      intro s hs hmay xS W hS hp K hK
      rw [if_pos (wanted_none rfl _)]
      clear hp
      go_simp
      exact hK _ _ (Below.refl _ _) rfl
    · rw [if_neg (by decide)]
      intro s hs hmay xS W hS hp K hK
      rw [if_pos (wanted_none rfl _)]
      have hse := stage_of (s0 := 0) hs hmay (by kernel_rfl)
      subst hse
      replace hS : Below W1.heap.size W1 W := hS
      have h7 : xS 7 = .pointer (some ⟨kb, 1, none⟩) := hp.1 rfl
      clear hp
      have hB : Below W1.heap.size W1 W := hS
      have hc : W.cell? ⟨kb, 1, none⟩ = some (.int .i64 k.2.1) := cell_blk ((hB.block kb hkt).trans HK1.out.1) 1
      simp only [h7] at hK ⊢
      clear h7
      go_simp
      exact hK _ _ (Below.refl _ _) rfl
    · rw [if_neg (by decide)]
      intro s hs hmay xS W hS hp K hK
      rw [if_pos (wanted_none rfl _)]
      clear hp
      go_simp
      exact hK _ _ (Below.refl _ _) rfl
    · rw [if_neg (by decide)]
      intro s hs hmay xS W hS hp K hK
      rw [if_pos (wanted_none rfl _)]
      have hse := stage_of (s0 := 0) hs hmay (by kernel_rfl)
      subst hse
      replace hS : Below W1.heap.size W1 W := hS
      have h9 : xS 9 = .pointer (some ⟨kb, 2, none⟩) := hp.1 rfl
      clear hp
      have hB : Below W1.heap.size W1 W := hS
      have hc : W.cell? ⟨kb, 2, none⟩ = some (.int .i64 k.2.2) := cell_blk ((hB.block kb hkt).trans HK1.out.1) 2
      simp only [h9] at hK ⊢
      clear h9
      go_simp
      exact hK _ _ (Below.refl _ _) rfl
    · rw [if_neg (by decide)]
      intro s hs hmay xS W hS hp K hK
      rw [if_pos (wanted_none rfl _)]
      clear hp
      go_simp
      exact hK _ _ (Below.refl _ _) rfl
    · rw [if_neg (by decide)]
      intro s hs hmay xS W hS hp K hK
      rw [if_pos (wanted_none rfl _)]
      have h6 : xS 6 = .int .i64 k.1 := hp.1 rfl
      have h8 : xS 8 = .int .i64 k.2.1 := hp.2.1 rfl
      have h10 : xS 10 = .int .i64 k.2.2 := hp.2.2.1 rfl
      have h11 : xS 11 = Value.int IntKind.i64 f := hp.2.2.2.1 rfl
      clear hp
      simp only [h6, h8, h10, h11] at hK ⊢
      refine wp_build_to 55 _ rfl (ssC (newS k f)) (by kernel_rfl) ?_
      exact hK _ _ (Below.refl _ _) rfl
    · rw [if_pos (by decide)]
      refine ⟨rfl, ?_⟩
      intro xS W hS hw K hK
      have h12 : xS 12 = .agg (ssC (newS k f)) := hw 12 (by kernel_rfl)
      replace hS : Below W1.heap.size W1 W := hS
      clear hw
      have hB : Below W1.heap.size W1 W := hS
      refine wp_rowSs _ rfl (newS k f) h12 ?_
      exact hK _ _ ⟨⟨_, rfl, hB.size, alloc_blk _ _⟩, hB.trans ((below_alloc _ _).mono hB.size)⟩ (fun j y hj => hj)
    · rw [if_pos (by decide)]
      refine ⟨rfl, ?_⟩
      intro xS W hS hw K hK
      have h4 : xS 4 = .slice sa x.sp.length sc := hw 4 (by kernel_rfl)
      clear hw
      obtain ⟨⟨g, h13g, hgl, hgc⟩, hB⟩ := hS
      refine wp_appSs _ _ rfl 0 (.slice sa x.sp.length sc) x.sp h4 g (newS k f) h13g (HL1.out.sp.below hB) 55 hgc (ssC_one _) (by omega) (Nat.zero_le _) ?_
      intro v' w' hv hG
      exact hK _ _ (hG.apA hB hv) (fun j y hj => hj)
    · rw [if_neg (by decide)]
      intro s hs hmay xS W hS hp K hK
      rw [if_pos (wanted_none rfl _)]
      have h0 : xS 0 = Value.pointer (some (⟨lb, 0, none⟩ : Addr)) := hp.1 rfl
      clear hp
      simp only [h0] at hK ⊢
      clear h0
      go_simp
      exact hK _ _ (Below.refl _ _) rfl
    · rw [if_neg (by decide)]
      intro s hs hmay xS W hS hp K hK
      rw [if_pos (wanted_none rfl _)]
      have h15 : xS 15 = Value.pointer (some (⟨lb, 0, none⟩ : Addr)) := hp.1 rfl
      clear hp
      simp only [h15] at hK ⊢
      clear h15
      go_simp
      exact hK _ _ (Below.refl _ _) rfl
    · rw [if_pos (by decide)]
      refine ⟨rfl, ?_⟩
      intro xS W hS hw K hK
      have h16 : xS 16 = .pointer (some ⟨lb, 9, none⟩) := hw 16 (by kernel_rfl)
      clear hw
      replace hS : ApA W1 W (.slice sa x.sp.length sc) (xS 14) (fun W v => OwnSs W 0 v (x.sp ++ [newS k f])) := hS
      obtain ⟨va, vn, vc, e14⟩ : ∃ a n c, xS 14 = .slice a n c := by obtain ⟨a, c, e⟩ := hS.r.form; exact ⟨a, _, c, e⟩
      have hsb : (Value.slice sa x.sp.length sc).ownBlock ≠ some lb := fun e => by have := HL1.out.ls lb e; rw [HL1.out.ll] at this; cases this
      have hbW := (hS.block lb hlt hsb).trans HL1.out.blk
      have hc9 : W.cell? ⟨lb, 9, none⟩ = some (.slice sa x.sp.length sc) := by rw [cell_blk hbW, ← cell_blk HL1.out.blk]; exact c9
      have hf9 := frozen_blk hbW 9
      simp only [h16, e14] at hK ⊢
      clear h16
      go_simp
      simp only [← e14] at hK ⊢
      exact hK undef _ ⟨W, hS, Below.refl _ _⟩ (fun j y hj => hj)
    rintro xs0 W4 hS -
    obtain ⟨W', hA, hB4⟩ := hS
    obtain ⟨v, Hv⟩ : ∃ v, Hid (xs0 14 = v) := ⟨_, rfl⟩
    rw [Hv.out] at hA hB4
    have hsb : (Value.slice sa x.sp.length sc).ownBlock ≠ some lb := fun e => by have := HL1.out.ls lb e; rw [HL1.out.ll] at this; cases this
    have hsk : (Value.slice sa x.sp.length sc).ownBlock ≠ some kb := fun e => by have := HL1.out.ls kb e; rw [HK1.out.2] at this; cases this
    have hsn : (Value.slice sa x.sp.length sc).ownBlock ≠ some nb := fun e => by have := HL1.out.ls nb e; rw [HL1.out.mp.2] at this; cases this
    have hln : nb ≠ lb := fun e => by have := HL1.out.mp.2; rw [e, HL1.out.ll] at this; cases this
    have hlk : kb ≠ lb := fun e => by have := HK1.out.2; rw [e, HL1.out.ll] at this; cases this
    have hnlt := HL1.out.mp.1.lt
    have hz : ∀ b, b < W1.heap.size → b ≠ lb → (Value.slice sa x.sp.length sc).ownBlock ≠ some b → W4.heap[b]? = W1.heap[b]? := fun b h1 h2 h3 => ((hB4.block b (Nat.lt_of_lt_of_le h1 hA.size)).trans (Below.heap_setCell _ _ _ b h2)).trans (hA.block b h1 h3)
    have hsz4 : W1.heap.size ≤ W4.heap.size := Nat.le_trans hA.size (by have := hB4.size; simpa [World.setCell] using this)
    have hlb4 : W4.heap[lb]? = some (.cells (lgC q rv v (some nb)) 68 (0, 0)) := by
      rw [hB4.block lb (Nat.lt_of_lt_of_le hlt hA.size), ← lgC_set9 HL1.out.ql rv (Value.slice sa x.sp.length sc) v (some nb)]
      exact set_blk ((hA.block lb hlt hsb).trans HL1.out.blk) 9 _
    have c10 : W4.cell? ⟨lb, 10, none⟩ = some (.map (some nb)) := by
      rw [cell_blk hlb4]; unfold lgC; rw [List.getElem?_toArray, List.getElem?_append_right (by simp [HL1.out.ql]), List.length_map, HL1.out.ql]; rfl
    have HM4 : Hid (MapP W4 nb (x.sp.map Sp.key)) := HL1.out.mp.1.same (hz nb hnlt hln hsn)
    have HK4 : Hid (W4.heap[kb]? = some (.cells (kyC k) 76 (0, 0))) := (hz kb hkt hlk hsk).trans HK1.out.1
    have HA4 : Hid (ApA W1 W' (Value.slice sa x.sp.length sc) v (fun W v => OwnSs W 0 v (x.sp ++ [newS k f])) ∧ Below W'.heap.size (W'.setCell ⟨lb, 9, none⟩ v) W4) := ⟨hA, hB4⟩
    have hlt4 := lt_blk hlb4
    have hkt4 := lt_blk HK4.out
    clear hA hB4 hsb hsk hsn hln hlk hnlt hz hlb4 c9
    go_upto_region 5 with fail
    refine wp_region_pivot (by kernel_rfl) (by kernel_rfl) 6 (by decide) (by kernel_rfl) (by kernel_rfl) (fun xS => { tmps := (Value.pointer (some (⟨lb, 0, none⟩ : Addr)) :: Value.agg (kyC k) :: Value.int IntKind.i64 f :: undef :: Value.pointer (some (⟨kb, 0, none⟩ : Addr)) :: undef :: Value.int IntKind.i64 0 :: Value.int IntKind.i64 (x.sp.length : Int) :: Value.pointer (some (⟨lb, 0, none⟩ : Addr)) :: Value.pointer (some (⟨lb, 0, none⟩ : Addr)) :: Value.pointer (some (⟨lb, 10, none⟩ : Addr)) :: Value.map none :: Value.bool true :: Value.pointer (some (⟨lb, 0, none⟩ : Addr)) :: Value.map (some W0.heap.size) :: Value.pointer (some (⟨lb, 0, none⟩ : Addr)) :: Value.pointer (some (⟨lb, 10, none⟩ : Addr)) :: Value.pointer (some (⟨lb, 0, none⟩ : Addr)) :: Value.pointer (some (⟨lb, 0, none⟩ : Addr)) :: Value.pointer (some (⟨lb, 9, none⟩ : Addr)) :: Value.slice sa x.sp.length sc :: Value.int IntKind.i64 (x.sp.length : Int) :: xs0 0 :: xs0 1 :: xs0 2 :: xs0 3 :: xs0 4 :: xs0 5 :: xs0 6 :: xs0 7 :: xs0 8 :: xs0 9 :: xs0 10 :: xs0 11 :: xs0 12 :: xs0 13 :: xs0 14 :: xs0 15 :: xs0 16 :: xS 0 :: xS 1 :: xS 2 :: xS 3 :: xS 4 :: xS 5 :: undef :: []).toArray, defers := [] })
      (fun ii xx WW => match ii with | 0 => xx = Value.pointer (some (⟨lb, 0, none⟩ : Addr)) | 1 => xx = Value.pointer (some (⟨lb, 0, none⟩ : Addr)) | 2 => xx = .pointer (some ⟨lb, 10, none⟩) | 3 => xx = .map (some nb) | 4 => xx = .agg (kyC k) | 5 => xx = Value.int IntKind.i64 (x.sp.length : Int) | _ => True) (fun li xS W => MapP W nb (x.sp.map Sp.key ++ [k]) ∧ ∃ Wm, Below W4.heap.size W4 Wm ∧ Wm.grownBy W (some nb)) (fun | 0 => undef | 1 => undef | 2 => undef | 3 => undef | 4 => undef | 5 => undef | _ => undef) (by repeat (first | exact trivial | refine ⟨fun _ _ => rfl, ?_⟩)) (fun _ _ _ _ _ h => h) ⟨?_, ?_, ?_, ?_, ?_, ?_, ⟨rfl, ?_⟩, trivial⟩ ?_
    · intro xS W hB hp K hK
      rw [if_pos (wanted_none rfl _)]
      clear hp
      go_simp
      exact hK _ _ (Below.refl _ _) rfl
    · intro xS W hB hp K hK
      rw [if_pos (wanted_none rfl _)]
      have h0 : xS 0 = Value.pointer (some (⟨lb, 0, none⟩ : Addr)) := hp.1 rfl
      clear hp
      simp only [h0] at hK ⊢
      clear h0
      go_simp
      exact hK _ _ (Below.refl _ _) rfl
    · intro xS W hB hp K hK
      rw [if_pos (wanted_none rfl _)]
      have h1 : xS 1 = Value.pointer (some (⟨lb, 0, none⟩ : Addr)) := hp.1 rfl
      clear hp
      simp only [h1] at hK ⊢
      clear h1
      go_simp
      exact hK _ _ (Below.refl _ _) rfl
    · intro xS W hB hp K hK
      rw [if_pos (wanted_none rfl _)]
      have h2 : xS 2 = .pointer (some ⟨lb, 10, none⟩) := hp.1 rfl
      clear hp
      have hc := (hB.cell (p := ⟨lb, 10, none⟩) hlt4).trans c10
      simp only [h2] at hK ⊢
      clear h2
      go_simp
      exact hK _ _ (Below.refl _ _) rfl
    · intro xS W hB hp K hK
      rw [if_pos (wanted_none rfl _)]
      clear hp
      refine wp_load_agg 76 (by kernel_rfl) _ rfl kb (kyC k) 76 (0, 0) ?_ ((hB.block kb hkt4).trans HK4.out) (by kernel_rfl) ?_
      · rfl
      exact hK _ _ (Below.refl _ _) rfl
    · intro xS W hB hp K hK
      rw [if_pos (wanted_none rfl _)]
      clear hp
      go_simp
      exact hK _ _ (Below.refl _ _) rfl
    · intro li xS W hB hs hno K hK
      have h3 : xS 3 = .map (some nb) := hs 3 (by decide)
      have h4 : xS 4 = .agg (kyC k) := hs 4 (by decide)
      have h5 : xS 5 = Value.int IntKind.i64 (x.sp.length : Int) := hs 5 (by decide)
      clear hs
      refine wp_mapPut _ _ _ rfl nb (x.sp.map Sp.key) k h3 h4 (by rw [List.length_map]; exact h5) (HM4.out.same (hB.block nb (HM4.out.lt))) HKI.out.1 (Pl.place_none HKI.out.2) (by rw [List.length_map]; omega) ?_
      intro w' h1 h2
      exact hK undef w' ⟨h1, W, hB, h2⟩
    rintro li xs5 W5 ⟨hM, hF⟩ -
    obtain ⟨Wm, hBm, hGm⟩ := hF
    obtain ⟨hL5, hS5⟩ := HL1.out.begun HA4.out.1 HA4.out.2 hBm hM hGm
    go_wp2_with fail
    go_ret
    exact ⟨rfl, _, _, _, hL5, HST1.out.trans hS5⟩
  | some nb =>
    go_upto_region 3 with fail
    have HL1 : Hid (LgS own W0 lb x q rv sv (some nb) us) := HS0
    have HST1 : Hid (Stp BgP own own w W0) := HST0
    have HK1 : Hid (W0.heap[kb]? = some (.cells (kyC k) 76 (0, 0)) ∧ own kb = none) := HK0
    clear HS0 HST0 HK0 c10 heq
    obtain ⟨W1, HW1⟩ : ∃ W, Hid (W0 = W) := ⟨_, rfl⟩
    rw [HW1.out] at HL1 HST1 HK1 ⊢
    clear HW1
    have hl1 := HL1.out
    obtain ⟨sa, sc, rfl⟩ := hl1.sp.form
    have c9 : W1.cell? ⟨lb, 9, none⟩ = some (.slice sa x.sp.length sc) := hl1.c8.2.1
    have hlt := lt_blk hl1.blk
    have hkt := lt_blk HK1.out.1
    clear hl1
    go_upto_region 4 with fail
    refine wp_region_turnsV (by kernel_rfl) (by kernel_rfl) [13, 14, 17] (by kernel_rfl) (by decide) (by decide) (fun xS => { tmps := (Value.pointer (some (⟨lb, 0, none⟩ : Addr)) :: Value.agg (kyC k) :: Value.int IntKind.i64 f :: undef :: Value.pointer (some (⟨kb, 0, none⟩ : Addr)) :: undef :: Value.int IntKind.i64 0 :: Value.int IntKind.i64 (x.sp.length : Int) :: Value.pointer (some (⟨lb, 0, none⟩ : Addr)) :: Value.pointer (some (⟨lb, 0, none⟩ : Addr)) :: Value.pointer (some (⟨lb, 10, none⟩ : Addr)) :: Value.map (some nb) :: Value.bool false :: undef :: undef :: undef :: undef :: Value.pointer (some (⟨lb, 0, none⟩ : Addr)) :: Value.pointer (some (⟨lb, 0, none⟩ : Addr)) :: Value.pointer (some (⟨lb, 9, none⟩ : Addr)) :: Value.slice sa x.sp.length sc :: Value.int IntKind.i64 (x.sp.length : Int) :: xS 0 :: xS 1 :: xS 2 :: xS 3 :: xS 4 :: xS 5 :: xS 6 :: xS 7 :: xS 8 :: xS 9 :: xS 10 :: xS 11 :: xS 12 :: xS 13 :: xS 14 :: xS 15 :: xS 16 :: undef :: undef :: undef :: undef :: undef :: undef :: undef :: []).toArray, defers := [] })
      (fun ii xx WW => match ii with | 0 => xx = Value.pointer (some (⟨lb, 0, none⟩ : Addr)) | 1 => xx = Value.pointer (some (⟨lb, 0, none⟩ : Addr)) | 2 => xx = Value.pointer (some (⟨lb, 0, none⟩ : Addr)) | 3 => xx = .pointer (some ⟨lb, 9, none⟩) | 4 => xx = .slice sa x.sp.length sc | 5 => xx = .pointer (some ⟨kb, 0, none⟩) | 6 => xx = .int .i64 k.1 | 7 => xx = .pointer (some ⟨kb, 1, none⟩) | 8 => xx = .int .i64 k.2.1 | 9 => xx = .pointer (some ⟨kb, 2, none⟩) | 10 => xx = .int .i64 k.2.2 | 11 => xx = Value.int IntKind.i64 f | 12 => xx = .agg (ssC (newS k f)) | 15 => xx = Value.pointer (some (⟨lb, 0, none⟩ : Addr)) | 16 => xx = .pointer (some ⟨lb, 9, none⟩) | _ => True) (ApS W1 lb 9 (.slice sa x.sp.length sc) (fun W v => OwnSs W 0 v (x.sp ++ [newS k f])) (ssC (newS k f)) 55) (fun | 0 => undef | 1 => undef | 2 => undef | 3 => undef | 4 => undef | 5 => undef | 6 => undef | 7 => undef | 8 => undef | 9 => undef | 10 => undef | 11 => undef | 12 => undef | 13 => undef | 14 => undef | 15 => undef | 16 => undef | _ => undef) (by repeat (first | exact trivial | refine ⟨fun _ _ => rfl, ?_⟩)) (fun _ _ _ _ _ h => h) (by intro i hi v W; simp only [List.mem_cons, List.mem_nil_iff, or_false] at hi; rcases hi with rfl | rfl | rfl <;> trivial) (fun s A B hB h => ApS.below (fun A B v hB h => h.below hB) s A B hB h) ((Below.refl _ _).drew) ⟨?_, ?_, ?_, ?_, ?_, ?_, ?_, ?_, ?_, ?_, ?_, ?_, ?_, ?_, ?_, ?_, ?_, ?_, trivial⟩ ?_
    · rw [if_neg (by decide)]
      intro s hs hmay xS W hS hp K hK
      rw [if_pos (wanted_none rfl _)]
      clear hp
      go_simp
      exact hK _ _ (Below.refl _ _) rfl
    · rw [if_neg (by decide)]
      intro s hs hmay xS W hS hp K hK
      rw [if_pos (wanted_none rfl _)]
      clear hp
      go_simp
      exact hK _ _ (Below.refl _ _) rfl
    · rw [if_neg (by decide)]
      intro s hs hmay xS W hS hp K hK
      rw [if_pos (wanted_none rfl _)]
      have h1 : xS 1 = Value.pointer (some (⟨lb, 0, none⟩ : Addr)) := hp.1 rfl
      clear hp
      simp only [h1] at hK ⊢
      clear h1
      go_simp
      exact hK _ _ (Below.refl _ _) rfl
    · rw [if_neg (by decide)]
      intro s hs hmay xS W hS hp K hK
      rw [if_pos (wanted_none rfl _)]
      have h2 : xS 2 = Value.pointer (some (⟨lb, 0, none⟩ : Addr)) := hp.1 rfl
      clear hp
      simp only [h2] at hK ⊢
      clear h2
      go_simp
      exact hK _ _ (Below.refl _ _) rfl
    · rw [if_neg (by decide)]
      intro s hs hmay xS W hS hp K hK
      rw [if_pos (wanted_none rfl _)]
      have h3 : xS 3 = .pointer (some ⟨lb, 9, none⟩) := hp.1 rfl
      clear hp
      have hle := stage_le (n := 1) hs hmay (by kernel_rfl)
      have hB : Below W1.heap.size W1 W := by
        rcases s with _ | _ | s
        · exact hS
        · exact hS.2
        · omega
      have hc := (hB.cell (p := ⟨lb, 9, none⟩) hlt).trans c9
      simp only [h3] at hK ⊢
      clear h3
      go_simp
      exact hK _ _ (Below.refl _ _) rfl
    · rw [if_neg (by decide)]
      intro s hs hmay xS W hS hp K hK
      rw [if_pos (wanted_none rfl _)]
      clear hp
      go_simp
      exact hK _ _ (Below.refl _ _) rfl
    · rw [if_neg (by decide)]
      intro s hs hmay xS W hS hp K hK
      rw [if_pos (wanted_none rfl _)]
      have hse := stage_of (s0 := 0) hs hmay (by kernel_rfl)
      subst hse
      replace hS : Below W1.heap.size W1 W := hS
      have h5 : xS 5 = .pointer (some ⟨kb, 0, none⟩) := hp.1 rfl
      clear hp
      have hB : Below W1.heap.size W1 W := hS
      have hc : W.cell? ⟨kb, 0, none⟩ = some (.int .i64 k.1) := cell_blk ((hB.block kb hkt).trans HK1.out.1) 0
      simp only [h5] at hK ⊢
      clear h5
      go_simp
      exact hK _ _ (Below.refl _ _) rfl
    · rw [if_neg (by decide)]
      intro s hs hmay xS W hS hp K hK
      rw [if_pos (wanted_none rfl _)]
      clear hp
      go_simp
      exact hK _ _ (Below.refl _ _) rfl
    · rw [if_neg (by decide)]
      intro s hs hmay xS W hS hp K hK
      rw [if_pos (wanted_none rfl _)]
      have hse := stage_of (s0 := 0) hs hmay (by kernel_rfl)
      subst hse
      replace hS : Below W1.heap.size W1 W := hS
      have h7 : xS 7 = .pointer (some ⟨kb, 1, none⟩) := hp.1 rfl
      clear hp
      have hB : Below W1.heap.size W1 W := hS
      have hc : W.cell? ⟨kb, 1, none⟩ = some (.int .i64 k.2.1) := cell_blk ((hB.block kb hkt).trans HK1.out.1) 1
      simp only [h7] at hK ⊢
      clear h7
      go_simp
      exact hK _ _ (Below.refl _ _) rfl
    · rw [if_neg (by decide)]
      intro s hs hmay xS W hS hp K hK
      rw [if_pos (wanted_none rfl _)]
      clear hp
      go_simp
      exact hK _ _ (Below.refl _ _) rfl
    · rw [if_neg (by decide)]
      intro s hs hmay xS W hS hp K hK
      rw [if_pos (wanted_none rfl _)]
      have hse := stage_of (s0 := 0) hs hmay (by kernel_rfl)
      subst hse
      replace hS : Below W1.heap.size W1 W := hS
      have h9 : xS 9 = .pointer (some ⟨kb, 2, none⟩) := hp.1 rfl
      clear hp
      have hB : Below W1.heap.size W1 W := hS
      have hc : W.cell? ⟨kb, 2, none⟩ = some (.int .i64 k.2.2) := cell_blk ((hB.block kb hkt).trans HK1.out.1) 2
      simp only [h9] at hK ⊢
      clear h9
      go_simp
      exact hK _ _ (Below.refl _ _) rfl
    · rw [if_neg (by decide)]
      intro s hs hmay xS W hS hp K hK
      rw [if_pos (wanted_none rfl _)]
      clear hp
      go_simp
      exact hK _ _ (Below.refl _ _) rfl
    · rw [if_neg (by decide)]
      intro s hs hmay xS W hS hp K hK
      rw [if_pos (wanted_none rfl _)]
      have h6 : xS 6 = .int .i64 k.1 := hp.1 rfl
      have h8 : xS 8 = .int .i64 k.2.1 := hp.2.1 rfl
      have h10 : xS 10 = .int .i64 k.2.2 := hp.2.2.1 rfl
      have h11 : xS 11 = Value.int IntKind.i64 f := hp.2.2.2.1 rfl
      clear hp
      simp only [h6, h8, h10, h11] at hK ⊢
      refine wp_build_to 55 _ rfl (ssC (newS k f)) (by kernel_rfl) ?_
      exact hK _ _ (Below.refl _ _) rfl
    · rw [if_pos (by decide)]
      refine ⟨rfl, ?_⟩
      intro xS W hS hw K hK
      have h12 : xS 12 = .agg (ssC (newS k f)) := hw 12 (by kernel_rfl)
      replace hS : Below W1.heap.size W1 W := hS
      clear hw
      have hB : Below W1.heap.size W1 W := hS
      refine wp_rowSs _ rfl (newS k f) h12 ?_
      exact hK _ _ ⟨⟨_, rfl, hB.size, alloc_blk _ _⟩, hB.trans ((below_alloc _ _).mono hB.size)⟩ (fun j y hj => hj)
    · rw [if_pos (by decide)]
      refine ⟨rfl, ?_⟩
      intro xS W hS hw K hK
      have h4 : xS 4 = .slice sa x.sp.length sc := hw 4 (by kernel_rfl)
      clear hw
      obtain ⟨⟨g, h13g, hgl, hgc⟩, hB⟩ := hS
      refine wp_appSs _ _ rfl 0 (.slice sa x.sp.length sc) x.sp h4 g (newS k f) h13g (HL1.out.sp.below hB) 55 hgc (ssC_one _) (by omega) (Nat.zero_le _) ?_
      intro v' w' hv hG
      exact hK _ _ (hG.apA hB hv) (fun j y hj => hj)
    · rw [if_neg (by decide)]
      intro s hs hmay xS W hS hp K hK
      rw [if_pos (wanted_none rfl _)]
      have h0 : xS 0 = Value.pointer (some (⟨lb, 0, none⟩ : Addr)) := hp.1 rfl
      clear hp
      simp only [h0] at hK ⊢
      clear h0
      go_simp
      exact hK _ _ (Below.refl _ _) rfl
    · rw [if_neg (by decide)]
      intro s hs hmay xS W hS hp K hK
      rw [if_pos (wanted_none rfl _)]
      have h15 : xS 15 = Value.pointer (some (⟨lb, 0, none⟩ : Addr)) := hp.1 rfl
      clear hp
      simp only [h15] at hK ⊢
      clear h15
      go_simp
      exact hK _ _ (Below.refl _ _) rfl
    · rw [if_pos (by decide)]
      refine ⟨rfl, ?_⟩
      intro xS W hS hw K hK
      have h16 : xS 16 = .pointer (some ⟨lb, 9, none⟩) := hw 16 (by kernel_rfl)
      clear hw
      replace hS : ApA W1 W (.slice sa x.sp.length sc) (xS 14) (fun W v => OwnSs W 0 v (x.sp ++ [newS k f])) := hS
      obtain ⟨va, vn, vc, e14⟩ : ∃ a n c, xS 14 = .slice a n c := by obtain ⟨a, c, e⟩ := hS.r.form; exact ⟨a, _, c, e⟩
      have hsb : (Value.slice sa x.sp.length sc).ownBlock ≠ some lb := fun e => by have := HL1.out.ls lb e; rw [HL1.out.ll] at this; cases this
      have hbW := (hS.block lb hlt hsb).trans HL1.out.blk
      have hc9 : W.cell? ⟨lb, 9, none⟩ = some (.slice sa x.sp.length sc) := by rw [cell_blk hbW, ← cell_blk HL1.out.blk]; exact c9
      have hf9 := frozen_blk hbW 9
      simp only [h16, e14] at hK ⊢
      clear h16
      go_simp
      simp only [← e14] at hK ⊢
      exact hK undef _ ⟨W, hS, Below.refl _ _⟩ (fun j y hj => hj)
    rintro xs0 W4 hS -
    obtain ⟨W', hA, hB4⟩ := hS
    obtain ⟨v, Hv⟩ : ∃ v, Hid (xs0 14 = v) := ⟨_, rfl⟩
    rw [Hv.out] at hA hB4
    have hsb : (Value.slice sa x.sp.length sc).ownBlock ≠ some lb := fun e => by have := HL1.out.ls lb e; rw [HL1.out.ll] at this; cases this
    have hsk : (Value.slice sa x.sp.length sc).ownBlock ≠ some kb := fun e => by have := HL1.out.ls kb e; rw [HK1.out.2] at this; cases this
    have hsn : (Value.slice sa x.sp.length sc).ownBlock ≠ some nb := fun e => by have := HL1.out.ls nb e; rw [HL1.out.mp.2] at this; cases this
    have hln : nb ≠ lb := fun e => by have := HL1.out.mp.2; rw [e, HL1.out.ll] at this; cases this
    have hlk : kb ≠ lb := fun e => by have := HK1.out.2; rw [e, HL1.out.ll] at this; cases this
    have hnlt := HL1.out.mp.1.lt
    have hz : ∀ b, b < W1.heap.size → b ≠ lb → (Value.slice sa x.sp.length sc).ownBlock ≠ some b → W4.heap[b]? = W1.heap[b]? := fun b h1 h2 h3 => ((hB4.block b (Nat.lt_of_lt_of_le h1 hA.size)).trans (Below.heap_setCell _ _ _ b h2)).trans (hA.block b h1 h3)
    have hsz4 : W1.heap.size ≤ W4.heap.size := Nat.le_trans hA.size (by have := hB4.size; simpa [World.setCell] using this)
    have hlb4 : W4.heap[lb]? = some (.cells (lgC q rv v (some nb)) 68 (0, 0)) := by
      rw [hB4.block lb (Nat.lt_of_lt_of_le hlt hA.size), ← lgC_set9 HL1.out.ql rv (Value.slice sa x.sp.length sc) v (some nb)]
      exact set_blk ((hA.block lb hlt hsb).trans HL1.out.blk) 9 _
    have c10 : W4.cell? ⟨lb, 10, none⟩ = some (.map (some nb)) := by
      rw [cell_blk hlb4]; unfold lgC; rw [List.getElem?_toArray, List.getElem?_append_right (by simp [HL1.out.ql]), List.length_map, HL1.out.ql]; rfl
    have HM4 : Hid (MapP W4 nb (x.sp.map Sp.key)) := HL1.out.mp.1.same (hz nb hnlt hln hsn)
    have HK4 : Hid (W4.heap[kb]? = some (.cells (kyC k) 76 (0, 0))) := (hz kb hkt hlk hsk).trans HK1.out.1
    have HA4 : Hid (ApA W1 W' (Value.slice sa x.sp.length sc) v (fun W v => OwnSs W 0 v (x.sp ++ [newS k f])) ∧ Below W'.heap.size (W'.setCell ⟨lb, 9, none⟩ v) W4) := ⟨hA, hB4⟩
    have hlt4 := lt_blk hlb4
    have hkt4 := lt_blk HK4.out
    clear hA hB4 hsb hsk hsn hln hlk hnlt hz hlb4 c9
    go_upto_region 5 with fail
    refine wp_region_pivot (by kernel_rfl) (by kernel_rfl) 6 (by decide) (by kernel_rfl) (by kernel_rfl) (fun xS => { tmps := (Value.pointer (some (⟨lb, 0, none⟩ : Addr)) :: Value.agg (kyC k) :: Value.int IntKind.i64 f :: undef :: Value.pointer (some (⟨kb, 0, none⟩ : Addr)) :: undef :: Value.int IntKind.i64 0 :: Value.int IntKind.i64 (x.sp.length : Int) :: Value.pointer (some (⟨lb, 0, none⟩ : Addr)) :: Value.pointer (some (⟨lb, 0, none⟩ : Addr)) :: Value.pointer (some (⟨lb, 10, none⟩ : Addr)) :: Value.map (some nb) :: Value.bool false :: undef :: undef :: undef :: undef :: Value.pointer (some (⟨lb, 0, none⟩ : Addr)) :: Value.pointer (some (⟨lb, 0, none⟩ : Addr)) :: Value.pointer (some (⟨lb, 9, none⟩ : Addr)) :: Value.slice sa x.sp.length sc :: Value.int IntKind.i64 (x.sp.length : Int) :: xs0 0 :: xs0 1 :: xs0 2 :: xs0 3 :: xs0 4 :: xs0 5 :: xs0 6 :: xs0 7 :: xs0 8 :: xs0 9 :: xs0 10 :: xs0 11 :: xs0 12 :: xs0 13 :: xs0 14 :: xs0 15 :: xs0 16 :: xS 0 :: xS 1 :: xS 2 :: xS 3 :: xS 4 :: xS 5 :: undef :: []).toArray, defers := [] })
      (fun ii xx WW => match ii with | 0 => xx = Value.pointer (some (⟨lb, 0, none⟩ : Addr)) | 1 => xx = Value.pointer (some (⟨lb, 0, none⟩ : Addr)) | 2 => xx = .pointer (some ⟨lb, 10, none⟩) | 3 => xx = .map (some nb) | 4 => xx = .agg (kyC k) | 5 => xx = Value.int IntKind.i64 (x.sp.length : Int) | _ => True) (fun li xS W => MapP W nb (x.sp.map Sp.key ++ [k]) ∧ ∃ Wm, Below W4.heap.size W4 Wm ∧ Wm.grownBy W (some nb)) (fun | 0 => undef | 1 => undef | 2 => undef | 3 => undef | 4 => undef | 5 => undef | _ => undef) (by repeat (first | exact trivial | refine ⟨fun _ _ => rfl, ?_⟩)) (fun _ _ _ _ _ h => h) ⟨?_, ?_, ?_, ?_, ?_, ?_, ⟨rfl, ?_⟩, trivial⟩ ?_
    · intro xS W hB hp K hK
      rw [if_pos (wanted_none rfl _)]
      clear hp
      go_simp
      exact hK _ _ (Below.refl _ _) rfl
    · intro xS W hB hp K hK
      rw [if_pos (wanted_none rfl _)]
      have h0 : xS 0 = Value.pointer (some (⟨lb, 0, none⟩ : Addr)) := hp.1 rfl
      clear hp
      simp only [h0] at hK ⊢
      clear h0
      go_simp
      exact hK _ _ (Below.refl _ _) rfl
    · intro xS W hB hp K hK
      rw [if_pos (wanted_none rfl _)]
      have h1 : xS 1 = Value.pointer (some (⟨lb, 0, none⟩ : Addr)) := hp.1 rfl
      clear hp
      simp only [h1] at hK ⊢
      clear h1
      go_simp
      exact hK _ _ (Below.refl _ _) rfl
    · intro xS W hB hp K hK
      rw [if_pos (wanted_none rfl _)]
      have h2 : xS 2 = .pointer (some ⟨lb, 10, none⟩) := hp.1 rfl
      clear hp
      have hc := (hB.cell (p := ⟨lb, 10, none⟩) hlt4).trans c10
      simp only [h2] at hK ⊢
      clear h2
      go_simp
      exact hK _ _ (Below.refl _ _) rfl
    · intro xS W hB hp K hK
      rw [if_pos (wanted_none rfl _)]
      clear hp
      refine wp_load_agg 76 (by kernel_rfl) _ rfl kb (kyC k) 76 (0, 0) ?_ ((hB.block kb hkt4).trans HK4.out) (by kernel_rfl) ?_
      · rfl
      exact hK _ _ (Below.refl _ _) rfl
    · intro xS W hB hp K hK
      rw [if_pos (wanted_none rfl _)]
      clear hp
      go_simp
      exact hK _ _ (Below.refl _ _) rfl
    · intro li xS W hB hs hno K hK
      have h3 : xS 3 = .map (some nb) := hs 3 (by decide)
      have h4 : xS 4 = .agg (kyC k) := hs 4 (by decide)
      have h5 : xS 5 = Value.int IntKind.i64 (x.sp.length : Int) := hs 5 (by decide)
      clear hs
      refine wp_mapPut _ _ _ rfl nb (x.sp.map Sp.key) k h3 h4 (by rw [List.length_map]; exact h5) (HM4.out.same (hB.block nb (HM4.out.lt))) HKI.out.1 (Pl.place_none HKI.out.2) (by rw [List.length_map]; omega) ?_
      intro w' h1 h2
      exact hK undef w' ⟨h1, W, hB, h2⟩
    rintro li xs5 W5 ⟨hM, hF⟩ -
    obtain ⟨Wm, hBm, hGm⟩ := hF
    obtain ⟨hL5, hS5⟩ := HL1.out.begun HA4.out.1 HA4.out.2 hBm hM hGm
    go_wp2_with fail
    go_ret
    exact ⟨rfl, _, _, _, hL5, HST1.out.trans hS5⟩
end Go.Proofs.Ytjinhahfpkcilaa
