/- An epoch is learned. -/
import Derived.Test.YtjinhahfpkcilaaPlN
namespace Go.Proofs.Ytjinhahfpkcilaa
open Go.RowKit Go.Dig Go.Inv Go.Oct
set_option linter.unusedVariables false
set_option linter.unusedSimpArgs false

theorem lgC_setq {q : List (Option Nat)} (hq : q.length = 8) (rv sv : Value) (mb : Option Nat) (n nb : Nat) (hn : n < 8) : (lgC q rv sv mb).setIfInBounds n (.pointer (some ⟨nb, 0, none⟩)) = lgC (q.set n (some nb)) rv sv mb := by
  match q, hq with
  | [a, b, c, d, e, f, g, h], _ =>
    match n, hn with
    | 0, _ => rfl
    | 1, _ => rfl
    | 2, _ => rfl
    | 3, _ => rfl
    | 4, _ => rfl
    | 5, _ => rfl
    | 6, _ => rfl
    | 7, _ => rfl
/-- a new writer -/
theorem LgS.learned {own : Own} {w : World} {lb n : Nat} {x : Pl} {q : List (Option Nat)} {rv sv : Value} {mb : Option Nat} {us : List Value} (h : LgS own w lb x q rv sv mb us) (hn : n < 8) (e : Int) :
    LgS (own.put w.heap.size (.wr n)) ((w.alloc (.cells #[.int .i64 e, .slice none 0 0] 83)).setCell ⟨lb, n, none⟩ (.pointer (some ⟨w.heap.size, 0, none⟩))) lb ⟨x.ws.set n (some ⟨e, []⟩), x.rs, x.sp⟩ (q.set n (some w.heap.size)) rv sv mb us ∧
      Stp (fun _ => True) own (own.put w.heap.size (.wr n)) w ((w.alloc (.cells #[.int .i64 e, .slice none 0 0] 83)).setCell ⟨lb, n, none⟩ (.pointer (some ⟨w.heap.size, 0, none⟩))) := by
  have hf := h.owned.fresh (Nat.le_refl _)
  have hx : Ext own (own.put w.heap.size (.wr n)) := Own.put_ext hf
  have hB := below_alloc w (.cells #[.int .i64 e, .slice none 0 0] 83)
  have hs : w.heap.size < (w.alloc (.cells #[.int .i64 e, .slice none 0 0] 83)).heap.size := by simp
  have h1 : Stp (fun _ => True) own (own.put w.heap.size (.wr n)) w (w.alloc (.cells #[.int .i64 e, .slice none 0 0] 83)) := Stp.alloc hB (Nat.le_refl _) hs h.owned
  have h2 : Stp (fun _ => True) (own.put w.heap.size (.wr n)) (own.put w.heap.size (.wr n)) (w.alloc (.cells #[.int .i64 e, .slice none 0 0] 83)) _ := Stp.cell (l := .lg) n (.pointer (some ⟨w.heap.size, 0, none⟩)) (hx lb _ h.ll) trivial h1.new
  have hS := h1.trans h2
  have hlt := lt_blk h.blk
  have hne : w.heap.size ≠ lb := by omega
  have hb : ∀ k l, own k = some l → l ≠ .lg → ((w.alloc (.cells #[.int .i64 e, .slice none 0 0] 83)).setCell ⟨lb, n, none⟩ (.pointer (some ⟨w.heap.size, 0, none⟩))).heap[k]? = w.heap[k]? := fun k l hk hl =>
    (Below.heap_setCell _ _ _ k fun e => hl (by rw [e, h.ll] at hk; exact (Option.some.inj hk).symm)).trans (hB.block k (h.owned k l hk))
  refine ⟨⟨hS.new, ?_, hx lb _ h.ll, by rw [List.length_set]; exact h.ql, by rw [List.length_set]; exact h.wl, fun i b t h1 h2 => ?_, h.rs.same fun k hk => hb k _ (h.lr k hk) (by simp), h.ul, fun k hk => hx k _ (h.lr k hk),
   fun i r u h1 h2 => (h.vl i r u h1 h2).keep hx fun k hk => hb k _ hk (by simp), h.sp.same fun k hk => hb k _ (h.ls k hk) (by simp), fun k hk => hx k _ (h.ls k hk), h.mp.keep hx fun k hk => hb k _ hk (by simp)⟩, hS⟩
  · rw [← lgC_setq h.ql rv sv mb n w.heap.size hn]
    exact set_blk (alloc_blk_old h.blk _) n _
  · by_cases hi : i = n
    · subst hi
      rw [List.getElem?_set_self (by rw [h.ql]; exact hn)] at h1
      rw [List.getElem?_set_self (by rw [h.wl]; exact hn)] at h2
      cases h1; cases h2
      exact ⟨_, (Below.heap_setCell _ _ _ _ hne).trans (alloc_blk _ _), Own.put_same _ _ _, OwnNn.nil _ _, fun k hk => by cases hk⟩
    · rw [List.getElem?_set_ne (Ne.symm hi)] at h1 h2
      exact (h.wr i b t h1 h2).keep hx fun k hk => hk.elim (fun e => hb k _ e (by simp)) (fun e => hb k _ e (by simp))
def learnX (x : Pl) (n : Nat) (e : Int) : Option Wt → Pl
  | some w => if w.ep < e then ⟨x.ws.set n (some ⟨e, []⟩), x.rs, x.sp⟩ else x
  | none => ⟨x.ws.set n (some ⟨e, []⟩), x.rs, x.sp⟩
theorem Learn_nil (p e : Int) (w : World) : Calls Try.prog 24 #[.pointer none, .int .i64 p, .int .i64 e] w fun e w' => e = .returned (.int .i64 1) ∧ w' = w := by
  go_enter Try.func24, Try.ntmps24
  go_wp2_with fail
  go_ret
  exact ⟨rfl, rfl⟩
set_option maxRecDepth 10000 in
set_option maxHeartbeats 4000000 in
theorem Learn_at (own : Own) (w : World) (lb : Nat) (x : Pl) (h : LogAt own w lb x) (p e : Int) : Calls Try.prog 24 #[.pointer (some ⟨lb, 0, none⟩), .int .i64 p, .int .i64 e] w fun r w' => r = .returned (.int .i64 (x.learn p e).1) ∧ ∃ own', LogAt own' w' lb (x.learn p e).2 ∧ Stp (fun _ => True) own own' w w' := by
  obtain ⟨q, rv, sv, mb, us, h⟩ := h
  have hw := mayWrite_any p e w
  cases hok : okW p e
  · rw [hok] at hw
    have HE : Hid (x.learn p e = (1, x)) := by show x.learn p e = (1, x); unfold Pl.learn; rw [hok]; rfl
    have HL : Hid (LgS own w lb x q rv sv mb us) := h
    clear h hok
    go_enter Try.func24, Try.ntmps24
    go_wp2_with (first | (go_at_call 42; refine hw.mono ?_; rintro e w1 ⟨rfl, rfl⟩) | (refine wanted_do rfl fun _ _ => ?_))
    go_ret
    exact ⟨by rw [HE.out]; rfl, own, by rw [HE.out]; exact ⟨_, _, _, _, _, HL.out⟩, Stp.refl HL.out.owned⟩
  · rw [hok] at hw
    have hpe := hok
    simp [okW] at hpe
    obtain ⟨n, rfl⟩ : ∃ n : Nat, p = (n : Int) := ⟨p.toNat, by omega⟩
    obtain ⟨b, t, hq, ht, hc, hW⟩ := h.c (n := n) (by omega)
    have hn8 : (n : Int) < 8 := by omega
    have hf : w.frozen? ⟨lb, n, none⟩ = false := frozen_blk h.blk n
    have HLE := h.learned (n := n) (by omega) e
    have HL : Hid (LgS own w lb x q rv sv mb us) := h
    have HLN : Hid (LgS (own.put w.heap.size (.wr n)) ((w.alloc (.cells #[.int .i64 e, .slice none 0 0] 83)).setCell ⟨lb, n, none⟩ (.pointer (some ⟨w.heap.size, 0, none⟩))) lb ⟨x.ws.set n (some ⟨e, []⟩), x.rs, x.sp⟩ (q.set n (some w.heap.size)) rv sv mb us ∧
      Stp (fun _ => True) own (own.put w.heap.size (.wr n)) w ((w.alloc (.cells #[.int .i64 e, .slice none 0 0] 83)).setCell ⟨lb, n, none⟩ (.pointer (some ⟨w.heap.size, 0, none⟩)))) := HLE
    have hA := alloc_blk_old h.blk (.cells #[.int .i64 e, .slice none 0 0] 83)
    have cA : (w.alloc (.cells #[.int .i64 e, .slice none 0 0] 83)).cell? ⟨lb, n, none⟩ = some (.pointer (b.map fun k => ⟨k, 0, none⟩)) := by rw [cell_blk hA, ← cell_blk h.blk]; exact hc
    have fA : (w.alloc (.cells #[.int .i64 e, .slice none 0 0] 83)).frozen? ⟨lb, n, none⟩ = false := frozen_blk hA n
    have hwr := Pl.wr_at ht
    have HX : Hid (x.learn (n : Int) e = (0, learnX x n e t)) := by
      show x.learn (n : Int) e = _
      unfold Pl.learn
      rw [if_pos hok, hwr, Int.toNat_natCast]
      cases t <;> rfl
    clear h hok HLE hA hwr hpe hq ht
    match b, t, hW with
    | none, none, _ =>
      go_enter Try.func24, Try.ntmps24
      go_wp2_with (first | (go_at_call 42; refine hw.mono ?_; rintro e w1 ⟨rfl, rfl⟩) | (refine wpList_build_to rfl 83 _ rfl #[.int .i64 e, .slice none 0 0] (by kernel_rfl) ?_) | (refine wpList_box_row rfl 83 _ rfl #[.int .i64 e, .slice none 0 0] ?_ ?_; rfl) | (refine wanted_do rfl fun _ _ => ?_))
      go_ret
      exact ⟨by rw [HX.out]; rfl, _, by rw [HX.out]; exact ⟨_, _, _, _, _, HLN.out.1⟩, HLN.out.2⟩
    | some k, some t, ⟨v, h1, _, _, _⟩ =>
      have c0 : w.cell? ⟨k, 0, none⟩ = some (.int .i64 t.ep) := cell_blk h1 0
      clear h1
      replace HX : Hid (x.learn (n : Int) e = (0, if t.ep < e then ⟨x.ws.set n (some ⟨e, []⟩), x.rs, x.sp⟩ else x)) := HX
      by_cases hlt : t.ep < e
      · rw [if_pos hlt] at HX
        go_enter Try.func24, Try.ntmps24
        go_wp2_with (first | (go_at_call 42; refine hw.mono ?_; rintro e w1 ⟨rfl, rfl⟩) | (refine wpList_build_to rfl 83 _ rfl #[.int .i64 e, .slice none 0 0] (by kernel_rfl) ?_) | (refine wpList_box_row rfl 83 _ rfl #[.int .i64 e, .slice none 0 0] ?_ ?_; rfl) | (refine wanted_do rfl fun _ _ => ?_))
        go_ret
        exact ⟨by rw [HX.out]; rfl, _, by rw [HX.out]; exact ⟨_, _, _, _, _, HLN.out.1⟩, HLN.out.2⟩
      · rw [if_neg hlt] at HX
        go_enter Try.func24, Try.ntmps24
        go_wp2_with (first | (go_at_call 42; refine hw.mono ?_; rintro e w1 ⟨rfl, rfl⟩) | (refine wanted_do rfl fun _ _ => ?_))
        go_ret
        exact ⟨by rw [HX.out]; rfl, own, by rw [HX.out]; exact ⟨_, _, _, _, _, HL.out⟩, Stp.refl HL.out.owned⟩
    | none, some _, hW => exact hW.elim
    | some _, none, hW => exact hW.elim
end Go.Proofs.Ytjinhahfpkcilaa
