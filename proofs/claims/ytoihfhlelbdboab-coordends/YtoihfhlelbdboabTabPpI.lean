/- Keys; the sequences that From and All hand back; rows. For tables of up to 100000 entries. -/
import Derived.Test.YtoihfhlelbdboabTabPpG
namespace Go.Proofs.Ytoihfhlelbdboab.Pp
open Go.Proofs Go.RowKit Go.Hold Go.Inv Go.Shelf

attribute [local go_sem] Oper.semAt_some

theorem kept_of_below {P : Nat → Prop} {n : Nat} {A B : World} (hP : ∀ b, P b → b < n) (h : Below n A B) : Kept P A B := fun b hb => h.block b (hP b hb)
theorem TabP.open {w : World} {p : Option Addr} {ls : List (Int × (Option Addr))} (h : TabP w p ls) : ∃ q t, Root w p q ∧ T w q t ∧ t.toL = ls ∧ Rises ls ∧ Lo ls := by
  rcases h with ⟨rfl, rfl⟩ | ⟨bt, rfl, q, t, hb, hT, hl, hr⟩
  · exact ⟨none, .nil, .inl ⟨rfl, rfl⟩, rfl, rfl, Rises.nil, fun _ h => (by cases h)⟩
  · exact ⟨q, t, .inr ⟨bt, rfl, hb⟩, hT, hl, hr⟩

/-- Ranging from a key on, of entries of which A holds: so each is told that the one who is told knows A of it. -/
theorem from_stopsA (A : Int × (Option Addr) → Prop) (P : Nat → Prop) (p q : Option Addr) (t : BT (Option Addr)) (f : Int) (Bt Bf : Nat) (w : World) (hroot : Root w p q) (hT : InT P w q t) (hr : Rises t.toL) (hall : ∀ x ∈ fromL f t.toL, A x) (bT : Boxed w Bt 48 (.pointer p)) (bF : Boxed w Bf 3 (.int .i64 f))
    (hPw : ∀ b, P b → b < w.heap.size) (n : Nat) :
    SeqStopsK Fence.wide n Try.prog 82 #[.pointer (some ⟨Bt, 0, none⟩), .pointer (some ⟨Bf, 0, none⟩)] (fun x : { x : Int × (Option Addr) // A x } => #[Value.int .i64 x.1.1, (Value.pointer x.1.2)]) (Kept P) (fun ys => ys.map (·.1) = fromL f t.toL) (fun pre => pre.map (·.1) <+: fromL f t.toL) (fromL f t.toL).length w := by
  rw [← tellT_eq f t hr] at hall ⊢
  intro l J Jx W hW hJ _ hY h0
  refine (from1_in A n l _ P (fun pre W => ∃ pre' : List { x : Int × (Option Addr) // A x }, pre'.map (·.1) = pre ∧ J pre' W) (fun pre W => ∃ pre' : List { x : Int × (Option Addr) // A x }, pre'.map (·.1) = pre ∧ Jx pre' W) f p q t Bt Bf (fun pre x W1 ha ⟨pre', e, hj⟩ hl => ?_)
    (fun pre W ⟨pre', e, h⟩ => ⟨pre', e, hJ pre' W W.drew none h ⟨rfl, rfl, rfl, Nat.le_refl _, fun _ _ _ => rfl⟩ (fun r e => (by cases e))⟩) W (bT.grow hW).cell (bF.grow hW).cell (hroot.grow hW)
    (InT.kept (kept_of_below hPw hW) hT) (Nat.le_refl _) hall ⟨[], rfl, h0⟩).mono ?_
  · obtain ⟨fn, tmps, assign, body, hy, hR⟩ := hY pre' ⟨x, ha⟩ W1 hj (by rw [← e] at hl; simpa using hl)
    refine ⟨fn, tmps, assign, body, hy, hR.mono ?_⟩
    rintro e' W' (⟨rfl, h1, h2⟩ | ⟨rfl, h1⟩)
    · exact .inl ⟨rfl, ⟨pre' ++ [⟨x, ha⟩], by rw [List.map_append, e]; rfl, h1⟩, h2⟩
    · exact .inr ⟨rfl, pre' ++ [⟨x, ha⟩], by rw [List.map_append, e]; rfl, h1⟩
  · rintro e' W' ⟨hv, (⟨ys, rfl, pre', e, h1⟩ | ⟨pre, hp, pre', e, h1⟩)⟩
    · exact ⟨hv, .inl ⟨pre', e, h1⟩⟩
    · exact ⟨hv, .inr ⟨pre', by show List.map _ pre' <+: _; rw [e]; exact hp, h1⟩⟩

end Go.Proofs.Ytoihfhlelbdboab.Pp
