/- The law's known script. -/
import Derived.Test.YtjinhahfpkcilaaPlV
namespace Go.Proofs.Ytjinhahfpkcilaa
open Go.RowKit Go.Dig Go.Inv Go.Oct
set_option linter.unusedVariables false
set_option linter.unusedSimpArgs false

def kr1 : Rc := ⟨0, 0, 1, 0, []⟩
def kr2 : Rc := ⟨0, 0, 1, 1, []⟩
def kws (of : List Int) : List (Option Wt) := [some ⟨0, of⟩, .none, .none, .none, .none, .none, .none, .none]
def kx1 : Pl := ⟨kws [], [], []⟩
def kx2 : Pl := ⟨kws [0], [kr1], [⟨0, 0, 1, 0, 0⟩]⟩
def kx3 : Pl := ⟨kws [0, 1], [kr1, kr2], [⟨0, 0, 1, 0, 0⟩]⟩
def kx4 : Pl := ⟨kws [0, 1], [kr1, kr2], [⟨0, 0, 1, 0, 2⟩]⟩
theorem kx_learn : Pl.none.learn 0 0 = (0, kx1) := rfl
theorem kx_a1 : kx1.append kr1 = (0, 0, kx2) := rfl
theorem kx_a2 : kx2.append kr2 = (1, 0, kx3) := rfl
theorem kx_fin : kx3.fin 0 0 1 true = (0, kx4) := rfl
theorem kx_s3 : kx3.stable = 0 := rfl
theorem kx_s4 : kx4.stable = 2 := rfl
theorem kws_at {of : List Int} {p : Nat} {w : Wt} (h : (kws of)[p]? = some (some w)) : w = ⟨0, of⟩ := by
  unfold kws at h
  match p with
  | 0 => simpa using h.symm
  | 1 | 2 | 3 | 4 | 5 | 6 | 7 => simp at h
  | n + 8 => simp at h
theorem kx1_ok : kx1.Ok := ⟨rfl, fun p w h => by cases kws_at h; exact ⟨by decide, by decide, by decide, by decide⟩, by decide, by decide, by decide⟩
theorem kx2_ok : kx2.Ok := ⟨rfl, fun p w h => by cases kws_at h; exact ⟨by decide, by decide, by decide, by decide⟩, by decide, by decide, by decide⟩
theorem kx3_ok : kx3.Ok := ⟨rfl, fun p w h => by cases kws_at h; exact ⟨by decide, by decide, by decide, by decide⟩, by decide, by decide, by decide⟩
theorem kx4_ok : kx4.Ok := ⟨rfl, fun p w h => by cases kws_at h; exact ⟨by decide, by decide, by decide, by decide⟩, by decide, by decide, by decide⟩
theorem rcIn_nil (w : World) {r : Rc} (h : r.v = []) : RcIn w r none 0 := ⟨by rw [h]; exact .inl ⟨rfl, rfl, rfl⟩, by rw [h]; exact Nat.le_refl _, by rw [h]; intro x hx; cases hx⟩
/-- nothing of what lay at the start is turned -/
def KI (w : World) (own : Own) (W : World) : Prop := Below w.heap.size w W ∧ Over w.heap.size own
theorem KI.step {w W W' : World} {own own' : Own} {P : Lb → Prop} (h : KI w own W) (hs : Stp P own own' W W') : KI w own' W' :=
  ⟨h.1.trans (Over.below h.2 hs h.1.size), h.2.step hs h.1.size⟩
theorem KI.below {w W W' : World} {own : Own} (h : KI w own W) (hB : Below W.heap.size W W') : KI w own W' := ⟨h.1.trans (hB.mono h.1.size), h.2⟩
set_option maxRecDepth 100000 in
set_option maxHeartbeats 4000000 in
theorem known11_any (w : World) : Calls Try.prog 14 #[] w fun e w' => e = .returned (.bool true) ∧ Below w.heap.size w w' := by
  have hN := New_at w
  go_enter Try.func14, Try.ntmps14
  go_wp2_with (first
    | (go_at_call 10; refine hN.mono ?_; clear hN; rintro e w1 ⟨own1, rfl, hG1, hO1, hB1⟩
       have hL := Learn_at own1 w1 w.heap.size Pl.none hG1 0 0; rw [kx_learn] at hL
       have HK1 : Hid (KI w own1 w1) := ⟨hB1, hO1⟩; clear hG1 hO1 hB1)
    | (go_at_call 24; refine hL.mono ?_; clear hL; rintro e w2 ⟨rfl, own2, hG2, hS2⟩
       have HK2 : Hid (KI w own2 w2) := HK1.out.step hS2
       have hA1 := Append_at own2 w2 w.heap.size kx1 hG2 kr1 none 0 (rcIn_nil _ rfl) kx1_ok (by intro q hq; cases hq) (by decide); rw [kx_a1] at hA1
       clear HK1 hG2 hS2)
    | (have _ := hA1; refine wpList_build_to rfl 32 _ rfl (rrC (kr1, .slice none 0 0)) (by kernel_rfl) ?_)
    | (go_at_call 20; refine hA1.mono ?_; clear hA1; rintro e w3 ⟨rfl, own3, hG3, hS3⟩
       have HK3 : Hid (KI w own3 w3) := HK2.out.step hS3
       have hA2 := Append_at own3 w3 w.heap.size kx2 hG3 kr2 none 0 (rcIn_nil _ rfl) kx2_ok (by intro q hq; obtain rfl := List.mem_singleton.1 hq; intro y hy; cases hy) (by decide); rw [kx_a2] at hA2
       clear HK2 hG3 hS3)
    | (have _ := hA2; refine wpList_build_to rfl 32 _ rfl (rrC (kr2, .slice none 0 0)) (by kernel_rfl) ?_)
    | (go_at_call 20; refine hA2.mono ?_; clear hA2; rintro e w4 ⟨rfl, own4, hG4, hS4⟩
       have HK4 : Hid (KI w own4 w4) := HK3.out.step hS4
       have HG4 : Hid (LogAt own4 w4 w.heap.size kx3) := hG4
       have hT1 := Stable_at own4 w4 w.heap.size kx3 hG4 kx3_ok (by decide); rw [kx_s3] at hT1
       clear HK3 hG4 hS4)
    | (go_at_call 16; refine hT1.mono ?_; clear hT1; rintro e w5 ⟨rfl, hB5⟩
       have HK5 : Hid (KI w own4 w5) := HK4.out.below hB5
       have hE := End_at own4 w5 w.heap.size kx3 (HG4.out.below hB5) 0 0 1 true (by decide); rw [kx_fin] at hE
       clear HK4 HG4 hB5)
    | (go_at_call 22; refine hE.mono ?_; clear hE; rintro e w6 ⟨rfl, own6, hG6, hS6⟩
       have HK6 : Hid (KI w own6 w6) := HK5.out.step hS6
       have hT2 := Stable_at own6 w6 w.heap.size kx4 hG6 kx4_ok (by decide); rw [kx_s4] at hT2
       clear HK5 hG6 hS6)
    | (refine wanted_do rfl fun _ _ => ?_)
    | (go_at_call 16; refine hT2.mono ?_; clear hT2; rintro e w7 ⟨rfl, hB7⟩
       have HK7 : Hid (KI w own6 w7) := HK6.out.below hB7
       clear HK6 hB7))
  go_ret
  exact ⟨rfl, HK7.out.1⟩
end Go.Proofs.Ytjinhahfpkcilaa
