/- digest's add: bytes come to a summing, block by block. For every row of bytes, up to 2^40 bytes in all. -/
import Derived.Test.YticpkpphjpgdbaaDigB
namespace Go.Proofs.Yticpkpphjpgdbaa
open Go.RowKit Go.Dig Go.Sha

/-- the bytes P lie at ao, outside block g -/
def Bytes (w : World) (g : Nat) (ao : Option Addr) (P : List Int) : Prop :=
  P ≠ [] → ∃ b o, ao = some ⟨b, o, none⟩ ∧ b ≠ g ∧ ∀ j, j < P.length → w.cell? ⟨b, o + j, none⟩ = some (.int .u8 (P.getD j 0))
def lenV : Value → Nat | .slice _ n _ => n | _ => 0

theorem Bytes.keeps {w w' : World} {g : Nat} {ao : Option Addr} {P : List Int} (h : Bytes w g ao P) (hk : Keeps g w w') : Bytes w' g ao P := fun hp => by
  obtain ⟨b, o, e, hb, hc⟩ := h hp
  refine ⟨b, o, e, hb, fun j hj => ?_⟩
  rw [hk.cell (World.block_lt_of_cell? w _ (hc j hj)) hb]; exact hc j hj

theorem set_over {w : World} {g : Nat} {st bs : Nat → Int} {size : Int} (h : SumAt w g st bs size) : ∀ (Q : List Int) (r : Nat), r + Q.length ≤ 64 → SumAt (w.setCells g (72 + r) (Q.map (Value.int .u8))) g st (over bs r Q.length Q) size := by
  intro Q
  induction Q generalizing w bs with
  | nil => intro r _; refine SumAt.congr h (fun _ _ => rfl) (fun j _ => ?_); unfold over; rw [if_neg (by simp)]
  | cons v Q ih =>
    intro r hr
    simp only [List.map_cons, World.setCells]
    simp only [List.length_cons] at hr
    have h1 : SumAt (w.setCell ⟨g, 72 + r, none⟩ (.int .u8 v)) g st (put bs r v) size := by
      unfold SumAt; rw [set_blk h, sum_put_b (by omega)]
    have := ih h1 (r + 1) (by omega)
    rw [← Nat.add_assoc] at this
    refine this.congr (fun _ _ => rfl) (fun j _ => ?_)
    unfold over put
    simp only [List.length_cons]
    by_cases e : j = r
    · subst e; rw [if_neg (by omega), if_pos rfl, if_pos (by omega)]; simp
    · by_cases e2 : r + 1 ≤ j ∧ j < r + 1 + Q.length
      · rw [if_pos e2, if_pos (by omega), show j - r = (j - (r + 1)) + 1 by omega]; simp [List.getD]
      · rw [if_neg e2, if_neg e, if_neg (by omega)]

theorem slice_bytes_l (a : Addr) (len cap : Nat) (n : Nat) (w : World) (h1 : n ≤ len) :
    (Instr.slice 22 (.slice (some a) len cap) (some (.int .i64 (n : Int))) none none).run Try.prog w = .ok (.slice (if cap = n then some a else some (a.add n)) (len - n) (cap - n)) w := by
  have hs : (sizeOf 5).run Try.prog w = .ok 1 w := by simp [go_sem]
  have he : Try.prog.elem 22 = 5 := by kernel_rfl
  rw [run_slice_l w 22 (some a) len cap (by kernel_rfl) .i64 n (by omega) (by omega), he, hs]
  simp [sliced]
theorem Bytes.drop {w : World} {g : Nat} {b o : Nat} {P : List Int} {cap n : Nat} (h : Bytes w g (some ⟨b, o, none⟩) P) (hc : P.length ≤ cap) (hn : n ≤ P.length) : Bytes w g (if cap = n then some ⟨b, o, none⟩ else some ((⟨b, o, none⟩ : Addr).add n)) (P.drop n) := fun hp => by
  have hl : n < P.length := by
    by_cases e : n < P.length
    · exact e
    · exact absurd (List.drop_eq_nil_of_le (by omega)) hp
  obtain ⟨b', o', e, hb, hcell⟩ := h (fun e => by simp [e] at hl)
  have e1 : b' = b := by injection e with e; injection e with e1 e2; exact e1.symm
  have e2 : o' = o := by injection e with e; injection e with e1 e2; exact e2.symm
  subst e1; subst e2
  refine ⟨b', o' + n, by rw [if_neg (by omega), addr_add], hb, fun j hj => ?_⟩
  simp only [List.length_drop] at hj
  rw [Nat.add_assoc, hcell (n + j) (by omega), getD_drop]
theorem u8_info : (Try.prog.info? 5).map (·.size) = some 1 := by kernel_rfl
theorem copy_bytes (g r dl dc b o len cap : Nat) (P : List Int) (n : Nat) (ty : TypeId) (w : World) (hn : n = Nat.min len dl) (hP : n ≤ P.length) (hc : ∀ j, j < P.length → w.cell? ⟨b, o + j, none⟩ = some (.int .u8 (P.getD j 0)))
    (hd : ∀ j, j < n → (w.cell? ⟨g, r + j, none⟩).isSome = true) (hf : ∀ j, j < n → w.frozen? ⟨g, r + j, none⟩ = false) :
    (Builtin.copy_ #[22, 22] ty #[.slice (some ⟨g, r, none⟩) dl dc, .slice (some ⟨b, o, none⟩) len cap]).run Try.prog w = .ok (.int .i64 (n : Int)) (w.setCells g r ((P.take n).map (Value.int .u8))) := by
  have hl : ((P.take n).map (Value.int .u8)).length = n := by simp; omega
  have := run_copy_cells (P := Try.prog) w 22 22 ty 5 g r dl dc ⟨b, o, none⟩ len cap ((P.take n).map (Value.int .u8)) (by kernel_rfl) u8_info (by rw [hl, hn]) (fun j v hj => by
      have hjl : j < n := by have := (List.getElem?_eq_some_iff.1 hj).1; rw [hl] at this; exact this
      rw [addr_add, hc j (by omega)]
      rw [← hj]
      simp [hjl, List.getD, show j < P.length by omega]) (fun j hj => hd j (by rw [hl] at hj; exact hj)) (fun j hj => hf j (by rw [hl] at hj; exact hj)) (ints_oneCell _ _)
  rw [this, hl]; rfl

theorem taken {M P : List Int} {m n : Nat} : M ++ P.take (m + n) = (M ++ P.take m) ++ (P.drop m).take n := by rw [List.take_add, List.append_assoc]
theorem taken_length {M P : List Int} {m s : Nat} (hs : s = M.length + m) (hm : m ≤ P.length) : (M ++ P.take m).length = s := by simp; omega
theorem round_full {M P : List Int} {st bs : Nat → Int} {m n s : Nat} (hs : s = M.length + m) (hm : m ≤ P.length) (h : Holds (M ++ P.take m) st bs) (hn : n ≤ P.length - m) (hf : s % 64 + n = 64) (bs2 : Nat → Int) : Holds (M ++ P.take (m + n)) (mixed st (over bs (s % 64) n (P.drop m))) bs2 := by
  have hl := taken_length hs hm
  have := holds_full (Q := P.drop m) (n := n) h (by simpa using hn) (by rw [hl]; exact hf) bs2
  rw [hl] at this; rw [taken]; exact this
theorem round_part {M P : List Int} {st bs : Nat → Int} {m n s : Nat} (hs : s = M.length + m) (hm : m ≤ P.length) (h : Holds (M ++ P.take m) st bs) (hn : n ≤ P.length - m) (hf : s % 64 + n < 64) : Holds (M ++ P.take (m + n)) st (over bs (s % 64) n (P.drop m)) := by
  have hl := taken_length hs hm
  have := holds_part (Q := P.drop m) (n := n) h (by simpa using hn) (by rw [hl]; exact hf)
  rw [hl] at this; rw [taken]; exact this
theorem SumAt.size {w : World} {g : Nat} {st bs : Nat → Int} {x y : Int} (h : SumAt w g st bs x) (e : x = y) : SumAt w g st bs y := e ▸ h

set_option maxRecDepth 10000 in
set_option maxHeartbeats 1000000 in
theorem add_any (g : Nat) (M P : List Int) (st bs : Nat → Int) (ao : Option Addr) (cap : Nat) (w : World) (h : SumAt w g st bs ((M.length : Nat) : Int)) (hh : Holds M st bs) (hb : Bytes w g ao P) (hc : P.length ≤ cap) (hz : M.length + P.length < 1099511627776) :
    Calls Try.prog 51 #[.pointer (some ⟨g, 0, none⟩), .slice ao P.length cap] w fun e w' => e = .returned (.tuple #[]) ∧ (∃ st' bs', SumAt w' g st' bs' (((M ++ P).length : Nat) : Int) ∧ Holds (M ++ P) st' bs') ∧ Keeps g w w' := by
  go_enter Try.func51, Try.ntmps51
  go_wp2_with fail
  go_loopw [1] (fun p wr => ∃ (m : Nat) (st bs : Nat → Int) (ao : Option Addr) (cap : Nat), m ≤ P.length ∧ p = .slice ao (P.length - m) cap ∧ P.length - m ≤ cap ∧ Keeps g w wr ∧ Hid (SumAt wr g st bs ((M.length + m : Nat) : Int)) ∧ Hid (Holds (M ++ P.take m) st bs) ∧ Hid (Bytes w g ao (P.drop m))) (fun p _ => lenV p)
  case atStart => exact ⟨0, st, bs, ao, cap, Nat.zero_le _, rfl, hc, Keeps.refl _ _, h, (by show Holds _ _ _; simpa using hh), hb⟩
  case round =>
    clear h hh hb hc
    obtain ⟨m, st, bs, ao, cap, hm, rfl, hc, hK, HS, HH, HB⟩ := hrel
    by_cases hlt : m < P.length
    · obtain ⟨b, o, rfl, hbg, hcell⟩ := (HB.out.keeps hK) (fun e => by have := congrArg List.length e; simp at this; omega)
      have HC : Hid (∀ j, j < (P.drop m).length → wr.cell? ⟨b, o + j, none⟩ = some (.int .u8 ((P.drop m).getD j 0))) := hcell
      clear hcell
      obtain ⟨s, hs⟩ : ∃ s, s = M.length + m := ⟨_, rfl⟩
      obtain ⟨n, hn⟩ : ∃ n, n = Nat.min (P.length - m) (64 - s % 64) := ⟨_, rfl⟩
      have hn' : n = min (P.length - m) (64 - s % 64) := hn
      have hn0 : 0 < n := by omega
      have hn1 : n ≤ P.length - m := by omega
      have hn2 : s % 64 + n ≤ 64 := by omega
      have hn3 : n < P.length - m → s % 64 + n = 64 := by omega
      have HS' : Hid (SumAt wr g st bs (s : Int)) := by rw [hs]; exact HS
      have Hs : Hid (s = M.length + m) := hs
      have hsz : s < 1099511627776 := by omega
      have c0 : wr.cell? ⟨g, 136, none⟩ = some (.int .i64 (s : Int)) := HS'.out.n
      have hsl := fun W => slice_l g 72 ((s : Int) % 64) W (by omega) (by omega)
      simp only [show ((s : Int) % 64).toNat = s % 64 from by omega] at hsl
      have hcp := fun ty => copy_bytes g (72 + s % 64) (64 - s % 64) (64 - s % 64) b o (P.length - m) cap (P.drop m) n ty wr hn (by simpa using hn1) HC.out (fun j hj => by rw [Nat.add_assoc, HS'.out.b (j := s % 64 + j) (by omega)]; rfl) (fun j hj => HS'.out.fr _)
      have hcp1 := fun ty => copy_bytes g (72 + s % 64) (64 - s % 64) (64 - s % 64) b o (P.length - m) cap (P.drop m) n ty wr.drew hn (by simpa using hn1) HC.out (fun j hj => by show (wr.cell? _).isSome = true; rw [Nat.add_assoc, HS'.out.b (j := s % 64 + j) (by omega)]; rfl) (fun j hj => HS'.out.fr _)
      obtain ⟨cs, hcs⟩ : ∃ cs, cs = ((P.drop m).take n).map (Value.int .u8) := ⟨_, rfl⟩
      rw [← hcs] at hcp hcp1
      have hS1 : SumAt (wr.drew.setCells g (72 + s % 64) cs) g st (over bs (s % 64) n (P.drop m)) (s : Int) := by
        have hl : ((P.drop m).take n).length = n := by simp; omega
        have := set_over (w := wr.drew) HS'.out ((P.drop m).take n) (s % 64) (by rw [hl]; omega)
        rw [hl, ← hcs] at this
        refine this.congr (fun _ _ => rfl) (fun j hj => ?_)
        unfold over
        by_cases e : s % 64 ≤ j ∧ j < s % 64 + n
        · rw [if_pos e, if_pos e, getD_take (by omega)]
        · rw [if_neg e, if_neg e]
      have hK1 : Keeps g w (wr.drew.setCells g (72 + s % 64) cs) := Keeps.setCells _ _ hK.drew
      have HS1 : Hid (SumAt (wr.drew.setCells g (72 + s % 64) cs) g st (over bs (s % 64) n (P.drop m)) (s : Int)) := hS1
      clear hn hn' hs HS hS1 hcs HS'
      have hsl2 := fun W => slice_bytes_l ⟨b, o, none⟩ (P.length - m) cap n W hn1
      have hB2 : Bytes w g (if cap = n then some ⟨b, o, none⟩ else some ((⟨b, o, none⟩ : Addr).add n)) (P.drop (m + n)) := by
        have := Bytes.drop (n := n) HB.out (by simpa using hc) (by simpa using hn1)
        rw [List.drop_drop] at this; exact this
      have HB2 : Hid (Bytes w g (if cap = n then some ⟨b, o, none⟩ else some ((⟨b, o, none⟩ : Addr).add n)) (P.drop (m + n))) := hB2
      clear hB2
      generalize (if cap = n then some (⟨b, o, none⟩ : Addr) else some ((⟨b, o, none⟩ : Addr).add n)) = ao2 at *
      have hsl3 : ∀ W : World, (Instr.sliceAt 22 (.slice (some ⟨b, o, none⟩) (P.length - m) cap) (some (.int .i64 (n : Int))) none none).run Try.prog W = .ok (.slice ao2 (P.length - m - n) (cap - n)) W := fun W => by
        rw [run_sliceAt_slice _ _ _ _ _ _ (by kernel_rfl)]; exact hsl2 W
      clear HB HC
      go_wp2_with fail
      go_region
      generalize wr.drew.setCells g (72 + s % 64) cs = w1 at *
      have c1 : w1.cell? ⟨g, 136, none⟩ = some (.int .i64 (s : Int)) := HS1.out.n
      have f1 := HS1.out.fr 136
      by_cases hfull : s % 64 + n = 64
      · have ht : ((s : Int) + (n : Int)) % 64 = 0 := by omega
        clear hcp hcp1 c0 hsl
        go_wp2_with fail
        have h2 : SumAt (w1.setCell ⟨g, 136, none⟩ (.int .i64 ((s : Int) + (n : Int)))) g st (over bs (s % 64) n (P.drop m)) ((s : Int) + (n : Int)) := HS1.out.setN _ rfl
        refine (mix_any g _ _ _ _ h2).mono ?_
        rintro e w2 ⟨rfl, h3, hk3⟩
        have hK3 := (hK1.setCell 136 (.int .i64 ((s : Int) + (n : Int)))).trans hk3
        have H3 : Hid (SumAt w2 g (mixed st (over bs (s % 64) n (P.drop m))) (over bs (s % 64) n (P.drop m)) ((s : Int) + (n : Int))) := h3
        clear h2 h3 hk3
        go_wp2_with fail
        exact ⟨⟨m + n, _, _, ao2, cap - n, by omega, by rw [Nat.sub_sub], by omega, hK3, H3.out.size (by rw [Hs.out]; omega), round_full Hs.out hm HH.out hn1 hfull _, HB2⟩, by simp only [lenV]; omega⟩
      · have ht : ¬ (((s : Int) + (n : Int)) % 64 = 0) := by omega
        clear hcp hcp1 c0 hsl
        have h2 : SumAt (w1.setCell ⟨g, 136, none⟩ (.int .i64 ((s : Int) + (n : Int)))) g st (over bs (s % 64) n (P.drop m)) ((s : Int) + (n : Int)) := HS1.out.setN _ rfl
        have H2 : Hid (SumAt (w1.setCell ⟨g, 136, none⟩ (.int .i64 ((s : Int) + (n : Int)))) g st (over bs (s % 64) n (P.drop m)) ((s : Int) + (n : Int))) := h2
        clear h2
        go_wp2_with fail
        exact ⟨⟨m + n, _, _, ao2, cap - n, by omega, by rw [Nat.sub_sub], by omega, hK1.setCell 136 _, H2.out.size (by rw [Hs.out]; omega), round_part Hs.out hm HH.out hn1 (by omega), HB2⟩, by simp only [lenV]; omega⟩
    · obtain rfl : m = P.length := by omega
      simp only [Nat.sub_self]
      go_wp2_with fail
      refine bodyPost_end (v := .tuple #[]) (by simp [results, Try.results51, go_sem]) rfl ?_
      refine ⟨rfl, ⟨st, bs, HS.out.size (by simp), ?_⟩, hK⟩
      have := HH.out
      rw [List.take_length] at this; exact this
end Go.Proofs.Yticpkpphjpgdbaa
