/- octet's Reader, as far as it is asked here: it reads on from any bytes, and never fails. For rows of up to 2^38 bytes. -/
import Derived.Test.YtkjocpadmlobgaaWireE
import Derived.Test.YtkjocpadmlobgaaRefN
import Derived.Deep.CutRange
namespace Go.Proofs.Ytkjocpadmlobgaa
open Go.RowKit Go.Dig Go.Inv Go.Oct

theorem inI_bits (o : BinOp) (a b : Int) (h : bits o .i64 a b = IntKind.i64.wrap (bits o .i64 a b)) : inI (bits o .i64 a b) := by
  rw [h, IntKind.wrap_i64]; unfold inI; omega
theorem inI_or (a b : Int) : inI (bits .or .i64 a b) := by
  show inI (IntKind.i64.wrap ((BitVec.ofInt 64 a ||| BitVec.ofInt 64 b).toNat : Nat))
  rw [IntKind.wrap_i64]; unfold inI; omega
set_option maxRecDepth 10000 in
set_option maxHeartbeats 4000000 in
theorem firstNumber_any (L : List Int) (ao : Option Addr) (cap : Nat) (w : World) (hR : Rowed w ao L cap) (hc : L.length ≤ cap) (hb : L.length < 274877906944) (hy : ∀ x ∈ L, 0 ≤ x ∧ x < 256) :
    Calls Try.prog 81 #[.slice ao L.length cap] w fun e w' => (∃ (z : Int) (k : Nat), e = .returned (.tuple #[.int .i64 z, .int .i64 (k : Int)]) ∧ inI z ∧ k ≤ L.length) ∧ w' = w := by
  have HR : Hid (Rowed w ao L cap) := hR
  have HY : Hid (∀ x ∈ L, 0 ≤ x ∧ x < 256) := hy
  obtain ⟨n, HN⟩ : ∃ n, Hid (L.length = n) := ⟨_, rfl⟩
  rw [HN.out] at hc hb ⊢
  clear hR hy
  by_cases h9 : n ≤ 9
  · have h9' : (n : Int) ≤ 9 := by omega
    go_enter Try.func81, Try.ntmps81
    go_wp2_with fail
    go_loopw [2, 12] (fun z i wr => ∃ (k : Nat) (y : Int), k ≤ n ∧ i = .int .i64 (k : Int) ∧ z = .int .i64 y ∧ inI y ∧ wr = w) (fun _ i _ => n - (intOf i).toNat)
    case atStart => exact ⟨0, 0, by omega, rfl, rfl, inI_lit (by decide) (by decide), rfl⟩
    case round =>
      obtain ⟨k, y, hk, rfl, rfl, hy, rfl⟩ := hrel
      by_cases hlt : k < n
      · have hkn : k < L.length := by have := HN.out; omega
        obtain ⟨gb, go, e1, hcl⟩ := HR.out.at (fun e => by rw [e] at hkn; cases hkn)
        subst e1
        have hcell := hcl k hkn
        have hyb := HY.out (L.getD k 0) (by rw [List.getD, List.getElem?_eq_getElem hkn]; exact List.getElem_mem hkn)
        obtain ⟨x, HX⟩ : ∃ x, Hid (L.getD k 0 = x) := ⟨_, rfl⟩
        rw [HX.out] at hcell hyb
        have HKN : Hid (k < L.length) := hkn
        clear hcl hkn
        by_cases h128 : x < 128
        · go_wp2_with fail
          all_goals
            refine bodyPost_ret (results_tmp2 rfl _ _ _) rfl ?_
            first | exact ⟨⟨0, 0, rfl, inI_lit (by decide) (by decide), Nat.zero_le _⟩, rfl⟩ | exact ⟨⟨_, k + 1, rfl, inI_or _ _, by omega⟩, rfl⟩
        · go_wp2_with fail
          exact ⟨⟨k + 1, _, by omega, rfl, rfl, inI_or _ _, trivial⟩, by simp [intOf]; omega⟩
      · obtain rfl : k = n := by omega
        go_wp2_with fail
        refine bodyPost_ret (v := .tuple #[.int .i64 0, .int .i64 0]) (by simp [results, Try.results81, go_sem]) rfl ?_
        exact ⟨⟨0, 0, rfl, inI_lit (by decide) (by decide), by omega⟩, rfl⟩
  · have h9' : ¬ (n : Int) ≤ 9 := by omega
    go_enter Try.func81, Try.ntmps81
    go_wp2_with fail
    go_loopw [2, 12] (fun z i wr => ∃ (k : Nat) (y : Int), k ≤ 9 ∧ i = .int .i64 (k : Int) ∧ z = .int .i64 y ∧ inI y ∧ wr = w) (fun _ i _ => 9 - (intOf i).toNat)
    case atStart => exact ⟨0, 0, by omega, rfl, rfl, inI_lit (by decide) (by decide), rfl⟩
    case round =>
      obtain ⟨k, y, hk, rfl, rfl, hy, rfl⟩ := hrel
      by_cases hlt : k < 9
      · have hkn : k < L.length := by have := HN.out; omega
        obtain ⟨gb, go, e1, hcl⟩ := HR.out.at (fun e => by rw [e] at hkn; cases hkn)
        subst e1
        have hcell := hcl k hkn
        have hyb := HY.out (L.getD k 0) (by rw [List.getD, List.getElem?_eq_getElem hkn]; exact List.getElem_mem hkn)
        obtain ⟨x, HX⟩ : ∃ x, Hid (L.getD k 0 = x) := ⟨_, rfl⟩
        rw [HX.out] at hcell hyb
        have HKN : Hid (k < L.length) := hkn
        clear hcl hkn
        by_cases h128 : x < 128
        · go_wp2_with fail
          all_goals
            refine bodyPost_ret (results_tmp2 rfl _ _ _) rfl ?_
            first | exact ⟨⟨0, 0, rfl, inI_lit (by decide) (by decide), Nat.zero_le _⟩, rfl⟩ | exact ⟨⟨_, k + 1, rfl, inI_or _ _, by omega⟩, rfl⟩
        · go_wp2_with fail
          exact ⟨⟨k + 1, _, by omega, rfl, rfl, inI_or _ _, trivial⟩, by simp [intOf]; omega⟩
      · obtain rfl : k = 9 := by omega
        go_wp2_with fail
        refine bodyPost_ret (v := .tuple #[.int .i64 0, .int .i64 0]) (by simp [results, Try.results81, go_sem]) rfl ?_
        exact ⟨⟨0, 0, rfl, inI_lit (by decide) (by decide), by omega⟩, rfl⟩
end Go.Proofs.Ytkjocpadmlobgaa
