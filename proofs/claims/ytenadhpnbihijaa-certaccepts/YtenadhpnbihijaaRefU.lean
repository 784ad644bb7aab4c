/- The reference's Accepts, of every ring, mark and row of votes. -/
import Derived.Test.YtenadhpnbihijaaRefM
import Derived.Test.YtenadhpnbihijaaRefR
namespace Go.Proofs.Ytenadhpnbihijaa
open Go.RowKit Go.Dig Go.Sha Go.Inv Go.Oct

def raccSpec (b rg : Nat) (k p e t : Int) (eo : Option Addr) (ec : Nat) (ao : Option Addr) (cap : Nat) (ys : List VoteW) (mt : Bool) : Nat → Value → World → Prop
  | 0, xx, _ => xx = .int .i64 0
  | 1, xx, _ => xx = .bool true
  | 2, xx, _ => xx = .bool true
  | 3, xx, _ => xx = .pointer (some ⟨rg, 0, none⟩)
  | 4, xx, _ => xx = .pointer (some ⟨b, 4, none⟩)
  | 5, xx, _ => xx = .slice ao ys.length cap
  | 6, xx, _ => xx = .slice eo (encMark k p e t).length ec
  | 7, xx, _ => xx = .agg (row .u8 32 (sha (encMark k p e t)))
  | 8, xx, _ => xx = .bool mt
  | 9, xx, _ => xx = .bool mt
  | 10, xx, _ => xx = .bool mt
  | _, _, _ => True
set_option maxRecDepth 10000 in
set_option maxHeartbeats 2000000 in
theorem rAccepts_any (rg n : Nat) (seed : Nat → Int) (k p e t : Int) (ao : Option Addr) (cap : Nat) (ys : List VoteW) (w : World) (hX : RRing w rg seed n) (hn0 : 0 < n) (hn : n ≤ 10) (ik : inI k) (ip : inI p) (ie : inI e) (it : inI t) (hV : VotesIn w ao cap ys) :
    Calls Try.prog 24 #[.pointer (some ⟨rg, 0, none⟩), .agg #[.int .i64 k, .int .i64 p, .int .i64 e, .int .i64 t, .slice ao ys.length cap]] w fun x w' => x = .returned (.bool (acceptsR (some (seed, n)) k p e t ys)) ∧ Below w.heap.size w w' := by
  have HX : Hid (RRing w rg seed n) := hX
  have HV : Hid (VotesIn w ao cap ys) := hV
  clear hX hV
  have HB1 : Hid ((w.alloc (.cells #[.int .i64 k, .int .i64 p, .int .i64 e, .int .i64 t, .slice ao ys.length cap] 46)).heap[w.heap.size]? = some (.cells #[.int .i64 k, .int .i64 p, .int .i64 e, .int .i64 t, .slice ao ys.length cap] 46 (0, 0))) := alloc_blk _ _
  have hBw := below_alloc w (.cells #[.int .i64 k, .int .i64 p, .int .i64 e, .int .i64 t, .slice ao ys.length cap] 46)
  go_enter Try.func24, Try.ntmps24
  go_wp2_with fail
  generalize w.alloc (.cells #[.int .i64 k, .int .i64 p, .int .i64 e, .int .i64 t, .slice ao ys.length cap] 46) = w1 at *
  refine (rEncodeMark_any k p e t w1 ik ip ie it).mono ?_
  rintro x w2 ⟨u, rfl, hO, hB2⟩
  have HC2 : Hid (w2.heap[w.heap.size]? = some (.cells #[.int .i64 k, .int .i64 p, .int .i64 e, .int .i64 t, .slice ao ys.length cap] 46 (0, 0))) := (hB2.block _ (lt_blk HB1.out)).trans HB1.out
  have hB : Below w.heap.size w w2 := hBw.trans (hB2.mono hBw.size)
  obtain ⟨eo, el, ec, rfl, hf⟩ := hO.form
  have HF : Hid _ := hf
  clear hO hf hB2 HB1 hBw
  cases hm : markB k p e t
  · simp only [hm] at HF
    have HAC : Hid (acceptsR (some (seed, n)) k p e t ys = false) := by show _ = _; simp [acceptsR, hm]
    go_wp2_with fail
    go_quiet (fail)
    go_wp2_with fail
    go_ret
    exact ⟨by rw [HAC.out]; rfl, hB.trans ⟨rfl, rfl, rfl, Nat.le_refl _, fun _ _ => rfl⟩⟩
  · rw [hm] at HF
    obtain ⟨hn1, hc, hR⟩ : el = (encMark k p e t).length ∧ (encMark k p e t).length ≤ ec ∧ Rowed w2 eo (encMark k p e t) ec := HF.out
    subst hn1
    have HR : Hid (Rowed w2 eo (encMark k p e t) ec) := hR
    have hel := encMark_length k p e t
    obtain ⟨mt, HMT⟩ : ∃ mt, Hid (meetsR (some (seed, n)) ys 3 0 0 (sha (encMark k p e t)) = mt) := ⟨_, rfl⟩
    have HAC : Hid (acceptsR (some (seed, n)) k p e t ys = mt) := by show _ = _; rw [← HMT.out]; simp [acceptsR, hm, markF]
    obtain ⟨b, hb⟩ : ∃ b, w.heap.size = b := ⟨_, rfl⟩
    rw [hb] at HC2 ⊢
    have hbl : b < w2.heap.size := lt_blk HC2.out
    clear HF hc hR
    go_wp2_with fail
    refine wp_region_growG (by kernel_rfl) (by kernel_rfl) (fun xs => { tmps := (Value.pointer (some (⟨rg, 0, none⟩ : Addr)) :: Value.agg #[Value.int IntKind.i64 k, Value.int IntKind.i64 p, Value.int IntKind.i64 e, Value.int IntKind.i64 t, Value.slice ao ys.length cap] :: undef :: Value.pointer (some (⟨b, 0, none⟩ : Addr)) :: xs 10 :: Value.slice eo (encMark k p e t).length ec :: Value.int IntKind.i64 0 :: Value.tuple #[Value.slice eo (encMark k p e t).length ec, Value.int IntKind.i64 0] :: Value.pointer (some (⟨b, 0, none⟩ : Addr)) :: Value.agg #[Value.int IntKind.i64 k, Value.int IntKind.i64 p, Value.int IntKind.i64 e, Value.int IntKind.i64 t] :: Value.tuple #[Value.slice eo (encMark k p e t).length ec, Value.int IntKind.i64 0] :: Value.slice eo (encMark k p e t).length ec :: Value.int IntKind.i64 0 :: xs 0 :: xs 1 :: xs 2 :: xs 3 :: xs 4 :: xs 5 :: xs 6 :: xs 7 :: xs 8 :: xs 9 :: []).toArray, defers := [] })
      (raccSpec b rg k p e t eo ec ao cap ys mt) (fun | 10 => .bool false | _ => undef) (by repeat (first | exact trivial | refine ⟨fun _ _ => rfl, ?_⟩)) (by
        intro i y w w' h hs
        unfold raccSpec at *
        split at hs <;> first | exact hs | exact trivial) ⟨?_, ?_, ?_, ?_, ?_, ?_, ?_, ?_, ?_, ?_, ?_, trivial⟩ ?_
    · intro xs W hBr hp K hK
      rw [if_pos (wanted_none rfl _)]
      clear hp
      go_simp
      exact hK _ _ (Below.refl _ _) rfl
    · intro xs W hBr hp K hK
      rw [if_pos (wanted_none rfl _)]
      have h0 : xs 0 = .int .i64 0 := hp.1 rfl
      clear hp
      simp only [h0] at hK ⊢
      clear h0
      go_simp
      exact hK _ _ (Below.refl _ _) (by first | rfl | (show Value.bool _ = _; simp; done) | (show Value.bool _ = _; simp; omega))
    · intro xs W hBr hp K hK
      rw [if_pos (wanted_none rfl _)]
      have h1 : xs 1 = .bool true := hp.1 rfl
      clear hp
      simp only [h1] at hK ⊢
      clear h1
      go_simp
      exact hK _ _ (Below.refl _ _) rfl
    · intro xs W hBr hp K hK
      have hgd : xs 2 = .bool true := hp.1 rfl
      rw [wanted_g (b := true) rfl (by show (match some (xs 2) with | some (.bool b) => some b | _ => none) = some true; rw [hgd])]
      rw [if_pos (show (true == true) = true from rfl)]
      clear hgd
      clear hp
      go_simp
      exact hK _ _ (Below.refl _ _) rfl
    · intro xs W hBr hp K hK
      have hgd : xs 2 = .bool true := hp.1 rfl
      rw [wanted_g (b := true) rfl (by show (match some (xs 2) with | some (.bool b) => some b | _ => none) = some true; rw [hgd])]
      rw [if_pos (show (true == true) = true from rfl)]
      clear hgd
      clear hp
      go_simp
      exact hK _ _ (Below.refl _ _) rfl
    · intro xs W hBr hp K hK
      have hgd : xs 2 = .bool true := hp.2.1 rfl
      rw [wanted_g (b := true) rfl (by show (match some (xs 2) with | some (.bool b) => some b | _ => none) = some true; rw [hgd])]
      rw [if_pos (show (true == true) = true from rfl)]
      clear hgd
      have h4 : xs 4 = .pointer (some ⟨b, 4, none⟩) := hp.1 rfl
      clear hp
      have cc : W.cell? ⟨b, 4, none⟩ = some (.slice ao ys.length cap) := (cell_blk ((hBr.block _ hbl).trans HC2.out) 4).trans rfl
      simp only [h4] at hK ⊢
      clear h4
      go_simp
      exact hK _ _ (Below.refl _ _) rfl
    · intro xs W hBr hp K hK
      have hgd : xs 2 = .bool true := hp.1 rfl
      rw [wanted_g (b := true) rfl (by show (match some (xs 2) with | some (.bool b) => some b | _ => none) = some true; rw [hgd])]
      rw [if_pos (show (true == true) = true from rfl)]
      clear hgd
      clear hp
      go_simp
      exact hK _ _ (Below.refl _ _) rfl
    · intro xs W hBr hp K hK
      have hgd : xs 2 = .bool true := hp.2.1 rfl
      rw [wanted_g (b := true) rfl (by show (match some (xs 2) with | some (.bool b) => some b | _ => none) = some true; rw [hgd])]
      rw [if_pos (show (true == true) = true from rfl)]
      clear hgd
      have h6 : xs 6 = .slice eo (encMark k p e t).length ec := hp.1 rfl
      clear hp
      simp only [h6] at hK ⊢
      clear h6
      go_simp
      refine (rValueSum_any (encMark k p e t) eo ec W (HR.out.below hBr (Nat.le_refl _)) (by omega)).mono ?_
      rintro x w' ⟨rfl, hB'⟩
      exact hK _ _ hB' rfl
    · intro xs W hBr hp K hK
      have hgd : xs 2 = .bool true := hp.2.2.2.2.1 rfl
      rw [wanted_g (b := true) rfl (by show (match some (xs 2) with | some (.bool b) => some b | _ => none) = some true; rw [hgd])]
      rw [if_pos (show (true == true) = true from rfl)]
      clear hgd
      have h3 : xs 3 = .pointer (some ⟨rg, 0, none⟩) := hp.1 rfl
      have h5 : xs 5 = .slice ao ys.length cap := hp.2.1 rfl
      have h7 : xs 7 = .agg (row .u8 32 (sha (encMark k p e t))) := hp.2.2.1 rfl
      clear hp
      simp only [h3, h5, h7] at hK ⊢
      clear h3 h5 h7
      go_simp
      refine (rMeets_any rg n seed ao cap ys 3 0 0 (sha (encMark k p e t)) W (HX.out.below (hB.trans (hBr.mono hB.size))) hn0 hn (HV.out.below (hB.trans (hBr.mono hB.size)))).mono ?_
      rintro x w' ⟨rfl, hB'⟩
      rw [HMT.out]
      exact hK _ _ hB' rfl
    · intro xs W hBr hp K hK
      rw [if_pos (wanted_none rfl _)]
      have h2 : xs 2 = .bool true := hp.1 rfl
      have h8 : xs 8 = .bool mt := hp.2.1 rfl
      clear hp
      simp only [h2, h8] at hK ⊢
      clear h2 h8
      go_simp
      exact hK _ _ (Below.refl _ _) rfl
    · intro xs W hBr hp K hK
      rw [if_pos (wanted_none rfl _)]
      have h9 : xs 9 = .bool mt := hp.1 rfl
      clear hp
      simp only [h9] at hK ⊢
      clear h9
      go_simp
      exact hK _ _ (Below.refl _ _) rfl
    · intro xs W hBr hs
      have h10 : xs 10 = .bool mt := hs 10 (by simp)
      simp only [h10]
      go_wp2_with fail
      go_ret
      exact ⟨by rw [HAC.out]; rfl, hB.trans (hBr.mono hB.size)⟩
end Go.Proofs.Ytenadhpnbihijaa
