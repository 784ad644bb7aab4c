/- Of any votes and value the view that they prove; of any lock whether a value may be prepared; of any two the later one; who leads: alike the document, for every slot, view, value, votes and locks (and the example holds). No condition. -/
import Derived.Test.YticpkpphjpgdbaaCertD
import Derived.Test.YticpkpphjpgdbaaRuleA
import Derived.Test.YticpkpphjpgdbaaRefQR
import Derived.Test.YticpkpphjpgdbaaRuleVH
import Derived.Test.YticpkpphjpgdbaaCertLaw
import Derived.Test.YticpkpphjpgdbaaRefLaw
namespace Go.Proofs.Yticpkpphjpgdbaa
open Go.RowKit Go.Dig Go.Sha Go.Inv Go.Oct

theorem cells_sum (x : VoteR) : x.cells.extract 3 35 = row .u8 32 x.sum := by
  refine Array.ext_getElem? fun i => ?_
  rw [Array.getElem?_extract]
  by_cases h : i < 32
  · rw [if_pos (by have := x.size; omega), x.atSum h, row_get h]
  · rw [if_neg (by have := x.size; omega), Array.getElem?_eq_none (by rw [row_size]; omega)]
theorem cells_tag (x : VoteR) : x.cells.extract 36 68 = row .u8 32 x.tag := by
  refine Array.ext_getElem? fun i => ?_
  rw [Array.getElem?_extract]
  by_cases h : i < 32
  · rw [if_pos (by have := x.size; omega), x.atTag h, row_get h]
  · rw [if_neg (by have := x.size; omega), Array.getElem?_eq_none (by rw [row_size]; omega)]
theorem equalIn_hash9 (f : Nat → Int) (w : World) : (Op.equalIn 9999 30 (.agg (row .u8 32 f)) (.agg (row .u8 32 f))).run Try.prog w = .ok true w := by
  have h : (Op.equalIn 9999 30 (.agg (row .u8 32 f)) (.agg (row .u8 32 f))).run Try.prog w = .ok (rowEq 32 f f) w := equal_row 9997 32 30 5 (by kernel_rfl) (by kernel_rfl) (fun w => by kernel_rfl) f f w
  rw [rowEq_self] at h; exact h
theorem part_int (x : VoteR) (o : Nat) (z : Int) (h : x.cells[o]? = some (.int .i64 z)) (w : World) : (part 3 x.cells o).run Try.prog w = .ok (.int .i64 z) w := by
  simp [part, isAgg, run_underlying Try.underlying3, h]
theorem equalIn_vote (x : VoteR) (w : World) : (Op.equalIn 10000 51 (.agg x.cells) (.agg x.cells)).run Try.prog w = .ok true w := by
  have h := run_equalIn_struct (P := Try.prog) w 9999 51 x.cells x.cells (by kernel_rfl) (by kernel_rfl)
  refine h.trans ?_
  have hf : (Try.prog.fieldsOf 51).toList.map (fun f => (f.type, f.offset)) = [(3, 0), (3, 1), (3, 2), (30, 3), (3, 35), (30, 36)] := by kernel_rfl
  clear h
  have key : ∀ (fs : List Field), (∀ f ∈ fs, (part f.type x.cells f.offset).run Try.prog w = (part f.type x.cells f.offset).run Try.prog w → ∃ v, (part f.type x.cells f.offset).run Try.prog w = .ok v w ∧ (Op.equalIn 9999 f.type v v).run Try.prog w = .ok true w) → (Op.eqFields 9999 x.cells x.cells fs).run Try.prog w = .ok true w := by
    intro fs
    induction fs with
    | nil => intro _; simp [Op.eqFields]
    | cons f fs ih =>
      intro hall
      obtain ⟨v, h1, h2⟩ := hall f (by simp) rfl
      have ih' := ih (fun g hg => hall g (by simp [hg]))
      simp only [Op.eqFields, Sem.run_bind, Sem.run_ite]
      split
      · rw [h1]
        simp only [Result.andThen_ok]
        rw [h1]
        simp only [Result.andThen_ok]
        rw [h2]
        simpa using ih'
      · exact ih'
  refine key _ fun f hm _ => ?_
  have hm' : (f.type, f.offset) ∈ (Try.prog.fieldsOf 51).toList.map (fun f => (f.type, f.offset)) := List.mem_map.2 ⟨f, hm, rfl⟩
  rw [hf] at hm'
  have hint : ∀ (z : Int), (Op.equalIn 9999 3 (.int .i64 z) (.int .i64 z)).run Try.prog w = .ok true w := fun z => by
    have := run_equalIn_int (P := Try.prog) w 9998 3 .i64 .i64 z z Try.underlying3
    simpa using this
  simp only [List.mem_cons, List.not_mem_nil, or_false, Prod.mk.injEq] at hm'
  rcases hm' with ⟨e1, e2⟩ | ⟨e1, e2⟩ | ⟨e1, e2⟩ | ⟨e1, e2⟩ | ⟨e1, e2⟩ | ⟨e1, e2⟩
  · rw [e1, e2]; exact ⟨_, part_int x 0 _ x.at0 w, hint _⟩
  · rw [e1, e2]; exact ⟨_, part_int x 1 _ x.at1 w, hint _⟩
  · rw [e1, e2]; exact ⟨_, part_int x 2 _ x.at2 w, hint _⟩
  · rw [e1, e2]
    refine ⟨.agg (row .u8 32 x.sum), ?_, equalIn_hash9 _ _⟩
    rw [← cells_sum]
    obtain ⟨d, hd1, hd2⟩ := hash_rowM
    cases d <;> first | (simp at hd2; done) | simp [part, isAgg, run_underlying hd1]
  · rw [e1, e2]; exact ⟨_, part_int x 35 _ x.at35 w, hint _⟩
  · rw [e1, e2]
    refine ⟨.agg (row .u8 32 x.tag), ?_, equalIn_hash9 _ _⟩
    rw [← cells_tag]
    obtain ⟨d, hd1, hd2⟩ := hash_rowM
    cases d <;> first | (simp at hd2; done) | simp [part, isAgg, run_underlying hd1]
end Go.Proofs.Yticpkpphjpgdbaa
namespace Go.Proofs.Yticpkpphjpgdbaa
open Go.RowKit Go.Dig Go.Sha Go.Inv Go.Oct

set_option linter.unusedVariables false
def rpASpec (b o m rg : Nat) (ao : Option Addr) (cap : Nat) (slot below v : Int) (bo : Option Addr) (dap : Nat) (P : List Int) : Nat → Value → World → Prop
  | 0, xx, _ => xx = .slice ao 0 cap
  | 1, xx, _ => xx = .int .i64 0
  | 2, xx, _ => xx = .bool true
  | 3, xx, _ => xx = .bool true
  | 9, xx, _ => xx = .bool true
  | 10, xx, _ => xx = .bool true
  | 17, xx, _ => xx = .bool true
  | 18, xx, _ => xx = .bool true
  | 30, xx, _ => xx = .bool true
  | _, _, _ => True
def rpBSpec (b o m rg : Nat) (ao : Option Addr) (cap : Nat) (slot below v : Int) (bo : Option Addr) (dap : Nat) (P : List Int) : Nat → Value → World → Prop
  | 0, xx, _ => xx = .slice (some ⟨b, o, none⟩) (m + 1) cap
  | 1, xx, _ => xx = .int .i64 ((m : Int) + 1)
  | 2, xx, _ => xx = .bool false
  | 3, xx, _ => xx = .bool false
  | 4, xx, _ => xx = .slice (some ⟨b, o, none⟩) (m + 1) cap
  | 5, xx, _ => xx = .pointer (some ⟨b, o, none⟩)
  | 6, xx, _ => xx = .pointer (some ⟨b, o + 2, none⟩)
  | 7, xx, _ => xx = .int .i64 v
  | 8, xx, _ => xx = .bool true
  | 9, xx, _ => xx = .bool true
  | 10, xx, _ => xx = .bool true
  | 17, xx, _ => xx = .bool true
  | 18, xx, _ => xx = .bool true
  | 30, xx, _ => xx = .bool true
  | _, _, _ => True
def rpCSpec (b o m rg : Nat) (ao : Option Addr) (cap : Nat) (slot below v : Int) (bo : Option Addr) (dap : Nat) (P : List Int) : Nat → Value → World → Prop
  | 0, xx, _ => xx = .slice (some ⟨b, o, none⟩) (m + 1) cap
  | 1, xx, _ => xx = .int .i64 ((m : Int) + 1)
  | 2, xx, _ => xx = .bool false
  | 3, xx, _ => xx = .bool false
  | 4, xx, _ => xx = .slice (some ⟨b, o, none⟩) (m + 1) cap
  | 5, xx, _ => xx = .pointer (some ⟨b, o, none⟩)
  | 6, xx, _ => xx = .pointer (some ⟨b, o + 2, none⟩)
  | 7, xx, _ => xx = .int .i64 v
  | 8, xx, _ => xx = .bool false
  | 9, xx, _ => xx = .bool false
  | 10, xx, _ => xx = .bool false
  | 11, xx, _ => xx = .slice (some ⟨b, o, none⟩) (m + 1) cap
  | 12, xx, _ => xx = .pointer (some ⟨b, o, none⟩)
  | 13, xx, _ => xx = .pointer (some ⟨b, o + 2, none⟩)
  | 14, xx, _ => xx = .int .i64 v
  | 15, xx, _ => xx = .int .i64 below
  | 16, xx, _ => xx = .bool true
  | 17, xx, _ => xx = .bool true
  | 18, xx, _ => xx = .bool true
  | 30, xx, _ => xx = .bool true
  | _, _, _ => True
def rpDSpec (b o m rg : Nat) (ao : Option Addr) (cap : Nat) (slot below v : Int) (bo : Option Addr) (dap : Nat) (P : List Int) : Nat → Value → World → Prop
  | 0, xx, _ => xx = .slice (some ⟨b, o, none⟩) (m + 1) cap
  | 1, xx, _ => xx = .int .i64 ((m : Int) + 1)
  | 2, xx, _ => xx = .bool false
  | 3, xx, _ => xx = .bool false
  | 4, xx, _ => xx = .slice (some ⟨b, o, none⟩) (m + 1) cap
  | 5, xx, _ => xx = .pointer (some ⟨b, o, none⟩)
  | 6, xx, _ => xx = .pointer (some ⟨b, o + 2, none⟩)
  | 7, xx, _ => xx = .int .i64 v
  | 8, xx, _ => xx = .bool false
  | 9, xx, _ => xx = .bool false
  | 10, xx, _ => xx = .bool false
  | 11, xx, _ => xx = .slice (some ⟨b, o, none⟩) (m + 1) cap
  | 12, xx, _ => xx = .pointer (some ⟨b, o, none⟩)
  | 13, xx, _ => xx = .pointer (some ⟨b, o + 2, none⟩)
  | 14, xx, _ => xx = .int .i64 v
  | 15, xx, _ => xx = .int .i64 below
  | 16, xx, _ => xx = .bool false
  | 17, xx, _ => xx = .bool false
  | 18, xx, _ => xx = .bool false
  | 19, xx, _ => xx = .pointer (some ⟨rg, 0, none⟩)
  | 20, xx, _ => xx = .slice (some ⟨b, o, none⟩) (m + 1) cap
  | 21, xx, _ => xx = .int .i64 slot
  | 22, xx, _ => xx = .slice (some ⟨b, o, none⟩) (m + 1) cap
  | 23, xx, _ => xx = .pointer (some ⟨b, o, none⟩)
  | 24, xx, _ => xx = .pointer (some ⟨b, o + 2, none⟩)
  | 25, xx, _ => xx = .int .i64 v
  | 26, xx, _ => xx = .slice bo P.length dap
  | 27, xx, _ => xx = .agg (row .u8 32 (sha P))
  | 28, xx, _ => xx = .bool false
  | 29, xx, _ => xx = .bool true
  | 30, xx, _ => xx = .bool true
  | _, _, _ => True
def rpESpec (b o m rg : Nat) (ao : Option Addr) (cap : Nat) (slot below v : Int) (bo : Option Addr) (dap : Nat) (P : List Int) : Nat → Value → World → Prop
  | 0, xx, _ => xx = .slice (some ⟨b, o, none⟩) (m + 1) cap
  | 1, xx, _ => xx = .int .i64 ((m : Int) + 1)
  | 2, xx, _ => xx = .bool false
  | 3, xx, _ => xx = .bool false
  | 4, xx, _ => xx = .slice (some ⟨b, o, none⟩) (m + 1) cap
  | 5, xx, _ => xx = .pointer (some ⟨b, o, none⟩)
  | 6, xx, _ => xx = .pointer (some ⟨b, o + 2, none⟩)
  | 7, xx, _ => xx = .int .i64 v
  | 8, xx, _ => xx = .bool false
  | 9, xx, _ => xx = .bool false
  | 10, xx, _ => xx = .bool false
  | 11, xx, _ => xx = .slice (some ⟨b, o, none⟩) (m + 1) cap
  | 12, xx, _ => xx = .pointer (some ⟨b, o, none⟩)
  | 13, xx, _ => xx = .pointer (some ⟨b, o + 2, none⟩)
  | 14, xx, _ => xx = .int .i64 v
  | 15, xx, _ => xx = .int .i64 below
  | 16, xx, _ => xx = .bool false
  | 17, xx, _ => xx = .bool false
  | 18, xx, _ => xx = .bool false
  | 19, xx, _ => xx = .pointer (some ⟨rg, 0, none⟩)
  | 20, xx, _ => xx = .slice (some ⟨b, o, none⟩) (m + 1) cap
  | 21, xx, _ => xx = .int .i64 slot
  | 22, xx, _ => xx = .slice (some ⟨b, o, none⟩) (m + 1) cap
  | 23, xx, _ => xx = .pointer (some ⟨b, o, none⟩)
  | 24, xx, _ => xx = .pointer (some ⟨b, o + 2, none⟩)
  | 25, xx, _ => xx = .int .i64 v
  | 26, xx, _ => xx = .slice bo P.length dap
  | 27, xx, _ => xx = .agg (row .u8 32 (sha P))
  | 28, xx, _ => xx = .bool true
  | 29, xx, _ => xx = .bool false
  | 30, xx, _ => xx = .bool false
  | _, _, _ => True
set_option maxRecDepth 10000 in
set_option maxHeartbeats 2000000 in
theorem rProves_any (rg n : Nat) (seed : Nat → Int) (ao : Option Addr) (cap : Nat) (ys : List VoteW) (slot below : Int) (P : List Int) (bo : Option Addr) (dap : Nat) (w : World) (hX : RRing w rg seed n) (hn0 : 0 < n) (hn : n ≤ 10) (hV : VotesIn w ao cap ys) (hP : Rowed w bo P dap) (hz : P.length < 274877906944) :
    Calls Try.prog 13 #[.pointer (some ⟨rg, 0, none⟩), .slice ao ys.length cap, .int .i64 slot, .int .i64 below, .slice bo P.length dap] w fun e w' => e = .returned (provedV (provesR (some (seed, n)) ys slot below P)) ∧ Below w.heap.size w w' := by
  have HX : Hid (RRing w rg seed n) := hX
  have HV : Hid (VotesIn w ao cap ys) := hV
  have HPR : Hid (Rowed w bo P dap) := hP
  clear hX hP
  cases ys with
  | nil =>
    clear hV
    rw [show ([] : List VoteW).length = 0 from rfl]
    have HPV : Hid (provesR (some (seed, n)) [] slot below P = none) := rfl
    go_enter Try.func13, Try.ntmps13
    go_wp2_with fail
    refine wp_region_growG (by kernel_rfl) (by kernel_rfl) (fun xs => { tmps := (Value.pointer (some (⟨rg, 0, none⟩ : Addr)) :: .slice ao 0 cap :: Value.int IntKind.i64 slot :: Value.int IntKind.i64 below :: Value.slice bo P.length dap :: undef :: undef :: undef :: undef :: undef :: Value.int IntKind.i64 0 :: Value.bool false :: xs 0 :: xs 1 :: xs 2 :: xs 3 :: xs 4 :: xs 5 :: xs 6 :: xs 7 :: xs 8 :: xs 9 :: xs 10 :: xs 11 :: xs 12 :: xs 13 :: xs 14 :: xs 15 :: xs 16 :: xs 17 :: xs 18 :: xs 19 :: xs 20 :: xs 21 :: xs 22 :: xs 23 :: xs 24 :: xs 25 :: xs 26 :: xs 27 :: xs 28 :: xs 29 :: xs 30 :: undef :: undef :: undef :: undef :: []).toArray, defers := [] })
      (rpASpec 0 0 0 rg ao cap slot below 0 bo dap P) (fun | _ => undef) (by repeat (first | exact trivial | refine ⟨fun _ _ => rfl, ?_⟩)) (by
        intro i y w w' h hs
        unfold rpASpec at *
        split at hs <;> first | exact hs | exact trivial) ⟨?_, ?_, ?_, ?_, ?_, ?_, ?_, ?_, ?_, ?_, ?_, ?_, ?_, ?_, ?_, ?_, ?_, ?_, ?_, ?_, ?_, ?_, ?_, ?_, ?_, ?_, ?_, ?_, ?_, ?_, ?_, trivial⟩ ?_
    · intro xs W hB hp K hK
      rw [if_pos (wanted_none rfl _)]
      clear hp
      go_simp
      exact hK _ _ (Below.refl _ _) rfl
    · intro xs W hB hp K hK
      rw [if_pos (wanted_none rfl _)]
      have h0 : xs 0 = .slice ao 0 cap := hp.1 rfl
      clear hp
      simp only [h0] at hK ⊢
      clear h0
      go_simp
      exact hK _ _ (Below.refl _ _) rfl
    · intro xs W hB hp K hK
      rw [if_pos (wanted_none rfl _)]
      have h1 : xs 1 = .int .i64 0 := hp.1 rfl
      clear hp
      simp only [h1] at hK ⊢
      clear h1
      go_simp
      exact hK _ _ (Below.refl _ _) (by first | rfl | (show Value.bool _ = _; simp; done) | (show Value.bool _ = _; simp; omega))
    · intro xs W hB hp K hK
      rw [if_pos (wanted_none rfl _)]
      have h2 : xs 2 = .bool true := hp.1 rfl
      clear hp
      simp only [h2] at hK ⊢
      clear h2
      go_simp
      exact hK _ _ (Below.refl _ _) rfl
    · intro xs W hB hp K hK
      have hgd : xs 3 = .bool true := hp.1 rfl
      rw [wanted_g (b := true) rfl (by show (match some (xs 3) with | some (.bool b) => some b | _ => none) = some true; rw [hgd])]
      exact hK _ _ (Below.refl _ _) trivial
    · intro xs W hB hp K hK
      have hgd : xs 3 = .bool true := hp.2.1 rfl
      rw [wanted_g (b := true) rfl (by show (match some (xs 3) with | some (.bool b) => some b | _ => none) = some true; rw [hgd])]
      exact hK _ _ (Below.refl _ _) trivial
    · intro xs W hB hp K hK
      have hgd : xs 3 = .bool true := hp.2.1 rfl
      rw [wanted_g (b := true) rfl (by show (match some (xs 3) with | some (.bool b) => some b | _ => none) = some true; rw [hgd])]
      exact hK _ _ (Below.refl _ _) trivial
    · intro xs W hB hp K hK
      have hgd : xs 3 = .bool true := hp.2.1 rfl
      rw [wanted_g (b := true) rfl (by show (match some (xs 3) with | some (.bool b) => some b | _ => none) = some true; rw [hgd])]
      exact hK _ _ (Below.refl _ _) trivial
    · intro xs W hB hp K hK
      have hgd : xs 3 = .bool true := hp.2.1 rfl
      rw [wanted_g (b := true) rfl (by show (match some (xs 3) with | some (.bool b) => some b | _ => none) = some true; rw [hgd])]
      exact hK _ _ (Below.refl _ _) trivial
    · intro xs W hB hp K hK
      rw [if_pos (wanted_none rfl _)]
      have h3 : xs 3 = .bool true := hp.1 rfl
      clear hp
      simp only [h3] at hK ⊢
      clear h3
      go_simp
      exact hK _ _ (Below.refl _ _) rfl
    · intro xs W hB hp K hK
      rw [if_pos (wanted_none rfl _)]
      have h9 : xs 9 = .bool true := hp.1 rfl
      clear hp
      simp only [h9] at hK ⊢
      clear h9
      go_simp
      exact hK _ _ (Below.refl _ _) rfl
    · intro xs W hB hp K hK
      have hgd : xs 10 = .bool true := hp.1 rfl
      rw [wanted_g (b := true) rfl (by show (match some (xs 10) with | some (.bool b) => some b | _ => none) = some true; rw [hgd])]
      exact hK _ _ (Below.refl _ _) trivial
    · intro xs W hB hp K hK
      have hgd : xs 10 = .bool true := hp.2.1 rfl
      rw [wanted_g (b := true) rfl (by show (match some (xs 10) with | some (.bool b) => some b | _ => none) = some true; rw [hgd])]
      exact hK _ _ (Below.refl _ _) trivial
    · intro xs W hB hp K hK
      have hgd : xs 10 = .bool true := hp.2.1 rfl
      rw [wanted_g (b := true) rfl (by show (match some (xs 10) with | some (.bool b) => some b | _ => none) = some true; rw [hgd])]
      exact hK _ _ (Below.refl _ _) trivial
    · intro xs W hB hp K hK
      have hgd : xs 10 = .bool true := hp.2.1 rfl
      rw [wanted_g (b := true) rfl (by show (match some (xs 10) with | some (.bool b) => some b | _ => none) = some true; rw [hgd])]
      exact hK _ _ (Below.refl _ _) trivial
    · intro xs W hB hp K hK
      have hgd : xs 10 = .bool true := hp.1 rfl
      rw [wanted_g (b := true) rfl (by show (match some (xs 10) with | some (.bool b) => some b | _ => none) = some true; rw [hgd])]
      exact hK _ _ (Below.refl _ _) trivial
    · intro xs W hB hp K hK
      have hgd : xs 10 = .bool true := hp.2.2.1 rfl
      rw [wanted_g (b := true) rfl (by show (match some (xs 10) with | some (.bool b) => some b | _ => none) = some true; rw [hgd])]
      exact hK _ _ (Below.refl _ _) trivial
    · intro xs W hB hp K hK
      rw [if_pos (wanted_none rfl _)]
      have h10 : xs 10 = .bool true := hp.1 rfl
      clear hp
      simp only [h10] at hK ⊢
      clear h10
      go_simp
      exact hK _ _ (Below.refl _ _) rfl
    · intro xs W hB hp K hK
      rw [if_pos (wanted_none rfl _)]
      have h17 : xs 17 = .bool true := hp.1 rfl
      clear hp
      simp only [h17] at hK ⊢
      clear h17
      go_simp
      exact hK _ _ (Below.refl _ _) rfl
    · intro xs W hB hp K hK
      have hgd : xs 18 = .bool true := hp.1 rfl
      rw [wanted_g (b := true) rfl (by show (match some (xs 18) with | some (.bool b) => some b | _ => none) = some true; rw [hgd])]
      exact hK _ _ (Below.refl _ _) trivial
    · intro xs W hB hp K hK
      have hgd : xs 18 = .bool true := hp.1 rfl
      rw [wanted_g (b := true) rfl (by show (match some (xs 18) with | some (.bool b) => some b | _ => none) = some true; rw [hgd])]
      exact hK _ _ (Below.refl _ _) trivial
    · intro xs W hB hp K hK
      have hgd : xs 18 = .bool true := hp.1 rfl
      rw [wanted_g (b := true) rfl (by show (match some (xs 18) with | some (.bool b) => some b | _ => none) = some true; rw [hgd])]
      exact hK _ _ (Below.refl _ _) trivial
    · intro xs W hB hp K hK
      have hgd : xs 18 = .bool true := hp.1 rfl
      rw [wanted_g (b := true) rfl (by show (match some (xs 18) with | some (.bool b) => some b | _ => none) = some true; rw [hgd])]
      exact hK _ _ (Below.refl _ _) trivial
    · intro xs W hB hp K hK
      have hgd : xs 18 = .bool true := hp.2.1 rfl
      rw [wanted_g (b := true) rfl (by show (match some (xs 18) with | some (.bool b) => some b | _ => none) = some true; rw [hgd])]
      exact hK _ _ (Below.refl _ _) trivial
    · intro xs W hB hp K hK
      have hgd : xs 18 = .bool true := hp.2.1 rfl
      rw [wanted_g (b := true) rfl (by show (match some (xs 18) with | some (.bool b) => some b | _ => none) = some true; rw [hgd])]
      exact hK _ _ (Below.refl _ _) trivial
    · intro xs W hB hp K hK
      have hgd : xs 18 = .bool true := hp.2.1 rfl
      rw [wanted_g (b := true) rfl (by show (match some (xs 18) with | some (.bool b) => some b | _ => none) = some true; rw [hgd])]
      exact hK _ _ (Below.refl _ _) trivial
    · intro xs W hB hp K hK
      have hgd : xs 18 = .bool true := hp.1 rfl
      rw [wanted_g (b := true) rfl (by show (match some (xs 18) with | some (.bool b) => some b | _ => none) = some true; rw [hgd])]
      exact hK _ _ (Below.refl _ _) trivial
    · intro xs W hB hp K hK
      have hgd : xs 18 = .bool true := hp.2.1 rfl
      rw [wanted_g (b := true) rfl (by show (match some (xs 18) with | some (.bool b) => some b | _ => none) = some true; rw [hgd])]
      exact hK _ _ (Below.refl _ _) trivial
    · intro xs W hB hp K hK
      have hgd : xs 18 = .bool true := hp.2.2.2.2.2.2.1 rfl
      rw [wanted_g (b := true) rfl (by show (match some (xs 18) with | some (.bool b) => some b | _ => none) = some true; rw [hgd])]
      exact hK _ _ (Below.refl _ _) trivial
    · intro xs W hB hp K hK
      have hgd : xs 18 = .bool true := hp.2.1 rfl
      rw [wanted_g (b := true) rfl (by show (match some (xs 18) with | some (.bool b) => some b | _ => none) = some true; rw [hgd])]
      exact hK _ _ (Below.refl _ _) trivial
    · intro xs W hB hp K hK
      rw [if_pos (wanted_none rfl _)]
      have h18 : xs 18 = .bool true := hp.1 rfl
      clear hp
      simp only [h18] at hK ⊢
      clear h18
      go_simp
      exact hK _ _ (Below.refl _ _) rfl
    · intro xs W hB hs
      have h30 : xs 30 = .bool true := hs 30 (by simp)
      simp only [h30]
      go_wp2_with fail
      exact bodyPost_ret (results_tmp2 rfl _ _ _) rfl ⟨by rw [HPV.out]; rfl, hB⟩
  | cons y t =>
    obtain ⟨b, o, rfl, hv0⟩ := hV.at_ 0 (by simp)
    have hcv : w.cell? ⟨b, o + 2, none⟩ = some (.int .i64 y.1.v) := by
      have := hv0 2 (by omega)
      rw [Nat.zero_mul, Nat.add_zero, List.getElem_cons_zero, y.1.at2] at this; exact this
    clear hV hv0
    obtain ⟨m, hm⟩ : ∃ m, (y :: t).length = m + 1 := ⟨t.length, rfl⟩
    have HM : Hid ((y :: t).length = m + 1) := hm
    have HP : Hid (∀ v, y.1.v = v → provesR (some (seed, n)) (y :: t) slot below P = if 0 ≤ v ∧ v < below ∧ meetsR (some (seed, n)) (y :: t) 1 slot v (sha P) = true then some v else none) := fun v e => by subst e; rfl
    rw [hm]
    obtain ⟨v, hv⟩ : ∃ v, y.1.v = v := ⟨_, rfl⟩
    have HP2 : Hid _ := HP.out v hv
    rw [hv] at hcv
    have HCV : Hid (w.cell? ⟨b, o + 2, none⟩ = some (.int .i64 v)) := hcv
    have hbw : b < w.heap.size := World.block_lt_of_cell? w _ hcv
    clear hm hv HP hcv
    by_cases q0 : v < 0
    · have HPV : Hid (provesR (some (seed, n)) (y :: t) slot below P = none) := HP2.out.trans (if_neg (by omega))
      go_enter Try.func13, Try.ntmps13
      go_wp2_with fail
      refine wp_region_growG (by kernel_rfl) (by kernel_rfl) (fun xs => { tmps := (Value.pointer (some (⟨rg, 0, none⟩ : Addr)) :: .slice (some ⟨b, o, none⟩) (m + 1) cap :: Value.int IntKind.i64 slot :: Value.int IntKind.i64 below :: Value.slice bo P.length dap :: undef :: undef :: undef :: undef :: undef :: Value.int IntKind.i64 0 :: Value.bool false :: xs 0 :: xs 1 :: xs 2 :: xs 3 :: xs 4 :: xs 5 :: xs 6 :: xs 7 :: xs 8 :: xs 9 :: xs 10 :: xs 11 :: xs 12 :: xs 13 :: xs 14 :: xs 15 :: xs 16 :: xs 17 :: xs 18 :: xs 19 :: xs 20 :: xs 21 :: xs 22 :: xs 23 :: xs 24 :: xs 25 :: xs 26 :: xs 27 :: xs 28 :: xs 29 :: xs 30 :: undef :: undef :: undef :: undef :: []).toArray, defers := [] })
        (rpBSpec b o m rg none cap slot below v bo dap P) (fun | _ => undef) (by repeat (first | exact trivial | refine ⟨fun _ _ => rfl, ?_⟩)) (by
          intro i y w w' h hs
          unfold rpBSpec at *
          split at hs <;> first | exact hs | exact trivial) ⟨?_, ?_, ?_, ?_, ?_, ?_, ?_, ?_, ?_, ?_, ?_, ?_, ?_, ?_, ?_, ?_, ?_, ?_, ?_, ?_, ?_, ?_, ?_, ?_, ?_, ?_, ?_, ?_, ?_, ?_, ?_, trivial⟩ ?_
      · intro xs W hB hp K hK
        rw [if_pos (wanted_none rfl _)]
        clear hp
        go_simp
        exact hK _ _ (Below.refl _ _) rfl
      · intro xs W hB hp K hK
        rw [if_pos (wanted_none rfl _)]
        have h0 : xs 0 = .slice (some ⟨b, o, none⟩) (m + 1) cap := hp.1 rfl
        clear hp
        simp only [h0] at hK ⊢
        clear h0
        go_simp
        exact hK _ _ (Below.refl _ _) rfl
      · intro xs W hB hp K hK
        rw [if_pos (wanted_none rfl _)]
        have h1 : xs 1 = .int .i64 ((m : Int) + 1) := hp.1 rfl
        clear hp
        simp only [h1] at hK ⊢
        clear h1
        go_simp
        exact hK _ _ (Below.refl _ _) (by first | rfl | (show Value.bool _ = _; simp; done) | (show Value.bool _ = _; simp; omega))
      · intro xs W hB hp K hK
        rw [if_pos (wanted_none rfl _)]
        have h2 : xs 2 = .bool false := hp.1 rfl
        clear hp
        simp only [h2] at hK ⊢
        clear h2
        go_simp
        exact hK _ _ (Below.refl _ _) rfl
      · intro xs W hB hp K hK
        have hgd : xs 3 = .bool false := hp.1 rfl
        rw [wanted_g (b := false) rfl (by show (match some (xs 3) with | some (.bool b) => some b | _ => none) = some false; rw [hgd])]
        rw [if_pos (show (false == false) = true from rfl)]
        clear hgd
        clear hp
        go_simp
        exact hK _ _ (Below.refl _ _) rfl
      · intro xs W hB hp K hK
        have hgd : xs 3 = .bool false := hp.2.1 rfl
        rw [wanted_g (b := false) rfl (by show (match some (xs 3) with | some (.bool b) => some b | _ => none) = some false; rw [hgd])]
        rw [if_pos (show (false == false) = true from rfl)]
        clear hgd
        have h4 : xs 4 = .slice (some ⟨b, o, none⟩) (m + 1) cap := hp.1 rfl
        clear hp
        simp only [h4] at hK ⊢
        clear h4
        go_simp
        exact hK _ _ (Below.refl _ _) rfl
      · intro xs W hB hp K hK
        have hgd : xs 3 = .bool false := hp.2.1 rfl
        rw [wanted_g (b := false) rfl (by show (match some (xs 3) with | some (.bool b) => some b | _ => none) = some false; rw [hgd])]
        rw [if_pos (show (false == false) = true from rfl)]
        clear hgd
        have h5 : xs 5 = .pointer (some ⟨b, o, none⟩) := hp.1 rfl
        clear hp
        simp only [h5] at hK ⊢
        clear h5
        go_simp
        exact hK _ _ (Below.refl _ _) rfl
      · intro xs W hB hp K hK
        have hgd : xs 3 = .bool false := hp.2.1 rfl
        rw [wanted_g (b := false) rfl (by show (match some (xs 3) with | some (.bool b) => some b | _ => none) = some false; rw [hgd])]
        rw [if_pos (show (false == false) = true from rfl)]
        clear hgd
        have h6 : xs 6 = .pointer (some ⟨b, o + 2, none⟩) := hp.1 rfl
        clear hp
        have cc : W.cell? ⟨b, o + 2, none⟩ = some (.int .i64 v) := (hB.cell hbw).trans HCV.out
        simp only [h6] at hK ⊢
        clear h6
        go_simp
        exact hK _ _ (Below.refl _ _) rfl
      · intro xs W hB hp K hK
        have hgd : xs 3 = .bool false := hp.2.1 rfl
        rw [wanted_g (b := false) rfl (by show (match some (xs 3) with | some (.bool b) => some b | _ => none) = some false; rw [hgd])]
        rw [if_pos (show (false == false) = true from rfl)]
        clear hgd
        have h7 : xs 7 = .int .i64 v := hp.1 rfl
        clear hp
        simp only [h7] at hK ⊢
        clear h7
        go_simp
        exact hK _ _ (Below.refl _ _) (by first | rfl | (show Value.bool _ = _; simp; done) | (show Value.bool _ = _; simp; omega))
      · intro xs W hB hp K hK
        rw [if_pos (wanted_none rfl _)]
        have h3 : xs 3 = .bool false := hp.1 rfl
        have h8 : xs 8 = .bool true := hp.2.1 rfl
        clear hp
        simp only [h3, h8] at hK ⊢
        clear h3 h8
        go_simp
        exact hK _ _ (Below.refl _ _) rfl
      · intro xs W hB hp K hK
        rw [if_pos (wanted_none rfl _)]
        have h9 : xs 9 = .bool true := hp.1 rfl
        clear hp
        simp only [h9] at hK ⊢
        clear h9
        go_simp
        exact hK _ _ (Below.refl _ _) rfl
      · intro xs W hB hp K hK
        have hgd : xs 10 = .bool true := hp.1 rfl
        rw [wanted_g (b := true) rfl (by show (match some (xs 10) with | some (.bool b) => some b | _ => none) = some true; rw [hgd])]
        exact hK _ _ (Below.refl _ _) trivial
      · intro xs W hB hp K hK
        have hgd : xs 10 = .bool true := hp.2.1 rfl
        rw [wanted_g (b := true) rfl (by show (match some (xs 10) with | some (.bool b) => some b | _ => none) = some true; rw [hgd])]
        exact hK _ _ (Below.refl _ _) trivial
      · intro xs W hB hp K hK
        have hgd : xs 10 = .bool true := hp.2.1 rfl
        rw [wanted_g (b := true) rfl (by show (match some (xs 10) with | some (.bool b) => some b | _ => none) = some true; rw [hgd])]
        exact hK _ _ (Below.refl _ _) trivial
      · intro xs W hB hp K hK
        have hgd : xs 10 = .bool true := hp.2.1 rfl
        rw [wanted_g (b := true) rfl (by show (match some (xs 10) with | some (.bool b) => some b | _ => none) = some true; rw [hgd])]
        exact hK _ _ (Below.refl _ _) trivial
      · intro xs W hB hp K hK
        have hgd : xs 10 = .bool true := hp.1 rfl
        rw [wanted_g (b := true) rfl (by show (match some (xs 10) with | some (.bool b) => some b | _ => none) = some true; rw [hgd])]
        exact hK _ _ (Below.refl _ _) trivial
      · intro xs W hB hp K hK
        have hgd : xs 10 = .bool true := hp.2.2.1 rfl
        rw [wanted_g (b := true) rfl (by show (match some (xs 10) with | some (.bool b) => some b | _ => none) = some true; rw [hgd])]
        exact hK _ _ (Below.refl _ _) trivial
      · intro xs W hB hp K hK
        rw [if_pos (wanted_none rfl _)]
        have h10 : xs 10 = .bool true := hp.1 rfl
        clear hp
        simp only [h10] at hK ⊢
        clear h10
        go_simp
        exact hK _ _ (Below.refl _ _) rfl
      · intro xs W hB hp K hK
        rw [if_pos (wanted_none rfl _)]
        have h17 : xs 17 = .bool true := hp.1 rfl
        clear hp
        simp only [h17] at hK ⊢
        clear h17
        go_simp
        exact hK _ _ (Below.refl _ _) rfl
      · intro xs W hB hp K hK
        have hgd : xs 18 = .bool true := hp.1 rfl
        rw [wanted_g (b := true) rfl (by show (match some (xs 18) with | some (.bool b) => some b | _ => none) = some true; rw [hgd])]
        exact hK _ _ (Below.refl _ _) trivial
      · intro xs W hB hp K hK
        have hgd : xs 18 = .bool true := hp.1 rfl
        rw [wanted_g (b := true) rfl (by show (match some (xs 18) with | some (.bool b) => some b | _ => none) = some true; rw [hgd])]
        exact hK _ _ (Below.refl _ _) trivial
      · intro xs W hB hp K hK
        have hgd : xs 18 = .bool true := hp.1 rfl
        rw [wanted_g (b := true) rfl (by show (match some (xs 18) with | some (.bool b) => some b | _ => none) = some true; rw [hgd])]
        exact hK _ _ (Below.refl _ _) trivial
      · intro xs W hB hp K hK
        have hgd : xs 18 = .bool true := hp.1 rfl
        rw [wanted_g (b := true) rfl (by show (match some (xs 18) with | some (.bool b) => some b | _ => none) = some true; rw [hgd])]
        exact hK _ _ (Below.refl _ _) trivial
      · intro xs W hB hp K hK
        have hgd : xs 18 = .bool true := hp.2.1 rfl
        rw [wanted_g (b := true) rfl (by show (match some (xs 18) with | some (.bool b) => some b | _ => none) = some true; rw [hgd])]
        exact hK _ _ (Below.refl _ _) trivial
      · intro xs W hB hp K hK
        have hgd : xs 18 = .bool true := hp.2.1 rfl
        rw [wanted_g (b := true) rfl (by show (match some (xs 18) with | some (.bool b) => some b | _ => none) = some true; rw [hgd])]
        exact hK _ _ (Below.refl _ _) trivial
      · intro xs W hB hp K hK
        have hgd : xs 18 = .bool true := hp.2.1 rfl
        rw [wanted_g (b := true) rfl (by show (match some (xs 18) with | some (.bool b) => some b | _ => none) = some true; rw [hgd])]
        exact hK _ _ (Below.refl _ _) trivial
      · intro xs W hB hp K hK
        have hgd : xs 18 = .bool true := hp.1 rfl
        rw [wanted_g (b := true) rfl (by show (match some (xs 18) with | some (.bool b) => some b | _ => none) = some true; rw [hgd])]
        exact hK _ _ (Below.refl _ _) trivial
      · intro xs W hB hp K hK
        have hgd : xs 18 = .bool true := hp.2.1 rfl
        rw [wanted_g (b := true) rfl (by show (match some (xs 18) with | some (.bool b) => some b | _ => none) = some true; rw [hgd])]
        exact hK _ _ (Below.refl _ _) trivial
      · intro xs W hB hp K hK
        have hgd : xs 18 = .bool true := hp.2.2.2.2.2.2.1 rfl
        rw [wanted_g (b := true) rfl (by show (match some (xs 18) with | some (.bool b) => some b | _ => none) = some true; rw [hgd])]
        exact hK _ _ (Below.refl _ _) trivial
      · intro xs W hB hp K hK
        have hgd : xs 18 = .bool true := hp.2.1 rfl
        rw [wanted_g (b := true) rfl (by show (match some (xs 18) with | some (.bool b) => some b | _ => none) = some true; rw [hgd])]
        exact hK _ _ (Below.refl _ _) trivial
      · intro xs W hB hp K hK
        rw [if_pos (wanted_none rfl _)]
        have h18 : xs 18 = .bool true := hp.1 rfl
        clear hp
        simp only [h18] at hK ⊢
        clear h18
        go_simp
        exact hK _ _ (Below.refl _ _) rfl
      · intro xs W hB hs
        have h30 : xs 30 = .bool true := hs 30 (by simp)
        simp only [h30]
        go_wp2_with fail
        exact bodyPost_ret (results_tmp2 rfl _ _ _) rfl ⟨by rw [HPV.out]; rfl, hB⟩
    · by_cases q1 : below ≤ v
      · have HPV : Hid (provesR (some (seed, n)) (y :: t) slot below P = none) := HP2.out.trans (if_neg (by omega))
        go_enter Try.func13, Try.ntmps13
        go_wp2_with fail
        refine wp_region_growG (by kernel_rfl) (by kernel_rfl) (fun xs => { tmps := (Value.pointer (some (⟨rg, 0, none⟩ : Addr)) :: .slice (some ⟨b, o, none⟩) (m + 1) cap :: Value.int IntKind.i64 slot :: Value.int IntKind.i64 below :: Value.slice bo P.length dap :: undef :: undef :: undef :: undef :: undef :: Value.int IntKind.i64 0 :: Value.bool false :: xs 0 :: xs 1 :: xs 2 :: xs 3 :: xs 4 :: xs 5 :: xs 6 :: xs 7 :: xs 8 :: xs 9 :: xs 10 :: xs 11 :: xs 12 :: xs 13 :: xs 14 :: xs 15 :: xs 16 :: xs 17 :: xs 18 :: xs 19 :: xs 20 :: xs 21 :: xs 22 :: xs 23 :: xs 24 :: xs 25 :: xs 26 :: xs 27 :: xs 28 :: xs 29 :: xs 30 :: undef :: undef :: undef :: undef :: []).toArray, defers := [] })
          (rpCSpec b o m rg none cap slot below v bo dap P) (fun | _ => undef) (by repeat (first | exact trivial | refine ⟨fun _ _ => rfl, ?_⟩)) (by
            intro i y w w' h hs
            unfold rpCSpec at *
            split at hs <;> first | exact hs | exact trivial) ⟨?_, ?_, ?_, ?_, ?_, ?_, ?_, ?_, ?_, ?_, ?_, ?_, ?_, ?_, ?_, ?_, ?_, ?_, ?_, ?_, ?_, ?_, ?_, ?_, ?_, ?_, ?_, ?_, ?_, ?_, ?_, trivial⟩ ?_
        · intro xs W hB hp K hK
          rw [if_pos (wanted_none rfl _)]
          clear hp
          go_simp
          exact hK _ _ (Below.refl _ _) rfl
        · intro xs W hB hp K hK
          rw [if_pos (wanted_none rfl _)]
          have h0 : xs 0 = .slice (some ⟨b, o, none⟩) (m + 1) cap := hp.1 rfl
          clear hp
          simp only [h0] at hK ⊢
          clear h0
          go_simp
          exact hK _ _ (Below.refl _ _) rfl
        · intro xs W hB hp K hK
          rw [if_pos (wanted_none rfl _)]
          have h1 : xs 1 = .int .i64 ((m : Int) + 1) := hp.1 rfl
          clear hp
          simp only [h1] at hK ⊢
          clear h1
          go_simp
          exact hK _ _ (Below.refl _ _) (by first | rfl | (show Value.bool _ = _; simp; done) | (show Value.bool _ = _; simp; omega))
        · intro xs W hB hp K hK
          rw [if_pos (wanted_none rfl _)]
          have h2 : xs 2 = .bool false := hp.1 rfl
          clear hp
          simp only [h2] at hK ⊢
          clear h2
          go_simp
          exact hK _ _ (Below.refl _ _) rfl
        · intro xs W hB hp K hK
          have hgd : xs 3 = .bool false := hp.1 rfl
          rw [wanted_g (b := false) rfl (by show (match some (xs 3) with | some (.bool b) => some b | _ => none) = some false; rw [hgd])]
          rw [if_pos (show (false == false) = true from rfl)]
          clear hgd
          clear hp
          go_simp
          exact hK _ _ (Below.refl _ _) rfl
        · intro xs W hB hp K hK
          have hgd : xs 3 = .bool false := hp.2.1 rfl
          rw [wanted_g (b := false) rfl (by show (match some (xs 3) with | some (.bool b) => some b | _ => none) = some false; rw [hgd])]
          rw [if_pos (show (false == false) = true from rfl)]
          clear hgd
          have h4 : xs 4 = .slice (some ⟨b, o, none⟩) (m + 1) cap := hp.1 rfl
          clear hp
          simp only [h4] at hK ⊢
          clear h4
          go_simp
          exact hK _ _ (Below.refl _ _) rfl
        · intro xs W hB hp K hK
          have hgd : xs 3 = .bool false := hp.2.1 rfl
          rw [wanted_g (b := false) rfl (by show (match some (xs 3) with | some (.bool b) => some b | _ => none) = some false; rw [hgd])]
          rw [if_pos (show (false == false) = true from rfl)]
          clear hgd
          have h5 : xs 5 = .pointer (some ⟨b, o, none⟩) := hp.1 rfl
          clear hp
          simp only [h5] at hK ⊢
          clear h5
          go_simp
          exact hK _ _ (Below.refl _ _) rfl
        · intro xs W hB hp K hK
          have hgd : xs 3 = .bool false := hp.2.1 rfl
          rw [wanted_g (b := false) rfl (by show (match some (xs 3) with | some (.bool b) => some b | _ => none) = some false; rw [hgd])]
          rw [if_pos (show (false == false) = true from rfl)]
          clear hgd
          have h6 : xs 6 = .pointer (some ⟨b, o + 2, none⟩) := hp.1 rfl
          clear hp
          have cc : W.cell? ⟨b, o + 2, none⟩ = some (.int .i64 v) := (hB.cell hbw).trans HCV.out
          simp only [h6] at hK ⊢
          clear h6
          go_simp
          exact hK _ _ (Below.refl _ _) rfl
        · intro xs W hB hp K hK
          have hgd : xs 3 = .bool false := hp.2.1 rfl
          rw [wanted_g (b := false) rfl (by show (match some (xs 3) with | some (.bool b) => some b | _ => none) = some false; rw [hgd])]
          rw [if_pos (show (false == false) = true from rfl)]
          clear hgd
          have h7 : xs 7 = .int .i64 v := hp.1 rfl
          clear hp
          simp only [h7] at hK ⊢
          clear h7
          go_simp
          exact hK _ _ (Below.refl _ _) (by first | rfl | (show Value.bool _ = _; simp; done) | (show Value.bool _ = _; simp; omega))
        · intro xs W hB hp K hK
          rw [if_pos (wanted_none rfl _)]
          have h3 : xs 3 = .bool false := hp.1 rfl
          have h8 : xs 8 = .bool false := hp.2.1 rfl
          clear hp
          simp only [h3, h8] at hK ⊢
          clear h3 h8
          go_simp
          exact hK _ _ (Below.refl _ _) rfl
        · intro xs W hB hp K hK
          rw [if_pos (wanted_none rfl _)]
          have h9 : xs 9 = .bool false := hp.1 rfl
          clear hp
          simp only [h9] at hK ⊢
          clear h9
          go_simp
          exact hK _ _ (Below.refl _ _) rfl
        · intro xs W hB hp K hK
          have hgd : xs 10 = .bool false := hp.1 rfl
          rw [wanted_g (b := false) rfl (by show (match some (xs 10) with | some (.bool b) => some b | _ => none) = some false; rw [hgd])]
          rw [if_pos (show (false == false) = true from rfl)]
          clear hgd
          clear hp
          go_simp
          exact hK _ _ (Below.refl _ _) rfl
        · intro xs W hB hp K hK
          have hgd : xs 10 = .bool false := hp.2.1 rfl
          rw [wanted_g (b := false) rfl (by show (match some (xs 10) with | some (.bool b) => some b | _ => none) = some false; rw [hgd])]
          rw [if_pos (show (false == false) = true from rfl)]
          clear hgd
          have h11 : xs 11 = .slice (some ⟨b, o, none⟩) (m + 1) cap := hp.1 rfl
          clear hp
          simp only [h11] at hK ⊢
          clear h11
          go_simp
          exact hK _ _ (Below.refl _ _) rfl
        · intro xs W hB hp K hK
          have hgd : xs 10 = .bool false := hp.2.1 rfl
          rw [wanted_g (b := false) rfl (by show (match some (xs 10) with | some (.bool b) => some b | _ => none) = some false; rw [hgd])]
          rw [if_pos (show (false == false) = true from rfl)]
          clear hgd
          have h12 : xs 12 = .pointer (some ⟨b, o, none⟩) := hp.1 rfl
          clear hp
          simp only [h12] at hK ⊢
          clear h12
          go_simp
          exact hK _ _ (Below.refl _ _) rfl
        · intro xs W hB hp K hK
          have hgd : xs 10 = .bool false := hp.2.1 rfl
          rw [wanted_g (b := false) rfl (by show (match some (xs 10) with | some (.bool b) => some b | _ => none) = some false; rw [hgd])]
          rw [if_pos (show (false == false) = true from rfl)]
          clear hgd
          have h13 : xs 13 = .pointer (some ⟨b, o + 2, none⟩) := hp.1 rfl
          clear hp
          have cc : W.cell? ⟨b, o + 2, none⟩ = some (.int .i64 v) := (hB.cell hbw).trans HCV.out
          simp only [h13] at hK ⊢
          clear h13
          go_simp
          exact hK _ _ (Below.refl _ _) rfl
        · intro xs W hB hp K hK
          have hgd : xs 10 = .bool false := hp.1 rfl
          rw [wanted_g (b := false) rfl (by show (match some (xs 10) with | some (.bool b) => some b | _ => none) = some false; rw [hgd])]
          rw [if_pos (show (false == false) = true from rfl)]
          clear hgd
          clear hp
          go_simp
          exact hK _ _ (Below.refl _ _) rfl
        · intro xs W hB hp K hK
          have hgd : xs 10 = .bool false := hp.2.2.1 rfl
          rw [wanted_g (b := false) rfl (by show (match some (xs 10) with | some (.bool b) => some b | _ => none) = some false; rw [hgd])]
          rw [if_pos (show (false == false) = true from rfl)]
          clear hgd
          have h14 : xs 14 = .int .i64 v := hp.1 rfl
          have h15 : xs 15 = .int .i64 below := hp.2.1 rfl
          clear hp
          simp only [h14, h15] at hK ⊢
          clear h14 h15
          go_simp
          exact hK _ _ (Below.refl _ _) (by first | rfl | (show Value.bool _ = _; simp; done) | (show Value.bool _ = _; simp; omega))
        · intro xs W hB hp K hK
          rw [if_pos (wanted_none rfl _)]
          have h10 : xs 10 = .bool false := hp.1 rfl
          have h16 : xs 16 = .bool true := hp.2.1 rfl
          clear hp
          simp only [h10, h16] at hK ⊢
          clear h10 h16
          go_simp
          exact hK _ _ (Below.refl _ _) rfl
        · intro xs W hB hp K hK
          rw [if_pos (wanted_none rfl _)]
          have h17 : xs 17 = .bool true := hp.1 rfl
          clear hp
          simp only [h17] at hK ⊢
          clear h17
          go_simp
          exact hK _ _ (Below.refl _ _) rfl
        · intro xs W hB hp K hK
          have hgd : xs 18 = .bool true := hp.1 rfl
          rw [wanted_g (b := true) rfl (by show (match some (xs 18) with | some (.bool b) => some b | _ => none) = some true; rw [hgd])]
          exact hK _ _ (Below.refl _ _) trivial
        · intro xs W hB hp K hK
          have hgd : xs 18 = .bool true := hp.1 rfl
          rw [wanted_g (b := true) rfl (by show (match some (xs 18) with | some (.bool b) => some b | _ => none) = some true; rw [hgd])]
          exact hK _ _ (Below.refl _ _) trivial
        · intro xs W hB hp K hK
          have hgd : xs 18 = .bool true := hp.1 rfl
          rw [wanted_g (b := true) rfl (by show (match some (xs 18) with | some (.bool b) => some b | _ => none) = some true; rw [hgd])]
          exact hK _ _ (Below.refl _ _) trivial
        · intro xs W hB hp K hK
          have hgd : xs 18 = .bool true := hp.1 rfl
          rw [wanted_g (b := true) rfl (by show (match some (xs 18) with | some (.bool b) => some b | _ => none) = some true; rw [hgd])]
          exact hK _ _ (Below.refl _ _) trivial
        · intro xs W hB hp K hK
          have hgd : xs 18 = .bool true := hp.2.1 rfl
          rw [wanted_g (b := true) rfl (by show (match some (xs 18) with | some (.bool b) => some b | _ => none) = some true; rw [hgd])]
          exact hK _ _ (Below.refl _ _) trivial
        · intro xs W hB hp K hK
          have hgd : xs 18 = .bool true := hp.2.1 rfl
          rw [wanted_g (b := true) rfl (by show (match some (xs 18) with | some (.bool b) => some b | _ => none) = some true; rw [hgd])]
          exact hK _ _ (Below.refl _ _) trivial
        · intro xs W hB hp K hK
          have hgd : xs 18 = .bool true := hp.2.1 rfl
          rw [wanted_g (b := true) rfl (by show (match some (xs 18) with | some (.bool b) => some b | _ => none) = some true; rw [hgd])]
          exact hK _ _ (Below.refl _ _) trivial
        · intro xs W hB hp K hK
          have hgd : xs 18 = .bool true := hp.1 rfl
          rw [wanted_g (b := true) rfl (by show (match some (xs 18) with | some (.bool b) => some b | _ => none) = some true; rw [hgd])]
          exact hK _ _ (Below.refl _ _) trivial
        · intro xs W hB hp K hK
          have hgd : xs 18 = .bool true := hp.2.1 rfl
          rw [wanted_g (b := true) rfl (by show (match some (xs 18) with | some (.bool b) => some b | _ => none) = some true; rw [hgd])]
          exact hK _ _ (Below.refl _ _) trivial
        · intro xs W hB hp K hK
          have hgd : xs 18 = .bool true := hp.2.2.2.2.2.2.1 rfl
          rw [wanted_g (b := true) rfl (by show (match some (xs 18) with | some (.bool b) => some b | _ => none) = some true; rw [hgd])]
          exact hK _ _ (Below.refl _ _) trivial
        · intro xs W hB hp K hK
          have hgd : xs 18 = .bool true := hp.2.1 rfl
          rw [wanted_g (b := true) rfl (by show (match some (xs 18) with | some (.bool b) => some b | _ => none) = some true; rw [hgd])]
          exact hK _ _ (Below.refl _ _) trivial
        · intro xs W hB hp K hK
          rw [if_pos (wanted_none rfl _)]
          have h18 : xs 18 = .bool true := hp.1 rfl
          clear hp
          simp only [h18] at hK ⊢
          clear h18
          go_simp
          exact hK _ _ (Below.refl _ _) rfl
        · intro xs W hB hs
          have h30 : xs 30 = .bool true := hs 30 (by simp)
          simp only [h30]
          go_wp2_with fail
          exact bodyPost_ret (results_tmp2 rfl _ _ _) rfl ⟨by rw [HPV.out]; rfl, hB⟩
      · cases hmt : meetsR (some (seed, n)) (y :: t) 1 slot v (sha P)
        · have HPV : Hid (provesR (some (seed, n)) (y :: t) slot below P = none) := HP2.out.trans (if_neg (by rw [hmt]; simp))
          have HMT : Hid (meetsR (some (seed, n)) (y :: t) 1 slot v (sha P) = false) := hmt
          clear hmt
          go_enter Try.func13, Try.ntmps13
          go_wp2_with fail
          refine wp_region_growG (by kernel_rfl) (by kernel_rfl) (fun xs => { tmps := (Value.pointer (some (⟨rg, 0, none⟩ : Addr)) :: .slice (some ⟨b, o, none⟩) (m + 1) cap :: Value.int IntKind.i64 slot :: Value.int IntKind.i64 below :: Value.slice bo P.length dap :: undef :: undef :: undef :: undef :: undef :: Value.int IntKind.i64 0 :: Value.bool false :: xs 0 :: xs 1 :: xs 2 :: xs 3 :: xs 4 :: xs 5 :: xs 6 :: xs 7 :: xs 8 :: xs 9 :: xs 10 :: xs 11 :: xs 12 :: xs 13 :: xs 14 :: xs 15 :: xs 16 :: xs 17 :: xs 18 :: xs 19 :: xs 20 :: xs 21 :: xs 22 :: xs 23 :: xs 24 :: xs 25 :: xs 26 :: xs 27 :: xs 28 :: xs 29 :: xs 30 :: undef :: undef :: undef :: undef :: []).toArray, defers := [] })
            (rpDSpec b o m rg none cap slot below v bo dap P) (fun | _ => undef) (by repeat (first | exact trivial | refine ⟨fun _ _ => rfl, ?_⟩)) (by
              intro i y w w' h hs
              unfold rpDSpec at *
              split at hs <;> first | exact hs | exact trivial) ⟨?_, ?_, ?_, ?_, ?_, ?_, ?_, ?_, ?_, ?_, ?_, ?_, ?_, ?_, ?_, ?_, ?_, ?_, ?_, ?_, ?_, ?_, ?_, ?_, ?_, ?_, ?_, ?_, ?_, ?_, ?_, trivial⟩ ?_
          · intro xs W hB hp K hK
            rw [if_pos (wanted_none rfl _)]
            clear hp
            go_simp
            exact hK _ _ (Below.refl _ _) rfl
          · intro xs W hB hp K hK
            rw [if_pos (wanted_none rfl _)]
            have h0 : xs 0 = .slice (some ⟨b, o, none⟩) (m + 1) cap := hp.1 rfl
            clear hp
            simp only [h0] at hK ⊢
            clear h0
            go_simp
            exact hK _ _ (Below.refl _ _) rfl
          · intro xs W hB hp K hK
            rw [if_pos (wanted_none rfl _)]
            have h1 : xs 1 = .int .i64 ((m : Int) + 1) := hp.1 rfl
            clear hp
            simp only [h1] at hK ⊢
            clear h1
            go_simp
            exact hK _ _ (Below.refl _ _) (by first | rfl | (show Value.bool _ = _; simp; done) | (show Value.bool _ = _; simp; omega))
          · intro xs W hB hp K hK
            rw [if_pos (wanted_none rfl _)]
            have h2 : xs 2 = .bool false := hp.1 rfl
            clear hp
            simp only [h2] at hK ⊢
            clear h2
            go_simp
            exact hK _ _ (Below.refl _ _) rfl
          · intro xs W hB hp K hK
            have hgd : xs 3 = .bool false := hp.1 rfl
            rw [wanted_g (b := false) rfl (by show (match some (xs 3) with | some (.bool b) => some b | _ => none) = some false; rw [hgd])]
            rw [if_pos (show (false == false) = true from rfl)]
            clear hgd
            clear hp
            go_simp
            exact hK _ _ (Below.refl _ _) rfl
          · intro xs W hB hp K hK
            have hgd : xs 3 = .bool false := hp.2.1 rfl
            rw [wanted_g (b := false) rfl (by show (match some (xs 3) with | some (.bool b) => some b | _ => none) = some false; rw [hgd])]
            rw [if_pos (show (false == false) = true from rfl)]
            clear hgd
            have h4 : xs 4 = .slice (some ⟨b, o, none⟩) (m + 1) cap := hp.1 rfl
            clear hp
            simp only [h4] at hK ⊢
            clear h4
            go_simp
            exact hK _ _ (Below.refl _ _) rfl
          · intro xs W hB hp K hK
            have hgd : xs 3 = .bool false := hp.2.1 rfl
            rw [wanted_g (b := false) rfl (by show (match some (xs 3) with | some (.bool b) => some b | _ => none) = some false; rw [hgd])]
            rw [if_pos (show (false == false) = true from rfl)]
            clear hgd
            have h5 : xs 5 = .pointer (some ⟨b, o, none⟩) := hp.1 rfl
            clear hp
            simp only [h5] at hK ⊢
            clear h5
            go_simp
            exact hK _ _ (Below.refl _ _) rfl
          · intro xs W hB hp K hK
            have hgd : xs 3 = .bool false := hp.2.1 rfl
            rw [wanted_g (b := false) rfl (by show (match some (xs 3) with | some (.bool b) => some b | _ => none) = some false; rw [hgd])]
            rw [if_pos (show (false == false) = true from rfl)]
            clear hgd
            have h6 : xs 6 = .pointer (some ⟨b, o + 2, none⟩) := hp.1 rfl
            clear hp
            have cc : W.cell? ⟨b, o + 2, none⟩ = some (.int .i64 v) := (hB.cell hbw).trans HCV.out
            simp only [h6] at hK ⊢
            clear h6
            go_simp
            exact hK _ _ (Below.refl _ _) rfl
          · intro xs W hB hp K hK
            have hgd : xs 3 = .bool false := hp.2.1 rfl
            rw [wanted_g (b := false) rfl (by show (match some (xs 3) with | some (.bool b) => some b | _ => none) = some false; rw [hgd])]
            rw [if_pos (show (false == false) = true from rfl)]
            clear hgd
            have h7 : xs 7 = .int .i64 v := hp.1 rfl
            clear hp
            simp only [h7] at hK ⊢
            clear h7
            go_simp
            exact hK _ _ (Below.refl _ _) (by first | rfl | (show Value.bool _ = _; simp; done) | (show Value.bool _ = _; simp; omega))
          · intro xs W hB hp K hK
            rw [if_pos (wanted_none rfl _)]
            have h3 : xs 3 = .bool false := hp.1 rfl
            have h8 : xs 8 = .bool false := hp.2.1 rfl
            clear hp
            simp only [h3, h8] at hK ⊢
            clear h3 h8
            go_simp
            exact hK _ _ (Below.refl _ _) rfl
          · intro xs W hB hp K hK
            rw [if_pos (wanted_none rfl _)]
            have h9 : xs 9 = .bool false := hp.1 rfl
            clear hp
            simp only [h9] at hK ⊢
            clear h9
            go_simp
            exact hK _ _ (Below.refl _ _) rfl
          · intro xs W hB hp K hK
            have hgd : xs 10 = .bool false := hp.1 rfl
            rw [wanted_g (b := false) rfl (by show (match some (xs 10) with | some (.bool b) => some b | _ => none) = some false; rw [hgd])]
            rw [if_pos (show (false == false) = true from rfl)]
            clear hgd
            clear hp
            go_simp
            exact hK _ _ (Below.refl _ _) rfl
          · intro xs W hB hp K hK
            have hgd : xs 10 = .bool false := hp.2.1 rfl
            rw [wanted_g (b := false) rfl (by show (match some (xs 10) with | some (.bool b) => some b | _ => none) = some false; rw [hgd])]
            rw [if_pos (show (false == false) = true from rfl)]
            clear hgd
            have h11 : xs 11 = .slice (some ⟨b, o, none⟩) (m + 1) cap := hp.1 rfl
            clear hp
            simp only [h11] at hK ⊢
            clear h11
            go_simp
            exact hK _ _ (Below.refl _ _) rfl
          · intro xs W hB hp K hK
            have hgd : xs 10 = .bool false := hp.2.1 rfl
            rw [wanted_g (b := false) rfl (by show (match some (xs 10) with | some (.bool b) => some b | _ => none) = some false; rw [hgd])]
            rw [if_pos (show (false == false) = true from rfl)]
            clear hgd
            have h12 : xs 12 = .pointer (some ⟨b, o, none⟩) := hp.1 rfl
            clear hp
            simp only [h12] at hK ⊢
            clear h12
            go_simp
            exact hK _ _ (Below.refl _ _) rfl
          · intro xs W hB hp K hK
            have hgd : xs 10 = .bool false := hp.2.1 rfl
            rw [wanted_g (b := false) rfl (by show (match some (xs 10) with | some (.bool b) => some b | _ => none) = some false; rw [hgd])]
            rw [if_pos (show (false == false) = true from rfl)]
            clear hgd
            have h13 : xs 13 = .pointer (some ⟨b, o + 2, none⟩) := hp.1 rfl
            clear hp
            have cc : W.cell? ⟨b, o + 2, none⟩ = some (.int .i64 v) := (hB.cell hbw).trans HCV.out
            simp only [h13] at hK ⊢
            clear h13
            go_simp
            exact hK _ _ (Below.refl _ _) rfl
          · intro xs W hB hp K hK
            have hgd : xs 10 = .bool false := hp.1 rfl
            rw [wanted_g (b := false) rfl (by show (match some (xs 10) with | some (.bool b) => some b | _ => none) = some false; rw [hgd])]
            rw [if_pos (show (false == false) = true from rfl)]
            clear hgd
            clear hp
            go_simp
            exact hK _ _ (Below.refl _ _) rfl
          · intro xs W hB hp K hK
            have hgd : xs 10 = .bool false := hp.2.2.1 rfl
            rw [wanted_g (b := false) rfl (by show (match some (xs 10) with | some (.bool b) => some b | _ => none) = some false; rw [hgd])]
            rw [if_pos (show (false == false) = true from rfl)]
            clear hgd
            have h14 : xs 14 = .int .i64 v := hp.1 rfl
            have h15 : xs 15 = .int .i64 below := hp.2.1 rfl
            clear hp
            simp only [h14, h15] at hK ⊢
            clear h14 h15
            go_simp
            exact hK _ _ (Below.refl _ _) (by first | rfl | (show Value.bool _ = _; simp; done) | (show Value.bool _ = _; simp; omega))
          · intro xs W hB hp K hK
            rw [if_pos (wanted_none rfl _)]
            have h10 : xs 10 = .bool false := hp.1 rfl
            have h16 : xs 16 = .bool false := hp.2.1 rfl
            clear hp
            simp only [h10, h16] at hK ⊢
            clear h10 h16
            go_simp
            exact hK _ _ (Below.refl _ _) rfl
          · intro xs W hB hp K hK
            rw [if_pos (wanted_none rfl _)]
            have h17 : xs 17 = .bool false := hp.1 rfl
            clear hp
            simp only [h17] at hK ⊢
            clear h17
            go_simp
            exact hK _ _ (Below.refl _ _) rfl
          · intro xs W hB hp K hK
            have hgd : xs 18 = .bool false := hp.1 rfl
            rw [wanted_g (b := false) rfl (by show (match some (xs 18) with | some (.bool b) => some b | _ => none) = some false; rw [hgd])]
            rw [if_pos (show (false == false) = true from rfl)]
            clear hgd
            clear hp
            go_simp
            exact hK _ _ (Below.refl _ _) rfl
          · intro xs W hB hp K hK
            have hgd : xs 18 = .bool false := hp.1 rfl
            rw [wanted_g (b := false) rfl (by show (match some (xs 18) with | some (.bool b) => some b | _ => none) = some false; rw [hgd])]
            rw [if_pos (show (false == false) = true from rfl)]
            clear hgd
            clear hp
            go_simp
            exact hK _ _ (Below.refl _ _) rfl
          · intro xs W hB hp K hK
            have hgd : xs 18 = .bool false := hp.1 rfl
            rw [wanted_g (b := false) rfl (by show (match some (xs 18) with | some (.bool b) => some b | _ => none) = some false; rw [hgd])]
            rw [if_pos (show (false == false) = true from rfl)]
            clear hgd
            clear hp
            go_simp
            exact hK _ _ (Below.refl _ _) rfl
          · intro xs W hB hp K hK
            have hgd : xs 18 = .bool false := hp.1 rfl
            rw [wanted_g (b := false) rfl (by show (match some (xs 18) with | some (.bool b) => some b | _ => none) = some false; rw [hgd])]
            rw [if_pos (show (false == false) = true from rfl)]
            clear hgd
            clear hp
            go_simp
            exact hK _ _ (Below.refl _ _) rfl
          · intro xs W hB hp K hK
            have hgd : xs 18 = .bool false := hp.2.1 rfl
            rw [wanted_g (b := false) rfl (by show (match some (xs 18) with | some (.bool b) => some b | _ => none) = some false; rw [hgd])]
            rw [if_pos (show (false == false) = true from rfl)]
            clear hgd
            have h22 : xs 22 = .slice (some ⟨b, o, none⟩) (m + 1) cap := hp.1 rfl
            clear hp
            simp only [h22] at hK ⊢
            clear h22
            go_simp
            exact hK _ _ (Below.refl _ _) rfl
          · intro xs W hB hp K hK
            have hgd : xs 18 = .bool false := hp.2.1 rfl
            rw [wanted_g (b := false) rfl (by show (match some (xs 18) with | some (.bool b) => some b | _ => none) = some false; rw [hgd])]
            rw [if_pos (show (false == false) = true from rfl)]
            clear hgd
            have h23 : xs 23 = .pointer (some ⟨b, o, none⟩) := hp.1 rfl
            clear hp
            simp only [h23] at hK ⊢
            clear h23
            go_simp
            exact hK _ _ (Below.refl _ _) rfl
          · intro xs W hB hp K hK
            have hgd : xs 18 = .bool false := hp.2.1 rfl
            rw [wanted_g (b := false) rfl (by show (match some (xs 18) with | some (.bool b) => some b | _ => none) = some false; rw [hgd])]
            rw [if_pos (show (false == false) = true from rfl)]
            clear hgd
            have h24 : xs 24 = .pointer (some ⟨b, o + 2, none⟩) := hp.1 rfl
            clear hp
            have cc : W.cell? ⟨b, o + 2, none⟩ = some (.int .i64 v) := (hB.cell hbw).trans HCV.out
            simp only [h24] at hK ⊢
            clear h24
            go_simp
            exact hK _ _ (Below.refl _ _) rfl
          · intro xs W hB hp K hK
            have hgd : xs 18 = .bool false := hp.1 rfl
            rw [wanted_g (b := false) rfl (by show (match some (xs 18) with | some (.bool b) => some b | _ => none) = some false; rw [hgd])]
            rw [if_pos (show (false == false) = true from rfl)]
            clear hgd
            clear hp
            go_simp
            exact hK _ _ (Below.refl _ _) rfl
          · intro xs W hB hp K hK
            have hgd : xs 18 = .bool false := hp.2.1 rfl
            rw [wanted_g (b := false) rfl (by show (match some (xs 18) with | some (.bool b) => some b | _ => none) = some false; rw [hgd])]
            rw [if_pos (show (false == false) = true from rfl)]
            clear hgd
            have h26 : xs 26 = .slice bo P.length dap := hp.1 rfl
            clear hp
            simp only [h26] at hK ⊢
            clear h26
            go_simp
            refine (rValueSum_any P bo dap W (HPR.out.below hB (Nat.le_refl _)) hz).mono ?_
            rintro e w' ⟨rfl, hB'⟩
            exact hK _ _ hB' rfl
          · intro xs W hB hp K hK
            have hgd : xs 18 = .bool false := hp.2.2.2.2.2.2.1 rfl
            rw [wanted_g (b := false) rfl (by show (match some (xs 18) with | some (.bool b) => some b | _ => none) = some false; rw [hgd])]
            rw [if_pos (show (false == false) = true from rfl)]
            clear hgd
            have h19 : xs 19 = .pointer (some ⟨rg, 0, none⟩) := hp.1 rfl
            have h20 : xs 20 = .slice (some ⟨b, o, none⟩) (m + 1) cap := hp.2.1 rfl
            have h21 : xs 21 = .int .i64 slot := hp.2.2.1 rfl
            have h25 : xs 25 = .int .i64 v := hp.2.2.2.1 rfl
            have h27 : xs 27 = .agg (row .u8 32 (sha P)) := hp.2.2.2.2.1 rfl
            clear hp
            simp only [h19, h20, h21, h25, h27] at hK ⊢
            clear h19 h20 h21 h25 h27
            go_simp
            have hme := rMeets_any rg n seed (some ⟨b, o, none⟩) cap (y :: t) 1 slot v (sha P) W (HX.out.below hB) hn0 hn (HV.out.below hB)
            rw [HM.out, HMT.out] at hme
            refine hme.mono ?_
            rintro e w' ⟨rfl, hB'⟩
            exact hK _ _ hB' rfl
          · intro xs W hB hp K hK
            have hgd : xs 18 = .bool false := hp.2.1 rfl
            rw [wanted_g (b := false) rfl (by show (match some (xs 18) with | some (.bool b) => some b | _ => none) = some false; rw [hgd])]
            rw [if_pos (show (false == false) = true from rfl)]
            clear hgd
            have h28 : xs 28 = .bool false := hp.1 rfl
            clear hp
            simp only [h28] at hK ⊢
            clear h28
            go_simp
            exact hK _ _ (Below.refl _ _) rfl
          · intro xs W hB hp K hK
            rw [if_pos (wanted_none rfl _)]
            have h18 : xs 18 = .bool false := hp.1 rfl
            have h29 : xs 29 = .bool true := hp.2.1 rfl
            clear hp
            simp only [h18, h29] at hK ⊢
            clear h18 h29
            go_simp
            exact hK _ _ (Below.refl _ _) rfl
          · intro xs W hB hs
            have h30 : xs 30 = .bool true := hs 30 (by simp)
            simp only [h30]
            go_wp2_with fail
            exact bodyPost_ret (results_tmp2 rfl _ _ _) rfl ⟨by rw [HPV.out]; rfl, hB⟩
        · have HPV : Hid (provesR (some (seed, n)) (y :: t) slot below P = some v) := HP2.out.trans (if_pos ⟨by omega, by omega, hmt⟩)
          have HMT : Hid (meetsR (some (seed, n)) (y :: t) 1 slot v (sha P) = true) := hmt
          clear hmt
          go_enter Try.func13, Try.ntmps13
          go_wp2_with fail
          refine wp_region_growG (by kernel_rfl) (by kernel_rfl) (fun xs => { tmps := (Value.pointer (some (⟨rg, 0, none⟩ : Addr)) :: .slice (some ⟨b, o, none⟩) (m + 1) cap :: Value.int IntKind.i64 slot :: Value.int IntKind.i64 below :: Value.slice bo P.length dap :: undef :: undef :: undef :: undef :: undef :: Value.int IntKind.i64 0 :: Value.bool false :: xs 0 :: xs 1 :: xs 2 :: xs 3 :: xs 4 :: xs 5 :: xs 6 :: xs 7 :: xs 8 :: xs 9 :: xs 10 :: xs 11 :: xs 12 :: xs 13 :: xs 14 :: xs 15 :: xs 16 :: xs 17 :: xs 18 :: xs 19 :: xs 20 :: xs 21 :: xs 22 :: xs 23 :: xs 24 :: xs 25 :: xs 26 :: xs 27 :: xs 28 :: xs 29 :: xs 30 :: undef :: undef :: undef :: undef :: []).toArray, defers := [] })
            (rpESpec b o m rg none cap slot below v bo dap P) (fun | _ => undef) (by repeat (first | exact trivial | refine ⟨fun _ _ => rfl, ?_⟩)) (by
              intro i y w w' h hs
              unfold rpESpec at *
              split at hs <;> first | exact hs | exact trivial) ⟨?_, ?_, ?_, ?_, ?_, ?_, ?_, ?_, ?_, ?_, ?_, ?_, ?_, ?_, ?_, ?_, ?_, ?_, ?_, ?_, ?_, ?_, ?_, ?_, ?_, ?_, ?_, ?_, ?_, ?_, ?_, trivial⟩ ?_
          · intro xs W hB hp K hK
            rw [if_pos (wanted_none rfl _)]
            clear hp
            go_simp
            exact hK _ _ (Below.refl _ _) rfl
          · intro xs W hB hp K hK
            rw [if_pos (wanted_none rfl _)]
            have h0 : xs 0 = .slice (some ⟨b, o, none⟩) (m + 1) cap := hp.1 rfl
            clear hp
            simp only [h0] at hK ⊢
            clear h0
            go_simp
            exact hK _ _ (Below.refl _ _) rfl
          · intro xs W hB hp K hK
            rw [if_pos (wanted_none rfl _)]
            have h1 : xs 1 = .int .i64 ((m : Int) + 1) := hp.1 rfl
            clear hp
            simp only [h1] at hK ⊢
            clear h1
            go_simp
            exact hK _ _ (Below.refl _ _) (by first | rfl | (show Value.bool _ = _; simp; done) | (show Value.bool _ = _; simp; omega))
          · intro xs W hB hp K hK
            rw [if_pos (wanted_none rfl _)]
            have h2 : xs 2 = .bool false := hp.1 rfl
            clear hp
            simp only [h2] at hK ⊢
            clear h2
            go_simp
            exact hK _ _ (Below.refl _ _) rfl
          · intro xs W hB hp K hK
            have hgd : xs 3 = .bool false := hp.1 rfl
            rw [wanted_g (b := false) rfl (by show (match some (xs 3) with | some (.bool b) => some b | _ => none) = some false; rw [hgd])]
            rw [if_pos (show (false == false) = true from rfl)]
            clear hgd
            clear hp
            go_simp
            exact hK _ _ (Below.refl _ _) rfl
          · intro xs W hB hp K hK
            have hgd : xs 3 = .bool false := hp.2.1 rfl
            rw [wanted_g (b := false) rfl (by show (match some (xs 3) with | some (.bool b) => some b | _ => none) = some false; rw [hgd])]
            rw [if_pos (show (false == false) = true from rfl)]
            clear hgd
            have h4 : xs 4 = .slice (some ⟨b, o, none⟩) (m + 1) cap := hp.1 rfl
            clear hp
            simp only [h4] at hK ⊢
            clear h4
            go_simp
            exact hK _ _ (Below.refl _ _) rfl
          · intro xs W hB hp K hK
            have hgd : xs 3 = .bool false := hp.2.1 rfl
            rw [wanted_g (b := false) rfl (by show (match some (xs 3) with | some (.bool b) => some b | _ => none) = some false; rw [hgd])]
            rw [if_pos (show (false == false) = true from rfl)]
            clear hgd
            have h5 : xs 5 = .pointer (some ⟨b, o, none⟩) := hp.1 rfl
            clear hp
            simp only [h5] at hK ⊢
            clear h5
            go_simp
            exact hK _ _ (Below.refl _ _) rfl
          · intro xs W hB hp K hK
            have hgd : xs 3 = .bool false := hp.2.1 rfl
            rw [wanted_g (b := false) rfl (by show (match some (xs 3) with | some (.bool b) => some b | _ => none) = some false; rw [hgd])]
            rw [if_pos (show (false == false) = true from rfl)]
            clear hgd
            have h6 : xs 6 = .pointer (some ⟨b, o + 2, none⟩) := hp.1 rfl
            clear hp
            have cc : W.cell? ⟨b, o + 2, none⟩ = some (.int .i64 v) := (hB.cell hbw).trans HCV.out
            simp only [h6] at hK ⊢
            clear h6
            go_simp
            exact hK _ _ (Below.refl _ _) rfl
          · intro xs W hB hp K hK
            have hgd : xs 3 = .bool false := hp.2.1 rfl
            rw [wanted_g (b := false) rfl (by show (match some (xs 3) with | some (.bool b) => some b | _ => none) = some false; rw [hgd])]
            rw [if_pos (show (false == false) = true from rfl)]
            clear hgd
            have h7 : xs 7 = .int .i64 v := hp.1 rfl
            clear hp
            simp only [h7] at hK ⊢
            clear h7
            go_simp
            exact hK _ _ (Below.refl _ _) (by first | rfl | (show Value.bool _ = _; simp; done) | (show Value.bool _ = _; simp; omega))
          · intro xs W hB hp K hK
            rw [if_pos (wanted_none rfl _)]
            have h3 : xs 3 = .bool false := hp.1 rfl
            have h8 : xs 8 = .bool false := hp.2.1 rfl
            clear hp
            simp only [h3, h8] at hK ⊢
            clear h3 h8
            go_simp
            exact hK _ _ (Below.refl _ _) rfl
          · intro xs W hB hp K hK
            rw [if_pos (wanted_none rfl _)]
            have h9 : xs 9 = .bool false := hp.1 rfl
            clear hp
            simp only [h9] at hK ⊢
            clear h9
            go_simp
            exact hK _ _ (Below.refl _ _) rfl
          · intro xs W hB hp K hK
            have hgd : xs 10 = .bool false := hp.1 rfl
            rw [wanted_g (b := false) rfl (by show (match some (xs 10) with | some (.bool b) => some b | _ => none) = some false; rw [hgd])]
            rw [if_pos (show (false == false) = true from rfl)]
            clear hgd
            clear hp
            go_simp
            exact hK _ _ (Below.refl _ _) rfl
          · intro xs W hB hp K hK
            have hgd : xs 10 = .bool false := hp.2.1 rfl
            rw [wanted_g (b := false) rfl (by show (match some (xs 10) with | some (.bool b) => some b | _ => none) = some false; rw [hgd])]
            rw [if_pos (show (false == false) = true from rfl)]
            clear hgd
            have h11 : xs 11 = .slice (some ⟨b, o, none⟩) (m + 1) cap := hp.1 rfl
            clear hp
            simp only [h11] at hK ⊢
            clear h11
            go_simp
            exact hK _ _ (Below.refl _ _) rfl
          · intro xs W hB hp K hK
            have hgd : xs 10 = .bool false := hp.2.1 rfl
            rw [wanted_g (b := false) rfl (by show (match some (xs 10) with | some (.bool b) => some b | _ => none) = some false; rw [hgd])]
            rw [if_pos (show (false == false) = true from rfl)]
            clear hgd
            have h12 : xs 12 = .pointer (some ⟨b, o, none⟩) := hp.1 rfl
            clear hp
            simp only [h12] at hK ⊢
            clear h12
            go_simp
            exact hK _ _ (Below.refl _ _) rfl
          · intro xs W hB hp K hK
            have hgd : xs 10 = .bool false := hp.2.1 rfl
            rw [wanted_g (b := false) rfl (by show (match some (xs 10) with | some (.bool b) => some b | _ => none) = some false; rw [hgd])]
            rw [if_pos (show (false == false) = true from rfl)]
            clear hgd
            have h13 : xs 13 = .pointer (some ⟨b, o + 2, none⟩) := hp.1 rfl
            clear hp
            have cc : W.cell? ⟨b, o + 2, none⟩ = some (.int .i64 v) := (hB.cell hbw).trans HCV.out
            simp only [h13] at hK ⊢
            clear h13
            go_simp
            exact hK _ _ (Below.refl _ _) rfl
          · intro xs W hB hp K hK
            have hgd : xs 10 = .bool false := hp.1 rfl
            rw [wanted_g (b := false) rfl (by show (match some (xs 10) with | some (.bool b) => some b | _ => none) = some false; rw [hgd])]
            rw [if_pos (show (false == false) = true from rfl)]
            clear hgd
            clear hp
            go_simp
            exact hK _ _ (Below.refl _ _) rfl
          · intro xs W hB hp K hK
            have hgd : xs 10 = .bool false := hp.2.2.1 rfl
            rw [wanted_g (b := false) rfl (by show (match some (xs 10) with | some (.bool b) => some b | _ => none) = some false; rw [hgd])]
            rw [if_pos (show (false == false) = true from rfl)]
            clear hgd
            have h14 : xs 14 = .int .i64 v := hp.1 rfl
            have h15 : xs 15 = .int .i64 below := hp.2.1 rfl
            clear hp
            simp only [h14, h15] at hK ⊢
            clear h14 h15
            go_simp
            exact hK _ _ (Below.refl _ _) (by first | rfl | (show Value.bool _ = _; simp; done) | (show Value.bool _ = _; simp; omega))
          · intro xs W hB hp K hK
            rw [if_pos (wanted_none rfl _)]
            have h10 : xs 10 = .bool false := hp.1 rfl
            have h16 : xs 16 = .bool false := hp.2.1 rfl
            clear hp
            simp only [h10, h16] at hK ⊢
            clear h10 h16
            go_simp
            exact hK _ _ (Below.refl _ _) rfl
          · intro xs W hB hp K hK
            rw [if_pos (wanted_none rfl _)]
            have h17 : xs 17 = .bool false := hp.1 rfl
            clear hp
            simp only [h17] at hK ⊢
            clear h17
            go_simp
            exact hK _ _ (Below.refl _ _) rfl
          · intro xs W hB hp K hK
            have hgd : xs 18 = .bool false := hp.1 rfl
            rw [wanted_g (b := false) rfl (by show (match some (xs 18) with | some (.bool b) => some b | _ => none) = some false; rw [hgd])]
            rw [if_pos (show (false == false) = true from rfl)]
            clear hgd
            clear hp
            go_simp
            exact hK _ _ (Below.refl _ _) rfl
          · intro xs W hB hp K hK
            have hgd : xs 18 = .bool false := hp.1 rfl
            rw [wanted_g (b := false) rfl (by show (match some (xs 18) with | some (.bool b) => some b | _ => none) = some false; rw [hgd])]
            rw [if_pos (show (false == false) = true from rfl)]
            clear hgd
            clear hp
            go_simp
            exact hK _ _ (Below.refl _ _) rfl
          · intro xs W hB hp K hK
            have hgd : xs 18 = .bool false := hp.1 rfl
            rw [wanted_g (b := false) rfl (by show (match some (xs 18) with | some (.bool b) => some b | _ => none) = some false; rw [hgd])]
            rw [if_pos (show (false == false) = true from rfl)]
            clear hgd
            clear hp
            go_simp
            exact hK _ _ (Below.refl _ _) rfl
          · intro xs W hB hp K hK
            have hgd : xs 18 = .bool false := hp.1 rfl
            rw [wanted_g (b := false) rfl (by show (match some (xs 18) with | some (.bool b) => some b | _ => none) = some false; rw [hgd])]
            rw [if_pos (show (false == false) = true from rfl)]
            clear hgd
            clear hp
            go_simp
            exact hK _ _ (Below.refl _ _) rfl
          · intro xs W hB hp K hK
            have hgd : xs 18 = .bool false := hp.2.1 rfl
            rw [wanted_g (b := false) rfl (by show (match some (xs 18) with | some (.bool b) => some b | _ => none) = some false; rw [hgd])]
            rw [if_pos (show (false == false) = true from rfl)]
            clear hgd
            have h22 : xs 22 = .slice (some ⟨b, o, none⟩) (m + 1) cap := hp.1 rfl
            clear hp
            simp only [h22] at hK ⊢
            clear h22
            go_simp
            exact hK _ _ (Below.refl _ _) rfl
          · intro xs W hB hp K hK
            have hgd : xs 18 = .bool false := hp.2.1 rfl
            rw [wanted_g (b := false) rfl (by show (match some (xs 18) with | some (.bool b) => some b | _ => none) = some false; rw [hgd])]
            rw [if_pos (show (false == false) = true from rfl)]
            clear hgd
            have h23 : xs 23 = .pointer (some ⟨b, o, none⟩) := hp.1 rfl
            clear hp
            simp only [h23] at hK ⊢
            clear h23
            go_simp
            exact hK _ _ (Below.refl _ _) rfl
          · intro xs W hB hp K hK
            have hgd : xs 18 = .bool false := hp.2.1 rfl
            rw [wanted_g (b := false) rfl (by show (match some (xs 18) with | some (.bool b) => some b | _ => none) = some false; rw [hgd])]
            rw [if_pos (show (false == false) = true from rfl)]
            clear hgd
            have h24 : xs 24 = .pointer (some ⟨b, o + 2, none⟩) := hp.1 rfl
            clear hp
            have cc : W.cell? ⟨b, o + 2, none⟩ = some (.int .i64 v) := (hB.cell hbw).trans HCV.out
            simp only [h24] at hK ⊢
            clear h24
            go_simp
            exact hK _ _ (Below.refl _ _) rfl
          · intro xs W hB hp K hK
            have hgd : xs 18 = .bool false := hp.1 rfl
            rw [wanted_g (b := false) rfl (by show (match some (xs 18) with | some (.bool b) => some b | _ => none) = some false; rw [hgd])]
            rw [if_pos (show (false == false) = true from rfl)]
            clear hgd
            clear hp
            go_simp
            exact hK _ _ (Below.refl _ _) rfl
          · intro xs W hB hp K hK
            have hgd : xs 18 = .bool false := hp.2.1 rfl
            rw [wanted_g (b := false) rfl (by show (match some (xs 18) with | some (.bool b) => some b | _ => none) = some false; rw [hgd])]
            rw [if_pos (show (false == false) = true from rfl)]
            clear hgd
            have h26 : xs 26 = .slice bo P.length dap := hp.1 rfl
            clear hp
            simp only [h26] at hK ⊢
            clear h26
            go_simp
            refine (rValueSum_any P bo dap W (HPR.out.below hB (Nat.le_refl _)) hz).mono ?_
            rintro e w' ⟨rfl, hB'⟩
            exact hK _ _ hB' rfl
          · intro xs W hB hp K hK
            have hgd : xs 18 = .bool false := hp.2.2.2.2.2.2.1 rfl
            rw [wanted_g (b := false) rfl (by show (match some (xs 18) with | some (.bool b) => some b | _ => none) = some false; rw [hgd])]
            rw [if_pos (show (false == false) = true from rfl)]
            clear hgd
            have h19 : xs 19 = .pointer (some ⟨rg, 0, none⟩) := hp.1 rfl
            have h20 : xs 20 = .slice (some ⟨b, o, none⟩) (m + 1) cap := hp.2.1 rfl
            have h21 : xs 21 = .int .i64 slot := hp.2.2.1 rfl
            have h25 : xs 25 = .int .i64 v := hp.2.2.2.1 rfl
            have h27 : xs 27 = .agg (row .u8 32 (sha P)) := hp.2.2.2.2.1 rfl
            clear hp
            simp only [h19, h20, h21, h25, h27] at hK ⊢
            clear h19 h20 h21 h25 h27
            go_simp
            have hme := rMeets_any rg n seed (some ⟨b, o, none⟩) cap (y :: t) 1 slot v (sha P) W (HX.out.below hB) hn0 hn (HV.out.below hB)
            rw [HM.out, HMT.out] at hme
            refine hme.mono ?_
            rintro e w' ⟨rfl, hB'⟩
            exact hK _ _ hB' rfl
          · intro xs W hB hp K hK
            have hgd : xs 18 = .bool false := hp.2.1 rfl
            rw [wanted_g (b := false) rfl (by show (match some (xs 18) with | some (.bool b) => some b | _ => none) = some false; rw [hgd])]
            rw [if_pos (show (false == false) = true from rfl)]
            clear hgd
            have h28 : xs 28 = .bool true := hp.1 rfl
            clear hp
            simp only [h28] at hK ⊢
            clear h28
            go_simp
            exact hK _ _ (Below.refl _ _) rfl
          · intro xs W hB hp K hK
            rw [if_pos (wanted_none rfl _)]
            have h18 : xs 18 = .bool false := hp.1 rfl
            have h29 : xs 29 = .bool false := hp.2.1 rfl
            clear hp
            simp only [h18, h29] at hK ⊢
            clear h18 h29
            go_simp
            exact hK _ _ (Below.refl _ _) rfl
          · intro xs W hB hs
            have h30 : xs 30 = .bool false := hs 30 (by simp)
            have cc : W.cell? ⟨b, o + 2, none⟩ = some (.int .i64 v) := (hB.cell hbw).trans HCV.out
            simp only [h30]
            go_wp2_with fail
            exact bodyPost_ret (results_tmp2 rfl _ _ _) rfl ⟨by rw [HPV.out]; rfl, hB⟩
end Go.Proofs.Yticpkpphjpgdbaa
namespace Go.Proofs.Yticpkpphjpgdbaa
open Go.RowKit Go.Dig Go.Sha Go.Inv Go.Oct

theorem rlock_rowM : ∃ d, Try.prog.underlying 38 = some d ∧ (match d with | .struct _ | .array _ _ => true | _ => false) = true := by
  have h : (Try.prog.underlying 38).map (fun d => match d with | .struct _ | .array _ _ => true | _ => false) = some true := by kernel_rfl
  cases hd : Try.prog.underlying 38 with
  | none => rw [hd] at h; cases h
  | some d => rw [hd] at h; exact ⟨d, rfl, by simpa using h⟩
theorem rlock_info (v x y : Value) : (Try.prog.info? 38).map (·.size) = some (#[v, x, y] : Array Value).size := by rw [show (#[v, x, y] : Array Value).size = 3 from rfl]; kernel_rfl
set_option maxRecDepth 10000 in
set_option maxHeartbeats 1000000 in
theorem rFree_any (w : World) : Calls Try.prog 34 #[] w fun e w' => e = .returned (.agg #[.int .i64 (-1), .slice none 0 0, .slice none 0 0]) ∧ Below w.heap.size w w' := by
  have hB := below_alloc w (.cells #[.int .i64 (-1), .slice none 0 0, .slice none 0 0] 38)
  have hb := alloc_blk w (.cells #[.int .i64 (-1), .slice none 0 0, .slice none 0 0] 38)
  have HB : Hid _ := hb
  obtain ⟨d, hd1, hd2⟩ := rlock_rowM
  have HD1 : Hid _ := hd1
  clear hb hd1
  go_enter Try.func34, Try.ntmps34
  go_wp2_with fail
  refine bodyPost_ret (v := .agg #[.int .i64 (-1), .slice none 0 0, .slice none 0 0]) ?_ rfl ⟨rfl, hB⟩
  refine results_cell_row rfl _ _ w.heap.size _ _ _ d rfl HB.out HD1.out ?_ (rlock_info _ _ _)
  cases d <;> first | rfl | exact hd2
set_option maxRecDepth 10000 in
set_option maxHeartbeats 1000000 in
theorem rMay_any (rg n : Nat) (seed : Nat → Int) (kv : Int) (K : List Int) (ka : Option Addr) (kc : Nat) (kw : Value) (slot view : Int) (P : List Int) (bo : Option Addr) (dap : Nat) (ao : Option Addr) (cap : Nat) (ys : List VoteW) (w : World) (hX : RRing w rg seed n) (hn0 : 0 < n) (hn : n ≤ 10) (hV : VotesIn w ao cap ys)
    (hK : Rowed w ka K kc) (hP : Rowed w bo P dap) (hz : P.length < 274877906944) (hbK : BytesL K) (hbP : BytesL P) (hkw : ∃ a b c, kw = .slice a b c) :
    Calls Try.prog 15 #[.pointer (some ⟨rg, 0, none⟩), .agg #[.int .i64 kv, .slice ka K.length kc, kw], .int .i64 slot, .int .i64 view, .slice bo P.length dap, .slice ao ys.length cap] w fun e w' => e = .returned (.bool (mayR (some (seed, n)) kv K slot view P ys)) ∧ Below w.heap.size w w' := by
  obtain ⟨xa, xb, xc, rfl⟩ := hkw
  have HB : Hid ((w.alloc (.cells #[.int .i64 kv, .slice ka K.length kc, .slice xa xb xc] 38)).heap[w.heap.size]? = some (.cells #[.int .i64 kv, .slice ka K.length kc, .slice xa xb xc] 38 (0, 0))) := alloc_blk _ _
  have hBw := below_alloc w (.cells #[.int .i64 kv, .slice ka K.length kc, .slice xa xb xc] 38)
  have HX : Hid (RRing (w.alloc (.cells #[.int .i64 kv, .slice ka K.length kc, .slice xa xb xc] 38)) rg seed n) := hX.below hBw
  have HV : Hid (VotesIn (w.alloc (.cells #[.int .i64 kv, .slice ka K.length kc, .slice xa xb xc] 38)) ao cap ys) := hV.below hBw
  have HK : Hid (Rowed (w.alloc (.cells #[.int .i64 kv, .slice ka K.length kc, .slice xa xb xc] 38)) ka K kc) := hK.below hBw (Nat.le_refl _)
  have HP : Hid (Rowed (w.alloc (.cells #[.int .i64 kv, .slice ka K.length kc, .slice xa xb xc] 38)) bo P dap) := hP.below hBw (Nat.le_refl _)
  have HM : Hid (∀ b, mayR (some (seed, n)) kv K slot view P ys = b → mayR (some (seed, n)) kv K slot view P ys = b) := fun _ h => h
  have HC1 : Hid ((convert 22 9 (.slice ka K.length kc)).run Try.prog (w.alloc (.cells #[.int .i64 kv, .slice ka K.length kc, .slice xa xb xc] 38)) = .ok (.string (strOf K)) (w.alloc (.cells #[.int .i64 kv, .slice ka K.length kc, .slice xa xb xc] 38))) := conv_str HK.out rfl
  have HC2 : Hid ((convert 22 9 (.slice bo P.length dap)).run Try.prog (w.alloc (.cells #[.int .i64 kv, .slice ka K.length kc, .slice xa xb xc] 38)) = .ok (.string (strOf P)) (w.alloc (.cells #[.int .i64 kv, .slice ka K.length kc, .slice xa xb xc] 38))) := conv_str HP.out rfl
  have HES := eqStr hbK hbP
  clear hX hV hK hP
  by_cases q : kv = -1
  · have e : mayR (some (seed, n)) kv K slot view P ys = true := by simp [mayR, q]
    rw [e]
    clear e
    subst q
    go_enter Try.func15, Try.ntmps15
    go_wp2_with fail
    go_ret
    exact ⟨rfl, hBw⟩
  · by_cases qe : K = P
    · have e : mayR (some (seed, n)) kv K slot view P ys = true := by simp [mayR, qe]
      rw [e]
      have he : ((strOf K).toList == (strOf P).toList) = true := HES.trans (decide_eq_true qe)
      have c1 := HC1.out
      have c2 := HC2.out
      clear e qe HES
      go_enter Try.func15, Try.ntmps15
      go_wp2_with fail
      go_ret
      exact ⟨rfl, hBw⟩
    · have he : ((strOf K).toList == (strOf P).toList) = false := HES.trans (decide_eq_false qe)
      have c1 := HC1.out
      have c2 := HC2.out
      have HN : Hid (mayR (some (seed, n)) kv K slot view P ys = (match provesR (some (seed, n)) ys slot view P with | some v => decide (kv < v) | none => false)) := by show _ = _; unfold mayR; rw [decide_eq_false q, decide_eq_false qe]; rfl
      clear qe HES
      go_enter Try.func15, Try.ntmps15
      go_wp2_with fail
      clear c1 c2 HC1 HC2
      generalize w.alloc (.cells #[.int .i64 kv, .slice ka K.length kc, .slice xa xb xc] 38) = w1 at *
      refine (rProves_any rg n seed ao cap ys slot view P bo dap w1 HX.out hn0 hn HV.out HP.out hz).mono ?_
      rintro e w2 ⟨rfl, hB2⟩
      have hB3 : Below w.heap.size w w2 := hBw.trans (hB2.mono hBw.size)
      have hcell : w2.cell? ⟨w.heap.size, 0, none⟩ = some (.int .i64 kv) := (cell_blk ((hB2.block _ (lt_blk HB.out)).trans HB.out) 0).trans rfl
      clear hB2 HB
      cases hp : provesR (some (seed, n)) ys slot view P with
      | none =>
        rw [hp] at HN
        unfold provedV
        go_wp2_with fail
        go_ret
        exact ⟨by rw [HN.out]; rfl, hB3⟩
      | some v =>
        rw [hp] at HN
        unfold provedV
        simp only [Option.getD_some, Option.isSome_some]
        go_wp2_with fail
        go_ret
        exact ⟨by rw [HN.out]; rfl, hB3⟩
end Go.Proofs.Yticpkpphjpgdbaa
namespace Go.Proofs.Yticpkpphjpgdbaa
open Go.RowKit Go.Dig Go.Sha Go.Inv Go.Oct

/-- who leads of four nodes -/
def leadI (slot view : Int) : Int := if slot < 0 ∨ view < 0 then 0 else (slot % 4 + view % 4) % 4
set_option maxRecDepth 10000 in
set_option maxHeartbeats 2000000 in
theorem leader4_any (slot view : Int) (w : World) : Calls Try.prog 19 #[.int .i64 slot, .int .i64 view, .int .i64 4] w fun e w' => e = .returned (.int .i64 (leadI slot view)) ∧ Below w.heap.size w w' := by
  by_cases q0 : slot < 0
  · have HL : Hid (leadI slot view = 0) := if_pos (.inl q0)
    go_enter Try.func19, Try.ntmps19
    go_wp2_with fail
    go_ret
    exact ⟨by rw [HL.out]; rfl, Below.refl _ _⟩
  · by_cases q1 : view < 0
    · have HL : Hid (leadI slot view = 0) := if_pos (.inr q1)
      go_enter Try.func19, Try.ntmps19
      go_wp2_with fail
      go_ret
      exact ⟨by rw [HL.out]; rfl, Below.refl _ _⟩
    · have HL : Hid (leadI slot view = (slot % 4 + view % 4) % 4) := if_neg (by omega)
      by_cases q2 : 4 - view % 4 ≤ slot % 4
      · go_enter Try.func19, Try.ntmps19
        go_wp2_with fail
        go_quiet (fail)
        go_wp2_with fail
        go_ret
        exact ⟨by rw [HL.out]; show Ending.returned (Value.int _ _) = _; congr 2; omega, Below.trans (Below.refl _ _) ⟨rfl, rfl, rfl, Nat.le_refl _, fun _ _ => rfl⟩⟩
      · go_enter Try.func19, Try.ntmps19
        go_wp2_with fail
        go_quiet (fail)
        go_wp2_with fail
        go_ret
        exact ⟨by rw [HL.out]; show Ending.returned (Value.int _ _) = _; congr 2; omega, Below.trans (Below.refl _ _) ⟨rfl, rfl, rfl, Nat.le_refl _, fun _ _ => rfl⟩⟩
set_option maxRecDepth 10000 in
set_option maxHeartbeats 2000000 in
theorem rLeader4_any (slot view : Int) (w : World) : Calls Try.prog 20 #[.int .i64 slot, .int .i64 view, .int .i64 4] w fun e w' => e = .returned (.int .i64 (leadI slot view)) ∧ Below w.heap.size w w' := by
  by_cases q0 : slot < 0
  · have HL : Hid (leadI slot view = 0) := if_pos (.inl q0)
    go_enter Try.func20, Try.ntmps20
    go_wp2_with fail
    go_ret
    exact ⟨by rw [HL.out]; rfl, Below.refl _ _⟩
  · by_cases q1 : view < 0
    · have HL : Hid (leadI slot view = 0) := if_pos (.inr q1)
      go_enter Try.func20, Try.ntmps20
      go_wp2_with fail
      go_ret
      exact ⟨by rw [HL.out]; rfl, Below.refl _ _⟩
    · have HL : Hid (leadI slot view = (slot % 4 + view % 4) % 4) := if_neg (by omega)
      go_enter Try.func20, Try.ntmps20
      go_wp2_with fail
      go_quiet (fail)
      go_wp2_with fail
      go_ret
      exact ⟨by rw [HL.out]; rfl, Below.trans (Below.refl _ _) ⟨rfl, rfl, rfl, Nat.le_refl _, fun _ _ => rfl⟩⟩
end Go.Proofs.Yticpkpphjpgdbaa
namespace Go.Proofs.Yticpkpphjpgdbaa
open Go.RowKit Go.Dig Go.Sha Go.Inv Go.Oct

set_option linter.unusedVariables false
def rvSpec (b1 o1 c1 b2 o2 c2 n i : Nat) (z : VoteW) : Nat → Value → World → Prop
  | 0, xx, _ => xx = .slice (some ⟨b1, o1, none⟩) n c1
  | 1, xx, _ => xx = .int .i64 (i : Int)
  | 2, xx, _ => xx = .pointer (some ⟨b1, o1 + i * 68, none⟩)
  | 3, xx, _ => xx = .agg z.1.cells
  | 4, xx, _ => xx = .slice (some ⟨b2, o2, none⟩) n c2
  | 5, xx, _ => xx = .int .i64 (i : Int)
  | 6, xx, _ => xx = .pointer (some ⟨b2, o2 + i * 68, none⟩)
  | 7, xx, _ => xx = .agg z.1.cells
  | 8, xx, _ => xx = .bool false
  | _, _, _ => True
set_option maxRecDepth 10000 in
set_option maxHeartbeats 2000000 in
theorem rVotes_same (a1 a2 : Option Addr) (c1 c2 : Nat) (zs : List VoteW) (w : World) (h1 : VotesIn w a1 c1 zs) (h2 : VotesIn w a2 c2 zs) (hl : zs.length ≤ 1000) :
    Calls Try.prog 32 #[.slice a1 zs.length c1, .slice a2 zs.length c2] w fun e w' => e = .returned (.bool true) ∧ Below w.heap.size w w' := by
  have H1 : Hid (VotesIn w a1 c1 zs) := h1
  have H2 : Hid (VotesIn w a2 c2 zs) := h2
  obtain ⟨n, hn⟩ : ∃ n, zs.length = n := ⟨_, rfl⟩
  have HN : Hid (zs.length = n) := hn
  rw [hn]
  have hn1 : n ≤ 1000 := by omega
  clear h1 h2 hn hl
  go_enter Try.func32, Try.ntmps32
  go_wp2_with fail
  go_loopw [5] (fun iv wr => ∃ i : Nat, i ≤ n ∧ iv = .int .i64 (i : Int) ∧ Below w.heap.size w wr) (fun iv _ => n - (intOf iv).toNat)
  case atStart => exact ⟨0, Nat.zero_le _, rfl, Below.refl _ _⟩
  case round =>
    obtain ⟨i, hi, rfl, hBr⟩ := hrel
    by_cases hlt : i < n
    · have hlt' : (i : Int) < (n : Int) := by omega
      obtain ⟨b1, o1, e1, hv1⟩ := (H1.out.below hBr).at_ i (by have := HN.out; omega)
      obtain ⟨b2, o2, e2, hv2⟩ := (H2.out.below hBr).at_ i (by have := HN.out; omega)
      subst e1 e2
      obtain ⟨z, hz⟩ : ∃ z, zs[i]'(by have := HN.out; omega) = z := ⟨_, rfl⟩
      rw [hz] at hv1 hv2
      have HV1 : Hid (VoteAt wr b1 (o1 + i * 68) z.1) := hv1
      have HV2 : Hid (VoteAt wr b2 (o2 + i * 68) z.1) := hv2
      have hb1 : b1 < wr.heap.size := hv1.lt
      have hb2 : b2 < wr.heap.size := hv2.lt
      clear hv1 hv2 hz
      go_wp2_with fail
      refine wp_region_growG (by kernel_rfl) (by kernel_rfl) (fun xs => { tmps := (Value.slice (some (⟨b1, o1, none⟩ : Addr)) n c1 :: Value.slice (some (⟨b2, o2, none⟩ : Addr)) n c2 :: undef :: undef :: u4 :: Value.int IntKind.i64 (i : Int) :: Value.slice (some (⟨b1, o1, none⟩ : Addr)) n c1 :: Value.int IntKind.i64 (n : Int) :: Value.slice (some (⟨b2, o2, none⟩ : Addr)) n c2 :: Value.int IntKind.i64 (n : Int) :: Value.bool false :: Value.int IntKind.i64 (i : Int) :: Value.slice (some (⟨b1, o1, none⟩ : Addr)) n c1 :: Value.int IntKind.i64 (n : Int) :: Value.bool true :: u15 :: u16 :: xs 0 :: xs 1 :: xs 2 :: xs 3 :: xs 4 :: xs 5 :: xs 6 :: xs 7 :: xs 8 :: []).toArray, defers := [] })
        (rvSpec b1 o1 c1 b2 o2 c2 n i z) (fun | 0 => u17 | 1 => u18 | 2 => u19 | 3 => u20 | 4 => u21 | 5 => u22 | 6 => u23 | 7 => u24 | 8 => u25 | _ => undef) (by repeat (first | exact trivial | refine ⟨fun _ _ => rfl, ?_⟩)) (by
        intro i y w w' h hs
        unfold rvSpec at *
        split at hs <;> first | exact hs | exact trivial) ⟨?_, ?_, ?_, ?_, ?_, ?_, ?_, ?_, ?_, trivial⟩ ?_
      · intro xs W hB hp K hK
        rw [if_pos (wanted_none rfl _)]
        clear hp
        go_simp
        exact hK _ _ (Below.refl _ _) rfl
      · intro xs W hB hp K hK
        rw [if_pos (wanted_none rfl _)]
        clear hp
        go_simp
        exact hK _ _ (Below.refl _ _) rfl
      · intro xs W hB hp K hK
        rw [if_pos (wanted_none rfl _)]
        have h0 : xs 0 = .slice (some ⟨b1, o1, none⟩) n c1 := hp.1 rfl
        have h1 : xs 1 = .int .i64 (i : Int) := hp.2.1 rfl
        clear hp
        simp only [h0, h1] at hK ⊢
        clear h0 h1
        go_simp
        exact hK _ _ (Below.refl _ _) rfl
      · intro xs W hB hp K hK
        rw [if_pos (wanted_none rfl _)]
        have h2 : xs 2 = .pointer (some ⟨b1, o1 + i * 68, none⟩) := hp.1 rfl
        clear hp
        exact wp_load_vote _ rfl b1 (o1 + i * 68) h2 z.1 (HV1.out.same (hB.block _ hb1)) (hK _ _ (Below.refl _ _) rfl)
      · intro xs W hB hp K hK
        rw [if_pos (wanted_none rfl _)]
        clear hp
        go_simp
        exact hK _ _ (Below.refl _ _) rfl
      · intro xs W hB hp K hK
        rw [if_pos (wanted_none rfl _)]
        clear hp
        go_simp
        exact hK _ _ (Below.refl _ _) rfl
      · intro xs W hB hp K hK
        rw [if_pos (wanted_none rfl _)]
        have h4 : xs 4 = .slice (some ⟨b2, o2, none⟩) n c2 := hp.1 rfl
        have h5 : xs 5 = .int .i64 (i : Int) := hp.2.1 rfl
        clear hp
        simp only [h4, h5] at hK ⊢
        clear h4 h5
        go_simp
        exact hK _ _ (Below.refl _ _) rfl
      · intro xs W hB hp K hK
        rw [if_pos (wanted_none rfl _)]
        have h6 : xs 6 = .pointer (some ⟨b2, o2 + i * 68, none⟩) := hp.1 rfl
        clear hp
        exact wp_load_vote _ rfl b2 (o2 + i * 68) h6 z.1 (HV2.out.same (hB.block _ hb2)) (hK _ _ (Below.refl _ _) rfl)
      · intro xs W hB hp K hK
        rw [if_pos (wanted_none rfl _)]
        have h3 : xs 3 = .agg z.1.cells := hp.1 rfl
        have h7 : xs 7 = .agg z.1.cells := hp.2.1 rfl
        clear hp
        have heq := equalIn_vote z.1
        simp only [h3, h7] at hK ⊢
        clear h3 h7
        go_simp
        exact hK _ _ (Below.refl _ _) (by first | rfl | (show Value.bool _ = _; simp; done) | (show Value.bool _ = _; simp; omega))
      · intro xs W hB hs
        have h8 : xs 8 = .bool false := hs 8 (by simp)
        simp only [h8]
        go_wp2_with fail
        go_roundw
        case rel => exact ⟨i + 1, by omega, by go_num, hBr.trans (hB.mono hBr.size)⟩
        case measure => simp [intOf]; omega
    · obtain rfl : i = n := by omega
      go_wp2_with fail
      go_ret
      exact ⟨rfl, hBr⟩
end Go.Proofs.Yticpkpphjpgdbaa
namespace Go.Proofs.Yticpkpphjpgdbaa
open Go.RowKit Go.Dig Go.Sha Go.Inv Go.Oct

theorem proves_pos {R : RingO} {ys : List VoteW} {slot below : Int} {P : List Int} {v : Int} (h : provesR R ys slot below P = some v) : 0 ≤ v := by
  cases ys with
  | nil => cases h
  | cons y t =>
    rw [provesR_cons] at h
    split at h
    · rename_i hc; cases h; exact hc.1
    · cases h
def hiC (oa ob : Option Int) (a1 a2 b1 b2 : Value) : Array Value := match oa, ob with
  | none, none => #[.int .i64 (-1), .slice none 0 0, .slice none 0 0]
  | some v, none => #[.int .i64 v, a1, a2]
  | none, some u => #[.int .i64 u, b1, b2]
  | some v, some u => bif decide (v < u) then #[.int .i64 u, b1, b2] else #[.int .i64 v, a1, a2]
theorem hiC_some (v u : Int) (a1 a2 b1 b2 : Value) : hiC (some v) (some u) a1 a2 b1 b2 = bif decide (v < u) then #[.int .i64 u, b1, b2] else #[.int .i64 v, a1, a2] := rfl
section
variable {ops : Array Oper} {rest : List Oper} {o : Oper} {a : Act} {w : World} {Q : Exit → Act → World → Prop}
theorem wpList_put_rlock (hgd : o.guard = none) (x y : Operand) (ho : o.op = .store 38 x y) (g : Nat) (c0 c1 c2 d0 d1 d2 : Value) (hx : a.eval x = .pointer (some ⟨g, 0, none⟩)) (hy : a.eval y = .agg #[c0, c1, c2]) (t : TypeId) (hg : w.heap[g]? = some (.cells #[d0, d1, d2] t (0, 0)))
    (h1 : (#[c0, c1, c2] : Array Value).all (·.oneCell') = true) (h : ∀ w', w'.heap[g]? = some (.cells #[c0, c1, c2] t (0, 0)) → Keeps g w w' → wpList Try.prog ops Q rest (a.put o.dst undef) w') : wpList Try.prog ops Q (o :: rest) a w :=
  wpList_store_blk hgd 38 x y ho g #[c0, c1, c2] hx hy t _ hg (rlock_info _ _ _) rfl h1 (h _ (setRow_at hg _) ⟨rfl, rfl, rfl, by simp, fun k _ hk => heap_setRow_other _ _ hk⟩)
end
set_option maxRecDepth 10000 in
set_option maxHeartbeats 4000000 in
theorem rHigher_any (rg n : Nat) (seed : Nat → Int) (slot below : Int) (ka kb : Int) (Ka Kb : List Int) (pa pb : Option Addr) (ca cb : Nat) (ya yb : List VoteW) (va vb : Option Addr) (da db : Nat) (w : World) (hX : RRing w rg seed n) (hn0 : 0 < n) (hn : n ≤ 10) (hA : LockIn w Ka pa ca ya va da) (hB : LockIn w Kb pb cb yb vb db)
    (oa ob : Option Int) (hoa : provesR (some (seed, n)) ya slot below Ka = oa) (hob : provesR (some (seed, n)) yb slot below Kb = ob) :
    Calls Try.prog 18 #[.pointer (some ⟨rg, 0, none⟩), .int .i64 slot, .int .i64 below, .agg #[.int .i64 ka, .slice pa Ka.length ca, .slice va ya.length da], .agg #[.int .i64 kb, .slice pb Kb.length cb, .slice vb yb.length db]] w
      fun e w' => e = .returned (.agg (hiC oa ob (.slice pa Ka.length ca) (.slice va ya.length da) (.slice pb Kb.length cb) (.slice vb yb.length db))) ∧ Below w.heap.size w w' := by
  obtain ⟨w0, hW⟩ : ∃ W, ((w.alloc (.cells #[.int .i64 ka, .slice pa Ka.length ca, .slice va ya.length da] 38)).alloc (.cells #[.int .i64 kb, .slice pb Kb.length cb, .slice vb yb.length db] 38)).alloc (.cells #[.int .i64 0, .slice none 0 0, .slice none 0 0] 38) = W := ⟨_, rfl⟩
  obtain ⟨hs, hb0, hb1, hb2, hBw⟩ := three_new w _ _ _ hW
  have HX : Hid (RRing w0 rg seed n) := hX.below hBw
  have HA : Hid (LockIn w0 Ka pa ca ya va da) := hA.below hBw
  have HBB : Hid (LockIn w0 Kb pb cb yb vb db) := hB.below hBw
  have HB0 : Hid (w0.heap[w.heap.size]? = some (.cells #[.int .i64 ka, .slice pa Ka.length ca, .slice va ya.length da] 38 (0, 0))) := hb0
  have HB1 : Hid (w0.heap[w.heap.size + 1]? = some (.cells #[.int .i64 kb, .slice pb Kb.length cb, .slice vb yb.length db] 38 (0, 0))) := hb1
  have HB2 : Hid (w0.heap[w.heap.size + 2]? = some (.cells #[.int .i64 0, .slice none 0 0, .slice none 0 0] 38 (0, 0))) := hb2
  have HOA : Hid (provesR (some (seed, n)) ya slot below Ka = oa) := hoa
  have HOB : Hid (provesR (some (seed, n)) yb slot below Kb = ob) := hob
  have HPD : Hid (∃ d, Try.prog.underlying 38 = some d ∧ (match d with | .struct _ | .array _ _ => true | _ => false) = true) := rlock_rowM
  have a1 : w0.cell? ⟨w.heap.size, 1, none⟩ = some (.slice pa Ka.length ca) := (cell_blk hb0 1).trans rfl
  have a2 : w0.cell? ⟨w.heap.size, 2, none⟩ = some (.slice va ya.length da) := (cell_blk hb0 2).trans rfl
  clear hb0 hb1 hb2 hs hX hA hB hoa hob
  go_enter Try.func18, Try.ntmps18
  go_wp2_with fail
  clear hW
  refine (rProves_any rg n seed va da ya slot below Ka pa ca w0 HX.out hn0 hn HA.out.votes HA.out.row HA.out.lt).mono ?_
  rintro e w1 ⟨rfl, hB1⟩
  rw [HOA.out]
  have b1 : w1.cell? ⟨w.heap.size + 1, 1, none⟩ = some (.slice pb Kb.length cb) := (cell_blk ((hB1.block _ (lt_blk HB1.out)).trans HB1.out) 1).trans rfl
  have b2 : w1.cell? ⟨w.heap.size + 1, 2, none⟩ = some (.slice vb yb.length db) := (cell_blk ((hB1.block _ (lt_blk HB1.out)).trans HB1.out) 2).trans rfl
  clear a1 a2
  simp only [provedV]
  go_wp2_with fail
  refine (rProves_any rg n seed vb db yb slot below Kb pb cb w1 (HX.out.below hB1) hn0 hn (HBB.out.below hB1).votes (HBB.out.below hB1).row HBB.out.lt).mono ?_
  rintro e w2 ⟨rfl, hB2⟩
  rw [HOB.out]
  have hB02 : Below w0.heap.size w0 w2 := hB1.trans (hB2.mono hB1.size)
  have HC0 : Hid _ := (hB02.block _ (lt_blk HB0.out)).trans HB0.out
  have HC1 : Hid _ := (hB02.block _ (lt_blk HB1.out)).trans HB1.out
  have HC2 : Hid (w2.heap[w.heap.size + 2]? = some (.cells #[.int .i64 0, .slice none 0 0, .slice none 0 0] 38 (0, 0))) := (hB02.block _ (lt_blk HB2.out)).trans HB2.out
  have a1 : w2.cell? ⟨w.heap.size, 1, none⟩ = some (.slice pa Ka.length ca) := (cell_blk HC0.out 1).trans rfl
  have a2 : w2.cell? ⟨w.heap.size, 2, none⟩ = some (.slice va ya.length da) := (cell_blk HC0.out 2).trans rfl
  have b1' : w2.cell? ⟨w.heap.size + 1, 1, none⟩ = some (.slice pb Kb.length cb) := (cell_blk HC1.out 1).trans rfl
  have b2' : w2.cell? ⟨w.heap.size + 1, 2, none⟩ = some (.slice vb yb.length db) := (cell_blk HC1.out 2).trans rfl
  have hBw2 : Below w.heap.size w w2 := hBw.trans (hB02.mono hBw.size)
  have hz2 : w.heap.size + 2 < w2.heap.size := lt_blk HC2.out
  have HPA : Hid (∀ v, oa = some v → 0 ≤ v) := fun v h => proves_pos (HOA.out.trans h)
  have HPB : Hid (∀ v, ob = some v → 0 ≤ v) := fun v h => proves_pos (HOB.out.trans h)
  clear b1 b2 hB1 hB2 hB02 HB0 HB1 HB2 HX HA HBB HOA HOB hBw HC0 HC1
  simp only [provedV]
  cases oa with
  | none =>
    cases ob with
    | none =>
      simp only [Option.getD_none, Option.isSome_none]
      go_wp2_with fail
      refine (rFree_any w2).mono ?_
      rintro e w3 ⟨rfl, hB3⟩
      have HC3 : Hid (w3.heap[w.heap.size + 2]? = some (.cells #[.int .i64 0, .slice none 0 0, .slice none 0 0] 38 (0, 0))) := (hB3.block _ hz2).trans HC2.out
      have hBw3 : Below w.heap.size w w3 := hBw2.trans (hB3.mono hBw2.size)
      have hz3 : w.heap.size + 2 < w3.heap.size := lt_blk HC3.out
      clear hB3 HC2 hBw2 hz2 a1 a2 b1' b2'
      go_wp2_with (refine wpList_put_rlock rfl _ _ rfl (w.heap.size + 2) (.int .i64 (-1)) (.slice none 0 0) (.slice none 0 0) (.int .i64 0) (.slice none 0 0) (.slice none 0 0) ?_ ?_ 38 ?_ ?_ ?_; rfl; rfl; exact HC3.out; exact lock_one rfl rfl rfl)
      intro w4 hc4 hk4
      go_wp2_with fail
      obtain ⟨d, hd1, hd2⟩ := HPD.out
      refine bodyPost_ret (v := .agg #[.int .i64 (-1), .slice none 0 0, .slice none 0 0]) ?_ rfl ⟨rfl, hBw3.trans (hk4.below (by omega) (by omega))⟩
      refine results_cell_row rfl _ _ (w.heap.size + 2) _ _ _ d rfl hc4 hd1 ?_ (rlock_info _ _ _)
      cases d <;> first | rfl | exact hd2
    | some u =>
      have hu := HPB.out u rfl
      have hu' : (-1 : Int) < u := by omega
      simp only [Option.getD_none, Option.isSome_none, Option.getD_some, Option.isSome_some]
      go_wp2_with (refine wpList_put_rlock rfl _ _ rfl (w.heap.size + 2) (.int .i64 u) (.slice pb Kb.length cb) (.slice vb yb.length db) (.int .i64 0) (.slice none 0 0) (.slice none 0 0) ?_ ?_ 38 ?_ ?_ ?_; rfl; rfl; exact HC2.out; exact lock_one rfl rfl rfl)
      intro w4 hc4 hk4
      go_wp2_with fail
      obtain ⟨d, hd1, hd2⟩ := HPD.out
      refine bodyPost_ret (v := .agg #[.int .i64 u, .slice pb Kb.length cb, .slice vb yb.length db]) ?_ rfl ⟨rfl, hBw2.trans (hk4.below (by omega) (by omega))⟩
      refine results_cell_row rfl _ _ (w.heap.size + 2) _ _ _ d rfl hc4 hd1 ?_ (rlock_info _ _ _)
      cases d <;> first | rfl | exact hd2
  | some v =>
    have hv := HPA.out v rfl
    cases ob with
    | none =>
      simp only [Option.getD_none, Option.isSome_none, Option.getD_some, Option.isSome_some]
      go_wp2_with (refine wpList_put_rlock rfl _ _ rfl (w.heap.size + 2) (.int .i64 v) (.slice pa Ka.length ca) (.slice va ya.length da) (.int .i64 0) (.slice none 0 0) (.slice none 0 0) ?_ ?_ 38 ?_ ?_ ?_; rfl; rfl; exact HC2.out; exact lock_one rfl rfl rfl)
      intro w4 hc4 hk4
      go_wp2_with fail
      obtain ⟨d, hd1, hd2⟩ := HPD.out
      refine bodyPost_ret (v := .agg #[.int .i64 v, .slice pa Ka.length ca, .slice va ya.length da]) ?_ rfl ⟨rfl, hBw2.trans (hk4.below (by omega) (by omega))⟩
      refine results_cell_row rfl _ _ (w.heap.size + 2) _ _ _ d rfl hc4 hd1 ?_ (rlock_info _ _ _)
      cases d <;> first | rfl | exact hd2
    | some u =>
      simp only [Option.getD_some, Option.isSome_some]
      by_cases q : v < u
      · have HQ : Hid (decide (v < u) = true) := decide_eq_true q
        go_wp2_with (refine wpList_put_rlock rfl _ _ rfl (w.heap.size + 2) (.int .i64 u) (.slice pb Kb.length cb) (.slice vb yb.length db) (.int .i64 0) (.slice none 0 0) (.slice none 0 0) ?_ ?_ 38 ?_ ?_ ?_; rfl; rfl; exact HC2.out; exact lock_one rfl rfl rfl)
        intro w4 hc4 hk4
        go_wp2_with fail
        obtain ⟨d, hd1, hd2⟩ := HPD.out
        refine bodyPost_ret (v := .agg #[.int .i64 u, .slice pb Kb.length cb, .slice vb yb.length db]) ?_ rfl ⟨by rw [hiC_some, HQ.out]; rfl, hBw2.trans (hk4.below (by omega) (by omega))⟩
        refine results_cell_row rfl _ _ (w.heap.size + 2) _ _ _ d rfl hc4 hd1 ?_ (rlock_info _ _ _)
        cases d <;> first | rfl | exact hd2
      · have HQ : Hid (decide (v < u) = false) := decide_eq_false q
        go_wp2_with (refine wpList_put_rlock rfl _ _ rfl (w.heap.size + 2) (.int .i64 v) (.slice pa Ka.length ca) (.slice va ya.length da) (.int .i64 0) (.slice none 0 0) (.slice none 0 0) ?_ ?_ 38 ?_ ?_ ?_; rfl; rfl; exact HC2.out; exact lock_one rfl rfl rfl)
        intro w4 hc4 hk4
        go_wp2_with fail
        obtain ⟨d, hd1, hd2⟩ := HPD.out
        refine bodyPost_ret (v := .agg #[.int .i64 v, .slice pa Ka.length ca, .slice va ya.length da]) ?_ rfl ⟨by rw [hiC_some, HQ.out]; rfl, hBw2.trans (hk4.below (by omega) (by omega))⟩
        refine results_cell_row rfl _ _ (w.heap.size + 2) _ _ _ d rfl hc4 hd1 ?_ (rlock_info _ _ _)
        cases d <;> first | rfl | exact hd2
set_option maxRecDepth 10000 in
set_option maxHeartbeats 2000000 in
theorem same7_any (x : Int) (K : List Int) (zs : List VoteW) (ka kb va vb : Option Addr) (kc kd vc vd : Nat) (w : World) (h1 : Rowed w ka K kc) (h2 : Rowed w kb K kd) (h3 : VotesIn w va vc zs) (h4 : VotesIn w vb vd zs) (hl : zs.length ≤ 1000) :
    Calls Try.prog 16 #[.agg #[.int .i64 x, .slice ka K.length kc, .slice va zs.length vc], .agg #[.int .i64 x, .slice kb K.length kd, .slice vb zs.length vd]] w fun e w' => e = .returned (.bool true) ∧ Below w.heap.size w w' := by
  obtain ⟨W, hW⟩ : ∃ W, (w.alloc (.cells #[.int .i64 x, .slice ka K.length kc, .slice va zs.length vc] 25)).alloc (.cells #[.int .i64 x, .slice kb K.length kd, .slice vb zs.length vd] 38) = W := ⟨_, rfl⟩
  obtain ⟨hs, hb0, hb1, hBw⟩ := two_new w _ _ hW
  have c1 : (convert 22 9 (.slice ka K.length kc)).run Try.prog W = .ok (.string (strOf K)) W := conv_str (h1.below hBw (Nat.le_refl _)) rfl
  have c2 : (convert 22 9 (.slice kb K.length kd)).run Try.prog W = .ok (.string (strOf K)) W := conv_str (h2.below hBw (Nat.le_refl _)) rfl
  have a0 : W.cell? ⟨w.heap.size, 0, none⟩ = some (.int .i64 x) := (cell_blk hb0 0).trans rfl
  have a1 : W.cell? ⟨w.heap.size, 1, none⟩ = some (.slice ka K.length kc) := (cell_blk hb0 1).trans rfl
  have a2 : W.cell? ⟨w.heap.size, 2, none⟩ = some (.slice va zs.length vc) := (cell_blk hb0 2).trans rfl
  have b0 : W.cell? ⟨w.heap.size + 1, 0, none⟩ = some (.int .i64 x) := (cell_blk hb1 0).trans rfl
  have b1 : W.cell? ⟨w.heap.size + 1, 1, none⟩ = some (.slice kb K.length kd) := (cell_blk hb1 1).trans rfl
  have b2 : W.cell? ⟨w.heap.size + 1, 2, none⟩ = some (.slice vb zs.length vd) := (cell_blk hb1 2).trans rfl
  have H3 : Hid (VotesIn W va vc zs) := h3.below hBw
  have H4 : Hid (VotesIn W vb vd zs) := h4.below hBw
  clear hb0 hb1 hs h1 h2 h3 h4
  go_enter Try.func16, Try.ntmps16
  go_wp2_with fail
  refine (rVotes_same va vb vc vd zs W H3.out H4.out hl).mono ?_
  rintro e w2 ⟨rfl, hB2⟩
  have hB3 : Below w.heap.size w w2 := hBw.trans (hB2.mono hBw.size)
  clear hB2 a0 a1 a2 b0 b1 b2 c1 c2 hW
  go_wp2_with fail
  go_ret
  exact ⟨rfl, hB3⟩
end Go.Proofs.Yticpkpphjpgdbaa
namespace Go.Proofs.Yticpkpphjpgdbaa
open Go.RowKit Go.Dig Go.Sha Go.Inv Go.Oct

set_option linter.unusedVariables false
def longB (la ma lb mb : Nat) : Bool := decide (500 < la ∨ 20 < ma ∨ 500 < lb ∨ 20 < mb)
set_option maxRecDepth 10000 in
set_option maxHeartbeats 2000000 in
theorem long7_any (g : Nat) (ka kb : Int) (pa pb va vb : Option Addr) (la lb ma mb ca cb da db : Nat) (w : World) (hg : w.heap[g]? = some (.cells #[.int .i64 ka, .slice pa la ca, .slice va ma da, .int .i64 kb, .slice pb lb cb, .slice vb mb db] 25 (0, 0))) :
    Calls Try.prog 9 #[.slice (some ⟨g, 0, none⟩) 2 2] w fun e w' => e = .returned (.bool (longB la ma lb mb)) ∧ w' = w := by
  have c1 : w.cell? ⟨g, 1, none⟩ = some (.slice pa la ca) := (cell_blk hg 1).trans rfl
  have c2 : w.cell? ⟨g, 2, none⟩ = some (.slice va ma da) := (cell_blk hg 2).trans rfl
  have c4 : w.cell? ⟨g, 4, none⟩ = some (.slice pb lb cb) := (cell_blk hg 4).trans rfl
  have c5 : w.cell? ⟨g, 5, none⟩ = some (.slice vb mb db) := (cell_blk hg 5).trans rfl
  clear hg
  go_enter Try.func9, Try.ntmps9
  go_wp2_with fail
  go_loopw [3] (fun iv wr => wr = w ∧ (iv = .int .i64 0 ∨ (iv = .int .i64 1 ∧ ¬ 500 < la ∧ ¬ 20 < ma) ∨ (iv = .int .i64 2 ∧ longB la ma lb mb = false))) (fun iv _ => 2 - (intOf iv).toNat)
  case atStart => exact ⟨rfl, .inl rfl⟩
  case round =>
    obtain ⟨rfl, rfl | ⟨rfl, h1, h2⟩ | ⟨rfl, h1⟩⟩ := hrel
    · by_cases q1 : 500 < la
      · have q1' : (500 : Int) < (la : Int) := by omega
        have HL : Hid (longB la ma lb mb = true) := decide_eq_true (.inl q1)
        go_wp2_with fail
        go_ret
        exact ⟨by rw [HL.out]; rfl, rfl⟩
      · have q1' : ¬ (500 : Int) < (la : Int) := by omega
        by_cases q2 : 20 < ma
        · have q2' : (20 : Int) < (ma : Int) := by omega
          have HL : Hid (longB la ma lb mb = true) := decide_eq_true (.inr (.inl q2))
          go_wp2_with fail
          go_ret
          exact ⟨by rw [HL.out]; rfl, rfl⟩
        · have q2' : ¬ (20 : Int) < (ma : Int) := by omega
          go_wp2_with fail
          go_roundw
          case rel => exact ⟨by first | trivial | rfl, .inr (.inl ⟨by go_num, by omega, by omega⟩)⟩
          case measure => simp [intOf]
    · by_cases q1 : 500 < lb
      · have q1' : (500 : Int) < (lb : Int) := by omega
        have HL : Hid (longB la ma lb mb = true) := decide_eq_true (.inr (.inr (.inl q1)))
        go_wp2_with fail
        go_ret
        exact ⟨by rw [HL.out]; rfl, rfl⟩
      · have q1' : ¬ (500 : Int) < (lb : Int) := by omega
        by_cases q2 : 20 < mb
        · have q2' : (20 : Int) < (mb : Int) := by omega
          have HL : Hid (longB la ma lb mb = true) := decide_eq_true (.inr (.inr (.inr q2)))
          go_wp2_with fail
          go_ret
          exact ⟨by rw [HL.out]; rfl, rfl⟩
        · have q2' : ¬ (20 : Int) < (mb : Int) := by omega
          have HL : Hid (longB la ma lb mb = false) := decide_eq_false (by omega)
          go_wp2_with fail
          go_roundw
          case rel => exact ⟨by first | trivial | rfl, .inr (.inr ⟨by go_num, HL.out⟩)⟩
          case measure => simp [intOf]
    · have HL : Hid (longB la ma lb mb = false) := h1
      clear h1
      go_wp2_with fail
      go_ret
      exact ⟨by rw [HL.out]; rfl, rfl⟩
/-- what Higher lays is what the document answers -/
theorem hi_same {W : World} {base : Nat} {y : Value} {oa ob : Option Int} {A B : List Int} {ya yb : List VoteW} {pa pb va vb : Option Addr} {ca cb da db : Nat} (h1 : oa.getD (-1) < ob.getD (-1) → LockG W base y ob B yb) (h2 : ¬ oa.getD (-1) < ob.getD (-1) → LockG W base y oa A ya) (hA : LockIn W A pa ca ya va da) (hB : LockIn W B pb cb yb vb db) (pA : ∀ v, oa = some v → 0 ≤ v) (pB : ∀ v, ob = some v → 0 ≤ v) :
    ∃ (x : Int) (K : List Int) (zs : List VoteW) (k1 k2 v1 v2 : Option Addr) (c1 c2 d1 d2 : Nat), y = .agg #[.int .i64 x, .slice k1 K.length c1, .slice v1 zs.length d1] ∧ hiC oa ob (.slice pa A.length ca) (.slice va ya.length da) (.slice pb B.length cb) (.slice vb yb.length db) = #[.int .i64 x, .slice k2 K.length c2, .slice v2 zs.length d2] ∧ Rowed W k1 K c1 ∧ Rowed W k2 K c2 ∧ VotesIn W v1 d1 zs ∧ VotesIn W v2 d2 zs ∧ zs.length ≤ 1000 := by
  have use : ∀ (o : Option Int) (K : List Int) (zs : List VoteW), LockG W base y o K zs → ∃ k1 v1 c1 d1, y = .agg #[.int .i64 (o.getD (-1)), .slice k1 (gotB o K).length c1, .slice v1 (gotV o zs).length d1] ∧ Rowed W k1 (gotB o K) c1 ∧ VotesIn W v1 d1 (gotV o zs) := by
    rintro o K zs ⟨x, z, e, hx, hz⟩
    obtain ⟨k1, kn, c1, rfl, hf⟩ := hx.form
    obtain ⟨v1, d1, rfl, hv⟩ := hz.form
    obtain ⟨rfl, _, hr⟩ := hf.out
    exact ⟨k1, v1, c1, d1, e, hr, hv⟩
  cases oa with
  | none =>
    cases ob with
    | none =>
      obtain ⟨k1, v1, c1, d1, e, hr, hv⟩ := use none A ya (h2 (by simp))
      exact ⟨-1, [], [], k1, none, v1, none, c1, 0, d1, 0, e, rfl, hr, .inl ⟨rfl, rfl, rfl⟩, hv, ⟨Nat.le_refl _, Nat.zero_le _, fun _ => rfl, fun j hj => by simp at hj⟩, by simp⟩
    | some u =>
      have hu := pB u rfl
      obtain ⟨k1, v1, c1, d1, e, hr, hv⟩ := use (some u) B yb (h1 (by simp; omega))
      exact ⟨u, B, yb, k1, pb, v1, vb, c1, cb, d1, db, e, rfl, hr, hB.row, hv, hB.votes, hB.few⟩
  | some v =>
    have hv0 := pA v rfl
    cases ob with
    | none =>
      obtain ⟨k1, v1, c1, d1, e, hr, hv⟩ := use (some v) A ya (h2 (by simp; omega))
      exact ⟨v, A, ya, k1, pa, v1, va, c1, ca, d1, da, e, rfl, hr, hA.row, hv, hA.votes, hA.few⟩
    | some u =>
      by_cases q : v < u
      · obtain ⟨k1, v1, c1, d1, e, hr, hv⟩ := use (some u) B yb (h1 (by simpa using q))
        exact ⟨u, B, yb, k1, pb, v1, vb, c1, cb, d1, db, e, by rw [hiC_some, decide_eq_true q]; rfl, hr, hB.row, hv, hB.votes, hB.few⟩
      · obtain ⟨k1, v1, c1, d1, e, hr, hv⟩ := use (some v) A ya (h2 (by simpa using q))
        exact ⟨v, A, ya, k1, pa, v1, va, c1, ca, d1, da, e, by rw [hiC_some, decide_eq_false q]; rfl, hr, hA.row, hv, hA.votes, hA.few⟩
/-- what stands all through -/
structure RuleI (W : World) (rg xg ba bb : Nat) (av bv : Int) (A B P : List Int) (pa pb po va vb wo : Option Addr) (ca cb pc da db wc : Nat) (ya yb ys : List VoteW) : Prop where
  ring : RingV W (.pointer (some ⟨rg, 0, none⟩)) ring4
  ref : RRing W xg (oneF 1) 4
  blkA : W.heap[ba]? = some (.cells #[.int .i64 av, .slice pa A.length ca, .slice va ya.length da] 25 (0, 0))
  blkB : W.heap[bb]? = some (.cells #[.int .i64 bv, .slice pb B.length cb, .slice vb yb.length db] 25 (0, 0))
  lockA : LockIn W A pa ca ya va da
  lockB : LockIn W B pb cb yb vb db
  val : Rowed W po P pc
  lies : Lies W po P
  why : VotesIn W wo wc ys
theorem RuleI.below {W W' : World} {rg xg ba bb : Nat} {av bv : Int} {A B P : List Int} {pa pb po va vb wo : Option Addr} {ca cb pc da db wc : Nat} {ya yb ys : List VoteW} (h : RuleI W rg xg ba bb av bv A B P pa pb po va vb wo ca cb pc da db wc ya yb ys) (hB : Below W.heap.size W W') : RuleI W' rg xg ba bb av bv A B P pa pb po va vb wo ca cb pc da db wc ya yb ys :=
  ⟨h.ring.below hB, h.ref.below hB, (hB.block _ (lt_blk h.blkA)).trans h.blkA, (hB.block _ (lt_blk h.blkB)).trans h.blkB, h.lockA.below hB, h.lockB.below hB, h.val.below hB (Nat.le_refl _), h.lies.below hB (Nat.le_refl _), h.why.below hB⟩
theorem LockG.mono {W : World} {base b : Nat} {y : Value} {o : Option Int} {K : List Int} {ys : List VoteW} (h : LockG W base y o K ys) (hb : b ≤ base) : LockG W b y o K ys := by
  obtain ⟨x, z, e, h1, h2⟩ := h
  exact ⟨x, z, e, h1.mono hb, h2.mono hb⟩
def rtSpec (rg xg base : Nat) (slot view av bv nv ld : Int) (nb my : Bool) (oa ob : Option Int) (A B P : List Int) (pa pb po va vb wo : Option Addr) (ca cb pc da db wc : Nat) (ya yb ys : List VoteW) : Nat → Value → World → Prop
  | 0, xx, _ => xx = .int .i64 nv
  | 1, xx, _ => xx = .int .i64 nv
  | 2, xx, _ => xx = .bool true
  | 3, xx, _ => xx = .bool true
  | 4, xx, _ => xx = .bool nb
  | 5, xx, _ => xx = .bool nb
  | 6, xx, _ => xx = .bool true
  | 7, xx, _ => xx = .bool true
  | 8, xx, _ => xx = .bool true
  | 9, xx, _ => xx = .pointer (some ⟨rg, 0, none⟩)
  | 10, xx, _ => xx = .agg #[.int .i64 av, .slice pa A.length ca, .slice va ya.length da]
  | 11, xx, _ => xx = .int .i64 slot
  | 12, xx, _ => xx = .int .i64 view
  | 13, xx, _ => xx = .slice po P.length pc
  | 14, xx, _ => xx = .slice wo ys.length wc
  | 15, xx, _ => xx = .bool my
  | 16, xx, _ => xx = .pointer (some ⟨xg, 0, none⟩)
  | 17, xx, _ => xx = .agg #[.int .i64 av, .slice pa A.length ca, .slice va ya.length da]
  | 18, xx, _ => xx = .int .i64 slot
  | 19, xx, _ => xx = .int .i64 view
  | 20, xx, _ => xx = .slice po P.length pc
  | 21, xx, _ => xx = .slice wo ys.length wc
  | 22, xx, _ => xx = .bool my
  | 23, xx, _ => xx = .bool true
  | 24, xx, _ => xx = .bool true
  | 25, xx, _ => xx = .bool true
  | 26, xx, _ => xx = .pointer (some ⟨rg, 0, none⟩)
  | 27, xx, _ => xx = .int .i64 slot
  | 28, xx, _ => xx = .int .i64 view
  | 29, xx, _ => xx = .agg #[.int .i64 av, .slice pa A.length ca, .slice va ya.length da]
  | 30, xx, _ => xx = .agg #[.int .i64 bv, .slice pb B.length cb, .slice vb yb.length db]
  | 31, xx, WW => (oa.getD (-1) < ob.getD (-1) → LockG WW base xx ob B yb) ∧ (¬ oa.getD (-1) < ob.getD (-1) → LockG WW base xx oa A ya)
  | 32, xx, _ => xx = .pointer (some ⟨xg, 0, none⟩)
  | 33, xx, _ => xx = .int .i64 slot
  | 34, xx, _ => xx = .int .i64 view
  | 35, xx, _ => xx = .agg #[.int .i64 av, .slice pa A.length ca, .slice va ya.length da]
  | 36, xx, _ => xx = .agg #[.int .i64 bv, .slice pb B.length cb, .slice vb yb.length db]
  | 37, xx, _ => xx = .agg (hiC oa ob (.slice pa A.length ca) (.slice va ya.length da) (.slice pb B.length cb) (.slice vb yb.length db))
  | 38, xx, _ => xx = .bool true
  | 39, xx, _ => xx = .bool true
  | 40, xx, _ => xx = .bool true
  | 41, xx, _ => xx = .int .i64 slot
  | 42, xx, _ => xx = .int .i64 view
  | 43, xx, _ => xx = .int .i64 ld
  | 44, xx, _ => xx = .int .i64 slot
  | 45, xx, _ => xx = .int .i64 view
  | 46, xx, _ => xx = .int .i64 ld
  | 47, xx, _ => xx = .bool true
  | 48, xx, _ => xx = .bool true
  | 49, xx, _ => xx = .bool true
  | 50, xx, _ => xx = .bool true
  | 51, xx, _ => xx = .bool true
  | 52, xx, _ => xx = .bool true
  | _, _, _ => True
set_option maxRecDepth 10000 in
set_option maxHeartbeats 8000000 in
theorem ruleTells_any (slot view : Int) (P : List Int) (po : Option Addr) (pc : Nat) (ys : List VoteW) (wo : Option Addr) (wc : Nat) (av : Int) (A : List Int) (pa : Option Addr) (ca : Nat) (ya : List VoteW) (va : Option Addr) (da : Nat) (bv : Int) (B : List Int) (pb : Option Addr) (cb : Nat) (yb : List VoteW) (vb : Option Addr) (db : Nat) (w : World)
    (hP : Rowed w po P pc) (hl : Lies w po P) (hc : P.length ≤ pc) (yP : BytesL P) (hV : VotesIn w wo wc ys) (hA1 : Rowed w pa A ca) (hA2 : Lies w pa A) (hA3 : A.length ≤ ca) (yA : BytesL A) (hA4 : VotesIn w va da ya) (hB1 : Rowed w pb B cb) (hB2 : Lies w pb B) (hB3 : B.length ≤ cb) (hB4 : VotesIn w vb db yb) :
    Calls Try.prog 3 #[.int .i64 slot, .int .i64 view, .slice po P.length pc, .slice wo ys.length wc, .agg #[.int .i64 av, .slice pa A.length ca, .slice va ya.length da], .agg #[.int .i64 bv, .slice pb B.length cb, .slice vb yb.length db]] w fun x w' => x = .returned (.bool true) ∧ Below w.heap.size w w' := by
  obtain ⟨w0, hW⟩ : ∃ W, ((w.alloc (.cells #[.int .i64 av, .slice pa A.length ca, .slice va ya.length da] 25)).alloc (.cells #[.int .i64 bv, .slice pb B.length cb, .slice vb yb.length db] 25)).alloc (.cells #[.int .i64 av, .slice pa A.length ca, .slice va ya.length da, .int .i64 bv, .slice pb B.length cb, .slice vb yb.length db] 25) = W := ⟨_, rfl⟩
  obtain ⟨hs, hb0, hb1, hb2, hBw⟩ := three_new w _ _ _ hW
  have HB0 : Hid _ := hb0
  have HB1 : Hid _ := hb1
  have HB2 : Hid (w0.heap[w.heap.size + 2]? = some (.cells #[.int .i64 av, .slice pa A.length ca, .slice va ya.length da, .int .i64 bv, .slice pb B.length cb, .slice vb yb.length db] 25 (0, 0))) := hb2
  have HIN : Hid (A.length ≤ 500 → B.length ≤ 500 → ya.length ≤ 20 → yb.length ≤ 20 → LockIn w0 A pa ca ya va da ∧ LockIn w0 B pb cb yb vb db) := fun k1 k2 k3 k4 => ⟨⟨hA1.below hBw (Nat.le_refl _), hA2.below hBw (Nat.le_refl _), hA3, by omega, hA4.below hBw, by omega⟩, ⟨hB1.below hBw (Nat.le_refl _), hB2.below hBw (Nat.le_refl _), hB3, by omega, hB4.below hBw, by omega⟩⟩
  have HPR : Hid (Rowed w0 po P pc) := hP.below hBw (Nat.le_refl _)
  have HLP : Hid (Lies w0 po P) := hl.below hBw (Nat.le_refl _)
  have HVV : Hid (VotesIn w0 wo wc ys) := hV.below hBw
  clear hb0 hb1 hb2 hs hP hl hV hA1 hA2 hA4 hB1 hB2 hB4
  go_enter Try.func3, Try.ntmps3
  go_wp2_with fail
  clear hW
  refine (long7_any (w.heap.size + 2) av bv pa pb va vb A.length B.length ya.length yb.length ca cb da db w0 HB2.out).mono ?_
  rintro x w1 ⟨rfl, rfl⟩
  cases hlg : longB A.length ya.length B.length yb.length
  · have hsh := of_decide_eq_false hlg
    by_cases z1 : (500 : Int) < (P.length : Int)
    · go_wp2_with fail
      go_ret
      exact ⟨rfl, hBw⟩
    by_cases z2 : (20 : Int) < (ys.length : Int)
    · go_wp2_with fail
      go_ret
      exact ⟨rfl, hBw⟩
    obtain ⟨hIA, hIB⟩ := HIN.out (by omega) (by omega) (by omega) (by omega)
    have HIA : Hid (LockIn w1 A pa ca ya va da) := hIA
    have HIB : Hid (LockIn w1 B pb cb yb vb db) := hIB
    clear hIA hIB hlg HIN HB2
    go_wp2_with (refine wpList_build_to rfl 30 _ rfl (row .u8 32 (oneF 1)) (by kernel_rfl) ?_)
    refine (sNew_any 4 (oneF 1) w1 (by decide) (by decide)).mono ?_
    rintro x w2 ⟨rg, rfl, hrg, hR, hB1⟩
    rw [show nodesOf 4 = 4 by decide] at hR
    have HR : Hid (RingV w2 (.pointer (some ⟨rg, 0, none⟩)) ring4) := ⟨rg, rfl, hR⟩
    clear hR
    go_wp2_with (refine wpList_build_to rfl 30 _ rfl (row .u8 32 (oneF 1)) (by kernel_rfl) ?_)
    refine (rNew_any 4 (oneF 1) w2 (by decide) (by decide)).mono ?_
    rintro x w3 ⟨xg, rfl, hxg, hX, hB2⟩
    rw [show nodesOf 4 = 4 by decide] at hX
    have hB13 : Below w1.heap.size w1 w3 := hB1.trans (hB2.mono hB1.size)
    obtain ⟨ba, hba⟩ : ∃ b, w.heap.size = b := ⟨_, rfl⟩
    rw [hba] at HB0 HB1 ⊢
    have HT : Hid (RuleI w3 rg xg ba (ba + 1) av bv A B P pa pb po va vb wo ca cb pc da db wc ya yb ys) := ⟨HR.out.below hB2, hX, (hB13.block _ (lt_blk HB0.out)).trans HB0.out, (hB13.block _ (lt_blk HB1.out)).trans HB1.out, HIA.out.below hB13, HIB.out.below hB13, HPR.out.below hB13 (Nat.le_refl _), HLP.out.below hB13 (Nat.le_refl _), HVV.out.below hB13⟩
    have hBw3 : Below w.heap.size w w3 := hBw.trans (hB13.mono hBw.size)
    obtain ⟨op, HOP⟩ : ∃ op, Hid (provesR ring4 ys slot view P = op) := ⟨_, rfl⟩
    clear hX HR hB1 hB2 hB13 HB0 HB1 HIA HIB HPR HLP HVV hBw hba
    go_wp2_with fail
    refine (proves_any _ ring4 wo wc ys slot view P po pc w3 HT.out.ring (by decide) HT.out.why HT.out.lies hc (by omega)).mono ?_
    rintro x w4 ⟨rfl, hB4⟩
    rw [HOP.out]
    have HT4 : Hid (RuleI w4 rg xg ba (ba + 1) av bv A B P pa pb po va vb wo ca cb pc da db wc ya yb ys) := HT.out.below hB4
    have hBw4 : Below w.heap.size w w4 := hBw3.trans (hB4.mono hBw3.size)
    clear HT hB4 hBw3
    simp only [provedV]
    go_wp2_with fail
    refine (rProves_any xg 4 (oneF 1) wo wc ys slot view P po pc w4 HT4.out.ref (by decide) (by decide) HT4.out.why HT4.out.val (by omega)).mono ?_
    rintro x w5 ⟨rfl, hB5⟩
    have hop : provesR (some (oneF 1, 4)) ys slot view P = op := HOP.out
    rw [hop]
    have HT5 : Hid (RuleI w5 rg xg ba (ba + 1) av bv A B P pa pb po va vb wo ca cb pc da db wc ya yb ys) := HT4.out.below hB5
    have hBw5 : Below w.heap.size w w5 := hBw4.trans (hB5.mono hBw4.size)
    clear HT4 hB5 hBw4 hop
    simp only [provedV]
    generalize op.getD (-1) = nv
    generalize op.isSome = nb
    obtain ⟨my, HMY⟩ : ∃ my, Hid (mayR ring4 av A slot view P ys = my) := ⟨_, rfl⟩
    obtain ⟨oa, HOA⟩ : ∃ oa, Hid (provesR ring4 ya slot view A = oa) := ⟨_, rfl⟩
    obtain ⟨ob, HOB⟩ : ∃ ob, Hid (provesR ring4 yb slot view B = ob) := ⟨_, rfl⟩
    obtain ⟨ld, HLD⟩ : ∃ ld, Hid (leadI slot view = ld) := ⟨_, rfl⟩
    go_wp2_with fail
    try simp only [List.append_eq, List.cons_append, List.nil_append]
    refine wp_region_growG (by kernel_rfl) (by kernel_rfl) (fun xs => { tmps := (Value.int IntKind.i64 slot :: Value.int IntKind.i64 view :: Value.slice po P.length pc :: Value.slice wo ys.length wc :: Value.agg #[Value.int IntKind.i64 av, Value.slice pa A.length ca, Value.slice va ya.length da] :: Value.agg #[Value.int IntKind.i64 bv, Value.slice pb B.length cb, Value.slice vb yb.length db] :: undef :: undef :: undef :: undef :: Value.pointer (some (⟨ba, 0, none⟩ : Addr)) :: Value.pointer (some (⟨ba + 1, 0, none⟩ : Addr)) :: xs 52 :: Value.pointer (some (⟨rg, 0, none⟩ : Addr)) :: Value.pointer (some (⟨xg, 0, none⟩ : Addr)) :: Value.int IntKind.i64 nv :: Value.bool nb :: Value.int IntKind.i64 nv :: Value.bool nb :: Value.agg #[Value.int IntKind.i64 av, Value.slice pa A.length ca, Value.slice va ya.length da] :: Value.agg #[Value.int IntKind.i64 bv, Value.slice pb B.length cb, Value.slice vb yb.length db] :: Value.slice (some (⟨ba + 1 + 1, 0, none⟩ : Addr)) 2 2 :: Value.bool false :: Value.bool false :: Value.slice po P.length pc :: Value.int IntKind.i64 (P.length : Int) :: Value.bool (decide (500 < (P.length : Int))) :: Value.bool (decide (500 < (P.length : Int))) :: Value.bool (decide (500 < (P.length : Int))) :: Value.slice wo ys.length wc :: Value.int IntKind.i64 (ys.length : Int) :: Value.bool (decide (20 < (ys.length : Int))) :: Value.bool (decide (500 < (P.length : Int)) || decide (20 < (ys.length : Int))) :: Value.agg (row IntKind.u8 32 (oneF 1)) :: Value.pointer (some (⟨rg, 0, none⟩ : Addr)) :: Value.agg (row IntKind.u8 32 (oneF 1)) :: Value.pointer (some (⟨xg, 0, none⟩ : Addr)) :: Value.pointer (some (⟨rg, 0, none⟩ : Addr)) :: Value.bool false :: Value.tuple #[Value.int IntKind.i64 nv, Value.bool nb] :: Value.pointer (some (⟨rg, 0, none⟩ : Addr)) :: Value.slice wo ys.length wc :: Value.int IntKind.i64 slot :: Value.int IntKind.i64 view :: Value.slice po P.length pc :: Value.tuple #[Value.int IntKind.i64 nv, Value.bool nb] :: Value.int IntKind.i64 nv :: Value.bool nb :: Value.tuple #[Value.int IntKind.i64 nv, Value.bool nb] :: Value.pointer (some (⟨xg, 0, none⟩ : Addr)) :: Value.slice wo ys.length wc :: Value.int IntKind.i64 slot :: Value.int IntKind.i64 view :: Value.slice po P.length pc :: Value.tuple #[Value.int IntKind.i64 nv, Value.bool nb] :: Value.int IntKind.i64 nv :: Value.bool nb :: xs 0 :: xs 1 :: xs 2 :: xs 3 :: xs 4 :: xs 5 :: xs 6 :: xs 7 :: xs 8 :: xs 9 :: xs 10 :: xs 11 :: xs 12 :: xs 13 :: xs 14 :: xs 15 :: xs 16 :: xs 17 :: xs 18 :: xs 19 :: xs 20 :: xs 21 :: xs 22 :: xs 23 :: xs 24 :: xs 25 :: xs 26 :: xs 27 :: xs 28 :: xs 29 :: xs 30 :: xs 31 :: xs 32 :: xs 33 :: xs 34 :: xs 35 :: xs 36 :: xs 37 :: xs 38 :: xs 39 :: xs 40 :: xs 41 :: xs 42 :: xs 43 :: xs 44 :: xs 45 :: xs 46 :: xs 47 :: xs 48 :: xs 49 :: xs 50 :: xs 51 :: []).toArray, defers := [] })
      (rtSpec rg xg w5.heap.size slot view av bv nv ld nb my oa ob A B P pa pb po va vb wo ca cb pc da db wc ya yb ys) (fun | 52 => .bool false | _ => undef) (by repeat (first | exact trivial | refine ⟨fun _ _ => rfl, ?_⟩)) (by
        intro i y w w' h hs
        unfold rtSpec at *
        split at hs <;> first | exact hs | exact trivial | exact ⟨fun q => (hs.1 q).below h, fun q => (hs.2 q).below h⟩) ⟨?_, ?_, ?_, ?_, ?_, ?_, ?_, ?_, ?_, ?_, ?_, ?_, ?_, ?_, ?_, ?_, ?_, ?_, ?_, ?_, ?_, ?_, ?_, ?_, ?_, ?_, ?_, ?_, ?_, ?_, ?_, ?_, ?_, ?_, ?_, ?_, ?_, ?_, ?_, ?_, ?_, ?_, ?_, ?_, ?_, ?_, ?_, ?_, ?_, ?_, ?_, ?_, ?_, trivial⟩ ?_
    · intro xs W hB hp K hK
      rw [if_pos (wanted_none rfl _)]
      clear hp
      go_simp
      exact hK _ _ (Below.refl _ _) rfl
    · intro xs W hB hp K hK
      rw [if_pos (wanted_none rfl _)]
      clear hp
      go_simp
      exact hK _ _ (Below.refl _ _) rfl
    · intro xs W hB hp K hK
      rw [if_pos (wanted_none rfl _)]
      have h0 : xs 0 = .int .i64 nv := hp.1 rfl
      have h1 : xs 1 = .int .i64 nv := hp.2.1 rfl
      clear hp
      simp only [h0, h1] at hK ⊢
      clear h0 h1
      go_simp
      exact hK _ _ (Below.refl _ _) (by first | rfl | (show Value.bool _ = _; simp; done) | (show Value.bool _ = _; simp; omega))
    · intro xs W hB hp K hK
      rw [if_pos (wanted_none rfl _)]
      have h2 : xs 2 = .bool true := hp.1 rfl
      clear hp
      simp only [h2] at hK ⊢
      clear h2
      go_simp
      exact hK _ _ (Below.refl _ _) rfl
    · intro xs W hB hp K hK
      have hgd : xs 3 = .bool true := hp.1 rfl
      rw [wanted_g (b := true) rfl (by show (match some (xs 3) with | some (.bool b) => some b | _ => none) = some true; rw [hgd])]
      rw [if_pos (show (true == true) = true from rfl)]
      clear hgd
      clear hp
      go_simp
      exact hK _ _ (Below.refl _ _) rfl
    · intro xs W hB hp K hK
      have hgd : xs 3 = .bool true := hp.1 rfl
      rw [wanted_g (b := true) rfl (by show (match some (xs 3) with | some (.bool b) => some b | _ => none) = some true; rw [hgd])]
      rw [if_pos (show (true == true) = true from rfl)]
      clear hgd
      clear hp
      go_simp
      exact hK _ _ (Below.refl _ _) rfl
    · intro xs W hB hp K hK
      have hgd : xs 3 = .bool true := hp.2.2.1 rfl
      rw [wanted_g (b := true) rfl (by show (match some (xs 3) with | some (.bool b) => some b | _ => none) = some true; rw [hgd])]
      rw [if_pos (show (true == true) = true from rfl)]
      clear hgd
      have h4 : xs 4 = .bool nb := hp.1 rfl
      have h5 : xs 5 = .bool nb := hp.2.1 rfl
      clear hp
      simp only [h4, h5] at hK ⊢
      clear h4 h5
      go_simp
      exact hK _ _ (Below.refl _ _) (by first | rfl | (show Value.bool _ = _; simp; done) | (show Value.bool _ = _; simp; omega))
    · intro xs W hB hp K hK
      rw [if_pos (wanted_none rfl _)]
      have h3 : xs 3 = .bool true := hp.1 rfl
      have h6 : xs 6 = .bool true := hp.2.1 rfl
      clear hp
      simp only [h3, h6] at hK ⊢
      clear h3 h6
      go_simp
      exact hK _ _ (Below.refl _ _) rfl
    · intro xs W hB hp K hK
      rw [if_pos (wanted_none rfl _)]
      have h7 : xs 7 = .bool true := hp.1 rfl
      clear hp
      simp only [h7] at hK ⊢
      clear h7
      go_simp
      exact hK _ _ (Below.refl _ _) rfl
    · intro xs W hB hp K hK
      have hgd : xs 8 = .bool true := hp.1 rfl
      rw [wanted_g (b := true) rfl (by show (match some (xs 8) with | some (.bool b) => some b | _ => none) = some true; rw [hgd])]
      rw [if_pos (show (true == true) = true from rfl)]
      clear hgd
      clear hp
      go_simp
      exact hK _ _ (Below.refl _ _) rfl
    · intro xs W hB hp K hK
      have hgd : xs 8 = .bool true := hp.1 rfl
      rw [wanted_g (b := true) rfl (by show (match some (xs 8) with | some (.bool b) => some b | _ => none) = some true; rw [hgd])]
      rw [if_pos (show (true == true) = true from rfl)]
      clear hgd
      clear hp
      exact wp_load_lock _ rfl ba rfl _ _ _ (HT5.out.below hB).blkA (hK _ _ (Below.refl _ _) rfl)
    · intro xs W hB hp K hK
      have hgd : xs 8 = .bool true := hp.1 rfl
      rw [wanted_g (b := true) rfl (by show (match some (xs 8) with | some (.bool b) => some b | _ => none) = some true; rw [hgd])]
      rw [if_pos (show (true == true) = true from rfl)]
      clear hgd
      clear hp
      go_simp
      exact hK _ _ (Below.refl _ _) rfl
    · intro xs W hB hp K hK
      have hgd : xs 8 = .bool true := hp.1 rfl
      rw [wanted_g (b := true) rfl (by show (match some (xs 8) with | some (.bool b) => some b | _ => none) = some true; rw [hgd])]
      rw [if_pos (show (true == true) = true from rfl)]
      clear hgd
      clear hp
      go_simp
      exact hK _ _ (Below.refl _ _) rfl
    · intro xs W hB hp K hK
      have hgd : xs 8 = .bool true := hp.1 rfl
      rw [wanted_g (b := true) rfl (by show (match some (xs 8) with | some (.bool b) => some b | _ => none) = some true; rw [hgd])]
      rw [if_pos (show (true == true) = true from rfl)]
      clear hgd
      clear hp
      go_simp
      exact hK _ _ (Below.refl _ _) rfl
    · intro xs W hB hp K hK
      have hgd : xs 8 = .bool true := hp.1 rfl
      rw [wanted_g (b := true) rfl (by show (match some (xs 8) with | some (.bool b) => some b | _ => none) = some true; rw [hgd])]
      rw [if_pos (show (true == true) = true from rfl)]
      clear hgd
      clear hp
      go_simp
      exact hK _ _ (Below.refl _ _) rfl
    · intro xs W hB hp K hK
      have hgd : xs 8 = .bool true := hp.2.2.2.2.2.2.1 rfl
      rw [wanted_g (b := true) rfl (by show (match some (xs 8) with | some (.bool b) => some b | _ => none) = some true; rw [hgd])]
      rw [if_pos (show (true == true) = true from rfl)]
      clear hgd
      have h9 : xs 9 = .pointer (some ⟨rg, 0, none⟩) := hp.1 rfl
      have h10 : xs 10 = .agg #[.int .i64 av, .slice pa A.length ca, .slice va ya.length da] := hp.2.1 rfl
      have h11 : xs 11 = .int .i64 slot := hp.2.2.1 rfl
      have h12 : xs 12 = .int .i64 view := hp.2.2.2.1 rfl
      have h13 : xs 13 = .slice po P.length pc := hp.2.2.2.2.1 rfl
      have h14 : xs 14 = .slice wo ys.length wc := hp.2.2.2.2.2.1 rfl
      clear hp
      simp only [h9, h10, h11, h12, h13, h14] at hK ⊢
      clear h9 h10 h11 h12 h13 h14
      go_simp
      refine (may_any _ ring4 av A pa ca (.slice va ya.length da) slot view P po pc wo wc ys W (HT5.out.below hB).ring (by decide) (HT5.out.below hB).why (HT5.out.below hB).lockA.row (HT5.out.below hB).val (HT5.out.below hB).lies hc (by omega) yA yP ⟨_, _, _, rfl⟩).mono ?_
      rintro x w' ⟨rfl, hB'⟩
      rw [HMY.out]
      exact hK _ _ hB' rfl
    · intro xs W hB hp K hK
      have hgd : xs 8 = .bool true := hp.1 rfl
      rw [wanted_g (b := true) rfl (by show (match some (xs 8) with | some (.bool b) => some b | _ => none) = some true; rw [hgd])]
      rw [if_pos (show (true == true) = true from rfl)]
      clear hgd
      clear hp
      go_simp
      exact hK _ _ (Below.refl _ _) rfl
    · intro xs W hB hp K hK
      have hgd : xs 8 = .bool true := hp.1 rfl
      rw [wanted_g (b := true) rfl (by show (match some (xs 8) with | some (.bool b) => some b | _ => none) = some true; rw [hgd])]
      rw [if_pos (show (true == true) = true from rfl)]
      clear hgd
      clear hp
      exact wp_load_lock _ rfl ba rfl _ _ _ (HT5.out.below hB).blkA (hK _ _ (Below.refl _ _) rfl)
    · intro xs W hB hp K hK
      have hgd : xs 8 = .bool true := hp.1 rfl
      rw [wanted_g (b := true) rfl (by show (match some (xs 8) with | some (.bool b) => some b | _ => none) = some true; rw [hgd])]
      rw [if_pos (show (true == true) = true from rfl)]
      clear hgd
      clear hp
      go_simp
      exact hK _ _ (Below.refl _ _) rfl
    · intro xs W hB hp K hK
      have hgd : xs 8 = .bool true := hp.1 rfl
      rw [wanted_g (b := true) rfl (by show (match some (xs 8) with | some (.bool b) => some b | _ => none) = some true; rw [hgd])]
      rw [if_pos (show (true == true) = true from rfl)]
      clear hgd
      clear hp
      go_simp
      exact hK _ _ (Below.refl _ _) rfl
    · intro xs W hB hp K hK
      have hgd : xs 8 = .bool true := hp.1 rfl
      rw [wanted_g (b := true) rfl (by show (match some (xs 8) with | some (.bool b) => some b | _ => none) = some true; rw [hgd])]
      rw [if_pos (show (true == true) = true from rfl)]
      clear hgd
      clear hp
      go_simp
      exact hK _ _ (Below.refl _ _) rfl
    · intro xs W hB hp K hK
      have hgd : xs 8 = .bool true := hp.1 rfl
      rw [wanted_g (b := true) rfl (by show (match some (xs 8) with | some (.bool b) => some b | _ => none) = some true; rw [hgd])]
      rw [if_pos (show (true == true) = true from rfl)]
      clear hgd
      clear hp
      go_simp
      exact hK _ _ (Below.refl _ _) rfl
    · intro xs W hB hp K hK
      have hgd : xs 8 = .bool true := hp.2.2.2.2.2.2.2.1 rfl
      rw [wanted_g (b := true) rfl (by show (match some (xs 8) with | some (.bool b) => some b | _ => none) = some true; rw [hgd])]
      rw [if_pos (show (true == true) = true from rfl)]
      clear hgd
      have h16 : xs 16 = .pointer (some ⟨xg, 0, none⟩) := hp.1 rfl
      have h17 : xs 17 = .agg #[.int .i64 av, .slice pa A.length ca, .slice va ya.length da] := hp.2.1 rfl
      have h18 : xs 18 = .int .i64 slot := hp.2.2.1 rfl
      have h19 : xs 19 = .int .i64 view := hp.2.2.2.1 rfl
      have h20 : xs 20 = .slice po P.length pc := hp.2.2.2.2.1 rfl
      have h21 : xs 21 = .slice wo ys.length wc := hp.2.2.2.2.2.1 rfl
      clear hp
      simp only [h16, h17, h18, h19, h20, h21] at hK ⊢
      clear h16 h17 h18 h19 h20 h21
      go_simp
      refine (rMay_any xg 4 (oneF 1) av A pa ca (.slice va ya.length da) slot view P po pc wo wc ys W (HT5.out.below hB).ref (by decide) (by decide) (HT5.out.below hB).why (HT5.out.below hB).lockA.row (HT5.out.below hB).val (by omega) yA yP ⟨_, _, _, rfl⟩).mono ?_
      rintro x w' ⟨rfl, hB'⟩
      have hmy : mayR (some (oneF 1, 4)) av A slot view P ys = my := HMY.out
      rw [hmy]
      exact hK _ _ hB' rfl
    · intro xs W hB hp K hK
      have hgd : xs 8 = .bool true := hp.2.2.1 rfl
      rw [wanted_g (b := true) rfl (by show (match some (xs 8) with | some (.bool b) => some b | _ => none) = some true; rw [hgd])]
      rw [if_pos (show (true == true) = true from rfl)]
      clear hgd
      have h15 : xs 15 = .bool my := hp.1 rfl
      have h22 : xs 22 = .bool my := hp.2.1 rfl
      clear hp
      simp only [h15, h22] at hK ⊢
      clear h15 h22
      go_simp
      exact hK _ _ (Below.refl _ _) (by first | rfl | (show Value.bool _ = _; simp; done) | (show Value.bool _ = _; simp; omega))
    · intro xs W hB hp K hK
      rw [if_pos (wanted_none rfl _)]
      have h8 : xs 8 = .bool true := hp.1 rfl
      have h23 : xs 23 = .bool true := hp.2.1 rfl
      clear hp
      simp only [h8, h23] at hK ⊢
      clear h8 h23
      go_simp
      exact hK _ _ (Below.refl _ _) rfl
    · intro xs W hB hp K hK
      rw [if_pos (wanted_none rfl _)]
      have h24 : xs 24 = .bool true := hp.1 rfl
      clear hp
      simp only [h24] at hK ⊢
      clear h24
      go_simp
      exact hK _ _ (Below.refl _ _) rfl
    · intro xs W hB hp K hK
      have hgd : xs 25 = .bool true := hp.1 rfl
      rw [wanted_g (b := true) rfl (by show (match some (xs 25) with | some (.bool b) => some b | _ => none) = some true; rw [hgd])]
      rw [if_pos (show (true == true) = true from rfl)]
      clear hgd
      clear hp
      go_simp
      exact hK _ _ (Below.refl _ _) rfl
    · intro xs W hB hp K hK
      have hgd : xs 25 = .bool true := hp.1 rfl
      rw [wanted_g (b := true) rfl (by show (match some (xs 25) with | some (.bool b) => some b | _ => none) = some true; rw [hgd])]
      rw [if_pos (show (true == true) = true from rfl)]
      clear hgd
      clear hp
      go_simp
      exact hK _ _ (Below.refl _ _) rfl
    · intro xs W hB hp K hK
      have hgd : xs 25 = .bool true := hp.1 rfl
      rw [wanted_g (b := true) rfl (by show (match some (xs 25) with | some (.bool b) => some b | _ => none) = some true; rw [hgd])]
      rw [if_pos (show (true == true) = true from rfl)]
      clear hgd
      clear hp
      go_simp
      exact hK _ _ (Below.refl _ _) rfl
    · intro xs W hB hp K hK
      have hgd : xs 25 = .bool true := hp.1 rfl
      rw [wanted_g (b := true) rfl (by show (match some (xs 25) with | some (.bool b) => some b | _ => none) = some true; rw [hgd])]
      rw [if_pos (show (true == true) = true from rfl)]
      clear hgd
      clear hp
      exact wp_load_lock _ rfl ba rfl _ _ _ (HT5.out.below hB).blkA (hK _ _ (Below.refl _ _) rfl)
    · intro xs W hB hp K hK
      have hgd : xs 25 = .bool true := hp.1 rfl
      rw [wanted_g (b := true) rfl (by show (match some (xs 25) with | some (.bool b) => some b | _ => none) = some true; rw [hgd])]
      rw [if_pos (show (true == true) = true from rfl)]
      clear hgd
      clear hp
      exact wp_load_lock _ rfl (ba + 1) rfl _ _ _ (HT5.out.below hB).blkB (hK _ _ (Below.refl _ _) rfl)
    · intro xs W hB hp K hK
      have hgd : xs 25 = .bool true := hp.2.2.2.2.2.1 rfl
      rw [wanted_g (b := true) rfl (by show (match some (xs 25) with | some (.bool b) => some b | _ => none) = some true; rw [hgd])]
      rw [if_pos (show (true == true) = true from rfl)]
      clear hgd
      have h26 : xs 26 = .pointer (some ⟨rg, 0, none⟩) := hp.1 rfl
      have h27 : xs 27 = .int .i64 slot := hp.2.1 rfl
      have h28 : xs 28 = .int .i64 view := hp.2.2.1 rfl
      have h29 : xs 29 = .agg #[.int .i64 av, .slice pa A.length ca, .slice va ya.length da] := hp.2.2.2.1 rfl
      have h30 : xs 30 = .agg #[.int .i64 bv, .slice pb B.length cb, .slice vb yb.length db] := hp.2.2.2.2.1 rfl
      clear hp
      simp only [h26, h27, h28, h29, h30] at hK ⊢
      clear h26 h27 h28 h29 h30
      go_simp
      refine (higher_any _ ring4 slot view av bv A B pa pb ca cb ya yb va vb da db W (HT5.out.below hB).ring (by decide) (HT5.out.below hB).lockA (HT5.out.below hB).lockB oa ob HOA.out HOB.out).mono ?_
      rintro x w' ⟨y, rfl, hy1, hy2, hB'⟩
      exact hK _ _ hB' ⟨fun h => (hy1 h).mono hB.size, fun h => (hy2 h).mono hB.size⟩
    · intro xs W hB hp K hK
      have hgd : xs 25 = .bool true := hp.1 rfl
      rw [wanted_g (b := true) rfl (by show (match some (xs 25) with | some (.bool b) => some b | _ => none) = some true; rw [hgd])]
      rw [if_pos (show (true == true) = true from rfl)]
      clear hgd
      clear hp
      go_simp
      exact hK _ _ (Below.refl _ _) rfl
    · intro xs W hB hp K hK
      have hgd : xs 25 = .bool true := hp.1 rfl
      rw [wanted_g (b := true) rfl (by show (match some (xs 25) with | some (.bool b) => some b | _ => none) = some true; rw [hgd])]
      rw [if_pos (show (true == true) = true from rfl)]
      clear hgd
      clear hp
      go_simp
      exact hK _ _ (Below.refl _ _) rfl
    · intro xs W hB hp K hK
      have hgd : xs 25 = .bool true := hp.1 rfl
      rw [wanted_g (b := true) rfl (by show (match some (xs 25) with | some (.bool b) => some b | _ => none) = some true; rw [hgd])]
      rw [if_pos (show (true == true) = true from rfl)]
      clear hgd
      clear hp
      go_simp
      exact hK _ _ (Below.refl _ _) rfl
    · intro xs W hB hp K hK
      have hgd : xs 25 = .bool true := hp.1 rfl
      rw [wanted_g (b := true) rfl (by show (match some (xs 25) with | some (.bool b) => some b | _ => none) = some true; rw [hgd])]
      rw [if_pos (show (true == true) = true from rfl)]
      clear hgd
      clear hp
      exact wp_load_lock _ rfl ba rfl _ _ _ (HT5.out.below hB).blkA (hK _ _ (Below.refl _ _) rfl)
    · intro xs W hB hp K hK
      have hgd : xs 25 = .bool true := hp.1 rfl
      rw [wanted_g (b := true) rfl (by show (match some (xs 25) with | some (.bool b) => some b | _ => none) = some true; rw [hgd])]
      rw [if_pos (show (true == true) = true from rfl)]
      clear hgd
      clear hp
      exact wp_load_lock _ rfl (ba + 1) rfl _ _ _ (HT5.out.below hB).blkB (hK _ _ (Below.refl _ _) rfl)
    · intro xs W hB hp K hK
      have hgd : xs 25 = .bool true := hp.2.2.2.2.2.2.1 rfl
      rw [wanted_g (b := true) rfl (by show (match some (xs 25) with | some (.bool b) => some b | _ => none) = some true; rw [hgd])]
      rw [if_pos (show (true == true) = true from rfl)]
      clear hgd
      have h32 : xs 32 = .pointer (some ⟨xg, 0, none⟩) := hp.1 rfl
      have h33 : xs 33 = .int .i64 slot := hp.2.1 rfl
      have h34 : xs 34 = .int .i64 view := hp.2.2.1 rfl
      have h35 : xs 35 = .agg #[.int .i64 av, .slice pa A.length ca, .slice va ya.length da] := hp.2.2.2.1 rfl
      have h36 : xs 36 = .agg #[.int .i64 bv, .slice pb B.length cb, .slice vb yb.length db] := hp.2.2.2.2.1 rfl
      clear hp
      simp only [h32, h33, h34, h35, h36] at hK ⊢
      clear h32 h33 h34 h35 h36
      go_simp
      refine (rHigher_any xg 4 (oneF 1) slot view av bv A B pa pb ca cb ya yb va vb da db W (HT5.out.below hB).ref (by decide) (by decide) (HT5.out.below hB).lockA (HT5.out.below hB).lockB oa ob HOA.out HOB.out).mono ?_
      rintro x w' ⟨rfl, hB'⟩
      exact hK _ _ hB' rfl
    · intro xs W hB hp K hK
      have hgd : xs 25 = .bool true := hp.2.2.2.1 rfl
      rw [wanted_g (b := true) rfl (by show (match some (xs 25) with | some (.bool b) => some b | _ => none) = some true; rw [hgd])]
      rw [if_pos (show (true == true) = true from rfl)]
      clear hgd
      have h31 : (oa.getD (-1) < ob.getD (-1) → LockG W w5.heap.size (xs 31) ob B yb) ∧ (¬ oa.getD (-1) < ob.getD (-1) → LockG W w5.heap.size (xs 31) oa A ya) := hp.1 rfl
      have h37 : xs 37 = .agg (hiC oa ob (.slice pa A.length ca) (.slice va ya.length da) (.slice pb B.length cb) (.slice vb yb.length db)) := hp.2.1 rfl
      clear hp
      obtain ⟨sx, K1, zs, k1, k2, v1, v2, c1, c2, d1, d2, e1, e2, r1, r2, q1, q2, hz⟩ := hi_same h31.1 h31.2 (HT5.out.below hB).lockA (HT5.out.below hB).lockB (fun v h => proves_pos (HOA.out.trans h)) (fun v h => proves_pos (HOB.out.trans h))
      rw [e2] at h37
      have R1 : Hid _ := r1
      have R2 : Hid _ := r2
      have Q1 : Hid _ := q1
      have Q2 : Hid _ := q2
      clear h31 r1 r2 q1 q2 e2
      simp only [e1, h37] at hK ⊢
      clear e1 h37
      go_simp
      refine (same7_any sx K1 zs k1 k2 v1 v2 c1 c2 d1 d2 W R1.out R2.out Q1.out Q2.out hz).mono ?_
      rintro x w' ⟨rfl, hB'⟩
      exact hK _ _ hB' rfl
    · intro xs W hB hp K hK
      rw [if_pos (wanted_none rfl _)]
      have h25 : xs 25 = .bool true := hp.1 rfl
      have h38 : xs 38 = .bool true := hp.2.1 rfl
      clear hp
      simp only [h25, h38] at hK ⊢
      clear h25 h38
      go_simp
      exact hK _ _ (Below.refl _ _) rfl
    · intro xs W hB hp K hK
      rw [if_pos (wanted_none rfl _)]
      have h39 : xs 39 = .bool true := hp.1 rfl
      clear hp
      simp only [h39] at hK ⊢
      clear h39
      go_simp
      exact hK _ _ (Below.refl _ _) rfl
    · intro xs W hB hp K hK
      have hgd : xs 40 = .bool true := hp.1 rfl
      rw [wanted_g (b := true) rfl (by show (match some (xs 40) with | some (.bool b) => some b | _ => none) = some true; rw [hgd])]
      rw [if_pos (show (true == true) = true from rfl)]
      clear hgd
      clear hp
      go_simp
      exact hK _ _ (Below.refl _ _) rfl
    · intro xs W hB hp K hK
      have hgd : xs 40 = .bool true := hp.1 rfl
      rw [wanted_g (b := true) rfl (by show (match some (xs 40) with | some (.bool b) => some b | _ => none) = some true; rw [hgd])]
      rw [if_pos (show (true == true) = true from rfl)]
      clear hgd
      clear hp
      go_simp
      exact hK _ _ (Below.refl _ _) rfl
    · intro xs W hB hp K hK
      have hgd : xs 40 = .bool true := hp.2.2.1 rfl
      rw [wanted_g (b := true) rfl (by show (match some (xs 40) with | some (.bool b) => some b | _ => none) = some true; rw [hgd])]
      rw [if_pos (show (true == true) = true from rfl)]
      clear hgd
      have h41 : xs 41 = .int .i64 slot := hp.1 rfl
      have h42 : xs 42 = .int .i64 view := hp.2.1 rfl
      clear hp
      simp only [h41, h42] at hK ⊢
      clear h41 h42
      go_simp
      refine (leader4_any slot view W).mono ?_
      rintro x w' ⟨rfl, hB'⟩
      rw [HLD.out]
      exact hK _ _ hB' rfl
    · intro xs W hB hp K hK
      have hgd : xs 40 = .bool true := hp.1 rfl
      rw [wanted_g (b := true) rfl (by show (match some (xs 40) with | some (.bool b) => some b | _ => none) = some true; rw [hgd])]
      rw [if_pos (show (true == true) = true from rfl)]
      clear hgd
      clear hp
      go_simp
      exact hK _ _ (Below.refl _ _) rfl
    · intro xs W hB hp K hK
      have hgd : xs 40 = .bool true := hp.1 rfl
      rw [wanted_g (b := true) rfl (by show (match some (xs 40) with | some (.bool b) => some b | _ => none) = some true; rw [hgd])]
      rw [if_pos (show (true == true) = true from rfl)]
      clear hgd
      clear hp
      go_simp
      exact hK _ _ (Below.refl _ _) rfl
    · intro xs W hB hp K hK
      have hgd : xs 40 = .bool true := hp.2.2.2.1 rfl
      rw [wanted_g (b := true) rfl (by show (match some (xs 40) with | some (.bool b) => some b | _ => none) = some true; rw [hgd])]
      rw [if_pos (show (true == true) = true from rfl)]
      clear hgd
      have h44 : xs 44 = .int .i64 slot := hp.1 rfl
      have h45 : xs 45 = .int .i64 view := hp.2.1 rfl
      clear hp
      simp only [h44, h45] at hK ⊢
      clear h44 h45
      go_simp
      refine (rLeader4_any slot view W).mono ?_
      rintro x w' ⟨rfl, hB'⟩
      rw [HLD.out]
      exact hK _ _ hB' rfl
    · intro xs W hB hp K hK
      have hgd : xs 40 = .bool true := hp.2.2.1 rfl
      rw [wanted_g (b := true) rfl (by show (match some (xs 40) with | some (.bool b) => some b | _ => none) = some true; rw [hgd])]
      rw [if_pos (show (true == true) = true from rfl)]
      clear hgd
      have h43 : xs 43 = .int .i64 ld := hp.1 rfl
      have h46 : xs 46 = .int .i64 ld := hp.2.1 rfl
      clear hp
      simp only [h43, h46] at hK ⊢
      clear h43 h46
      go_simp
      exact hK _ _ (Below.refl _ _) (by first | rfl | (show Value.bool _ = _; simp; done) | (show Value.bool _ = _; simp; omega))
    · intro xs W hB hp K hK
      rw [if_pos (wanted_none rfl _)]
      have h40 : xs 40 = .bool true := hp.1 rfl
      have h47 : xs 47 = .bool true := hp.2.1 rfl
      clear hp
      simp only [h40, h47] at hK ⊢
      clear h40 h47
      go_simp
      exact hK _ _ (Below.refl _ _) rfl
    · intro xs W hB hp K hK
      rw [if_pos (wanted_none rfl _)]
      have h48 : xs 48 = .bool true := hp.1 rfl
      clear hp
      simp only [h48] at hK ⊢
      clear h48
      go_simp
      exact hK _ _ (Below.refl _ _) rfl
    · intro xs W hB hp K hK
      have hgd : xs 49 = .bool true := hp.1 rfl
      rw [wanted_g (b := true) rfl (by show (match some (xs 49) with | some (.bool b) => some b | _ => none) = some true; rw [hgd])]
      rw [if_pos (show (true == true) = true from rfl)]
      clear hgd
      clear hp
      go_simp
      refine (known7_any W).mono ?_
      rintro x w' ⟨rfl, hB'⟩
      exact hK _ _ hB' rfl
    · intro xs W hB hp K hK
      rw [if_pos (wanted_none rfl _)]
      have h49 : xs 49 = .bool true := hp.1 rfl
      have h50 : xs 50 = .bool true := hp.2.1 rfl
      clear hp
      simp only [h49, h50] at hK ⊢
      clear h49 h50
      go_simp
      exact hK _ _ (Below.refl _ _) rfl
    · intro xs W hB hp K hK
      rw [if_pos (wanted_none rfl _)]
      have h51 : xs 51 = .bool true := hp.1 rfl
      clear hp
      simp only [h51] at hK ⊢
      clear h51
      go_simp
      exact hK _ _ (Below.refl _ _) rfl
    · intro xs W hB hs
      have h52 : xs 52 = .bool true := hs 52 (by simp)
      simp only [h52]
      go_wp2_with fail
      go_ret
      exact ⟨rfl, hBw5.trans (hB.mono hBw5.size)⟩
  · go_wp2_with fail
    go_ret
    exact ⟨rfl, hBw⟩
end Go.Proofs.Yticpkpphjpgdbaa
namespace Go.Proofs.Yticpkpphjpgdbaa
open Go.ChangeShapes Go.WideShapes Go.ChangeAt Go.RowKit Go.Dig Go.Deep

section
variable {H : Type} {enc : TypeId × Value → H} {W : World} {base : Nat} {spare : Nat → Bool} {held : Bool} {fuel : Nat} {cs : List Value} {x : DataW H × List MemPlace}
set_option maxRecDepth 100000 in
theorem lock_cells (h : DataW.trod enc Try.prog W base spare held fuel 25 cs = some x) : ∃ (v : Int) (a : Option Addr) (c : Nat) (P : List Int) (b : Option Addr) (d : Nat) (ys : List VoteW), cs = [.int .i64 v, .slice a P.length c, .slice b ys.length d] ∧ inI v ∧ Lies W a P ∧ P.length ≤ c ∧ BytesL P ∧ Rowed W a P c ∧ VotesIn W b d ys := by
  obtain ⟨xs, n, _, rfl, hl, hlen, hf⟩ := DataW.trod_struct Try.underlying25 h
  have hc : Try.prog.cellsOf 25 = 3 := by kernel_rfl
  have hci : Try.prog.cellsOf 3 = 1 := by kernel_rfl
  have hcb : Try.prog.cellsOf 22 = 1 := by kernel_rfl
  have hcv : Try.prog.cellsOf 23 = 1 := by kernel_rfl
  rw [hc] at hl
  match xs, hlen with
  | [y0, y1, y2], _ =>
    have g0 := hf 0 _ rfl
    have g1 := hf 1 _ rfl
    have g2 := hf 2 _ rfl
    match cs, hl with
    | [c0, c1, c2], _ =>
      simp [hci] at g0
      simp [hcb] at g1
      simp [hcv] at g2
      obtain ⟨z, e, _, hw⟩ := DataW.trod_int Try.underlying3 g0
      simp at e
      subst e
      obtain ⟨a, la, ca, hcs1⟩ : ∃ a l c, c1 = .slice a l c := by
        rcases open_slice Try.underlying22 g1 with ⟨hcs, _⟩ | ⟨ad, l, c, m, n, D, Pl, hcs, _⟩
        · simp at hcs; exact ⟨_, _, _, hcs⟩
        · simp at hcs; exact ⟨_, _, _, hcs⟩
      obtain ⟨b, lb, cb, hcs2⟩ : ∃ a l c, c2 = .slice a l c := by
        rcases open_slice Try.underlying23 g2 with ⟨hcs, _⟩ | ⟨ad, l, c, m, n, D, Pl, hcs, _⟩
        · simp at hcs; exact ⟨_, _, _, hcs⟩
        · simp at hcs; exact ⟨_, _, _, hcs⟩
      subst hcs1 hcs2
      obtain ⟨P, hP, h1, h2, h3, h4⟩ := open_rowed g1
      obtain ⟨ys, hy, hv⟩ := votes_cells g2
      subst hP hy
      exact ⟨z, a, ca, P, b, cb, ys, rfl, inI_of hw, h1, h2, h3, h4, hv⟩
end
section
variable {H : Type} {enc : TypeId × Value → H} {W : World} {r : Reach} {b0 base : Nat} {spare : Nat → Bool} {held : Bool} {v : Value} {d : DataW H} {ps : List MemPlace}
set_option maxRecDepth 100000 in
theorem open_lock (hval : Value.okWide Try.prog W r b0 25 v) (h : DataW.Trod enc Try.prog W base spare held 25 v d ps) : ∃ (z : Int) (a : Option Addr) (c : Nat) (P : List Int) (b : Option Addr) (dd : Nat) (ys : List VoteW), v = .agg #[.int .i64 z, .slice a P.length c, .slice b ys.length dd] ∧ inI z ∧ Lies W a P ∧ P.length ≤ c ∧ BytesL P ∧ Rowed W a P c ∧ VotesIn W b dd ys := by
  obtain ⟨cs, rfl⟩ := okWide_struct Try.underlying25 hval
  obtain ⟨fuel, hf⟩ := h
  obtain ⟨z, a, c, P, b, dd, ys, hc, hi⟩ := lock_cells hf
  exact ⟨z, a, c, P, b, dd, ys, congrArg Value.agg (Array.toList_inj.1 hc), hi⟩
end
end Go.Proofs.Yticpkpphjpgdbaa
namespace Go.Proofs.Yticpkpphjpgdbaa.ruleTells
open Go.ChangeShapes Go.WideShapes Go.ChangeAt Go.RowKit Go.Dig
open Go.ChangeMaps (open_string shut_string)
set_option linter.unusedVariables false

theorem laidOut : laidOutB Try.prog = true := by kernel_rfl
theorem own : ownKnob Try.prog.godebug = none := by kernel_rfl

set_option maxRecDepth 100000 in
theorem lifted (os : Os) (started : os.Started) (H : Type) (enc : TypeId × Value → H) :
    ReturnsInHanded {} Try.checked os 3 .any (Rows.ruleTellsSpec.pre6 enc Try.prog Try.f3 Rows.ruleTellsRow.domain false) (Rows.ruleTellsSpec.post enc Try.prog Try.f3 false true false false) := by
  refine returnsInHanded_of_change (C := Try.checked) own started (by kernel_rfl) Try.func3
    (ChangeSpec.witness6 (enc := enc) (C := Try.checked) false ⟨#[], #[.int .i64 0, .int .i64 0, .slice none 0 0, .slice none 0 0, .agg #[.int .i64 0, .slice none 0 0, .slice none 0 0], .agg #[.int .i64 0, .slice none 0 0, .slice none 0 0]], []⟩ 8 (by kernel_rfl) (by kernel_rfl) (by kernel_rfl) (by kernel_rfl)) ?_
  intro W base args ds gs before hval0 hW hcnd _
  have hval : ∀ (j : Nat) t v, Try.f3.params[j]? = some t → args[j]? = some v → Value.okWide Try.prog W .any base t v := hval0
  have hW' := hW
  obtain ⟨p, q, hA0, hV, rfl, hfz, hnd⟩ := hW
  have hA : DataW.TrodAll enc Try.prog W 0 (fun _ => true) true Try.f3.params.toList args.toList ds p := hA0
  rw [Try.params3] at hA hval
  obtain ⟨v0, vs0, d0, ds0, p0, q0, hargs, rfl, rfl, h0, r0⟩ := trodAll_cons hA
  obtain ⟨v1, vs1, d1, ds1, p1, q1, rfl, rfl, rfl, h1, r1⟩ := trodAll_cons r0
  obtain ⟨v2, vs2, d2, ds2, p2, q2, rfl, rfl, rfl, h2, r2⟩ := trodAll_cons r1
  obtain ⟨v3, vs3, d3, ds3, p3, q3, rfl, rfl, rfl, h3, r3⟩ := trodAll_cons r2
  obtain ⟨v4, vs4, d4, ds4, p4, q4, rfl, rfl, rfl, h4, r4⟩ := trodAll_cons r3
  obtain ⟨v5, vs5, d5, ds5, p5, q5, rfl, rfl, rfl, h5, r5⟩ := trodAll_cons r4
  obtain ⟨rfl, rfl, rfl⟩ := trodAll_nil r5
  obtain rfl : args = #[v0, v1, v2, v3, v4, v5] := by cases args; simp_all
  obtain ⟨rfl, rfl⟩ := trodVars_none hV
  obtain ⟨a0, rfl, rfl, rfl, w0⟩ := open_int Try.underlying3 (hval 0 3 v0 rfl rfl) h0
  have b0 := wf_i64 w0
  obtain ⟨a1, rfl, rfl, rfl, w1⟩ := open_int Try.underlying3 (hval 1 3 v1 rfl rfl) h1
  have b1 := wf_i64 w1
  have k2 := h2
  have lt2 : ∀ x ∈ p2, x.block < W.heap.size := by obtain ⟨m, hm⟩ := k2; exact DataW.trod_lt m _ _ _ hm
  obtain ⟨o2, len2, c2, rfl⟩ := okWide_slice Try.underlying22 (hval 2 22 v2 rfl rfl)
  obtain ⟨P2, rfl, l2, n2, y2, R2⟩ : ∃ P : List Int, len2 = P.length ∧ Lies W o2 P ∧ P.length ≤ c2 ∧ (∀ y ∈ P, 0 ≤ y ∧ y < 256) ∧ Rowed W o2 P c2 := by
    obtain ⟨fuel, hf⟩ := h2
    exact open_rowed hf
  have k3 := h3
  have lt3 : ∀ x ∈ p3, x.block < W.heap.size := by obtain ⟨m, hm⟩ := k3; exact DataW.trod_lt m _ _ _ hm
  obtain ⟨o3, len3, c3, rfl⟩ := okWide_slice Try.underlying23 (hval 3 23 v3 rfl rfl)
  obtain ⟨ys3, rfl, vin3⟩ : ∃ ys : List VoteW, len3 = ys.length ∧ VotesIn W o3 c3 ys := by
    obtain ⟨fuel, hf⟩ := h3
    exact votes_cells hf
  have k4 := h4
  have lt4 : ∀ x ∈ p4, x.block < W.heap.size := by obtain ⟨m, hm⟩ := k4; exact DataW.trod_lt m _ _ _ hm
  obtain ⟨z4, o4, c4, P4, vo4, vc4, ys4, rfl, zi4, l4, n4, y4, R4, vin4⟩ := open_lock (hval 4 25 v4 rfl rfl) h4
  have k5 := h5
  have lt5 : ∀ x ∈ p5, x.block < W.heap.size := by obtain ⟨m, hm⟩ := k5; exact DataW.trod_lt m _ _ _ hm
  obtain ⟨z5, o5, c5, P5, vo5, vc5, ys5, rfl, zi5, l5, n5, y5, R5, vin5⟩ := open_lock (hval 5 25 v5 rfl rfl) h5
  clear hA0 hval0
  refine (ruleTells_any a0 a1 P2 o2 c2 ys3 o3 c3 z4 P4 o4 c4 ys4 vo4 vc4 z5 P5 o5 c5 ys5 vo5 vc5 W R2 l2 n2 y2 vin3 R4 l4 n4 y4 vin4 R5 l5 n5 vin5).mono fun e W' ⟨he, bel⟩ => ?_
  subst he
  exact ⟨_, rfl, _, _, _, [], _, [], hW', trodAll_mk1 (shut_bool Try.underlying4 _), (trodAll_cons_mk (shut_int Try.underlying3 w0) (trodAll_cons_mk (shut_int Try.underlying3 w1) (trodAll_cons_mk (Below.trod laidOut (by kernel_rfl) (of_decide_eq_true (by kernel_rfl)) k2 bel lt2) (trodAll_cons_mk (Below.trod laidOut (by kernel_rfl) (of_decide_eq_true (by kernel_rfl)) k3 bel lt3) (trodAll_cons_mk (Below.trod laidOut (by kernel_rfl) (of_decide_eq_true (by kernel_rfl)) k4 bel lt4) (trodAll_cons_mk (Below.trod laidOut (by kernel_rfl) (of_decide_eq_true (by kernel_rfl)) k5 bel lt5) trodAll_mk0)))))), rfl, bel.frame _, fun h => by cases h⟩

theorem over : Rows.ruleTellsRow.holds Try.pinned (OpenSpec.ofChange Rows.ruleTellsSpec) :=
  OpenClaim.holds_of_wide 3 Try.f3 rfl rfl rfl rfl rfl rfl rfl ⟨rfl, rfl, rfl, rfl, rfl⟩ rfl rfl rfl rfl rfl (by kernel_rfl) Try.func3 (by kernel_rfl)
    (of_decide_eq_true (by kernel_rfl)) (by unfold Func.isWrapper; first | (rw [if_pos (by decide +kernel)]; kernel_rfl) | (rw [if_neg (by decide +kernel)]; exact ⟨rfl, rfl⟩))
    (fun os started H enc _ => lifted os started H enc)

theorem proved : Rows.RuleTellsSaid := over
#print axioms proved
end Go.Proofs.Yticpkpphjpgdbaa.ruleTells
