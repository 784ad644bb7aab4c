/- A vote is itself, as == tells it. -/
import Derived.Test.YtenadhpnbihijaaCertD
namespace Go.Proofs.Ytenadhpnbihijaa
open Go.RowKit Go.Dig Go.Sha Go.Inv Go.Oct

theorem cells_sum (x : VoteR) : x.cells.extract 3 35 = row .u8 32 x.sum := by
  refine Array.ext_getElem? fun i => ?_
  rw [Array.getElem?_extract]
  by_cases h : i < 32
  · rw [if_pos (by have := x.size; omega), x.atSum h, row_get h]
  · rw [if_neg (by have := x.size; omega), Array.getElem?_eq_none (by rw [row_size]; omega)]
theorem cells_tag (x : VoteR) : x.cells.extract 36 68 = row .u8 32 x.tag := by
  refine Array.ext_getElem? fun i => ?_
  rw [Array.getElem?_extract]
  by_cases h : i < 32
  · rw [if_pos (by have := x.size; omega), x.atTag h, row_get h]
  · rw [if_neg (by have := x.size; omega), Array.getElem?_eq_none (by rw [row_size]; omega)]
theorem equalIn_hash9 (f : Nat → Int) (w : World) : (Op.equalIn 9999 24 (.agg (row .u8 32 f)) (.agg (row .u8 32 f))).run Try.prog w = .ok true w := by
  have h : (Op.equalIn 9999 24 (.agg (row .u8 32 f)) (.agg (row .u8 32 f))).run Try.prog w = .ok (rowEq 32 f f) w := equal_row 9997 32 24 5 (by kernel_rfl) (by kernel_rfl) (fun w => by kernel_rfl) f f w
  rw [rowEq_self] at h; exact h
theorem part_int (x : VoteR) (o : Nat) (z : Int) (h : x.cells[o]? = some (.int .i64 z)) (w : World) : (part 3 x.cells o).run Try.prog w = .ok (.int .i64 z) w := by
  simp [part, isAgg, run_underlying Try.underlying3, h]
theorem equalIn_vote (x : VoteR) (w : World) : (Op.equalIn 10000 26 (.agg x.cells) (.agg x.cells)).run Try.prog w = .ok true w := by
  have h := run_equalIn_struct (P := Try.prog) w 9999 26 x.cells x.cells (by kernel_rfl) (by kernel_rfl)
  refine h.trans ?_
  have hf : (Try.prog.fieldsOf 26).toList.map (fun f => (f.type, f.offset)) = [(3, 0), (3, 1), (3, 2), (24, 3), (3, 35), (24, 36)] := by kernel_rfl
  clear h
  have key : ∀ (fs : List Field), (∀ f ∈ fs, (part f.type x.cells f.offset).run Try.prog w = (part f.type x.cells f.offset).run Try.prog w → ∃ v, (part f.type x.cells f.offset).run Try.prog w = .ok v w ∧ (Op.equalIn 9999 f.type v v).run Try.prog w = .ok true w) → (Op.eqFields 9999 x.cells x.cells fs).run Try.prog w = .ok true w := by
    intro fs
    induction fs with
    | nil => intro _; simp [Op.eqFields]
    | cons f fs ih =>
      intro hall
      obtain ⟨v, h1, h2⟩ := hall f (by simp) rfl
      have ih' := ih (fun g hg => hall g (by simp [hg]))
      simp only [Op.eqFields, Sem.run_bind, Sem.run_ite]
      split
      · rw [h1]
        simp only [Result.andThen_ok]
        rw [h1]
        simp only [Result.andThen_ok]
        rw [h2]
        simpa using ih'
      · exact ih'
  refine key _ fun f hm _ => ?_
  have hm' : (f.type, f.offset) ∈ (Try.prog.fieldsOf 26).toList.map (fun f => (f.type, f.offset)) := List.mem_map.2 ⟨f, hm, rfl⟩
  rw [hf] at hm'
  have hint : ∀ (z : Int), (Op.equalIn 9999 3 (.int .i64 z) (.int .i64 z)).run Try.prog w = .ok true w := fun z => by
    have := run_equalIn_int (P := Try.prog) w 9998 3 .i64 .i64 z z Try.underlying3
    simpa using this
  simp only [List.mem_cons, List.not_mem_nil, or_false, Prod.mk.injEq] at hm'
  rcases hm' with ⟨e1, e2⟩ | ⟨e1, e2⟩ | ⟨e1, e2⟩ | ⟨e1, e2⟩ | ⟨e1, e2⟩ | ⟨e1, e2⟩
  · rw [e1, e2]; exact ⟨_, part_int x 0 _ x.at0 w, hint _⟩
  · rw [e1, e2]; exact ⟨_, part_int x 1 _ x.at1 w, hint _⟩
  · rw [e1, e2]; exact ⟨_, part_int x 2 _ x.at2 w, hint _⟩
  · rw [e1, e2]
    refine ⟨.agg (row .u8 32 x.sum), ?_, equalIn_hash9 _ _⟩
    rw [← cells_sum]
    obtain ⟨d, hd1, hd2⟩ := hash_rowM
    cases d <;> first | (simp at hd2; done) | simp [part, isAgg, run_underlying hd1]
  · rw [e1, e2]; exact ⟨_, part_int x 35 _ x.at35 w, hint _⟩
  · rw [e1, e2]
    refine ⟨.agg (row .u8 32 x.tag), ?_, equalIn_hash9 _ _⟩
    rw [← cells_tag]
    obtain ⟨d, hd1, hd2⟩ := hash_rowM
    cases d <;> first | (simp at hd2; done) | simp [part, isAgg, run_underlying hd1]
end Go.Proofs.Ytenadhpnbihijaa
