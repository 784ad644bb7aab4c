/- Records: what it answers. What may be known of a log stays so. -/
import Derived.Test.YtjinhahfpkcilaaPlX
import Derived.Laws.EntriesVeiled
namespace Go.Proofs.Ytjinhahfpkcilaa
open Go.RowKit Go.Dig Go.Inv Go.Oct
set_option linter.unusedVariables false
set_option linter.unusedSimpArgs false

set_option maxRecDepth 10000 in
set_option maxHeartbeats 1000000 in
theorem Records_at (own : Own) (w : World) (lb : Nat) (x : Pl) (q : List (Option Nat)) (rv sv : Value) (mb : Option Nat) (us : List Value) (h : LgS own w lb x q rv sv mb us) (from_ : Int) :
    Calls Try.prog 19 #[.pointer (some ⟨lb, 0, none⟩), .int .i64 from_] w fun e w' => e = .returned (.func (.func 34) #[] #[.pointer (some ⟨w.heap.size + 2, 0, none⟩)]) ∧
      w' = ((w.alloc (.cells #[.int .i64 from_] 3)).alloc (.cells #[rv] 40)).alloc (.cells #[.func (.func 50) #[] #[.pointer (some ⟨w.heap.size, 0, none⟩), .pointer (some ⟨w.heap.size + 1, 0, none⟩)]] 44) := by
  have hk := kept_at own w lb x q rv sv mb us h from_
  clear h
  go_enter Try.func19, Try.ntmps19
  go_wp2_with (go_at_call 30; refine hk.mono ?_; clear hk; rintro e w1 ⟨rfl, hw1⟩; have HW : Hid _ := hw1; clear hw1)
  go_ret
  have hw := HW.out
  subst hw
  exact ⟨by simp, rfl⟩
set_option maxRecDepth 10000 in
set_option maxHeartbeats 1000000 in
theorem Records_nil (w : World) (from_ : Int) :
    Calls Try.prog 19 #[.pointer none, .int .i64 from_] w fun e w' => e = .returned (.func (.func 34) #[] #[.pointer (some ⟨w.heap.size + 2, 0, none⟩)]) ∧
      w' = ((w.alloc (.cells #[.int .i64 from_] 3)).alloc (.cells #[.slice none 0 0] 40)).alloc (.cells #[.func (.func 50) #[] #[.pointer (some ⟨w.heap.size, 0, none⟩), .pointer (some ⟨w.heap.size + 1, 0, none⟩)]] 44) := by
  have hk := kept_nil w from_
  go_enter Try.func19, Try.ntmps19
  go_wp2_with (go_at_call 30; refine hk.mono ?_; clear hk; rintro e w1 ⟨rfl, hw1⟩; have HW : Hid _ := hw1; clear hw1)
  go_ret
  have hw := HW.out
  subst hw
  exact ⟨by simp, rfl⟩
theorem Pl.set_ws {x : Pl} (h : x.Ok) {p : Nat} {t : Wt} (ht : (∀ o ∈ t.of, 0 ≤ o ∧ o < (x.rs.length : Int)) ∧ t.of.length ≤ x.rs.length ∧ 0 ≤ t.ep ∧ t.ep ≤ 100) : Pl.Ok ⟨x.ws.set p (some t), x.rs, x.sp⟩ :=
  ⟨by rw [List.length_set]; exact h.ws, fun k w hk => by
    rw [List.getElem?_set] at hk
    split at hk
    · split at hk
      · cases hk; exact ht
      · cases hk
    · exact h.off k w hk, h.rs, h.sp, h.nd⟩
theorem Pl.learn_ok {x : Pl} (h : x.Ok) (p e : Int) : (x.learn p e).2.Ok := by
  unfold Pl.learn
  split
  · rename_i hok
    have he : 0 ≤ e ∧ e ≤ 100 := by simp [okW] at hok; omega
    have ht : (∀ o ∈ (⟨e, []⟩ : Wt).of, 0 ≤ o ∧ o < (x.rs.length : Int)) ∧ (⟨e, []⟩ : Wt).of.length ≤ x.rs.length ∧ 0 ≤ (⟨e, []⟩ : Wt).ep ∧ (⟨e, []⟩ : Wt).ep ≤ 100 := ⟨fun o ho => (by cases ho), Nat.zero_le _, he.1, he.2⟩
    dsimp only
    split
    · split
      · exact Pl.set_ws h ht
      · exact h
    · exact Pl.set_ws h ht
  · exact h
theorem Pl.fin_ok {x : Pl} (h : x.Ok) (p e t : Int) (c : Bool) : (x.fin p e t c).2.Ok := by
  unfold Pl.fin
  split
  · rename_i hok
    rw [Bool.and_eq_true] at hok
    split
    · rename_i i hi
      split
      · rename_i s hs
        split
        · exact h
        · refine ⟨h.ws, h.off, h.rs, fun s' hs' => ?_, ?_⟩
          · rcases List.mem_or_eq_of_mem_set hs' with hs' | rfl
            · exact h.sp s' hs'
            · exact h.sp s (List.mem_of_getElem? hs)
          · have : (x.sp.set i ⟨s.p, s.e, s.t, s.f, kindP c⟩).map Sp.key = x.sp.map Sp.key := by
              rw [List.map_set]
              refine List.ext_getElem? fun j => ?_
              rw [List.getElem?_set]
              split
              · rename_i hij
                subst hij
                have hlt : i < (x.sp.map Sp.key).length := by rw [List.length_map]; exact (List.getElem?_eq_some_iff.1 hs).1
                rw [if_pos hlt, List.getElem?_map, hs]; rfl
              · rfl
            rw [this]; exact h.nd
      · exact h
    · rename_i hi
      refine ⟨h.ws, h.off, h.rs, fun s hs => ?_, ?_⟩
      · rcases List.mem_append.1 hs with hs | hs
        · exact h.sp s hs
        · obtain rfl := List.mem_singleton.1 hs; exact hok
      · rw [List.map_append, List.nodup_append]
        refine ⟨h.nd, by simp, fun a ha b hb => ?_⟩
        rintro rfl
        simp at hb
        exact idxK_none.1 hi (by rw [← show a = (p, e, t) from hb]; exact ha)
  · exact h
theorem Pl.wr_some {x : Pl} {p : Int} {w : Wt} (h : x.wr p = some w) : x.ws[p.toNat]? = some (some w) := by
  unfold Pl.wr at h
  cases hq : x.ws[p.toNat]? with
  | none => rw [hq] at h; cases h
  | some o => rw [hq] at h; simp at h; rw [h]
theorem Rc.ok_parts {r : Rc} (h : r.ok = true) : okW r.p r.e = true ∧ okT r.t = true := by
  unfold Rc.ok at h
  simp only [Bool.and_eq_true] at h
  exact ⟨h.1.1.1, h.1.1.2⟩
theorem Pl.takes_zero {x : Pl} {w : Wt} {r : Rc} (h : x.takes w r = 0) : x.rs.length < 128 := by
  unfold Pl.takes at h
  split at h
  · cases h
  · split at h
    · cases h
    · split at h
      · cases h
      · omega
theorem Pl.lay_ok {x : Pl} (h : x.Ok) {w : Wt} {r : Rc} (hr : r.ok = true) (hw : x.wr r.p = some w) (hl : x.rs.length < 128) : (x.lay w r).Ok := by
  obtain ⟨o1, o2, o3, o4⟩ := h.off _ _ (Pl.wr_some hw)
  have hrs : (x.rs ++ [r]).length = x.rs.length + 1 := by simp
  refine ⟨by show (x.ws.set _ _).length = 8; rw [List.length_set]; exact h.ws, fun k v hk => ?_, ⟨by show (x.rs ++ [r]).length ≤ 128; omega, fun q hq => ?_⟩, fun s hs => ?_, ?_⟩
  · show (∀ o ∈ v.of, 0 ≤ o ∧ o < ((x.rs ++ [r]).length : Int)) ∧ v.of.length ≤ (x.rs ++ [r]).length ∧ 0 ≤ v.ep ∧ v.ep ≤ 100
    rw [hrs]
    have hk' : (x.ws.set r.p.toNat (some ⟨w.ep, w.of ++ [(x.rs.length : Int)]⟩))[k]? = some (some v) := hk
    rw [List.getElem?_set] at hk'
    split at hk'
    · split at hk'
      · cases hk'
        refine ⟨fun o ho => ?_, by simp; omega, o3, o4⟩
        rcases List.mem_append.1 ho with ho | ho
        · have := o1 o ho; omega
        · obtain rfl := List.mem_singleton.1 ho; omega
      · cases hk'
    · obtain ⟨q1, q2, q3, q4⟩ := h.off _ _ hk'
      exact ⟨fun o ho => (by have := q1 o ho; omega), by omega, q3, q4⟩
  · rcases List.mem_append.1 (show q ∈ x.rs ++ [r] from hq) with hq | hq
    · exact h.rs.2 q hq
    · obtain rfl := List.mem_singleton.1 hq; exact hr
  · have hs' : s ∈ x.open1 r.key x.rs.length := hs
    unfold Pl.open1 at hs'
    split at hs'
    · exact h.sp s hs'
    · rcases List.mem_append.1 hs' with hs' | hs'
      · exact h.sp s hs'
      · obtain rfl := List.mem_singleton.1 hs'; exact Rc.ok_parts hr
  · show ((x.open1 r.key x.rs.length).map Sp.key).Nodup
    unfold Pl.open1
    split
    · exact h.nd
    · rename_i hi
      rw [List.map_append, List.nodup_append]
      refine ⟨h.nd, by simp, fun a ha b hb => ?_⟩
      rintro rfl
      simp at hb
      exact idxK_none.1 hi (by rw [← show a = r.key from hb]; exact ha)
theorem Pl.append_ok {x : Pl} (h : x.Ok) (r : Rc) : (x.append r).2.2.Ok := by
  unfold Pl.append
  split
  · rename_i hr
    split
    · exact h
    · rename_i w hw
      split
      · exact h
      · split
        · exact h
        · split
          · split
            · split
              · split <;> exact h
              · exact h
            · exact h
          · split
            · rename_i ht
              exact Pl.lay_ok h hr hw (Pl.takes_zero ht)
            · exact h
  · exact h
end Go.Proofs.Ytjinhahfpkcilaa
