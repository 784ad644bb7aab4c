/- Bytes behind bytes of the call's own; a number's bytes behind others (octet's appendNumber). For rows of up to 2^40 bytes. -/
import Derived.Test.YtjinhahfpkcilaaOct
import Derived.Test.YtjinhahfpkcilaaInv
import Derived.Test.YtjinhahfpkcilaaDigLaw
import Derived.Test.YtjinhahfpkcilaaChecked
import Derived.Laws.AppendOwnNone
import Derived.Deep.AppendLies
import Derived.Laws.Bits128
namespace Go.Proofs.Ytjinhahfpkcilaa
open Go.RowKit Go.Dig Go.Inv Go.Oct

/-- what a row that grows leaves alone -/
structure Gr (w w' : World) (v v' : Value) : Prop where
  os : w'.os = w.os
  tape : w'.tape = w.tape
  output : w'.output = w.output
  size : w.heap.size ≤ w'.heap.size
  block : ∀ k, k < w.heap.size → v.ownBlock ≠ some k → w'.heap[k]? = w.heap[k]?
  own : ∀ k, v'.ownBlock = some k → v.ownBlock = some k ∨ w.heap.size ≤ k
theorem Gr.refl (w : World) (v : Value) : Gr w w v v := ⟨rfl, rfl, rfl, Nat.le_refl _, fun _ _ _ => rfl, fun _ h => .inl h⟩
theorem Gr.trans {a b c : World} {u v x : Value} (h : Gr a b u v) (k : Gr b c v x) : Gr a c u x :=
  ⟨k.os.trans h.os, k.tape.trans h.tape, k.output.trans h.output, Nat.le_trans h.size k.size, fun i hi hn => (k.block i (Nat.lt_of_lt_of_le hi h.size) (fun e => (h.own i e).elim hn (fun g => by omega))).trans (h.block i hi hn),
   fun i hi => (k.own i hi).elim (h.own i) (fun g => .inr (Nat.le_trans h.size g))⟩
theorem Gr.alloc (w : World) (o : Obj) (v : Value) : Gr w (w.alloc o) v v := ⟨rfl, rfl, rfl, by simp, fun k hk _ => Below.heap_alloc w o k hk, fun _ h => .inl h⟩
theorem Gr.below {w w' : World} {v v' : Value} (h : Gr w w' v v') {B : Nat} (hB : B ≤ w.heap.size) (hv : ∀ k, v.ownBlock = some k → B ≤ k) : Below B w w' :=
  ⟨h.os, h.tape, h.output, h.size, fun k hk => h.block k (Nat.lt_of_lt_of_le hk hB) (fun e => by have := hv k e; omega)⟩
theorem addr_add (b o j : Nat) : (⟨b, o, none⟩ : Addr).add j = ⟨b, o + j, none⟩ := Addr.add_mid b o j
theorem below_alloc (w : World) (o : Obj) : Below w.heap.size w (w.alloc o) := (Below.refl _ _).alloc (Nat.le_refl _) _
theorem info_u8 : (Try.prog.info? 5).map (fun i => (i.zero, i.size, i.bytes)) = some (some (.int .u8 0), 1, 1) := by kernel_rfl

/-- a row of bytes that the call owns -/
def OwnB (w : World) (base : Nat) (v : Value) (L : List Int) : Prop := w.ownsRow base 5 1 v L.length (L.map (Value.int .u8))
theorem OwnB.mono {w : World} {base b : Nat} {v : Value} {L : List Int} (h : OwnB w base v L) (hb : b ≤ base) : OwnB w b v L := by
  refine ⟨h.1, ?_⟩
  rcases h.2 with hn | ⟨g, cap, cur, e, hb', rest⟩
  · exact .inl hn
  · exact .inr ⟨g, cap, cur, e, Nat.le_trans hb hb', rest⟩
theorem OwnB.nil (w : World) (base : Nat) : OwnB w base (.slice none 0 0) [] := World.ownsRow_nil w base _ 1
theorem OwnB.alloc {w : World} {base : Nat} {v : Value} {L : List Int} (h : OwnB w base v L) (o : Obj) : OwnB (w.alloc o) base v L := World.ownsRow.alloc h o
theorem OwnB.lt {w : World} {base : Nat} {v : Value} {L : List Int} (h : OwnB w base v L) : ∀ k, v.ownBlock = some k → base ≤ k ∧ k < w.heap.size := World.ownsRow.lt h
theorem OwnB.same {w w' : World} {base : Nat} {v : Value} {L : List Int} (h : OwnB w base v L) (hb : ∀ k, v.ownBlock = some k → w'.heap[k]? = w.heap[k]?) : OwnB w' base v L := by
  refine ⟨h.1, ?_⟩
  rcases h.2 with hn | ⟨g, cap, cur, rfl, hb', hgg, rest⟩
  · exact .inl hn
  · exact .inr ⟨g, cap, cur, rfl, hb', (hb g rfl).trans hgg, rest⟩
/-- where a slice's bytes lie; of no bytes nothing is asked but that it is nil or somewhere -/
def Rowed (w : World) (ao : Option Addr) (P : List Int) (cap : Nat) : Prop := (ao = none ∧ P = [] ∧ cap = 0) ∨ ∃ ad : Addr, ao = some ad ∧ ∀ j, j < P.length → w.cell? (ad.add j) = some (.int .u8 (P.getD j 0))
theorem Rowed.below {w w' : World} {B : Nat} {ao : Option Addr} {P : List Int} {cap : Nat} (h : Rowed w ao P cap) (hB : Below B w w') (hl : w.heap.size ≤ B) : Rowed w' ao P cap := by
  rcases h with h | ⟨ad, e, hc⟩
  · exact .inl h
  · exact .inr ⟨ad, e, fun j hj => (hB.cell (Nat.lt_of_lt_of_le (World.block_lt_of_cell? w _ (hc j hj)) hl)).trans (hc j hj)⟩

theorem OwnB.form {w : World} {base : Nat} {v : Value} {L : List Int} (h : OwnB w base v L) : ∃ ao n cap, v = .slice ao n cap ∧ Hid (n = L.length ∧ L.length ≤ cap ∧ Rowed w ao L cap) := by
  rcases h.2 with ⟨hv, h0⟩ | ⟨g, cap, cur, hv, hb, hh, hc, _⟩
  · have : L = [] := List.eq_nil_of_length_eq_zero h0
    subst this
    exact ⟨none, 0, 0, hv, rfl, Nat.le_refl _, .inl ⟨rfl, rfl, rfl⟩⟩
  · refine ⟨some ⟨g, 0, none⟩, L.length, cap, hv, rfl, hc, .inr ⟨_, rfl, fun j hj => ?_⟩⟩
    refine World.ownsRow.cells h (g := g) (by rw [hv]; rfl) j _ ?_
    rw [List.getElem?_map, List.getD, List.getElem?_eq_getElem hj]; rfl

theorem run_app (w : World) (base ty : Nat) (v : Value) (L : List Int) (hown : OwnB w base v L) (ad : Addr) (m c : Nat) (N : List Int) (hm : m = N.length) (hN : ∀ j, j < N.length → w.cell? (ad.add j) = some (.int .u8 (N.getD j 0)))
    (hb : L.length + m < 2199023255552) (hbase : base ≤ w.heap.size) :
    ∃ v' w', (Builtin.append_ #[30, 30] ty #[v, .slice (some ad) m c]).run Try.prog w = .ok v' w' ∧ OwnB w' base v' (L ++ N) ∧ Gr w w' v v' := by
  subst hm
  obtain ⟨i8, hi, hz0, hz1, hz2⟩ := info_parts info_u8
  have hcs : ∀ j u, (N.map (Value.int .u8))[j]? = some u → w.cell? (ad.add j) = some u := fun j u hu => by
    have hj : j < N.length := by have := (List.getElem?_eq_some_iff.1 hu).1; simpa using this
    rw [hN j hj, ← hu, List.getElem?_map, List.getD, List.getElem?_eq_getElem hj]; rfl
  obtain ⟨v', w', hr, h1, hg, hnil⟩ := run_append_own (P := Try.prog) w base 30 ty 5 i8 (.int .u8 0) 1 1 (by kernel_rfl) hi hz0 hz1 hz2 rfl (by omega) v L.length _ hown ad N.length c (N.map (Value.int .u8)) (by simp) hcs (ints_oneCell _ _) (by unfold maxLen; omega) (by omega) hbase
  refine ⟨v', w', hr, ?_, hg.os, hg.tape, hg.output, hg.size, fun k hk hne => hg.block k hk (fun e => hne e.symm), fun k hk => ?_⟩
  · unfold OwnB
    rw [List.map_append, List.length_append]; exact h1
  · have hl1 : (N.map (Value.int .u8)).length = N.length * i8.size := by rw [hz1]; simp
    rcases hown.2 with ⟨rfl, hn0⟩ | ⟨g, cap, cur, rfl, hbg, hgg, hnc, hcm, hsz, htake⟩
    · by_cases hm0 : N.length = 0
      · rw [hnil.2 ⟨rfl, hm0⟩] at hk; simp [Value.ownBlock] at hk
      · have h := run_append_nil (P := Try.prog) w 30 ty 5 i8 (.int .u8 0) (by kernel_rfl) hi hz0 ad N.length c (N.map (Value.int .u8)) hl1 hcs (by omega) (by omega) (by rw [hz2]; omega)
        rw [h] at hr
        injection hr with e1 e2
        subst e1
        simp [Value.ownBlock] at hk
        exact .inr (by omega)
    · by_cases hroom : L.length + N.length ≤ cap
      · have hfit : L.length * i8.size + (N.map (Value.int .u8)).length ≤ cur.size := by rw [hz1, hsz]; simp; omega
        have h := run_append_room (P := Try.prog) w 30 ty 5 i8 (by kernel_rfl) hi g L.length cap cur hgg ad N.length c (N.map (Value.int .u8)) hl1 hcs (ints_oneCell _ _) hroom hfit
        rw [h] at hr
        injection hr with e1 e2
        subst e1
        exact .inl hk
      · have holds : ∀ j u, (L.map (Value.int .u8))[j]? = some u → w.cell? ((⟨g, 0, none⟩ : Addr).add j) = some u := World.ownsRow.cells hown (g := g) rfl
        have h := run_append_grow (P := Try.prog) w 30 ty 5 i8 (.int .u8 0) (by kernel_rfl) hi hz0 ⟨g, 0, none⟩ L.length cap (L.map (Value.int .u8)) (by rw [hz1]; simp) holds ad N.length c (N.map (Value.int .u8)) hl1 hcs (by omega) (by omega) (growslice_fits (by omega) (by rw [hz2]; omega))
        rw [h] at hr
        injection hr with e1 e2
        subst e1
        simp [Value.ownBlock] at hk
        exact .inr (by omega)

section
variable {ops : Array Oper} {rest : List Oper} {o : Oper} {a : Act} {w : World} {Q : Exit → Act → World → Prop}
/-- a slice as it is handed about is appended to bytes that the call owns -/
theorem wpList_app (hgd : o.guard = none) (s x : Operand) (ho : o.op = .call { callee := .builtin .append, args := #[s, x], argTypes := #[30, 30] }) (base : Nat) (v : Value) (L : List Int) (hs : a.eval s = v) (hown : OwnB w base v L)
    (ao : Option Addr) (m c : Nat) (N : List Int) (hx : a.eval x = .slice ao m c) (hm : m = N.length) (hN : Rowed w ao N c) (hb : L.length + m < 2199023255552) (hbase : base ≤ w.heap.size)
    (h : ∀ v' w', Hid (OwnB w' base v' (L ++ N)) → Hid (Gr w w' v v') → wpList Try.prog ops Q rest (a.put o.dst v') w') : wpList Try.prog ops Q (o :: rest) a w := by
  rcases hN with ⟨rfl, rfl, rfl⟩ | ⟨ad, rfl, hc⟩
  · subst hm
    obtain ⟨i8, hi, hz0, hz1, hz2⟩ := info_parts info_u8
    have hrun := run_append_owned_none (P := Try.prog) w base 30 o.type 5 i8 1 (by kernel_rfl) hi v L.length (L.map (Value.int .u8)) hown
    refine wpList_plain hgd fun K hK' => ?_
    unfold Oper.wp
    simp [execOp, ho, resolve, invoke, builtin, hs, hx, hrun, Result.andThen]
    exact hK' _ _ (h v w (by rw [List.append_nil]; exact hown) (Gr.refl _ _))
  · obtain ⟨v', w', hrun, h1, h2⟩ := run_app w base o.type v L hown ad m c N hm hc hb hbase
    refine wpList_plain hgd fun K hK' => ?_
    unfold Oper.wp
    simp [execOp, ho, resolve, invoke, builtin, hs, hx, hrun, Result.andThen]
    exact hK' _ _ (h v' w' h1 h2)
end
theorem one_byte (w : World) (x : Int) (t : TypeId) (c : Nat) : Rowed (w.alloc (.cells #[.int .u8 x] t)) (some ⟨w.heap.size, 0, none⟩) [x] c := .inr ⟨_, rfl, fun j hj => by
  obtain rfl : j = 0 := by simp at hj; exact hj
  rw [addr_add, cell_blk (alloc_blk _ _)]
  rfl⟩

end Go.Proofs.Ytjinhahfpkcilaa
