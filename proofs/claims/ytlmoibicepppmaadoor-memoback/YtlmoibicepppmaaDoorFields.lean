/-
  Slices of two-cell structs (an int and a string) and of strings, as lists: what a value stands for in a world. No program.
-/
import Derived.WalkKit
import Derived.ProofKit
import Derived.Deep.SlicePairs
namespace Go.Proofs.YtlmoibicepppmaaDoor
open Go.ChangeShapes Go.WideShapes Go.ChangeAt Go.RowKit Go.Deep
set_option maxRecDepth 100000

/-- The value v stands for the list l of fields, whose cells lie below block number B. -/
def FieldsAt (B : Nat) (w : World) (v : Value) (l : List (Int × ByteArray)) : Prop :=
  (∃ ao cap, v = .slice ao 0 cap ∧ l = []) ∨
  (∃ b off cap, v = .slice (some ⟨b, off, none⟩) l.length cap ∧ b < B ∧ 0 < l.length ∧ l.length ≤ cap ∧ cap ≤ maxLen ∧
    ∀ i, i < l.length → w.cell? ⟨b, off + i * 2, none⟩ = some (.int .i64 (l.getD i (0, .empty)).1) ∧ w.cell? ⟨b, off + i * 2 + 1, none⟩ = some (.string (l.getD i (0, .empty)).2))

theorem FieldsAt.below {B C : Nat} {w w' : World} {v : Value} {l : List (Int × ByteArray)} (h : FieldsAt B w v l) (hb : Below C w w') (hC : B ≤ C) : FieldsAt B w' v l := by
  rcases h with h | ⟨b, off, cap, hv, hB, hp, hc, hm, hx⟩
  · exact .inl h
  · refine .inr ⟨b, off, cap, hv, hB, hp, hc, hm, fun i hi => ?_⟩
    rw [hb.cell (p := ⟨b, off + i * 2, none⟩) (by show b < C; omega), hb.cell (p := ⟨b, off + i * 2 + 1, none⟩) (by show b < C; omega)]
    exact hx i hi

theorem FieldsAt.mono {B C : Nat} {w : World} {v : Value} {l : List (Int × ByteArray)} (h : FieldsAt B w v l) (hC : B ≤ C) : FieldsAt C w v l := by
  rcases h with h | ⟨b, off, cap, hv, hB, hp, hc, hm, hx⟩
  · exact .inl h
  · exact .inr ⟨b, off, cap, hv, by omega, hp, hc, hm, hx⟩

/-- What reads as fields: each tag an int, each value a string that can be. -/
def okFields (l : List (Int × ByteArray)) : Prop := ∀ x ∈ l, (-9223372036854775808 ≤ x.1 ∧ x.1 ≤ 9223372036854775807) ∧ x.2.size ≤ maxLen

theorem okFields.at {l : List (Int × ByteArray)} (h : okFields l) {i : Nat} (hi : i < l.length) : (-9223372036854775808 ≤ (l.getD i (0, .empty)).1 ∧ (l.getD i (0, .empty)).1 ≤ 9223372036854775807) ∧ (l.getD i (0, .empty)).2.size ≤ maxLen := by
  have : l.getD i (0, .empty) ∈ l := by simp [List.getD, hi]
  exact h _ this

/-- The value v stands for the list l of strings, whose cells lie below block number B. -/
def StrsAt (B : Nat) (w : World) (v : Value) (l : List ByteArray) : Prop :=
  (∃ ao cap, v = .slice ao 0 cap ∧ l = []) ∨
  (∃ b off cap, v = .slice (some ⟨b, off, none⟩) l.length cap ∧ b < B ∧ 0 < l.length ∧ l.length ≤ cap ∧ cap ≤ maxLen ∧
    ∀ i, i < l.length → w.cell? ⟨b, off + i, none⟩ = some (.string (l.getD i .empty)))

theorem StrsAt.below {B C : Nat} {w w' : World} {v : Value} {l : List ByteArray} (h : StrsAt B w v l) (hb : Below C w w') (hC : B ≤ C) : StrsAt B w' v l := by
  rcases h with h | ⟨b, off, cap, hv, hB, hp, hc, hm, hx⟩
  · exact .inl h
  · refine .inr ⟨b, off, cap, hv, hB, hp, hc, hm, fun i hi => ?_⟩
    rw [hb.cell (p := ⟨b, off + i, none⟩) (by show b < C; omega)]
    exact hx i hi

theorem StrsAt.mono' {B C : Nat} {w : World} {v : Value} {l : List ByteArray} (h : StrsAt B w v l) (hC : B ≤ C) : StrsAt C w v l := by
  rcases h with h | ⟨b, off, cap, hv, hB, hp, hc, hm, hx⟩
  · exact .inl h
  · exact .inr ⟨b, off, cap, hv, by omega, hp, hc, hm, hx⟩

/-- An own row of strings, as a list. -/
theorem StrsAt.of_own {base : Nat} {w : World} {v : Value} {e : TypeId} {l : List ByteArray} (h : w.ownsRow base e 1 v l.length (l.map Value.string)) : StrsAt w.heap.size w v l := by
  have hlt := h.lt
  rcases h.2 with ⟨rfl, hn⟩ | ⟨g, cap, cur, rfl, hbg, hg, hnc, hcm, hcs, htake⟩
  · exact .inl ⟨none, 0, rfl, List.eq_nil_of_length_eq_zero hn⟩
  · by_cases hp : 0 < l.length
    · refine .inr ⟨g, 0, cap, rfl, (hlt g rfl).2, hp, hnc, hcm, fun i hi => ?_⟩
      have := h.cells (g := g) rfl i (.string (l.getD i .empty)) (by simp [List.getD, hi])
      rw [WideShapes.add_plain] at this
      exact this
    · have : l = [] := List.eq_nil_of_length_eq_zero (by omega)
      subst this
      exact .inl ⟨_, _, rfl, rfl⟩

/-- An own row of fields, as a list. -/
def cellsOf (l : List (Int × ByteArray)) : List Value := l.flatMap fun x => [.int .i64 x.1, .string x.2]
theorem cellsOf_length (l : List (Int × ByteArray)) : (cellsOf l).length = l.length * 2 := by
  induction l with
  | nil => rfl
  | cons x l ih => simp only [cellsOf, List.flatMap_cons, List.length_append, List.length_cons, List.length_nil] at ih ⊢; omega
theorem cellsOf_append (l m : List (Int × ByteArray)) : cellsOf (l ++ m) = cellsOf l ++ cellsOf m := by simp [cellsOf]
theorem cellsOf_at (l : List (Int × ByteArray)) : ∀ i, i < l.length → (cellsOf l)[i * 2]? = some (.int .i64 (l.getD i (0, .empty)).1) ∧ (cellsOf l)[i * 2 + 1]? = some (.string (l.getD i (0, .empty)).2) := by
  induction l with
  | nil => intro i hi; simp at hi
  | cons x l ih =>
    intro i hi
    match i, hi with
    | 0, _ => simp [cellsOf]
    | i + 1, hi =>
      have := ih i (by simpa using hi)
      have e : cellsOf (x :: l) = .int .i64 x.1 :: .string x.2 :: cellsOf l := by simp [cellsOf]
      rw [e, show (i + 1) * 2 = i * 2 + 1 + 1 from by omega]
      simpa using this

theorem FieldsAt.of_own {base : Nat} {w : World} {v : Value} {e : TypeId} {l : List (Int × ByteArray)} (h : w.ownsRow base e 2 v l.length (cellsOf l)) : FieldsAt w.heap.size w v l := by
  have hlt := h.lt
  rcases h.2 with ⟨rfl, hn⟩ | ⟨g, cap, cur, rfl, hbg, hg, hnc, hcm, hcs, htake⟩
  · exact .inl ⟨none, 0, rfl, List.eq_nil_of_length_eq_zero hn⟩
  · by_cases hp : 0 < l.length
    · refine .inr ⟨g, 0, cap, rfl, (hlt g rfl).2, hp, hnc, hcm, fun i hi => ?_⟩
      have h0 := h.cells (g := g) rfl (i * 2) _ (cellsOf_at l i hi).1
      have h1 := h.cells (g := g) rfl (i * 2 + 1) _ (cellsOf_at l i hi).2
      rw [WideShapes.add_plain] at h0 h1
      exact ⟨h0, by rw [Nat.add_assoc]; exact h1⟩
    · have : l = [] := List.eq_nil_of_length_eq_zero (by omega)
      subst this
      exact .inl ⟨_, _, rfl, rfl⟩

/-- What an argument of such a slice type stands for. -/
theorem open_fields {H : Type} {enc : TypeId × Value → H} {P : Program} {w : World} {t e : TypeId} {f0 f1 : Field} {v : Value} {d : DataW H} {p : List MemPlace}
    (ht : P.underlying t = some (.slice e)) (he : P.underlying e = some (.struct #[f0, f1])) (ce : P.cellsOf e = 2) (o0 : f0.offset = 0) (o1 : f1.offset = 1) (c0 : P.cellsOf f0.type = 1) (c1 : P.cellsOf f1.type = 1)
    (u0 : P.underlying f0.type = some (.int .i64)) (u1 : P.underlying f1.type = some .string)
    (hv : ∃ a len cap, v = .slice a len cap) (hlt : ∀ x ∈ p, x.block < w.heap.size)
    (h : DataW.Trod enc P w 0 (fun _ => true) true t v d p) :
    ∃ (l sp : List (Int × ByteArray)), FieldsAt w.heap.size w v l ∧ okFields l ∧
      (d = .nil ∧ l = [] ∨ d = .slice (l.map fun x => .agg [.lit (.int .i64 x.1), .lit (.string x.2.data.toList)]) (sp.map fun x => .agg [.lit (.int .i64 x.1), .lit (.string x.2.data.toList)])) := by
  obtain ⟨a, len, cap, rfl⟩ := hv
  obtain ⟨fuel, hf⟩ := h
  rcases open_slice_pairs ht he ce o0 o1 c0 c1 (by simpa [Value.cells] using hf) with ⟨hcs, hx⟩ | ⟨a', len', cap', m, n, V0, V1, D0, D1, P0, P1, hcs, _, hl, hm, hmm, hx, hall⟩
  · simp at hcs
    obtain ⟨rfl, rfl, rfl⟩ := hcs
    simp only [Prod.mk.injEq] at hx
    obtain ⟨rfl, rfl⟩ := hx
    exact ⟨[], [], .inl ⟨_, _, rfl, rfl⟩, (fun x hx => by cases hx), .inl ⟨rfl, rfl⟩⟩
  · simp at hcs
    obtain ⟨rfl, rfl, rfl⟩ := hcs
    simp only [Prod.mk.injEq] at hx
    obtain ⟨rfl, rfl⟩ := hx
    simp only [if_true] at hmm
    subst hmm
    have each : ∀ i, i < m → ∃ q : Int × ByteArray, V0 i = .int .i64 q.1 ∧ D0 i = .lit (.int .i64 q.1) ∧ (Lit.int .i64 q.1).wf = true ∧ V1 i = .string q.2 ∧ D1 i = .lit (.string q.2.data.toList) ∧ q.2.size ≤ maxLen := by
      intro i hi
      obtain ⟨_, _, g0, g1⟩ := hall i hi
      obtain ⟨x, e0, y0, wf⟩ := DataW.trod_int u0 g0
      obtain ⟨s, e1, y1, hs⟩ := DataW.trod_string u1 g1
      simp only [List.cons.injEq, and_true, Prod.mk.injEq] at e0 e1 y0 y1
      exact ⟨(x, s), e0, y0.1, wf, e1, y1.1, hs⟩
    have : Inhabited (Int × ByteArray) := ⟨(0, .empty)⟩
    obtain ⟨q, hq⟩ := choose_lt each
    refine ⟨(List.range len).map q, (List.range (m - len)).map fun j => q (len + j), ?_, ?_, .inr ?_⟩
    · by_cases hp : 0 < len
      · obtain ⟨b, off, spot⟩ := a'
        have hspot : spot = none := by simpa [Addr.add] using World.cell?_spot (hall 0 (by omega)).1
        subst hspot
        refine .inr ⟨b, off, m, by simp, ?_, by simpa using hp, by simpa using hl, hm, fun i hi => ?_⟩
        · have := hlt (MemPlace.cell b off) (by
            refine List.mem_append_left _ ?_
            exact List.mem_map.2 ⟨0, List.mem_range.2 (by omega), rfl⟩)
          exact this
        · have hi' : i < len := by simpa using hi
          obtain ⟨g0, g1, _, _⟩ := hall i (by omega)
          rw [WideShapes.add_plain] at g0 g1
          obtain ⟨e0, _, _, e1, _⟩ := hq i (by omega)
          rw [e0] at g0
          rw [e1] at g1
          simp only [List.getD, List.getElem?_map, List.getElem?_range hi', Option.map_some, Option.getD_some]
          exact ⟨g0, by rw [Nat.add_assoc]; exact g1⟩
      · have : len = 0 := by omega
        subst this
        exact .inl ⟨_, _, rfl, rfl⟩
    · intro x hx
      obtain ⟨i, hi, rfl⟩ := List.mem_map.1 hx
      obtain ⟨_, _, wf, _, _, hs⟩ := hq i (by have := List.mem_range.1 hi; omega)
      refine ⟨?_, hs⟩
      simp [Lit.wf, IntKind.min, IntKind.max, IntKind.signed, IntKind.bits] at wf
      omega
    · congr 1
      · rw [List.map_map]
        refine List.map_congr_left fun i hi => ?_
        obtain ⟨_, y0, _, _, y1, _⟩ := hq i (by have := List.mem_range.1 hi; omega)
        simp only [Function.comp, y0, y1]
      · rw [List.map_map]
        refine List.map_congr_left fun j hj => ?_
        obtain ⟨_, y0, _, _, y1, _⟩ := hq (len + j) (by have := List.mem_range.1 hj; omega)
        simp only [Function.comp, y0, y1]
end Go.Proofs.YtlmoibicepppmaaDoor
