/-
  What arguments stand for: slices of two ints, handles, inodes and tables of inodes.
-/
import Derived.Test.YtobcjnfombfdmaaTab
import Derived.Lib.SmallJoins
import Derived.SizedLaws
namespace Go.Proofs.Ytobcjnfombfdmaa
open Go.ChangeShapes Go.WideShapes Go.ChangeAt Go.RowKit Go.Deep It

theorem open_twos {H : Type} {enc : TypeId × Value → H} {P : Program} {w : World} {t e : TypeId} {f0 f1 : Field} {v : Value} {d : DataW H} {p : List MemPlace}
    (ht : P.underlying t = some (.slice e)) (he : P.underlying e = some (.struct #[f0, f1])) (ce : P.cellsOf e = 2) (o0 : f0.offset = 0) (o1 : f1.offset = 1) (c0 : P.cellsOf f0.type = 1) (c1 : P.cellsOf f1.type = 1)
    (u0 : P.underlying f0.type = some (.int .i64)) (u1 : P.underlying f1.type = some (.int .i64))
    (hv : ∃ a len cap, v = .slice a len cap) (hlt : ∀ x ∈ p, x.block < w.heap.size)
    (h : DataW.Trod enc P w 0 (fun _ => true) true t v d p) : ∃ l : List (Int × Int), AtW EH w v l := by
  obtain ⟨a, len, cap, rfl⟩ := hv
  obtain ⟨fuel, hf⟩ := h
  rcases open_slice_pairs ht he ce o0 o1 c0 c1 (by simpa [Value.cells] using hf) with ⟨hcs, hx⟩ | ⟨a', len', cap', m, n, V0, V1, D0, D1, P0, P1, hcs, _, hl, hm, hmm, hx, hall⟩
  · simp at hcs
    obtain ⟨rfl, rfl, rfl⟩ := hcs
    exact ⟨[], .inl ⟨_, _, rfl, rfl⟩⟩
  · simp at hcs
    obtain ⟨rfl, rfl, rfl⟩ := hcs
    simp only [Prod.mk.injEq] at hx
    obtain ⟨rfl, rfl⟩ := hx
    simp only [if_true] at hmm
    subst hmm
    have each : ∀ i, i < m → ∃ q : Int × Int, V0 i = .int .i64 q.1 ∧ V1 i = .int .i64 q.2 := by
      intro i hi
      obtain ⟨_, _, g0, g1⟩ := hall i hi
      obtain ⟨x, e0, _, _⟩ := DataW.trod_int u0 g0
      obtain ⟨y, e1, _, _⟩ := DataW.trod_int u1 g1
      simp only [List.cons.injEq, and_true] at e0 e1
      exact ⟨(x, y), e0, e1⟩
    have : Inhabited (Int × Int) := ⟨(0, 0)⟩
    obtain ⟨q, hq⟩ := choose_lt each
    refine ⟨(List.range len).map q, ?_⟩
    by_cases hp : 0 < len
    · obtain ⟨b, off, spot⟩ := a'
      have hspot : spot = none := by simpa [Addr.add] using World.cell?_spot (hall 0 (by omega)).1
      subst hspot
      refine .inr ⟨b, off, m, by simp, trivial, ?_, by simpa using hp, by simpa using hl, hm, fun j u hj => ?_⟩
      · have := hlt (MemPlace.cell b off) (by
          refine List.mem_append_left _ ?_
          exact List.mem_map.2 ⟨0, List.mem_range.2 (by omega), rfl⟩)
        exact this
      · have hlt2 : j < (EH.flat ((List.range len).map q)).length := (List.getElem?_eq_some_iff.1 hj).1
        rw [EH.flat_length, show EH.sz = 2 from rfl] at hlt2
        have hjl : j < len * 2 := by simpa using hlt2
        have hi : j / 2 < len := by omega
        have hgi : ((List.range len).map q)[j / 2]? = some (q (j / 2)) := by simp [hi]
        obtain ⟨g0, g1, _, _⟩ := hall (j / 2) (by omega)
        rw [WideShapes.add_plain] at g0 g1
        obtain ⟨e0, e1⟩ := hq (j / 2) (by omega)
        rw [e0] at g0
        rw [e1] at g1
        have k0 := EH.flat_at _ _ _ hgi 0 _ rfl
        have k1 := EH.flat_at _ _ _ hgi 1 _ rfl
        have e2 : EH.sz = 2 := rfl
        rw [e2] at k0 k1
        rcases (by omega : j = j / 2 * 2 + 0 ∨ j = j / 2 * 2 + 1) with e | e
        · rw [e] at hj ⊢
          rw [k0] at hj
          cases hj
          simpa using g0
        · rw [e] at hj ⊢
          rw [k1] at hj
          cases hj
          exact g1
    · have : len = 0 := by omega
      subst this
      exact .inl ⟨_, _, rfl, rfl⟩
end Go.Proofs.Ytobcjnfombfdmaa
