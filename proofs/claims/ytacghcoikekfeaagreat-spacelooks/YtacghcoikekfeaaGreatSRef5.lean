/-
  A row of which one cell of one element is written (no program).
-/
import Derived.Test.YtacghcoikekfeaaGreatSRef4
namespace Go.Proofs.YtacghcoikekfeaaGreat
open Go.ChangeShapes Go.WideShapes Go.ChangeAt Go.RowKit Go.Deep It
set_option maxRecDepth 100000
theorem Enc.flat_cell {α : Type} (E : Enc α) {l : List α} {k j : Nat} {x x' : α} {u : Value} (hk : l[k]? = some x) (hj : j < E.sz) (hc : E.cells x' = (E.cells x).set j u) : (E.flat l).set (k * E.sz + j) u = E.flat (l.set k x') := by
  have hlt := (List.getElem?_eq_some_iff.1 hk).1
  have h1 := E.flat_set l k x hlt
  have h2 := E.flat_set l k x' hlt
  have hx : l.set k x = l := by
    have : l[k] = x := (List.getElem?_eq_some_iff.1 hk).2
    rw [← this]
    exact List.set_getElem_self hlt
  rw [hx] at h1
  have hlen : ((E.flat l).take (k * E.sz)).length = k * E.sz := by
    rw [List.length_take, E.flat_length]
    exact Nat.min_eq_left (Nat.mul_le_mul_right _ (by omega))
  have hcl : (E.cells x).length = E.sz := E.len x
  rw [← h2, hc]
  generalize (E.flat l).take (k * E.sz) = A at *
  generalize (E.flat l).drop (k * E.sz + E.sz) = D at *
  rw [← h1, List.append_assoc, List.append_assoc, List.set_append_right _ _ (by omega), hlen, Nat.add_sub_cancel_left, List.set_append_left _ _ (by omega)]
theorem Row.cell {α : Type} {E : Enc α} {w : World} {B : Nat} {e : TypeId} {g n cap : Nat} {ls : List α} {k j : Nat} {x x' : α} {u : Value} (h : Row E w B e (.slice (some ⟨g, 0, none⟩) n cap) ls) (hk : ls[k]? = some x) (hj : j < E.sz) (hc : E.cells x' = (E.cells x).set j u) :
    Row E (w.setCell ⟨g, k * E.sz + j, none⟩ u) B e (.slice (some ⟨g, 0, none⟩) n cap) (ls.set k x') := by
  rcases h with ⟨h, _⟩ | ⟨g', cap', cur, hv, hB, hh, h1, h2, h3, h4⟩
  · cases h
  · simp only [Value.slice.injEq, Option.some.injEq, Addr.mk.injEq] at hv
    obtain ⟨⟨rfl, -, -⟩, rfl, rfl⟩ := hv
    refine .inr ⟨g, cap, cur.setIfInBounds (k * E.sz + j) u, by rw [List.length_set], hB, ?_, by rw [List.length_set]; exact h1, h2, by rw [Array.size_setIfInBounds]; exact h3, ?_⟩
    · simp [World.setCell, Array.getElem?_modify, hh]
    · rw [List.length_set, Array.toList_setIfInBounds, List.take_set, h4]
      exact E.flat_cell hk hj hc
end Go.Proofs.YtacghcoikekfeaaGreat
