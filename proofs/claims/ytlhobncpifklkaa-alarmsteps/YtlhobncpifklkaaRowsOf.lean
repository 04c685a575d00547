/-
  A slice whose elements are structs of one-cell fields, opened at every index. No program.
-/
import Derived.WalkKit
import Derived.ProofKit
import Derived.Deep.SlicePairs
import Derived.Deep.Fields
namespace Go.Proofs.Ytlhobncpifklkaa
open Go.ChangeShapes Go.WideShapes Go.ChangeAt Go.RowKit Go.Deep

theorem open_rows {H : Type} {enc : TypeId × Value → H} {P : Program} {w : World} {base : Nat} {spare : Nat → Bool} {held : Bool} {t e : TypeId} {fs : Array Field} {fuel : Nat} {cs : List Value} {x : DataW H × List MemPlace}
    (ht : P.underlying t = some (.slice e)) (he : P.underlying e = some (.struct fs)) (hone : ∀ (i : Nat) (f : Field), fs[i]? = some f → f.offset = i ∧ P.cellsOf f.type = 1) (ce : P.cellsOf e = fs.size)
    (h : DataW.trod enc P w base spare held fuel t cs = some x) :
    cs = [.slice none 0 0] ∨
    ∃ (a : Addr) (len cap n : Nat) (V : Nat → Nat → Value) (Y : Nat → Nat → DataW H × List MemPlace), cs = [.slice (some a) len cap] ∧ len ≤ cap ∧ cap ≤ maxLen ∧
      ∀ i, i < len → ∀ (j : Nat) (f : Field), fs[j]? = some f → w.cell? (a.add (i * fs.size + j)) = some (V i j) ∧ DataW.trod enc P w base spare held n f.type [V i j] = some (Y i j) := by
  rcases open_slice ht h with h0 | ⟨a, len, cap, m, n, D, Pl, rfl, hb, hl, hm, hmm, rfl, hx⟩
  · exact Or.inl h0.1
  right
  have hlm : len ≤ m := by rw [hmm]; split <;> omega
  have each : ∀ i, i < len → ∃ q : (Nat → Value) × (Nat → DataW H × List MemPlace), ∀ (j : Nat) (f : Field), fs[j]? = some f → w.cell? (a.add (i * fs.size + j)) = some (q.1 j) ∧ DataW.trod enc P w base spare held (n - 1) f.type [q.1 j] = some (q.2 j) := by
    intro i hi
    obtain ⟨cs', h1, h2⟩ := hx i (by omega)
    rw [ce] at h1
    obtain ⟨_, hlen, hcell⟩ := World.cells?_some h1
    obtain ⟨xs, k, hk, hxy, _, hxl, hf⟩ := DataW.trod_struct he h2
    have hk' : k = n - 1 := by omega
    subst hk'
    refine ⟨(fun j => cs'.getD j undef, fun j => xs.getD j (.nil, [])), fun j f hj => ?_⟩
    have hlt : j < fs.size := (Array.getElem?_eq_some_iff.1 hj).1
    obtain ⟨ho, hc1⟩ := hone j f hj
    have g := hf j f hj
    rw [ho, hc1] at g
    rw [take1_drop cs' j undef (by omega), List.getElem?_eq_getElem (by omega)] at g
    refine ⟨?_, ?_⟩
    · have := hcell j hlt
      rw [add_add, List.getElem?_eq_getElem (by omega)] at this
      rw [this]
      simp [List.getD, List.getElem?_eq_getElem (show j < cs'.length by omega)]
    · rw [g]
      simp [List.getD, List.getElem?_eq_getElem (show j < xs.length by omega)]
  have : Inhabited ((Nat → Value) × (Nat → DataW H × List MemPlace)) := ⟨(fun _ => undef, fun _ => (.nil, []))⟩
  obtain ⟨q, hq⟩ := choose_lt each
  exact ⟨a, len, cap, n - 1, fun i => (q i).1, fun i => (q i).2, rfl, hl, hm, hq⟩

/-- The value v stands for the list l of three ints each. -/
def StepsAt (w : World) (v : Value) (l : List (Int × Int × Int)) : Prop :=
  (∃ ao cap, v = .slice ao 0 cap ∧ l = []) ∨
  (∃ b off cap, v = .slice (some ⟨b, off, none⟩) l.length cap ∧ b < w.heap.size ∧ 0 < l.length ∧ l.length ≤ cap ∧ cap ≤ maxLen ∧
    ∀ i, i < l.length → w.cell? ⟨b, off + i * 3, none⟩ = some (.int .i64 (l.getD i (0, 0, 0)).1) ∧ w.cell? ⟨b, off + i * 3 + 1, none⟩ = some (.int .i64 (l.getD i (0, 0, 0)).2.1) ∧ w.cell? ⟨b, off + i * 3 + 2, none⟩ = some (.int .i64 (l.getD i (0, 0, 0)).2.2))
abbrev i64r (x : Int) : Prop := -9223372036854775808 ≤ x ∧ x ≤ 9223372036854775807
def okSteps (l : List (Int × Int × Int)) : Prop := ∀ x ∈ l, i64r x.1 ∧ i64r x.2.1 ∧ i64r x.2.2
theorem okSteps.at {l : List (Int × Int × Int)} (h : okSteps l) {i : Nat} (hi : i < l.length) : i64r (l.getD i (0, 0, 0)).1 ∧ i64r (l.getD i (0, 0, 0)).2.1 ∧ i64r (l.getD i (0, 0, 0)).2.2 := by
  have : l.getD i (0, 0, 0) ∈ l := by simp [List.getD, hi]
  exact h _ this

theorem open_steps {H : Type} {enc : TypeId × Value → H} {P : Program} {w : World} {t e : TypeId} {f0 f1 f2 : Field} {v : Value} {d : DataW H} {p : List MemPlace}
    (ht : P.underlying t = some (.slice e)) (he : P.underlying e = some (.struct #[f0, f1, f2])) (hone : oneCellFields P #[f0, f1, f2] = true) (ce : P.cellsOf e = 3)
    (u0 : P.underlying f0.type = some (.int .i64)) (u1 : P.underlying f1.type = some (.int .i64)) (u2 : P.underlying f2.type = some (.int .i64))
    (hv : ∃ a len cap, v = .slice a len cap) (h : DataW.Trod enc P w 0 (fun _ => true) true t v d p) : ∃ l, StepsAt w v l ∧ okSteps l := by
  obtain ⟨a, len, cap, rfl⟩ := hv
  obtain ⟨fuel, hf⟩ := h
  rcases open_rows ht he (hone_of hone) ce (by simpa [Value.cells] using hf) with hcs | ⟨a', len', cap', n, V, Y, hcs, hl, hm, hall⟩
  · simp at hcs
    obtain ⟨rfl, rfl, rfl⟩ := hcs
    exact ⟨[], .inl ⟨_, _, rfl, rfl⟩, fun x hx => by cases hx⟩
  · simp at hcs
    obtain ⟨rfl, rfl, rfl⟩ := hcs
    have each : ∀ i, i < len → ∃ q : Int × Int × Int, V i 0 = .int .i64 q.1 ∧ V i 1 = .int .i64 q.2.1 ∧ V i 2 = .int .i64 q.2.2 ∧ (Lit.int .i64 q.1).wf = true ∧ (Lit.int .i64 q.2.1).wf = true ∧ (Lit.int .i64 q.2.2).wf = true := by
      intro i hi
      obtain ⟨x0, e0, _, w0⟩ := DataW.trod_int u0 (hall i hi 0 f0 rfl).2
      obtain ⟨x1, e1, _, w1⟩ := DataW.trod_int u1 (hall i hi 1 f1 rfl).2
      obtain ⟨x2, e2, _, w2⟩ := DataW.trod_int u2 (hall i hi 2 f2 rfl).2
      simp only [List.cons.injEq, and_true] at e0 e1 e2
      exact ⟨(x0, x1, x2), e0, e1, e2, w0, w1, w2⟩
    have : Inhabited (Int × Int × Int) := ⟨(0, 0, 0)⟩
    obtain ⟨q, hq⟩ := choose_lt each
    have wfr : ∀ {x : Int}, (Lit.int .i64 x).wf = true → i64r x := fun {x} hx => by
      simp [Lit.wf, IntKind.min, IntKind.max, IntKind.signed, IntKind.bits] at hx
      simp only [i64r]
      omega
    refine ⟨(List.range len).map q, ?_, ?_⟩
    · by_cases hp : 0 < len
      · obtain ⟨b, off, spot⟩ := a'
        have h00 := (hall 0 hp 0 f0 rfl).1
        have hspot : spot = none := by simpa [Addr.add] using World.cell?_spot h00
        subst hspot
        refine .inr ⟨b, off, cap, by simp, ?_, by simpa using hp, by simpa using hl, hm, fun i hi => ?_⟩
        · exact World.block_lt_of_cell? _ _ h00
        · have hi' : i < len := by simpa using hi
          have g0 := (hall i hi' 0 f0 rfl).1
          have g1 := (hall i hi' 1 f1 rfl).1
          have g2 := (hall i hi' 2 f2 rfl).1
          rw [WideShapes.add_plain] at g0 g1 g2
          obtain ⟨e0, e1, e2, _⟩ := hq i hi'
          rw [e0] at g0
          rw [e1] at g1
          rw [e2] at g2
          simp only [List.getD, List.getElem?_map, List.getElem?_range hi', Option.map_some, Option.getD_some]
          exact ⟨g0, by rw [Nat.add_assoc]; exact g1, by rw [Nat.add_assoc]; exact g2⟩
      · have : len = 0 := by omega
        subst this
        exact .inl ⟨_, _, rfl, rfl⟩
    · intro x hx
      obtain ⟨i, hi, rfl⟩ := List.mem_map.1 hx
      obtain ⟨_, _, _, w0, w1, w2⟩ := hq i (by have := List.mem_range.1 hi; omega)
      exact ⟨wfr w0, wfr w1, wfr w2⟩
theorem StepsAt.kept {w w' : World} {v : Value} {l : List (Int × Int × Int)} {B : Nat} (h : StepsAt w v l) (hB : w.heap.size ≤ B) (hb : Below B w w') : StepsAt w' v l := by
  rcases h with h | ⟨b, off, cap, hv, hlt, hp, hc, hm, hx⟩
  · exact .inl h
  · refine .inr ⟨b, off, cap, hv, Nat.lt_of_lt_of_le hlt hb.size, hp, hc, hm, fun i hi => ?_⟩
    rw [hb.cell (p := ⟨b, off + i * 3, none⟩) (by show b < B; omega), hb.cell (p := ⟨b, off + i * 3 + 1, none⟩) (by show b < B; omega), hb.cell (p := ⟨b, off + i * 3 + 2, none⟩) (by show b < B; omega)]
    exact hx i hi
end Go.Proofs.Ytlhobncpifklkaa
