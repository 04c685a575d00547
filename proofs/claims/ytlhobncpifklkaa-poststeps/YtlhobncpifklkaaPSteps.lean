/-
  Slices of structs of one-cell fields, opened at every index; rows of steps. No program.
-/
import Derived.WalkKit
import Derived.ProofKit
import Derived.Deep.SlicePairs
import Derived.Deep.Fields
namespace Go.Proofs.Ytlhobncpifklkaa
open Go.ChangeShapes Go.WideShapes Go.ChangeAt Go.RowKit Go.Deep

theorem open_rows {H : Type} {enc : TypeId × Value → H} {P : Program} {w : World} {base : Nat} {spare : Nat → Bool} {held : Bool} {t e : TypeId} {fs : Array Field} {fuel : Nat} {cs : List Value} {x : DataW H × List MemPlace}
    (ht : P.underlying t = some (.slice e)) (he : P.underlying e = some (.struct fs)) (hone : ∀ (i : Nat) (f : Field), fs[i]? = some f → f.offset = i ∧ P.cellsOf f.type = 1) (ce : P.cellsOf e = fs.size)
    (h : DataW.trod enc P w base spare held fuel t cs = some x) :
    cs = [.slice none 0 0] ∨
    ∃ (a : Addr) (len cap n : Nat) (V : Nat → Nat → Value) (Y : Nat → Nat → DataW H × List MemPlace), cs = [.slice (some a) len cap] ∧ len ≤ cap ∧ cap ≤ maxLen ∧
      ∀ i, i < len → ∀ (j : Nat) (f : Field), fs[j]? = some f → w.cell? (a.add (i * fs.size + j)) = some (V i j) ∧ DataW.trod enc P w base spare held n f.type [V i j] = some (Y i j) := by
  rcases open_slice ht h with h0 | ⟨a, len, cap, m, n, D, Pl, rfl, hb, hl, hm, hmm, rfl, hx⟩
  · exact Or.inl h0.1
  right
  have hlm : len ≤ m := by rw [hmm]; split <;> omega
  have each : ∀ i, i < len → ∃ q : (Nat → Value) × (Nat → DataW H × List MemPlace), ∀ (j : Nat) (f : Field), fs[j]? = some f → w.cell? (a.add (i * fs.size + j)) = some (q.1 j) ∧ DataW.trod enc P w base spare held (n - 1) f.type [q.1 j] = some (q.2 j) := by
    intro i hi
    obtain ⟨cs', h1, h2⟩ := hx i (by omega)
    rw [ce] at h1
    obtain ⟨_, hlen, hcell⟩ := World.cells?_some h1
    obtain ⟨xs, k, hk, hxy, _, hxl, hf⟩ := DataW.trod_struct he h2
    have hk' : k = n - 1 := by omega
    subst hk'
    refine ⟨(fun j => cs'.getD j undef, fun j => xs.getD j (.nil, [])), fun j f hj => ?_⟩
    have hlt : j < fs.size := (Array.getElem?_eq_some_iff.1 hj).1
    obtain ⟨ho, hc1⟩ := hone j f hj
    have g := hf j f hj
    rw [ho, hc1] at g
    rw [take1_drop cs' j undef (by omega), List.getElem?_eq_getElem (by omega)] at g
    refine ⟨?_, ?_⟩
    · have := hcell j hlt
      rw [add_add, List.getElem?_eq_getElem (by omega)] at this
      rw [this]
      simp [List.getD, List.getElem?_eq_getElem (show j < cs'.length by omega)]
    · rw [g]
      simp [List.getD, List.getElem?_eq_getElem (show j < xs.length by omega)]
  have : Inhabited ((Nat → Value) × (Nat → DataW H × List MemPlace)) := ⟨(fun _ => undef, fun _ => (.nil, []))⟩
  obtain ⟨q, hq⟩ := choose_lt each
  exact ⟨a, len, cap, n - 1, fun i => (q i).1, fun i => (q i).2, rfl, hl, hm, hq⟩


abbrev St := Int × Int × Int × Int × ByteArray
abbrev s0 : St := (0, 0, 0, 0, ⟨#[]⟩)
abbrev i64r (x : Int) : Prop := -9223372036854775808 ≤ x ∧ x ≤ 9223372036854775807
/-- The five cells of one step. -/
def fiveAt (w : World) (b o : Nat) (x : St) : Prop :=
  w.cell? ⟨b, o, none⟩ = some (.int .i64 x.1) ∧ w.cell? ⟨b, o + 1, none⟩ = some (.int .i64 x.2.1) ∧ w.cell? ⟨b, o + 2, none⟩ = some (.int .i64 x.2.2.1) ∧ w.cell? ⟨b, o + 3, none⟩ = some (.int .i64 x.2.2.2.1) ∧ w.cell? ⟨b, o + 4, none⟩ = some (.string x.2.2.2.2)
/-- The value v stands for the list l of steps. -/
def StepsAt (w : World) (v : Value) (l : List St) : Prop :=
  (∃ ao cap, v = .slice ao 0 cap ∧ l = []) ∨
  (∃ b off cap, v = .slice (some ⟨b, off, none⟩) l.length cap ∧ b < w.heap.size ∧ 0 < l.length ∧ l.length ≤ cap ∧ cap ≤ maxLen ∧
    ∀ i, i < l.length → fiveAt w b (off + i * 5) (l.getD i s0))
def okSteps (l : List St) : Prop := ∀ x ∈ l, i64r x.1 ∧ i64r x.2.1 ∧ i64r x.2.2.1 ∧ i64r x.2.2.2.1 ∧ x.2.2.2.2.size ≤ maxLen

theorem open_steps {H : Type} {enc : TypeId × Value → H} {P : Program} {w : World} {t e : TypeId} {f0 f1 f2 f3 f4 : Field} {v : Value} {d : DataW H} {p : List MemPlace}
    (ht : P.underlying t = some (.slice e)) (he : P.underlying e = some (.struct #[f0, f1, f2, f3, f4])) (hone : oneCellFields P #[f0, f1, f2, f3, f4] = true) (ce : P.cellsOf e = 5)
    (u0 : P.underlying f0.type = some (.int .i64)) (u1 : P.underlying f1.type = some (.int .i64)) (u2 : P.underlying f2.type = some (.int .i64)) (u3 : P.underlying f3.type = some (.int .i64)) (u4 : P.underlying f4.type = some .string)
    (hv : ∃ a len cap, v = .slice a len cap) (h : DataW.Trod enc P w 0 (fun _ => true) true t v d p) : ∃ l, StepsAt w v l ∧ okSteps l := by
  obtain ⟨a, len, cap, rfl⟩ := hv
  obtain ⟨fuel, hf⟩ := h
  rcases open_rows ht he (hone_of hone) ce (by simpa [Value.cells] using hf) with hcs | ⟨a', len', cap', n, V, Y, hcs, hl, hm, hall⟩
  · simp at hcs
    obtain ⟨rfl, rfl, rfl⟩ := hcs
    exact ⟨[], .inl ⟨_, _, rfl, rfl⟩, fun x hx => by cases hx⟩
  · simp at hcs
    obtain ⟨rfl, rfl, rfl⟩ := hcs
    have each : ∀ i, i < len → ∃ q : St, (V i 0 = .int .i64 q.1 ∧ V i 1 = .int .i64 q.2.1 ∧ V i 2 = .int .i64 q.2.2.1 ∧ V i 3 = .int .i64 q.2.2.2.1 ∧ V i 4 = .string q.2.2.2.2) ∧ (Lit.int .i64 q.1).wf = true ∧ (Lit.int .i64 q.2.1).wf = true ∧ (Lit.int .i64 q.2.2.1).wf = true ∧ (Lit.int .i64 q.2.2.2.1).wf = true ∧ q.2.2.2.2.size ≤ maxLen := by
      intro i hi
      obtain ⟨x0, e0, _, w0⟩ := DataW.trod_int u0 (hall i hi 0 f0 rfl).2
      obtain ⟨x1, e1, _, w1⟩ := DataW.trod_int u1 (hall i hi 1 f1 rfl).2
      obtain ⟨x2, e2, _, w2⟩ := DataW.trod_int u2 (hall i hi 2 f2 rfl).2
      obtain ⟨x3, e3, _, w3⟩ := DataW.trod_int u3 (hall i hi 3 f3 rfl).2
      obtain ⟨x4, e4, _, w4⟩ := DataW.trod_string u4 (hall i hi 4 f4 rfl).2
      simp only [List.cons.injEq, and_true] at e0 e1 e2 e3 e4
      exact ⟨(x0, x1, x2, x3, x4), ⟨e0, e1, e2, e3, e4⟩, w0, w1, w2, w3, w4⟩
    have : Inhabited St := ⟨s0⟩
    obtain ⟨q, hq⟩ := choose_lt each
    have wfr : ∀ {x : Int}, (Lit.int .i64 x).wf = true → i64r x := fun {x} hx => by
      simp [Lit.wf, IntKind.min, IntKind.max, IntKind.signed, IntKind.bits] at hx
      simp only [i64r]
      omega
    refine ⟨(List.range len).map q, ?_, ?_⟩
    · by_cases hp : 0 < len
      · obtain ⟨b, off, spot⟩ := a'
        have h00 := (hall 0 hp 0 f0 rfl).1
        have hspot : spot = none := by simpa [Addr.add] using World.cell?_spot h00
        subst hspot
        refine .inr ⟨b, off, cap, by simp, World.block_lt_of_cell? _ _ h00, by simpa using hp, by simpa using hl, hm, fun i hi => ?_⟩
        have hi' : i < len := by simpa using hi
        have g0 := (hall i hi' 0 f0 rfl).1
        have g1 := (hall i hi' 1 f1 rfl).1
        have g2 := (hall i hi' 2 f2 rfl).1
        have g3 := (hall i hi' 3 f3 rfl).1
        have g4 := (hall i hi' 4 f4 rfl).1
        rw [WideShapes.add_plain] at g0 g1 g2 g3 g4
        obtain ⟨⟨e0, e1, e2, e3, e4⟩, _⟩ := hq i hi'
        rw [e0] at g0
        rw [e1] at g1
        rw [e2] at g2
        rw [e3] at g3
        rw [e4] at g4
        simp only [fiveAt, List.getD, List.getElem?_map, List.getElem?_range hi', Option.map_some, Option.getD_some]
        exact ⟨g0, by rw [Nat.add_assoc]; exact g1, by rw [Nat.add_assoc]; exact g2, by rw [Nat.add_assoc]; exact g3, by rw [Nat.add_assoc]; exact g4⟩
      · have : len = 0 := by omega
        subst this
        exact .inl ⟨_, _, rfl, rfl⟩
    · intro x hx
      obtain ⟨i, hi, rfl⟩ := List.mem_map.1 hx
      obtain ⟨_, w0, w1, w2, w3, w4⟩ := hq i (by have := List.mem_range.1 hi; omega)
      exact ⟨wfr w0, wfr w1, wfr w2, wfr w3, w4⟩
theorem fiveAt.kept {w w' : World} {b o B : Nat} {x : St} (h : fiveAt w b o x) (hb : Below B w w') (hB : b < B) : fiveAt w' b o x := by
  obtain ⟨h0, h1, h2, h3, h4⟩ := h
  exact ⟨(hb.cell (p := ⟨b, o, none⟩) hB).trans h0, (hb.cell (p := ⟨b, o + 1, none⟩) hB).trans h1, (hb.cell (p := ⟨b, o + 2, none⟩) hB).trans h2, (hb.cell (p := ⟨b, o + 3, none⟩) hB).trans h3, (hb.cell (p := ⟨b, o + 4, none⟩) hB).trans h4⟩

def cells5 (l : List St) : List Value := l.flatMap fun x => [.int .i64 x.1, .int .i64 x.2.1, .int .i64 x.2.2.1, .int .i64 x.2.2.2.1, .string x.2.2.2.2]
theorem cells5_length (l : List St) : (cells5 l).length = l.length * 5 := by
  induction l with
  | nil => rfl
  | cons x l ih => simp only [cells5, List.flatMap_cons, List.length_append, List.length_cons, List.length_nil] at ih ⊢; omega
theorem cells5_snoc (l : List St) (x : St) : cells5 (l ++ [x]) = cells5 l ++ [.int .i64 x.1, .int .i64 x.2.1, .int .i64 x.2.2.1, .int .i64 x.2.2.2.1, .string x.2.2.2.2] := by simp [cells5]
theorem cells5_at (l : List St) : ∀ i, i < l.length → (cells5 l)[i * 5]? = some (.int .i64 (l.getD i s0).1) ∧ (cells5 l)[i * 5 + 1]? = some (.int .i64 (l.getD i s0).2.1) ∧ (cells5 l)[i * 5 + 2]? = some (.int .i64 (l.getD i s0).2.2.1) ∧ (cells5 l)[i * 5 + 3]? = some (.int .i64 (l.getD i s0).2.2.2.1) ∧ (cells5 l)[i * 5 + 4]? = some (.string (l.getD i s0).2.2.2.2) := by
  induction l with
  | nil => intro i hi; simp at hi
  | cons x l ih =>
    intro i hi
    match i, hi with
    | 0, _ => simp [cells5]
    | i + 1, hi =>
      have := ih i (by simpa using hi)
      have e : cells5 (x :: l) = .int .i64 x.1 :: .int .i64 x.2.1 :: .int .i64 x.2.2.1 :: .int .i64 x.2.2.2.1 :: .string x.2.2.2.2 :: cells5 l := by simp [cells5]
      rw [e, show (i + 1) * 5 = i * 5 + 1 + 1 + 1 + 1 + 1 from by omega]
      simpa using this
theorem row5_at {w : World} {base g cap n : Nat} {e : TypeId} {l : List St} (h : w.ownsRow base e 5 (.slice (some ⟨g, 0, none⟩) n cap) n (cells5 l)) {i : Nat} (hi : i < l.length) : fiveAt w g (i * 5) (l.getD i s0) := by
  obtain ⟨h0, h1, h2, h3, h4⟩ := cells5_at l i hi
  have q0 := h.cells (g := g) rfl _ _ h0
  have q1 := h.cells (g := g) rfl _ _ h1
  have q2 := h.cells (g := g) rfl _ _ h2
  have q3 := h.cells (g := g) rfl _ _ h3
  have q4 := h.cells (g := g) rfl _ _ h4
  rw [Go.WideShapes.add_plain, Nat.zero_add] at q0 q1 q2 q3 q4
  exact ⟨q0, q1, q2, q3, q4⟩
theorem five_new (W : World) (g : Nat) (hg : g = W.heap.size) (a b c d f : Value) (T : TypeId) : ∀ j u, [a, b, c, d, f][j]? = some u → (W.alloc (.cells #[a, b, c, d, f] T)).cell? ((⟨g, 0, none⟩ : Addr).add j) = some u := by
  subst hg
  intro j u hj
  rw [Go.WideShapes.add_plain]
  match j, hj with
  | 0, hj => simp at hj; subst hj; simp
  | 1, hj => simp at hj; subst hj; simp
  | 2, hj => simp at hj; subst hj; simp
  | 3, hj => simp at hj; subst hj; simp
  | 4, hj => simp at hj; subst hj; simp
theorem one5 (a b c d : Int) (f : ByteArray) : ∀ u ∈ [Value.int .i64 a, .int .i64 b, .int .i64 c, .int .i64 d, .string f], u.oneCell' = true := by
  intro u hu
  simp at hu
  rcases hu with rfl | rfl | rfl | rfl | rfl <;> rfl
theorem five_of {w : World} {b : Nat} {x y z u v : Value} {t : TypeId} (hb : w.heap[b]? = some (.cells #[x, y, z, u, v] t (0, 0))) : w.cell? ⟨b, 0, none⟩ = some x ∧ w.cell? ⟨b, 1, none⟩ = some y ∧ w.cell? ⟨b, 2, none⟩ = some z ∧ w.cell? ⟨b, 3, none⟩ = some u ∧ w.cell? ⟨b, 4, none⟩ = some v := by
  refine ⟨?_, ?_, ?_, ?_, ?_⟩ <;> simp [World.cell?, hb]
theorem one_new_at (W : World) (g : Nat) (hg : g = W.heap.size) (a : Value) (T : TypeId) : ∀ j u, [a][j]? = some u → (W.alloc (.cells #[a] T)).cell? ((⟨g, 0, none⟩ : Addr).add j) = some u := by
  subst hg
  intro j u hj
  rw [Go.WideShapes.add_plain]
  match j, hj with
  | 0, hj => simp at hj; subst hj; simp
theorem rows_ne {w : World} {b1 b2 : Nat} {e1 e2 : TypeId} {s1 s2 n1 n2 : Nat} {v1 v2 : Value} {x1 x2 : List Value} (h1 : w.ownsRow b1 e1 s1 v1 n1 x1) (h2 : w.ownsRow b2 e2 s2 v2 n2 x2) (he : e1 ≠ e2) : v1.ownBlock = none ∨ v1.ownBlock ≠ v2.ownBlock := by
  rcases h1.2 with ⟨rfl, _⟩ | ⟨g, cap, cur, rfl, _, hg, _⟩
  · exact .inl rfl
  · refine .inr fun e => ?_
    rcases h2.2 with ⟨rfl, _⟩ | ⟨g', cap', cur', rfl, _, hg', _⟩
    · simp [Value.ownBlock] at e
    · simp only [Value.ownBlock, Option.some.injEq] at e
      subst e
      rw [hg] at hg'
      simp at hg'
      exact he hg'.2
theorem block_ne {w : World} {b1 : Nat} {e1 : TypeId} {s1 n1 : Nat} {v1 : Value} {x1 : List Value} (h1 : w.ownsRow b1 e1 s1 v1 n1 x1) {b : Nat} {c : Array Value} {t : TypeId} {fr : Nat × Nat} (hb : w.heap[b]? = some (.cells c t fr)) (ht : t ≠ e1) : some b ≠ v1.ownBlock := by
  intro e
  rcases h1.2 with ⟨rfl, _⟩ | ⟨g, cap, cur, rfl, _, hg, _⟩
  · simp [Value.ownBlock] at e
  · simp only [Value.ownBlock, Option.some.injEq] at e
    subst e
    rw [hg] at hb
    simp at hb
    exact ht hb.2.1.symm
end Go.Proofs.Ytlhobncpifklkaa
