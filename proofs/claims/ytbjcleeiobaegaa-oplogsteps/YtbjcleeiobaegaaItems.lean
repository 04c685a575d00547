/-
  The statements' own Items says yes of two lists of items that are one list; slices of items that came in.
-/
import Derived.Test.YtbjcleeiobaegaaTwo
import Derived.Deep.SlicePairs
import Derived.Deep.Fields
namespace Go.Proofs.Ytbjcleeiobaegaa
open Go.ChangeShapes Go.WideShapes Go.ChangeAt Go.RowKit Go.Deep

set_option maxHeartbeats 1000000 in
set_option maxRecDepth 100000 in
theorem items_same (u v : Value) (l : List Ol.It) (w : World) (hu : ItemsAt w u l) (hv : ItemsAt w v l) : Calls Try.prog 23 #[u, v] w fun e w' => e = .returned (.bool true) ∧ w.grownBy w' none := by
  obtain ⟨ao, ca, rfl, hm, hx⟩ := hu.open
  obtain ⟨bo, cb, rfl, _, hy⟩ := hv.open
  unfold maxLen at hm
  have HX : Hid (∀ wr, Below w.heap.size w wr → ∀ j, j < l.length → ∃ b off, ao = some ⟨b, off, none⟩ ∧ b < wr.heap.size ∧ fourAt wr b (off + j * 4) (l.getD j Ol.d0)) := fun wr hw j hj => by
    obtain ⟨b, off, e, hb, hf⟩ := hx j hj
    exact ⟨b, off, e, Nat.lt_of_lt_of_le hb hw.size, hf.below hw hb⟩
  have HY : Hid (∀ wr, Below w.heap.size w wr → ∀ j, j < l.length → ∃ b off, bo = some ⟨b, off, none⟩ ∧ b < wr.heap.size ∧ fourAt wr b (off + j * 4) (l.getD j Ol.d0)) := fun wr hw j hj => by
    obtain ⟨b, off, e, hb, hf⟩ := hy j hj
    exact ⟨b, off, e, Nat.lt_of_lt_of_le hb hw.size, hf.below hw hb⟩
  clear hx hy hu hv
  go_enter Try.func23, Try.ntmps23
  go_wp2
  go_loopw [8] (fun i wr => ∃ j : Nat, j ≤ l.length ∧ i = .int .i64 j ∧ Hid (Below w.heap.size w wr)) (fun i _ => l.length - (intOf i).toNat)
  case atStart => exact ⟨0, Nat.zero_le _, rfl, Below.refl _ _⟩
  case round =>
    obtain ⟨j, hj, rfl, HB⟩ := hrel
    by_cases hlt : j < l.length
    · obtain ⟨b, off, rfl, _, c0, c1, c2, c3⟩ := HX.out wr HB.out j hlt
      obtain ⟨b', off', rfl, _, d0, d1, d2, d3⟩ := HY.out wr HB.out j hlt
      generalize l.getD j Ol.d0 = x at *
      obtain ⟨x0, x1, x2, x3⟩ := x
      simp only at c0 c1 c2 c3 d0 d1 d2 d3
      have hg : decide ((l.length : Int) ≤ (j : Int)) = false := by simp; omega
      have hlt' : (j : Int) < (l.length : Int) := by omega
      go_wp2
      go_quiet (fail)
      go_wp2
      go_roundw
      case rel => exact ⟨j + 1, by omega, by go_num, Go.below_drewN HB.out _⟩
      case measure => simp [intOf]; omega
    · obtain rfl : j = l.length := by omega
      go_wp2
      go_ret
      exact ⟨rfl, grown_of_below HB.out _⟩

theorem open_items {H : Type} {enc : TypeId × Value → H} {P : Program} {w : World} {t e : TypeId} {f0 f1 f2 f3 : Field} {v : Value} {d : DataW H} {p : List MemPlace}
    (ht : P.underlying t = some (.slice e)) (he : P.underlying e = some (.struct #[f0, f1, f2, f3])) (hone : oneCellFields P #[f0, f1, f2, f3] = true) (ce : P.cellsOf e = 4)
    (u0 : P.underlying f0.type = some (.int .i64)) (u1 : P.underlying f1.type = some (.int .i64)) (u2 : P.underlying f2.type = some (.int .i64)) (u3 : P.underlying f3.type = some .string)
    (hv : ∃ a len cap, v = .slice a len cap) (h : DataW.Trod enc P w 0 (fun _ => true) true t v d p) : ∃ l, ItemsAt w v l ∧ ((l = []) ∨ ∃ es sp, d = .slice es sp ∧ es.length = l.length) := by
  obtain ⟨a, len, cap, rfl⟩ := hv
  obtain ⟨fuel, hf⟩ := h
  rcases open_slice ht (by simpa [Value.cells] using hf) with ⟨hcs, _⟩ | ⟨a', len', cap', m, n, D, Pl, hcs, hb, hl, hm, hmm, hd, hx⟩
  · simp at hcs
    obtain ⟨rfl, rfl, rfl⟩ := hcs
    exact ⟨[], .inl ⟨_, _, rfl, rfl⟩, .inl rfl⟩
  · simp at hcs
    obtain ⟨rfl, rfl, rfl⟩ := hcs
    have hlm : len ≤ m := by rw [hmm]; split <;> omega
    have each : ∀ i, i < len → ∃ q : Ol.It, w.cell? (a'.add (i * 4)) = some (.int .i64 q.1) ∧ w.cell? (a'.add (i * 4 + 1)) = some (.int .i64 q.2.1) ∧ w.cell? (a'.add (i * 4 + 2)) = some (.int .i64 q.2.2.1) ∧ w.cell? (a'.add (i * 4 + 3)) = some (.string q.2.2.2) := by
      intro i hi
      obtain ⟨cs', h1, h2⟩ := hx i (by omega)
      rw [ce] at h1
      obtain ⟨_, hlen, hcell⟩ := World.cells?_some h1
      obtain ⟨xs, k, hk, hxy, _, hxl, hf⟩ := DataW.trod_struct he h2
      have get : ∀ (j : Nat) (f : Field), (#[f0, f1, f2, f3] : Array Field)[j]? = some f → w.cell? (a'.add (i * 4 + j)) = some (cs'.getD j undef) ∧ ∃ y, DataW.trod enc P w 0 (fun _ => true) true k f.type [cs'.getD j undef] = some y := by
        intro j f hj
        have hlt : j < 4 := (Array.getElem?_eq_some_iff.1 hj).1
        obtain ⟨ho, hc1⟩ := hone_of hone j f hj
        have g := hf j f hj
        rw [ho, hc1] at g
        rw [take1_drop cs' j undef (by omega), List.getElem?_eq_getElem (show j < xs.length by rw [hxl]; exact hlt)] at g
        refine ⟨?_, _, g⟩
        have := hcell j hlt
        rw [add_add, List.getElem?_eq_getElem (by omega)] at this
        rw [this]
        simp [List.getD, List.getElem?_eq_getElem (show j < cs'.length by omega)]
      obtain ⟨g0, y0, t0⟩ := get 0 f0 rfl
      obtain ⟨g1, y1, t1⟩ := get 1 f1 rfl
      obtain ⟨g2, y2, t2⟩ := get 2 f2 rfl
      obtain ⟨g3, y3, t3⟩ := get 3 f3 rfl
      obtain ⟨x0, e0, _, _⟩ := DataW.trod_int u0 t0
      obtain ⟨x1, e1, _, _⟩ := DataW.trod_int u1 t1
      obtain ⟨x2, e2, _, _⟩ := DataW.trod_int u2 t2
      obtain ⟨x3, e3, _, _⟩ := DataW.trod_string u3 t3
      simp only [List.cons.injEq, and_true] at e0 e1 e2 e3
      rw [e0] at g0
      rw [e1] at g1
      rw [e2] at g2
      rw [e3] at g3
      exact ⟨(x0, x1, x2, x3), g0, g1, g2, g3⟩
    have : Inhabited Ol.It := ⟨Ol.d0⟩
    obtain ⟨q, hq⟩ := choose_lt each
    refine ⟨(List.range len).map q, ?_, .inr ⟨_, _, (Prod.mk.inj hd).1, by simp⟩⟩
    by_cases hp : 0 < len
    · obtain ⟨b, off, spot⟩ := a'
      have h00 := (hq 0 hp).1
      have hspot : spot = none := by simpa [Addr.add] using World.cell?_spot h00
      subst hspot
      refine .inr ⟨b, off, cap, by simp, World.block_lt_of_cell? _ _ h00, by simpa using hp, by simpa using hl, hm, fun i hi => ?_⟩
      have hi' : i < len := by simpa using hi
      obtain ⟨g0, g1, g2, g3⟩ := hq i hi'
      rw [WideShapes.add_plain] at g0 g1 g2 g3
      simp only [fourAt, List.getD, List.getElem?_map, List.getElem?_range hi', Option.map_some, Option.getD_some]
      exact ⟨g0, by rw [Nat.add_assoc]; exact g1, by rw [Nat.add_assoc]; exact g2, by rw [Nat.add_assoc]; exact g3⟩
    · have : len = 0 := by omega
      subst this
      exact .inl ⟨_, _, rfl, rfl⟩
end Go.Proofs.Ytbjcleeiobaegaa
