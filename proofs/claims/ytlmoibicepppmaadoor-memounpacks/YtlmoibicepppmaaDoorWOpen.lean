/-
  What an argument stands for: a memo.
-/
import Derived.Test.YtlmoibicepppmaaDoorRows
import Derived.Test.YtlmoibicepppmaaDoorWBase
import Derived.Test.YtlmoibicepppmaaDoorLaw
import Derived.ProofKit
import Derived.Deep.SlicePairs
import Derived.Lib.SmallJoins
import Derived.Deep.Strs
import Derived.SizedLaws
import Derived.ChangeMaps5
namespace Go.Proofs.YtlmoibicepppmaaDoor
open Go.ChangeShapes Go.WideShapes Go.ChangeAt Go.RowKit Go.Deep
set_option maxRecDepth 100000
open Me

/-- A slice that came in, element by element. -/
theorem open_row {α : Type} [Inhabited α] (E : Enc α) {H : Type} {enc : TypeId × Value → H} {P : Program} {w : World} {t e : TypeId} {fuel : Nat} {v : Value} {dx : DataW H × List MemPlace} (ht : P.underlying t = some (.slice e)) (ce : P.cellsOf e = E.sz) (hsz : 0 < E.sz) {Q : α → DataW H → Prop}
    (elem : ∀ n cs d pl, cs.length = E.sz → DataW.trod enc P w 0 (fun _ => true) true n e cs = some (d, pl) → ∃ x, cs = E.cells x ∧ Q x d)
    (hf : DataW.trod enc P w 0 (fun _ => true) true fuel t [v] = some dx) :
    ∃ l : List α, AtW E w v l ∧ ((dx.1 = .nil ∧ l = []) ∨ ∃ es sp : List (DataW H), dx.1 = .slice es sp ∧ es.length = l.length ∧ ∀ (i : Nat) (x : α), l[i]? = some x → ∃ d, es[i]? = some d ∧ Q x d) := by
  rcases open_slice ht hf with ⟨hcs, hx⟩ | ⟨a, len, cap, m, n, D, Pl, hcs, hb, hl, hm, hmm, hd, hx⟩
  · simp at hcs
    subst hcs
    exact ⟨[], .inl ⟨_, _, rfl, rfl⟩, .inl ⟨by rw [hx], rfl⟩⟩
  · simp at hcs
    subst hcs
    have hlm : len ≤ m := by rw [hmm]; split <;> omega
    have each : ∀ i, i < len → ∃ x : α, (∀ j u, (E.cells x)[j]? = some u → w.cell? ((a.add (i * E.sz)).add j) = some u) ∧ Q x (D i) := by
      intro i hi
      obtain ⟨cs', h1, h2⟩ := hx i (by omega)
      rw [ce] at h1
      obtain ⟨_, hlen, hcell⟩ := World.cells?_some h1
      obtain ⟨x, rfl, hq⟩ := elem _ _ _ _ hlen h2
      refine ⟨x, fun j u hj => ?_, hq⟩
      have hj8 : j < E.sz := by have := (List.getElem?_eq_some_iff.1 hj).1; rwa [E.len] at this
      have := hcell j hj8
      rw [this]
      exact hj
    obtain ⟨q, hq⟩ := choose_lt each
    have hlr : ((List.range len).map q).length = len := by simp
    refine ⟨(List.range len).map q, ?_, .inr ⟨_, _, by rw [hd], by simp, fun i x hi => ?_⟩⟩
    · by_cases hp : 0 < len
      · obtain ⟨b, off, spot⟩ := a
        obtain ⟨u0, hu0⟩ : ∃ u, (E.cells (q 0))[0]? = some u := ⟨_, List.getElem?_eq_getElem (by rw [E.len]; exact hsz)⟩
        have hc0 := (hq 0 hp).1 0 u0 hu0
        have hspot : spot = none := by simpa [Addr.add] using World.cell?_spot hc0
        subst hspot
        rw [WideShapes.add_plain, WideShapes.add_plain] at hc0
        have key : ∀ i, i < len → ∀ j u, (E.cells (q i))[j]? = some u → w.cell? ⟨b, off + (i * E.sz + j), none⟩ = some u := fun i hi j u hj => by
          have h0 := (hq i hi).1 j u hj
          rw [WideShapes.add_plain, WideShapes.add_plain, Nat.add_assoc] at h0
          exact h0
        refine .inr ⟨b, off, cap, by rw [hlr], trivial, World.block_lt_of_cell? _ _ hc0, by omega, by omega, hm, fun j u hj => ?_⟩
        have hlt : j < (E.flat ((List.range len).map q)).length := (List.getElem?_eq_some_iff.1 hj).1
        rw [E.flat_length, hlr] at hlt
        have hi : j / E.sz < len := (Nat.div_lt_iff_lt_mul hsz).2 hlt
        have hgi : ((List.range len).map q)[j / E.sz]? = some (q (j / E.sz)) := by simp [hi]
        have hmod : j % E.sz < E.sz := Nat.mod_lt _ hsz
        obtain ⟨u1, hu1⟩ : ∃ u, (E.cells (q (j / E.sz)))[j % E.sz]? = some u := ⟨_, List.getElem?_eq_getElem (by rw [E.len]; exact hmod)⟩
        have hfl := E.flat_at _ _ _ hgi _ _ hu1
        have hdm : j / E.sz * E.sz + j % E.sz = j := by rw [Nat.mul_comm]; exact Nat.div_add_mod _ _
        have h3 := key _ hi _ _ hu1
        rw [hdm] at hfl h3
        rw [hfl] at hj
        cases hj
        exact h3
      · have : len = 0 := by omega
        subst this
        exact .inl ⟨_, _, rfl, rfl⟩
    · have hi' : i < len := by have := (List.getElem?_eq_some_iff.1 hi).1; rwa [hlr] at this
      have hxq : x = q i := by simpa [hi'] using hi.symm
      subst hxq
      exact ⟨D i, by simp [hi'], (hq i hi').2⟩
theorem open_lives {H : Type} {enc : TypeId × Value → H} {w : World} {fuel : Nat} {v : Value} {dx : DataW H × List MemPlace} (hf : DataW.trod enc Tryd.prog w 0 (fun _ => true) true fuel 22 [v] = some dx) : ∃ l, AtW EI w v l := by
  have : Inhabited Int := ⟨0⟩
  obtain ⟨l, h1, -⟩ := open_row EI Tryd.underlying22 (by kernel_rfl) (by decide) (Q := fun _ _ => True) (fun n cs d pl hl h => by
    match cs, hl with
    | [c0], _ =>
      obtain ⟨a, e0, _, _⟩ := DataW.trod_int Tryd.underlying3 h
      simp only [List.cons.injEq, and_true] at e0
      subst e0
      exact ⟨a, rfl, trivial⟩) hf
  exact ⟨l, h1⟩
theorem open_items {H : Type} {enc : TypeId × Value → H} {w : World} {fuel : Nat} {v : Value} {dx : DataW H × List MemPlace} (hf : DataW.trod enc Tryd.prog w 0 (fun _ => true) true fuel 23 [v] = some dx) : ∃ l, AtW EM w v l := by
  have : Inhabited It := ⟨⟨0, 0, 0, .empty⟩⟩
  obtain ⟨l, h1, -⟩ := open_row EM Tryd.underlying23 (by kernel_rfl) (by decide) (Q := fun _ _ => True) (fun n cs d pl hl h => by
    obtain ⟨xs, m, _, _, _, hxl, hg⟩ := DataW.trod_struct Tryd.underlying50 h
    match cs, hl with
    | [c0, c1, c2, c3], _ =>
      have g0 := hg 0 _ rfl
      have g1 := hg 1 _ rfl
      have g2 := hg 2 _ rfl
      have g3 := hg 3 _ rfl
      have hx4 : xs.length = 4 := by rw [hxl]; rfl
      match xs, hx4 with
      | [y0, y1, y2, y3], _ =>
        simp only [List.getElem_toArray, List.getElem_cons_zero, List.getElem_cons_succ] at g0 g1 g2 g3
        simp only [show Tryd.prog.cellsOf 3 = 1 from by kernel_rfl, show Tryd.prog.cellsOf 9 = 1 from by kernel_rfl] at g0 g1 g2 g3
        simp at g0 g1 g2 g3
        obtain ⟨o, e0, _, _⟩ := DataW.trod_int Tryd.underlying3 g0
        obtain ⟨a, e1, _, _⟩ := DataW.trod_int Tryd.underlying3 g1
        obtain ⟨b, e2, _, _⟩ := DataW.trod_int Tryd.underlying3 g2
        obtain ⟨s, e3, _, _⟩ := DataW.trod_string Tryd.underlying9 g3
        simp only [List.cons.injEq, and_true] at e0 e1 e2 e3
        subst e0
        subst e1
        subst e2
        subst e3
        exact ⟨⟨o, a, b, s⟩, rfl, trivial⟩) hf
  exact ⟨l, h1⟩
set_option maxRecDepth 100000 in
set_option maxHeartbeats 1000000 in
theorem open_memo {H : Type} {enc : TypeId × Value → H} {w : World} {r : Reach} {b0 : Nat} {v : Value} {d : DataW H} {p : List MemPlace} (hv : Value.okWide Tryd.prog w r b0 27 v) (h : DataW.Trod enc Tryd.prog w 0 (fun _ => true) true 27 v d p) : ∃ (m : Mm) (u z : Value), v = VM m u z ∧ MAt w m u z := by
  obtain ⟨cs, rfl, hsz⟩ := okWide_struct Tryd.underlying27 hv
  have hsz' : cs.size = 15 := hsz.trans (by kernel_rfl)
  obtain ⟨fuel, hf⟩ := h
  obtain ⟨xs, m, _, _, _, hxl, hg⟩ := DataW.trod_struct Tryd.underlying27 hf
  have hl : cs.toList.length = 15 := by simpa using hsz'
  obtain ⟨l⟩ := cs
  simp only at hl
  match l, hl with
  | [c0, c1, c2, c3, c4, c5, c6, c7, c8, c9, c10, c11, c12, c13, c14], _ =>
    have hx13 : xs.length = 13 := by rw [hxl]; rfl
    have g0 := hg 0 _ rfl
    have g1 := hg 1 _ rfl
    have g2 := hg 2 _ rfl
    have g3 := hg 3 _ rfl
    have g4 := hg 4 _ rfl
    have g5 := hg 5 _ rfl
    have g6 := hg 6 _ rfl
    have g7 := hg 7 _ rfl
    have g8 := hg 8 _ rfl
    have g9 := hg 9 _ rfl
    have g10 := hg 10 _ rfl
    have g11 := hg 11 _ rfl
    have g12 := hg 12 _ rfl
    match xs, hx13 with
    | [y0, y1, y2, y3, y4, y5, y6, y7, y8, y9, y10, y11, y12], _ =>
      simp only [List.getElem_toArray, List.getElem_cons_zero, List.getElem_cons_succ] at g0 g1 g2 g3 g4 g5 g6 g7 g8 g9 g10 g11 g12
      simp only [Value.cells, show Tryd.prog.cellsOf 9 = 1 from by kernel_rfl, show Tryd.prog.cellsOf 3 = 1 from by kernel_rfl, show Tryd.prog.cellsOf 22 = 1 from by kernel_rfl, show Tryd.prog.cellsOf 23 = 1 from by kernel_rfl, show Tryd.prog.cellsOf 25 = 3 from by kernel_rfl] at g0 g1 g2 g3 g4 g5 g6 g7 g8 g9 g10 g11 g12
      simp at g0 g1 g2 g3 g4 g5 g6 g7 g8 g9 g10 g11 g12
      obtain ⟨a0, a1, a2, m3, _, _, j0, j1, j2⟩ := trod_struct3 Tryd.underlying25 g10
      simp only [show Tryd.prog.cellsOf 3 = 1 from by kernel_rfl] at j0 j1 j2
      simp at j0 j1 j2
      obtain ⟨n0, e0, _, _⟩ := DataW.trod_int Tryd.underlying3 g0
      obtain ⟨n1, e1, _, _⟩ := DataW.trod_int Tryd.underlying3 g1
      obtain ⟨n2, e2, _, _⟩ := DataW.trod_int Tryd.underlying3 g2
      obtain ⟨n3, e3, _, _⟩ := DataW.trod_int Tryd.underlying3 g3
      obtain ⟨n4, e4, _, _⟩ := DataW.trod_int Tryd.underlying3 g4
      obtain ⟨n5, e5, _, _⟩ := DataW.trod_int Tryd.underlying3 g5
      obtain ⟨n6, e6, _, _⟩ := DataW.trod_int Tryd.underlying3 g6
      obtain ⟨n7, e7, _, _⟩ := DataW.trod_int Tryd.underlying3 g7
      obtain ⟨lv, hv8⟩ := open_lives g8
      obtain ⟨it, hv9⟩ := open_items g9
      obtain ⟨n10, e10, _, _⟩ := DataW.trod_int Tryd.underlying3 j0
      obtain ⟨n11, e11, _, _⟩ := DataW.trod_int Tryd.underlying3 j1
      obtain ⟨n12, e12, _, _⟩ := DataW.trod_int Tryd.underlying3 j2
      obtain ⟨n13, e13, _, _⟩ := DataW.trod_int Tryd.underlying3 g11
      obtain ⟨dd, e14, _, _⟩ := DataW.trod_string Tryd.underlying9 g12
      simp only [List.cons.injEq, and_true] at e0 e1 e2 e3 e4 e5 e6 e7 e10 e11 e12 e13 e14
      subst e0
      subst e1
      subst e2
      subst e3
      subst e4
      subst e5
      subst e6
      subst e7
      subst e10
      subst e11
      subst e12
      subst e13
      subst e14
      exact ⟨⟨n0, n1, n2, n3, n4, n5, n6, n7, lv, it, n10, n11, n12, n13, dd⟩, c8, c9, rfl, hv8, hv9⟩
end Go.Proofs.YtlmoibicepppmaaDoor
