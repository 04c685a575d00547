/-
  The texts WOpen, SOpen, AKPlain, AKBackP, NKit, as one.
-/
import Derived.Test.YtkdhbjmpjbdobaaGreatDoorRows
import Derived.ProofKit
import Derived.Deep.SlicePairs
import Derived.Lib.SmallJoins
import Derived.Deep.Strs
import Derived.SizedLaws
import Derived.ChangeMaps5
import Derived.BigQuiet
import Derived.Deep.QuietTactic
import Derived.Deep.RegionHeld3
import Derived.RangeFuncBox
import Derived.OneCell
import Derived.Test.YtkdhbjmpjbdobaaGreatDoorM16
/- WOpen -/
namespace Go.Proofs.YtkdhbjmpjbdobaaGreatDoor
open Go.ChangeShapes Go.WideShapes Go.ChangeAt Go.RowKit Go.Deep
set_option maxRecDepth 100000
open Me

/-- A slice that came in, element by element. -/
theorem open_row {α : Type} [Inhabited α] (E : Enc α) {H : Type} {enc : TypeId × Value → H} {P : Program} {w : World} {t e : TypeId} {fuel : Nat} {v : Value} {dx : DataW H × List MemPlace} (ht : P.underlying t = some (.slice e)) (ce : P.cellsOf e = E.sz) (hsz : 0 < E.sz) {Q : α → DataW H → Prop}
    (elem : ∀ n cs d pl, cs.length = E.sz → DataW.trod enc P w 0 (fun _ => true) true n e cs = some (d, pl) → ∃ x, cs = E.cells x ∧ Q x d)
    (hf : DataW.trod enc P w 0 (fun _ => true) true fuel t [v] = some dx) :
    ∃ l : List α, AtW E w v l ∧ ((dx.1 = .nil ∧ l = []) ∨ ∃ es sp : List (DataW H), dx.1 = .slice es sp ∧ es.length = l.length ∧ ∀ (i : Nat) (x : α), l[i]? = some x → ∃ d, es[i]? = some d ∧ Q x d) := by
  rcases open_slice ht hf with ⟨hcs, hx⟩ | ⟨a, len, cap, m, n, D, Pl, hcs, hb, hl, hm, hmm, hd, hx⟩
  · simp at hcs
    subst hcs
    exact ⟨[], .inl ⟨_, _, rfl, rfl⟩, .inl ⟨by rw [hx], rfl⟩⟩
  · simp at hcs
    subst hcs
    have hlm : len ≤ m := by rw [hmm]; split <;> omega
    have each : ∀ i, i < len → ∃ x : α, (∀ j u, (E.cells x)[j]? = some u → w.cell? ((a.add (i * E.sz)).add j) = some u) ∧ Q x (D i) := by
      intro i hi
      obtain ⟨cs', h1, h2⟩ := hx i (by omega)
      rw [ce] at h1
      obtain ⟨_, hlen, hcell⟩ := World.cells?_some h1
      obtain ⟨x, rfl, hq⟩ := elem _ _ _ _ hlen h2
      refine ⟨x, fun j u hj => ?_, hq⟩
      have hj8 : j < E.sz := by have := (List.getElem?_eq_some_iff.1 hj).1; rwa [E.len] at this
      have := hcell j hj8
      rw [this]
      exact hj
    obtain ⟨q, hq⟩ := choose_lt each
    have hlr : ((List.range len).map q).length = len := by simp
    refine ⟨(List.range len).map q, ?_, .inr ⟨_, _, by rw [hd], by simp, fun i x hi => ?_⟩⟩
    · by_cases hp : 0 < len
      · obtain ⟨b, off, spot⟩ := a
        obtain ⟨u0, hu0⟩ : ∃ u, (E.cells (q 0))[0]? = some u := ⟨_, List.getElem?_eq_getElem (by rw [E.len]; exact hsz)⟩
        have hc0 := (hq 0 hp).1 0 u0 hu0
        have hspot : spot = none := by simpa [Addr.add] using World.cell?_spot hc0
        subst hspot
        rw [WideShapes.add_plain, WideShapes.add_plain] at hc0
        have key : ∀ i, i < len → ∀ j u, (E.cells (q i))[j]? = some u → w.cell? ⟨b, off + (i * E.sz + j), none⟩ = some u := fun i hi j u hj => by
          have h0 := (hq i hi).1 j u hj
          rw [WideShapes.add_plain, WideShapes.add_plain, Nat.add_assoc] at h0
          exact h0
        refine .inr ⟨b, off, cap, by rw [hlr], trivial, World.block_lt_of_cell? _ _ hc0, by omega, by omega, hm, fun j u hj => ?_⟩
        have hlt : j < (E.flat ((List.range len).map q)).length := (List.getElem?_eq_some_iff.1 hj).1
        rw [E.flat_length, hlr] at hlt
        have hi : j / E.sz < len := (Nat.div_lt_iff_lt_mul hsz).2 hlt
        have hgi : ((List.range len).map q)[j / E.sz]? = some (q (j / E.sz)) := by simp [hi]
        have hmod : j % E.sz < E.sz := Nat.mod_lt _ hsz
        obtain ⟨u1, hu1⟩ : ∃ u, (E.cells (q (j / E.sz)))[j % E.sz]? = some u := ⟨_, List.getElem?_eq_getElem (by rw [E.len]; exact hmod)⟩
        have hfl := E.flat_at _ _ _ hgi _ _ hu1
        have hdm : j / E.sz * E.sz + j % E.sz = j := by rw [Nat.mul_comm]; exact Nat.div_add_mod _ _
        have h3 := key _ hi _ _ hu1
        rw [hdm] at hfl h3
        rw [hfl] at hj
        cases hj
        exact h3
      · have : len = 0 := by omega
        subst this
        exact .inl ⟨_, _, rfl, rfl⟩
    · have hi' : i < len := by have := (List.getElem?_eq_some_iff.1 hi).1; rwa [hlr] at this
      have hxq : x = q i := by simpa [hi'] using hi.symm
      subst hxq
      exact ⟨D i, by simp [hi'], (hq i hi').2⟩
theorem open_lives {H : Type} {enc : TypeId × Value → H} {w : World} {fuel : Nat} {v : Value} {dx : DataW H × List MemPlace} (hf : DataW.trod enc Tryz.prog w 0 (fun _ => true) true fuel 66 [v] = some dx) : ∃ l, AtW EI w v l := by
  have : Inhabited Int := ⟨0⟩
  obtain ⟨l, h1, -⟩ := open_row EI Tryz.underlying66 (by kernel_rfl) (by decide) (Q := fun _ _ => True) (fun n cs d pl hl h => by
    match cs, hl with
    | [c0], _ =>
      obtain ⟨a, e0, _, _⟩ := DataW.trod_int Tryz.underlying3 h
      simp only [List.cons.injEq, and_true] at e0
      subst e0
      exact ⟨a, rfl, trivial⟩) hf
  exact ⟨l, h1⟩
theorem open_items {H : Type} {enc : TypeId × Value → H} {w : World} {fuel : Nat} {v : Value} {dx : DataW H × List MemPlace} (hf : DataW.trod enc Tryz.prog w 0 (fun _ => true) true fuel 67 [v] = some dx) : ∃ l, AtW EM w v l := by
  have : Inhabited It := ⟨⟨0, 0, 0, .empty⟩⟩
  obtain ⟨l, h1, -⟩ := open_row EM Tryz.underlying67 (by kernel_rfl) (by decide) (Q := fun _ _ => True) (fun n cs d pl hl h => by
    obtain ⟨xs, m, _, _, _, hxl, hg⟩ := DataW.trod_struct Tryz.underlying137 h
    match cs, hl with
    | [c0, c1, c2, c3], _ =>
      have g0 := hg 0 _ rfl
      have g1 := hg 1 _ rfl
      have g2 := hg 2 _ rfl
      have g3 := hg 3 _ rfl
      have hx4 : xs.length = 4 := by rw [hxl]; rfl
      match xs, hx4 with
      | [y0, y1, y2, y3], _ =>
        simp only [List.getElem_toArray, List.getElem_cons_zero, List.getElem_cons_succ] at g0 g1 g2 g3
        simp only [show Tryz.prog.cellsOf 3 = 1 from by kernel_rfl, show Tryz.prog.cellsOf 9 = 1 from by kernel_rfl] at g0 g1 g2 g3
        simp at g0 g1 g2 g3
        obtain ⟨o, e0, _, _⟩ := DataW.trod_int Tryz.underlying3 g0
        obtain ⟨a, e1, _, _⟩ := DataW.trod_int Tryz.underlying3 g1
        obtain ⟨b, e2, _, _⟩ := DataW.trod_int Tryz.underlying3 g2
        obtain ⟨s, e3, _, _⟩ := DataW.trod_string Tryz.underlying9 g3
        simp only [List.cons.injEq, and_true] at e0 e1 e2 e3
        subst e0
        subst e1
        subst e2
        subst e3
        exact ⟨⟨o, a, b, s⟩, rfl, trivial⟩) hf
  exact ⟨l, h1⟩
set_option maxRecDepth 100000 in
set_option maxHeartbeats 1000000 in
theorem open_memo {H : Type} {enc : TypeId × Value → H} {w : World} {r : Reach} {b0 : Nat} {v : Value} {d : DataW H} {p : List MemPlace} (hv : Value.okWide Tryz.prog w r b0 71 v) (h : DataW.Trod enc Tryz.prog w 0 (fun _ => true) true 71 v d p) : ∃ (m : Mm) (u z : Value), v = VM m u z ∧ MAt w m u z := by
  obtain ⟨cs, rfl, hsz⟩ := okWide_struct Tryz.underlying71 hv
  have hsz' : cs.size = 15 := hsz.trans (by kernel_rfl)
  obtain ⟨fuel, hf⟩ := h
  obtain ⟨xs, m, _, _, _, hxl, hg⟩ := DataW.trod_struct Tryz.underlying71 hf
  have hl : cs.toList.length = 15 := by simpa using hsz'
  obtain ⟨l⟩ := cs
  simp only at hl
  match l, hl with
  | [c0, c1, c2, c3, c4, c5, c6, c7, c8, c9, c10, c11, c12, c13, c14], _ =>
    have hx13 : xs.length = 13 := by rw [hxl]; rfl
    have g0 := hg 0 _ rfl
    have g1 := hg 1 _ rfl
    have g2 := hg 2 _ rfl
    have g3 := hg 3 _ rfl
    have g4 := hg 4 _ rfl
    have g5 := hg 5 _ rfl
    have g6 := hg 6 _ rfl
    have g7 := hg 7 _ rfl
    have g8 := hg 8 _ rfl
    have g9 := hg 9 _ rfl
    have g10 := hg 10 _ rfl
    have g11 := hg 11 _ rfl
    have g12 := hg 12 _ rfl
    match xs, hx13 with
    | [y0, y1, y2, y3, y4, y5, y6, y7, y8, y9, y10, y11, y12], _ =>
      simp only [List.getElem_toArray, List.getElem_cons_zero, List.getElem_cons_succ] at g0 g1 g2 g3 g4 g5 g6 g7 g8 g9 g10 g11 g12
      simp only [Value.cells, show Tryz.prog.cellsOf 9 = 1 from by kernel_rfl, show Tryz.prog.cellsOf 3 = 1 from by kernel_rfl, show Tryz.prog.cellsOf 66 = 1 from by kernel_rfl, show Tryz.prog.cellsOf 67 = 1 from by kernel_rfl, show Tryz.prog.cellsOf 69 = 3 from by kernel_rfl] at g0 g1 g2 g3 g4 g5 g6 g7 g8 g9 g10 g11 g12
      simp at g0 g1 g2 g3 g4 g5 g6 g7 g8 g9 g10 g11 g12
      obtain ⟨a0, a1, a2, m3, _, _, j0, j1, j2⟩ := trod_struct3 Tryz.underlying69 g10
      simp only [show Tryz.prog.cellsOf 3 = 1 from by kernel_rfl] at j0 j1 j2
      simp at j0 j1 j2
      obtain ⟨n0, e0, _, _⟩ := DataW.trod_int Tryz.underlying3 g0
      obtain ⟨n1, e1, _, _⟩ := DataW.trod_int Tryz.underlying3 g1
      obtain ⟨n2, e2, _, _⟩ := DataW.trod_int Tryz.underlying3 g2
      obtain ⟨n3, e3, _, _⟩ := DataW.trod_int Tryz.underlying3 g3
      obtain ⟨n4, e4, _, _⟩ := DataW.trod_int Tryz.underlying3 g4
      obtain ⟨n5, e5, _, _⟩ := DataW.trod_int Tryz.underlying3 g5
      obtain ⟨n6, e6, _, _⟩ := DataW.trod_int Tryz.underlying3 g6
      obtain ⟨n7, e7, _, _⟩ := DataW.trod_int Tryz.underlying3 g7
      obtain ⟨lv, hv8⟩ := open_lives g8
      obtain ⟨it, hv9⟩ := open_items g9
      obtain ⟨n10, e10, _, _⟩ := DataW.trod_int Tryz.underlying3 j0
      obtain ⟨n11, e11, _, _⟩ := DataW.trod_int Tryz.underlying3 j1
      obtain ⟨n12, e12, _, _⟩ := DataW.trod_int Tryz.underlying3 j2
      obtain ⟨n13, e13, _, _⟩ := DataW.trod_int Tryz.underlying3 g11
      obtain ⟨dd, e14, _, _⟩ := DataW.trod_string Tryz.underlying9 g12
      simp only [List.cons.injEq, and_true] at e0 e1 e2 e3 e4 e5 e6 e7 e10 e11 e12 e13 e14
      subst e0
      subst e1
      subst e2
      subst e3
      subst e4
      subst e5
      subst e6
      subst e7
      subst e10
      subst e11
      subst e12
      subst e13
      subst e14
      exact ⟨⟨n0, n1, n2, n3, n4, n5, n6, n7, lv, it, n10, n11, n12, n13, dd⟩, c8, c9, rfl, hv8, hv9⟩
end Go.Proofs.YtkdhbjmpjbdobaaGreatDoor
/- SOpen -/
namespace Go.Proofs.YtkdhbjmpjbdobaaGreatDoor
open Go.ChangeShapes Go.WideShapes Go.ChangeAt Go.RowKit Go.Deep Sk
set_option maxRecDepth 100000
namespace Sk
structure Stp where
  w : Int
  f : Int
  c : Cl
  x : ByteArray
end Sk
def ET : Enc Stp := { sz := 13, cells := fun y => [.int .i64 y.w, .int .i64 y.f, .int .i64 y.c.k, .int .i64 y.c.no, .int .i64 y.c.gen, .int .i64 y.c.no2, .int .i64 y.c.gen2, .string y.c.nm, .string y.c.nm2, .int .i64 y.c.pl, .int .i64 y.c.n, .string y.c.data, .string y.x], len := fun _ => rfl, one := fun x u hu => by simp at hu; rcases hu with rfl | rfl | rfl | rfl | rfl | rfl | rfl | rfl | rfl | rfl | rfl | rfl | rfl <;> rfl }
theorem open_cc {H : Type} {enc : TypeId × Value → H} {w : World} {n : Nat} {c0 c1 c2 c3 c4 c5 c6 c7 c8 c9 : Value} {d : DataW H} {pl : List MemPlace} (h : DataW.trod enc Tryz.prog w 0 (fun _ => true) true n 34 [c0, c1, c2, c3, c4, c5, c6, c7, c8, c9] = some (d, pl)) : ∃ c : Cl, c0 = .int .i64 c.k ∧ c1 = .int .i64 c.no ∧ c2 = .int .i64 c.gen ∧ c3 = .int .i64 c.no2 ∧ c4 = .int .i64 c.gen2 ∧ c5 = .string c.nm ∧ c6 = .string c.nm2 ∧ c7 = .int .i64 c.pl ∧ c8 = .int .i64 c.n ∧ c9 = .string c.data := by
  obtain ⟨xs, m, _, _, _, hxl, hg⟩ := DataW.trod_struct Tryz.underlying34 h
  have hx8 : xs.length = 8 := by rw [hxl]; rfl
  have g0 := hg 0 _ rfl
  have g1 := hg 1 _ rfl
  have g2 := hg 2 _ rfl
  have g3 := hg 3 _ rfl
  have g4 := hg 4 _ rfl
  have g5 := hg 5 _ rfl
  have g6 := hg 6 _ rfl
  have g7 := hg 7 _ rfl
  match xs, hx8 with
  | [y0, y1, y2, y3, y4, y5, y6, y7], _ =>
    simp only [List.getElem_toArray, List.getElem_cons_zero, List.getElem_cons_succ] at g0 g1 g2 g3 g4 g5 g6 g7
    simp only [show Tryz.prog.cellsOf 9 = 1 from by kernel_rfl, show Tryz.prog.cellsOf 3 = 1 from by kernel_rfl, show Tryz.prog.cellsOf 32 = 2 from by kernel_rfl] at g0 g1 g2 g3 g4 g5 g6 g7
    simp at g0 g1 g2 g3 g4 g5 g6 g7
    obtain ⟨z0, z1, m2, _, _, k0, k1⟩ := trod_struct2 Tryz.underlying32 g1
    obtain ⟨u0, u1, m3, _, _, j0, j1⟩ := trod_struct2 Tryz.underlying32 g2
    simp only [show Tryz.prog.cellsOf 3 = 1 from by kernel_rfl] at k0 k1 j0 j1
    simp at k0 k1 j0 j1
    obtain ⟨k, e0, _, _⟩ := DataW.trod_int Tryz.underlying3 g0
    obtain ⟨no, e1, _, _⟩ := DataW.trod_int Tryz.underlying3 k0
    obtain ⟨gen, e2, _, _⟩ := DataW.trod_int Tryz.underlying3 k1
    obtain ⟨no2, e3, _, _⟩ := DataW.trod_int Tryz.underlying3 j0
    obtain ⟨gen2, e4, _, _⟩ := DataW.trod_int Tryz.underlying3 j1
    obtain ⟨nm, e5, _, _⟩ := DataW.trod_string Tryz.underlying9 g3
    obtain ⟨nm2, e6, _, _⟩ := DataW.trod_string Tryz.underlying9 g4
    obtain ⟨pl, e7, _, _⟩ := DataW.trod_int Tryz.underlying3 g5
    obtain ⟨n, e8, _, _⟩ := DataW.trod_int Tryz.underlying3 g6
    obtain ⟨data, e9, _, _⟩ := DataW.trod_string Tryz.underlying9 g7
    simp only [List.cons.injEq, and_true] at e0 e1 e2 e3 e4 e5 e6 e7 e8 e9
    exact ⟨⟨k, no, gen, no2, gen2, nm, nm2, pl, n, data⟩, e0, e1, e2, e3, e4, e5, e6, e7, e8, e9⟩
theorem open_st {H : Type} {enc : TypeId × Value → H} {w : World} {n : Nat} {cs : List Value} {d : DataW H} {pl : List MemPlace} (hl : cs.length = ET.sz) (h : DataW.trod enc Tryz.prog w 0 (fun _ => true) true n 36 cs = some (d, pl)) : ∃ x, cs = ET.cells x ∧ True := by
  obtain ⟨xs, m, _, _, _, hxl, hg⟩ := DataW.trod_struct Tryz.underlying36 h
  match cs, hl with
  | [c0, c1, c2, c3, c4, c5, c6, c7, c8, c9, c10, c11, c12], _ =>
    have g0 := hg 0 _ rfl
    have g1 := hg 1 _ rfl
    have g2 := hg 2 _ rfl
    have g3 := hg 3 _ rfl
    have hx4 : xs.length = 4 := by rw [hxl]; rfl
    match xs, hx4 with
    | [y0, y1, y2, y3], _ =>
      simp only [List.getElem_toArray, List.getElem_cons_zero, List.getElem_cons_succ] at g0 g1 g2 g3
      simp only [show Tryz.prog.cellsOf 3 = 1 from by kernel_rfl, show Tryz.prog.cellsOf 9 = 1 from by kernel_rfl, show Tryz.prog.cellsOf 34 = 10 from by kernel_rfl] at g0 g1 g2 g3
      simp at g0 g1 g2 g3
      obtain ⟨o, e0, _, _⟩ := DataW.trod_int Tryz.underlying3 g0
      obtain ⟨f, e1, _, _⟩ := DataW.trod_int Tryz.underlying3 g1
      obtain ⟨c, h0, h1, h2, h3, h4, h5, h6, h7, h8, h9⟩ := open_cc g2
      obtain ⟨s, e3, _, _⟩ := DataW.trod_string Tryz.underlying9 g3
      simp only [List.cons.injEq, and_true] at e0 e1 e3
      subst e0
      subst e1
      subst e3
      subst h0
      subst h1
      subst h2
      subst h3
      subst h4
      subst h5
      subst h6
      subst h7
      subst h8
      subst h9
      exact ⟨⟨o, f, c, s⟩, rfl, trivial⟩
theorem open_steps {H : Type} {enc : TypeId × Value → H} {w : World} {r : Reach} {b0 : Nat} {v : Value} {d : DataW H} {p : List MemPlace} (hv : Value.okWide Tryz.prog w r b0 22 v) (h : DataW.Trod enc Tryz.prog w 0 (fun _ => true) true 22 v d p) : ∃ l, AtW ET w v l := by
  obtain ⟨a, len, cap, rfl⟩ := okWide_slice Tryz.underlying22 hv
  obtain ⟨fuel, hf⟩ := h
  have : Inhabited Stp := ⟨⟨0, 0, Ks.Ak.zero, .empty⟩⟩
  obtain ⟨l, h1, -⟩ := open_row ET Tryz.underlying22 (by kernel_rfl) (by decide) (Q := fun _ _ => True) (fun n cs d pl hl h => open_st hl h) (by simpa [Value.cells] using hf)
  exact ⟨l, h1⟩
abbrev BX (y : Stp) : Obj := .cells #[.int .i64 y.w, .int .i64 y.f, .int .i64 y.c.k, .int .i64 y.c.no, .int .i64 y.c.gen, .int .i64 y.c.no2, .int .i64 y.c.gen2, .string y.c.nm, .string y.c.nm2, .int .i64 y.c.pl, .int .i64 y.c.n, .string y.c.data, .string y.x] 36
theorem bx_of {w : World} {A : Nat} {y : Stp} (h : w.heap[A]? = some (BX y)) : w.cell? ⟨A, 0, none⟩ = some (.int .i64 y.w) ∧ w.cell? ⟨A, 1, none⟩ = some (.int .i64 y.f) ∧ w.cell? ⟨A, 2, none⟩ = some (.int .i64 y.c.k) ∧ w.cell? ⟨A, 3, none⟩ = some (.int .i64 y.c.no) ∧ w.cell? ⟨A, 4, none⟩ = some (.int .i64 y.c.gen) ∧ w.cell? ⟨A, 5, none⟩ = some (.int .i64 y.c.no2) ∧ w.cell? ⟨A, 6, none⟩ = some (.int .i64 y.c.gen2) ∧ w.cell? ⟨A, 7, none⟩ = some (.string y.c.nm) ∧ w.cell? ⟨A, 8, none⟩ = some (.string y.c.nm2) ∧ w.cell? ⟨A, 9, none⟩ = some (.int .i64 y.c.pl) ∧ w.cell? ⟨A, 10, none⟩ = some (.int .i64 y.c.n) ∧ w.cell? ⟨A, 11, none⟩ = some (.string y.c.data) ∧ w.cell? ⟨A, 12, none⟩ = some (.string y.x) := by
  refine ⟨?_, ?_, ?_, ?_, ?_, ?_, ?_, ?_, ?_, ?_, ?_, ?_, ?_⟩ <;> simp [World.cell?, h]
end Go.Proofs.YtkdhbjmpjbdobaaGreatDoor
/- AKPlain -/
namespace Go.Proofs.YtkdhbjmpjbdobaaGreatDoor.Ns
set_option maxRecDepth 100000
namespace Ak

structure Cl where
  k : Int
  no : Int
  gen : Int
  no2 : Int
  gen2 : Int
  nm : ByteArray
  nm2 : ByteArray
  pl : Int
  n : Int
  data : ByteArray

theorem Cl.ext' {a b : Cl} (h1 : a.k = b.k) (h2 : a.no = b.no) (h3 : a.gen = b.gen) (h4 : a.no2 = b.no2) (h5 : a.gen2 = b.gen2) (h6 : a.nm = b.nm) (h7 : a.nm2 = b.nm2) (h8 : a.pl = b.pl) (h9 : a.n = b.n) (h10 : a.data = b.data) : a = b := by
  cases a; cases b; simp only at h1 h2 h3 h4 h5 h6 h7 h8 h9 h10; subst h1; subst h2; subst h3; subst h4; subst h5; subst h6; subst h7; subst h8; subst h9; subst h10; rfl
def zero : Cl := ⟨0, 0, 0, 0, 0, ⟨#[]⟩, ⟨#[]⟩, 0, 0, ⟨#[]⟩⟩
abbrev hokP (no gen : Int) : Prop := (0 ≤ no ∧ no ≤ 255) ∧ (0 ≤ gen ∧ gen ≤ 1099511627776)
def hok (no gen : Int) : Bool := decide (hokP no gen)
abbrev rightP (c : Cl) : Prop := (1 ≤ c.k ∧ c.k ≤ 14) ∧ hokP c.no c.gen ∧ hokP c.no2 c.gen2 ∧ c.nm.size ≤ 255 ∧ c.nm2.size ≤ 255 ∧ (0 ≤ c.pl ∧ c.pl ≤ 4294967295) ∧ (0 ≤ c.n ∧ c.n ≤ 65535) ∧ c.data.size ≤ 1024
def right (c : Cl) : Bool := decide (rightP c)
theorem right_iff {c : Cl} : right c = true ↔ rightP c := by simp [right]
theorem wrong_iff {c : Cl} : right c = false ↔ ¬ rightP c := by simp [right]

def opt (b : Bool) (x : Int × ByteArray) : List (Int × ByteArray) := if b then [x] else []
def hnz (no gen : Int) : Bool := !(no == 0 && gen == 0)
def snz (s : ByteArray) : Bool := !s.toList.isEmpty
def hbytes (no gen : Int) : ByteArray := Pl.numOut no 1 ++ Pl.numOut gen 6
def f1 (c : Cl) : List (Int × ByteArray) := [(1, Pl.numOut c.k 1)]
def f2 (c : Cl) := f1 c ++ opt (hnz c.no c.gen) (2, hbytes c.no c.gen)
def f3 (c : Cl) := f2 c ++ opt (hnz c.no2 c.gen2) (3, hbytes c.no2 c.gen2)
def f4 (c : Cl) := f3 c ++ opt (snz c.nm) (4, c.nm)
def f5 (c : Cl) := f4 c ++ opt (snz c.nm2) (5, c.nm2)
def f6 (c : Cl) := f5 c ++ opt (c.pl != 0) (6, Pl.numOut c.pl 4)
def f7 (c : Cl) := f6 c ++ opt (c.n != 0) (7, Pl.numOut c.n 2)
def fields (c : Cl) := f7 c ++ opt (snz c.data) (8, c.data)

/-- What Pack answers. -/
def packOut (c : Cl) : ByteArray := if right c then Pl.txt (Pl.encs (fields c)) else ⟨#[]⟩
def packErr (c : Cl) : Int := if right c then 0 else 413

/-- A number of a right call, as bytes. -/
theorem num_ok {n : Int} {z : Nat} (h0 : 0 ≤ n) (hz : 1 ≤ z) (h8 : z ≤ 8) (h : n.toNat < 256 ^ z) : Pl.numOut n z = Pl.txt (Pl.digits z n.toNat) := by
  have hb : Pl.numBad n z = false := by
    simp only [Pl.numBad, Bool.or_eq_false_iff, decide_eq_false_iff_not, Int.toNat_natCast]
    refine ⟨by omega, ?_⟩
    rw [Nat.div_eq_of_lt h]
    simp
  simp [Pl.numOut, hb]
theorem num_size {n : Int} {z : Nat} (h0 : 0 ≤ n) (hz : 1 ≤ z) (h8 : z ≤ 8) (h : n.toNat < 256 ^ z) : (Pl.numOut n z).size = z := by
  rw [num_ok h0 hz h8 h, Pl.txt_size, Pl.digits_length]
theorem numOf_acc (l : List UInt8) : ∀ a : Nat, l.foldl (fun n b => 256 * n + b.toNat) a = a * 256 ^ l.length + Pl.numOf l := by
  induction l with
  | nil => intro a; simp [Pl.numOf]
  | cons b l ih =>
    intro a
    have e : Pl.numOf (b :: l) = (256 * 0 + b.toNat) * 256 ^ l.length + Pl.numOf l := ih (256 * 0 + b.toNat)
    rw [List.foldl_cons, ih, e, List.length_cons, Nat.pow_succ, Nat.mul_zero, Nat.zero_add, Nat.add_mul, Nat.mul_comm 256 a, Nat.mul_assoc, Nat.mul_comm 256, Nat.add_assoc]
theorem numOf_cons (b : UInt8) (l : List UInt8) : Pl.numOf (b :: l) = b.toNat * 256 ^ l.length + Pl.numOf l := by
  have e : Pl.numOf (b :: l) = l.foldl (fun n b => 256 * n + b.toNat) (256 * 0 + b.toNat) := rfl
  rw [e, numOf_acc, Nat.mul_zero, Nat.zero_add]
theorem numOf_digits (z : Nat) : ∀ m : Nat, Pl.numOf (Pl.digits z m) = m % 256 ^ z := by
  induction z with
  | zero => intro m; simp [Pl.digits, Pl.numOf, Nat.mod_one]
  | succ z ih =>
    intro m
    have e : (UInt8.ofNat (m / 256 ^ z % 256)).toNat = m / 256 ^ z % 256 := by rw [UInt8.toNat_ofNat']; omega
    rw [Pl.digits_succ, numOf_cons, ih, Pl.digits_length, e, Nat.pow_succ, Nat.mod_mul, Nat.mul_comm (256 ^ z) (m / 256 ^ z % 256), Nat.add_comm]
/-- A number read again. -/
theorem val_num {n : Int} {z : Nat} (h0 : 0 ≤ n) (hz : 1 ≤ z) (h7 : z ≤ 7) (h : n.toNat < 256 ^ z) : Pl.numVal (Pl.numOut n z) = n := by
  have hs := num_size h0 hz (by omega) h
  have h1 : Pl.sNum (Pl.numOut n z) = false := by simp only [Pl.sNum, hs, decide_eq_false_iff_not]; omega
  have h2 : Pl.fNum (Pl.numOut n z) = false := by
    have : decide (z = 8) = false := decide_eq_false (by omega)
    simp [Pl.fNum, hs, this]
  unfold Pl.numVal
  rw [h1, h2, num_ok h0 hz (by omega) h, Pl.txt_data, numOf_digits, Nat.mod_eq_of_lt h]
  simp
  omega

/-- The handle that bytes are. -/
def hno (s : ByteArray) : Int := if s.size = 7 then Pl.numVal (s.extract 0 1) else 0
def hgen (s : ByteArray) : Int := if s.size = 7 then Pl.numVal (s.extract 1 7) else 0
theorem hok_of {no gen : Int} (h : hokP no gen) : 0 ≤ no ∧ no.toNat < 256 ^ 1 ∧ 0 ≤ gen ∧ gen.toNat < 256 ^ 6 := by
  obtain ⟨⟨a, b⟩, c, d⟩ := h
  exact ⟨a, by omega, c, by omega⟩
theorem hbytes_size {no gen : Int} (h : hokP no gen) : (hbytes no gen).size = 7 := by
  obtain ⟨a, b, c, d⟩ := hok_of h
  unfold hbytes
  have h1 := num_size (z := 1) a (by omega) (by omega) b
  have h2 := num_size (z := 6) c (by omega) (by omega) d
  rw [ByteArray.size_append]
  have e1 : Pl.numOut no 1 = Pl.numOut no ((1 : Nat) : Int) := rfl
  have e2 : Pl.numOut gen 6 = Pl.numOut gen ((6 : Nat) : Int) := rfl
  rw [e1, e2, h1, h2]
theorem extract_left (a b : ByteArray) (n : Nat) (h : a.size = n) : (a ++ b).extract 0 n = a := by
  subst h
  rw [Pl.extract_txt]
  have : (a ++ b).data.toList = a.data.toList ++ b.data.toList := by simp [ByteArray.data_append]
  rw [this, List.drop_zero, List.take_append_of_le_length (by simp), List.take_of_length_le (by simp), Pl.txt_toList]
theorem extract_right (a b : ByteArray) (n m : Nat) (h : a.size = n) (hm : a.size + b.size ≤ m) : (a ++ b).extract n m = b := by
  subst h
  rw [Pl.extract_txt]
  have : (a ++ b).data.toList = a.data.toList ++ b.data.toList := by simp [ByteArray.data_append]
  have hl : a.size = a.data.toList.length := by simp
  rw [this, hl, List.drop_left, List.take_of_length_le (by simp; have : b.data.size = b.size := rfl; have h2 : a.data.size = a.size := rfl; omega), Pl.txt_toList]
theorem hback {no gen : Int} (h : hokP no gen) : hno (hbytes no gen) = no ∧ hgen (hbytes no gen) = gen := by
  have hs := hbytes_size h
  obtain ⟨a, b, c, d⟩ := hok_of h
  have h1 : (Pl.numOut no 1).size = 1 := num_size (z := 1) a (by omega) (by omega) b
  have h2 : (Pl.numOut gen 6).size = 6 := num_size (z := 6) c (by omega) (by omega) d
  unfold hno hgen
  rw [if_pos hs, if_pos hs]
  unfold hbytes
  rw [extract_left _ _ 1 h1, extract_right _ _ 1 7 h1 (by omega)]
  exact ⟨val_num (z := 1) a (by omega) (by omega) b, val_num (z := 6) c (by omega) (by omega) d⟩

/-- A call with what a field says. -/
def withF (c : Cl) (x : Int × ByteArray) : Cl :=
  if x.1 = 1 then { c with k := Pl.numVal x.2 }
  else if x.1 = 2 then { c with no := hno x.2, gen := hgen x.2 }
  else if x.1 = 3 then { c with no2 := hno x.2, gen2 := hgen x.2 }
  else if x.1 = 4 then { c with nm := x.2 }
  else if x.1 = 5 then { c with nm2 := x.2 }
  else if x.1 = 6 then { c with pl := Pl.numVal x.2 }
  else if x.1 = 7 then { c with n := Pl.numVal x.2 }
  else if x.1 = 8 then { c with data := x.2 }
  else c
def callOf (l : List (Int × ByteArray)) : Cl := l.foldl withF zero

/-- The value of a tag: the last one. -/
def lastOf (l : List (Int × ByteArray)) (t : Int) : ByteArray := l.foldl (fun s x => if x.1 = t then x.2 else s) ⟨#[]⟩
theorem lastOf_snoc (l : List (Int × ByteArray)) (x : Int × ByteArray) (t : Int) : lastOf (l ++ [x]) t = if x.1 = t then x.2 else lastOf l t := by simp [lastOf]
theorem callOf_snoc (l : List (Int × ByteArray)) (x : Int × ByteArray) : callOf (l ++ [x]) = withF (callOf l) x := by simp [callOf]
def refOf (l : List (Int × ByteArray)) : Cl := ⟨Pl.numVal (lastOf l 1), hno (lastOf l 2), hgen (lastOf l 2), hno (lastOf l 3), hgen (lastOf l 3), lastOf l 4, lastOf l 5, Pl.numVal (lastOf l 6), Pl.numVal (lastOf l 7), lastOf l 8⟩
theorem rev_ind {α : Type} {p : List α → Prop} (h0 : p []) (h1 : ∀ l x, p l → p (l ++ [x])) (l : List α) : p l := by
  have : ∀ m : List α, p m.reverse := by
    intro m
    induction m with
    | nil => exact h0
    | cons x m ih => rw [List.reverse_cons]; exact h1 _ _ ih
  have := this l.reverse
  rwa [List.reverse_reverse] at this
theorem refOf_eq (l : List (Int × ByteArray)) : refOf l = callOf l := by
  induction l using rev_ind with
  | h0 => rfl
  | h1 l x ih =>
    rw [callOf_snoc, ← ih]
    unfold refOf withF
    simp only [lastOf_snoc]
    by_cases h1 : x.1 = 1
    · simp [h1]
    by_cases h2 : x.1 = 2
    · simp [h2]
    by_cases h3 : x.1 = 3
    · simp [h3]
    by_cases h4 : x.1 = 4
    · simp [h4]
    by_cases h5 : x.1 = 5
    · simp [h5]
    by_cases h6 : x.1 = 6
    · simp [h6]
    by_cases h7 : x.1 = 7
    · simp [h7]
    by_cases h8 : x.1 = 8
    · simp [h8]
    simp [h1, h2, h3, h4, h5, h6, h7, h8]

/-- What Unpack answers. -/
def isCall (L : List UInt8) : Bool := decide (Pl.unpErr L = 0) && right (callOf (Pl.unpOut L)) && decide (Pl.encs (fields (callOf (Pl.unpOut L))) = L)
def unpC (L : List UInt8) : Cl := if isCall L then callOf (Pl.unpOut L) else zero
def unpE (L : List UInt8) : Int := if isCall L then 0 else 413
end Ak
end Go.Proofs.YtkdhbjmpjbdobaaGreatDoor.Ns
/- AKBackP -/
namespace Go.Proofs.YtkdhbjmpjbdobaaGreatDoor.Ns
set_option maxRecDepth 100000
namespace Ak

theorem packErr_snoc : ∀ (l : List (Int × ByteArray)) (last : Int) (y : Int × ByteArray), Pl.packErr last l = 0 → (∀ x ∈ l, x.1 ≤ y.1) → last ≤ y.1 → 1 ≤ y.1 → y.1 ≤ 255 → y.2.size ≤ 65535 → Pl.packErr last (l ++ [y]) = 0
  | [], last, y, _, _, h1, h2, h3, h4 => by
    have : Pl.badAt last y = 0 := by unfold Pl.badAt; rw [if_neg (by omega), if_neg (by omega), if_neg (by omega)]
    simp [Pl.packErr, this]
  | x :: l, last, y, hp, hx, h1, h2, h3, h4 => by
    have hb : Pl.badAt last x = 0 := by
      unfold Pl.packErr at hp
      split at hp
      · assumption
      · exact hp
    have hp' : Pl.packErr x.1 l = 0 := by
      unfold Pl.packErr at hp
      rwa [if_pos hb] at hp
    show Pl.packErr last (x :: (l ++ [y])) = 0
    unfold Pl.packErr
    rw [if_pos hb]
    exact packErr_snoc l x.1 y hp' (fun z hz => hx z (by simp [hz])) (hx x (by simp)) h2 h3 h4
/-- Fields that can be packed, whose tags are at most t, and whose bytes are at most n. -/
def Up (l : List (Int × ByteArray)) (t : Int) (n : Nat) : Prop := Pl.packErr 1 l = 0 ∧ (∀ x ∈ l, x.1 ≤ t) ∧ (Pl.encs l).length ≤ n
theorem Up.opt {l : List (Int × ByteArray)} {t u : Int} {n m : Nat} {b : Bool} {s : ByteArray} (h : Up l t n) (h1 : 1 ≤ t) (ht : t < u) (hu : u ≤ 255) (hs : s.size ≤ m) (hm : m ≤ 65535) : Up (l ++ opt b (u, s)) u (n + 3 + m) := by
  obtain ⟨h0, h2, h3⟩ := h
  unfold Ak.opt
  cases b with
  | true =>
    rw [if_pos rfl]
    refine ⟨packErr_snoc l 1 (u, s) h0 (fun x hx => ?_) ?_ ?_ ?_ ?_, ?_, ?_⟩
    · have := h2 x hx; simp only; omega
    · simp only; omega
    · simp only; omega
    · simp only; omega
    · simp only; omega
    · intro x hx
      rcases List.mem_append.1 hx with hx | hx
      · have := h2 x hx; omega
      · simp at hx; subst hx; simp
    · have e : Pl.encs (l ++ [(u, s)]) = Pl.encs l ++ Pl.encOne (u, s) := by simp [Pl.encs]
      have := Pl.encOne_length (u, s)
      rw [e, List.length_append]
      simp only at this
      omega
  | false =>
    rw [if_neg (by decide), List.append_nil]
    exact ⟨h0, fun x hx => by have := h2 x hx; omega, by omega⟩
theorem numOut_le (n z : Int) : (Pl.numOut n z).size ≤ 8 := by
  unfold Pl.numOut
  split
  · decide
  · rename_i h
    rw [Pl.txt_size, Pl.digits_length]
    unfold Pl.numBad at h
    simp at h
    omega
theorem hbytes_le (a b : Int) : (hbytes a b).size ≤ 16 := by
  have h1 := numOut_le a 1
  have h2 := numOut_le b 6
  unfold hbytes
  rw [ByteArray.size_append]
  omega
theorem up_one (c : Cl) : Up (f1 c) 1 11 := by
  have h := numOut_le c.k 1
  refine ⟨?_, ?_, ?_⟩
  · have : Pl.badAt 1 (1, Pl.numOut c.k 1) = 0 := by unfold Pl.badAt; simp only; rw [if_neg (by omega), if_neg (by omega), if_neg (by omega)]
    simp [f1, Pl.packErr, this]
  · intro x hx; simp [f1] at hx; subst hx; simp
  · have := Pl.encOne_length (1, Pl.numOut c.k 1)
    simp only at this
    simp only [f1, Pl.encs, List.flatMap_cons, List.flatMap_nil, List.append_nil]
    omega
theorem up_fields {c : Cl} (h : rightP c) : Up (fields c) 8 1700 := by
  obtain ⟨hk, hh, hh2, hn, hn2, hp, hnn, hd⟩ := h
  have a2 := (up_one c).opt (b := hnz c.no c.gen) (u := 2) (s := hbytes c.no c.gen) (by omega) (by omega) (by omega) (hbytes_le _ _) (by omega)
  have a3 := a2.opt (b := hnz c.no2 c.gen2) (u := 3) (s := hbytes c.no2 c.gen2) (by omega) (by omega) (by omega) (hbytes_le _ _) (by omega)
  have a4 := a3.opt (b := snz c.nm) (u := 4) (s := c.nm) (by omega) (by omega) (by omega) hn (by omega)
  have a5 := a4.opt (b := snz c.nm2) (u := 5) (s := c.nm2) (by omega) (by omega) (by omega) hn2 (by omega)
  have a6 := a5.opt (b := c.pl != 0) (u := 6) (s := Pl.numOut c.pl 4) (by omega) (by omega) (by omega) (numOut_le _ _) (by omega)
  have a7 := a6.opt (b := c.n != 0) (u := 7) (s := Pl.numOut c.n 2) (by omega) (by omega) (by omega) (numOut_le _ _) (by omega)
  have a8 := a7.opt (b := snz c.data) (u := 8) (s := c.data) (by omega) (by omega) (by omega) hd (by omega)
  exact ⟨a8.1, a8.2.1, Nat.le_trans a8.2.2 (by omega)⟩

theorem callOf_opt (l : List (Int × ByteArray)) (b : Bool) (x : Int × ByteArray) : callOf (l ++ opt b x) = if b then withF (callOf l) x else callOf l := by
  unfold opt
  cases b with
  | true => rw [if_pos rfl, if_pos rfl, callOf_snoc]
  | false => rw [if_neg (by decide), if_neg (by decide), List.append_nil]
theorem empty_of {s : ByteArray} (h : snz s = false) : s = ⟨#[]⟩ := by
  unfold snz at h
  rw [ByteArray.toList_eq] at h
  simp at h
  cases s
  simp at h
  rw [h]
theorem hz_of {no gen : Int} (h : hnz no gen = false) : no = 0 ∧ gen = 0 := by
  unfold hnz at h
  simp at h
  exact h
theorem callOf_fields {c : Cl} (h : rightP c) : callOf (fields c) = c := by
  obtain ⟨hk, hh, hh2, hn, hn2, hp, hnn, hd⟩ := h
  have g1 : callOf (f1 c) = ⟨c.k, 0, 0, 0, 0, ⟨#[]⟩, ⟨#[]⟩, 0, 0, ⟨#[]⟩⟩ := by
    have : Pl.numVal (Pl.numOut c.k 1) = c.k := val_num (z := 1) (by omega) (by omega) (by omega) (by omega)
    simp [callOf, f1, withF, zero, this]
  have g2 : callOf (f2 c) = ⟨c.k, c.no, c.gen, 0, 0, ⟨#[]⟩, ⟨#[]⟩, 0, 0, ⟨#[]⟩⟩ := by
    unfold f2
    rw [callOf_opt, g1]
    cases hz : hnz c.no c.gen with
    | true => rw [if_pos rfl]; obtain ⟨e1, e2⟩ := hback hh; simp [withF, e1, e2]
    | false => rw [if_neg (by decide)]; obtain ⟨e1, e2⟩ := hz_of hz; rw [e1, e2]
  have g3 : callOf (f3 c) = ⟨c.k, c.no, c.gen, c.no2, c.gen2, ⟨#[]⟩, ⟨#[]⟩, 0, 0, ⟨#[]⟩⟩ := by
    unfold f3
    rw [callOf_opt, g2]
    cases hz : hnz c.no2 c.gen2 with
    | true => rw [if_pos rfl]; obtain ⟨e1, e2⟩ := hback hh2; simp [withF, e1, e2]
    | false => rw [if_neg (by decide)]; obtain ⟨e1, e2⟩ := hz_of hz; rw [e1, e2]
  have g4 : callOf (f4 c) = ⟨c.k, c.no, c.gen, c.no2, c.gen2, c.nm, ⟨#[]⟩, 0, 0, ⟨#[]⟩⟩ := by
    unfold f4
    rw [callOf_opt, g3]
    cases hz : snz c.nm with
    | true => rw [if_pos rfl]; simp [withF]
    | false => rw [if_neg (by decide), empty_of hz]
  have g5 : callOf (f5 c) = ⟨c.k, c.no, c.gen, c.no2, c.gen2, c.nm, c.nm2, 0, 0, ⟨#[]⟩⟩ := by
    unfold f5
    rw [callOf_opt, g4]
    cases hz : snz c.nm2 with
    | true => rw [if_pos rfl]; simp [withF]
    | false => rw [if_neg (by decide), empty_of hz]
  have g6 : callOf (f6 c) = ⟨c.k, c.no, c.gen, c.no2, c.gen2, c.nm, c.nm2, c.pl, 0, ⟨#[]⟩⟩ := by
    unfold f6
    rw [callOf_opt, g5]
    cases hz : (c.pl != 0) with
    | true =>
      have : Pl.numVal (Pl.numOut c.pl 4) = c.pl := val_num (z := 4) (by omega) (by omega) (by omega) (by omega)
      rw [if_pos rfl]; simp [withF, this]
    | false => have : c.pl = 0 := by simpa using hz
               rw [if_neg (by decide), this]
  have g7 : callOf (f7 c) = ⟨c.k, c.no, c.gen, c.no2, c.gen2, c.nm, c.nm2, c.pl, c.n, ⟨#[]⟩⟩ := by
    unfold f7
    rw [callOf_opt, g6]
    cases hz : (c.n != 0) with
    | true =>
      have : Pl.numVal (Pl.numOut c.n 2) = c.n := val_num (z := 2) (by omega) (by omega) (by omega) (by omega)
      rw [if_pos rfl]; simp [withF, this]
    | false => have : c.n = 0 := by simpa using hz
               rw [if_neg (by decide), this]
  unfold fields
  rw [callOf_opt, g7]
  cases hz : snz c.data with
  | true => rw [if_pos rfl]; simp [withF]
  | false => have := empty_of hz; rw [if_neg (by decide)]; cases c; simp only at this; rw [this]

/-- What was packed is unpacked. -/
theorem back {c : Cl} (h : right c = true) : unpC (Pl.encs (fields c)) = c ∧ unpE (Pl.encs (fields c)) = 0 ∧ (Pl.encs (fields c)).length ≤ 1700 := by
  have hr := right_iff.1 h
  have hu := up_fields hr
  obtain ⟨e1, e2⟩ := Pl.unp_encs (fields c) hu.1
  have hc : isCall (Pl.encs (fields c)) = true := by
    unfold isCall
    rw [e1, e2, callOf_fields hr, h]
    simp
  refine ⟨?_, ?_, hu.2.2⟩
  · unfold unpC; rw [if_pos hc, e1, callOf_fields hr]
  · unfold unpE; rw [if_pos hc]
/-- What is unpacked is packed so. -/
theorem forth {L : List UInt8} (h : unpE L = 0) : right (unpC L) = true ∧ Pl.encs (fields (unpC L)) = L := by
  unfold unpE at h
  split at h
  · rename_i hc
    unfold unpC
    rw [if_pos hc]
    unfold isCall at hc
    simp only [Bool.and_eq_true, decide_eq_true_eq] at hc
    exact ⟨hc.1.2, hc.2⟩
  · cases h
theorem unp_bad {L : List UInt8} (h : unpE L ≠ 0) : unpC L = zero ∧ unpE L = 413 := by
  unfold unpE at h
  unfold unpC unpE
  split at h
  · exact absurd rfl h
  · rename_i hc
    simp [hc]
end Ak
end Go.Proofs.YtkdhbjmpjbdobaaGreatDoor.Ns
/- NKit -/
namespace Go.Proofs.YtkdhbjmpjbdobaaGreatDoor.Ns
open Go.ChangeShapes Go.WideShapes Go.ChangeAt Go.RowKit Go.Deep
set_option maxRecDepth 100000
open Ak

/-- Any world grown from w. -/
structure Grw (w : World) where
  out : World
  grown : w.grownBy out none
theorem grw_some (w : World) : Nonempty (Grw w) := ⟨⟨w, grown_refl _ _⟩⟩
/-- A region that only reads, and whose callees read and lay blocks of their own, walked once. -/
theorem wp_region_grw {P : Program} {id : Nat} {Q : Exit → Act → World → Prop} {a : Act} {w : World} {l : List Oper} (hm : P.follows .mixedOrders = true) (hB : Region.lexB .any l.toArray = true)
    (h : wpQuiet P l.toArray (fun w' => ∃ p : Grw w, w' = p.out) (fun a' => ∀ w', (∃ p : Grw w, w' = p.out) → Q .normal a' w') l a) : (Code.region id l.toArray true).wp P Q a w :=
  wp_region_quiet (C := fun w' => ∃ p : Grw w, w' = p.out) hm hB ⟨⟨w.drew, ⟨rfl, rfl, rfl, Nat.le_refl _, fun _ _ _ => rfl⟩⟩, rfl⟩ (by simpa using h)
theorem calls_grw {P : Program} {f : FuncId} {args : Array Value} {w W : World} {v : Value} (hg : w.grownBy W none)
    (h : Calls P f args W fun e w' => e = .returned v ∧ Below W.heap.size W w') : Calls P f args W fun e w'' => e = .returned v ∧ ∃ p : Grw w, w'' = p.out :=
  h.mono fun _ w' ⟨he, hw⟩ => ⟨he, ⟨w', grown_trans hg (grown_of_below hw none)⟩, rfl⟩
theorem Grw.below {w : World} (p : Grw w) : Below w.heap.size w p.out := below_none p.grown (Nat.le_refl _)
theorem cell_lt {w : World} {b j : Nat} {v : Value} (h : w.cell? ⟨b, j, none⟩ = some v) : b < w.heap.size := by
  rcases Nat.lt_or_ge b w.heap.size with h' | h'
  · exact h'
  · simp [World.cell?, Array.getElem?_eq_none h'] at h
theorem cell_step {w w' : World} {b j : Nat} {v : Value} (h : w.cell? ⟨b, j, none⟩ = some v) (hb : Below w.heap.size w w') : w'.cell? ⟨b, j, none⟩ = some v := (hb.cell (p := ⟨b, j, none⟩) (cell_lt h)).trans h
theorem Grw.cell {w : World} (p : Grw w) {b j : Nat} {v : Value} (h : w.cell? ⟨b, j, none⟩ = some v) : p.out.cell? ⟨b, j, none⟩ = some v := cell_step h p.below
theorem block_lt {w : World} {b : Nat} {o : Obj} (h : w.heap[b]? = some o) : b < w.heap.size := by
  rcases Nat.lt_or_ge b w.heap.size with h' | h'
  · exact h'
  · rw [Array.getElem?_eq_none h'] at h; cases h
theorem block_step {w w' : World} {b : Nat} {o : Obj} (h : w.heap[b]? = some o) (hb : Below w.heap.size w w') : w'.heap[b]? = some o := (hb.block b (block_lt h)).trans h

abbrev VH (no gen : Int) : Value := .agg #[.int .i64 no, .int .i64 gen]
abbrev BH (no gen : Int) : Obj := .cells #[.int .i64 no, .int .i64 gen] 32
theorem two_of {w : World} {b : Nat} {x y : Int} (h : w.heap[b]? = some (BH x y)) : w.cell? ⟨b, 0, none⟩ = some (.int .i64 x) ∧ w.cell? ⟨b, 1, none⟩ = some (.int .i64 y) := by
  refine ⟨?_, ?_⟩ <;> simp [World.cell?, h]

end Go.Proofs.YtkdhbjmpjbdobaaGreatDoor.Ns
