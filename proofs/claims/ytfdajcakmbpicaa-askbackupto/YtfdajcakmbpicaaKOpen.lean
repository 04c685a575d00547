/-
  What an argument stands for: a call.
-/
import Derived.Test.YtfdajcakmbpicaaRows
import Derived.Test.YtfdajcakmbpicaaKBase
import Derived.Test.YtfdajcakmbpicaaLaw
import Derived.ProofKit
import Derived.Lib.SmallJoins
import Derived.ChangeMaps5
namespace Go.Proofs.Ytfdajcakmbpicaa
open Go.ChangeShapes Go.WideShapes Go.ChangeAt Go.RowKit Go.Deep
open Ak

theorem open_call {H : Type} {enc : TypeId × Value → H} {w : World} {r : Reach} {b0 : Nat} {v : Value} {d : DataW H} {p : List MemPlace} (hv : Value.okWide Try.prog w r b0 25 v) (h : DataW.Trod enc Try.prog w 0 (fun _ => true) true 25 v d p) : ∃ c : Cl, v = VC c := by
  obtain ⟨cs, rfl, hsz⟩ := okWide_struct Try.underlying25 hv
  have hsz' : cs.size = 10 := hsz.trans (by kernel_rfl)
  obtain ⟨fuel, hf⟩ := h
  obtain ⟨xs, m, _, _, _, hxl, hg⟩ := DataW.trod_struct Try.underlying25 hf
  have hl : cs.toList.length = 10 := by simpa using hsz'
  obtain ⟨l⟩ := cs
  simp only at hl
  match l, hl with
  | [c0, c1, c2, c3, c4, c5, c6, c7, c8, c9], _ =>
    have hx8 : xs.length = 8 := by rw [hxl]; rfl
    have g0 := hg 0 _ rfl
    have g1 := hg 1 _ rfl
    have g2 := hg 2 _ rfl
    have g3 := hg 3 _ rfl
    have g4 := hg 4 _ rfl
    have g5 := hg 5 _ rfl
    have g6 := hg 6 _ rfl
    have g7 := hg 7 _ rfl
    match xs, hx8 with
    | [y0, y1, y2, y3, y4, y5, y6, y7], _ =>
      simp only [List.getElem_toArray, List.getElem_cons_zero, List.getElem_cons_succ] at g0 g1 g2 g3 g4 g5 g6 g7
      simp only [Value.cells, show Try.prog.cellsOf 9 = 1 from by kernel_rfl, show Try.prog.cellsOf 3 = 1 from by kernel_rfl, show Try.prog.cellsOf 23 = 2 from by kernel_rfl] at g0 g1 g2 g3 g4 g5 g6 g7
      simp at g0 g1 g2 g3 g4 g5 g6 g7
      obtain ⟨z0, z1, m2, _, _, k0, k1⟩ := trod_struct2 Try.underlying23 g1
      obtain ⟨u0, u1, m3, _, _, j0, j1⟩ := trod_struct2 Try.underlying23 g2
      simp only [show Try.prog.cellsOf 3 = 1 from by kernel_rfl] at k0 k1 j0 j1
      simp at k0 k1 j0 j1
      obtain ⟨k, e0, _, _⟩ := DataW.trod_int Try.underlying3 g0
      obtain ⟨no, e1, _, _⟩ := DataW.trod_int Try.underlying3 k0
      obtain ⟨gen, e2, _, _⟩ := DataW.trod_int Try.underlying3 k1
      obtain ⟨no2, e3, _, _⟩ := DataW.trod_int Try.underlying3 j0
      obtain ⟨gen2, e4, _, _⟩ := DataW.trod_int Try.underlying3 j1
      obtain ⟨nm, e5, _, _⟩ := DataW.trod_string Try.underlying9 g3
      obtain ⟨nm2, e6, _, _⟩ := DataW.trod_string Try.underlying9 g4
      obtain ⟨pl, e7, _, _⟩ := DataW.trod_int Try.underlying3 g5
      obtain ⟨n, e8, _, _⟩ := DataW.trod_int Try.underlying3 g6
      obtain ⟨data, e9, _, _⟩ := DataW.trod_string Try.underlying9 g7
      simp only [List.cons.injEq, and_true] at e0 e1 e2 e3 e4 e5 e6 e7 e8 e9
      subst e0
      subst e1
      subst e2
      subst e3
      subst e4
      subst e5
      subst e6
      subst e7
      subst e8
      subst e9
      exact ⟨⟨k, no, gen, no2, gen2, nm, nm2, pl, n, data⟩, rfl⟩
end Go.Proofs.Ytfdajcakmbpicaa
