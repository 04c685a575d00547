/-
  law11's Case, as it came in.
-/
import Derived.Test.YtacghcoikekfeaaGreatLtl
import Derived.Test.YtacghcoikekfeaaGreatOpenS
import Derived.Test.YtacghcoikekfeaaGreatRows
import Derived.Test.YtacghcoikekfeaaGreatLaw
namespace Go.Proofs.YtacghcoikekfeaaGreat
open Go.ChangeShapes Go.WideShapes Go.ChangeAt Go.RowKit Go.Deep It
set_option maxRecDepth 100000
abbrev VC (a b c d : Int) (s s2 : ByteArray) (k st : Int) : Value := .agg #[.int .i64 a, .int .i64 b, .int .i64 c, .int .i64 d, .string s, .string s2, .int .i64 k, .int .i64 st]
abbrev BC (a b c d : Int) (s s2 : ByteArray) (k st : Int) : Obj := .cells #[.int .i64 a, .int .i64 b, .int .i64 c, .int .i64 d, .string s, .string s2, .int .i64 k, .int .i64 st] 33
theorem case_of {w : World} {A : Nat} {a b c d k st : Int} {s s2 : ByteArray} (h : w.heap[A]? = some (BC a b c d s s2 k st)) :
    w.cell? ⟨A, 0, none⟩ = some (.int .i64 a) ∧ w.cell? ⟨A, 1, none⟩ = some (.int .i64 b) ∧ w.cell? ⟨A, 2, none⟩ = some (.int .i64 c) ∧ w.cell? ⟨A, 3, none⟩ = some (.int .i64 d) ∧ w.cell? ⟨A, 4, none⟩ = some (.string s) ∧ w.cell? ⟨A, 5, none⟩ = some (.string s2) ∧ w.cell? ⟨A, 6, none⟩ = some (.int .i64 k) ∧ w.cell? ⟨A, 7, none⟩ = some (.int .i64 st) := by
  refine ⟨?_, ?_, ?_, ?_, ?_, ?_, ?_, ?_⟩ <;> simp [World.cell?, h]
theorem open_case {H : Type} {enc : TypeId × Value → H} {w : World} {r : Reach} {b0 : Nat} {v : Value} {d : DataW H} {p : List MemPlace} (hv : Value.okWide Tryz.prog w r b0 33 v) (h : DataW.Trod enc Tryz.prog w 0 (fun _ => true) true 33 v d p) : ∃ (a b c e : Int) (s s2 : ByteArray) (k st : Int), v = VC a b c e s s2 k st ∧ s.size ≤ maxLen ∧ s2.size ≤ maxLen := by
  obtain ⟨cs, rfl, hsz⟩ := okWide_struct Tryz.underlying33 hv
  obtain ⟨fuel, hf⟩ := h
  have h8 : cs.toList.length = 8 := by rw [Array.length_toList, hsz]; kernel_rfl
  have hf' : DataW.trod enc Tryz.prog w 0 (fun _ => true) true fuel 33 cs.toList = some (d, p) := by simpa [Value.cells] using hf
  obtain ⟨xs, m, _, hxy, _, hxl, hg⟩ := DataW.trod_struct Tryz.underlying33 hf'
  obtain ⟨cl⟩ := cs
  simp only at h8 hg
  match cl, h8 with
  | [c0, c1, c2, c3, c4, c5, c6, c7], _ =>
    have g0 := hg 0 _ rfl
    have g1 := hg 1 _ rfl
    have g2 := hg 2 _ rfl
    have g3 := hg 3 _ rfl
    have g4 := hg 4 _ rfl
    have g5 := hg 5 _ rfl
    have hx6 : xs.length = 6 := by rw [hxl]; rfl
    match xs, hx6 with
    | [y0, y1, y2, y3, y4, y5], _ =>
      simp only [List.getElem_toArray, List.getElem_cons_zero, List.getElem_cons_succ] at g0 g1 g2 g3 g4 g5
      simp only [show Tryz.prog.cellsOf 31 = 2 from by kernel_rfl, show Tryz.prog.cellsOf 9 = 1 from by kernel_rfl, show Tryz.prog.cellsOf 3 = 1 from by kernel_rfl] at g0 g1 g2 g3 g4 g5
      simp at g0 g1 g2 g3 g4 g5
      obtain ⟨z0, z1, m0, _, _, k0, k1⟩ := trod_struct2 Tryz.underlying31 g0
      obtain ⟨z2, z3, m1, _, _, k2, k3⟩ := trod_struct2 Tryz.underlying31 g1
      simp only [show Tryz.prog.cellsOf 3 = 1 from by kernel_rfl] at k0 k1 k2 k3
      simp at k0 k1 k2 k3
      obtain ⟨a, e0, _, _⟩ := DataW.trod_int Tryz.underlying3 k0
      obtain ⟨b, e1, _, _⟩ := DataW.trod_int Tryz.underlying3 k1
      obtain ⟨c, e2, _, _⟩ := DataW.trod_int Tryz.underlying3 k2
      obtain ⟨e, e3, _, _⟩ := DataW.trod_int Tryz.underlying3 k3
      obtain ⟨s, e4, _, hs4⟩ := DataW.trod_string Tryz.underlying9 g2
      obtain ⟨s2, e5, _, hs5⟩ := DataW.trod_string Tryz.underlying9 g3
      obtain ⟨k, e6, _, _⟩ := DataW.trod_int Tryz.underlying3 g4
      obtain ⟨st, e7, _, _⟩ := DataW.trod_int Tryz.underlying3 g5
      simp only [List.cons.injEq, and_true] at e0 e1 e2 e3 e4 e5 e6 e7
      subst e0 e1 e2 e3 e4 e5 e6 e7
      exact ⟨a, b, c, e, s, s2, k, st, rfl, hs4, hs5⟩
theorem hand_same (a b : Int) (w : World) : (binOp .eql 31 (.agg #[.int .i64 a, .int .i64 b]) (.agg #[.int .i64 a, .int .i64 b])).run Tryz.prog w = .ok (.bool true) w := by
  go_simp
end Go.Proofs.YtacghcoikekfeaaGreat
