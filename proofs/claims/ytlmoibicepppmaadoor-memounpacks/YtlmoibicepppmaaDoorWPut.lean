/-
  A memo of the document's is stored in one step.
-/
import Derived.Test.YtlmoibicepppmaaDoorWRUe
import Derived.Deep.MidRow
namespace Go.Proofs.YtlmoibicepppmaaDoor
open Go.ChangeShapes Go.WideShapes Go.ChangeAt Go.RowKit Go.Deep Me
set_option maxRecDepth 100000
theorem infoMr : (Tryd.prog.info? 38).map (·.size) = some 15 := by kernel_rfl
theorem there_mr {w : World} {A : Nat} {m : Mm} {u z : Value} (h : w.heap[A]? = some (BMr m u z)) : w.there A 0 15 := fun j hj => by
  refine ⟨?_, by simp [World.frozen?, h]⟩
  have hs : j < (#[Value.int .i64 m.k, .int .i64 m.v, .int .i64 m.n, .int .i64 m.o, .int .i64 m.c, .int .i64 m.b, .int .i64 m.l, .int .i64 m.cl, u, z, .int .i64 m.mo, .int .i64 m.ms, .int .i64 m.mm, .int .i64 m.nu, .string m.d] : Array Value).size := hj
  simp only [World.cell?, h, Nat.zero_add, Option.isSome_none, Bool.false_eq_true, if_false]
  rw [Array.getElem?_eq_getElem hs]
  rfl
theorem grown_cells (A : Nat) : ∀ (vs : List Value) (o : Nat) (w : World), w.grownBy (w.setCells A o vs) (some A)
  | [], _, _ => grown_refl _ _
  | v :: vs, o, w => grown_trans (grown_set1 w A o v) (grown_cells A vs (o + 1) _)
theorem put_mr {w : World} {A : Nat} {m0 : Mm} {u0 z0 : Value} (h : w.heap[A]? = some (BMr m0 u0 z0)) (m : Mm) (u z : Value) : (w.setCells A 0 [.int .i64 m.k, .int .i64 m.v, .int .i64 m.n, .int .i64 m.o, .int .i64 m.c, .int .i64 m.b, .int .i64 m.l, .int .i64 m.cl, u, z, .int .i64 m.mo, .int .i64 m.ms, .int .i64 m.mm, .int .i64 m.nu, .string m.d]).heap[A]? = some (BMr m u z) := by
  simp [World.setCells, World.setCell, Array.getElem?_modify, h]
theorem wpList_put15 {ops : Array Oper} {rest : List Oper} {op : Oper} {a : Act} {w : World} {Q : Exit → Act → World → Prop} (hgd : op.guard = none) (x y : Operand) (ho : op.op = .store 38 x y)
    (A : Nat) (m : Mm) (p1 : Option Addr) (n1 d1 : Nat) (p2 : Option Addr) (n2 d2 : Nat) (hx : a.eval x = .pointer (some ⟨A, 0, none⟩)) (hy : a.eval y = VM m (.slice p1 n1 d1) (.slice p2 n2 d2))
    {m0 : Mm} {u0 z0 : Value} (hA : w.heap[A]? = some (BMr m0 u0 z0))
    (h : ∀ W, w.grownBy W (some A) → W.heap[A]? = some (BMr m (.slice p1 n1 d1) (.slice p2 n2 d2)) → wpList Tryd.prog ops Q rest (a.put op.dst undef) W) : wpList Tryd.prog ops Q (op :: rest) a w :=
  wpList_store_mid hgd 38 x y ho A 0 _ hx hy (there_mr hA) infoMr (all_oneCell_toArray (fun v hv => by simp at hv; rcases hv with rfl | rfl | rfl | rfl | rfl | rfl | rfl | rfl | rfl | rfl | rfl | rfl | rfl | rfl | rfl <;> rfl)) (h _ (grown_cells A _ 0 w) (put_mr hA m _ _))
end Go.Proofs.YtlmoibicepppmaaDoor
