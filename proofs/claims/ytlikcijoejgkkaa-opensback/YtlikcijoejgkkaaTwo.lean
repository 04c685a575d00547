/-
  The small case that every statement of the layer asks: two open files, of which one is closed.
-/
import Derived.Test.YtlikcijoejgkkaaLeaving
namespace Go.Proofs.Ytlikcijoejgkkaa
open Go.ChangeShapes Go.WideShapes Go.ChangeAt Go.RowKit Go.Deep
theorem At.lenq {α : Type} {E : Enc α} {S : Nat → Prop} {w : World} {p : Option Addr} {n q : Nat} {l : List α} (h : At E S w (.slice p n q) l) : n = l.length := by
  obtain ⟨ao, cap, hv, -, -⟩ := h.open
  simp only [Value.slice.injEq] at hv
  exact hv.2.1
set_option maxHeartbeats 4000000 in
theorem two_any (w : World) : Calls Try.prog 13 #[] w fun e w' => e = .returned (.bool true) ∧ Below w.heap.size w w' := by
  have HA0 : Hid ((w.alloc (BH 1 1)).heap[w.heap.size]? = some (BH 1 1)) := heap_alloc_new w (BH 1 1)
  obtain ⟨h0, h1⟩ := hand_of HA0.out
  go_enter Try.func13, Try.ntmps13
  go_wp2_with fail
  refine (open_any (.slice none 0 0) [] 5 1 1 _ At.nil).mono ?_
  rintro e w1 ⟨p1, n1, q1, rfl, hu1, hb1⟩
  rw [show Op.opened [] 5 1 1 = [(0, 5, 1, 1)] from by decide] at hu1
  rw [show Op.openFd [] 5 1 1 = 0 from by decide, show Op.openErr [] 5 1 1 = 0 from by decide]
  obtain rfl : n1 = 1 := hu1.lenq
  have HB1 : Hid (Below w.heap.size w w1) := ((Below.refl _ w).alloc (Nat.le_refl _) _).trans (hb1.mono (by simp))
  have HU1 : Hid (AtW EO w1 (.slice p1 1 q1) [(0, 5, 1, 1)]) := hu1.wide
  have g0 := cell_step h0 hb1
  have g1 := cell_step h1 hb1
  clear hu1 hb1 h0 h1
  go_wp2_with fail
  refine (open_any _ [(0, 5, 1, 1)] 7 1 1 _ HU1.out).mono ?_
  rintro e w2 ⟨p2, n2, q2, rfl, hu2, hb2⟩
  rw [show Op.opened [(0, 5, 1, 1)] 7 1 1 = [(0, 5, 1, 1), (1, 7, 1, 1)] from by decide] at hu2
  rw [show Op.openFd [(0, 5, 1, 1)] 7 1 1 = 1 from by decide, show Op.openErr [(0, 5, 1, 1)] 7 1 1 = 0 from by decide]
  obtain rfl : n2 = 2 := hu2.lenq
  have HB2 : Hid (Below w.heap.size w w2) := HB1.out.trans (hb2.mono HB1.out.size)
  have HU2 : Hid (AtW EO w2 (.slice p2 2 q2) [(0, 5, 1, 1), (1, 7, 1, 1)]) := hu2.wide
  have k0 := cell_step g0 hb2
  have k1 := cell_step g1 hb2
  clear hu2 hb2 g0 g1
  go_wp2_with fail
  refine (close_any _ [(0, 5, 1, 1), (1, 7, 1, 1)] 5 1 _ HU2.out).mono ?_
  rintro e w3 ⟨p3, n3, q3, rfl, hu3, hb3⟩
  rw [show Op.closeErr [(0, 5, 1, 1), (1, 7, 1, 1)] 5 1 = 411 from by decide, show Op.closeOf [(0, 5, 1, 1), (1, 7, 1, 1)] 5 1 = (0, 0) from by decide]
  have HB3 : Hid (Below w.heap.size w (w3.alloc (BH 0 0))) := (HB2.out.trans (hb3.mono HB2.out.size)).alloc (HB2.out.trans (hb3.mono HB2.out.size)).size _
  have HU3 : Hid (AtW EO (w3.alloc (BH 0 0)) (.slice p2 2 q2) [(0, 5, 1, 1), (1, 7, 1, 1)]) := (HU2.out.up hb3).up ((Below.refl _ _).alloc (Nat.le_refl _) _)
  have j0 := (cell_older (cell_lt (cell_step k0 hb3)) (BH 0 0) 0).trans (cell_step k0 hb3)
  have j1 := (cell_older (cell_lt (cell_step k1 hb3)) (BH 0 0) 1).trans (cell_step k1 hb3)
  clear hu3 hb3 k0 k1
  go_wp2_with fail
  refine (close_any _ [(0, 5, 1, 1), (1, 7, 1, 1)] 5 0 _ HU3.out).mono ?_
  rintro e w4 ⟨p4, n4, q4, rfl, hu4, hb4⟩
  rw [show Op.closed [(0, 5, 1, 1), (1, 7, 1, 1)] 5 0 = [(1, 7, 1, 1)] from by decide] at hu4
  rw [show Op.closeErr [(0, 5, 1, 1), (1, 7, 1, 1)] 5 0 = 0 from by decide, show Op.closeOf [(0, 5, 1, 1), (1, 7, 1, 1)] 5 0 = (1, 1) from by decide]
  obtain rfl : n4 = 1 := hu4.lenq
  have HB4 : Hid (Below w.heap.size w (w4.alloc (BH 1 1))) := (HB3.out.trans (hb4.mono HB3.out.size)).alloc (HB3.out.trans (hb4.mono HB3.out.size)).size _
  have HU4 : Hid (AtW EO (w4.alloc (BH 1 1)) (.slice p2 2 q2) [(0, 5, 1, 1), (1, 7, 1, 1)]) := (HU3.out.up hb4).up ((Below.refl _ _).alloc (Nat.le_refl _) _)
  have l0 := (cell_older (cell_lt (cell_step j0 hb4)) (BH 1 1) 0).trans (cell_step j0 hb4)
  have l1 := (cell_older (cell_lt (cell_step j1 hb4)) (BH 1 1) 1).trans (cell_step j1 hb4)
  clear hu4 hb4 j0 j1
  go_wp2_with fail
  refine (held_any _ [(0, 5, 1, 1), (1, 7, 1, 1)] 1 1 _ HU4.out).mono ?_
  rintro e w5 ⟨rfl, hb5⟩
  rw [show Op.held [(0, 5, 1, 1), (1, 7, 1, 1)] 1 1 = 2 from by decide]
  have HB5 : Hid (Below w.heap.size w w5) := HB4.out.trans (hb5.mono HB4.out.size)
  clear hb5
  go_wp2
  go_ret
  exact ⟨rfl, HB5.out⟩
end Go.Proofs.Ytlikcijoejgkkaa
