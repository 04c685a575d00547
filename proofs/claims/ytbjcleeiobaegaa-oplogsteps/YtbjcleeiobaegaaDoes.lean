/-
  The law's does: a step done to a log and to the reference's: the same answers, and both stand for one list again.
-/
import Derived.Test.YtbjcleeiobaegaaBoth
import Derived.Test.YtbjcleeiobaegaaItems
namespace Go.Proofs.Ytbjcleeiobaegaa
open Go.RowKit

set_option maxHeartbeats 2000000 in
set_option maxRecDepth 100000 in
theorem does_add0 {s r : Nat} {base : Int} {v u : Value} {ls : List Ol.It} (x1 x2 y0 y1 y2 : Int) (y3 : ByteArray) (p : Option Addr) (lm lc : Nat) (w : World) (hb : Both w s r base v u ls) :
    Calls Try.prog 10 #[.pointer (some ⟨s, 0, none⟩), .pointer (some ⟨r, 0, none⟩), .agg #[.int .i64 0, .int .i64 x1, .int .i64 x2, .int .i64 y0, .int .i64 y1, .int .i64 y2, .string y3, .slice p lm lc]] w fun e w' => e = .returned (.bool true) ∧ Goes w w' s r := by
  have ga := World.grownBy_alloc w (.cells #[.int .i64 0, .int .i64 x1, .int .i64 x2, .int .i64 y0, .int .i64 y1, .int .i64 y2, .string y3, .slice p lm lc] 35) none
  have HB : Hid (Both (w.alloc (.cells #[.int .i64 0, .int .i64 x1, .int .i64 x2, .int .i64 y0, .int .i64 y1, .int .i64 y2, .string y3, .slice p lm lc] 35)) s r base v u ls) := hb.still ga
  have HX : Hid ((w.alloc (.cells #[.int .i64 0, .int .i64 x1, .int .i64 x2, .int .i64 y0, .int .i64 y1, .int .i64 y2, .string y3, .slice p lm lc] 35)).heap[w.heap.size]? = some (.cells #[.int .i64 0, .int .i64 x1, .int .i64 x2, .int .i64 y0, .int .i64 y1, .int .i64 y2, .string y3, .slice p lm lc] 35 (0, 0))) := heap_alloc_new _ _
  have HW : Hid (∀ B, B ≤ s → Below B w (w.alloc (.cells #[.int .i64 0, .int .i64 x1, .int .i64 x2, .int .i64 y0, .int .i64 y1, .int .i64 y2, .string y3, .slice p lm lc] 35))) := fun B h => below_none ga (by have := hb.code.lt; omega)
  have HKK : Hid (∀ (X : Nat) (c : Array Value), w.heap[X]? = some (.cells c 35 (0, 0)) → (w.alloc (.cells #[.int .i64 0, .int .i64 x1, .int .i64 x2, .int .i64 y0, .int .i64 y1, .int .i64 y2, .string y3, .slice p lm lc] 35)).heap[X]? = some (.cells c 35 (0, 0))) := fun X c h => (ga.block X (Array.getElem?_eq_some_iff.1 h).1 (by simp)).trans h
  have HXS : Hid ((w.heap.size ≠ s ∧ some w.heap.size ≠ v.ownBlock) ∧ w.heap.size ≠ r ∧ some w.heap.size ≠ u.ownBlock) := ⟨⟨block_not HX.out HB.out.code.block (by decide), row_not HB.out.code.row HX.out (by decide)⟩, block_not HX.out HB.out.ref.block (by decide), row_not HB.out.ref.row HX.out (by decide)⟩
  clear hb ga
  go_enter Try.func10, Try.ntmps10
  go_wp2_with fail
  refine (add_any (y0, y1, y2, y3) _ HB.out.code).mono ?_
  rintro e w2 ⟨v2, rfl, p2, t1, m1⟩
  have r2 := HB.out.one t1
  obtain ⟨b0, b1, b2, b3, b4, b5, b6, b7⟩ := eight_all (leaves t1 HX.out HXS.out.1.1 HXS.out.1.2)
  have H2 : Hid (LogAt w2 s base v2 _ ∧ Turns _ w2 s v ∧ Moves _ v v2 ∧ Rf.LogAt w2 r base u ls) := ⟨p2, t1, m1, r2⟩
  clear p2 t1 m1 r2
  go_wp2_with fail
  refine (Rf.add_any (y0, y1, y2, y3) _ H2.out.2.2.2).mono ?_
  rintro e w3 ⟨u3, rfl, r3, t2, m2⟩
  have HE : Hid (Goes w w3 s r) := goes_two HW.out HKK.out HB.out H2.out.2.1 H2.out.2.2.1 H2.out.1 t2 m2 r3
  clear r3 t2 m2 b0 b1 b2 b3 b4 b5 b6 b7
  generalize Ol.addNum base ls (y0, y1, y2, y3) = g0
  generalize Ol.refuse base ls [(y0, y1, y2, y3)] = g1
  go_wp2
  go_ret
  exact ⟨rfl, HE.out⟩
set_option maxHeartbeats 2000000 in
set_option maxRecDepth 100000 in
theorem does_add1 {s r : Nat} {base : Int} {v u : Value} {ls : List Ol.It} (x1 x2 y0 y1 y2 : Int) (y3 : ByteArray) (p : Option Addr) (lm lc : Nat) (w : World) (hb : Both w s r base v u ls) :
    Calls Try.prog 10 #[.pointer (some ⟨s, 0, none⟩), .pointer (some ⟨r, 0, none⟩), .agg #[.int .i64 1, .int .i64 x1, .int .i64 x2, .int .i64 y0, .int .i64 y1, .int .i64 y2, .string y3, .slice p lm lc]] w fun e w' => e = .returned (.bool true) ∧ Goes w w' s r := by
  have ga := World.grownBy_alloc w (.cells #[.int .i64 1, .int .i64 x1, .int .i64 x2, .int .i64 y0, .int .i64 y1, .int .i64 y2, .string y3, .slice p lm lc] 35) none
  have HB : Hid (Both (w.alloc (.cells #[.int .i64 1, .int .i64 x1, .int .i64 x2, .int .i64 y0, .int .i64 y1, .int .i64 y2, .string y3, .slice p lm lc] 35)) s r base v u ls) := hb.still ga
  have HX : Hid ((w.alloc (.cells #[.int .i64 1, .int .i64 x1, .int .i64 x2, .int .i64 y0, .int .i64 y1, .int .i64 y2, .string y3, .slice p lm lc] 35)).heap[w.heap.size]? = some (.cells #[.int .i64 1, .int .i64 x1, .int .i64 x2, .int .i64 y0, .int .i64 y1, .int .i64 y2, .string y3, .slice p lm lc] 35 (0, 0))) := heap_alloc_new _ _
  have HW : Hid (∀ B, B ≤ s → Below B w (w.alloc (.cells #[.int .i64 1, .int .i64 x1, .int .i64 x2, .int .i64 y0, .int .i64 y1, .int .i64 y2, .string y3, .slice p lm lc] 35))) := fun B h => below_none ga (by have := hb.code.lt; omega)
  have HKK : Hid (∀ (X : Nat) (c : Array Value), w.heap[X]? = some (.cells c 35 (0, 0)) → (w.alloc (.cells #[.int .i64 1, .int .i64 x1, .int .i64 x2, .int .i64 y0, .int .i64 y1, .int .i64 y2, .string y3, .slice p lm lc] 35)).heap[X]? = some (.cells c 35 (0, 0))) := fun X c h => (ga.block X (Array.getElem?_eq_some_iff.1 h).1 (by simp)).trans h
  have HXS : Hid ((w.heap.size ≠ s ∧ some w.heap.size ≠ v.ownBlock) ∧ w.heap.size ≠ r ∧ some w.heap.size ≠ u.ownBlock) := ⟨⟨block_not HX.out HB.out.code.block (by decide), row_not HB.out.code.row HX.out (by decide)⟩, block_not HX.out HB.out.ref.block (by decide), row_not HB.out.ref.row HX.out (by decide)⟩
  clear hb ga
  go_enter Try.func10, Try.ntmps10
  go_wp2_with fail
  refine (add_any (y0, y1, y2, y3) _ HB.out.code).mono ?_
  rintro e w2 ⟨v2, rfl, p2, t1, m1⟩
  have r2 := HB.out.one t1
  obtain ⟨b0, b1, b2, b3, b4, b5, b6, b7⟩ := eight_all (leaves t1 HX.out HXS.out.1.1 HXS.out.1.2)
  have H2 : Hid (LogAt w2 s base v2 _ ∧ Turns _ w2 s v ∧ Moves _ v v2 ∧ Rf.LogAt w2 r base u ls) := ⟨p2, t1, m1, r2⟩
  clear p2 t1 m1 r2
  go_wp2_with fail
  refine (Rf.add_any (y0, y1, y2, y3) _ H2.out.2.2.2).mono ?_
  rintro e w3 ⟨u3, rfl, r3, t2, m2⟩
  have HE : Hid (Goes w w3 s r) := goes_two HW.out HKK.out HB.out H2.out.2.1 H2.out.2.2.1 H2.out.1 t2 m2 r3
  clear r3 t2 m2 b0 b1 b2 b3 b4 b5 b6 b7
  generalize Ol.addNum base ls (y0, y1, y2, y3) = g0
  generalize Ol.refuse base ls [(y0, y1, y2, y3)] = g1
  go_wp2
  go_ret
  exact ⟨rfl, HE.out⟩
set_option maxHeartbeats 2000000 in
set_option maxRecDepth 100000 in
theorem does_cut {s r : Nat} {base : Int} {v u : Value} {ls : List Ol.It} (x1 x2 y0 y1 y2 : Int) (y3 : ByteArray) (p : Option Addr) (lm lc : Nat) (w : World) (hb : Both w s r base v u ls) :
    Calls Try.prog 10 #[.pointer (some ⟨s, 0, none⟩), .pointer (some ⟨r, 0, none⟩), .agg #[.int .i64 2, .int .i64 x1, .int .i64 x2, .int .i64 y0, .int .i64 y1, .int .i64 y2, .string y3, .slice p lm lc]] w fun e w' => e = .returned (.bool true) ∧ Goes w w' s r := by
  have ga := World.grownBy_alloc w (.cells #[.int .i64 2, .int .i64 x1, .int .i64 x2, .int .i64 y0, .int .i64 y1, .int .i64 y2, .string y3, .slice p lm lc] 35) none
  have HB : Hid (Both (w.alloc (.cells #[.int .i64 2, .int .i64 x1, .int .i64 x2, .int .i64 y0, .int .i64 y1, .int .i64 y2, .string y3, .slice p lm lc] 35)) s r base v u ls) := hb.still ga
  have HX : Hid ((w.alloc (.cells #[.int .i64 2, .int .i64 x1, .int .i64 x2, .int .i64 y0, .int .i64 y1, .int .i64 y2, .string y3, .slice p lm lc] 35)).heap[w.heap.size]? = some (.cells #[.int .i64 2, .int .i64 x1, .int .i64 x2, .int .i64 y0, .int .i64 y1, .int .i64 y2, .string y3, .slice p lm lc] 35 (0, 0))) := heap_alloc_new _ _
  have HW : Hid (∀ B, B ≤ s → Below B w (w.alloc (.cells #[.int .i64 2, .int .i64 x1, .int .i64 x2, .int .i64 y0, .int .i64 y1, .int .i64 y2, .string y3, .slice p lm lc] 35))) := fun B h => below_none ga (by have := hb.code.lt; omega)
  have HKK : Hid (∀ (X : Nat) (c : Array Value), w.heap[X]? = some (.cells c 35 (0, 0)) → (w.alloc (.cells #[.int .i64 2, .int .i64 x1, .int .i64 x2, .int .i64 y0, .int .i64 y1, .int .i64 y2, .string y3, .slice p lm lc] 35)).heap[X]? = some (.cells c 35 (0, 0))) := fun X c h => (ga.block X (Array.getElem?_eq_some_iff.1 h).1 (by simp)).trans h
  have HXS : Hid ((w.heap.size ≠ s ∧ some w.heap.size ≠ v.ownBlock) ∧ w.heap.size ≠ r ∧ some w.heap.size ≠ u.ownBlock) := ⟨⟨block_not HX.out HB.out.code.block (by decide), row_not HB.out.code.row HX.out (by decide)⟩, block_not HX.out HB.out.ref.block (by decide), row_not HB.out.ref.row HX.out (by decide)⟩
  clear ga
  clear hb
  have HSS : Hid ((w.alloc (.cells #[.int .i64 2, .int .i64 x1, .int .i64 x2, .int .i64 y0, .int .i64 y1, .int .i64 y2, .string y3, (.slice p lm lc)] 35)).cell? ⟨w.heap.size, 1, none⟩ = some (.int .i64 x1) ∧ (w.alloc (.cells #[.int .i64 2, .int .i64 x1, .int .i64 x2, .int .i64 y0, .int .i64 y1, .int .i64 y2, .string y3, (.slice p lm lc)] 35)).cell? ⟨w.heap.size, 7, none⟩ = some (.slice p lm lc)) := ⟨(eight_all HX.out).2.1, (eight_all HX.out).2.2.2.2.2.2.2⟩
  have HS1 : Hid (∀ W, Turns (w.alloc (.cells #[.int .i64 2, .int .i64 x1, .int .i64 x2, .int .i64 y0, .int .i64 y1, .int .i64 y2, .string y3, (.slice p lm lc)] 35)).drew W s v → W.cell? ⟨w.heap.size, 1, none⟩ = some (.int .i64 x1) ∧ W.cell? ⟨w.heap.size, 7, none⟩ = some (.slice p lm lc)) := fun W t => by
    have h := eight_all (leaves t HX.out HXS.out.1.1 HXS.out.1.2)
    exact ⟨h.2.1, h.2.2.2.2.2.2.2⟩
  have HS2 : Hid (∀ W W', Turns (w.alloc (.cells #[.int .i64 2, .int .i64 x1, .int .i64 x2, .int .i64 y0, .int .i64 y1, .int .i64 y2, .string y3, (.slice p lm lc)] 35)).drew W s v → Turns W W' r u → W'.cell? ⟨w.heap.size, 1, none⟩ = some (.int .i64 x1) ∧ W'.cell? ⟨w.heap.size, 7, none⟩ = some (.slice p lm lc)) := fun W W' t t' => by
    have h := eight_all (leaves t' (leaves t HX.out HXS.out.1.1 HXS.out.1.2) HXS.out.2.1 HXS.out.2.2)
    exact ⟨h.2.1, h.2.2.2.2.2.2.2⟩
  go_enter Try.func10, Try.ntmps10
  go_wp2_with fail
  go_region_held3 (fun w' => w'.cell? ⟨w.heap.size, 1, none⟩ = some (.int .i64 x1) ∧ w'.cell? ⟨w.heap.size, 7, none⟩ = some (.slice p lm lc)) (first | exact HSS.out | exact HS1.out _ (by assumption) | exact HS2.out _ _ (by assumption) (by assumption)) (first | (go_at_call 19; refine (cut_any x1 _ HB.out.drew.code).mono ?_; rintro e w3 ⟨v3, rfl, p3, t1, m1⟩) | (go_at_call 27; refine (Rf.cut_any x1 _ (HB.out.drew.one (by assumption))).mono ?_; rintro e w4 ⟨u4, rfl, r4, t2, m2⟩))
  all_goals
    have HE : Hid (Goes w w4 s r) := goes_two (W := (w.alloc (.cells #[.int .i64 2, .int .i64 x1, .int .i64 x2, .int .i64 y0, .int .i64 y1, .int .i64 y2, .string y3, (.slice p lm lc)] 35)).drew) (fun B h => ⟨(HW.out B h).os, (HW.out B h).tape, (HW.out B h).output, (HW.out B h).size, (HW.out B h).block⟩) HKK.out HB.out.drew t1 m1 p3 t2 m2 r4
    clear p3 t1 m1 r4 t2 m2
    generalize Ol.reach base ls.length x1 = g0
    go_wp2
    go_ret
    exact ⟨rfl, HE.out⟩
set_option maxHeartbeats 2000000 in
set_option maxRecDepth 100000 in
theorem does_trim {s r : Nat} {base : Int} {v u : Value} {ls : List Ol.It} (x1 x2 y0 y1 y2 : Int) (y3 : ByteArray) (p : Option Addr) (lm lc : Nat) (w : World) (hb : Both w s r base v u ls) :
    Calls Try.prog 10 #[.pointer (some ⟨s, 0, none⟩), .pointer (some ⟨r, 0, none⟩), .agg #[.int .i64 3, .int .i64 x1, .int .i64 x2, .int .i64 y0, .int .i64 y1, .int .i64 y2, .string y3, .slice p lm lc]] w fun e w' => e = .returned (.bool true) ∧ Goes w w' s r := by
  have ga := World.grownBy_alloc w (.cells #[.int .i64 3, .int .i64 x1, .int .i64 x2, .int .i64 y0, .int .i64 y1, .int .i64 y2, .string y3, .slice p lm lc] 35) none
  have HB : Hid (Both (w.alloc (.cells #[.int .i64 3, .int .i64 x1, .int .i64 x2, .int .i64 y0, .int .i64 y1, .int .i64 y2, .string y3, .slice p lm lc] 35)) s r base v u ls) := hb.still ga
  have HX : Hid ((w.alloc (.cells #[.int .i64 3, .int .i64 x1, .int .i64 x2, .int .i64 y0, .int .i64 y1, .int .i64 y2, .string y3, .slice p lm lc] 35)).heap[w.heap.size]? = some (.cells #[.int .i64 3, .int .i64 x1, .int .i64 x2, .int .i64 y0, .int .i64 y1, .int .i64 y2, .string y3, .slice p lm lc] 35 (0, 0))) := heap_alloc_new _ _
  have HW : Hid (∀ B, B ≤ s → Below B w (w.alloc (.cells #[.int .i64 3, .int .i64 x1, .int .i64 x2, .int .i64 y0, .int .i64 y1, .int .i64 y2, .string y3, .slice p lm lc] 35))) := fun B h => below_none ga (by have := hb.code.lt; omega)
  have HKK : Hid (∀ (X : Nat) (c : Array Value), w.heap[X]? = some (.cells c 35 (0, 0)) → (w.alloc (.cells #[.int .i64 3, .int .i64 x1, .int .i64 x2, .int .i64 y0, .int .i64 y1, .int .i64 y2, .string y3, .slice p lm lc] 35)).heap[X]? = some (.cells c 35 (0, 0))) := fun X c h => (ga.block X (Array.getElem?_eq_some_iff.1 h).1 (by simp)).trans h
  have HXS : Hid ((w.heap.size ≠ s ∧ some w.heap.size ≠ v.ownBlock) ∧ w.heap.size ≠ r ∧ some w.heap.size ≠ u.ownBlock) := ⟨⟨block_not HX.out HB.out.code.block (by decide), row_not HB.out.code.row HX.out (by decide)⟩, block_not HX.out HB.out.ref.block (by decide), row_not HB.out.ref.row HX.out (by decide)⟩
  clear ga
  clear hb
  have HSS : Hid ((w.alloc (.cells #[.int .i64 3, .int .i64 x1, .int .i64 x2, .int .i64 y0, .int .i64 y1, .int .i64 y2, .string y3, (.slice p lm lc)] 35)).cell? ⟨w.heap.size, 1, none⟩ = some (.int .i64 x1) ∧ (w.alloc (.cells #[.int .i64 3, .int .i64 x1, .int .i64 x2, .int .i64 y0, .int .i64 y1, .int .i64 y2, .string y3, (.slice p lm lc)] 35)).cell? ⟨w.heap.size, 7, none⟩ = some (.slice p lm lc)) := ⟨(eight_all HX.out).2.1, (eight_all HX.out).2.2.2.2.2.2.2⟩
  have HS1 : Hid (∀ W, Turns (w.alloc (.cells #[.int .i64 3, .int .i64 x1, .int .i64 x2, .int .i64 y0, .int .i64 y1, .int .i64 y2, .string y3, (.slice p lm lc)] 35)).drew W s v → W.cell? ⟨w.heap.size, 1, none⟩ = some (.int .i64 x1) ∧ W.cell? ⟨w.heap.size, 7, none⟩ = some (.slice p lm lc)) := fun W t => by
    have h := eight_all (leaves t HX.out HXS.out.1.1 HXS.out.1.2)
    exact ⟨h.2.1, h.2.2.2.2.2.2.2⟩
  have HS2 : Hid (∀ W W', Turns (w.alloc (.cells #[.int .i64 3, .int .i64 x1, .int .i64 x2, .int .i64 y0, .int .i64 y1, .int .i64 y2, .string y3, (.slice p lm lc)] 35)).drew W s v → Turns W W' r u → W'.cell? ⟨w.heap.size, 1, none⟩ = some (.int .i64 x1) ∧ W'.cell? ⟨w.heap.size, 7, none⟩ = some (.slice p lm lc)) := fun W W' t t' => by
    have h := eight_all (leaves t' (leaves t HX.out HXS.out.1.1 HXS.out.1.2) HXS.out.2.1 HXS.out.2.2)
    exact ⟨h.2.1, h.2.2.2.2.2.2.2⟩
  go_enter Try.func10, Try.ntmps10
  go_wp2_with fail
  go_region_held3 (fun w' => w'.cell? ⟨w.heap.size, 1, none⟩ = some (.int .i64 x1) ∧ w'.cell? ⟨w.heap.size, 7, none⟩ = some (.slice p lm lc)) (first | exact HSS.out | exact HS1.out _ (by assumption) | exact HS2.out _ _ (by assumption) (by assumption)) (first | (go_at_call 20; refine (trim_any x1 _ HB.out.drew.code).mono ?_; rintro e w3 ⟨v3, rfl, p3, t1, m1⟩) | (go_at_call 28; refine (Rf.trim_any x1 _ (HB.out.drew.one (by assumption))).mono ?_; rintro e w4 ⟨u4, rfl, r4, t2, m2⟩))
  all_goals
    have HE : Hid (Goes w w4 s r) := goes_two (W := (w.alloc (.cells #[.int .i64 3, .int .i64 x1, .int .i64 x2, .int .i64 y0, .int .i64 y1, .int .i64 y2, .string y3, (.slice p lm lc)] 35)).drew) (fun B h => ⟨(HW.out B h).os, (HW.out B h).tape, (HW.out B h).output, (HW.out B h).size, (HW.out B h).block⟩) HKK.out HB.out.drew t1 m1 p3 t2 m2 r4
    clear p3 t1 m1 r4 t2 m2
    generalize Ol.trimErr base ls.length x1 = g0
    go_wp2
    go_ret
    exact ⟨rfl, HE.out⟩
set_option maxHeartbeats 2000000 in
set_option maxRecDepth 100000 in
theorem does_put {s r : Nat} {base : Int} {v u : Value} {ls : List Ol.It} (x1 x2 y0 y1 y2 : Int) (y3 : ByteArray) (p : Option Addr) (lm lc : Nat) (w : World) (hb : Both w s r base v u ls) (xs : List Ol.It) (B0 : Nat) (hs : B0 ≤ s) (hx : ∀ W, Below B0 w W → ItemsAt W (.slice p lm lc) xs) (hsz : xs.length ≤ 3518437208880) :
    Calls Try.prog 10 #[.pointer (some ⟨s, 0, none⟩), .pointer (some ⟨r, 0, none⟩), .agg #[.int .i64 4, .int .i64 x1, .int .i64 x2, .int .i64 y0, .int .i64 y1, .int .i64 y2, .string y3, .slice p lm lc]] w fun e w' => e = .returned (.bool true) ∧ Goes w w' s r := by
  have ga := World.grownBy_alloc w (.cells #[.int .i64 4, .int .i64 x1, .int .i64 x2, .int .i64 y0, .int .i64 y1, .int .i64 y2, .string y3, .slice p lm lc] 35) none
  have HB : Hid (Both (w.alloc (.cells #[.int .i64 4, .int .i64 x1, .int .i64 x2, .int .i64 y0, .int .i64 y1, .int .i64 y2, .string y3, .slice p lm lc] 35)) s r base v u ls) := hb.still ga
  have HX : Hid ((w.alloc (.cells #[.int .i64 4, .int .i64 x1, .int .i64 x2, .int .i64 y0, .int .i64 y1, .int .i64 y2, .string y3, .slice p lm lc] 35)).heap[w.heap.size]? = some (.cells #[.int .i64 4, .int .i64 x1, .int .i64 x2, .int .i64 y0, .int .i64 y1, .int .i64 y2, .string y3, .slice p lm lc] 35 (0, 0))) := heap_alloc_new _ _
  have HW : Hid (∀ B, B ≤ s → Below B w (w.alloc (.cells #[.int .i64 4, .int .i64 x1, .int .i64 x2, .int .i64 y0, .int .i64 y1, .int .i64 y2, .string y3, .slice p lm lc] 35))) := fun B h => below_none ga (by have := hb.code.lt; omega)
  have HKK : Hid (∀ (X : Nat) (c : Array Value), w.heap[X]? = some (.cells c 35 (0, 0)) → (w.alloc (.cells #[.int .i64 4, .int .i64 x1, .int .i64 x2, .int .i64 y0, .int .i64 y1, .int .i64 y2, .string y3, .slice p lm lc] 35)).heap[X]? = some (.cells c 35 (0, 0))) := fun X c h => (ga.block X (Array.getElem?_eq_some_iff.1 h).1 (by simp)).trans h
  have HXS : Hid ((w.heap.size ≠ s ∧ some w.heap.size ≠ v.ownBlock) ∧ w.heap.size ≠ r ∧ some w.heap.size ≠ u.ownBlock) := ⟨⟨block_not HX.out HB.out.code.block (by decide), row_not HB.out.code.row HX.out (by decide)⟩, block_not HX.out HB.out.ref.block (by decide), row_not HB.out.ref.row HX.out (by decide)⟩
  clear ga
  have HSZ : Hid (xs.length ≤ 3518437208880) := hsz
  have HXA : Hid (ItemsAt (w.alloc (.cells #[.int .i64 4, .int .i64 x1, .int .i64 x2, .int .i64 y0, .int .i64 y1, .int .i64 y2, .string y3, (.slice p lm lc)] 35)).drew (.slice p lm lc) xs) := hx _ ⟨(HW.out B0 hs).os, (HW.out B0 hs).tape, (HW.out B0 hs).output, (HW.out B0 hs).size, (HW.out B0 hs).block⟩
  have HXB : Hid (∀ W, Turns (w.alloc (.cells #[.int .i64 4, .int .i64 x1, .int .i64 x2, .int .i64 y0, .int .i64 y1, .int .i64 y2, .string y3, (.slice p lm lc)] 35)).drew W s v → ItemsAt W (.slice p lm lc) xs) := fun W t => hx _ ((HW.out B0 hs).trans (HB.out.code.below (w' := W) ⟨t.os, t.tape, t.output, t.size, t.block⟩ hs))
  clear hx hsz hs
  clear hb
  have HSS : Hid ((w.alloc (.cells #[.int .i64 4, .int .i64 x1, .int .i64 x2, .int .i64 y0, .int .i64 y1, .int .i64 y2, .string y3, (.slice p lm lc)] 35)).cell? ⟨w.heap.size, 1, none⟩ = some (.int .i64 x1) ∧ (w.alloc (.cells #[.int .i64 4, .int .i64 x1, .int .i64 x2, .int .i64 y0, .int .i64 y1, .int .i64 y2, .string y3, (.slice p lm lc)] 35)).cell? ⟨w.heap.size, 7, none⟩ = some (.slice p lm lc)) := ⟨(eight_all HX.out).2.1, (eight_all HX.out).2.2.2.2.2.2.2⟩
  have HS1 : Hid (∀ W, Turns (w.alloc (.cells #[.int .i64 4, .int .i64 x1, .int .i64 x2, .int .i64 y0, .int .i64 y1, .int .i64 y2, .string y3, (.slice p lm lc)] 35)).drew W s v → W.cell? ⟨w.heap.size, 1, none⟩ = some (.int .i64 x1) ∧ W.cell? ⟨w.heap.size, 7, none⟩ = some (.slice p lm lc)) := fun W t => by
    have h := eight_all (leaves t HX.out HXS.out.1.1 HXS.out.1.2)
    exact ⟨h.2.1, h.2.2.2.2.2.2.2⟩
  have HS2 : Hid (∀ W W', Turns (w.alloc (.cells #[.int .i64 4, .int .i64 x1, .int .i64 x2, .int .i64 y0, .int .i64 y1, .int .i64 y2, .string y3, (.slice p lm lc)] 35)).drew W s v → Turns W W' r u → W'.cell? ⟨w.heap.size, 1, none⟩ = some (.int .i64 x1) ∧ W'.cell? ⟨w.heap.size, 7, none⟩ = some (.slice p lm lc)) := fun W W' t t' => by
    have h := eight_all (leaves t' (leaves t HX.out HXS.out.1.1 HXS.out.1.2) HXS.out.2.1 HXS.out.2.2)
    exact ⟨h.2.1, h.2.2.2.2.2.2.2⟩
  go_enter Try.func10, Try.ntmps10
  go_wp2_with fail
  go_region_held3 (fun w' => w'.cell? ⟨w.heap.size, 1, none⟩ = some (.int .i64 x1) ∧ w'.cell? ⟨w.heap.size, 7, none⟩ = some (.slice p lm lc)) (first | exact HSS.out | exact HS1.out _ (by assumption) | exact HS2.out _ _ (by assumption) (by assumption)) (first | (go_at_call 22; refine (put_any x1 _ xs _ HB.out.drew.code HXA.out HSZ.out).mono ?_; rintro e w3 ⟨v3, rfl, p3, t1, m1⟩) | (go_at_call 29; refine (Rf.put_any x1 _ xs _ (HB.out.drew.one (by assumption)) (HXB.out _ (by assumption)) HSZ.out).mono ?_; rintro e w4 ⟨u4, rfl, r4, t2, m2⟩))
  all_goals
    have HE : Hid (Goes w w4 s r) := goes_two (W := (w.alloc (.cells #[.int .i64 4, .int .i64 x1, .int .i64 x2, .int .i64 y0, .int .i64 y1, .int .i64 y2, .string y3, (.slice p lm lc)] 35)).drew) (fun B h => ⟨(HW.out B h).os, (HW.out B h).tape, (HW.out B h).output, (HW.out B h).size, (HW.out B h).block⟩) HKK.out HB.out.drew t1 m1 p3 t2 m2 r4
    clear p3 t1 m1 r4 t2 m2
    generalize Ol.putErr base ls x1 xs = g0
    go_wp2
    go_ret
    exact ⟨rfl, HE.out⟩
set_option maxHeartbeats 2000000 in
set_option maxRecDepth 100000 in
theorem does_look {s r : Nat} {base : Int} {v u : Value} {ls : List Ol.It} (x0 x1 x2 y0 y1 y2 : Int) (y3 : ByteArray) (p : Option Addr) (lm lc : Nat) (w : World) (hb : Both w s r base v u ls) (hm : x2 ≤ 9223372036854775807) (h0 : x0 ≠ 0) (h1 : x0 ≠ 1) (h2 : x0 ≠ 2) (h3 : x0 ≠ 3) (h4 : x0 ≠ 4) :
    Calls Try.prog 10 #[.pointer (some ⟨s, 0, none⟩), .pointer (some ⟨r, 0, none⟩), .agg #[.int .i64 x0, .int .i64 x1, .int .i64 x2, .int .i64 y0, .int .i64 y1, .int .i64 y2, .string y3, .slice p lm lc]] w fun e w' => e = .returned (.bool true) ∧ Goes w w' s r := by
  have ga := World.grownBy_alloc w (.cells #[.int .i64 x0, .int .i64 x1, .int .i64 x2, .int .i64 y0, .int .i64 y1, .int .i64 y2, .string y3, .slice p lm lc] 35) none
  have HB : Hid (Both (w.alloc (.cells #[.int .i64 x0, .int .i64 x1, .int .i64 x2, .int .i64 y0, .int .i64 y1, .int .i64 y2, .string y3, .slice p lm lc] 35)) s r base v u ls) := hb.still ga
  have HX : Hid ((w.alloc (.cells #[.int .i64 x0, .int .i64 x1, .int .i64 x2, .int .i64 y0, .int .i64 y1, .int .i64 y2, .string y3, .slice p lm lc] 35)).heap[w.heap.size]? = some (.cells #[.int .i64 x0, .int .i64 x1, .int .i64 x2, .int .i64 y0, .int .i64 y1, .int .i64 y2, .string y3, .slice p lm lc] 35 (0, 0))) := heap_alloc_new _ _
  have HW : Hid (∀ B, B ≤ s → Below B w (w.alloc (.cells #[.int .i64 x0, .int .i64 x1, .int .i64 x2, .int .i64 y0, .int .i64 y1, .int .i64 y2, .string y3, .slice p lm lc] 35))) := fun B h => below_none ga (by have := hb.code.lt; omega)
  have HKK : Hid (∀ (X : Nat) (c : Array Value), w.heap[X]? = some (.cells c 35 (0, 0)) → (w.alloc (.cells #[.int .i64 x0, .int .i64 x1, .int .i64 x2, .int .i64 y0, .int .i64 y1, .int .i64 y2, .string y3, .slice p lm lc] 35)).heap[X]? = some (.cells c 35 (0, 0))) := fun X c h => (ga.block X (Array.getElem?_eq_some_iff.1 h).1 (by simp)).trans h
  have HXS : Hid ((w.heap.size ≠ s ∧ some w.heap.size ≠ v.ownBlock) ∧ w.heap.size ≠ r ∧ some w.heap.size ≠ u.ownBlock) := ⟨⟨block_not HX.out HB.out.code.block (by decide), row_not HB.out.code.row HX.out (by decide)⟩, block_not HX.out HB.out.ref.block (by decide), row_not HB.out.ref.row HX.out (by decide)⟩
  have HMM : Hid (x2 ≤ 9223372036854775807) := hm
  clear hb ga hm
  go_enter Try.func10, Try.ntmps10
  go_wp2_with fail
  refine (behind_any x1 x2 _ HB.out.code HMM.out).mono ?_
  rintro e w2 ⟨a2, rfl, hi2, hg2⟩
  obtain ⟨b0, b1, b2, b3, b4, b5, b6, b7⟩ := eight_all ((hg2.block w.heap.size (Array.getElem?_eq_some_iff.1 HX.out).1 (by simp)).trans HX.out)
  have H2 : Hid (ItemsAt w2 a2 (Ol.behindOf base ls x1 x2) ∧ (w.alloc (.cells #[.int .i64 x0, .int .i64 x1, .int .i64 x2, .int .i64 y0, .int .i64 y1, .int .i64 y2, .string y3, (.slice p lm lc)] 35)).grownBy w2 none) := ⟨hi2, hg2⟩
  obtain ⟨pa, ca, rfl, _⟩ := hi2.open
  generalize (Ol.behindOf base ls x1 x2).length = na at H2 ⊢
  clear hi2 hg2
  go_wp2_with fail
  refine (Rf.behind_any x1 x2 _ (HB.out.ref.still H2.out.2)).mono ?_
  rintro e w3 ⟨a3, rfl, hi3, hg3⟩
  have H3 : Hid ((ItemsAt w3 (.slice pa na ca) (Ol.behindOf base ls x1 x2) ∧ ItemsAt w3 a3 (Ol.behindOf base ls x1 x2)) ∧ (w.alloc (.cells #[.int .i64 x0, .int .i64 x1, .int .i64 x2, .int .i64 y0, .int .i64 y1, .int .i64 y2, .string y3, (.slice p lm lc)] 35)).grownBy w3 none) := ⟨⟨H2.out.1.below (below_none hg3 (Nat.le_refl _)) (Nat.le_refl _), hi3⟩, grown_trans H2.out.2 hg3⟩
  clear hi3 hg3 b0 b1 b2 b3 b4 b5 b6 b7
  generalize Ol.behindErr base ls.length x1 x2 = g0
  go_wp2_with fail
  refine (items_same _ _ _ _ H3.out.1.1 H3.out.1.2).mono ?_
  rintro e w4 ⟨rfl, hg4⟩
  have HE : Hid (Goes w w4 s r) := ⟨base, v, u, ls, HB.out.still (grown_trans H3.out.2 hg4), fun B hs _ => (HW.out B hs).trans (below_none (grown_trans H3.out.2 hg4) (by have := HB.out.code.lt; omega)), fun X c h => ((grown_trans H3.out.2 hg4).block X (Array.getElem?_eq_some_iff.1 (HKK.out X c h)).1 (by simp)).trans (HKK.out X c h)⟩
  clear hg4
  go_wp2
  go_ret
  exact ⟨rfl, HE.out⟩
/-- A step, done to both. -/
theorem does_any {s r : Nat} {base : Int} {v u : Value} {ls : List Ol.It} (x0 x1 x2 y0 y1 y2 : Int) (y3 : ByteArray) (p : Option Addr) (lm lc : Nat) (w : World) (hb : Both w s r base v u ls) (xs : List Ol.It) (B0 : Nat) (hs : B0 ≤ s) (hx : ∀ W, Below B0 w W → ItemsAt W (.slice p lm lc) xs) (hsz : xs.length ≤ 3518437208880) (hm : x2 ≤ 9223372036854775807) :
    Calls Try.prog 10 #[.pointer (some ⟨s, 0, none⟩), .pointer (some ⟨r, 0, none⟩), .agg #[.int .i64 x0, .int .i64 x1, .int .i64 x2, .int .i64 y0, .int .i64 y1, .int .i64 y2, .string y3, .slice p lm lc]] w fun e w' => e = .returned (.bool true) ∧ Goes w w' s r := by
  by_cases h0 : x0 = 0
  · subst h0
    exact does_add0 x1 x2 y0 y1 y2 y3 p lm lc w hb
  by_cases h1 : x0 = 1
  · subst h1
    exact does_add1 x1 x2 y0 y1 y2 y3 p lm lc w hb
  by_cases h2 : x0 = 2
  · subst h2
    exact does_cut x1 x2 y0 y1 y2 y3 p lm lc w hb
  by_cases h3 : x0 = 3
  · subst h3
    exact does_trim x1 x2 y0 y1 y2 y3 p lm lc w hb
  by_cases h4 : x0 = 4
  · subst h4
    exact does_put x1 x2 y0 y1 y2 y3 p lm lc w hb xs B0 hs hx hsz
  exact does_look x0 x1 x2 y0 y1 y2 y3 p lm lc w hb hm h0 h1 h2 h3 h4
end Go.Proofs.Ytbjcleeiobaegaa
