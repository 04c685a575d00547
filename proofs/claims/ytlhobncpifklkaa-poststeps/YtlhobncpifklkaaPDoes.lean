/-
  The law's does: a step done to a post and to the reference's: the same answers, and both stand for one list again.
-/
import Derived.Test.YtlhobncpifklkaaPBoth
import Derived.Deep.RegionHeld3
namespace Go.Proofs.Ytlhobncpifklkaa
open Go.RowKit

/-- A post and the reference's stand for one list again; nothing below them has turned. -/
def Goes (w w' : World) (s r : Nat) (nodes last : Int) : Prop :=
  ∃ last' v' u' ls', PostAt w' s nodes last' v' ls' ∧ Rf.PostAt w' r nodes last' u' ls' ∧ last' ≤ last + 1 ∧ ∀ B, B ≤ s → B ≤ r → Below B w w'
theorem Goes.grown {w w' w'' : World} {s r : Nat} {nodes last : Int} (h : Goes w w' s r nodes last) (hg : w'.grownBy w'' none) : Goes w w'' s r nodes last := by
  obtain ⟨l, v, u, ls, h1, h2, h3, h4⟩ := h
  exact ⟨l, v, u, ls, h1.still hg, h2.still hg, h3, fun B hs hr => (h4 B hs hr).trans (below_none hg (by have := h1.lt; omega))⟩
theorem goes_two {w W w2 w3 : World} {s r : Nat} {nodes last l' : Int} {v v' u u' : Value} {ls ls' : List Po.Lt} (hp : PostAt W s nodes last v ls) (hr : Rf.PostAt W r nodes last u ls) (hB : ∀ B, B ≤ s → Below B w W) (t1 : Turns W w2 s v) (p2 : PostAt w2 s nodes l' v' ls') (t2 : Turns w2 w3 r u) (r3 : Rf.PostAt w3 r nodes l' u' ls') (hl : l' ≤ last + 1) : Goes w w3 s r nodes last := by
  have r2 := ref_turned hr hp t1
  exact ⟨l', v', u', ls', post_turned p2 r2 t2, r3, hl, fun B hs hr' => ((hB B hs).trans (hp.below t1 hs)).trans (r2.below t2 hr')⟩
theorem goes_two' {w W w2 w3 : World} {s r : Nat} {nodes last l' : Int} {v v' u u' : Value} {ls ls' : List Po.Lt} (hp : PostAt W s nodes last v ls) (hr : Rf.PostAt W r nodes last u ls) (hB : ∀ B, B ≤ s → Below B w W) (t1 : Turns W w2 r u) (r2 : Rf.PostAt w2 r nodes l' u' ls') (t2 : Turns w2 w3 s v) (p3 : PostAt w3 s nodes l' v' ls') (hl : l' ≤ last + 1) : Goes w w3 s r nodes last := by
  have p2 := post_turned hp hr t1
  exact ⟨l', v', u', ls', p3, ref_turned r2 p2 t2, hl, fun B hs hr' => ((hB B hs).trans (hr.below t1 hr')).trans (p2.below t2 hs)⟩
theorem sendLast_le (nodes last : Int) (ls : List Po.Lt) (f t : Int) (b : ByteArray) : Po.sendLast nodes last ls f t b ≤ last + 1 := by
  unfold Po.sendLast
  split <;> omega
theorem againLast_le (last : Int) (ls : List Po.Lt) (n : Int) : Po.againLast last ls n ≤ last + 1 := by
  unfold Po.againLast
  split <;> omega

set_option maxHeartbeats 2000000 in
set_option maxRecDepth 100000 in
theorem does_send0 {s r : Nat} {nodes last : Int} {v u : Value} {ls : List Po.Lt} (x1 x2 x3 : Int) (x4 : ByteArray) (w : World) (hp : PostAt w s nodes last v ls) (hr : Rf.PostAt w r nodes last u ls) (hlast : last < 4611686018427387904) :
    Calls Try.prog 25 #[.pointer (some ⟨s, 0, none⟩), .pointer (some ⟨r, 0, none⟩), .agg #[.int .i64 0, .int .i64 x1, .int .i64 x2, .int .i64 x3, .string x4]] w fun e w' => e = .returned (.bool true) ∧ Goes w w' s r nodes last := by
  have ga := World.grownBy_alloc w (.cells #[.int .i64 0, .int .i64 x1, .int .i64 x2, .int .i64 x3, .string x4] 66) none
  have HP : Hid (PostAt (w.alloc (.cells #[.int .i64 0, .int .i64 x1, .int .i64 x2, .int .i64 x3, .string x4] 66)) s nodes last v ls) := hp.still ga
  have HR : Hid (Rf.PostAt (w.alloc (.cells #[.int .i64 0, .int .i64 x1, .int .i64 x2, .int .i64 x3, .string x4] 66)) r nodes last u ls) := hr.still ga
  have HX : Hid ((w.alloc (.cells #[.int .i64 0, .int .i64 x1, .int .i64 x2, .int .i64 x3, .string x4] 66)).heap[w.heap.size]? = some (.cells #[.int .i64 0, .int .i64 x1, .int .i64 x2, .int .i64 x3, .string x4] 66 (0, 0))) := heap_alloc_new _ _
  have HB : Hid (∀ B, B ≤ s → Below B w (w.alloc (.cells #[.int .i64 0, .int .i64 x1, .int .i64 x2, .int .i64 x3, .string x4] 66))) := fun B h => below_none ga (by have := hp.lt; omega)
  have HLA : Hid (last < 4611686018427387904) := hlast
  clear hp hr ga hlast
  go_enter Try.func25, Try.ntmps25
  go_wp2_with fail
  refine (send_any x1 x2 x4 _ HP.out HLA.out).mono ?_
  rintro e w2 ⟨v2, rfl, p2, t1, m1⟩
  have r2 := ref_turned HR.out HP.out t1
  obtain ⟨b0, b1, b2, b3, b4⟩ := five_of (post_leaves HP.out t1 HX.out (by decide) (by decide))
  have H2 : Hid (PostAt w2 s nodes _ v2 _ ∧ Turns _ w2 s v ∧ Rf.PostAt w2 r nodes last u ls) := ⟨p2, t1, r2⟩
  clear p2 t1 m1 r2
  go_wp2_with fail
  refine (Rf.send_any x1 x2 x4 _ H2.out.2.2 HLA.out).mono ?_
  rintro e w3 ⟨u3, rfl, r3, t2, m2⟩
  have HE : Hid (Goes w w3 s r nodes last) := goes_two HP.out HR.out HB.out H2.out.2.1 H2.out.1 t2 r3 (sendLast_le _ _ _ _ _ _)
  clear r3 t2 m2 b0 b1 b2 b3 b4
  generalize Po.sendNum nodes last ls x1 x2 x4 = g0
  generalize Po.sendErr nodes ls x1 x2 x4 = g1
  go_wp2
  go_ret
  exact ⟨rfl, HE.out⟩
set_option maxHeartbeats 2000000 in
set_option maxRecDepth 100000 in
theorem does_send1 {s r : Nat} {nodes last : Int} {v u : Value} {ls : List Po.Lt} (x1 x2 x3 : Int) (x4 : ByteArray) (w : World) (hp : PostAt w s nodes last v ls) (hr : Rf.PostAt w r nodes last u ls) (hlast : last < 4611686018427387904) :
    Calls Try.prog 25 #[.pointer (some ⟨s, 0, none⟩), .pointer (some ⟨r, 0, none⟩), .agg #[.int .i64 1, .int .i64 x1, .int .i64 x2, .int .i64 x3, .string x4]] w fun e w' => e = .returned (.bool true) ∧ Goes w w' s r nodes last := by
  have ga := World.grownBy_alloc w (.cells #[.int .i64 1, .int .i64 x1, .int .i64 x2, .int .i64 x3, .string x4] 66) none
  have HP : Hid (PostAt (w.alloc (.cells #[.int .i64 1, .int .i64 x1, .int .i64 x2, .int .i64 x3, .string x4] 66)) s nodes last v ls) := hp.still ga
  have HR : Hid (Rf.PostAt (w.alloc (.cells #[.int .i64 1, .int .i64 x1, .int .i64 x2, .int .i64 x3, .string x4] 66)) r nodes last u ls) := hr.still ga
  have HX : Hid ((w.alloc (.cells #[.int .i64 1, .int .i64 x1, .int .i64 x2, .int .i64 x3, .string x4] 66)).heap[w.heap.size]? = some (.cells #[.int .i64 1, .int .i64 x1, .int .i64 x2, .int .i64 x3, .string x4] 66 (0, 0))) := heap_alloc_new _ _
  have HB : Hid (∀ B, B ≤ s → Below B w (w.alloc (.cells #[.int .i64 1, .int .i64 x1, .int .i64 x2, .int .i64 x3, .string x4] 66))) := fun B h => below_none ga (by have := hp.lt; omega)
  have HLA : Hid (last < 4611686018427387904) := hlast
  clear hp hr ga hlast
  go_enter Try.func25, Try.ntmps25
  go_wp2_with fail
  refine (send_any x1 x2 x4 _ HP.out HLA.out).mono ?_
  rintro e w2 ⟨v2, rfl, p2, t1, m1⟩
  have r2 := ref_turned HR.out HP.out t1
  obtain ⟨b0, b1, b2, b3, b4⟩ := five_of (post_leaves HP.out t1 HX.out (by decide) (by decide))
  have H2 : Hid (PostAt w2 s nodes _ v2 _ ∧ Turns _ w2 s v ∧ Rf.PostAt w2 r nodes last u ls) := ⟨p2, t1, r2⟩
  clear p2 t1 m1 r2
  go_wp2_with fail
  refine (Rf.send_any x1 x2 x4 _ H2.out.2.2 HLA.out).mono ?_
  rintro e w3 ⟨u3, rfl, r3, t2, m2⟩
  have HE : Hid (Goes w w3 s r nodes last) := goes_two HP.out HR.out HB.out H2.out.2.1 H2.out.1 t2 r3 (sendLast_le _ _ _ _ _ _)
  clear r3 t2 m2 b0 b1 b2 b3 b4
  generalize Po.sendNum nodes last ls x1 x2 x4 = g0
  generalize Po.sendErr nodes ls x1 x2 x4 = g1
  go_wp2
  go_ret
  exact ⟨rfl, HE.out⟩
set_option maxHeartbeats 2000000 in
set_option maxRecDepth 100000 in
theorem does_take {s r : Nat} {nodes last : Int} {v u : Value} {ls : List Po.Lt} (x1 x2 x3 : Int) (x4 : ByteArray) (w : World) (hp : PostAt w s nodes last v ls) (hr : Rf.PostAt w r nodes last u ls) (hlast : last < 4611686018427387904) :
    Calls Try.prog 25 #[.pointer (some ⟨s, 0, none⟩), .pointer (some ⟨r, 0, none⟩), .agg #[.int .i64 2, .int .i64 x1, .int .i64 x2, .int .i64 x3, .string x4]] w fun e w' => e = .returned (.bool true) ∧ Goes w w' s r nodes last := by
  have ga := World.grownBy_alloc w (.cells #[.int .i64 2, .int .i64 x1, .int .i64 x2, .int .i64 x3, .string x4] 66) none
  have HP : Hid (PostAt (w.alloc (.cells #[.int .i64 2, .int .i64 x1, .int .i64 x2, .int .i64 x3, .string x4] 66)) s nodes last v ls) := hp.still ga
  have HR : Hid (Rf.PostAt (w.alloc (.cells #[.int .i64 2, .int .i64 x1, .int .i64 x2, .int .i64 x3, .string x4] 66)) r nodes last u ls) := hr.still ga
  have HX : Hid ((w.alloc (.cells #[.int .i64 2, .int .i64 x1, .int .i64 x2, .int .i64 x3, .string x4] 66)).heap[w.heap.size]? = some (.cells #[.int .i64 2, .int .i64 x1, .int .i64 x2, .int .i64 x3, .string x4] 66 (0, 0))) := heap_alloc_new _ _
  have HB : Hid (∀ B, B ≤ s → Below B w (w.alloc (.cells #[.int .i64 2, .int .i64 x1, .int .i64 x2, .int .i64 x3, .string x4] 66))) := fun B h => below_none ga (by have := hp.lt; omega)
  have HLA : Hid (last < 4611686018427387904) := hlast
  clear hp hr ga hlast
  go_enter Try.func25, Try.ntmps25
  go_wp2_with fail
  refine (take_any x3 _ HP.out).mono ?_
  rintro e w2 ⟨v2, rfl, p2, t1, m1⟩
  obtain ⟨y, hy⟩ : ∃ y, (Po.get ls x3).getD Po.d0 = y := ⟨_, rfl⟩
  have HY : Hid ((Po.get ls x3).getD Po.d0 = y) := hy
  rw [hy]
  clear hy
  obtain ⟨y0, y1, y2, y3⟩ := y
  have ga := World.grownBy_alloc w2 (.cells #[.int .i64 y0, .int .i64 y1, .int .i64 y2, .string y3] 88) none
  have hX2 := post_leaves HP.out t1 HX.out (by decide) (by decide)
  have HX3 : Hid ((w2.alloc (.cells #[.int .i64 y0, .int .i64 y1, .int .i64 y2, .string y3] 88)).heap[w.heap.size]? = some (.cells #[.int .i64 2, .int .i64 x1, .int .i64 x2, .int .i64 x3, .string x4] 66 (0, 0))) := (ga.block w.heap.size (Array.getElem?_eq_some_iff.1 hX2).1 (by simp)).trans hX2
  have HA3 : Hid ((w2.alloc (.cells #[.int .i64 y0, .int .i64 y1, .int .i64 y2, .string y3] 88)).heap[w2.heap.size]? = some (.cells #[.int .i64 y0, .int .i64 y1, .int .i64 y2, .string y3] 88 (0, 0))) := heap_alloc_new _ _
  have HT1 : Hid (Turns (w.alloc (.cells #[.int .i64 2, .int .i64 x1, .int .i64 x2, .int .i64 x3, .string x4] 66)) (w2.alloc (.cells #[.int .i64 y0, .int .i64 y1, .int .i64 y2, .string y3] 88)) s v) := t1.trans m1 (.of_grown ga)
  have HP2 : Hid (PostAt (w2.alloc (.cells #[.int .i64 y0, .int .i64 y1, .int .i64 y2, .string y3] 88)) s nodes last v2 (Po.drop ls x3)) := p2.still ga
  have HR2 : Hid (Rf.PostAt (w2.alloc (.cells #[.int .i64 y0, .int .i64 y1, .int .i64 y2, .string y3] 88)) r nodes last u ls) := ref_turned HR.out HP.out HT1.out
  unfold letter
  simp only
  clear p2 t1 m1 ga hX2
  go_upto_region 9 with fail
  generalize w2.alloc (.cells #[.int .i64 y0, .int .i64 y1, .int .i64 y2, .string y3] 88) = w3 at HX3 HT1 HR2 HP2 HA3 ⊢
  generalize w2.heap.size = A at HA3 ⊢
  obtain ⟨b0, b1, b2, b3, b4⟩ := five_of HX3.out
  go_wp2_with fail
  refine (Rf.take_any x3 _ HR2.out).mono ?_
  rintro e w4 ⟨u4, rfl, r4, t2, m2⟩
  rw [HY.out]
  have HE0 : Hid (Goes w w4 s r nodes last) := goes_two HP.out HR.out HB.out HT1.out HP2.out t2 r4 (by omega)
  have hA4 : w4.heap[A]? = some (.cells #[.int .i64 y0, .int .i64 y1, .int .i64 y2, .string y3] 88 (0, 0)) := ref_leaves HR2.out t2 HA3.out (by decide) (by decide)
  have gb := World.grownBy_alloc w4 (.cells #[.int .i64 y0, .int .i64 y1, .int .i64 y2, .string y3] 72) none
  have HE : Hid (Goes w (w4.alloc (.cells #[.int .i64 y0, .int .i64 y1, .int .i64 y2, .string y3] 72)) s r nodes last) := HE0.out.grown gb
  have HA : Hid ((w4.alloc (.cells #[.int .i64 y0, .int .i64 y1, .int .i64 y2, .string y3] 72)).heap[A]? = some (.cells #[.int .i64 y0, .int .i64 y1, .int .i64 y2, .string y3] 88 (0, 0))) := (gb.block A (Array.getElem?_eq_some_iff.1 hA4).1 (by simp)).trans hA4
  have HD : Hid ((w4.alloc (.cells #[.int .i64 y0, .int .i64 y1, .int .i64 y2, .string y3] 72)).heap[w4.heap.size]? = some (.cells #[.int .i64 y0, .int .i64 y1, .int .i64 y2, .string y3] 72 (0, 0))) := heap_alloc_new _ _
  unfold letter
  simp only
  clear r4 t2 m2 b0 b1 b2 b3 b4 gb hA4 HE0
  generalize seeErr (Po.get ls x3) = g0
  go_upto_region 10 with fail
  generalize w4.alloc (.cells #[.int .i64 y0, .int .i64 y1, .int .i64 y2, .string y3] 72) = w9 at HE HA HD ⊢
  generalize w4.heap.size = D at HD ⊢
  have hcA : ∀ p : Grw w9, p.out.cell? ⟨A, 0, none⟩ = some (.int .i64 y0) := fun p => p.grown.cell (four_of HA.out).1.1 (by simp)
  have hcB : ∀ p : Grw w9, p.out.cell? ⟨A, 1, none⟩ = some (.int .i64 y1) := fun p => p.grown.cell (four_of HA.out).1.2.1 (by simp)
  have hcC : ∀ p : Grw w9, p.out.cell? ⟨A, 2, none⟩ = some (.int .i64 y2) := fun p => p.grown.cell (four_of HA.out).1.2.2.1 (by simp)
  have hcD : ∀ p : Grw w9, p.out.cell? ⟨A, 3, none⟩ = some (.string y3) := fun p => p.grown.cell (four_of HA.out).1.2.2.2 (by simp)
  have hdA : ∀ p : Grw w9, p.out.cell? ⟨D, 0, none⟩ = some (.int .i64 y0) := fun p => p.grown.cell (four_of HD.out).1.1 (by simp)
  have hdB : ∀ p : Grw w9, p.out.cell? ⟨D, 1, none⟩ = some (.int .i64 y1) := fun p => p.grown.cell (four_of HD.out).1.2.1 (by simp)
  have hdC : ∀ p : Grw w9, p.out.cell? ⟨D, 2, none⟩ = some (.int .i64 y2) := fun p => p.grown.cell (four_of HD.out).1.2.2.1 (by simp)
  have hdD : ∀ p : Grw w9, p.out.cell? ⟨D, 3, none⟩ = some (.string y3) := fun p => p.grown.cell (four_of HD.out).1.2.2.2 (by simp)
  have heq : ∀ W, (binOp .eql 72 (.agg #[.int .i64 y0, .int .i64 y1, .int .i64 y2, .string y3]) (.agg #[.int .i64 y0, .int .i64 y1, .int .i64 y2, .string y3])).run Try.prog W = .ok (.bool true) W := fun W => ref_eql (y0, y1, y2, y3) W
  have hgu := guard72
  have hne9 : Nonempty (Grw w9) := grw_some w9
  refine wp_region_grw (by kernel_rfl) (by kernel_rfl) ?_
  repeat (go_big_quiet_step (first | (go_at_call 37; refine calls_grw (Grw.grown _) (ref_four y0 y1 y2 y3 _))))
  refine wpQuiet_nil ?_
  intro wq hwq
  have hgq : w9.grownBy wq none := by
    obtain ⟨p, rfl⟩ := hwq
    exact p.grown
  have HQ : Hid (Goes w wq s r nodes last) := HE.out.grown hgq
  clear hgu hgq hwq hcA hcB hcC hcD hdA hdB hdC hdD heq
  go_wp2
  go_ret
  exact ⟨rfl, HQ.out⟩
set_option maxHeartbeats 2000000 in
set_option maxRecDepth 100000 in
theorem does_lose {s r : Nat} {nodes last : Int} {v u : Value} {ls : List Po.Lt} (x1 x2 x3 : Int) (x4 : ByteArray) (w : World) (hp : PostAt w s nodes last v ls) (hr : Rf.PostAt w r nodes last u ls) (hlast : last < 4611686018427387904) :
    Calls Try.prog 25 #[.pointer (some ⟨s, 0, none⟩), .pointer (some ⟨r, 0, none⟩), .agg #[.int .i64 3, .int .i64 x1, .int .i64 x2, .int .i64 x3, .string x4]] w fun e w' => e = .returned (.bool true) ∧ Goes w w' s r nodes last := by
  have ga := World.grownBy_alloc w (.cells #[.int .i64 3, .int .i64 x1, .int .i64 x2, .int .i64 x3, .string x4] 66) none
  have HP : Hid (PostAt (w.alloc (.cells #[.int .i64 3, .int .i64 x1, .int .i64 x2, .int .i64 x3, .string x4] 66)) s nodes last v ls) := hp.still ga
  have HR : Hid (Rf.PostAt (w.alloc (.cells #[.int .i64 3, .int .i64 x1, .int .i64 x2, .int .i64 x3, .string x4] 66)) r nodes last u ls) := hr.still ga
  have HX : Hid ((w.alloc (.cells #[.int .i64 3, .int .i64 x1, .int .i64 x2, .int .i64 x3, .string x4] 66)).heap[w.heap.size]? = some (.cells #[.int .i64 3, .int .i64 x1, .int .i64 x2, .int .i64 x3, .string x4] 66 (0, 0))) := heap_alloc_new _ _
  have HB : Hid (∀ B, B ≤ s → Below B w (w.alloc (.cells #[.int .i64 3, .int .i64 x1, .int .i64 x2, .int .i64 x3, .string x4] 66))) := fun B h => below_none ga (by have := hp.lt; omega)
  have HLA : Hid (last < 4611686018427387904) := hlast
  clear hp hr ga hlast
  go_enter Try.func25, Try.ntmps25
  go_wp2_with fail
  refine (Rf.take_any x3 _ HR.out).mono ?_
  rintro e w2 ⟨u2, rfl, r2, t1, m1⟩
  generalize hy : (Po.get ls x3).getD Po.d0 = y
  clear hy
  obtain ⟨y0, y1, y2, y3⟩ := y
  have ga := World.grownBy_alloc w2 (.cells #[.int .i64 y0, .int .i64 y1, .int .i64 y2, .string y3] 72) none
  have hX2 := ref_leaves HR.out t1 HX.out (by decide) (by decide)
  have HX3 : Hid ((w2.alloc (.cells #[.int .i64 y0, .int .i64 y1, .int .i64 y2, .string y3] 72)).heap[w.heap.size]? = some (.cells #[.int .i64 3, .int .i64 x1, .int .i64 x2, .int .i64 x3, .string x4] 66 (0, 0))) := (ga.block w.heap.size (Array.getElem?_eq_some_iff.1 hX2).1 (by simp)).trans hX2
  have HT1 : Hid (Turns (w.alloc (.cells #[.int .i64 3, .int .i64 x1, .int .i64 x2, .int .i64 x3, .string x4] 66)) (w2.alloc (.cells #[.int .i64 y0, .int .i64 y1, .int .i64 y2, .string y3] 72)) r u) := t1.trans m1 (.of_grown ga)
  have HR2 : Hid (Rf.PostAt (w2.alloc (.cells #[.int .i64 y0, .int .i64 y1, .int .i64 y2, .string y3] 72)) r nodes last u2 (Po.drop ls x3)) := r2.still ga
  have HP2 : Hid (PostAt (w2.alloc (.cells #[.int .i64 y0, .int .i64 y1, .int .i64 y2, .string y3] 72)) s nodes last v ls) := post_turned HP.out HR.out HT1.out
  unfold letter
  simp only
  clear r2 t1 m1 ga hX2
  go_upto_region 13 with fail
  generalize w2.alloc (.cells #[.int .i64 y0, .int .i64 y1, .int .i64 y2, .string y3] 72) = w3 at HX3 HT1 HR2 HP2 ⊢
  obtain ⟨b0, b1, b2, b3, b4⟩ := five_of HX3.out
  go_wp2_with fail
  refine (lose_any x3 _ HP2.out).mono ?_
  rintro e w4 ⟨v4, rfl, p4, t2, m2⟩
  have HE : Hid (Goes w w4 s r nodes last) := goes_two' HP.out HR.out HB.out HT1.out HR2.out t2 p4 (by omega)
  clear p4 t2 m2 b0 b1 b2 b3 b4
  generalize seeErr (Po.get ls x3) = g0
  go_wp2
  go_ret
  exact ⟨rfl, HE.out⟩
set_option maxHeartbeats 2000000 in
set_option maxRecDepth 100000 in
theorem does_again {s r : Nat} {nodes last : Int} {v u : Value} {ls : List Po.Lt} (x1 x2 x3 : Int) (x4 : ByteArray) (w : World) (hp : PostAt w s nodes last v ls) (hr : Rf.PostAt w r nodes last u ls) (hlast : last < 4611686018427387904) :
    Calls Try.prog 25 #[.pointer (some ⟨s, 0, none⟩), .pointer (some ⟨r, 0, none⟩), .agg #[.int .i64 4, .int .i64 x1, .int .i64 x2, .int .i64 x3, .string x4]] w fun e w' => e = .returned (.bool true) ∧ Goes w w' s r nodes last := by
  have ga := World.grownBy_alloc w (.cells #[.int .i64 4, .int .i64 x1, .int .i64 x2, .int .i64 x3, .string x4] 66) none
  have HP : Hid (PostAt (w.alloc (.cells #[.int .i64 4, .int .i64 x1, .int .i64 x2, .int .i64 x3, .string x4] 66)) s nodes last v ls) := hp.still ga
  have HR : Hid (Rf.PostAt (w.alloc (.cells #[.int .i64 4, .int .i64 x1, .int .i64 x2, .int .i64 x3, .string x4] 66)) r nodes last u ls) := hr.still ga
  have HX : Hid ((w.alloc (.cells #[.int .i64 4, .int .i64 x1, .int .i64 x2, .int .i64 x3, .string x4] 66)).heap[w.heap.size]? = some (.cells #[.int .i64 4, .int .i64 x1, .int .i64 x2, .int .i64 x3, .string x4] 66 (0, 0))) := heap_alloc_new _ _
  have HB : Hid (∀ B, B ≤ s → Below B w (w.alloc (.cells #[.int .i64 4, .int .i64 x1, .int .i64 x2, .int .i64 x3, .string x4] 66))) := fun B h => below_none ga (by have := hp.lt; omega)
  have HLA : Hid (last < 4611686018427387904) := hlast
  clear hp hr ga hlast
  go_enter Try.func25, Try.ntmps25
  go_wp2_with fail
  refine (again_any x3 _ HP.out HLA.out).mono ?_
  rintro e w2 ⟨v2, rfl, p2, t1, m1⟩
  have r2 := ref_turned HR.out HP.out t1
  obtain ⟨b0, b1, b2, b3, b4⟩ := five_of (post_leaves HP.out t1 HX.out (by decide) (by decide))
  have H2 : Hid (PostAt w2 s nodes _ v2 _ ∧ Turns _ w2 s v ∧ Rf.PostAt w2 r nodes last u ls) := ⟨p2, t1, r2⟩
  clear p2 t1 m1 r2
  go_wp2_with fail
  refine (Rf.again_any x3 _ H2.out.2.2 HLA.out).mono ?_
  rintro e w3 ⟨u3, rfl, r3, t2, m2⟩
  have HE : Hid (Goes w w3 s r nodes last) := goes_two HP.out HR.out HB.out H2.out.2.1 H2.out.1 t2 r3 (againLast_le _ _ _)
  clear r3 t2 m2 b0 b1 b2 b3 b4
  generalize Po.againNum last ls x3 = g0
  generalize Po.againErr ls x3 = g1
  go_wp2
  go_ret
  exact ⟨rfl, HE.out⟩
set_option maxHeartbeats 2000000 in
set_option maxRecDepth 100000 in
theorem does_flip {s r : Nat} {nodes last : Int} {v u : Value} {ls : List Po.Lt} (x1 x2 x3 : Int) (x4 : ByteArray) (w : World) (hp : PostAt w s nodes last v ls) (hr : Rf.PostAt w r nodes last u ls) (hlast : last < 4611686018427387904) (hb : x1 ≤ 9223372036854775807) :
    Calls Try.prog 25 #[.pointer (some ⟨s, 0, none⟩), .pointer (some ⟨r, 0, none⟩), .agg #[.int .i64 5, .int .i64 x1, .int .i64 x2, .int .i64 x3, .string x4]] w fun e w' => e = .returned (.bool true) ∧ Goes w w' s r nodes last := by
  have ga := World.grownBy_alloc w (.cells #[.int .i64 5, .int .i64 x1, .int .i64 x2, .int .i64 x3, .string x4] 66) none
  have HP : Hid (PostAt (w.alloc (.cells #[.int .i64 5, .int .i64 x1, .int .i64 x2, .int .i64 x3, .string x4] 66)) s nodes last v ls) := hp.still ga
  have HR : Hid (Rf.PostAt (w.alloc (.cells #[.int .i64 5, .int .i64 x1, .int .i64 x2, .int .i64 x3, .string x4] 66)) r nodes last u ls) := hr.still ga
  have HX : Hid ((w.alloc (.cells #[.int .i64 5, .int .i64 x1, .int .i64 x2, .int .i64 x3, .string x4] 66)).heap[w.heap.size]? = some (.cells #[.int .i64 5, .int .i64 x1, .int .i64 x2, .int .i64 x3, .string x4] 66 (0, 0))) := heap_alloc_new _ _
  have HB : Hid (∀ B, B ≤ s → Below B w (w.alloc (.cells #[.int .i64 5, .int .i64 x1, .int .i64 x2, .int .i64 x3, .string x4] 66))) := fun B h => below_none ga (by have := hp.lt; omega)
  have HLA : Hid (last < 4611686018427387904) := hlast
  clear hp hr ga hlast
  go_enter Try.func25, Try.ntmps25
  have HBI : Hid (x1 ≤ 9223372036854775807) := hb
  have HSS : Hid ((w.alloc (.cells #[.int .i64 5, .int .i64 x1, .int .i64 x2, .int .i64 x3, .string x4] 66)).cell? ⟨w.heap.size, 3, none⟩ = some (.int .i64 x3) ∧ (w.alloc (.cells #[.int .i64 5, .int .i64 x1, .int .i64 x2, .int .i64 x3, .string x4] 66)).cell? ⟨w.heap.size, 1, none⟩ = some (.int .i64 x1)) := ⟨(five_of HX.out).2.2.2.1, (five_of HX.out).2.1⟩
  have HS1 : Hid (∀ W, Turns (w.alloc (.cells #[.int .i64 5, .int .i64 x1, .int .i64 x2, .int .i64 x3, .string x4] 66)).drew W s v → W.cell? ⟨w.heap.size, 3, none⟩ = some (.int .i64 x3) ∧ W.cell? ⟨w.heap.size, 1, none⟩ = some (.int .i64 x1)) := fun W t => by
    have h := five_of (post_leaves HP.out.drew t HX.out (by decide) (by decide))
    exact ⟨h.2.2.2.1, h.2.1⟩
  have HS2 : Hid (∀ W W', Turns (w.alloc (.cells #[.int .i64 5, .int .i64 x1, .int .i64 x2, .int .i64 x3, .string x4] 66)).drew W s v → Turns W W' r u → W'.cell? ⟨w.heap.size, 3, none⟩ = some (.int .i64 x3) ∧ W'.cell? ⟨w.heap.size, 1, none⟩ = some (.int .i64 x1)) := fun W W' t t' => by
    have h := five_of (ref_leaves (ref_turned HR.out.drew HP.out.drew t) t' (post_leaves HP.out.drew t HX.out (by decide) (by decide)) (by decide) (by decide))
    exact ⟨h.2.2.2.1, h.2.1⟩
  clear hb
  go_wp2_with fail
  go_region_held3 (fun w' => w'.cell? ⟨w.heap.size, 3, none⟩ = some (.int .i64 x3) ∧ w'.cell? ⟨w.heap.size, 1, none⟩ = some (.int .i64 x1)) (first | exact HSS.out | exact HS1.out _ (by assumption) | exact HS2.out _ _ (by assumption) (by assumption)) (first | (go_at_call 40; refine (flip_any x3 x1 _ HP.out.drew).mono ?_; rintro e w3 ⟨rfl, p3, t1⟩) | (go_at_call 41; refine (Rf.flip_any x3 x1 _ (ref_turned HR.out.drew HP.out.drew (by assumption)) HBI.out).mono ?_; rintro e w4 ⟨rfl, r4, t2⟩))
  have HE : Hid (Goes w w4 s r nodes last) := goes_two HP.out.drew HR.out.drew (fun B h => ⟨(HB.out B h).os, (HB.out B h).tape, (HB.out B h).output, (HB.out B h).size, (HB.out B h).block⟩) t1 p3 t2 r4 (by omega)
  clear p3 t1 r4 t2
  generalize Po.flipErr ls x3 x1 = g0
  go_wp2
  go_ret
  exact ⟨rfl, HE.out⟩
set_option maxHeartbeats 2000000 in
set_option maxRecDepth 100000 in
theorem does_see {s r : Nat} {nodes last : Int} {v u : Value} {ls : List Po.Lt} (x0 x1 x2 x3 : Int) (x4 : ByteArray) (w : World) (hp : PostAt w s nodes last v ls) (hr : Rf.PostAt w r nodes last u ls) (hlast : last < 4611686018427387904) (h0 : x0 ≠ 0) (h1 : x0 ≠ 1) (h2 : x0 ≠ 2) (h3 : x0 ≠ 3) (h4 : x0 ≠ 4) (h5 : x0 ≠ 5) :
    Calls Try.prog 25 #[.pointer (some ⟨s, 0, none⟩), .pointer (some ⟨r, 0, none⟩), .agg #[.int .i64 x0, .int .i64 x1, .int .i64 x2, .int .i64 x3, .string x4]] w fun e w' => e = .returned (.bool true) ∧ Goes w w' s r nodes last := by
  have ga := World.grownBy_alloc w (.cells #[.int .i64 x0, .int .i64 x1, .int .i64 x2, .int .i64 x3, .string x4] 66) none
  have HP : Hid (PostAt (w.alloc (.cells #[.int .i64 x0, .int .i64 x1, .int .i64 x2, .int .i64 x3, .string x4] 66)) s nodes last v ls) := hp.still ga
  have HR : Hid (Rf.PostAt (w.alloc (.cells #[.int .i64 x0, .int .i64 x1, .int .i64 x2, .int .i64 x3, .string x4] 66)) r nodes last u ls) := hr.still ga
  have HX : Hid ((w.alloc (.cells #[.int .i64 x0, .int .i64 x1, .int .i64 x2, .int .i64 x3, .string x4] 66)).heap[w.heap.size]? = some (.cells #[.int .i64 x0, .int .i64 x1, .int .i64 x2, .int .i64 x3, .string x4] 66 (0, 0))) := heap_alloc_new _ _
  have HB : Hid (∀ B, B ≤ s → Below B w (w.alloc (.cells #[.int .i64 x0, .int .i64 x1, .int .i64 x2, .int .i64 x3, .string x4] 66))) := fun B h => below_none ga (by have := hp.lt; omega)
  have HLA : Hid (last < 4611686018427387904) := hlast
  clear hp hr ga hlast
  go_enter Try.func25, Try.ntmps25
  go_wp2_with fail
  refine (see_any x3 _ HP.out).mono ?_
  rintro e w2 ⟨rfl, hg2⟩
  obtain ⟨y, hy⟩ : ∃ y, (Po.get ls x3).getD Po.d0 = y := ⟨_, rfl⟩
  have HY : Hid ((Po.get ls x3).getD Po.d0 = y) := hy
  rw [hy]
  clear hy
  obtain ⟨y0, y1, y2, y3⟩ := y
  have ga := grown_trans hg2 (World.grownBy_alloc w2 (.cells #[.int .i64 y0, .int .i64 y1, .int .i64 y2, .string y3] 88) none)
  have HX3 : Hid ((w2.alloc (.cells #[.int .i64 y0, .int .i64 y1, .int .i64 y2, .string y3] 88)).heap[w.heap.size]? = some (.cells #[.int .i64 x0, .int .i64 x1, .int .i64 x2, .int .i64 x3, .string x4] 66 (0, 0))) := (ga.block w.heap.size (Array.getElem?_eq_some_iff.1 HX.out).1 (by simp)).trans HX.out
  have HA3 : Hid ((w2.alloc (.cells #[.int .i64 y0, .int .i64 y1, .int .i64 y2, .string y3] 88)).heap[w2.heap.size]? = some (.cells #[.int .i64 y0, .int .i64 y1, .int .i64 y2, .string y3] 88 (0, 0))) := heap_alloc_new _ _
  have HP2 : Hid (PostAt (w2.alloc (.cells #[.int .i64 y0, .int .i64 y1, .int .i64 y2, .string y3] 88)) s nodes last v ls) := HP.out.still ga
  have HR2 : Hid (Rf.PostAt (w2.alloc (.cells #[.int .i64 y0, .int .i64 y1, .int .i64 y2, .string y3] 88)) r nodes last u ls) := HR.out.still ga
  have HB2 : Hid (∀ B, B ≤ s → Below B w (w2.alloc (.cells #[.int .i64 y0, .int .i64 y1, .int .i64 y2, .string y3] 88))) := fun B h => (HB.out B h).trans (below_none ga (by have := HP.out.lt; omega))
  unfold letter
  simp only
  clear hg2 ga
  go_upto_region 21 with fail
  generalize w2.alloc (.cells #[.int .i64 y0, .int .i64 y1, .int .i64 y2, .string y3] 88) = w3 at HX3 HR2 HP2 HA3 HB2 ⊢
  generalize w2.heap.size = A at HA3 ⊢
  obtain ⟨b0, b1, b2, b3, b4⟩ := five_of HX3.out
  go_wp2_with fail
  refine (Rf.see_any x3 _ HR2.out).mono ?_
  rintro e w4 ⟨rfl, hg4⟩
  rw [HY.out]
  have gb := grown_trans hg4 (World.grownBy_alloc w4 (.cells #[.int .i64 y0, .int .i64 y1, .int .i64 y2, .string y3] 72) none)
  have HE : Hid (Goes w (w4.alloc (.cells #[.int .i64 y0, .int .i64 y1, .int .i64 y2, .string y3] 72)) s r nodes last) := ⟨last, v, u, ls, HP2.out.still gb, HR2.out.still gb, by omega, fun B hs _ => (HB2.out B hs).trans (below_none gb (by have := HP2.out.lt; omega))⟩
  have HA : Hid ((w4.alloc (.cells #[.int .i64 y0, .int .i64 y1, .int .i64 y2, .string y3] 72)).heap[A]? = some (.cells #[.int .i64 y0, .int .i64 y1, .int .i64 y2, .string y3] 88 (0, 0))) := (gb.block A (Array.getElem?_eq_some_iff.1 HA3.out).1 (by simp)).trans HA3.out
  have HD : Hid ((w4.alloc (.cells #[.int .i64 y0, .int .i64 y1, .int .i64 y2, .string y3] 72)).heap[w4.heap.size]? = some (.cells #[.int .i64 y0, .int .i64 y1, .int .i64 y2, .string y3] 72 (0, 0))) := heap_alloc_new _ _
  unfold letter
  simp only
  clear hg4 b0 b1 b2 b3 b4 gb
  generalize seeErr (Po.get ls x3) = g0
  go_upto_region 22 with fail
  generalize w4.alloc (.cells #[.int .i64 y0, .int .i64 y1, .int .i64 y2, .string y3] 72) = w9 at HE HA HD ⊢
  generalize w4.heap.size = D at HD ⊢
  have hcA : ∀ p : Grw w9, p.out.cell? ⟨A, 0, none⟩ = some (.int .i64 y0) := fun p => p.grown.cell (four_of HA.out).1.1 (by simp)
  have hcB : ∀ p : Grw w9, p.out.cell? ⟨A, 1, none⟩ = some (.int .i64 y1) := fun p => p.grown.cell (four_of HA.out).1.2.1 (by simp)
  have hcC : ∀ p : Grw w9, p.out.cell? ⟨A, 2, none⟩ = some (.int .i64 y2) := fun p => p.grown.cell (four_of HA.out).1.2.2.1 (by simp)
  have hcD : ∀ p : Grw w9, p.out.cell? ⟨A, 3, none⟩ = some (.string y3) := fun p => p.grown.cell (four_of HA.out).1.2.2.2 (by simp)
  have hdA : ∀ p : Grw w9, p.out.cell? ⟨D, 0, none⟩ = some (.int .i64 y0) := fun p => p.grown.cell (four_of HD.out).1.1 (by simp)
  have hdB : ∀ p : Grw w9, p.out.cell? ⟨D, 1, none⟩ = some (.int .i64 y1) := fun p => p.grown.cell (four_of HD.out).1.2.1 (by simp)
  have hdC : ∀ p : Grw w9, p.out.cell? ⟨D, 2, none⟩ = some (.int .i64 y2) := fun p => p.grown.cell (four_of HD.out).1.2.2.1 (by simp)
  have hdD : ∀ p : Grw w9, p.out.cell? ⟨D, 3, none⟩ = some (.string y3) := fun p => p.grown.cell (four_of HD.out).1.2.2.2 (by simp)
  have heq : ∀ W, (binOp .eql 72 (.agg #[.int .i64 y0, .int .i64 y1, .int .i64 y2, .string y3]) (.agg #[.int .i64 y0, .int .i64 y1, .int .i64 y2, .string y3])).run Try.prog W = .ok (.bool true) W := fun W => ref_eql (y0, y1, y2, y3) W
  have hgu := guard72
  have hne9 : Nonempty (Grw w9) := grw_some w9
  refine wp_region_grw (by kernel_rfl) (by kernel_rfl) ?_
  repeat (go_big_quiet_step (first | (go_at_call 37; refine calls_grw (Grw.grown _) (ref_four y0 y1 y2 y3 _))))
  refine wpQuiet_nil ?_
  intro wq hwq
  have hgq : w9.grownBy wq none := by
    obtain ⟨p, rfl⟩ := hwq
    exact p.grown
  have HQ : Hid (Goes w wq s r nodes last) := HE.out.grown hgq
  clear hgu hgq hwq hcA hcB hcC hcD hdA hdB hdC hdD heq
  go_wp2
  go_ret
  exact ⟨rfl, HQ.out⟩
/-- A step, done to both. -/
theorem does_any {s r : Nat} {nodes last : Int} {v u : Value} {ls : List Po.Lt} (x0 x1 x2 x3 : Int) (x4 : ByteArray) (w : World) (hp : PostAt w s nodes last v ls) (hr : Rf.PostAt w r nodes last u ls) (hlast : last < 4611686018427387904) (hb : x1 ≤ 9223372036854775807) :
    Calls Try.prog 25 #[.pointer (some ⟨s, 0, none⟩), .pointer (some ⟨r, 0, none⟩), .agg #[.int .i64 x0, .int .i64 x1, .int .i64 x2, .int .i64 x3, .string x4]] w fun e w' => e = .returned (.bool true) ∧ Goes w w' s r nodes last := by
  by_cases h0 : x0 = 0
  · subst h0
    exact does_send0 x1 x2 x3 x4 w hp hr hlast
  by_cases h1 : x0 = 1
  · subst h1
    exact does_send1 x1 x2 x3 x4 w hp hr hlast
  by_cases h2 : x0 = 2
  · subst h2
    exact does_take x1 x2 x3 x4 w hp hr hlast
  by_cases h3 : x0 = 3
  · subst h3
    exact does_lose x1 x2 x3 x4 w hp hr hlast
  by_cases h4 : x0 = 4
  · subst h4
    exact does_again x1 x2 x3 x4 w hp hr hlast
  by_cases h5 : x0 = 5
  · subst h5
    exact does_flip x1 x2 x3 x4 w hp hr hlast hb
  exact does_see x0 x1 x2 x3 x4 w hp hr hlast h0 h1 h2 h3 h4 h5
end Go.Proofs.Ytlhobncpifklkaa
