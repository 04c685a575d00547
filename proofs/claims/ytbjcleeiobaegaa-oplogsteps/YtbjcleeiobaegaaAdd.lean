/-
  oplog's Add.
-/
import Derived.Test.YtbjcleeiobaegaaPut
import Derived.Deep.RegionWith
namespace Go.Proofs.Ytbjcleeiobaegaa
open Go.RowKit Go.Shelf

theorem last_g {s : Nat} {base : Int} {v : Value} {ls : List Ol.It} (w : World) (h : LogAt w s base v ls) : Calls Try.prog 14 #[.pointer (some ⟨s, 0, none⟩)] w fun e w' => e = .returned (.int .i64 (base + ls.length)) ∧ w.grownBy w' none :=
  (last_any w h).mono fun _ _ ⟨he, q, hw⟩ => ⟨he, by rw [hw]; exact grown_drew (grown_refl _ _) q⟩
theorem one_item (W : World) (x0 x1 x2 : Int) (x3 : ByteArray) : ItemsAt (W.alloc (.cells #[.int .i64 x0, .int .i64 x1, .int .i64 x2, .string x3] 32)) (.slice (some ⟨W.heap.size, 0, none⟩) 1 1) [(x0, x1, x2, x3)] := by
  refine .inr ⟨W.heap.size, 0, 1, rfl, by simp, by simp, by simp, by decide, fun i hi => ?_⟩
  obtain rfl : i = 0 := by simpa using hi
  refine ⟨?_, ?_, ?_, ?_⟩ <;> simp
abbrev B4 (x0 x1 x2 : Int) (x3 : ByteArray) : Obj := .cells #[.int .i64 x0, .int .i64 x1, .int .i64 x2, .string x3] 32
theorem one_item2 (w : World) (x0 x1 x2 : Int) (x3 : ByteArray) : ItemsAt ((w.alloc (B4 x0 x1 x2 x3)).alloc (B4 x0 x1 x2 x3)).drew (.slice (some ⟨w.heap.size + 1, 0, none⟩) 1 1) [(x0, x1, x2, x3)] := by
  have h := one_item (w.alloc (B4 x0 x1 x2 x3)) x0 x1 x2 x3
  rw [show (w.alloc (B4 x0 x1 x2 x3)).heap.size = w.heap.size + 1 by simp] at h
  exact h
theorem grown2 (w : World) (O1 O2 : Obj) : w.grownBy ((w.alloc O1).alloc O2).drew none := grown_drew (grown_trans (World.grownBy_alloc w O1 none) (World.grownBy_alloc (w.alloc O1) O2 none)) 1
def Ol.nilErr (x : Ol.It) : Int := if Ol.right x then 5 else 4
set_option maxHeartbeats 1000000 in
theorem add_nil (x : Ol.It) (w : World) : Calls Try.prog 18 #[.pointer none, item x] w fun e w' => e = .returned (.tuple #[.int .i64 0, .int .i64 (Ol.nilErr x)]) ∧ w.grownBy w' none := by
  obtain ⟨x0, x1, x2, x3⟩ := x
  have HI : Hid (ItemsAt ((w.alloc (B4 x0 x1 x2 x3)).alloc (B4 x0 x1 x2 x3)).drew (.slice (some ⟨w.heap.size + 1, 0, none⟩) 1 1) [(x0, x1, x2, x3)]) := one_item2 w x0 x1 x2 x3
  have HO : Hid (([(x0, x1, x2, x3)].any fun x => !decide (Ol.right x)) = false → Ol.fall 0 [(x0, x1, x2, x3)] = false) := fun h => by
    have hr : Ol.right (x0, x1, x2, x3) := by simpa using h
    have := hr.1.1
    simp [Ol.fall]
    exact this
  obtain ⟨y, hy⟩ : ∃ y : Int, y = if ([(x0, x1, x2, x3)].any fun x => !decide (Ol.right x)) then 4 else 5 := ⟨_, rfl⟩
  have hy0 : ¬ y = 0 := by rw [hy]; split <;> omega
  have HY : Hid (y = if ([(x0, x1, x2, x3)].any fun x => !decide (Ol.right x)) then 4 else 5) := hy
  clear hy
  unfold item
  simp only
  go_enter Try.func18, Try.ntmps18
  go_wp2
  go_region_with (first | (go_at_call 14; refine (last_nil _).mono ?_; rintro e w1 ⟨rfl, rfl⟩) | (go_at_call 32; refine (refuse_nil _ _ [(x0, x1, x2, x3)] _ HI.out HO.out).mono ?_; rintro e w2 ⟨rfl, hg⟩; rw [← HY.out]))
  all_goals
    have HG : Hid (w.grownBy w2 none) := grown_trans (grown2 w _ _) hg
    clear hg
    go_wp2
    go_ret2
    refine ⟨?_, HG.out⟩
    have : y = Ol.nilErr (x0, x1, x2, x3) := by
      rw [HY.out]
      unfold Ol.nilErr
      by_cases h : Ol.right (x0, x1, x2, x3) <;> simp [h]
    rw [← this]
    rfl

theorem one_item_at (W : World) (b : Nat) (x0 x1 x2 : Int) (x3 : ByteArray) (hb : W.heap[b]? = some (B4 x0 x1 x2 x3)) : ItemsAt W (.slice (some ⟨b, 0, none⟩) 1 1) [(x0, x1, x2, x3)] := by
  refine .inr ⟨b, 0, 1, rfl, (Array.getElem?_eq_some_iff.1 hb).1, by simp, by simp, by decide, fun i hi => ?_⟩
  obtain rfl : i = 0 := by simpa using hi
  obtain ⟨⟨a0, a1, a2, a3⟩, _⟩ := four_of hb
  refine ⟨?_, ?_, ?_, ?_⟩ <;> simpa
/-- What the world is behind the first region of Add, in whatever order. -/
structure Behind1 (w W : World) (s : Nat) (base : Int) (v : Value) (ls : List Ol.It) (x0 x1 x2 : Int) (x3 : ByteArray) : Prop where
  grown : w.grownBy W none
  log : LogAt W s base v ls
  box : W.heap[w.heap.size]? = some (B4 x0 x1 x2 x3)
theorem Behind1.next {w W W' : World} {s : Nat} {base : Int} {v : Value} {ls : List Ol.It} {x0 x1 x2 : Int} {x3 : ByteArray} (h : Behind1 w W s base v ls x0 x1 x2 x3) (hg : W.grownBy W' none) : Behind1 w W' s base v ls x0 x1 x2 x3 :=
  ⟨grown_trans h.grown hg, h.log.still hg, (hg.block _ (Array.getElem?_eq_some_iff.1 h.box).1 (by simp)).trans h.box⟩
theorem Behind1.start {w : World} {s : Nat} {base : Int} {v : Value} {ls : List Ol.It} (h : LogAt w s base v ls) (x0 x1 x2 : Int) (x3 : ByteArray) : Behind1 w (w.alloc (B4 x0 x1 x2 x3)) s base v ls x0 x1 x2 x3 :=
  ⟨World.grownBy_alloc _ _ _, h.still (World.grownBy_alloc _ _ _), heap_alloc_new _ _⟩
theorem Behind1.drew {w W : World} {s : Nat} {base : Int} {v : Value} {ls : List Ol.It} {x0 x1 x2 : Int} {x3 : ByteArray} (h : Behind1 w W s base v ls x0 x1 x2 x3) : Behind1 w W.drew s base v ls x0 x1 x2 x3 := h.next (grown_drew (grown_refl _ _) 1)
set_option maxHeartbeats 400000 in
theorem add_err {s : Nat} {base : Int} {v : Value} {ls : List Ol.It} (x : Ol.It) (w : World) (h : LogAt w s base v ls) (hr : Ol.refuse base ls [x] ≠ 0) : Calls Try.prog 18 #[.pointer (some ⟨s, 0, none⟩), item x] w fun e w' => e = .returned (.tuple #[.int .i64 0, .int .i64 (Ol.refuse base ls [x])]) ∧ w.grownBy w' none := by
  obtain ⟨x0, x1, x2, x3⟩ := x
  have H1 : Hid (Behind1 w (w.alloc (B4 x0 x1 x2 x3)).drew s base v ls x0 x1 x2 x3) := (Behind1.start h x0 x1 x2 x3).drew
  have H2 : Hid (Behind1 w ((w.alloc (B4 x0 x1 x2 x3)).alloc (B4 x0 x1 x2 x3)).drew s base v ls x0 x1 x2 x3) := ((Behind1.start h x0 x1 x2 x3).next (World.grownBy_alloc _ _ _)).drew
  have H3 : Hid (True ∧ ∀ w1, ((w.alloc (B4 x0 x1 x2 x3)).alloc (B4 x0 x1 x2 x3)).drew.grownBy w1 none → w1.heap[w.heap.size + 1]? = some (B4 x0 x1 x2 x3)) := ⟨trivial, fun w1 hg => by
    refine (hg.block _ (by simp) (by simp)).trans ?_
    have := heap_alloc_new (w.alloc (B4 x0 x1 x2 x3)) (B4 x0 x1 x2 x3)
    rw [show (w.alloc (B4 x0 x1 x2 x3)).heap.size = w.heap.size + 1 by simp] at this
    exact this⟩
  generalize hy : Ol.refuse base ls [(x0, x1, x2, x3)] = y at *
  have HY : Hid (Ol.refuse base (ls.take ls.length) [(x0, x1, x2, x3)] = y) := by rw [List.take_length]; exact hy
  clear h hy
  unfold item
  simp only
  go_enter Try.func18, Try.ntmps18
  go_wp2
  go_region_with (first | (go_at_call 14; with_reducible refine (last_g _ H1.out.log).mono ?_; rintro e w1 ⟨rfl, hg⟩; have hx := H1.out.next hg; obtain ⟨⟨a0, a1, a2, a3⟩, _⟩ := four_of hx.box) | (go_at_call 14; with_reducible refine (last_g _ H2.out.log).mono ?_; rintro e w1 ⟨rfl, hg⟩; have hx := H2.out.next hg; have hf := H3.out.2 w1 hg) | (go_at_call 32; with_reducible show Calls _ _ _ (World.alloc w1 _) _; refine (refuse_any ls.length _ _ [(x0, x1, x2, x3)] (w1.alloc (B4 x0 x1 x2 x3)) (hx.next (World.grownBy_alloc _ _ _)).log (Nat.le_refl _) rfl (one_item w1 x0 x1 x2 x3) (by simp)).mono ?_; rintro e w2 ⟨rfl, hg2⟩; have hx2 := (hx.next (World.grownBy_alloc w1 (B4 x0 x1 x2 x3) none)).next hg2; clear hx hg2; rw [HY.out]) | (go_at_call 32; refine (refuse_any ls.length _ _ [(x0, x1, x2, x3)] w1 hx.log (Nat.le_refl _) rfl (one_item_at w1 _ x0 x1 x2 x3 hf) (by simp)).mono ?_; rintro e w2 ⟨rfl, hg2⟩; have hx2 := hx.next hg2; clear hx hg2; rw [HY.out]))
  all_goals
    have HX : Hid (w.grownBy w2 none) := hx2.grown
    clear hx2
    go_wp2
    go_ret2
    exact ⟨rfl, HX.out⟩
end Go.Proofs.Ytbjcleeiobaegaa
