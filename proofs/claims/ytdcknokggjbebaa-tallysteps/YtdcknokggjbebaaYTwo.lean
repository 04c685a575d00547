/-
  The small case: two bids of three nodes.
-/
import Derived.Test.YtdcknokggjbebaaYBest
namespace Go.Proofs.Ytdcknokggjbebaa
open Go.ChangeShapes Go.WideShapes Go.ChangeAt Go.RowKit Go.Deep
theorem below_map {B : Nat} {w0 w w' : World} {bm : Nat} (h : Below B w0 w) (hg : w.grownBy w' (some bm)) (hB : B ≤ bm) (hs : B ≤ w.heap.size) : Below B w0 w' := h.grown hg hs (fun k e => by cases e; exact hB)
set_option maxRecDepth 100000 in
set_option maxHeartbeats 8000000 in
theorem two_any (w : World) : Calls Try.prog 9 #[] w fun e w' => e = .returned (.bool true) ∧ Below w.heap.size w w' := by
  have H3 : Hid (Pn.Is 3 1) := show Pn.Is 3 1 from .inr (.inl ⟨rfl, rfl⟩)
  have F0 : Hid (Ty.Fits 3 (0, 2, 5)) := show Ty.Fits 3 (0, 2, 5) by decide
  have F2 : Hid (Ty.Fits 3 (2, 2, 7)) := show Ty.Fits 3 (2, 2, 7) by decide
  have P2 : Hid ((0 : Int) ≤ 2 ∧ (2 : Int) < 3) := show (0 : Int) ≤ 2 ∧ (2 : Int) < 3 by decide
  have L1 : Hid (Ty.add [] (0, 2, 5) = [(0, 2, 5)]) := rfl
  have L2 : Hid (Ty.add [(0, 2, 5)] (2, 2, 7) = [(0, 2, 5), (2, 2, 7)]) := show _ = _ by decide
  have L3 : Hid (Ty.del [(0, 2, 5), (2, 2, 7)] 2 = [(0, 2, 5)]) := show _ = _ by decide
  have N1 : Hid ((!Ty.has [] ((0, 2, 5) : Bd).1) = true) := rfl
  have N2 : Hid ((!Ty.has [(0, 2, 5)] ((2, 2, 7) : Bd).1) = true) := show _ = _ by decide
  have N3 : Hid (Ty.has [(0, 2, 5), (2, 2, 7)] 2 = true) := show _ = _ by decide
  have B1 : Hid (Ty.best [(0, 2, 5), (2, 2, 7)] = (2, 2, 7) ∧ Ty.bestE [(0, 2, 5), (2, 2, 7)] = 0) := show _ ∧ _ by decide
  have B2 : Hid (Ty.best [(0, 2, 5)] = (0, 2, 5) ∧ Ty.bestE [(0, 2, 5)] = 0) := show _ ∧ _ by decide
  have E1 : Hid (decide ((1 : Int) < (([(0, 2, 5), (2, 2, 7)] : List Bd).length : Int)) = true) := show _ = _ by decide
  have E2 : Hid (decide ((1 : Int) < (([(0, 2, 5)] : List Bd).length : Int)) = false) := show _ = _ by decide
  go_enter Try.func9, Try.ntmps9
  go_wp2_with fail
  refine (tnew_yes _ H3.out).mono ?_
  rintro e w1 ⟨rfl, ht, hg⟩
  obtain ⟨s, hs⟩ : ∃ s, w.heap.size + 1 = s := ⟨_, rfl⟩
  obtain ⟨bm, hbm⟩ : ∃ bm, w.heap.size = bm := ⟨_, rfl⟩
  have HBM : Hid (w.heap.size = bm) := hbm
  have HB1 : Hid (Below w.heap.size w w1) := below_none hg (Nat.le_refl _)
  have HT1 : Hid (TA w1 s bm 3 1 []) := by rw [← hs, ← hbm]; exact ht
  rw [hs]
  clear hs hbm ht hg
  go_wp2_with fail
  refine (tadd_yes (0, 2, 5) _ HT1.out F0.out).mono ?_
  rintro e w2 ⟨rfl, ht, hg⟩
  rw [N1.out]
  have HB2 : Hid (Below w.heap.size w w2) := below_map HB1.out hg (Nat.le_of_eq HBM.out) HB1.out.size
  have HT2 : Hid (TA w2 s bm 3 1 [(0, 2, 5)]) := by have := ht; rwa [L1.out] at this
  clear ht hg HB1 HT1
  go_wp2_with fail
  refine (tadd_yes (2, 2, 7) _ HT2.out F2.out).mono ?_
  rintro e w3 ⟨rfl, ht, hg⟩
  rw [N2.out]
  have HB3 : Hid (Below w.heap.size w w3) := below_map HB2.out hg (Nat.le_of_eq HBM.out) HB2.out.size
  have HT3 : Hid (TA w3 s bm 3 1 [(0, 2, 5), (2, 2, 7)]) := by have := ht; rwa [L2.out] at this
  clear ht hg HB2 HT2
  go_wp2_with fail
  refine (tbest_any _ HT3.out).mono ?_
  rintro e w4 ⟨rfl, hb⟩
  rw [B1.out.1, B1.out.2]
  obtain ⟨W4, hW4⟩ : ∃ W4, w4.alloc (BB (2, 2, 7)) = W4 := ⟨_, rfl⟩
  have HW4 : Hid (w4.alloc (BB (2, 2, 7)) = W4) := hW4
  have hb' : Below w3.heap.size w3 W4 := by rw [← hW4]; exact hb.alloc hb.size _
  have HB4 : Hid (Below w.heap.size w W4) := HB3.out.trans (hb'.mono HB3.out.size)
  have HT4 : Hid (TA W4 s bm 3 1 [(0, 2, 5), (2, 2, 7)]) := HT3.out.up hb'
  obtain ⟨x, hx⟩ : ∃ x, w4.heap.size = x := ⟨_, rfl⟩
  have HX : Hid (w4.heap.size = x) := hx
  have HXX : Hid (W4.heap[x]? = some (BB (2, 2, 7))) := by rw [← hW4, ← hx]; exact heap_alloc_new _ _
  clear hb hb' hW4 hx HB3 HT3
  go_wp2_with fail
  rw [HW4.out, HX.out]
  refine (tEnough_any _ HT4.out).mono ?_
  rintro e w5 ⟨rfl, hb⟩
  rw [E1.out]
  have HB5 : Hid (Below w.heap.size w w5) := HB4.out.trans (hb.mono HB4.out.size)
  have HT5 : Hid (TA w5 s bm 3 1 [(0, 2, 5), (2, 2, 7)]) := HT4.out.up hb
  have HX5 : Hid (w5.heap[x]? = some (BB (2, 2, 7))) := (hb.block _ (Array.getElem?_eq_some_iff.1 HXX.out).1).trans HXX.out
  clear hb HB4 HT4 HXX
  go_wp2_with fail
  refine (tforget_yes _ HT5.out P2.out).mono ?_
  rintro e w6 ⟨rfl, ht, hg⟩
  rw [N3.out]
  have HB6 : Hid (Below w.heap.size w w6) := below_map HB5.out hg (Nat.le_of_eq HBM.out) HB5.out.size
  have HT6 : Hid (TA w6 s bm 3 1 [(0, 2, 5)]) := by have := ht; rwa [L3.out] at this
  have HX6 : Hid (w6.heap[x]? = some (BB (2, 2, 7))) := (hg.block _ (Array.getElem?_eq_some_iff.1 HX5.out).1 (fun e => HT5.out.ma.no_cell (bid_of HX5.out).1.1 (Option.some.inj e))).trans HX5.out
  clear ht hg HB5 HT5 HX5
  go_wp2_with fail
  refine (tbest_any _ HT6.out).mono ?_
  rintro e w7 ⟨rfl, hb⟩
  rw [B2.out.1, B2.out.2]
  obtain ⟨W7, hW7⟩ : ∃ W7, w7.alloc (BB (0, 2, 5)) = W7 := ⟨_, rfl⟩
  have HW7 : Hid (w7.alloc (BB (0, 2, 5)) = W7) := hW7
  have hb' : Below w6.heap.size w6 W7 := by rw [← hW7]; exact hb.alloc hb.size _
  have HB7 : Hid (Below w.heap.size w W7) := HB6.out.trans (hb'.mono HB6.out.size)
  have HT7 : Hid (TA W7 s bm 3 1 [(0, 2, 5)]) := HT6.out.up hb'
  obtain ⟨y, hy⟩ : ∃ y, w7.heap.size = y := ⟨_, rfl⟩
  have HY : Hid (w7.heap.size = y) := hy
  have x0 : w7.cell? ⟨x, 0, none⟩ = some (.int .i64 2) := (bid_of ((hb.block _ (Array.getElem?_eq_some_iff.1 HX6.out).1).trans HX6.out)).1.1
  have x0' := fun o => (cell_older (World.block_lt_of_cell? _ _ x0) o 0).trans x0
  clear hb hb' hW7 hy HB6 HT6 HX6 x0
  go_wp2_with fail
  rw [HW7.out]
  refine (tEnough_any _ HT7.out).mono ?_
  rintro e w8 ⟨rfl, hb⟩
  rw [E2.out]
  have HB8 : Hid (Below w.heap.size w w8) := HB7.out.trans (hb.mono HB7.out.size)
  clear hb HB7 HT7
  go_wp2
  go_ret
  exact ⟨rfl, HB8.out⟩
end Go.Proofs.Ytdcknokggjbebaa
