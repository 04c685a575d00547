/-
  again: a number that is used again, in another generation.
-/
import Derived.Test.YtobcjnfombfdmaaMakeB
namespace Go.Proofs.Ytobcjnfombfdmaa
open Go.ChangeShapes Go.WideShapes Go.ChangeAt Go.RowKit Go.Deep It

set_option maxHeartbeats 4000000 in
theorem again_any (w : World) : Calls Try.prog 17 #[] w fun e w' => e = .returned (.bool true) ∧ Below w.heap.size w w' := by
  have HM1 : Hid (makeErr new 1 3 = 0 ∧ makeH new 1 3 = (1, 1) ∧ makeTab new 1 3 = [fresh 1 2 0, fresh 1 1 3]) := ⟨by decide, by decide, by rfl⟩
  have HD : Hid (dropErr [fresh 1 2 0, fresh 1 1 3] 1 1 = 0 ∧ dropTab [fresh 1 2 0, fresh 1 1 3] 1 1 = [fresh 1 2 0, gone 1]) := ⟨by decide, by rfl⟩
  have HF : Hid (findErr [fresh 1 2 0, gone 1] 1 1 = 401) := by show findErr [fresh 1 2 0, gone 1] 1 1 = 401; decide
  have HM2 : Hid (makeErr [fresh 1 2 0, gone 1] 2 4 = 0 ∧ makeH [fresh 1 2 0, gone 1] 2 4 = (1, 2)) := ⟨by decide, by decide⟩
  go_enter Try.func17, Try.ntmps17
  go_wp2_with fail
  refine (new_any _).mono ?_
  rintro e w1 ⟨u1, L1, rfl, ht1, hp1, hb1⟩
  have HT1 : Hid (TabW w1 u1 L1) := ht1.wide
  have HP1 : Hid (pl L1 = new) := hp1
  have HB1 : Hid (Below w.heap.size w w1) := hb1
  clear ht1 hp1 hb1
  go_wp2_with fail
  refine (make_any _ L1 1 3 _ HT1.out).mono ?_
  rintro e w2 ⟨u2, L2, rfl, ht2, hp2, hb2⟩
  rw [HP1.out] at hp2 ⊢
  rw [HM1.out.1, HM1.out.2.1]
  rw [HM1.out.2.2] at hp2
  have HT2 : Hid (TabW (w2.alloc (BH 1 1)) u2 L2) := ht2.wide.up ((Below.refl _ _).alloc (Nat.le_refl _) _)
  have HP2 : Hid (pl L2 = [fresh 1 2 0, fresh 1 1 3]) := hp2
  have hb2' : Below w.heap.size w w2 := HB1.out.trans (hb2.mono HB1.out.size)
  have HB2 : Hid (Below w.heap.size w (w2.alloc (BH 1 1))) := hb2'.alloc hb2'.size _
  have HA2 : Hid ((w2.alloc (BH 1 1)).heap[w2.heap.size]? = some (BH 1 1)) := heap_alloc_new _ _
  clear ht2 hp2 hb2 hb2'
  go_wp2_with fail
  refine (drop_any _ L2 1 1 _ HT2.out).mono ?_
  rintro e w3 ⟨u3, L3, rfl, ht3, hp3, hb3⟩
  rw [HP2.out] at hp3 ⊢
  rw [HD.out.1]
  rw [HD.out.2] at hp3
  have HT3 : Hid (TabW w3 u3 L3) := ht3.wide
  have HP3 : Hid (pl L3 = [fresh 1 2 0, gone 1]) := hp3
  have HB3 : Hid (Below w.heap.size w w3) := HB2.out.trans (hb3.mono HB2.out.size)
  have HA3 : Hid (w3.heap[w2.heap.size]? = some (BH 1 1)) := (hb3.block _ (by simp)).trans HA2.out
  obtain ⟨⟨a0, a1⟩, _⟩ := two_of HA3.out
  clear ht3 hp3 hb3
  go_wp2_with fail
  refine (find_any _ L3 1 1 _ HT3.out).mono ?_
  rintro e w4 ⟨x4, rfl, hx4, hg4, hb4⟩
  rw [HP3.out, HF.out]
  have HA4 : Hid (w4.heap[w2.heap.size]? = some (BH 1 1)) := (hb4.block _ (Array.getElem?_eq_some_iff.1 HA3.out).1).trans HA3.out
  have hb4' : Below w.heap.size w w4 := HB3.out.trans (hb4.mono HB3.out.size)
  obtain ⟨⟨g, k, l, s, t, rs, es, nx⟩, rp, rn, rc, ep, en, ec⟩ := x4
  obtain ⟨W, hW⟩ : ∃ W, W = w4.alloc (B8 g k l s t (.slice rp rn rc) (.slice ep en ec) nx) := ⟨_, rfl⟩
  have HB5 : Hid (Below w.heap.size w W) := by show Below w.heap.size w W; rw [hW]; exact hb4'.alloc hb4'.size _
  have HT5 : Hid (TabW W u3 L3) := by show TabW W u3 L3; rw [hW]; exact (HT3.out.up hb4).up ((Below.refl _ _).alloc (Nat.le_refl _) _)
  have HA5 : Hid (W.heap[w2.heap.size]? = some (BH 1 1)) := by show W.heap[w2.heap.size]? = _; rw [hW]; exact (Below.heap_alloc _ _ _ (Array.getElem?_eq_some_iff.1 HA4.out).1).trans HA4.out
  clear hx4 hg4 hb4 hb4' a0 a1
  go_wp2_with fail
  rw [← hW]
  refine (make_any _ L3 2 4 _ HT5.out).mono ?_
  rintro e w6 ⟨u6, L6, rfl, ht6, hp6, hb6⟩
  rw [HP3.out, HM2.out.1, HM2.out.2]
  have HA6 : Hid (w6.heap[w2.heap.size]? = some (BH 1 1)) := (hb6.block _ (Array.getElem?_eq_some_iff.1 HA5.out).1).trans HA5.out
  have hb6' : Below w.heap.size w w6 := HB5.out.trans (hb6.mono HB5.out.size)
  have HB6 : Hid (Below w.heap.size w (w6.alloc (BH 1 2))) := hb6'.alloc hb6'.size _
  have HA7 : Hid ((w6.alloc (BH 1 2)).heap[w2.heap.size]? = some (BH 1 1)) := (Below.heap_alloc _ _ _ (Array.getElem?_eq_some_iff.1 HA6.out).1).trans HA6.out
  obtain ⟨⟨a0, a1⟩, _⟩ := two_of HA7.out
  clear ht6 hp6 hb6 hb6' hW
  go_wp2
  go_ret
  exact ⟨rfl, HB6.out⟩
end Go.Proofs.Ytobcjnfombfdmaa
