/-
  The two items that every statement of the log asks.
-/
import Derived.Test.YtbjcleeiobaegaaAddB
namespace Go.Proofs.Ytbjcleeiobaegaa
open Go.RowKit Go.Shelf

namespace Ol
theorem t1 : refuse 5 [] [(0, 0, 1, ⟨#[]⟩)] = 0 := by decide +kernel
theorem t2 : refuse 5 [(0, 0, 1, ⟨#[]⟩)] [(0, 0, 2, ⟨#[]⟩)] = 0 := by decide +kernel
theorem t3 : Ol.at 6 [(0, 0, 2, ⟨#[]⟩)] 6 = d0 ∧ getErr 6 1 6 = 50 := by decide +kernel
theorem t4 : Ol.at 6 [(0, 0, 2, ⟨#[]⟩)] 7 = (0, 0, 2, ⟨#[]⟩) ∧ getErr 6 1 7 = 0 := by decide +kernel
end Ol
set_option maxHeartbeats 2000000 in
theorem two_any (w : World) : Calls Try.prog 9 #[] w fun e w' => e = .returned (.bool true) ∧ w.grownBy w' none := by
  go_enter Try.func9, Try.ntmps9
  go_wp2_with fail
  refine (new_ok (n := 5) _ (by decide) (by decide)).mono ?_
  rintro e w1 ⟨s, rfl, hs, hl, hg⟩
  have HS : Hid (w.heap.size ≤ s) := hs
  have HL1 : Hid (LogAt w1 s 5 (.slice none 0 0) []) := hl
  have HB1 : Hid (Below w.heap.size w w1) := below_none hg (Nat.le_refl _)
  clear hs hl hg
  go_wp2_with fail
  refine (add_ok (0, 0, 1, ⟨#[]⟩) _ HL1.out Ol.t1).mono ?_
  rintro e w2 ⟨v2, rfl, hl, ht, hm⟩
  have HL2 : Hid (LogAt w2 s 5 v2 [(0, 0, 1, ⟨#[]⟩)]) := hl
  have HB2 : Hid (Below w.heap.size w w2) := HB1.out.trans (HL1.out.below ht HS.out)
  clear hl ht hm HL1 HB1
  go_wp2_with fail
  refine (add_ok (0, 0, 2, ⟨#[]⟩) _ HL2.out Ol.t2).mono ?_
  rintro e w3 ⟨v3, rfl, hl, ht, hm⟩
  have HL3 : Hid (LogAt w3 s 5 v3 [(0, 0, 1, ⟨#[]⟩), (0, 0, 2, ⟨#[]⟩)]) := hl
  have HB3 : Hid (Below w.heap.size w w3) := HB2.out.trans (HL2.out.below ht HS.out)
  clear hl ht hm HL2 HB2
  go_wp2_with fail
  refine (trim_ok 1 6 _ HL3.out (by simp) (by decide) (by decide)).mono ?_
  rintro e w4 ⟨v4, rfl, hl, ht, hm⟩
  have HL4 : Hid (LogAt w4 s 6 v4 [(0, 0, 2, ⟨#[]⟩)]) := hl
  have HB4 : Hid (Below w.heap.size w w4) := HB3.out.trans (HL3.out.below ht HS.out)
  clear hl ht hm HL3 HB3
  go_wp2_with fail
  refine (get_any 6 _ HL4.out).mono ?_
  rintro e w5 ⟨rfl, hg⟩
  rw [show (Ol.at 6 [(0, 0, 2, ⟨#[]⟩)] 6) = Ol.d0 from Ol.t3.1, show Ol.getErr 6 [((0, 0, 2, ⟨#[]⟩) : Ol.It)].length 6 = 50 from Ol.t3.2]
  have HL5 : Hid (LogAt (w5.alloc Z4) s 6 v4 [(0, 0, 2, ⟨#[]⟩)]) := (HL4.out.still hg).still (World.grownBy_alloc _ _ _)
  have HB5 : Hid (Below w.heap.size w (w5.alloc Z4)) := HB4.out.trans (below_none (grown_trans hg (World.grownBy_alloc _ Z4 _)) HB4.out.size)
  clear hg HL4 HB4
  unfold item
  simp only
  go_wp2_with fail
  refine (get_any 7 _ HL5.out).mono ?_
  rintro e w6 ⟨rfl, hg⟩
  rw [show (Ol.at 6 [(0, 0, 2, ⟨#[]⟩)] 7) = (0, 0, 2, ⟨#[]⟩) from Ol.t4.1, show Ol.getErr 6 [((0, 0, 2, ⟨#[]⟩) : Ol.It)].length 7 = 0 from Ol.t4.2]
  have HL6 : Hid (LogAt w6 s 6 v4 [(0, 0, 2, ⟨#[]⟩)]) := HL5.out.still hg
  have HB6 : Hid (Below w.heap.size w w6) := HB5.out.trans (below_none hg HB5.out.size)
  clear hg HL5 HB5
  unfold item
  simp only
  have HL7 : Hid (LogAt (w6.alloc (B4 0 0 2 ⟨#[]⟩)) s 6 v4 [(0, 0, 2, ⟨#[]⟩)]) := HL6.out.still (World.grownBy_alloc _ _ _)
  have HB7 : Hid (Below w.heap.size w (w6.alloc (B4 0 0 2 ⟨#[]⟩))) := HB6.out.trans (below_none (World.grownBy_alloc _ _ _) HB6.out.size)
  clear HL6 HB6
  go_wp2_with fail
  refine (base_any _ HL7.out).mono ?_
  rintro e w8 ⟨rfl, rfl⟩
  go_wp2_with fail
  refine (last_g _ HL7.out).mono ?_
  rintro e w9 ⟨rfl, hg⟩
  have HB9 : Hid (Below w.heap.size w w9) := HB7.out.trans (below_none hg HB7.out.size)
  clear hg HB7 HL7
  go_wp2
  go_ret
  exact ⟨rfl, grown_of_below HB9.out _⟩
end Go.Proofs.Ytbjcleeiobaegaa
