/-
  The small case that every statement of the layer asks: a client's second request.
-/
import Derived.Test.YtaojdndhhgmdmaaPut
namespace Go.Proofs.Ytaojdndhhgmdmaa
open Go.ChangeShapes Go.WideShapes Go.ChangeAt Go.RowKit Go.Deep
namespace Se
abbrev L1 : List Sea := [(5, 2, ⟨#[120]⟩)]
theorem one_put : putErr [] 5 2 ⟨#[120]⟩ = 0 ∧ put [] 5 2 ⟨#[120]⟩ = L1 := by
  have h : putErr [] 5 2 ⟨#[120]⟩ = 0 := by decide
  exact ⟨h, by unfold put; rw [if_pos h]; rfl⟩
theorem one_ok : ok L1 = true := by decide
theorem one_r (r : Int) (h : Rq r) : rErr L1 5 r = 0 := by
  unfold rErr cErr
  rw [one_ok]
  simp [h, show Cl 5 from ⟨by decide, by decide⟩]
theorem one_seat : seat L1 5 = some (5, 2, ⟨#[120]⟩) := rfl
theorem one_2 : what L1 5 2 = 2 ∧ told L1 5 2 = ⟨#[120]⟩ ∧ rErr L1 5 2 = 0 := by
  have hr := one_r 2 ⟨by decide, by decide⟩
  obtain ⟨h1, h2⟩ := what_some hr one_seat
  exact ⟨h1, h2, hr⟩
theorem one_1 : what L1 5 1 = 3 ∧ told L1 5 1 = ⟨#[]⟩ ∧ rErr L1 5 1 = 0 := by
  have hr := one_r 1 ⟨by decide, by decide⟩
  obtain ⟨h1, h2⟩ := what_some hr one_seat
  exact ⟨h1, h2, hr⟩
theorem one_3 : what L1 5 3 = 1 ∧ told L1 5 3 = ⟨#[]⟩ ∧ rErr L1 5 3 = 0 := by
  have hr := one_r 3 ⟨by decide, by decide⟩
  obtain ⟨h1, h2⟩ := what_some hr one_seat
  exact ⟨h1, h2, hr⟩
theorem one_e : putErr L1 5 2 ⟨#[121]⟩ = 7 := by
  unfold putErr
  rw [if_pos one_2.2.2, if_neg (by decide), one_2.1]
  rfl
end Se
set_option maxHeartbeats 4000000 in
theorem one_any (w : World) : Calls Try.prog 14 #[] w fun e w' => e = .returned (.bool true) ∧ Below w.heap.size w w' := by
  go_enter Try.func14, Try.ntmps14
  go_wp2_with fail
  refine (put_any (.slice none 0 0) [] 5 2 ⟨#[120]⟩ _ At.nil).mono ?_
  rintro e w1 ⟨p1, n1, q1, rfl, hu1, hb1⟩
  rw [Se.one_put.2] at hu1
  rw [Se.one_put.1]
  have HB1 : Hid (Below w.heap.size w w1) := hb1
  have HU1 : Hid (AtW ES w1 (.slice p1 n1 q1) Se.L1) := hu1.wide
  clear hu1 hb1
  go_wp2_with fail
  refine (ask_any _ Se.L1 5 2 _ HU1.out).mono ?_
  rintro e w2 ⟨rfl, hb⟩
  rw [Se.one_2.1, Se.one_2.2.1, Se.one_2.2.2]
  have HB2 : Hid (Below w.heap.size w w2) := HB1.out.trans (hb.mono HB1.out.size)
  have HU2 : Hid (AtW ES w2 (.slice p1 n1 q1) Se.L1) := HU1.out.up hb
  clear hb
  go_wp2_with fail
  refine (ask_any _ Se.L1 5 1 _ HU2.out).mono ?_
  rintro e w3 ⟨rfl, hb⟩
  rw [Se.one_1.1, Se.one_1.2.1, Se.one_1.2.2]
  have HB3 : Hid (Below w.heap.size w w3) := HB2.out.trans (hb.mono HB2.out.size)
  have HU3 : Hid (AtW ES w3 (.slice p1 n1 q1) Se.L1) := HU2.out.up hb
  clear hb
  go_wp2_with fail
  refine (ask_any _ Se.L1 5 3 _ HU3.out).mono ?_
  rintro e w4 ⟨rfl, hb⟩
  rw [Se.one_3.1, Se.one_3.2.1, Se.one_3.2.2]
  have HB4 : Hid (Below w.heap.size w w4) := HB3.out.trans (hb.mono HB3.out.size)
  have HU4 : Hid (AtW ES w4 (.slice p1 n1 q1) Se.L1) := HU3.out.up hb
  clear hb
  go_wp2_with fail
  refine (put_any _ Se.L1 5 2 ⟨#[121]⟩ _ HU4.out).mono ?_
  rintro e w5 ⟨p5, n5, q5, rfl, -, hb⟩
  rw [Se.one_e]
  have HB5 : Hid (Below w.heap.size w w5) := HB4.out.trans (hb.mono HB4.out.size)
  clear hb
  go_wp2
  go_ret
  exact ⟨rfl, HB5.out⟩
end Go.Proofs.Ytaojdndhhgmdmaa
