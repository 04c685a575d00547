/-
  The statements' small case: bytes written behind a run that they touch.
-/
import Derived.Test.YtkkaendfcfkbbaaWrite
import Derived.Test.YtkkaendfcfkbbaaRead
namespace Go.Proofs.Ytkkaendfcfkbbaa
open Go.ChangeShapes Go.WideShapes Go.ChangeAt Go.RowKit Go.Deep

theorem five_lit : Bl.wErr [(5, ⟨#[97, 98, 99]⟩)] 8 ⟨#[100, 101]⟩ = 0 ∧ Bl.wOut [(5, ⟨#[97, 98, 99]⟩)] 8 ⟨#[100, 101]⟩ = [(5, ⟨#[97, 98, 99, 100, 101]⟩)] := by decide +kernel
theorem five_lit2 : Bl.rErr [(5, ⟨#[97, 98, 99, 100, 101]⟩)] 20 4 3 = 0 ∧ Bl.rOut [(5, ⟨#[97, 98, 99, 100, 101]⟩)] 20 4 3 = ⟨#[0, 97, 98]⟩ := by decide +kernel
theorem five_at (W : World) (s : ByteArray) : FieldsAt (W.alloc (BR 5 s)).heap.size (W.alloc (BR 5 s)) (.slice (some ⟨W.heap.size, 0, none⟩) 1 1) [(5, s)] := by
  refine .inr ⟨W.heap.size, 0, 1, rfl, by simp, by simp, by simp, by decide, fun i hi => ?_⟩
  obtain rfl : i = 0 := by simpa using hi
  refine ⟨?_, ?_⟩ <;> simp
set_option maxHeartbeats 1000000 in
theorem five_any (w : World) : Calls Try.prog 13 #[] w fun e w' => e = .returned (.bool true) ∧ Below w.heap.size w w' := by
  have H1 : Hid (Bl.wErr [(5, ⟨#[97, 98, 99]⟩)] 8 ⟨#[100, 101]⟩ = 0 ∧ Bl.wOut [(5, ⟨#[97, 98, 99]⟩)] 8 ⟨#[100, 101]⟩ = [(5, ⟨#[97, 98, 99, 100, 101]⟩)]) := five_lit
  have H2 : Hid (Bl.rErr [(5, ⟨#[97, 98, 99, 100, 101]⟩)] 20 4 3 = 0 ∧ Bl.rOut [(5, ⟨#[97, 98, 99, 100, 101]⟩)] 20 4 3 = ⟨#[0, 97, 98]⟩) := five_lit2
  have HO1 : Hid (okFields [(5, ⟨#[97, 98, 99]⟩)]) := fun x hx => by simp at hx; subst hx; exact ⟨by decide, by decide⟩
  have HO2 : Hid (okFields [(5, ⟨#[97, 98, 99, 100, 101]⟩)]) := fun x hx => by simp at hx; subst hx; exact ⟨by decide, by decide⟩
  have HA : Hid (FieldsAt (w.alloc (BR 5 ⟨#[97, 98, 99]⟩)).heap.size (w.alloc (BR 5 ⟨#[97, 98, 99]⟩)) (.slice (some ⟨w.heap.size, 0, none⟩) 1 1) [(5, ⟨#[97, 98, 99]⟩)]) := five_at w _
  go_enter Try.func13, Try.ntmps13
  go_wp2_with fail
  refine (write_any _ [(5, ⟨#[97, 98, 99]⟩)] 8 ⟨#[100, 101]⟩ _ HA.out HO1.out (by decide)).mono ?_
  rintro e w1 ⟨r, rfl, hown, hb1⟩
  rw [H1.out.1]
  rw [H1.out.2] at hown
  have hF := FieldsAt.of_own hown
  have HB1 : Hid (Below w.heap.size w w1) := ((Below.refl _ _).alloc (Nat.le_refl _) _).trans (hb1.mono (by simp))
  clear hown hb1
  rcases hF with ⟨_, _, _, h⟩ | ⟨b, off, cap, rfl, hB, _, hlc, hm, hx⟩
  · cases h
  · obtain ⟨c0, c1⟩ := hx 0 (by simp)
    have HF : Hid (FieldsAt w1.heap.size w1 (.slice (some ⟨b, off, none⟩) 1 cap) [(5, ⟨#[97, 98, 99, 100, 101]⟩)]) := .inr ⟨b, off, cap, rfl, hB, by simp, hlc, hm, hx⟩
    unfold maxLen at hm
    simp only [List.length_cons, List.length_nil, Nat.zero_add, List.getD_cons_zero, Nat.zero_mul, Nat.add_zero] at c0 c1 hlc ⊢
    clear hx
    go_wp2_with fail
    refine (read_any _ [(5, ⟨#[97, 98, 99, 100, 101]⟩)] 20 4 3 _ HF.out HO2.out).mono ?_
    rintro e w2 ⟨rfl, hb2⟩
    rw [H2.out.1, H2.out.2]
    rw [← hb2.cell (p := ⟨b, off, none⟩) hB] at c0
    rw [← hb2.cell (p := ⟨b, off + 1, none⟩) hB] at c1
    have HB2 : Hid (Below w.heap.size w w2) := HB1.out.trans (hb2.mono HB1.out.size)
    clear hb2
    go_wp2
    go_ret
    exact ⟨rfl, HB2.out⟩
end Go.Proofs.Ytkkaendfcfkbbaa
