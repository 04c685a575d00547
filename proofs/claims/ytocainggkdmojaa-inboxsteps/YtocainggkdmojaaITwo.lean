/-
  The two texts that every statement asks; a nil inbox drained.
-/
import Derived.Test.YtocainggkdmojaaIDrain
namespace Go.Proofs.Ytocainggkdmojaa
open Go.Conc Go.RowKit Go.ChangeShapes Go.WideShapes Go.ChangeAt Go.Deep
theorem drain_nil (w : World) : Calls Try.prog 13 #[.pointer none] w fun e w' => e = .returned (.slice none 0 0) ∧ w' = w := by
  go_enter Try.func13, Try.ntmps13
  go_wp2
  refine wp_loop_rounds 1 ?_
  rw [rounds_succ]
  go_wp2_with fail
  refine (take_nil _).mono ?_
  rintro e w1 ⟨rfl, rfl⟩
  go_wp2
  go_ret
  exact ⟨rfl, rfl⟩
set_option maxHeartbeats 1000000 in
theorem two_any (w : World) : Calls Try.prog 8 #[] w fun e w' => e = .returned (.bool true) ∧ Below w.heap.size w w' := by
  obtain ⟨B, hB⟩ : ∃ B, w.heap.size + 2 = B := ⟨_, rfl⟩
  have HN : Hid (Calls Try.prog 6 #[.int .i64 4] w fun e w' => ∃ cu cn, e = .returned (.tuple #[.pointer (some ⟨B, 0, none⟩), .int .i64 0]) ∧ In w' B cu cn 4 false [] [] ∧ w.heap.size ≤ cu ∧ w.heap.size ≤ cn ∧ Below w.heap.size w w') := by rw [← hB]; exact new_ok 4 w (by decide) (by decide)
  have HBW : Hid (w.heap.size ≤ B) := by show _ ≤ _; omega
  clear hB
  go_enter Try.func8, Try.ntmps8
  go_wp2_with fail
  refine HN.out.mono ?_
  rintro e w1 ⟨cu, cn, rfl, hi, hu, hn, hb⟩
  have H1 : Hid (In w1 B cu cn 4 false [] [] ∧ Below w.heap.size w w1) := ⟨hi, hb⟩
  have HUN : Hid (w.heap.size ≤ cu ∧ w.heap.size ≤ cn) := ⟨hu, hn⟩
  have HUP : Hid (∀ x y : World, Below w.heap.size w x → Oth B cu cn x y → Below w.heap.size w y) := fun x y h o => o.below h h.size HBW.out hu hn
  clear hi hu hn hb HN
  go_wp2_with fail
  refine (put_any B cu cn 4 false false [] [] ⟨#[97]⟩ _ H1.out.1).mono ?_
  rintro e w2 ⟨he, hi, ho⟩
  simp [putE] at he
  subst he
  have H2 : Hid (In w2 B cu cn 4 false [] [⟨#[97]⟩] ∧ Below w.heap.size w w2) := ⟨hi, HUP.out _ _ H1.out.2 ho⟩
  clear hi ho H1
  go_wp2_with fail
  refine (put_any B cu cn 4 false true [] [⟨#[97]⟩] ⟨#[98]⟩ _ H2.out.1).mono ?_
  rintro e w3 ⟨he, hi, ho⟩
  simp [putE] at he
  subst he
  have H3 : Hid (In w3 B cu cn 4 false [⟨#[98]⟩] [⟨#[97]⟩] ∧ Below w.heap.size w w3) := ⟨hi, HUP.out _ _ H2.out.2 ho⟩
  clear hi ho H2
  go_wp2_with fail
  refine (take_any B cu cn 4 false [⟨#[98]⟩] [⟨#[97]⟩] _ H3.out.1).mono ?_
  rintro e w4 ⟨he, hi, ho⟩
  simp only [tkS, tkB, tkE, List.isEmpty_cons, Bool.not_false] at he
  subst he
  have H4 : Hid (In w4 B cu cn 4 false [] [⟨#[97]⟩] ∧ Below w.heap.size w w4) := ⟨hi, HUP.out _ _ H3.out.2 ho⟩
  clear hi ho H3
  go_wp2_with fail
  refine (take_any B cu cn 4 false [] [⟨#[97]⟩] _ H4.out.1).mono ?_
  rintro e w5 ⟨he, hi, ho⟩
  simp only [tkS, tkB, tkE, List.isEmpty_nil, Bool.not_true] at he
  subst he
  have H5 : Hid (Below w.heap.size w w5) := HUP.out _ _ H4.out.2 ho
  clear hi ho H4
  have t1 : ((⟨#[98]⟩ : ByteArray).toList == (⟨#[98]⟩ : ByteArray).toList) = true := beq_self_eq_true _
  have t2 : ((⟨#[97]⟩ : ByteArray).toList == (⟨#[97]⟩ : ByteArray).toList) = true := beq_self_eq_true _
  go_wp2
  go_ret
  exact ⟨rfl, H5.out⟩
end Go.Proofs.Ytocainggkdmojaa
