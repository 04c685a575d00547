/-
  For any three ints sextonlaw03.AlarmLast returns true, whatever the memory: an alarm is due when it was set last. No condition.
-/
import Derived.Test.YtpfnlciacbfcgaaInts
import Derived.Test.YtpfnlciacbfcgaaLaw
namespace Go.Proofs.Ytpfnlciacbfcgaa
open Go.ChangeShapes Go.WideShapes Go.ChangeAt Go.RowKit Go.Maps

namespace Al
theorem set_nil (n a : Int) : set [] n a = [(n, a)] := rfl
theorem set_one (n a b : Int) : set [(n, a)] n b = [(n, b)] := by simp [set, drop, ins]
theorem find_one (n a : Int) : find [(n, a)] n = some a := by simp [find]
theorem due_early (n a : Int) : due [(n, a)] (a - 1) = [] ∧ rest [(n, a)] (a - 1) = [(n, a)] := by
  constructor
  · simp [due]; omega
  · simp [rest]; omega
theorem due_now (n a : Int) : due [(n, a)] a = [n] ∧ rest [(n, a)] a = [] := by simp [due, rest]
theorem drop_one (n a : Int) : drop [(n, a)] n = [] := by simp [drop]
theorem due_none (a : Int) : due [] a = [] ∧ rest [] a = [] := by simp [due, rest]
end Al
theorem owns_slice {w : World} {base : Nat} {e : TypeId} {size : Nat} {v : Value} {n : Nat} {xs : List Value} (h : w.ownsRow base e size v n xs) : ∃ p cap, v = .slice p n cap := by
  rcases h.2 with ⟨rfl, rfl⟩ | ⟨g, cap, cur, rfl, _⟩
  · exact ⟨_, _, rfl⟩
  · exact ⟨_, _, rfl⟩

set_option maxHeartbeats 1000000 in
set_option maxRecDepth 100000 in
theorem last_first (n a b : Int) (w : World) (h : ¬ (Al.fits n ∧ Al.fits a)) : Calls Try.prog 7 #[.int .i64 n, .int .i64 a, .int .i64 b] w fun e w' => e = .returned (.bool true) ∧ Below w.heap.size w w' := by
  have H1 : Hid (¬ (Al.fits n ∧ Al.fits a)) := h
  by_cases h2 : Al.fits n ∧ Al.fits b
  · have H2 : Hid (Al.fits n ∧ Al.fits b) := h2
    clear h h2
    go_enter Try.func7, Try.ntmps7
    go_wp2_with fail
    refine (new_ex _).mono ?_
    rintro e w1 ⟨s, bm, rfl, hs, hm, hk1, hg1⟩
    have HS : Hid (w.heap.size ≤ s ∧ w.heap.size ≤ bm) := ⟨hs, hm⟩
    have HK1 : Hid (ClockAt w1 s bm []) := hk1
    have HB1 : Hid (Below w.heap.size w w1) := below_none hg1 (Nat.le_refl _)
    clear hg1 hk1 hs hm
    go_wp2_with fail
    refine (setArg_any _ _ H1.out).mono ?_
    rintro e w2 ⟨rfl, rfl⟩
    go_wp2_with fail
    refine (setOk_any _ HK1.out H2.out (Or.inr (by simp))).mono ?_
    rintro e w3 ⟨rfl, hk2, hg2⟩
    have HB2 : Hid (Below w.heap.size w w3) := HB1.out.trans (below_clock hg2 HS.out.2 HB1.out.size)
    clear hk2 hg2 HB1 HK1
    go_wp2_with fail
    refine (three_any _).mono ?_
    rintro e w4 ⟨rfl, hg⟩
    have HB3 : Hid (Below w.heap.size w w4) := HB2.out.trans (below_none hg HB2.out.size)
    clear hg HB2
    go_wp2
    go_ret
    exact ⟨rfl, HB3.out⟩
  · have H2 : Hid (¬ (Al.fits n ∧ Al.fits b)) := h2
    clear h h2
    go_enter Try.func7, Try.ntmps7
    go_wp2_with fail
    refine (new_ex _).mono ?_
    rintro e w1 ⟨s, bm, rfl, hs, hm, hk1, hg1⟩
    have HB1 : Hid (Below w.heap.size w w1) := below_none hg1 (Nat.le_refl _)
    clear hg1 hk1 hs hm
    go_wp2_with fail
    refine (setArg_any _ _ H1.out).mono ?_
    rintro e w2 ⟨rfl, rfl⟩
    go_wp2_with fail
    refine (setArg_any _ _ H2.out).mono ?_
    rintro e w3 ⟨rfl, rfl⟩
    go_wp2_with fail
    refine (three_any _).mono ?_
    rintro e w4 ⟨rfl, hg⟩
    have HB3 : Hid (Below w.heap.size w w4) := HB1.out.trans (below_none hg HB1.out.size)
    clear hg HB1
    go_wp2
    go_ret
    exact ⟨rfl, HB3.out⟩

set_option maxHeartbeats 1000000 in
set_option maxRecDepth 100000 in
theorem last_second (n a b : Int) (w : World) (h : Al.fits n ∧ Al.fits a) (h2 : ¬ Al.fits b) : Calls Try.prog 7 #[.int .i64 n, .int .i64 a, .int .i64 b] w fun e w' => e = .returned (.bool true) ∧ Below w.heap.size w w' := by
  have H1 : Hid (Al.fits n ∧ Al.fits a) := h
  have H2 : Hid (¬ (Al.fits n ∧ Al.fits b)) := fun f => h2 f.2
  clear h h2
  go_enter Try.func7, Try.ntmps7
  go_wp2_with fail
  refine (new_ex _).mono ?_
  rintro e w1 ⟨s, bm, rfl, hs, hm, hk1, hg1⟩
  have HS : Hid (w.heap.size ≤ s ∧ w.heap.size ≤ bm) := ⟨hs, hm⟩
  have HK1 : Hid (ClockAt w1 s bm []) := hk1
  have HB1 : Hid (Below w.heap.size w w1) := below_none hg1 (Nat.le_refl _)
  clear hg1 hk1 hs hm
  go_wp2_with fail
  refine (setOk_any _ HK1.out H1.out (Or.inr (by simp))).mono ?_
  rintro e w3 ⟨rfl, hk2, hg2⟩
  have HB2 : Hid (Below w.heap.size w w3) := HB1.out.trans (below_clock hg2 HS.out.2 HB1.out.size)
  clear hk2 hg2 HB1 HK1
  go_wp2_with fail
  refine (setArg_any _ _ H2.out).mono ?_
  rintro e w2 ⟨rfl, rfl⟩
  go_wp2_with fail
  refine (three_any _).mono ?_
  rintro e w4 ⟨rfl, hg⟩
  have HB3 : Hid (Below w.heap.size w w4) := HB2.out.trans (below_none hg HB2.out.size)
  clear hg HB2
  go_wp2
  go_ret
  exact ⟨rfl, HB3.out⟩

/-- Due at the moment itself, and all that follows. -/
theorem fits_range {x : Int} (h : Al.fits x) : -9223372036854775808 ≤ x ∧ x ≤ 9223372036854775807 := by
  simp only [Al.fits] at h
  omega

set_option maxHeartbeats 2000000 in
set_option maxRecDepth 100000 in
theorem last_all (n a b : Int) (w : World) (h : Al.fits n ∧ Al.fits a) (h2 : Al.fits b) : Calls Try.prog 7 #[.int .i64 n, .int .i64 a, .int .i64 b] w fun e w' => e = .returned (.bool true) ∧ Below w.heap.size w w' := by
  have H1 : Hid (Al.fits n ∧ Al.fits a) := h
  have H2 : Hid (Al.fits n ∧ Al.fits b) := ⟨h.1, h2⟩
  have hb := h2.1
  have hb2 : b ≤ 1099511627776 := h2.2
  clear h h2
  go_enter Try.func7, Try.ntmps7
  go_wp2_with fail
  refine (new_ex _).mono ?_
  rintro e w1 ⟨s, bm, rfl, hs, hm, hk1, hg1⟩
  have HS : Hid (w.heap.size ≤ s ∧ w.heap.size ≤ bm) := ⟨hs, hm⟩
  have HK1 : Hid (ClockAt w1 s bm []) := hk1
  have HB1 : Hid (Below w.heap.size w w1) := below_none hg1 (Nat.le_refl _)
  clear hg1 hk1 hs hm
  go_wp2_with fail
  refine (setOk_any _ HK1.out H1.out (Or.inr (by simp))).mono ?_
  rintro e w2 ⟨rfl, hk2, hg2⟩
  rw [Al.set_nil] at hk2
  have HK2 : Hid (ClockAt w2 s bm [(n, a)]) := hk2
  have HB2 : Hid (Below w.heap.size w w2) := HB1.out.trans (below_clock hg2 HS.out.2 HB1.out.size)
  clear hk2 hg2 HB1 HK1
  go_wp2_with fail
  refine (setOk_any _ HK2.out H2.out (Or.inr (by simp))).mono ?_
  rintro e w3 ⟨rfl, hk2, hg2⟩
  rw [Al.set_one] at hk2
  have HK3 : Hid (ClockAt w3 s bm [(n, b)]) := hk2
  have HB3 : Hid (Below w.heap.size w w3) := HB2.out.trans (below_clock hg2 HS.out.2 HB2.out.size)
  clear hk2 hg2 HB2 HK2
  go_wp2_with fail
  refine (at_any _ HK3.out (fits_range H1.out.1)).mono ?_
  rintro e w4 ⟨rfl, rfl⟩
  rw [Al.find_one]
  go_wp2_with fail
  refine (len_any _ HK3.out).mono ?_
  rintro e w5 ⟨rfl, rfl⟩
  by_cases hpos : 0 < b
  · go_wp2_with fail
    refine (dueOk_any (now := b - 1) _ HK3.out (by constructor <;> omega)).mono ?_
    rintro e w6 ⟨v1, rfl, hr1, hk2, hg2⟩
    rw [(Al.due_early n b).2] at hk2
    rw [(Al.due_early n b).1] at hr1
    have HK4 : Hid (ClockAt w6 s bm [(n, b)]) := hk2
    have HB4 : Hid (Below w.heap.size w w6) := HB3.out.trans (below_clock hg2 HS.out.2 HB3.out.size)
    obtain ⟨p1, c1, rfl⟩ := owns_slice hr1
    clear hk2 hg2 HB3 HK3 hr1
    go_wp2_with fail
    refine (dueOk_any (now := b) _ HK4.out H2.out.2).mono ?_
    rintro e w7 ⟨v2, rfl, hr2, hk2, hg2⟩
    rw [(Al.due_now n b).2] at hk2
    rw [(Al.due_now n b).1] at hr2
    have HK5 : Hid (ClockAt w7 s bm []) := hk2
    have HB5 : Hid (Below w.heap.size w w7) := HB4.out.trans (below_clock hg2 HS.out.2 HB4.out.size)
    rcases hr2.2 with ⟨_, h0⟩ | ⟨g, cap, cur, rfl, _, hgb, hnc, hcm, hcs, _⟩
    · simp at h0
    have hcell := hr2.cells (g := g) rfl 0 (.int .i64 n) (by simp)
    rw [WideShapes.add_plain] at hcell
    simp only [Nat.add_zero] at hcell
    simp only [List.length_cons, List.length_nil, Nat.zero_add] at hnc ⊢
    clear hk2 hg2 HB4 HK4 hr2 hgb hcs
    go_wp2_with fail
    refine (len_any _ HK5.out).mono ?_
    rintro e w8 ⟨rfl, rfl⟩
    go_wp2_with fail
    refine (setOk_any _ HK5.out H1.out (Or.inr (by simp))).mono ?_
    rintro e w9 ⟨rfl, hk2, hg2⟩
    rw [Al.set_nil] at hk2
    have HK6 : Hid (ClockAt w9 s bm [(n, a)]) := hk2
    have HB6 : Hid (Below w.heap.size w w9) := HB5.out.trans (below_clock hg2 HS.out.2 HB5.out.size)
    clear hk2 hg2 HB5 HK5 hcell
    go_wp2_with fail
    refine (stopOk_any _ HK6.out H1.out.1).mono ?_
    rintro e w10 ⟨rfl, hk2, hg2⟩
    rw [Al.drop_one] at hk2
    rw [Al.find_one]
    have HK7 : Hid (ClockAt w10 s bm []) := hk2
    have HB7 : Hid (Below w.heap.size w w10) := HB6.out.trans (below_clock hg2 HS.out.2 HB6.out.size)
    clear hk2 hg2 HB6 HK6
    go_wp2_with fail
    refine (dueOk_any (now := 1099511627776) _ HK7.out (by simp [Al.fits])).mono ?_
    rintro e w11 ⟨v3, rfl, hr3, hk2, hg2⟩
    rw [(Al.due_none 1099511627776).1] at hr3
    have HB8 : Hid (Below w.heap.size w w11) := HB7.out.trans (below_clock hg2 HS.out.2 HB7.out.size)
    obtain ⟨p3, c3, rfl⟩ := owns_slice hr3
    clear hk2 hg2 HB7 HK7 hr3
    go_wp2_with fail
    refine (three_any _).mono ?_
    rintro e w12 ⟨rfl, hg⟩
    have HB9 : Hid (Below w.heap.size w w12) := HB8.out.trans (below_none hg HB8.out.size)
    clear hg HB8
    go_wp2
    go_ret
    exact ⟨rfl, HB9.out⟩
  · obtain rfl : b = 0 := by omega
    go_wp2_with fail
    refine (dueOk_any (now := 0) _ HK3.out H2.out.2).mono ?_
    rintro e w7 ⟨v2, rfl, hr2, hk2, hg2⟩
    rw [(Al.due_now n 0).2] at hk2
    rw [(Al.due_now n 0).1] at hr2
    have HK5 : Hid (ClockAt w7 s bm []) := hk2
    have HB5 : Hid (Below w.heap.size w w7) := HB3.out.trans (below_clock hg2 HS.out.2 HB3.out.size)
    rcases hr2.2 with ⟨_, h0⟩ | ⟨g, cap, cur, rfl, _, hgb, hnc, hcm, hcs, _⟩
    · simp at h0
    have hcell := hr2.cells (g := g) rfl 0 (.int .i64 n) (by simp)
    rw [WideShapes.add_plain] at hcell
    simp only [Nat.add_zero] at hcell
    simp only [List.length_cons, List.length_nil, Nat.zero_add] at hnc ⊢
    clear hk2 hg2 HB3 HK3 hr2 hgb hcs
    go_wp2_with fail
    refine (len_any _ HK5.out).mono ?_
    rintro e w8 ⟨rfl, rfl⟩
    go_wp2_with fail
    refine (setOk_any _ HK5.out H1.out (Or.inr (by simp))).mono ?_
    rintro e w9 ⟨rfl, hk2, hg2⟩
    rw [Al.set_nil] at hk2
    have HK6 : Hid (ClockAt w9 s bm [(n, a)]) := hk2
    have HB6 : Hid (Below w.heap.size w w9) := HB5.out.trans (below_clock hg2 HS.out.2 HB5.out.size)
    clear hk2 hg2 HB5 HK5 hcell
    go_wp2_with fail
    refine (stopOk_any _ HK6.out H1.out.1).mono ?_
    rintro e w10 ⟨rfl, hk2, hg2⟩
    rw [Al.drop_one] at hk2
    rw [Al.find_one]
    have HK7 : Hid (ClockAt w10 s bm []) := hk2
    have HB7 : Hid (Below w.heap.size w w10) := HB6.out.trans (below_clock hg2 HS.out.2 HB6.out.size)
    clear hk2 hg2 HB6 HK6
    go_wp2_with fail
    refine (dueOk_any (now := 1099511627776) _ HK7.out (by simp [Al.fits])).mono ?_
    rintro e w11 ⟨v3, rfl, hr3, hk2, hg2⟩
    rw [(Al.due_none 1099511627776).1] at hr3
    have HB8 : Hid (Below w.heap.size w w11) := HB7.out.trans (below_clock hg2 HS.out.2 HB7.out.size)
    obtain ⟨p3, c3, rfl⟩ := owns_slice hr3
    clear hk2 hg2 HB7 HK7 hr3
    go_wp2_with fail
    refine (three_any _).mono ?_
    rintro e w12 ⟨rfl, hg⟩
    have HB9 : Hid (Below w.heap.size w w12) := HB8.out.trans (below_none hg HB8.out.size)
    clear hg HB8
    go_wp2
    go_ret
    exact ⟨rfl, HB9.out⟩

theorem last_any (n a b : Int) (w : World) : Calls Try.prog 7 #[.int .i64 n, .int .i64 a, .int .i64 b] w fun e w' => e = .returned (.bool true) ∧ Below w.heap.size w w' := by
  by_cases h : Al.fits n ∧ Al.fits a
  · by_cases h2 : Al.fits b
    · exact last_all n a b w h h2
    · exact last_second n a b w h h2
  · exact last_first n a b w h

set_option maxRecDepth 100000 in
theorem alarmLast_lifted (os : Os) (started : os.Started) (H : Type) (enc : TypeId × Value → H) :
    ReturnsInHanded {} Try.checked os 7 .any (Rows.alarmLastSpec.pre6 enc Try.prog Try.f7 Rows.alarmLastRow.domain false) (Rows.alarmLastSpec.post enc Try.prog Try.f7 false true false false) := by
  refine returnsInHanded_of_change (C := Try.checked) own started (by kernel_rfl) Try.func7
    (ChangeSpec.witness6 (enc := enc) (C := Try.checked) false ⟨#[], #[.int .i64 0, .int .i64 0, .int .i64 0], []⟩ 8 (by kernel_rfl) (by kernel_rfl) (by kernel_rfl) (by kernel_rfl)) ?_
  intro W base args ds gs before hval0 hW hcnd _
  have hval : ∀ (j : Nat) t v, Try.f7.params[j]? = some t → args[j]? = some v → Value.okWide Try.prog W .any base t v := hval0
  have hW' := hW
  obtain ⟨p, q, hA0, hV, rfl, hfz, hnd⟩ := hW
  have hA : DataW.TrodAll enc Try.prog W 0 (fun _ => true) true Try.f7.params.toList args.toList ds p := hA0
  rw [Try.params7] at hA hval
  obtain ⟨v0, v1, v2, d0, d1, d2, p0, p1, p2, rfl, rfl, rfl, h0, h1, h2⟩ := trodAll_three hA
  obtain ⟨rfl, rfl⟩ := trodVars_none hV
  obtain ⟨a, rfl, rfl, rfl, w0⟩ := open_int Try.underlying3 (hval 0 3 v0 rfl rfl) h0
  obtain ⟨b, rfl, rfl, rfl, w1⟩ := open_int Try.underlying3 (hval 1 3 v1 rfl rfl) h1
  obtain ⟨c, rfl, rfl, rfl, w2⟩ := open_int Try.underlying3 (hval 2 3 v2 rfl rfl) h2
  refine (last_any a b c W).mono fun e W' ⟨he, hg⟩ => ⟨_, he, ?_⟩
  exact Law.post laidOut (by kernel_rfl) rfl Try.underlying4 hW' rfl rfl hg

theorem alarmLast_holds : Rows.AlarmLastSaid :=
  OpenClaim.holds_of_wide 7 Try.f7 rfl rfl rfl rfl rfl rfl rfl ⟨rfl, rfl, rfl, rfl, rfl⟩ rfl rfl rfl rfl rfl (by kernel_rfl) Try.func7 (by kernel_rfl)
    (of_decide_eq_true (by kernel_rfl)) (by unfold Func.isWrapper; first | (rw [if_pos (by decide +kernel)]; kernel_rfl) | (rw [if_neg (by decide +kernel)]; exact ⟨rfl, rfl⟩))
    (fun os started H enc _ => alarmLast_lifted os started H enc)
#print axioms alarmLast_holds
end Go.Proofs.Ytpfnlciacbfcgaa
