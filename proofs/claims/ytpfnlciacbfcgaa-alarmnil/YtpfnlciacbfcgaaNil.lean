/-
  For any two ints n and at sextonlaw03.AlarmNil returns true, whatever the memory: a nil clock has no alarms. No condition.
-/
import Derived.Test.YtpfnlciacbfcgaaInts
import Derived.Test.YtpfnlciacbfcgaaLaw
namespace Go.Proofs.Ytpfnlciacbfcgaa
open Go.ChangeShapes Go.WideShapes Go.ChangeAt Go.RowKit Go.Maps

set_option maxHeartbeats 1000000 in
set_option maxRecDepth 100000 in
theorem nil_in_in {n a : Int} (w : World) (hr : -9223372036854775808 ≤ n ∧ n ≤ 9223372036854775807) (h1 : 0 ≤ n) (g1 : n ≤ 1099511627776) (h2 : 0 ≤ a) (g2 : a ≤ 1099511627776) :
    Calls Try.prog 6 #[.int .i64 n, .int .i64 a] w fun e w' => e = .returned (.bool true) ∧ Below w.heap.size w w' := by
  have HN : Hid (Al.fits n) := (⟨h1, g1⟩ : Al.fits n)
  have HA : Hid (Al.fits a) := (⟨h2, g2⟩ : Al.fits a)
  have HRR : Hid (-9223372036854775808 ≤ n ∧ n ≤ 9223372036854775807) := hr
  clear hr
  go_enter Try.func6, Try.ntmps6
  go_wp2_with fail
  refine (setNil_any _ ⟨HN.out, HA.out⟩).mono ?_
  rintro e w1 ⟨rfl, rfl⟩
  go_wp2_with fail
  refine (stopNil_any _ HN.out).mono ?_
  rintro e w1 ⟨rfl, rfl⟩
  go_wp2_with fail
  refine (dueNil_any _ HA.out).mono ?_
  rintro e w2 ⟨rfl, hg⟩
  have HB : Hid (Below w1.heap.size w1 w2) := below_none hg (Nat.le_refl _)
  clear hg
  go_wp2_with fail
  refine (nextNil_any _).mono ?_
  rintro e w3 ⟨rfl, rfl⟩
  go_wp2_with fail
  refine (at_nil _ HRR.out).mono ?_
  rintro e w3 ⟨rfl, rfl⟩
  go_wp2_with fail
  refine (len_nil _).mono ?_
  rintro e w3 ⟨rfl, rfl⟩
  go_wp2_with fail
  refine (three_any _).mono ?_
  rintro e w4 ⟨rfl, hg⟩
  have HB2 : Hid (Below _ _ w4) := HB.out.trans (below_none hg HB.out.size)
  clear hg HB
  go_wp2
  go_ret
  exact ⟨rfl, HB2.out⟩

set_option maxHeartbeats 1000000 in
set_option maxRecDepth 100000 in
theorem nil_in_low {n a : Int} (w : World) (hr : -9223372036854775808 ≤ n ∧ n ≤ 9223372036854775807) (h1 : 0 ≤ n) (g1 : n ≤ 1099511627776) (h2 : ¬ 0 ≤ a) (g2 : a < 0) :
    Calls Try.prog 6 #[.int .i64 n, .int .i64 a] w fun e w' => e = .returned (.bool true) ∧ Below w.heap.size w w' := by
  have HN : Hid (Al.fits n) := (⟨h1, g1⟩ : Al.fits n)
  have HA : Hid (¬ Al.fits a) := (fun f => h2 f.1 : ¬ Al.fits a)
  have HRR : Hid (-9223372036854775808 ≤ n ∧ n ≤ 9223372036854775807) := hr
  clear hr
  go_enter Try.func6, Try.ntmps6
  go_wp2_with fail
  refine (setArg_any none _ (fun f => HA.out f.2)).mono ?_
  rintro e w1 ⟨rfl, rfl⟩
  go_wp2_with fail
  refine (stopNil_any _ HN.out).mono ?_
  rintro e w1 ⟨rfl, rfl⟩
  go_wp2_with fail
  refine (dueArg_any none _ HA.out).mono ?_
  rintro e w2 ⟨rfl, rfl⟩
  have HB : Hid (Below w2.heap.size w2 w2) := Below.refl _ _
  go_wp2_with fail
  refine (nextNil_any _).mono ?_
  rintro e w3 ⟨rfl, rfl⟩
  go_wp2_with fail
  refine (at_nil _ HRR.out).mono ?_
  rintro e w3 ⟨rfl, rfl⟩
  go_wp2_with fail
  refine (len_nil _).mono ?_
  rintro e w3 ⟨rfl, rfl⟩
  go_wp2_with fail
  refine (three_any _).mono ?_
  rintro e w4 ⟨rfl, hg⟩
  have HB2 : Hid (Below _ _ w4) := HB.out.trans (below_none hg HB.out.size)
  clear hg HB
  go_wp2
  go_ret
  exact ⟨rfl, HB2.out⟩

set_option maxHeartbeats 1000000 in
set_option maxRecDepth 100000 in
theorem nil_in_high {n a : Int} (w : World) (hr : -9223372036854775808 ≤ n ∧ n ≤ 9223372036854775807) (h1 : 0 ≤ n) (g1 : n ≤ 1099511627776) (h2 : 0 ≤ a) (g2 : ¬ a ≤ 1099511627776) :
    Calls Try.prog 6 #[.int .i64 n, .int .i64 a] w fun e w' => e = .returned (.bool true) ∧ Below w.heap.size w w' := by
  have HN : Hid (Al.fits n) := (⟨h1, g1⟩ : Al.fits n)
  have HA : Hid (¬ Al.fits a) := (fun f => g2 f.2 : ¬ Al.fits a)
  have HRR : Hid (-9223372036854775808 ≤ n ∧ n ≤ 9223372036854775807) := hr
  clear hr
  go_enter Try.func6, Try.ntmps6
  go_wp2_with fail
  refine (setArg_any none _ (fun f => HA.out f.2)).mono ?_
  rintro e w1 ⟨rfl, rfl⟩
  go_wp2_with fail
  refine (stopNil_any _ HN.out).mono ?_
  rintro e w1 ⟨rfl, rfl⟩
  go_wp2_with fail
  refine (dueArg_any none _ HA.out).mono ?_
  rintro e w2 ⟨rfl, rfl⟩
  have HB : Hid (Below w2.heap.size w2 w2) := Below.refl _ _
  go_wp2_with fail
  refine (nextNil_any _).mono ?_
  rintro e w3 ⟨rfl, rfl⟩
  go_wp2_with fail
  refine (at_nil _ HRR.out).mono ?_
  rintro e w3 ⟨rfl, rfl⟩
  go_wp2_with fail
  refine (len_nil _).mono ?_
  rintro e w3 ⟨rfl, rfl⟩
  go_wp2_with fail
  refine (three_any _).mono ?_
  rintro e w4 ⟨rfl, hg⟩
  have HB2 : Hid (Below _ _ w4) := HB.out.trans (below_none hg HB.out.size)
  clear hg HB
  go_wp2
  go_ret
  exact ⟨by simp [g2], HB2.out⟩

set_option maxHeartbeats 1000000 in
set_option maxRecDepth 100000 in
theorem nil_low_in {n a : Int} (w : World) (hr : -9223372036854775808 ≤ n ∧ n ≤ 9223372036854775807) (h1 : ¬ 0 ≤ n) (g1 : n < 0) (h2 : 0 ≤ a) (g2 : a ≤ 1099511627776) :
    Calls Try.prog 6 #[.int .i64 n, .int .i64 a] w fun e w' => e = .returned (.bool true) ∧ Below w.heap.size w w' := by
  have HN : Hid (¬ Al.fits n) := (fun f => h1 f.1 : ¬ Al.fits n)
  have HA : Hid (Al.fits a) := (⟨h2, g2⟩ : Al.fits a)
  have HRR : Hid (-9223372036854775808 ≤ n ∧ n ≤ 9223372036854775807) := hr
  clear hr
  go_enter Try.func6, Try.ntmps6
  go_wp2_with fail
  refine (setArg_any none _ (fun f => HN.out f.1)).mono ?_
  rintro e w1 ⟨rfl, rfl⟩
  go_wp2_with fail
  refine (stopArg_any none _ HN.out).mono ?_
  rintro e w1 ⟨rfl, rfl⟩
  go_wp2_with fail
  refine (dueNil_any _ HA.out).mono ?_
  rintro e w2 ⟨rfl, hg⟩
  have HB : Hid (Below w1.heap.size w1 w2) := below_none hg (Nat.le_refl _)
  clear hg
  go_wp2_with fail
  refine (nextNil_any _).mono ?_
  rintro e w3 ⟨rfl, rfl⟩
  go_wp2_with fail
  refine (at_nil _ HRR.out).mono ?_
  rintro e w3 ⟨rfl, rfl⟩
  go_wp2_with fail
  refine (len_nil _).mono ?_
  rintro e w3 ⟨rfl, rfl⟩
  go_wp2_with fail
  refine (three_any _).mono ?_
  rintro e w4 ⟨rfl, hg⟩
  have HB2 : Hid (Below _ _ w4) := HB.out.trans (below_none hg HB.out.size)
  clear hg HB
  go_wp2
  go_ret
  exact ⟨rfl, HB2.out⟩

set_option maxHeartbeats 1000000 in
set_option maxRecDepth 100000 in
theorem nil_low_low {n a : Int} (w : World) (hr : -9223372036854775808 ≤ n ∧ n ≤ 9223372036854775807) (h1 : ¬ 0 ≤ n) (g1 : n < 0) (h2 : ¬ 0 ≤ a) (g2 : a < 0) :
    Calls Try.prog 6 #[.int .i64 n, .int .i64 a] w fun e w' => e = .returned (.bool true) ∧ Below w.heap.size w w' := by
  have HN : Hid (¬ Al.fits n) := (fun f => h1 f.1 : ¬ Al.fits n)
  have HA : Hid (¬ Al.fits a) := (fun f => h2 f.1 : ¬ Al.fits a)
  have HRR : Hid (-9223372036854775808 ≤ n ∧ n ≤ 9223372036854775807) := hr
  clear hr
  go_enter Try.func6, Try.ntmps6
  go_wp2_with fail
  refine (setArg_any none _ (fun f => HN.out f.1)).mono ?_
  rintro e w1 ⟨rfl, rfl⟩
  go_wp2_with fail
  refine (stopArg_any none _ HN.out).mono ?_
  rintro e w1 ⟨rfl, rfl⟩
  go_wp2_with fail
  refine (dueArg_any none _ HA.out).mono ?_
  rintro e w2 ⟨rfl, rfl⟩
  have HB : Hid (Below w2.heap.size w2 w2) := Below.refl _ _
  go_wp2_with fail
  refine (nextNil_any _).mono ?_
  rintro e w3 ⟨rfl, rfl⟩
  go_wp2_with fail
  refine (at_nil _ HRR.out).mono ?_
  rintro e w3 ⟨rfl, rfl⟩
  go_wp2_with fail
  refine (len_nil _).mono ?_
  rintro e w3 ⟨rfl, rfl⟩
  go_wp2_with fail
  refine (three_any _).mono ?_
  rintro e w4 ⟨rfl, hg⟩
  have HB2 : Hid (Below _ _ w4) := HB.out.trans (below_none hg HB.out.size)
  clear hg HB
  go_wp2
  go_ret
  exact ⟨rfl, HB2.out⟩

set_option maxHeartbeats 1000000 in
set_option maxRecDepth 100000 in
theorem nil_low_high {n a : Int} (w : World) (hr : -9223372036854775808 ≤ n ∧ n ≤ 9223372036854775807) (h1 : ¬ 0 ≤ n) (g1 : n < 0) (h2 : 0 ≤ a) (g2 : ¬ a ≤ 1099511627776) :
    Calls Try.prog 6 #[.int .i64 n, .int .i64 a] w fun e w' => e = .returned (.bool true) ∧ Below w.heap.size w w' := by
  have HN : Hid (¬ Al.fits n) := (fun f => h1 f.1 : ¬ Al.fits n)
  have HA : Hid (¬ Al.fits a) := (fun f => g2 f.2 : ¬ Al.fits a)
  have HRR : Hid (-9223372036854775808 ≤ n ∧ n ≤ 9223372036854775807) := hr
  clear hr
  go_enter Try.func6, Try.ntmps6
  go_wp2_with fail
  refine (setArg_any none _ (fun f => HN.out f.1)).mono ?_
  rintro e w1 ⟨rfl, rfl⟩
  go_wp2_with fail
  refine (stopArg_any none _ HN.out).mono ?_
  rintro e w1 ⟨rfl, rfl⟩
  go_wp2_with fail
  refine (dueArg_any none _ HA.out).mono ?_
  rintro e w2 ⟨rfl, rfl⟩
  have HB : Hid (Below w2.heap.size w2 w2) := Below.refl _ _
  go_wp2_with fail
  refine (nextNil_any _).mono ?_
  rintro e w3 ⟨rfl, rfl⟩
  go_wp2_with fail
  refine (at_nil _ HRR.out).mono ?_
  rintro e w3 ⟨rfl, rfl⟩
  go_wp2_with fail
  refine (len_nil _).mono ?_
  rintro e w3 ⟨rfl, rfl⟩
  go_wp2_with fail
  refine (three_any _).mono ?_
  rintro e w4 ⟨rfl, hg⟩
  have HB2 : Hid (Below _ _ w4) := HB.out.trans (below_none hg HB.out.size)
  clear hg HB
  go_wp2
  go_ret
  exact ⟨by simp [g2], HB2.out⟩

set_option maxHeartbeats 1000000 in
set_option maxRecDepth 100000 in
theorem nil_high_in {n a : Int} (w : World) (hr : -9223372036854775808 ≤ n ∧ n ≤ 9223372036854775807) (h1 : 0 ≤ n) (g1 : ¬ n ≤ 1099511627776) (h2 : 0 ≤ a) (g2 : a ≤ 1099511627776) :
    Calls Try.prog 6 #[.int .i64 n, .int .i64 a] w fun e w' => e = .returned (.bool true) ∧ Below w.heap.size w w' := by
  have HN : Hid (¬ Al.fits n) := (fun f => g1 f.2 : ¬ Al.fits n)
  have HA : Hid (Al.fits a) := (⟨h2, g2⟩ : Al.fits a)
  have HRR : Hid (-9223372036854775808 ≤ n ∧ n ≤ 9223372036854775807) := hr
  clear hr
  go_enter Try.func6, Try.ntmps6
  go_wp2_with fail
  refine (setArg_any none _ (fun f => HN.out f.1)).mono ?_
  rintro e w1 ⟨rfl, rfl⟩
  go_wp2_with fail
  refine (stopArg_any none _ HN.out).mono ?_
  rintro e w1 ⟨rfl, rfl⟩
  go_wp2_with fail
  refine (dueNil_any _ HA.out).mono ?_
  rintro e w2 ⟨rfl, hg⟩
  have HB : Hid (Below w1.heap.size w1 w2) := below_none hg (Nat.le_refl _)
  clear hg
  go_wp2_with fail
  refine (nextNil_any _).mono ?_
  rintro e w3 ⟨rfl, rfl⟩
  go_wp2_with fail
  refine (at_nil _ HRR.out).mono ?_
  rintro e w3 ⟨rfl, rfl⟩
  go_wp2_with fail
  refine (len_nil _).mono ?_
  rintro e w3 ⟨rfl, rfl⟩
  go_wp2_with fail
  refine (three_any _).mono ?_
  rintro e w4 ⟨rfl, hg⟩
  have HB2 : Hid (Below _ _ w4) := HB.out.trans (below_none hg HB.out.size)
  clear hg HB
  go_wp2
  go_ret
  exact ⟨by simp [g1], HB2.out⟩

set_option maxHeartbeats 1000000 in
set_option maxRecDepth 100000 in
theorem nil_high_low {n a : Int} (w : World) (hr : -9223372036854775808 ≤ n ∧ n ≤ 9223372036854775807) (h1 : 0 ≤ n) (g1 : ¬ n ≤ 1099511627776) (h2 : ¬ 0 ≤ a) (g2 : a < 0) :
    Calls Try.prog 6 #[.int .i64 n, .int .i64 a] w fun e w' => e = .returned (.bool true) ∧ Below w.heap.size w w' := by
  have HN : Hid (¬ Al.fits n) := (fun f => g1 f.2 : ¬ Al.fits n)
  have HA : Hid (¬ Al.fits a) := (fun f => h2 f.1 : ¬ Al.fits a)
  have HRR : Hid (-9223372036854775808 ≤ n ∧ n ≤ 9223372036854775807) := hr
  clear hr
  go_enter Try.func6, Try.ntmps6
  go_wp2_with fail
  refine (setArg_any none _ (fun f => HN.out f.1)).mono ?_
  rintro e w1 ⟨rfl, rfl⟩
  go_wp2_with fail
  refine (stopArg_any none _ HN.out).mono ?_
  rintro e w1 ⟨rfl, rfl⟩
  go_wp2_with fail
  refine (dueArg_any none _ HA.out).mono ?_
  rintro e w2 ⟨rfl, rfl⟩
  have HB : Hid (Below w2.heap.size w2 w2) := Below.refl _ _
  go_wp2_with fail
  refine (nextNil_any _).mono ?_
  rintro e w3 ⟨rfl, rfl⟩
  go_wp2_with fail
  refine (at_nil _ HRR.out).mono ?_
  rintro e w3 ⟨rfl, rfl⟩
  go_wp2_with fail
  refine (len_nil _).mono ?_
  rintro e w3 ⟨rfl, rfl⟩
  go_wp2_with fail
  refine (three_any _).mono ?_
  rintro e w4 ⟨rfl, hg⟩
  have HB2 : Hid (Below _ _ w4) := HB.out.trans (below_none hg HB.out.size)
  clear hg HB
  go_wp2
  go_ret
  exact ⟨by simp [g1], HB2.out⟩

set_option maxHeartbeats 1000000 in
set_option maxRecDepth 100000 in
theorem nil_high_high {n a : Int} (w : World) (hr : -9223372036854775808 ≤ n ∧ n ≤ 9223372036854775807) (h1 : 0 ≤ n) (g1 : ¬ n ≤ 1099511627776) (h2 : 0 ≤ a) (g2 : ¬ a ≤ 1099511627776) :
    Calls Try.prog 6 #[.int .i64 n, .int .i64 a] w fun e w' => e = .returned (.bool true) ∧ Below w.heap.size w w' := by
  have HN : Hid (¬ Al.fits n) := (fun f => g1 f.2 : ¬ Al.fits n)
  have HA : Hid (¬ Al.fits a) := (fun f => g2 f.2 : ¬ Al.fits a)
  have HRR : Hid (-9223372036854775808 ≤ n ∧ n ≤ 9223372036854775807) := hr
  clear hr
  go_enter Try.func6, Try.ntmps6
  go_wp2_with fail
  refine (setArg_any none _ (fun f => HN.out f.1)).mono ?_
  rintro e w1 ⟨rfl, rfl⟩
  go_wp2_with fail
  refine (stopArg_any none _ HN.out).mono ?_
  rintro e w1 ⟨rfl, rfl⟩
  go_wp2_with fail
  refine (dueArg_any none _ HA.out).mono ?_
  rintro e w2 ⟨rfl, rfl⟩
  have HB : Hid (Below w2.heap.size w2 w2) := Below.refl _ _
  go_wp2_with fail
  refine (nextNil_any _).mono ?_
  rintro e w3 ⟨rfl, rfl⟩
  go_wp2_with fail
  refine (at_nil _ HRR.out).mono ?_
  rintro e w3 ⟨rfl, rfl⟩
  go_wp2_with fail
  refine (len_nil _).mono ?_
  rintro e w3 ⟨rfl, rfl⟩
  go_wp2_with fail
  refine (three_any _).mono ?_
  rintro e w4 ⟨rfl, hg⟩
  have HB2 : Hid (Below _ _ w4) := HB.out.trans (below_none hg HB.out.size)
  clear hg HB
  go_wp2
  go_ret
  exact ⟨by simp [g1, g2], HB2.out⟩

theorem nil_any (n a : Int) (w : World) (hn : -9223372036854775808 ≤ n ∧ n ≤ 9223372036854775807) : Calls Try.prog 6 #[.int .i64 n, .int .i64 a] w fun e w' => e = .returned (.bool true) ∧ Below w.heap.size w w' := by
  by_cases h1 : 0 ≤ n
  · by_cases g1 : n ≤ 1099511627776
    · by_cases h2 : 0 ≤ a
      · by_cases g2 : a ≤ 1099511627776
        · exact nil_in_in w hn h1 g1 h2 g2
        · exact nil_in_high w hn h1 g1 h2 g2
      · exact nil_in_low w hn h1 g1 h2 (by omega)
    · by_cases h2 : 0 ≤ a
      · by_cases g2 : a ≤ 1099511627776
        · exact nil_high_in w hn h1 g1 h2 g2
        · exact nil_high_high w hn h1 g1 h2 g2
      · exact nil_high_low w hn h1 g1 h2 (by omega)
  · by_cases h2 : 0 ≤ a
    · by_cases g2 : a ≤ 1099511627776
      · exact nil_low_in w hn h1 (by omega) h2 g2
      · exact nil_low_high w hn h1 (by omega) h2 g2
    · exact nil_low_low w hn h1 (by omega) h2 (by omega)

set_option maxRecDepth 100000 in
theorem alarmNil_lifted (os : Os) (started : os.Started) (H : Type) (enc : TypeId × Value → H) :
    ReturnsInHanded {} Try.checked os 6 .any (Rows.alarmNilSpec.pre6 enc Try.prog Try.f6 Rows.alarmNilRow.domain false) (Rows.alarmNilSpec.post enc Try.prog Try.f6 false true false false) := by
  refine returnsInHanded_of_change (C := Try.checked) own started (by kernel_rfl) Try.func6
    (ChangeSpec.witness6 (enc := enc) (C := Try.checked) false ⟨#[], #[.int .i64 0, .int .i64 0], []⟩ 8 (by kernel_rfl) (by kernel_rfl) (by kernel_rfl) (by kernel_rfl)) ?_
  intro W base args ds gs before hval0 hW hcnd _
  have hval : ∀ (j : Nat) t v, Try.f6.params[j]? = some t → args[j]? = some v → Value.okWide Try.prog W .any base t v := hval0
  have hW' := hW
  obtain ⟨p, q, hA0, hV, rfl, hfz, hnd⟩ := hW
  have hA : DataW.TrodAll enc Try.prog W 0 (fun _ => true) true Try.f6.params.toList args.toList ds p := hA0
  rw [Try.params6] at hA hval
  obtain ⟨v0, v1, d0, d1, p0, p1, rfl, rfl, rfl, h0, h1⟩ := trodAll_two hA
  obtain ⟨rfl, rfl⟩ := trodVars_none hV
  obtain ⟨a, rfl, rfl, rfl, w0⟩ := open_int Try.underlying3 (hval 0 3 v0 rfl rfl) h0
  obtain ⟨b, rfl, rfl, rfl, w1⟩ := open_int Try.underlying3 (hval 1 3 v1 rfl rfl) h1
  refine (nil_any a b W (of_wf w0)).mono fun e W' ⟨he, hg⟩ => ⟨_, he, ?_⟩
  exact Law.post laidOut (by kernel_rfl) rfl Try.underlying4 hW' rfl rfl hg

theorem alarmNil_holds : Rows.AlarmNilSaid :=
  OpenClaim.holds_of_wide 6 Try.f6 rfl rfl rfl rfl rfl rfl rfl ⟨rfl, rfl, rfl, rfl, rfl⟩ rfl rfl rfl rfl rfl (by kernel_rfl) Try.func6 (by kernel_rfl)
    (of_decide_eq_true (by kernel_rfl)) (by unfold Func.isWrapper; first | (rw [if_pos (by decide +kernel)]; kernel_rfl) | (rw [if_neg (by decide +kernel)]; exact ⟨rfl, rfl⟩))
    (fun os started H enc _ => alarmNil_lifted os started H enc)
#print axioms alarmNil_holds
end Go.Proofs.Ytpfnlciacbfcgaa
