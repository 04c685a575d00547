/-
  panel's Replica, Primary, Turn, Enough, and the document's Faults, Primary, Turn: what each answers; they turn nothing.
-/
import Derived.Test.YtoplngccejkkcaaBase
namespace Go.Proofs.Ytoplngccejkkcaa
open Go.RowKit

theorem replica_no {n : Int} (k : Int) (w : World) (h : Pn.No n) : Calls Try.prog 10 #[.int .i64 n, .int .i64 k] w fun e w' => e = .returned (.tuple #[.bool false, .int .i64 1]) ∧ w' = w := by
  have H : Hid (Pn.No n) := h
  clear h
  go_enter Try.func10, Try.ntmps10
  go_wp2_with fail
  refine (isPanel_no _ H.out).mono ?_
  rintro e w' ⟨rfl, rfl⟩
  go_wp2
  go_ret2
  exact ⟨rfl, rfl⟩
theorem replica_arg {n f : Int} (k : Int) (w : World) (h : Pn.Is n f) (hk : k < 0 ∨ n ≤ k) : Calls Try.prog 10 #[.int .i64 n, .int .i64 k] w fun e w' => e = .returned (.tuple #[.bool false, .int .i64 1]) ∧ w' = w := by
  have H : Hid (Pn.Is n f) := h
  clear h
  rcases hk with hk | hk
  · go_enter Try.func10, Try.ntmps10
    go_wp2_with fail
    refine (isPanel_yes _ H.out).mono ?_
    rintro e w' ⟨rfl, rfl⟩
    go_wp2
    go_ret2
    exact ⟨rfl, rfl⟩
  · by_cases hk' : k < 0
    all_goals
      go_enter Try.func10, Try.ntmps10
      go_wp2_with fail
      refine (isPanel_yes _ H.out).mono ?_
      rintro e w' ⟨rfl, rfl⟩
      go_wp2
      go_ret2
      exact ⟨rfl, rfl⟩
theorem replica_yes {n f : Int} (k : Int) (w : World) (h : Pn.Is n f) (h0 : 0 ≤ k) (h1 : k < n) : Calls Try.prog 10 #[.int .i64 n, .int .i64 k] w fun e w' => e = .returned (.tuple #[.bool (decide (k < f + 1)), .int .i64 0]) ∧ w' = w := by
  have H : Hid (Pn.Is n f) := h
  clear h
  go_enter Try.func10, Try.ntmps10
  go_wp2_with fail
  refine (isPanel_yes _ H.out).mono ?_
  rintro e w' ⟨rfl, rfl⟩
  go_wp2_with fail
  refine (replicas_any _ H.out).mono ?_
  rintro e w' ⟨rfl, rfl⟩
  go_wp2
  go_ret2
  exact ⟨rfl, rfl⟩
theorem primary_no {n : Int} (v : Int) (w : World) (h : Pn.No n) : Calls Try.prog 11 #[.int .i64 n, .int .i64 v] w fun e w' => e = .returned (.tuple #[.int .i64 0, .int .i64 1]) ∧ w' = w := by
  have H : Hid (Pn.No n) := h
  clear h
  go_enter Try.func11, Try.ntmps11
  go_wp2_with fail
  refine (isPanel_no _ H.out).mono ?_
  rintro e w' ⟨rfl, rfl⟩
  go_wp2
  go_ret2
  exact ⟨rfl, rfl⟩
theorem primary_arg {n f : Int} (v : Int) (w : World) (h : Pn.Is n f) (hv : v < 0 ∨ 1099511627776 < v) : Calls Try.prog 11 #[.int .i64 n, .int .i64 v] w fun e w' => e = .returned (.tuple #[.int .i64 0, .int .i64 1]) ∧ w' = w := by
  have H : Hid (Pn.Is n f) := h
  have HV : Hid (v < 0 ∨ 1099511627776 < v) := hv
  clear h hv
  go_enter Try.func11, Try.ntmps11
  go_wp2_with fail
  refine (isPanel_yes _ H.out).mono ?_
  rintro e w' ⟨rfl, rfl⟩
  go_wp2_with fail
  refine (fits_no _ HV.out).mono ?_
  rintro e w' ⟨rfl, rfl⟩
  go_wp2
  go_ret2
  exact ⟨rfl, rfl⟩
theorem primary_yes {n f : Int} (v : Int) (w : World) (h : Pn.Is n f) (h0 : 0 ≤ v) (h1 : v ≤ 1099511627776) : Calls Try.prog 11 #[.int .i64 n, .int .i64 v] w fun e w' => e = .returned (.tuple #[.int .i64 (v % (f + 1)), .int .i64 0]) ∧ w' = w := by
  have H : Hid (Pn.Is n f) := h
  rcases h with ⟨rfl, rfl⟩ | ⟨rfl, rfl⟩ | ⟨rfl, rfl⟩ | ⟨rfl, rfl⟩
  all_goals
    go_enter Try.func11, Try.ntmps11
    go_wp2_with fail
    refine (isPanel_yes _ H.out).mono ?_
    rintro e w' ⟨rfl, rfl⟩
    go_wp2_with fail
    refine (fits_yes _ h0 h1).mono ?_
    rintro e w' ⟨rfl, rfl⟩
    go_wp2_with fail
    refine (replicas_any _ H.out).mono ?_
    rintro e w' ⟨rfl, rfl⟩
    go_wp2
    go_ret2
    refine ⟨?_, rfl⟩
    first | rfl | simp

theorem ahead_any {n f : Int} (v k : Int) (w : World) (h : Pn.Is n f) (h0 : 0 ≤ v) (h1 : v ≤ 1099511627777) (k0 : 0 ≤ k) (k1 : k ≤ f) : Calls Try.prog 26 #[.int .i64 n, .int .i64 v, .int .i64 k] w fun e w' => e = .returned (.int .i64 ((k - v % (f + 1) + (f + 1)) % (f + 1))) ∧ w' = w := by
  have H : Hid (Pn.Is n f) := h
  rcases h with ⟨rfl, rfl⟩ | ⟨rfl, rfl⟩ | ⟨rfl, rfl⟩ | ⟨rfl, rfl⟩
  all_goals
    go_enter Try.func26, Try.ntmps26
    go_wp2_with fail
    refine (replicas_any _ H.out).mono ?_
    rintro e w' ⟨rfl, rfl⟩
    go_wp2
    go_ret
    refine ⟨?_, rfl⟩
    first | rfl | simp
/-- The next view of replica k. -/
def Pn.nxt (f v k : Int) : Int := v + 1 + (k - (v + 1) % (f + 1) + (f + 1)) % (f + 1)
theorem Pn.nxt_le {n f v k : Int} (h : Pn.Is n f) (k0 : 0 ≤ k) (k1 : k ≤ f) : v + 1 ≤ Pn.nxt f v k ∧ Pn.nxt f v k ≤ v + 1 + f ∧ (0 ≤ v → Pn.nxt f v k % (f + 1) = k) := by
  unfold Pn.nxt
  rcases h with ⟨rfl, rfl⟩ | ⟨rfl, rfl⟩ | ⟨rfl, rfl⟩ | ⟨rfl, rfl⟩ <;> simp only [Int.reduceAdd] <;> omega
theorem Pn.nxt_step {n f v k u : Int} (h : Pn.Is n f) (_v0 : 0 ≤ v) (k0 : 0 ≤ k) (k1 : k ≤ f) (u0 : v + 1 ≤ u) (u1 : u ≤ Pn.nxt f v k) : (u % (f + 1) = k → u = Pn.nxt f v k) ∧ (u % (f + 1) ≠ k → u + 1 ≤ Pn.nxt f v k) := by
  unfold Pn.nxt at *
  rcases h with ⟨rfl, rfl⟩ | ⟨rfl, rfl⟩ | ⟨rfl, rfl⟩ | ⟨rfl, rfl⟩ <;> simp only [Int.reduceAdd] at * <;> omega
end Go.Proofs.Ytoplngccejkkcaa
