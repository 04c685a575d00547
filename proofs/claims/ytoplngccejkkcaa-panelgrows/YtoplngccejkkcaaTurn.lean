/-
  panel's Turn and Enough, and the document's Faults, Primary, Turn: what each answers; they turn nothing.
-/
import Derived.Test.YtoplngccejkkcaaMid
namespace Go.Proofs.Ytoplngccejkkcaa
open Go.RowKit

theorem turn_no {n : Int} (v k : Int) (w : World) (h : Pn.No n) : Calls Try.prog 12 #[.int .i64 n, .int .i64 v, .int .i64 k] w fun e w' => e = .returned (.tuple #[.int .i64 0, .int .i64 1]) ∧ w' = w := by
  have H : Hid (Pn.No n) := h
  clear h
  go_enter Try.func12, Try.ntmps12
  go_wp2_with fail
  refine (isPanel_no _ H.out).mono ?_
  rintro e w' ⟨rfl, rfl⟩
  go_wp2
  go_ret2
  exact ⟨rfl, rfl⟩
theorem turn_view {n f : Int} (v k : Int) (w : World) (h : Pn.Is n f) (hv : v < 0 ∨ 1099511627776 < v) : Calls Try.prog 12 #[.int .i64 n, .int .i64 v, .int .i64 k] w fun e w' => e = .returned (.tuple #[.int .i64 0, .int .i64 1]) ∧ w' = w := by
  have H : Hid (Pn.Is n f) := h
  have HV : Hid (v < 0 ∨ 1099511627776 < v) := hv
  clear h hv
  go_enter Try.func12, Try.ntmps12
  go_wp2_with fail
  refine (isPanel_yes _ H.out).mono ?_
  rintro e w' ⟨rfl, rfl⟩
  go_wp2_with fail
  refine (fits_no _ HV.out).mono ?_
  rintro e w' ⟨rfl, rfl⟩
  go_wp2
  go_ret2
  exact ⟨rfl, rfl⟩
theorem turn_node {n f : Int} (v k : Int) (w : World) (h : Pn.Is n f) (h0 : 0 ≤ v) (h1 : v ≤ 1099511627776) (hk : k < 0 ∨ f < k) : Calls Try.prog 12 #[.int .i64 n, .int .i64 v, .int .i64 k] w fun e w' => e = .returned (.tuple #[.int .i64 0, .int .i64 1]) ∧ w' = w := by
  have H : Hid (Pn.Is n f) := h
  by_cases k0 : k < 0
  · clear h
    go_enter Try.func12, Try.ntmps12
    go_wp2_with fail
    refine (isPanel_yes _ H.out).mono ?_
    rintro e w' ⟨rfl, rfl⟩
    go_wp2_with fail
    refine (fits_yes _ h0 h1).mono ?_
    rintro e w' ⟨rfl, rfl⟩
    go_wp2
    go_ret2
    exact ⟨rfl, rfl⟩
  · have hk' : f + 1 ≤ k := by omega
    clear h hk
    go_enter Try.func12, Try.ntmps12
    go_wp2_with fail
    refine (isPanel_yes _ H.out).mono ?_
    rintro e w' ⟨rfl, rfl⟩
    go_wp2_with fail
    refine (fits_yes _ h0 h1).mono ?_
    rintro e w' ⟨rfl, rfl⟩
    go_wp2_with fail
    refine (replicas_any _ H.out).mono ?_
    rintro e w' ⟨rfl, rfl⟩
    go_wp2
    go_ret2
    exact ⟨rfl, rfl⟩
def Pn.ah (f v k : Int) : Int := (k - v % (f + 1) + (f + 1)) % (f + 1)
theorem ahead_ah {n f : Int} (v k : Int) (w : World) (h : Pn.Is n f) (h0 : 0 ≤ v) (h1 : v ≤ 1099511627777) (k0 : 0 ≤ k) (k1 : k ≤ f) : Calls Try.prog 26 #[.int .i64 n, .int .i64 v, .int .i64 k] w fun e w' => e = .returned (.int .i64 (Pn.ah f v k)) ∧ w' = w := ahead_any v k w h h0 h1 k0 k1
set_option maxHeartbeats 400000 in
theorem turn_yes {n f : Int} (v k : Int) (w : World) (h : Pn.Is n f) (h0 : 0 ≤ v) (h1 : v ≤ 1099511627776) (k0 : 0 ≤ k) (k1 : k ≤ f) :
    Calls Try.prog 12 #[.int .i64 n, .int .i64 v, .int .i64 k] w fun e w' => e = .returned (.tuple (if 1099511627776 < Pn.nxt f v k then #[.int .i64 0, .int .i64 6] else #[.int .i64 (Pn.nxt f v k), .int .i64 0])) ∧ w' = w := by
  have H : Hid (Pn.Is n f) := h
  obtain ⟨a1, a2⟩ : v + 1 ≤ Pn.nxt f v k ∧ Pn.nxt f v k ≤ v + 1 + f := by have := Pn.nxt_le (v := v) h k0 k1; omega
  have hf : 0 ≤ f ∧ f ≤ 3 := by rcases h with ⟨rfl, rfl⟩ | ⟨rfl, rfl⟩ | ⟨rfl, rfl⟩ | ⟨rfl, rfl⟩ <;> omega
  obtain ⟨f0, f3⟩ := hf
  have k0' : ¬ k < 0 := by omega
  have k1' : ¬ f + 1 ≤ k := by omega
  have E : Hid (v + 1 + Pn.ah f (v + 1) k = Pn.nxt f v k) := rfl
  have hz : 0 ≤ Pn.ah f (v + 1) k ∧ Pn.ah f (v + 1) k ≤ 3 := by have := E.out; omega
  clear h
  generalize hx : Pn.nxt f v k = x at *
  have HX : Hid (Pn.nxt f v k = x) := hx
  clear hx
  by_cases hb : 1099511627776 < x
  · rw [if_pos hb]
    go_enter Try.func12, Try.ntmps12
    go_wp2_with fail
    refine (isPanel_yes _ H.out).mono ?_
    rintro e w' ⟨rfl, rfl⟩
    go_wp2_with fail
    refine (fits_yes _ h0 h1).mono ?_
    rintro e w' ⟨rfl, rfl⟩
    go_wp2_with fail
    refine (replicas_any _ H.out).mono ?_
    rintro e w' ⟨rfl, rfl⟩
    go_wp2_with fail
    refine (ahead_ah _ _ _ H.out (by omega) (by omega) k0 k1).mono ?_
    rintro e w' ⟨rfl, rfl⟩
    obtain ⟨z0, z1⟩ := hz
    generalize Pn.ah f (v + 1) k = y at *
    go_wp2
    all_goals have := E.out
    · go_ret2
      exact ⟨rfl, rfl⟩
    · omega
  · rw [if_neg hb]
    go_enter Try.func12, Try.ntmps12
    go_wp2_with fail
    refine (isPanel_yes _ H.out).mono ?_
    rintro e w' ⟨rfl, rfl⟩
    go_wp2_with fail
    refine (fits_yes _ h0 h1).mono ?_
    rintro e w' ⟨rfl, rfl⟩
    go_wp2_with fail
    refine (replicas_any _ H.out).mono ?_
    rintro e w' ⟨rfl, rfl⟩
    go_wp2_with fail
    refine (ahead_ah _ _ _ H.out (by omega) (by omega) k0 k1).mono ?_
    rintro e w' ⟨rfl, rfl⟩
    obtain ⟨z0, z1⟩ := hz
    generalize Pn.ah f (v + 1) k = y at *
    go_wp2
    all_goals have := E.out
    · omega
    · go_ret2
      exact ⟨by rw [← E.out]; rfl, rfl⟩

theorem refFaults_yes {n f : Int} (w : World) (h : Pn.Is n f) : Calls Try.prog 14 #[.int .i64 n] w fun e w' => e = .returned (.int .i64 f) ∧ w' = w := by
  rcases h with ⟨rfl, rfl⟩ | ⟨rfl, rfl⟩ | ⟨rfl, rfl⟩ | ⟨rfl, rfl⟩
  all_goals
    go_enter Try.func14, Try.ntmps14
    go_wp2
    refine wp_loop_rounds 4 ?_
    repeat (rw [rounds_succ]; go_wp2)
    go_ret
    exact ⟨rfl, rfl⟩
theorem refFaults_no {n : Int} (w : World) (h : Pn.No n) : Calls Try.prog 14 #[.int .i64 n] w fun e w' => e = .returned (.int .i64 (-1)) ∧ w' = w := by
  have h1 : ¬ n = 1 := by rcases h with h | h | h | h | h <;> omega
  have h3 : ¬ n = 3 := by rcases h with h | h | h | h | h <;> omega
  have h5 : ¬ n = 5 := by rcases h with h | h | h | h | h <;> omega
  have h7 : ¬ n = 7 := by rcases h with h | h | h | h | h <;> omega
  clear h
  go_enter Try.func14, Try.ntmps14
  go_wp2
  refine wp_loop_rounds 5 ?_
  repeat (rw [rounds_succ]; go_wp2)
  go_ret
  exact ⟨rfl, rfl⟩
end Go.Proofs.Ytoplngccejkkcaa
