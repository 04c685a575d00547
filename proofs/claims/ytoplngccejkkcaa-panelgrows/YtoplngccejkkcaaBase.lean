/-
  panel's small functions: what each answers; they turn nothing.
-/
import Derived.Test.YtoplngccejkkcaaRows
import Derived.Test.YtoplngccejkkcaaPlain
import Derived.WalkKit
import Derived.ProofKit
import Derived.BigQuiet
import Derived.WalkSmall
import Derived.WalkLawsBesides
import Derived.Deep.QuietTactic
namespace Go.Proofs.Ytoplngccejkkcaa
open Go.RowKit

theorem own : ownKnob Try.prog.godebug = none := by kernel_rfl
theorem laidOut : laidOutB Try.prog = true := by kernel_rfl

theorem isPanel_yes {n f : Int} (w : World) (h : Pn.Is n f) : Calls Try.prog 23 #[.int .i64 n] w fun e w' => e = .returned (.bool true) ∧ w' = w := by
  rcases h with ⟨rfl, rfl⟩ | ⟨rfl, rfl⟩ | ⟨rfl, rfl⟩ | ⟨rfl, rfl⟩
  all_goals
    go_enter Try.func23, Try.ntmps23
    go_wp2
    go_ret
    exact ⟨rfl, rfl⟩
theorem isPanel_no {n : Int} (w : World) (h : Pn.No n) : Calls Try.prog 23 #[.int .i64 n] w fun e w' => e = .returned (.bool false) ∧ w' = w := by
  rcases h with h | h | rfl | rfl | rfl
  · have h' : ¬ 1 ≤ n := by omega
    go_enter Try.func23, Try.ntmps23
    go_wp2
    go_ret
    exact ⟨rfl, rfl⟩
  · have h' : 1 ≤ n := by omega
    have h'' : ¬ n ≤ 7 := by omega
    go_enter Try.func23, Try.ntmps23
    go_wp2
    go_ret
    exact ⟨rfl, rfl⟩
  all_goals
    go_enter Try.func23, Try.ntmps23
    go_wp2
    go_ret
    exact ⟨rfl, rfl⟩
theorem replicas_any {n f : Int} (w : World) (h : Pn.Is n f) : Calls Try.prog 24 #[.int .i64 n] w fun e w' => e = .returned (.int .i64 (f + 1)) ∧ w' = w := by
  rcases h with ⟨rfl, rfl⟩ | ⟨rfl, rfl⟩ | ⟨rfl, rfl⟩ | ⟨rfl, rfl⟩
  all_goals
    go_enter Try.func24, Try.ntmps24
    go_wp2
    go_ret
    exact ⟨rfl, rfl⟩
theorem fits_yes {x : Int} (w : World) (h1 : 0 ≤ x) (h2 : x ≤ 1099511627776) : Calls Try.prog 25 #[.int .i64 x] w fun e w' => e = .returned (.bool true) ∧ w' = w := by
  go_enter Try.func25, Try.ntmps25
  go_wp2
  go_ret
  exact ⟨rfl, rfl⟩
theorem fits_no {x : Int} (w : World) (h : x < 0 ∨ 1099511627776 < x) : Calls Try.prog 25 #[.int .i64 x] w fun e w' => e = .returned (.bool false) ∧ w' = w := by
  rcases h with h | h
  · have h' : ¬ 0 ≤ x := by omega
    go_enter Try.func25, Try.ntmps25
    go_wp2
    go_ret
    exact ⟨rfl, rfl⟩
  · have h0 : 0 ≤ x := by omega
    have h' : ¬ x ≤ 1099511627776 := by omega
    go_enter Try.func25, Try.ntmps25
    go_wp2
    go_ret
    exact ⟨rfl, rfl⟩
theorem faults_yes {n f : Int} (w : World) (h : Pn.Is n f) : Calls Try.prog 9 #[.int .i64 n] w fun e w' => e = .returned (.tuple #[.int .i64 f, .int .i64 0]) ∧ w' = w := by
  have H : Hid (Pn.Is n f) := h
  rcases h with ⟨rfl, rfl⟩ | ⟨rfl, rfl⟩ | ⟨rfl, rfl⟩ | ⟨rfl, rfl⟩
  all_goals
    go_enter Try.func9, Try.ntmps9
    go_wp2_with fail
    refine (isPanel_yes _ H.out).mono ?_
    rintro e w' ⟨rfl, rfl⟩
    go_wp2
    go_ret2
    exact ⟨rfl, rfl⟩
theorem faults_no {n : Int} (w : World) (h : Pn.No n) : Calls Try.prog 9 #[.int .i64 n] w fun e w' => e = .returned (.tuple #[.int .i64 0, .int .i64 1]) ∧ w' = w := by
  have H : Hid (Pn.No n) := h
  clear h
  go_enter Try.func9, Try.ntmps9
  go_wp2_with fail
  refine (isPanel_no _ H.out).mono ?_
  rintro e w' ⟨rfl, rfl⟩
  go_wp2
  go_ret2
  exact ⟨rfl, rfl⟩

namespace Pop
def o1 (x : Int) : Int := IntKind.u64.wrap (bits .and .u64 (x / 2) 6148914691236517205 + bits .and .u64 x 6148914691236517205)
def o2 (x : Int) : Int := IntKind.u64.wrap (bits .and .u64 (x / 4) 3689348814741910323 + bits .and .u64 x 3689348814741910323)
def o3 (x : Int) : Int := bits .and .u64 (IntKind.u64.wrap (x / 16 + x)) 1085102592571150095
def o4 (x : Int) : Int := IntKind.u64.wrap (x + x / 256)
def o5 (x : Int) : Int := IntKind.u64.wrap (x + x / 65536)
def o6 (x : Int) : Int := IntKind.u64.wrap (x + x / 4294967296)
def o7 (x : Int) : Int := bits .and .i64 (wrap64 x) 127
theorem all : ∀ x : Fin 128, o7 (o6 (o5 (o4 (o3 (o2 (o1 (x.1 : Int))))))) = ((List.range 7).countP (Pn.bit x.1) : Nat) := by decide +kernel
end Pop
set_option maxHeartbeats 400000 in
theorem ones64_any (x : Nat) (w : World) (h : x < 128) : Calls Try.prog 34 #[.int .u64 x] w fun e w' => e = .returned (.int .i64 ((List.range 7).countP (Pn.bit x) : Nat)) ∧ w' = w := by
  have h0 : (0 : Int) ≤ (x : Int) := by omega
  have h1 : (x : Int) < 128 := by omega
  have E : Hid _ := Pop.all ⟨x, h⟩
  go_enter Try.func34, Try.ntmps34
  go_wp2
  go_ret
  exact ⟨congrArg (fun z => Ending.returned (Value.int .i64 z)) E.out, rfl⟩
set_option maxHeartbeats 400000 in
theorem ones_any (x : Nat) (w : World) (h : x < 128) : Calls Try.prog 28 #[.int .u64 x] w fun e w' => e = .returned (.int .i64 ((List.range 7).countP (Pn.bit x) : Nat)) ∧ w' = w := by
  have H : Hid (x < 128) := h
  go_enter Try.func28, Try.ntmps28
  go_wp2_with fail
  refine (ones64_any _ _ H.out).mono ?_
  rintro e w' ⟨rfl, rfl⟩
  go_wp2
  go_ret
  exact ⟨rfl, rfl⟩

theorem isSet_yes {n f : Int} (s : Nat) (w : World) (h : Pn.Is n f) (hs : (s : Int) < 2 ^ n.toNat) : Calls Try.prog 27 #[.int .i64 n, .int .i64 s] w fun e w' => e = .returned (.bool true) ∧ w' = w := by
  rcases h with ⟨rfl, rfl⟩ | ⟨rfl, rfl⟩ | ⟨rfl, rfl⟩ | ⟨rfl, rfl⟩
  all_goals
    have h1 : (0 : Int) ≤ (s : Int) := by omega
    simp at hs
    go_enter Try.func27, Try.ntmps27
    go_wp2
    go_ret
    exact ⟨rfl, rfl⟩
theorem isSet_no {n f : Int} (s : Int) (w : World) (h : Pn.Is n f) (hs : s < 0 ∨ 2 ^ n.toNat ≤ s) : Calls Try.prog 27 #[.int .i64 n, .int .i64 s] w fun e w' => e = .returned (.bool false) ∧ w' = w := by
  rcases hs with hs | hs
  · have h1 : ¬ (0 : Int) ≤ s := by omega
    go_enter Try.func27, Try.ntmps27
    go_wp2
    go_ret
    exact ⟨rfl, rfl⟩
  · rcases h with ⟨rfl, rfl⟩ | ⟨rfl, rfl⟩ | ⟨rfl, rfl⟩ | ⟨rfl, rfl⟩
    all_goals
      simp at hs
      have h1 : (0 : Int) ≤ s := by omega
      rw [← Int.not_lt] at hs
      go_enter Try.func27, Try.ntmps27
      go_wp2
      go_ret
      exact ⟨rfl, rfl⟩
end Go.Proofs.Ytoplngccejkkcaa
