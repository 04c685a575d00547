/-
  attr's Grow and the document's: what they answer.
-/
import Derived.Test.YtdbfhhkbjlednaaBase
namespace Go.Proofs.Ytdbfhhkbjlednaa
open Go.ChangeShapes Go.WideShapes Go.ChangeAt Go.RowKit Go.Deep

/-- What Grow tells. -/
def At.growErr (k l s t n st : Int) : Int :=
  if At.right k l s t then
    if t ≤ st ∧ st ≤ 1099511627776 then
      if k = 0 then 7 else if 0 ≤ n ∧ n ≤ 1048576 then 0 else 408
    else 1
  else 70
def At.growOut (k l s t n st : Int) : Value := if At.growErr k l s t n st = 0 then VA k l n st else VA 0 0 0 0
set_option maxHeartbeats 2000000 in
theorem grow_any (k l s t n st : Int) (w : World) : Calls Try.prog 17 #[VA k l s t, .int .i64 n, .int .i64 st] w fun e w' => e = .returned (.tuple #[At.growOut k l s t n st, .int .i64 (At.growErr k l s t n st)]) ∧ Below w.heap.size w w' := by
  have HO : Hid (At.growOut k l s t n st = if At.growErr k l s t n st = 0 then VA k l n st else VA 0 0 0 0) := rfl
  obtain ⟨z, hz⟩ : ∃ z, At.growOut k l s t n st = z := ⟨_, rfl⟩
  obtain ⟨y, hy⟩ : ∃ y, At.growErr k l s t n st = y := ⟨_, rfl⟩
  rw [hz, hy] at HO
  have HY : Hid (At.growErr k l s t n st = y) := hy
  rw [hy, hz]
  clear hy hz
  by_cases hr : At.right k l s t = true
  · have HR : Hid (At.right k l s t = true) := hr
    by_cases hw : t ≤ st ∧ st ≤ 1099511627776
    · have HW : Hid (t ≤ st ∧ st ≤ 1099511627776) := hw
      by_cases hk : k = 0
      · have H : Hid (y = 7) := by show y = 7; rw [← HY.out]; unfold At.growErr; rw [if_pos hr, if_pos hw, if_pos hk]
        have HZ : Hid (z = VA 0 0 0 0) := by have := HO.out; rw [H.out, if_neg (by decide)] at this; exact this
        have hk' : (k == 0) = true := by simp [hk]
        clear hr hw hk
        go_enter Try.func17, Try.ntmps17
        go_wp2_with fail
        refine (check_yes k l s t _ HR.out).mono ?_
        rintro e w1 ⟨rfl, rfl⟩
        go_wp2_with fail
        refine (within_yes _ _ _ _ HW.out).mono ?_
        rintro e w1 ⟨rfl, rfl⟩
        go_wp2
        refine bodyPost_ret (v := .tuple #[VA 0 0 0 0, .int .i64 7]) (by simp [results, Try.results17, go_sem]) rfl ⟨by rw [H.out, HZ.out], ?_⟩
        exact (((Below.refl _ _).alloc (Nat.le_refl _) _).alloc (by simp) _).alloc (by simp; omega) _
      · have hk' : (k == 0) = false := beq_eq_false_iff_ne.2 hk
        by_cases hn : 0 ≤ n ∧ n ≤ 1048576
        · have HN : Hid (0 ≤ n ∧ n ≤ 1048576) := hn
          have H : Hid (y = 0) := by show y = 0; rw [← HY.out]; unfold At.growErr; rw [if_pos hr, if_pos hw, if_neg hk, if_pos hn]
          have HZ : Hid (z = VA k l n st) := by have := HO.out; rw [H.out, if_pos rfl] at this; exact this
          clear hr hw hk hn
          go_enter Try.func17, Try.ntmps17
          go_wp2_with fail
          refine (check_yes k l s t _ HR.out).mono ?_
          rintro e w1 ⟨rfl, rfl⟩
          go_wp2_with fail
          refine (within_yes _ _ _ _ HW.out).mono ?_
          rintro e w1 ⟨rfl, rfl⟩
          go_wp2_with fail
          refine (within_yes _ _ _ _ HN.out).mono ?_
          rintro e w1 ⟨rfl, rfl⟩
          go_wp2
          refine bodyPost_ret (v := .tuple #[VA k l n st, .int .i64 0]) (by simp [results, Try.results17, go_sem]) rfl ⟨by rw [H.out, HZ.out], ?_⟩
          exact (((Below.refl _ _).alloc (Nat.le_refl _) _).alloc (by simp) _).alloc (by simp; omega) _
        · have HN : Hid (¬ (0 ≤ n ∧ n ≤ 1048576)) := hn
          have H : Hid (y = 408) := by show y = 408; rw [← HY.out]; unfold At.growErr; rw [if_pos hr, if_pos hw, if_neg hk, if_neg hn]
          have HZ : Hid (z = VA 0 0 0 0) := by have := HO.out; rw [H.out, if_neg (by decide)] at this; exact this
          clear hr hw hk hn
          go_enter Try.func17, Try.ntmps17
          go_wp2_with fail
          refine (check_yes k l s t _ HR.out).mono ?_
          rintro e w1 ⟨rfl, rfl⟩
          go_wp2_with fail
          refine (within_yes _ _ _ _ HW.out).mono ?_
          rintro e w1 ⟨rfl, rfl⟩
          go_wp2_with fail
          refine (within_no _ _ _ _ HN.out).mono ?_
          rintro e w1 ⟨rfl, rfl⟩
          go_wp2
          refine bodyPost_ret (v := .tuple #[VA 0 0 0 0, .int .i64 408]) (by simp [results, Try.results17, go_sem]) rfl ⟨by rw [H.out, HZ.out], ?_⟩
          exact (((Below.refl _ _).alloc (Nat.le_refl _) _).alloc (by simp) _).alloc (by simp; omega) _
    · have HW : Hid (¬ (t ≤ st ∧ st ≤ 1099511627776)) := hw
      have H : Hid (y = 1) := by show y = 1; rw [← HY.out]; unfold At.growErr; rw [if_pos hr, if_neg hw]
      have HZ : Hid (z = VA 0 0 0 0) := by have := HO.out; rw [H.out, if_neg (by decide)] at this; exact this
      clear hr hw
      go_enter Try.func17, Try.ntmps17
      go_wp2_with fail
      refine (check_yes k l s t _ HR.out).mono ?_
      rintro e w1 ⟨rfl, rfl⟩
      go_wp2_with fail
      refine (within_no _ _ _ _ HW.out).mono ?_
      rintro e w1 ⟨rfl, rfl⟩
      go_wp2
      refine bodyPost_ret (v := .tuple #[VA 0 0 0 0, .int .i64 1]) (by simp [results, Try.results17, go_sem]) rfl ⟨by rw [H.out, HZ.out], ?_⟩
      exact (((Below.refl _ _).alloc (Nat.le_refl _) _).alloc (by simp) _).alloc (by simp; omega) _
  · have hr' : At.right k l s t = false := by simpa using hr
    have HR : Hid (At.right k l s t = false) := hr'
    have H : Hid (y = 70) := by show y = 70; rw [← HY.out]; simp [At.growErr, hr']
    have HZ : Hid (z = VA 0 0 0 0) := by have := HO.out; rw [H.out, if_neg (by decide)] at this; exact this
    clear hr hr'
    go_enter Try.func17, Try.ntmps17
    go_wp2_with fail
    refine (check_no k l s t _ HR.out).mono ?_
    rintro e w1 ⟨rfl, rfl⟩
    go_wp2
    refine bodyPost_ret (v := .tuple #[VA 0 0 0 0, .int .i64 70]) (by simp [results, Try.results17, go_sem]) rfl ⟨by rw [H.out, HZ.out], ?_⟩
    exact (((Below.refl _ _).alloc (Nat.le_refl _) _).alloc (by simp) _).alloc (by simp; omega) _
set_option maxHeartbeats 2000000 in
theorem refGrow_any (k l s t n st : Int) (w : World) : Calls Try.prog 18 #[VA k l s t, .int .i64 n, .int .i64 st] w fun e w' => e = .returned (.tuple #[At.growOut k l s t n st, .int .i64 (At.growErr k l s t n st)]) ∧ Below w.heap.size w w' := by
  have HO : Hid (At.growOut k l s t n st = if At.growErr k l s t n st = 0 then VA k l n st else VA 0 0 0 0) := rfl
  obtain ⟨z, hz⟩ : ∃ z, At.growOut k l s t n st = z := ⟨_, rfl⟩
  obtain ⟨y, hy⟩ : ∃ y, At.growErr k l s t n st = y := ⟨_, rfl⟩
  rw [hz, hy] at HO
  have HY : Hid (At.growErr k l s t n st = y) := hy
  rw [hy, hz]
  clear hy hz
  by_cases hr : At.right k l s t = true
  · have HR : Hid (At.right k l s t = true) := hr
    by_cases hw : t ≤ st ∧ st ≤ 1099511627776
    · have HW : Hid (t ≤ st ∧ st ≤ 1099511627776) := hw
      have hw1 : ¬ st < t := by omega
      have hw2 : ¬ 1099511627776 < st := by omega
      by_cases hk : k = 0
      · have H : Hid (y = 7) := by show y = 7; rw [← HY.out]; unfold At.growErr; rw [if_pos hr, if_pos hw, if_pos hk]
        have HZ : Hid (z = VA 0 0 0 0) := by have := HO.out; rw [H.out, if_neg (by decide)] at this; exact this
        have hk' : (k == 0) = true := by simp [hk]
        clear hr hw hk
        go_enter Try.func18, Try.ntmps18
        go_wp2_with fail
        refine (right_any k l s t _).mono ?_
        rintro e w1 ⟨rfl, rfl⟩
        rw [HR.out]
        go_wp2
        refine bodyPost_ret (v := .tuple #[VA 0 0 0 0, .int .i64 7]) (by simp [results, Try.results18, go_sem]) rfl ⟨by rw [H.out, HZ.out], ?_⟩
        exact (((Below.refl _ _).alloc (Nat.le_refl _) _).alloc (by simp) _).alloc (by simp; omega) _
      · have hk' : (k == 0) = false := beq_eq_false_iff_ne.2 hk
        by_cases hn : 0 ≤ n ∧ n ≤ 1048576
        · have HN : Hid (0 ≤ n ∧ n ≤ 1048576) := hn
          have H : Hid (y = 0) := by show y = 0; rw [← HY.out]; unfold At.growErr; rw [if_pos hr, if_pos hw, if_neg hk, if_pos hn]
          have HZ : Hid (z = VA k l n st) := by have := HO.out; rw [H.out, if_pos rfl] at this; exact this
          have hn1 : ¬ n < 0 := by omega
          have hn2 : ¬ 1048576 < n := by omega
          clear hr hw hk hn
          go_enter Try.func18, Try.ntmps18
          go_wp2_with fail
          refine (right_any k l s t _).mono ?_
          rintro e w1 ⟨rfl, rfl⟩
          rw [HR.out]
          go_wp2
          refine bodyPost_ret (v := .tuple #[VA k l n st, .int .i64 0]) (by simp [results, Try.results18, go_sem]) rfl ⟨by rw [H.out, HZ.out], ?_⟩
          exact (((Below.refl _ _).alloc (Nat.le_refl _) _).alloc (by simp) _).alloc (by simp; omega) _
        · have HN : Hid (¬ (0 ≤ n ∧ n ≤ 1048576)) := hn
          have H : Hid (y = 408) := by show y = 408; rw [← HY.out]; unfold At.growErr; rw [if_pos hr, if_pos hw, if_neg hk, if_neg hn]
          have HZ : Hid (z = VA 0 0 0 0) := by have := HO.out; rw [H.out, if_neg (by decide)] at this; exact this
          have hn' : n < 0 ∨ (¬ n < 0 ∧ 1048576 < n) := by omega
          clear hr hw hk hn
          rcases hn' with hn1 | ⟨hn0, hn1⟩
          all_goals
            go_enter Try.func18, Try.ntmps18
            go_wp2_with fail
            refine (right_any k l s t _).mono ?_
            rintro e w1 ⟨rfl, rfl⟩
            rw [HR.out]
            go_wp2
            refine bodyPost_ret (v := .tuple #[VA 0 0 0 0, .int .i64 408]) (by simp [results, Try.results18, go_sem]) rfl ⟨by rw [H.out, HZ.out], ?_⟩
            exact (((Below.refl _ _).alloc (Nat.le_refl _) _).alloc (by simp) _).alloc (by simp; omega) _
    · have HW : Hid (¬ (t ≤ st ∧ st ≤ 1099511627776)) := hw
      have H : Hid (y = 1) := by show y = 1; rw [← HY.out]; unfold At.growErr; rw [if_pos hr, if_neg hw]
      have HZ : Hid (z = VA 0 0 0 0) := by have := HO.out; rw [H.out, if_neg (by decide)] at this; exact this
      have hw' : st < t ∨ (¬ st < t ∧ 1099511627776 < st) := by omega
      clear hr hw
      rcases hw' with hw1 | ⟨hw0, hw1⟩
      all_goals
        go_enter Try.func18, Try.ntmps18
        go_wp2_with fail
        refine (right_any k l s t _).mono ?_
        rintro e w1 ⟨rfl, rfl⟩
        rw [HR.out]
        go_wp2
        refine bodyPost_ret (v := .tuple #[VA 0 0 0 0, .int .i64 1]) (by simp [results, Try.results18, go_sem]) rfl ⟨by rw [H.out, HZ.out], ?_⟩
        exact (((Below.refl _ _).alloc (Nat.le_refl _) _).alloc (by simp) _).alloc (by simp; omega) _
  · have hr' : At.right k l s t = false := by simpa using hr
    have HR : Hid (At.right k l s t = false) := hr'
    have H : Hid (y = 70) := by show y = 70; rw [← HY.out]; simp [At.growErr, hr']
    have HZ : Hid (z = VA 0 0 0 0) := by have := HO.out; rw [H.out, if_neg (by decide)] at this; exact this
    clear hr hr'
    go_enter Try.func18, Try.ntmps18
    go_wp2_with fail
    refine (right_any k l s t _).mono ?_
    rintro e w1 ⟨rfl, rfl⟩
    rw [HR.out]
    go_wp2
    refine bodyPost_ret (v := .tuple #[VA 0 0 0 0, .int .i64 70]) (by simp [results, Try.results18, go_sem]) rfl ⟨by rw [H.out, HZ.out], ?_⟩
    exact (((Below.refl _ _).alloc (Nat.le_refl _) _).alloc (by simp) _).alloc (by simp; omega) _
end Go.Proofs.Ytdbfhhkbjlednaa
