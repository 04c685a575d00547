/-
  attr's within, Check, num, number, Pack, Unpack and the document's Right, Pack, Unpack: what they answer at any attributes.
-/
import Derived.Test.YtdbfhhkbjlednaaRows
import Derived.Test.YtdbfhhkbjlednaaNum
import Derived.Test.YtdbfhhkbjlednaaNumber
import Derived.BigQuiet
import Derived.Deep.QuietTactic
import Derived.Deep.RegionHeld3
namespace Go.Proofs.Ytdbfhhkbjlednaa
open Go.ChangeShapes Go.WideShapes Go.ChangeAt Go.RowKit Go.Deep

namespace At
/-- Kind, links, size, stamp. -/
def rightP (k l s t : Int) : Prop := (k = 0 ∧ l = 0 ∧ s = 0 ∧ t = 0) ∨ ((0 ≤ s ∧ s ≤ 1048576) ∧ (0 ≤ t ∧ t ≤ 1099511627776) ∧ ((k = 1 ∧ 0 ≤ l ∧ l ≤ 64) ∨ (k = 2 ∧ l = 1)))
instance (k l s t : Int) : Decidable (rightP k l s t) := by unfold rightP; infer_instance
def right (k l s t : Int) : Bool := decide (rightP k l s t)
theorem right_iff {k l s t : Int} : right k l s t = true ↔ rightP k l s t := by simp [right]
theorem wrong_iff {k l s t : Int} : right k l s t = false ↔ ¬ rightP k l s t := by simp [right]
end At
abbrev BA (k l s t : Int) : Obj := .cells #[.int .i64 k, .int .i64 l, .int .i64 s, .int .i64 t] 23
abbrev VA (k l s t : Int) : Value := .agg #[.int .i64 k, .int .i64 l, .int .i64 s, .int .i64 t]

theorem within_any (lo x hi : Int) (w : World) : Calls Try.prog 23 #[.int .i64 lo, .int .i64 x, .int .i64 hi] w fun e w' => e = .returned (.bool (decide (lo ≤ x ∧ x ≤ hi))) ∧ w' = w := by
  by_cases h1 : lo ≤ x
  · by_cases h2 : x ≤ hi
    · rw [decide_eq_true (show lo ≤ x ∧ x ≤ hi from ⟨h1, h2⟩)]
      go_enter Try.func23, Try.ntmps23
      go_wp2
      go_ret
      exact ⟨rfl, rfl⟩
    · rw [decide_eq_false (show ¬ (lo ≤ x ∧ x ≤ hi) from fun h => h2 h.2)]
      go_enter Try.func23, Try.ntmps23
      go_wp2
      go_ret
      exact ⟨rfl, rfl⟩
  · rw [decide_eq_false (show ¬ (lo ≤ x ∧ x ≤ hi) from fun h => h1 h.1)]
    go_enter Try.func23, Try.ntmps23
    go_wp2
    go_ret
    exact ⟨rfl, rfl⟩
theorem within_yes (lo x hi : Int) (w : World) (h : lo ≤ x ∧ x ≤ hi) : Calls Try.prog 23 #[.int .i64 lo, .int .i64 x, .int .i64 hi] w fun e w' => e = .returned (.bool true) ∧ w' = w := by
  have := within_any lo x hi w
  rwa [decide_eq_true h] at this
theorem within_no (lo x hi : Int) (w : World) (h : ¬ (lo ≤ x ∧ x ≤ hi)) : Calls Try.prog 23 #[.int .i64 lo, .int .i64 x, .int .i64 hi] w fun e w' => e = .returned (.bool false) ∧ w' = w := by
  have := within_any lo x hi w
  rwa [decide_eq_false h] at this

set_option maxHeartbeats 1000000 in
theorem check_yes (k l s t : Int) (w : World) (h : At.right k l s t = true) : Calls Try.prog 12 #[VA k l s t] w fun e w' => e = .returned (.int .i64 0) ∧ w' = w.alloc (BA k l s t) := by
  rcases At.right_iff.1 h with ⟨rfl, rfl, rfl, rfl⟩ | ⟨hs, ht, ⟨rfl, hl⟩ | ⟨rfl, rfl⟩⟩
  · clear h
    go_enter Try.func12, Try.ntmps12
    go_wp2
    go_ret
    exact ⟨rfl, rfl⟩
  · have HS : Hid ((0 ≤ l ∧ l ≤ 64) ∧ (0 ≤ s ∧ s ≤ 1048576) ∧ (0 ≤ t ∧ t ≤ 1099511627776)) := ⟨hl, hs, ht⟩
    clear h hl hs ht
    go_enter Try.func12, Try.ntmps12
    go_wp2_with fail
    refine (within_yes _ _ _ _ HS.out.1).mono ?_
    rintro e w' ⟨rfl, rfl⟩
    go_wp2_with fail
    refine (within_yes _ _ _ _ HS.out.2.1).mono ?_
    rintro e w' ⟨rfl, rfl⟩
    go_wp2_with fail
    refine (within_yes _ _ _ _ HS.out.2.2).mono ?_
    rintro e w' ⟨rfl, rfl⟩
    go_wp2
    go_ret
    exact ⟨rfl, rfl⟩
  · have HS : Hid ((0 ≤ s ∧ s ≤ 1048576) ∧ (0 ≤ t ∧ t ≤ 1099511627776)) := ⟨hs, ht⟩
    clear h hs ht
    go_enter Try.func12, Try.ntmps12
    go_wp2_with fail
    refine (within_yes _ _ _ _ (by decide)).mono ?_
    rintro e w' ⟨rfl, rfl⟩
    go_wp2_with fail
    refine (within_yes _ _ _ _ HS.out.1).mono ?_
    rintro e w' ⟨rfl, rfl⟩
    go_wp2_with fail
    refine (within_yes _ _ _ _ HS.out.2).mono ?_
    rintro e w' ⟨rfl, rfl⟩
    go_wp2
    go_ret
    exact ⟨rfl, rfl⟩
theorem check_file (l s t : Int) (w : World) (h : ¬ ((0 ≤ l ∧ l ≤ 64) ∧ (0 ≤ s ∧ s ≤ 1048576) ∧ (0 ≤ t ∧ t ≤ 1099511627776))) : Calls Try.prog 12 #[VA 1 l s t] w fun e w' => e = .returned (.int .i64 70) ∧ w' = w.alloc (BA 1 l s t) := by
  by_cases h1 : 0 ≤ l ∧ l ≤ 64
  · by_cases h2 : 0 ≤ s ∧ s ≤ 1048576
    · have H1 : Hid ((0 ≤ l ∧ l ≤ 64) ∧ (0 ≤ s ∧ s ≤ 1048576) ∧ ¬ (0 ≤ t ∧ t ≤ 1099511627776)) := ⟨h1, h2, fun h3 => h ⟨h1, h2, h3⟩⟩
      clear h1 h2 h
      go_enter Try.func12, Try.ntmps12
      go_wp2_with fail
      refine (within_yes _ _ _ _ H1.out.1).mono ?_
      rintro e w' ⟨rfl, rfl⟩
      go_wp2_with fail
      refine (within_yes _ _ _ _ H1.out.2.1).mono ?_
      rintro e w' ⟨rfl, rfl⟩
      go_wp2_with fail
      refine (within_no _ _ _ _ H1.out.2.2).mono ?_
      rintro e w' ⟨rfl, rfl⟩
      go_wp2
      go_ret
      exact ⟨rfl, rfl⟩
    · have H1 : Hid ((0 ≤ l ∧ l ≤ 64) ∧ ¬ (0 ≤ s ∧ s ≤ 1048576)) := ⟨h1, h2⟩
      clear h1 h2 h
      go_enter Try.func12, Try.ntmps12
      go_wp2_with fail
      refine (within_yes _ _ _ _ H1.out.1).mono ?_
      rintro e w' ⟨rfl, rfl⟩
      go_wp2_with fail
      refine (within_no _ _ _ _ H1.out.2).mono ?_
      rintro e w' ⟨rfl, rfl⟩
      go_wp2
      go_ret
      exact ⟨rfl, rfl⟩
  · have H1 : Hid (¬ (0 ≤ l ∧ l ≤ 64)) := h1
    clear h1 h
    go_enter Try.func12, Try.ntmps12
    go_wp2_with fail
    refine (within_no _ _ _ _ H1.out).mono ?_
    rintro e w' ⟨rfl, rfl⟩
    go_wp2
    go_ret
    exact ⟨rfl, rfl⟩
theorem check_dir (s t : Int) (w : World) (h : ¬ ((0 ≤ s ∧ s ≤ 1048576) ∧ (0 ≤ t ∧ t ≤ 1099511627776))) : Calls Try.prog 12 #[VA 2 1 s t] w fun e w' => e = .returned (.int .i64 70) ∧ w' = w.alloc (BA 2 1 s t) := by
  by_cases h2 : 0 ≤ s ∧ s ≤ 1048576
  · have H1 : Hid ((0 ≤ s ∧ s ≤ 1048576) ∧ ¬ (0 ≤ t ∧ t ≤ 1099511627776)) := ⟨h2, fun h3 => h ⟨h2, h3⟩⟩
    clear h2 h
    go_enter Try.func12, Try.ntmps12
    go_wp2_with fail
    refine (within_yes _ _ _ _ (by decide)).mono ?_
    rintro e w' ⟨rfl, rfl⟩
    go_wp2_with fail
    refine (within_yes _ _ _ _ H1.out.1).mono ?_
    rintro e w' ⟨rfl, rfl⟩
    go_wp2_with fail
    refine (within_no _ _ _ _ H1.out.2).mono ?_
    rintro e w' ⟨rfl, rfl⟩
    go_wp2
    go_ret
    exact ⟨rfl, rfl⟩
  · have H1 : Hid (¬ (0 ≤ s ∧ s ≤ 1048576)) := h2
    clear h2 h
    go_enter Try.func12, Try.ntmps12
    go_wp2_with fail
    refine (within_yes _ _ _ _ (by decide)).mono ?_
    rintro e w' ⟨rfl, rfl⟩
    go_wp2_with fail
    refine (within_no _ _ _ _ H1.out).mono ?_
    rintro e w' ⟨rfl, rfl⟩
    go_wp2
    go_ret
    exact ⟨rfl, rfl⟩
set_option maxHeartbeats 1000000 in
theorem check_no (k l s t : Int) (w : World) (h : At.right k l s t = false) : Calls Try.prog 12 #[VA k l s t] w fun e w' => e = .returned (.int .i64 70) ∧ w' = w.alloc (BA k l s t) := by
  have hw := At.wrong_iff.1 h
  clear h
  unfold At.rightP at hw
  by_cases k1 : k = 1
  · subst k1
    exact check_file l s t w (fun h => hw (.inr ⟨h.2.1, h.2.2, .inl ⟨rfl, h.1⟩⟩))
  by_cases k2 : k = 2
  · by_cases l1 : l = 1
    · subst k2
      subst l1
      exact check_dir s t w (fun h => hw (.inr ⟨h.1, h.2, .inr ⟨rfl, rfl⟩⟩))
    · subst k2
      clear hw
      go_enter Try.func12, Try.ntmps12
      go_wp2
      go_ret
      exact ⟨rfl, rfl⟩
  by_cases k0 : k = 0
  · subst k0
    have hz : ((l == 0) && ((s == 0) && (t == 0))) = false := by
      rw [Bool.eq_false_iff]
      intro h
      simp at h
      exact hw (.inl ⟨rfl, h.1, h.2.1, h.2.2⟩)
    by_cases l0 : l = 0
    · by_cases s0 : s = 0
      · have t0 : ¬ t = 0 := fun h => hw (.inl ⟨rfl, l0, s0, h⟩)
        clear hz hw k1 k2
        subst l0
        subst s0
        go_enter Try.func12, Try.ntmps12
        go_wp2
        go_ret
        exact ⟨rfl, rfl⟩
      · clear hz hw k1 k2
        subst l0
        go_enter Try.func12, Try.ntmps12
        go_wp2
        go_ret
        exact ⟨rfl, rfl⟩
    · clear hz hw k1 k2
      go_enter Try.func12, Try.ntmps12
      go_wp2
      go_ret
      exact ⟨rfl, rfl⟩
  · clear hw
    go_enter Try.func12, Try.ntmps12
    go_wp2
    go_ret
    exact ⟨rfl, rfl⟩
set_option maxHeartbeats 2000000 in
theorem right_any (k l s t : Int) (w : World) : Calls Try.prog 13 #[VA k l s t] w fun e w' => e = .returned (.bool (At.right k l s t)) ∧ w' = w.alloc (BA k l s t) := by
  by_cases k0 : k = 0
  · have HE : Hid (At.right k l s t = (decide (l = 0) && decide (s = 0) && decide (t = 0))) := by
      show At.right k l s t = _
      unfold At.right At.rightP
      rw [Bool.eq_iff_iff]
      simp [k0, and_assoc]
    subst k0
    obtain ⟨y, hy⟩ : ∃ y, At.right 0 l s t = y := ⟨_, rfl⟩
    have HY : Hid (At.right 0 l s t = y) := hy
    rw [hy]
    clear hy
    by_cases l0 : l = 0
    · by_cases s0 : s = 0
      · by_cases t0 : t = 0
        all_goals
          have H : Hid (y = decide (t = 0)) := by show y = _; rw [← HY.out, HE.out]; simp [l0, s0]
          subst l0
          subst s0
          go_enter Try.func13, Try.ntmps13
          go_wp2
          go_ret
          rw [H.out]
          simp [t0]
      · have H : Hid (y = false) := by show y = _; rw [← HY.out, HE.out]; simp [s0]
        subst l0
        go_enter Try.func13, Try.ntmps13
        go_wp2
        go_ret
        rw [H.out]
        exact ⟨rfl, rfl⟩
    · have H : Hid (y = false) := by show y = _; rw [← HY.out, HE.out]; simp [l0]
      go_enter Try.func13, Try.ntmps13
      go_wp2
      go_ret
      rw [H.out]
      exact ⟨rfl, rfl⟩
  · obtain ⟨y, hy⟩ : ∃ y, At.right k l s t = y := ⟨_, rfl⟩
    have HY : Hid (At.right k l s t = y) := hy
    rw [hy]
    clear hy
    by_cases s0 : s < 0
    · have H : Hid (y = false) := by rw [← HY.out]; exact At.wrong_iff.2 (by unfold At.rightP; omega)
      go_enter Try.func13, Try.ntmps13
      go_wp2
      go_ret
      rw [H.out]
      exact ⟨rfl, rfl⟩
    by_cases s1 : 1048576 < s
    · have H : Hid (y = false) := by rw [← HY.out]; exact At.wrong_iff.2 (by unfold At.rightP; omega)
      go_enter Try.func13, Try.ntmps13
      go_wp2
      go_ret
      rw [H.out]
      exact ⟨rfl, rfl⟩
    by_cases t0 : t < 0
    · have H : Hid (y = false) := by rw [← HY.out]; exact At.wrong_iff.2 (by unfold At.rightP; omega)
      go_enter Try.func13, Try.ntmps13
      go_wp2
      go_ret
      rw [H.out]
      exact ⟨rfl, rfl⟩
    by_cases t1 : 1099511627776 < t
    · have H : Hid (y = false) := by rw [← HY.out]; exact At.wrong_iff.2 (by unfold At.rightP; omega)
      go_enter Try.func13, Try.ntmps13
      go_wp2
      go_ret
      rw [H.out]
      exact ⟨rfl, rfl⟩
    by_cases k1 : k = 1
    · by_cases l0 : 0 ≤ l
      · by_cases l1 : l ≤ 64
        · have H : Hid (y = true) := by rw [← HY.out]; exact At.right_iff.2 (by unfold At.rightP; omega)
          subst k1
          go_enter Try.func13, Try.ntmps13
          go_wp2
          go_ret
          rw [H.out]
          exact ⟨rfl, rfl⟩
        · have H : Hid (y = false) := by rw [← HY.out]; exact At.wrong_iff.2 (by unfold At.rightP; omega)
          subst k1
          go_enter Try.func13, Try.ntmps13
          go_wp2
          go_ret
          rw [H.out]
          exact ⟨rfl, rfl⟩
      · have H : Hid (y = false) := by rw [← HY.out]; exact At.wrong_iff.2 (by unfold At.rightP; omega)
        subst k1
        go_enter Try.func13, Try.ntmps13
        go_wp2
        go_ret
        rw [H.out]
        exact ⟨rfl, rfl⟩
    by_cases k2 : k = 2
    · by_cases l1 : l = 1
      · have H : Hid (y = true) := by rw [← HY.out]; exact At.right_iff.2 (by unfold At.rightP; omega)
        subst k2
        subst l1
        go_enter Try.func13, Try.ntmps13
        go_wp2
        go_ret
        rw [H.out]
        exact ⟨rfl, rfl⟩
      · have H : Hid (y = false) := by rw [← HY.out]; exact At.wrong_iff.2 (by unfold At.rightP; omega)
        subst k2
        have l1' : (l == 1) = false := by simpa using l1
        go_enter Try.func13, Try.ntmps13
        go_wp2
        go_ret
        rw [H.out]
        exact ⟨rfl, rfl⟩
    have H : Hid (y = false) := by rw [← HY.out]; exact At.wrong_iff.2 (by unfold At.rightP; omega)
    go_enter Try.func13, Try.ntmps13
    go_wp2
    go_ret
    rw [H.out]
    exact ⟨rfl, rfl⟩

theorem num_s (n size : Int) (w : World) (hn : n ≤ 9223372036854775807) : Calls Try.prog 19 #[.int .i64 n, .int .i64 size] w fun e w' => e = .returned (.string (Pl.numOut n size)) ∧ Below w.heap.size w w' := by
  go_enter Try.func19, Try.ntmps19
  go_wp2_with fail
  refine (num_any n size _ hn).mono ?_
  rintro e w1 ⟨rfl, hb⟩
  go_wp2
  go_ret
  exact ⟨rfl, hb⟩
theorem number_s (s : ByteArray) (w : World) (hs : s.size ≤ maxLen) : Calls Try.prog 21 #[.string s] w fun e w' => e = .returned (.int .i64 (Pl.numVal s)) ∧ w' = w := by
  have HS : Hid (s.size ≤ maxLen) := hs
  clear hs
  go_enter Try.func21, Try.ntmps21
  go_wp2_with fail
  refine (number_any s _ HS.out).mono ?_
  rintro e w1 ⟨rfl, rfl⟩
  go_wp2
  go_ret
  exact ⟨rfl, rfl⟩
theorem Pl.numOut_size (n size : Int) : (Pl.numOut n size).size ≤ 8 := by
  unfold Pl.numOut
  split
  · decide
  · rename_i h
    rw [Pl.txt_size, Pl.digits_length]
    unfold Pl.numBad at h
    simp at h
    omega
def At.packOut (k l s t : Int) : ByteArray := if At.right k l s t then Pl.numOut k 1 ++ Pl.numOut l 1 ++ Pl.numOut s 4 ++ Pl.numOut t 6 else ⟨#[]⟩
def At.packErr (k l s t : Int) : Int := if At.right k l s t then 0 else 70
theorem four_next {w' w'' : World} {R : Nat} {x0 x1 x2 x3 : Value} (h : w'.cell? ⟨R, 0, none⟩ = some x0 ∧ w'.cell? ⟨R, 1, none⟩ = some x1 ∧ w'.cell? ⟨R, 2, none⟩ = some x2 ∧ w'.cell? ⟨R, 3, none⟩ = some x3 ∧ R < w'.heap.size) (hb : Below w'.heap.size w' w'') :
    w''.cell? ⟨R, 0, none⟩ = some x0 ∧ w''.cell? ⟨R, 1, none⟩ = some x1 ∧ w''.cell? ⟨R, 2, none⟩ = some x2 ∧ w''.cell? ⟨R, 3, none⟩ = some x3 ∧ R < w''.heap.size := by
  obtain ⟨h0, h1, h2, h3, hR⟩ := h
  exact ⟨(hb.cell (p := ⟨R, 0, none⟩) hR).trans h0, (hb.cell (p := ⟨R, 1, none⟩) hR).trans h1, (hb.cell (p := ⟨R, 2, none⟩) hR).trans h2, (hb.cell (p := ⟨R, 3, none⟩) hR).trans h3, Nat.lt_of_lt_of_le hR hb.size⟩

set_option maxHeartbeats 2000000 in
theorem pack_any (k l s t : Int) (w : World) (hs : s ≤ 9223372036854775807) (ht : t ≤ 9223372036854775807) (hk : k ≤ 9223372036854775807) (hl : l ≤ 9223372036854775807) :
    Calls Try.prog 8 #[VA k l s t] w fun e w' => e = .returned (.tuple #[.string (At.packOut k l s t), .int .i64 (At.packErr k l s t)]) ∧ Below w.heap.size w w' := by
  by_cases hr : At.right k l s t = true
  · have HR : Hid (At.right k l s t = true) := hr
    have HO : Hid (At.packOut k l s t = Pl.numOut k 1 ++ Pl.numOut l 1 ++ Pl.numOut s 4 ++ Pl.numOut t 6 ∧ At.packErr k l s t = 0) := ⟨by simp [At.packOut, hr], by simp [At.packErr, hr]⟩
    have z1 := Pl.numOut_size k 1
    have z2 := Pl.numOut_size l 1
    have z3 := Pl.numOut_size s 4
    have z4 := Pl.numOut_size t 6
    obtain ⟨n1, hn1⟩ : ∃ n1, Pl.numOut k 1 = n1 := ⟨_, rfl⟩
    obtain ⟨n2, hn2⟩ : ∃ n2, Pl.numOut l 1 = n2 := ⟨_, rfl⟩
    obtain ⟨n3, hn3⟩ : ∃ n3, Pl.numOut s 4 = n3 := ⟨_, rfl⟩
    obtain ⟨n4, hn4⟩ : ∃ n4, Pl.numOut t 6 = n4 := ⟨_, rfl⟩
    rw [hn1, hn2, hn3, hn4] at HO
    rw [hn1] at z1
    rw [hn2] at z2
    rw [hn3] at z3
    rw [hn4] at z4
    have HN : Hid (Pl.numOut k 1 = n1 ∧ Pl.numOut l 1 = n2 ∧ Pl.numOut s 4 = n3 ∧ Pl.numOut t 6 = n4) := ⟨hn1, hn2, hn3, hn4⟩
    have hq1 : ¬ 9223372036854775807 < n1.size + n2.size := by omega
    have hq2 : ¬ 9223372036854775807 < n1.size + n2.size + n3.size := by omega
    have hq3 : ¬ 9223372036854775807 < n1.size + n2.size + n3.size + n4.size := by omega
    clear hr hn1 hn2 hn3 hn4
    go_enter Try.func8, Try.ntmps8
    go_wp2_with fail
    refine (check_yes k l s t _ HR.out).mono ?_
    rintro e w1 ⟨rfl, rfl⟩
    have HS : Hid (((w.alloc (BA k l s t)).alloc (BA k l s t)).cell? ⟨w.heap.size, 0, none⟩ = some (.int .i64 k) ∧ ((w.alloc (BA k l s t)).alloc (BA k l s t)).cell? ⟨w.heap.size, 1, none⟩ = some (.int .i64 l) ∧ ((w.alloc (BA k l s t)).alloc (BA k l s t)).cell? ⟨w.heap.size, 2, none⟩ = some (.int .i64 s) ∧ ((w.alloc (BA k l s t)).alloc (BA k l s t)).cell? ⟨w.heap.size, 3, none⟩ = some (.int .i64 t) ∧ w.heap.size < ((w.alloc (BA k l s t)).alloc (BA k l s t)).heap.size) := ⟨by simp, by simp, by simp, by simp, by simp; omega⟩
    have HB : Hid (Below w.heap.size w ((w.alloc (BA k l s t)).alloc (BA k l s t))) := ((Below.refl _ _).alloc (Nat.le_refl _) _).alloc (by simp) _
    go_wp2_with fail
    obtain ⟨W, hW⟩ : ∃ W, (w.alloc (BA k l s t)).alloc (BA k l s t) = W := ⟨_, rfl⟩
    obtain ⟨R, hR⟩ : ∃ R, w.heap.size = R := ⟨_, rfl⟩
    rw [hW] at HB
    rw [hW, hR] at HS
    rw [hW, hR]
    go_region_held3 (fun w' => w'.cell? ⟨R, 0, none⟩ = some (.int .i64 k) ∧ w'.cell? ⟨R, 1, none⟩ = some (.int .i64 l) ∧ w'.cell? ⟨R, 2, none⟩ = some (.int .i64 s) ∧ w'.cell? ⟨R, 3, none⟩ = some (.int .i64 t) ∧ R < w'.heap.size) (first | exact HS.out | assumption | exact four_next (by assumption) (by assumption)) (first
      | (go_at_call_of 19 (Value.int .i64 6); refine (num_s t 6 _ ht).mono ?_; rintro e w5 ⟨rfl, hb5⟩; rw [HN.out.2.2.2])
      | (go_at_call_of 19 (Value.int .i64 4); refine (num_s s 4 _ hs).mono ?_; rintro e w4 ⟨rfl, hb4⟩; rw [HN.out.2.2.1])
      | (go_at_call 19; have hb2' := hb2; refine (num_s l 1 _ hl).mono ?_; rintro e w3 ⟨rfl, hb3⟩; rw [HN.out.2.1])
      | (go_at_call 19; refine (num_s k 1 _ hk).mono ?_; rintro e w2 ⟨rfl, hb2⟩; rw [HN.out.1]))
    all_goals
      have HF : Hid (Below w.heap.size w w5) := by
        have h1 := HB.out
        have b2 : Below W.heap.size W w2 := ⟨hb2.os, hb2.tape, hb2.output, hb2.size, hb2.block⟩
        have h2 := h1.trans (b2.mono h1.size)
        have h3 := h2.trans (hb3.mono h2.size)
        have h4 := h3.trans (hb4.mono h3.size)
        exact h4.trans (hb5.mono h4.size)
      go_wp2
      go_ret2
      rw [HO.out.1, HO.out.2]
      exact ⟨rfl, HF.out⟩
  · have hr' : At.right k l s t = false := by simpa using hr
    have HR : Hid (At.right k l s t = false) := hr'
    have HO : Hid (At.packOut k l s t = ⟨#[]⟩ ∧ At.packErr k l s t = 70) := ⟨by simp [At.packOut, hr'], by simp [At.packErr, hr']⟩
    clear hr hr'
    go_enter Try.func8, Try.ntmps8
    go_wp2_with fail
    refine (check_no k l s t _ HR.out).mono ?_
    rintro e w1 ⟨rfl, rfl⟩
    go_wp2
    go_ret2
    rw [HO.out.1, HO.out.2]
    exact ⟨rfl, ((Below.refl _ _).alloc (Nat.le_refl _) _).alloc (by simp) _⟩
end Go.Proofs.Ytdbfhhkbjlednaa
