/-
  The document's Primary and Turn, and panel's Enough: what each answers; they turn nothing.
-/
import Derived.Test.YtoplngccejkkcaaTurn
namespace Go.Proofs.Ytoplngccejkkcaa
open Go.RowKit

theorem refPrimary_no {n : Int} (v : Int) (w : World) (h : Pn.No n) : Calls Try.prog 16 #[.int .i64 n, .int .i64 v] w fun e w' => e = .returned (.int .i64 (-1)) ∧ w' = w := by
  have H : Hid (Pn.No n) := h
  clear h
  go_enter Try.func16, Try.ntmps16
  go_wp2_with fail
  refine (refFaults_no _ H.out).mono ?_
  rintro e w' ⟨rfl, rfl⟩
  go_wp2
  go_ret
  exact ⟨rfl, rfl⟩
theorem refPrimary_arg {n f : Int} (v : Int) (w : World) (h : Pn.Is n f) (hv : v < 0 ∨ 1099511627776 < v) : Calls Try.prog 16 #[.int .i64 n, .int .i64 v] w fun e w' => e = .returned (.int .i64 (-1)) ∧ w' = w := by
  have H : Hid (Pn.Is n f) := h
  by_cases v0 : v < 0
  · rcases h with ⟨rfl, rfl⟩ | ⟨rfl, rfl⟩ | ⟨rfl, rfl⟩ | ⟨rfl, rfl⟩
    all_goals
      go_enter Try.func16, Try.ntmps16
      go_wp2_with fail
      refine (refFaults_yes _ H.out).mono ?_
      rintro e w' ⟨rfl, rfl⟩
      go_wp2
      go_ret
      exact ⟨rfl, rfl⟩
  · have v1 : 1099511627776 < v := by omega
    clear hv
    rcases h with ⟨rfl, rfl⟩ | ⟨rfl, rfl⟩ | ⟨rfl, rfl⟩ | ⟨rfl, rfl⟩
    all_goals
      go_enter Try.func16, Try.ntmps16
      go_wp2_with fail
      refine (refFaults_yes _ H.out).mono ?_
      rintro e w' ⟨rfl, rfl⟩
      go_wp2
      go_ret
      exact ⟨rfl, rfl⟩
theorem refPrimary_yes {n f : Int} (v : Int) (w : World) (h : Pn.Is n f) (h0 : 0 ≤ v) (h1 : v ≤ 1099511627776) : Calls Try.prog 16 #[.int .i64 n, .int .i64 v] w fun e w' => e = .returned (.int .i64 (v % (f + 1))) ∧ w' = w := by
  have H : Hid (Pn.Is n f) := h
  have h0' : ¬ v < 0 := by omega
  have h1' : ¬ 1099511627776 < v := by omega
  rcases h with ⟨rfl, rfl⟩ | ⟨rfl, rfl⟩ | ⟨rfl, rfl⟩ | ⟨rfl, rfl⟩
  all_goals
    go_enter Try.func16, Try.ntmps16
    go_wp2_with fail
    refine (refFaults_yes _ H.out).mono ?_
    rintro e w' ⟨rfl, rfl⟩
    go_wp2
    go_ret
    refine ⟨?_, rfl⟩
    first | rfl | simp

theorem refTurn_no {n : Int} (v k : Int) (w : World) (h : Pn.No n) : Calls Try.prog 13 #[.int .i64 n, .int .i64 v, .int .i64 k] w fun e w' => e = .returned (.tuple #[.int .i64 0, .int .i64 1]) ∧ w' = w := by
  have H : Hid (Pn.No n) := h
  clear h
  go_enter Try.func13, Try.ntmps13
  go_wp2_with fail
  refine (refFaults_no _ H.out).mono ?_
  rintro e w' ⟨rfl, rfl⟩
  go_wp2
  go_ret2
  exact ⟨rfl, rfl⟩
theorem refTurn_arg {n f : Int} (v k : Int) (w : World) (h : Pn.Is n f) (hv : v < 0 ∨ 1099511627776 < v ∨ k < 0 ∨ f < k) : Calls Try.prog 13 #[.int .i64 n, .int .i64 v, .int .i64 k] w fun e w' => e = .returned (.tuple #[.int .i64 0, .int .i64 1]) ∧ w' = w := by
  have H : Hid (Pn.Is n f) := h
  have hf : ¬ f < 0 := by rcases h with ⟨rfl, rfl⟩ | ⟨rfl, rfl⟩ | ⟨rfl, rfl⟩ | ⟨rfl, rfl⟩ <;> omega
  clear h
  by_cases v0 : v < 0
  · clear hv
    go_enter Try.func13, Try.ntmps13
    go_wp2_with fail
    refine (refFaults_yes _ H.out).mono ?_
    rintro e w' ⟨rfl, rfl⟩
    go_wp2
    go_ret2
    exact ⟨rfl, rfl⟩
  by_cases v1 : 1099511627776 < v
  · clear hv
    go_enter Try.func13, Try.ntmps13
    go_wp2_with fail
    refine (refFaults_yes _ H.out).mono ?_
    rintro e w' ⟨rfl, rfl⟩
    go_wp2
    go_ret2
    exact ⟨rfl, rfl⟩
  by_cases k0 : k < 0
  · clear hv
    go_enter Try.func13, Try.ntmps13
    go_wp2_with fail
    refine (refFaults_yes _ H.out).mono ?_
    rintro e w' ⟨rfl, rfl⟩
    go_wp2
    go_ret2
    exact ⟨rfl, rfl⟩
  · have k1 : f < k := by omega
    clear hv
    go_enter Try.func13, Try.ntmps13
    go_wp2_with fail
    refine (refFaults_yes _ H.out).mono ?_
    rintro e w' ⟨rfl, rfl⟩
    go_wp2
    go_ret2
    exact ⟨rfl, rfl⟩
set_option maxHeartbeats 1000000 in
theorem refTurn_yes {n f : Int} (v k : Int) (w : World) (h : Pn.Is n f) (h0 : 0 ≤ v) (h1 : v ≤ 1099511627776) (k0 : 0 ≤ k) (k1 : k ≤ f) :
    Calls Try.prog 13 #[.int .i64 n, .int .i64 v, .int .i64 k] w fun e w' => e = .returned (.tuple (if 1099511627776 < Pn.nxt f v k then #[.int .i64 0, .int .i64 6] else #[.int .i64 (Pn.nxt f v k), .int .i64 0])) ∧ w' = w := by
  have H : Hid (Pn.Is n f) := h
  have hA : Hid (v + 1 ≤ Pn.nxt f v k ∧ Pn.nxt f v k ≤ v + 1 + f) := by have := Pn.nxt_le (v := v) h k0 k1; exact ⟨this.1, this.2.1⟩
  have HS : Hid (∀ u, v + 1 ≤ u → u ≤ Pn.nxt f v k → (u % (f + 1) = k → u = Pn.nxt f v k) ∧ (u % (f + 1) ≠ k → u + 1 ≤ Pn.nxt f v k)) := fun u a b => Pn.nxt_step h h0 k0 k1 a b
  have h0' : ¬ v < 0 := by omega
  have h1' : ¬ 1099511627776 < v := by omega
  have k0' : ¬ k < 0 := by omega
  have k1' : ¬ f < k := by omega
  have HM : Hid (Pn.nxt f v k % (f + 1) = k) := (Pn.nxt_le (v := v) h k0 k1).2.2 h0
  have h00 : f = 0 → k = 0 := by omega
  rcases h with ⟨rfl, rfl⟩ | ⟨rfl, rfl⟩ | ⟨rfl, rfl⟩ | ⟨rfl, rfl⟩
  · obtain rfl := h00 rfl
    generalize hx : Pn.nxt _ v 0 = x at *
    obtain rfl : x = v + 1 := by have := hA.out; omega
    clear hx HS HM hA h00
    go_enter Try.func13, Try.ntmps13
    go_wp2_with fail
    refine (refFaults_yes _ H.out).mono ?_
    rintro e w' ⟨rfl, rfl⟩
    go_wp2
    refine wp_loop_rounds 1 ?_
    by_cases hb : v + 1 ≤ 1099511627776
    · rw [rounds_succ]
      go_wp2
      go_ret2
      try rw [if_neg (by omega)]
      exact ⟨rfl, rfl⟩
    · rw [rounds_succ]
      go_wp2
      go_ret2
      try rw [if_pos (by omega)]
      exact ⟨rfl, rfl⟩
  all_goals
    clear h00
    generalize hx : Pn.nxt _ v k = x at *
    clear hx
    go_enter Try.func13, Try.ntmps13
    go_wp2_with fail
    refine (refFaults_yes _ H.out).mono ?_
    rintro e w' ⟨rfl, rfl⟩
    go_wp2
    go_loop [9] (fun t => ∃ u : Int, t = .int .i64 u ∧ v + 1 ≤ u ∧ u ≤ x) (fun t => (x - intOf t).toNat)
    case atStart => exact ⟨v + 1, rfl, Int.le_refl _, hA.out.1⟩
    case round =>
      obtain ⟨u, rfl, u0, u1⟩ := hrel
      obtain ⟨s1, s2⟩ := HS.out u u0 u1
      have hA2 := hA.out.2
      by_cases hb : u ≤ 1099511627776
      · by_cases hux : u = x
        · have hm := HM.out
          subst hux
          simp only [Int.reduceAdd] at hm
          clear s1 s2 HS hA
          go_wp2
          go_ret2
          try rw [if_neg (by omega)]
          exact ⟨rfl, rfl⟩
        · have hm := fun h => hux (s1 h)
          have hs : u + 1 ≤ x := by omega
          simp only [Int.reduceAdd, imp_false] at hm
          clear s1 s2 HS hA hux
          go_wp2
          go_round
          case rel => exact ⟨u + 1, rfl, by omega, by omega⟩
          case measure => simp [intOf]; omega
      · clear s1 s2 HS hA
        go_wp2
        go_ret2
        try rw [if_pos (by omega)]
        exact ⟨rfl, rfl⟩

theorem enough_no {n : Int} (s : Int) (w : World) (h : Pn.No n) : Calls Try.prog 17 #[.int .i64 n, .int .i64 s] w fun e w' => e = .returned (.tuple #[.bool false, .int .i64 1]) ∧ w' = w := by
  have H : Hid (Pn.No n) := h
  clear h
  go_enter Try.func17, Try.ntmps17
  go_wp2_with fail
  refine (isPanel_no _ H.out).mono ?_
  rintro e w' ⟨rfl, rfl⟩
  go_wp2
  go_ret2
  exact ⟨rfl, rfl⟩
theorem enough_arg {n f : Int} (s : Int) (w : World) (h : Pn.Is n f) (hs : s < 0 ∨ 2 ^ n.toNat ≤ s) : Calls Try.prog 17 #[.int .i64 n, .int .i64 s] w fun e w' => e = .returned (.tuple #[.bool false, .int .i64 1]) ∧ w' = w := by
  have H : Hid (Pn.Is n f) := h
  have HS : Hid (s < 0 ∨ 2 ^ n.toNat ≤ s) := hs
  clear h hs
  go_enter Try.func17, Try.ntmps17
  go_wp2_with fail
  refine (isPanel_yes _ H.out).mono ?_
  rintro e w' ⟨rfl, rfl⟩
  go_wp2_with fail
  refine (isSet_no _ _ H.out HS.out).mono ?_
  rintro e w' ⟨rfl, rfl⟩
  go_wp2
  go_ret2
  exact ⟨rfl, rfl⟩
/-- Within a set of n nodes no other ones are counted. -/
theorem Pn.count7 {n s : Nat} (hn : n ≤ 7) (hs : s < 2 ^ n) : (List.range 7).countP (Pn.bit s) = (List.range n).countP (Pn.bit s) := by
  rw [show 7 = n + (7 - n) from by omega, List.range_add, List.countP_append]
  have : ((List.range (7 - n)).map (n + ·)).countP (Pn.bit s) = 0 := by
    rw [List.countP_eq_zero]
    intro i hi
    obtain ⟨j, _, rfl⟩ := List.mem_map.1 hi
    have : s < 2 ^ (n + j) := Nat.lt_of_lt_of_le hs (Nat.pow_le_pow_right (by decide) (by omega))
    simp [Pn.bit, Nat.div_eq_of_lt this]
  omega
theorem enough_yes {n f : Int} (s : Nat) (w : World) (h : Pn.Is n f) (hs : s < 2 ^ n.toNat) : Calls Try.prog 17 #[.int .i64 n, .int .i64 s] w fun e w' => e = .returned (.tuple #[.bool (decide (f + 1 ≤ ((List.range n.toNat).countP (Pn.bit s) : Nat))), .int .i64 0]) ∧ w' = w := by
  have H : Hid (Pn.Is n f) := h
  have hn : n.toNat ≤ 7 := by rcases h with ⟨rfl, rfl⟩ | ⟨rfl, rfl⟩ | ⟨rfl, rfl⟩ | ⟨rfl, rfl⟩ <;> decide
  have hlt : s < 128 := Nat.lt_of_lt_of_le hs (Nat.le_trans (Nat.pow_le_pow_right (by decide) hn) (by decide))
  have hsI : ((s : Nat) : Int) < 2 ^ n.toNat := by
    have : ((s : Nat) : Int) < ((2 ^ n.toNat : Nat) : Int) := by omega
    simpa using this
  have HS : Hid (((s : Nat) : Int) < 2 ^ n.toNat) := hsI
  clear hsI
  rw [← Pn.count7 hn hs]
  generalize hc : (List.range 7).countP (Pn.bit s) = c
  have HC : Hid ((List.range 7).countP (Pn.bit s) = c) := hc
  have HL : Hid (s < 128) := hlt
  have c0 : (0 : Int) ≤ (s : Int) := by omega
  have c1 : (s : Int) < 128 := by omega
  clear h hc hs hn hlt
  go_enter Try.func17, Try.ntmps17
  go_wp2_with fail
  refine (isPanel_yes _ H.out).mono ?_
  rintro e w' ⟨rfl, rfl⟩
  go_wp2_with fail
  refine (isSet_yes _ _ H.out HS.out).mono ?_
  rintro e w' ⟨rfl, rfl⟩
  go_wp2_with fail
  refine (ones_any _ _ HL.out).mono ?_
  rintro e w' ⟨rfl, rfl⟩
  rw [HC.out]
  go_wp2_with fail
  refine (replicas_any _ H.out).mono ?_
  rintro e w' ⟨rfl, rfl⟩
  go_wp2
  go_ret2
  exact ⟨rfl, rfl⟩
end Go.Proofs.Ytoplngccejkkcaa
