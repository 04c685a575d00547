/-
  nonce's Check, refuse, and the document's Right: what each answers; they turn nothing.
-/
import Derived.Test.YtbjbfmdlkdiiaaaBase
namespace Go.Proofs.Ytbjbfmdlkdiiaaa
open Go.RowKit

theorem Nc.chk_yes {l : List Int} (h : Nc.vec l = true) : Nc.chk l = 0 := by unfold Nc.chk; rw [if_pos h]
theorem Nc.chk_no {l : List Int} (h : Nc.vec l = false) : Nc.chk l = 4 := by unfold Nc.chk; rw [if_neg (by simp [h])]
set_option maxHeartbeats 400000 in
theorem check_any (v : Value) (l : List Int) (w : World) (hv : IntsAt w v l) : Calls Try.prog 10 #[v] w fun e w' => e = .returned (.int .i64 (Nc.chk l)) ∧ w' = w := by
  cases hc : Nc.isC l.length with
  | false =>
    have HE : Hid (Nc.chk l = 4) := Nc.chk_no (by unfold Nc.vec; rw [hc, Bool.and_false])
    have HC : Hid (Nc.isC l.length = false) := hc
    obtain ⟨ao, cap, rfl, hm⟩ := hv.slice
    unfold maxLen at hm
    clear hv hc
    generalize l.length = n at *
    go_enter Try.func10, Try.ntmps10
    go_wp2_with fail
    refine (isCount_any n _).mono ?_
    rintro e w' ⟨rfl, rfl⟩
    rw [HC.out]
    go_wp2
    go_ret
    rw [HE.out]
    exact ⟨rfl, rfl⟩
  | true =>
    have hn := Nc.isC_le hc
    obtain ⟨b, off, cap, rfl, hB, hlc, hm, hx⟩ := hv.pos hn.2
    unfold maxLen at hm
    have HC : Hid (Nc.isC l.length = true) := hc
    have HX : Hid (∀ i, i < l.length → w.cell? ⟨b, off + i, none⟩ = some (.int .i64 (l.getD i 0))) := hx
    obtain ⟨n, hnn⟩ : ∃ n, l.length = n := ⟨_, rfl⟩
    have HN : Hid (l.length = n) := hnn
    rw [hnn] at HC HX hlc hn ⊢
    clear hv hx hc hnn
    go_enter Try.func10, Try.ntmps10
    go_wp2_with fail
    refine (isCount_any n _).mono ?_
    rintro e w' ⟨rfl, rfl⟩
    rw [HC.out]
    go_wp2
    go_loop [10] (fun t => ∃ j : Nat, j ≤ n ∧ t = .int .i64 j ∧ Hid (∀ i, i < j → Nc.fit (l.getD i 0) = true)) (fun t => n - (intOf t).toNat)
    case atStart => exact ⟨0, Nat.zero_le _, rfl, fun i hi => by omega⟩
    case round =>
      obtain ⟨j, hj, rfl, HJ⟩ := hrel
      by_cases hlt : j < n
      · have c0 := HX.out j hlt
        have hlt' : (j : Int) < (n : Int) := by omega
        cases hf : Nc.fit (l.getD j 0) with
        | true =>
          have HJ' : Hid (∀ i, i < j + 1 → Nc.fit (l.getD i 0) = true) := fun i hi => by
            by_cases e : i = j
            · subst e; exact hf
            · exact HJ.out i (by omega)
          have HF : Hid (Nc.fit (l.getD j 0) = true) := hf
          clear hf
          generalize l.getD j 0 = x at *
          go_wp2_with fail
          refine (fits_any x _).mono ?_
          rintro e w1 ⟨rfl, rfl⟩
          rw [HF.out]
          go_wp2
          go_round
          case rel => exact ⟨j + 1, by omega, by go_num, HJ'⟩
          case measure => simp [intOf]; omega
        | false =>
          have HE : Hid (Nc.chk l = 4) := Nc.chk_no (by
            rw [← Bool.not_eq_true, Nc.vec_iff]
            intro h
            have := h.1 j (by rw [HN.out]; exact hlt)
            rw [hf] at this
            cases this)
          have HF : Hid (Nc.fit (l.getD j 0) = false) := hf
          clear hf
          generalize l.getD j 0 = x at *
          go_wp2_with fail
          refine (fits_any x _).mono ?_
          rintro e w1 ⟨rfl, rfl⟩
          rw [HF.out]
          go_wp2
          go_ret
          rw [HE.out]
          exact ⟨rfl, rfl⟩
      · obtain rfl : n = j := by omega
        have HE : Hid (Nc.chk l = 0) := Nc.chk_yes (by
          rw [Nc.vec_iff, HN.out]
          exact ⟨HJ.out, HC.out⟩)
        go_wp2
        go_ret
        rw [HE.out]
        exact ⟨rfl, rfl⟩
set_option maxHeartbeats 400000 in
theorem right_any (v : Value) (l : List Int) (w : World) (hv : IntsAt w v l) : Calls Try.prog 11 #[v] w fun e w' => e = .returned (.bool (Nc.vec l)) ∧ w' = w := by
  have HV : Hid (IntsAt w v l) := hv
  obtain ⟨ao, cap, rfl, hm⟩ := hv.slice
  unfold maxLen at hm
  clear hv
  obtain ⟨n, hnn⟩ : ∃ n, l.length = n := ⟨_, rfl⟩
  have HN : Hid (l.length = n) := hnn
  rw [hnn] at HV hm ⊢
  clear hnn
  go_enter Try.func11, Try.ntmps11
  go_wp2
  go_loop [7] (fun t => ∃ j : Nat, j ≤ n ∧ t = .int .i64 j ∧ Hid (∀ i, i < j → Nc.fit (l.getD i 0) = true)) (fun t => n - (intOf t).toNat)
  case atStart => exact ⟨0, Nat.zero_le _, rfl, fun i hi => by omega⟩
  case round =>
    obtain ⟨j, hj, rfl, HJ⟩ := hrel
    by_cases hlt : j < n
    · obtain ⟨b, off, cap', hv, hB, hlc, hcm, hx⟩ := HV.out.pos (by rw [HN.out]; omega)
      rw [HN.out] at hx hv
      cases hv
      have c0 := hx j hlt
      clear hx hlc
      have hlt' : (j : Int) < (n : Int) := by omega
      rcases Nc.fit_cases (l.getD j 0) with ⟨hf, x0, x1⟩ | ⟨hf, hx⟩
      · have HJ' : Hid (∀ i, i < j + 1 → Nc.fit (l.getD i 0) = true) := fun i hi => by
          by_cases e : i = j
          · subst e; exact hf
          · exact HJ.out i (by omega)
        clear hf
        generalize l.getD j 0 = x at *
        have x0' : ¬ x < 0 := by omega
        have x1' : ¬ 1099511627776 < x := by omega
        go_wp2
        go_round
        case rel => exact ⟨j + 1, by omega, by go_num, HJ'⟩
        case measure => simp [intOf]; omega
      · have HE : Hid (Nc.vec l = false) := show Nc.vec l = false by
          rw [← Bool.not_eq_true, Nc.vec_iff]
          intro h
          have := h.1 j (by rw [HN.out]; exact hlt)
          rw [hf] at this
          cases this
        clear hf
        generalize l.getD j 0 = x at *
        rcases hx with hx | ⟨hx0, hx⟩
        all_goals
          go_wp2
          go_ret
          rw [HE.out]
          exact ⟨rfl, rfl⟩
    · obtain rfl : n = j := by omega
      have HE : Hid (Nc.vec l = Nc.isC n) := show Nc.vec l = Nc.isC n by
        rw [Bool.eq_iff_iff, Nc.vec_iff, HN.out]
        exact ⟨fun h => h.2, fun h => ⟨HJ.out, h⟩⟩
      go_wp2_with fail
      refine (panel_any n _).mono ?_
      rintro e w1 ⟨rfl, rfl⟩
      generalize Nc.isC n = q at *
      go_wp2
      go_ret
      rw [HE.out]
      exact ⟨rfl, rfl⟩
set_option maxHeartbeats 400000 in
theorem refuse_any (u v : Value) (a b : List Int) (w : World) (hu : IntsAt w u a) (hv : IntsAt w v b) : Calls Try.prog 23 #[u, v] w fun e w' => e = .returned (.int .i64 (Nc.e2 a b)) ∧ w' = w := by
  have HU : Hid (IntsAt w u a) := hu
  have HV : Hid (IntsAt w v b) := hv
  obtain ⟨ao, ca, rfl, hma⟩ := hu.slice
  obtain ⟨bo, cb, rfl, hmb⟩ := hv.slice
  unfold maxLen at hma hmb
  clear hu hv
  cases h1 : Nc.vec a with
  | false =>
    have HE : Hid (Nc.e2 a b = 4) := Nc.e2_no (by unfold Nc.two; rw [h1]; rfl)
    have HC : Hid (Nc.chk a = 4) := Nc.chk_no h1
    clear h1
    go_enter Try.func23, Try.ntmps23
    go_wp2_with fail
    refine (check_any _ a _ HU.out).mono ?_
    rintro e w1 ⟨rfl, rfl⟩
    rw [HC.out]
    go_wp2
    go_ret
    rw [HE.out]
    exact ⟨rfl, rfl⟩
  | true =>
    have HC : Hid (Nc.chk a = 0) := Nc.chk_yes h1
    cases h2 : Nc.vec b with
    | false =>
      have HE : Hid (Nc.e2 a b = 4) := Nc.e2_no (by unfold Nc.two; rw [h2, Bool.and_false]; rfl)
      have HD : Hid (Nc.chk b = 4) := Nc.chk_no h2
      clear h1 h2
      go_enter Try.func23, Try.ntmps23
      go_wp2_with fail
      refine (check_any _ a _ HU.out).mono ?_
      rintro e w1 ⟨rfl, rfl⟩
      rw [HC.out]
      go_wp2_with fail
      refine (check_any _ b _ HV.out).mono ?_
      rintro e w1 ⟨rfl, rfl⟩
      rw [HD.out]
      go_wp2
      go_ret
      rw [HE.out]
      exact ⟨rfl, rfl⟩
    | true =>
      have HD : Hid (Nc.chk b = 0) := Nc.chk_yes h2
      by_cases h3 : a.length = b.length
      · have HE : Hid (Nc.e2 a b = 0) := Nc.e2_yes (Nc.two_iff.2 ⟨h1, h2, h3⟩)
        have hq : ((a.length : Int) != (b.length : Int)) = false := by simp [h3]
        clear h1 h2 h3
        go_enter Try.func23, Try.ntmps23
        go_wp2_with fail
        refine (check_any _ a _ HU.out).mono ?_
        rintro e w1 ⟨rfl, rfl⟩
        rw [HC.out]
        go_wp2_with fail
        refine (check_any _ b _ HV.out).mono ?_
        rintro e w1 ⟨rfl, rfl⟩
        rw [HD.out]
        go_wp2
        go_ret
        rw [HE.out]
        exact ⟨rfl, rfl⟩
      · have HE : Hid (Nc.e2 a b = 4) := Nc.e2_no (by rw [← Bool.not_eq_true, Nc.two_iff]; exact fun h => h3 h.2.2)
        have hq : ((a.length : Int) != (b.length : Int)) = true := by simp; omega
        clear h1 h2 h3
        go_enter Try.func23, Try.ntmps23
        go_wp2_with fail
        refine (check_any _ a _ HU.out).mono ?_
        rintro e w1 ⟨rfl, rfl⟩
        rw [HC.out]
        go_wp2_with fail
        refine (check_any _ b _ HV.out).mono ?_
        rintro e w1 ⟨rfl, rfl⟩
        rw [HD.out]
        go_wp2
        go_ret
        rw [HE.out]
        exact ⟨rfl, rfl⟩
end Go.Proofs.Ytbjbfmdlkdiiaaa
