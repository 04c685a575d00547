/-
  attr's Link and Grow: what they answer.
-/
import Derived.Test.YtacghcoikekfeaaGreatBase
namespace Go.Proofs.YtacghcoikekfeaaGreat
open Go.ChangeShapes Go.WideShapes Go.ChangeAt Go.RowKit Go.Deep
set_option maxRecDepth 100000

/-- What Link tells. -/
def At.linkErr (k l s t n st : Int) : Int :=
  if At.right k l s t then
    if (n = 1 ∨ n = -1) ∧ (t ≤ st ∧ st ≤ 1099511627776) then
      if k = 1 then if 64 < l + n then 5 else if l + n < 0 then 6 else 0
      else 7
    else 1
  else 70
def At.linkOut (k l s t n st : Int) : Value := if At.linkErr k l s t n st = 0 then VA k (l + n) s st else VA 0 0 0 0
set_option maxHeartbeats 2000000 in
theorem alinkErr_any (k l s t n st : Int) (w : World) : Calls Tryz.prog 123 #[VA k l s t, .int .i64 n, .int .i64 st] w fun e w' => e = .returned (.int .i64 (At.linkErr k l s t n st)) ∧ w' = (w.alloc (BA k l s t)).alloc (BA k l s t) := by
  obtain ⟨y, hy⟩ : ∃ y, At.linkErr k l s t n st = y := ⟨_, rfl⟩
  have HY : Hid (At.linkErr k l s t n st = y) := hy
  rw [hy]
  clear hy
  by_cases hr : At.right k l s t = true
  · have HR : Hid (At.right k l s t = true) := hr
    have HP : Hid (At.rightP k l s t) := At.right_iff.1 hr
    by_cases hn : n = 1 ∨ n = -1
    · by_cases hw : t ≤ st ∧ st ≤ 1099511627776
      · have HW : Hid (t ≤ st ∧ st ≤ 1099511627776) := hw
        by_cases hk : k = 1
        · have hlb : 0 ≤ l ∧ l ≤ 64 := by have := HP.out; unfold At.rightP at this; omega
          by_cases h5 : 64 < l + n
          · have H : Hid (y = 5) := by show y = 5; rw [← HY.out]; unfold At.linkErr; rw [if_pos hr, if_pos ⟨hn, hw⟩, if_pos hk, if_pos h5]
            clear hr hw HP
            subst hk
            obtain rfl : n = 1 := by omega
            all_goals
              go_enter Tryz.func123, Tryz.ntmps123
              go_wp2_with fail
              refine (acheck_yes 1 l s t _ HR.out).mono ?_
              rintro e w1 ⟨rfl, rfl⟩
              go_wp2_with fail
              refine (awithin_yes _ _ _ _ HW.out).mono ?_
              rintro e w1 ⟨rfl, rfl⟩
              go_wp2
              go_ret
              rw [H.out]
              exact ⟨rfl, rfl⟩
          · by_cases h6 : l + n < 0
            · have H : Hid (y = 6) := by show y = 6; rw [← HY.out]; unfold At.linkErr; rw [if_pos hr, if_pos ⟨hn, hw⟩, if_pos hk, if_neg h5, if_pos h6]
              clear hr hw HP
              subst hk
              obtain rfl : n = -1 := by omega
              all_goals
                go_enter Tryz.func123, Tryz.ntmps123
                go_wp2_with fail
                refine (acheck_yes 1 l s t _ HR.out).mono ?_
                rintro e w1 ⟨rfl, rfl⟩
                go_wp2_with fail
                refine (awithin_yes _ _ _ _ HW.out).mono ?_
                rintro e w1 ⟨rfl, rfl⟩
                go_wp2
                go_ret
                rw [H.out]
                exact ⟨rfl, rfl⟩
            · have H : Hid (y = 0) := by show y = 0; rw [← HY.out]; unfold At.linkErr; rw [if_pos hr, if_pos ⟨hn, hw⟩, if_pos hk, if_neg h5, if_neg h6]
              clear hr hw HP
              subst hk
              rcases hn with rfl | rfl
              all_goals
                go_enter Tryz.func123, Tryz.ntmps123
                go_wp2_with fail
                refine (acheck_yes 1 l s t _ HR.out).mono ?_
                rintro e w1 ⟨rfl, rfl⟩
                go_wp2_with fail
                refine (awithin_yes _ _ _ _ HW.out).mono ?_
                rintro e w1 ⟨rfl, rfl⟩
                go_wp2
                go_ret
                rw [H.out]
                exact ⟨rfl, rfl⟩
        · have H : Hid (y = 7) := by show y = 7; rw [← HY.out]; unfold At.linkErr; rw [if_pos hr, if_pos ⟨hn, hw⟩, if_neg hk]
          clear hr hw HP
          rcases hn with rfl | rfl
          all_goals
            go_enter Tryz.func123, Tryz.ntmps123
            go_wp2_with fail
            refine (acheck_yes k l s t _ HR.out).mono ?_
            rintro e w1 ⟨rfl, rfl⟩
            go_wp2_with fail
            refine (awithin_yes _ _ _ _ HW.out).mono ?_
            rintro e w1 ⟨rfl, rfl⟩
            go_wp2
            go_ret
            rw [H.out]
            exact ⟨rfl, rfl⟩
      · have HW : Hid (¬ (t ≤ st ∧ st ≤ 1099511627776)) := hw
        have H : Hid (y = 1) := by
          show y = 1
          rw [← HY.out]
          unfold At.linkErr
          rw [if_pos hr, if_neg (fun h => hw h.2)]
        clear hr hw HP
        rcases hn with rfl | rfl
        all_goals
          go_enter Tryz.func123, Tryz.ntmps123
          go_wp2_with fail
          refine (acheck_yes k l s t _ HR.out).mono ?_
          rintro e w1 ⟨rfl, rfl⟩
          go_wp2_with fail
          refine (awithin_no _ _ _ _ HW.out).mono ?_
          rintro e w1 ⟨rfl, rfl⟩
          go_wp2
          go_ret
          rw [H.out]
          exact ⟨rfl, rfl⟩
    · have H : Hid (y = 1) := by
        show y = 1
        rw [← HY.out]
        unfold At.linkErr
        rw [if_pos hr, if_neg (fun h => hn h.1)]
      have h1 : (n != 1) = true := by simpa using fun h => hn (.inl h)
      have h2 : (n != -1) = true := by simpa using fun h => hn (.inr h)
      clear hr hn HP
      go_enter Tryz.func123, Tryz.ntmps123
      go_wp2_with fail
      refine (acheck_yes k l s t _ HR.out).mono ?_
      rintro e w1 ⟨rfl, rfl⟩
      go_wp2
      go_ret
      rw [H.out]
      exact ⟨rfl, rfl⟩
  · have hr' : At.right k l s t = false := by simpa using hr
    have HR : Hid (At.right k l s t = false) := hr'
    have H : Hid (y = 70) := by show y = 70; rw [← HY.out]; simp [At.linkErr, hr']
    clear hr hr'
    go_enter Tryz.func123, Tryz.ntmps123
    go_wp2_with fail
    refine (acheck_no k l s t _ HR.out).mono ?_
    rintro e w1 ⟨rfl, rfl⟩
    go_wp2
    go_ret
    rw [H.out]
    exact ⟨rfl, rfl⟩
set_option maxHeartbeats 1000000 in
theorem link_any (k l s t n st : Int) (w : World) : Calls Tryz.prog 91 #[VA k l s t, .int .i64 n, .int .i64 st] w fun e w' => e = .returned (.tuple #[At.linkOut k l s t n st, .int .i64 (At.linkErr k l s t n st)]) ∧ Below w.heap.size w w' := by
  by_cases he : At.linkErr k l s t n st = 0
  · have HE : Hid (At.linkErr k l s t n st = 0) := he
    have HO : Hid (At.linkOut k l s t n st = VA k (l + n) s st) := by show At.linkOut k l s t n st = _; unfold At.linkOut; rw [if_pos he]
    have hb : 0 ≤ l + n ∧ l + n ≤ 64 := by
      unfold At.linkErr at he
      split at he
      · split at he
        · split at he
          · split at he
            · cases he
            · split at he
              · cases he
              · omega
          · cases he
        · cases he
      · cases he
    obtain ⟨hb0, hb1⟩ := hb
    clear he
    rw [HE.out, HO.out]
    go_enter Tryz.func91, Tryz.ntmps91
    go_wp2_with fail
    refine (alinkErr_any k l s t n st _).mono ?_
    rintro e w1 ⟨rfl, rfl⟩
    rw [HE.out]
    go_wp2
    refine bodyPost_ret (v := .tuple #[VA k (l + n) s st, .int .i64 0]) (by simp [results, Tryz.results91, go_sem]) rfl ⟨rfl, ?_⟩
    exact ((((Below.refl _ _).alloc (Nat.le_refl _) _).alloc (by simp) _).alloc (by simp; omega) _).alloc (by simp; omega) _
  · have HO : Hid (At.linkOut k l s t n st = VA 0 0 0 0) := by show At.linkOut k l s t n st = _; unfold At.linkOut; rw [if_neg he]
    rw [HO.out]
    obtain ⟨y, hy⟩ : ∃ y, At.linkErr k l s t n st = y := ⟨_, rfl⟩
    rw [hy] at he ⊢
    have HY : Hid (At.linkErr k l s t n st = y) := hy
    clear hy
    go_enter Tryz.func91, Tryz.ntmps91
    go_wp2_with fail
    refine (alinkErr_any k l s t n st _).mono ?_
    rintro e w1 ⟨rfl, rfl⟩
    rw [HY.out]
    go_wp2
    refine bodyPost_ret (v := .tuple #[VA 0 0 0 0, .int .i64 y]) (by simp [results, Tryz.results91, go_sem]) rfl ⟨rfl, ?_⟩
    exact ((((Below.refl _ _).alloc (Nat.le_refl _) _).alloc (by simp) _).alloc (by simp; omega) _).alloc (by simp; omega) _
/-- What Grow tells. -/
def At.growErr (k l s t n st : Int) : Int :=
  if At.right k l s t then
    if t ≤ st ∧ st ≤ 1099511627776 then
      if k = 0 then 7 else if 0 ≤ n ∧ n ≤ 1048576 then 0 else 408
    else 1
  else 70
def At.growOut (k l s t n st : Int) : Value := if At.growErr k l s t n st = 0 then VA k l n st else VA 0 0 0 0
set_option maxHeartbeats 2000000 in
theorem grow_any (k l s t n st : Int) (w : World) : Calls Tryz.prog 122 #[VA k l s t, .int .i64 n, .int .i64 st] w fun e w' => e = .returned (.tuple #[At.growOut k l s t n st, .int .i64 (At.growErr k l s t n st)]) ∧ Below w.heap.size w w' := by
  have HO : Hid (At.growOut k l s t n st = if At.growErr k l s t n st = 0 then VA k l n st else VA 0 0 0 0) := rfl
  obtain ⟨z, hz⟩ : ∃ z, At.growOut k l s t n st = z := ⟨_, rfl⟩
  obtain ⟨y, hy⟩ : ∃ y, At.growErr k l s t n st = y := ⟨_, rfl⟩
  rw [hz, hy] at HO
  have HY : Hid (At.growErr k l s t n st = y) := hy
  rw [hy, hz]
  clear hy hz
  by_cases hr : At.right k l s t = true
  · have HR : Hid (At.right k l s t = true) := hr
    by_cases hw : t ≤ st ∧ st ≤ 1099511627776
    · have HW : Hid (t ≤ st ∧ st ≤ 1099511627776) := hw
      by_cases hk : k = 0
      · have H : Hid (y = 7) := by show y = 7; rw [← HY.out]; unfold At.growErr; rw [if_pos hr, if_pos hw, if_pos hk]
        have HZ : Hid (z = VA 0 0 0 0) := by have := HO.out; rw [H.out, if_neg (by decide)] at this; exact this
        have hk' : (k == 0) = true := by simp [hk]
        clear hr hw hk
        go_enter Tryz.func122, Tryz.ntmps122
        go_wp2_with fail
        refine (acheck_yes k l s t _ HR.out).mono ?_
        rintro e w1 ⟨rfl, rfl⟩
        go_wp2_with fail
        refine (awithin_yes _ _ _ _ HW.out).mono ?_
        rintro e w1 ⟨rfl, rfl⟩
        go_wp2
        refine bodyPost_ret (v := .tuple #[VA 0 0 0 0, .int .i64 7]) (by simp [results, Tryz.results122, go_sem]) rfl ⟨by rw [H.out, HZ.out], ?_⟩
        exact (((Below.refl _ _).alloc (Nat.le_refl _) _).alloc (by simp) _).alloc (by simp; omega) _
      · have hk' : (k == 0) = false := beq_eq_false_iff_ne.2 hk
        by_cases hn : 0 ≤ n ∧ n ≤ 1048576
        · have HN : Hid (0 ≤ n ∧ n ≤ 1048576) := hn
          have H : Hid (y = 0) := by show y = 0; rw [← HY.out]; unfold At.growErr; rw [if_pos hr, if_pos hw, if_neg hk, if_pos hn]
          have HZ : Hid (z = VA k l n st) := by have := HO.out; rw [H.out, if_pos rfl] at this; exact this
          clear hr hw hk hn
          go_enter Tryz.func122, Tryz.ntmps122
          go_wp2_with fail
          refine (acheck_yes k l s t _ HR.out).mono ?_
          rintro e w1 ⟨rfl, rfl⟩
          go_wp2_with fail
          refine (awithin_yes _ _ _ _ HW.out).mono ?_
          rintro e w1 ⟨rfl, rfl⟩
          go_wp2_with fail
          refine (awithin_yes _ _ _ _ HN.out).mono ?_
          rintro e w1 ⟨rfl, rfl⟩
          go_wp2
          refine bodyPost_ret (v := .tuple #[VA k l n st, .int .i64 0]) (by simp [results, Tryz.results122, go_sem]) rfl ⟨by rw [H.out, HZ.out], ?_⟩
          exact (((Below.refl _ _).alloc (Nat.le_refl _) _).alloc (by simp) _).alloc (by simp; omega) _
        · have HN : Hid (¬ (0 ≤ n ∧ n ≤ 1048576)) := hn
          have H : Hid (y = 408) := by show y = 408; rw [← HY.out]; unfold At.growErr; rw [if_pos hr, if_pos hw, if_neg hk, if_neg hn]
          have HZ : Hid (z = VA 0 0 0 0) := by have := HO.out; rw [H.out, if_neg (by decide)] at this; exact this
          clear hr hw hk hn
          go_enter Tryz.func122, Tryz.ntmps122
          go_wp2_with fail
          refine (acheck_yes k l s t _ HR.out).mono ?_
          rintro e w1 ⟨rfl, rfl⟩
          go_wp2_with fail
          refine (awithin_yes _ _ _ _ HW.out).mono ?_
          rintro e w1 ⟨rfl, rfl⟩
          go_wp2_with fail
          refine (awithin_no _ _ _ _ HN.out).mono ?_
          rintro e w1 ⟨rfl, rfl⟩
          go_wp2
          refine bodyPost_ret (v := .tuple #[VA 0 0 0 0, .int .i64 408]) (by simp [results, Tryz.results122, go_sem]) rfl ⟨by rw [H.out, HZ.out], ?_⟩
          exact (((Below.refl _ _).alloc (Nat.le_refl _) _).alloc (by simp) _).alloc (by simp; omega) _
    · have HW : Hid (¬ (t ≤ st ∧ st ≤ 1099511627776)) := hw
      have H : Hid (y = 1) := by show y = 1; rw [← HY.out]; unfold At.growErr; rw [if_pos hr, if_neg hw]
      have HZ : Hid (z = VA 0 0 0 0) := by have := HO.out; rw [H.out, if_neg (by decide)] at this; exact this
      clear hr hw
      go_enter Tryz.func122, Tryz.ntmps122
      go_wp2_with fail
      refine (acheck_yes k l s t _ HR.out).mono ?_
      rintro e w1 ⟨rfl, rfl⟩
      go_wp2_with fail
      refine (awithin_no _ _ _ _ HW.out).mono ?_
      rintro e w1 ⟨rfl, rfl⟩
      go_wp2
      refine bodyPost_ret (v := .tuple #[VA 0 0 0 0, .int .i64 1]) (by simp [results, Tryz.results122, go_sem]) rfl ⟨by rw [H.out, HZ.out], ?_⟩
      exact (((Below.refl _ _).alloc (Nat.le_refl _) _).alloc (by simp) _).alloc (by simp; omega) _
  · have hr' : At.right k l s t = false := by simpa using hr
    have HR : Hid (At.right k l s t = false) := hr'
    have H : Hid (y = 70) := by show y = 70; rw [← HY.out]; simp [At.growErr, hr']
    have HZ : Hid (z = VA 0 0 0 0) := by have := HO.out; rw [H.out, if_neg (by decide)] at this; exact this
    clear hr hr'
    go_enter Tryz.func122, Tryz.ntmps122
    go_wp2_with fail
    refine (acheck_no k l s t _ HR.out).mono ?_
    rintro e w1 ⟨rfl, rfl⟩
    go_wp2
    refine bodyPost_ret (v := .tuple #[VA 0 0 0 0, .int .i64 70]) (by simp [results, Tryz.results122, go_sem]) rfl ⟨by rw [H.out, HZ.out], ?_⟩
    exact (((Below.refl _ _).alloc (Nat.le_refl _) _).alloc (by simp) _).alloc (by simp; omega) _

end Go.Proofs.YtacghcoikekfeaaGreat
