/-
  shard's small functions and the document's: what each answers.
-/
import Derived.Test.YtceeafmahoelfaaDoorHPlain
import Derived.Test.YtceeafmahoelfaaDoorPJoin
import Derived.Test.YtceeafmahoelfaaDoorRows
import Derived.Test.YtceeafmahoelfaaDoorRow
import Derived.Test.YtceeafmahoelfaaDoorLaw
import Derived.OpenShut
import Derived.Deep.DeepHandedRow
import Derived.Lib.LaidTab
namespace Go.Proofs.YtceeafmahoelfaaDoor
open Go.ChangeShapes Go.WideShapes Go.ChangeAt Go.RowKit

theorem own : ownKnob Tryd.prog.godebug = none := by kernel_rfl
theorem laidOut : laidOutB Tryd.prog = true := by kernel_rfl
theorem bup {w w1 w2 : World} (h : Below w.heap.size w w1) (k : Below w1.heap.size w1 w2) : Below w.heap.size w w2 := h.trans (k.mono h.size)
theorem below_alloc (w : World) (o : Obj) : Below w.heap.size w (w.alloc o) := (Below.refl _ _).alloc (Nat.le_refl _) _
theorem Tab.lt {w : World} (h : Tab w) : 0 < w.heap.size := World.block_lt_of_cell? _ _ (h 0 (by decide))
theorem Tab.up {w w' : World} (h : Tab w) (hb : Below w.heap.size w w') : Tab w' := fun j hj => (hb.cell (p := ⟨0, j, none⟩) h.lt).trans (h j hj)

theorem within_any (lo x hi : Int) (w : World) : Calls Tryd.prog 24 #[.int .i64 lo, .int .i64 x, .int .i64 hi] w fun e w' => e = .returned (.bool (decide (lo ≤ x ∧ x ≤ hi))) ∧ w' = w := by
  by_cases h0 : lo ≤ x
  · by_cases h1 : x ≤ hi
    · rw [show decide (lo ≤ x ∧ x ≤ hi) = true from by simp [h0, h1]]
      go_enter Tryd.func24, Tryd.ntmps24
      go_wp2
      go_ret
      exact ⟨rfl, rfl⟩
    · rw [show decide (lo ≤ x ∧ x ≤ hi) = false from by simp; omega]
      go_enter Tryd.func24, Tryd.ntmps24
      go_wp2
      go_ret
      exact ⟨rfl, rfl⟩
  · rw [show decide (lo ≤ x ∧ x ≤ hi) = false from by simp; omega]
    go_enter Tryd.func24, Tryd.ntmps24
    go_wp2
    go_ret
    exact ⟨rfl, rfl⟩
theorem count_any (n : Nat) (w : World) (hn : n ≤ 65535) : Calls Tryd.prog 25 #[.int .i64 n] w fun e w' => e = .returned (.int .i64 (Sh.cnt n)) ∧ w' = w := by
  have H : Hid (((n : Int) + 256 - 1) / 256 = (Sh.cnt n : Int)) := show ((n : Int) + 256 - 1) / 256 = (Sh.cnt n : Int) by unfold Sh.cnt; omega
  have h0 : (0 : Int) ≤ (n : Int) := by omega
  have h1 : (n : Int) ≤ 65535 := by omega
  go_enter Tryd.func25, Tryd.ntmps25
  go_wp2
  go_ret
  exact ⟨congrArg (fun z => Ending.returned (Value.int .i64 z)) H.out, rfl⟩
theorem pieceSize_any (n : Nat) (k : Int) (w : World) (hn : n ≤ 65535) : Calls Tryd.prog 26 #[.int .i64 n, .int .i64 k] w fun e w' => e = .returned (.int .i64 (Sh.psz n k)) ∧ w' = w := by
  have hc := Sh.cnt_le hn
  have h0 : (0 : Int) ≤ (n : Int) := by omega
  have h1 : (n : Int) ≤ 65535 := by omega
  by_cases hk : 0 ≤ k ∧ k < (Sh.cnt n : Int)
  · have HK : Hid (decide (0 ≤ k ∧ k ≤ (Sh.cnt n : Int) - 1) = true) := show decide (0 ≤ k ∧ k ≤ (Sh.cnt n : Int) - 1) = true by simp; omega
    have k0 : 0 ≤ k := hk.1
    have k1 : k < 256 := by omega
    have HE : Hid (Sh.psz n k = min 256 ((n : Int) - k * 256)) := show Sh.psz n k = min 256 ((n : Int) - k * 256) by
      unfold Sh.psz
      rw [if_pos hk]
    clear hk
    by_cases hm : (n : Int) - k * 256 < 256
    · have HF : Hid (min 256 ((n : Int) - k * 256) = (n : Int) - k * 256) := show min 256 ((n : Int) - k * 256) = (n : Int) - k * 256 by omega
      go_enter Tryd.func26, Tryd.ntmps26
      go_wp2_with fail
      refine (count_any n _ hn).mono ?_
      rintro e w' ⟨rfl, rfl⟩
      go_wp2_with fail
      refine (within_any _ _ _ _).mono ?_
      rintro e w' ⟨rfl, rfl⟩
      rw [HK.out]
      go_wp2
      go_ret
      rw [HE.out, HF.out]
      exact ⟨rfl, rfl⟩
    · have HF : Hid (min 256 ((n : Int) - k * 256) = 256) := show min 256 ((n : Int) - k * 256) = 256 by omega
      go_enter Tryd.func26, Tryd.ntmps26
      go_wp2_with fail
      refine (count_any n _ hn).mono ?_
      rintro e w' ⟨rfl, rfl⟩
      go_wp2_with fail
      refine (within_any _ _ _ _).mono ?_
      rintro e w' ⟨rfl, rfl⟩
      rw [HK.out]
      go_wp2
      go_ret
      rw [HE.out, HF.out]
      exact ⟨rfl, rfl⟩
  · have HK : Hid (decide (0 ≤ k ∧ k ≤ (Sh.cnt n : Int) - 1) = false) := show decide (0 ≤ k ∧ k ≤ (Sh.cnt n : Int) - 1) = false by simp; omega
    have HE : Hid (Sh.psz n k = 0) := Sh.psz_out hk
    clear hk
    go_enter Tryd.func26, Tryd.ntmps26
    go_wp2_with fail
    refine (count_any n _ hn).mono ?_
    rintro e w' ⟨rfl, rfl⟩
    go_wp2_with fail
    refine (within_any _ _ _ _).mono ?_
    rintro e w' ⟨rfl, rfl⟩
    rw [HK.out]
    go_wp2
    go_ret
    rw [HE.out]
    exact ⟨rfl, rfl⟩
theorem length_any (n : Nat) (k : Int) (w : World) (hn : n ≤ 65535) : Calls Tryd.prog 30 #[.int .i64 n, .int .i64 k] w fun e w' => e = .returned (.int .i64 (Sh.psz n k)) ∧ w' = w := by
  have h0 : (0 : Int) ≤ (n : Int) := by omega
  have h1 : (n : Int) ≤ 65535 := by omega
  by_cases k0 : k < 0
  · have HE : Hid (Sh.psz n k = 0) := Sh.psz_out (by omega)
    go_enter Tryd.func30, Tryd.ntmps30
    go_wp2
    go_ret
    rw [HE.out]
    exact ⟨rfl, rfl⟩
  · by_cases k1 : (n : Int) / 256 < k
    · have HE : Hid (Sh.psz n k = 0) := Sh.psz_out (by unfold Sh.cnt; omega)
      go_enter Tryd.func30, Tryd.ntmps30
      go_wp2
      go_ret
      rw [HE.out]
      exact ⟨rfl, rfl⟩
    · have k2 : 0 ≤ k := by omega
      have k3 : k ≤ 256 := by omega
      by_cases k4 : 256 < (n : Int) - k * 256
      · have HE : Hid (Sh.psz n k = 256) := show Sh.psz n k = 256 by unfold Sh.psz; rw [if_pos (by unfold Sh.cnt; omega)]; omega
        go_enter Tryd.func30, Tryd.ntmps30
        go_wp2
        go_ret
        rw [HE.out]
        exact ⟨rfl, rfl⟩
      · have HE : Hid (Sh.psz n k = (n : Int) - k * 256) := show Sh.psz n k = (n : Int) - k * 256 by
          unfold Sh.psz
          by_cases hq : 0 ≤ k ∧ k < (Sh.cnt n : Int)
          · rw [if_pos hq]; omega
          · rw [if_neg hq]; unfold Sh.cnt at hq; omega
        go_enter Tryd.func30, Tryd.ntmps30
        go_wp2
        go_ret
        rw [HE.out]
        exact ⟨rfl, rfl⟩
/-- A manifest as a value. -/
def Sh.Mf.val (m : Sh.Mf) : Value := .agg #[.int .i64 m.op, .int .i64 m.size, .int .i64 m.sum]
def Sh.chkE (m : Sh.Mf) : Int := if Sh.okM m then 0 else 4
theorem Sh.okM_cases (m : Sh.Mf) : (Sh.okM m = true ∧ (0 ≤ m.op ∧ m.op ≤ 1099511627776) ∧ (1 ≤ m.size ∧ m.size ≤ 65535) ∧ 0 ≤ m.sum ∧ m.sum ≤ 4294967295) ∨ (Sh.okM m = false ∧ (¬ (0 ≤ m.op ∧ m.op ≤ 1099511627776) ∨ ((0 ≤ m.op ∧ m.op ≤ 1099511627776) ∧ ¬ (1 ≤ m.size ∧ m.size ≤ 65535)) ∨ ((0 ≤ m.op ∧ m.op ≤ 1099511627776) ∧ (1 ≤ m.size ∧ m.size ≤ 65535) ∧ ¬ (0 ≤ m.sum ∧ m.sum ≤ 4294967295)))) := by
  unfold Sh.okM
  by_cases h : (0 ≤ m.op ∧ m.op ≤ 1099511627776) ∧ (1 ≤ m.size ∧ m.size ≤ 65535) ∧ 0 ≤ m.sum ∧ m.sum ≤ 4294967295
  · exact .inl ⟨by simpa using h, h⟩
  · exact .inr ⟨by rw [decide_eq_false_iff_not]; exact h, by omega⟩
set_option maxRecDepth 100000 in
set_option maxHeartbeats 1000000 in
theorem check_any (m : Sh.Mf) (w : World) : Calls Tryd.prog 12 #[m.val] w fun e w' => e = .returned (.int .i64 (Sh.chkE m)) ∧ Below w.heap.size w w' := by
  obtain ⟨o, n, s⟩ := m
  unfold Sh.Mf.val
  rcases Sh.okM_cases ⟨o, n, s⟩ with ⟨h, h1, h2, h3⟩ | ⟨h, h1 | ⟨h1, h2⟩ | ⟨h1, h2, h3⟩⟩
  · have HE : Hid (Sh.chkE ⟨o, n, s⟩ = 0) := show Sh.chkE ⟨o, n, s⟩ = 0 by unfold Sh.chkE; rw [h]; rfl
    have D1 : Hid (decide (0 ≤ o ∧ o ≤ 1099511627776) = true) := decide_eq_true h1
    have D2 : Hid (decide (1 ≤ n ∧ n ≤ 65535) = true) := decide_eq_true h2
    have D3 : Hid (decide (0 ≤ s ∧ s ≤ 4294967295) = true) := decide_eq_true h3
    clear h h1 h2 h3
    go_enter Tryd.func12, Tryd.ntmps12
    go_wp2_with fail
    refine (within_any _ _ _ _).mono ?_
    rintro e w' ⟨rfl, rfl⟩
    rw [D1.out]
    go_wp2_with fail
    refine (within_any _ _ _ _).mono ?_
    rintro e w' ⟨rfl, rfl⟩
    rw [D2.out]
    go_wp2_with fail
    refine (within_any _ _ _ _).mono ?_
    rintro e w' ⟨rfl, rfl⟩
    rw [D3.out]
    go_wp2
    go_ret
    rw [HE.out]
    exact ⟨rfl, below_alloc _ _⟩
  · have HE : Hid (Sh.chkE ⟨o, n, s⟩ = 4) := show Sh.chkE ⟨o, n, s⟩ = 4 by unfold Sh.chkE; rw [h]; rfl
    have D1 : Hid (decide (0 ≤ o ∧ o ≤ 1099511627776) = false) := decide_eq_false h1
    clear h h1
    go_enter Tryd.func12, Tryd.ntmps12
    go_wp2_with fail
    refine (within_any _ _ _ _).mono ?_
    rintro e w' ⟨rfl, rfl⟩
    rw [D1.out]
    go_wp2
    go_ret
    rw [HE.out]
    exact ⟨rfl, below_alloc _ _⟩
  · have HE : Hid (Sh.chkE ⟨o, n, s⟩ = 4) := show Sh.chkE ⟨o, n, s⟩ = 4 by unfold Sh.chkE; rw [h]; rfl
    have D1 : Hid (decide (0 ≤ o ∧ o ≤ 1099511627776) = true) := decide_eq_true h1
    have D2 : Hid (decide (1 ≤ n ∧ n ≤ 65535) = false) := decide_eq_false h2
    clear h h1 h2
    go_enter Tryd.func12, Tryd.ntmps12
    go_wp2_with fail
    refine (within_any _ _ _ _).mono ?_
    rintro e w' ⟨rfl, rfl⟩
    rw [D1.out]
    go_wp2_with fail
    refine (within_any _ _ _ _).mono ?_
    rintro e w' ⟨rfl, rfl⟩
    rw [D2.out]
    go_wp2
    go_ret
    rw [HE.out]
    exact ⟨rfl, below_alloc _ _⟩
  · have HE : Hid (Sh.chkE ⟨o, n, s⟩ = 4) := show Sh.chkE ⟨o, n, s⟩ = 4 by unfold Sh.chkE; rw [h]; rfl
    have D1 : Hid (decide (0 ≤ o ∧ o ≤ 1099511627776) = true) := decide_eq_true h1
    have D2 : Hid (decide (1 ≤ n ∧ n ≤ 65535) = true) := decide_eq_true h2
    have D3 : Hid (decide (0 ≤ s ∧ s ≤ 4294967295) = false) := decide_eq_false h3
    clear h h1 h2 h3
    go_enter Tryd.func12, Tryd.ntmps12
    go_wp2_with fail
    refine (within_any _ _ _ _).mono ?_
    rintro e w' ⟨rfl, rfl⟩
    rw [D1.out]
    go_wp2_with fail
    refine (within_any _ _ _ _).mono ?_
    rintro e w' ⟨rfl, rfl⟩
    rw [D2.out]
    go_wp2_with fail
    refine (within_any _ _ _ _).mono ?_
    rintro e w' ⟨rfl, rfl⟩
    rw [D3.out]
    go_wp2
    go_ret
    rw [HE.out]
    exact ⟨rfl, below_alloc _ _⟩
set_option maxRecDepth 100000 in
set_option maxHeartbeats 1000000 in
theorem right_any (m : Sh.Mf) (w : World) : Calls Tryd.prog 13 #[m.val] w fun e w' => e = .returned (.bool (Sh.okM m)) ∧ Below w.heap.size w w' := by
  obtain ⟨o, n, s⟩ := m
  unfold Sh.Mf.val
  have HE : Hid (Sh.okM ⟨o, n, s⟩ = (decide (0 ≤ o) && decide (o ≤ 1099511627776) && decide (1 ≤ n) && decide (n ≤ 65535) && decide (0 ≤ s) && decide (s < 4294967296))) := show Sh.okM ⟨o, n, s⟩ = _ by
    rw [Bool.eq_iff_iff]
    unfold Sh.okM
    simp only [Bool.and_eq_true, decide_eq_true_eq]
    omega
  by_cases h1 : 0 ≤ o
  · by_cases h2 : o ≤ 1099511627776
    · by_cases h3 : 1 ≤ n
      · by_cases h4 : n ≤ 65535
        · by_cases h5 : 0 ≤ s
          · by_cases h6 : s < 4294967296
            all_goals
              have D : Hid (Sh.okM ⟨o, n, s⟩ = decide (s < 4294967296)) := show Sh.okM ⟨o, n, s⟩ = _ by rw [HE.out]; simp [h1, h2, h3, h4, h5]
              go_enter Tryd.func13, Tryd.ntmps13
              go_wp2
              go_ret
              rw [D.out]
              exact ⟨by simp [h6], below_alloc _ _⟩
          · have D : Hid (Sh.okM ⟨o, n, s⟩ = false) := show Sh.okM ⟨o, n, s⟩ = _ by rw [HE.out]; simp [h5]
            go_enter Tryd.func13, Tryd.ntmps13
            go_wp2
            go_ret
            rw [D.out]
            exact ⟨rfl, below_alloc _ _⟩
        · have D : Hid (Sh.okM ⟨o, n, s⟩ = false) := show Sh.okM ⟨o, n, s⟩ = _ by rw [HE.out]; simp [h4]
          go_enter Tryd.func13, Tryd.ntmps13
          go_wp2
          go_ret
          rw [D.out]
          exact ⟨rfl, below_alloc _ _⟩
      · have D : Hid (Sh.okM ⟨o, n, s⟩ = false) := show Sh.okM ⟨o, n, s⟩ = _ by rw [HE.out]; simp [h3]
        go_enter Tryd.func13, Tryd.ntmps13
        go_wp2
        go_ret
        rw [D.out]
        exact ⟨rfl, below_alloc _ _⟩
    · have D : Hid (Sh.okM ⟨o, n, s⟩ = false) := show Sh.okM ⟨o, n, s⟩ = _ by rw [HE.out]; simp [h2]
      go_enter Tryd.func13, Tryd.ntmps13
      go_wp2
      go_ret
      rw [D.out]
      exact ⟨rfl, below_alloc _ _⟩
  · have D : Hid (Sh.okM ⟨o, n, s⟩ = false) := show Sh.okM ⟨o, n, s⟩ = _ by rw [HE.out]; simp [h1]
    go_enter Tryd.func13, Tryd.ntmps13
    go_wp2
    go_ret
    rw [D.out]
    exact ⟨rfl, below_alloc _ _⟩
end Go.Proofs.YtceeafmahoelfaaDoor
