/-
  The document's Right of attributes and of runs, and the statements' own Runs: what they answer.
-/
import Derived.Test.YtacghcoikekfeaaGreatBase
import Derived.WalkKit
import Derived.WalkSpells
import Derived.WalkLawsBesides
import Derived.ProofKit
import Derived.BigQuiet
import Derived.Deep.QuietTactic
import Derived.Deep.RegionHeld3
import Derived.Deep.SlicePairs
namespace Go.Proofs.YtacghcoikekfeaaGreat
open Go.ChangeShapes Go.WideShapes Go.ChangeAt Go.RowKit Go.Deep
set_option maxRecDepth 100000

set_option maxHeartbeats 2000000 in
theorem aright_any (k l s t : Int) (w : World) : Calls Tryz.prog 103 #[VA k l s t] w fun e w' => e = .returned (.bool (At.right k l s t)) ∧ w' = w.alloc (BA k l s t) := by
  by_cases k0 : k = 0
  · have HE : Hid (At.right k l s t = (decide (l = 0) && decide (s = 0) && decide (t = 0))) := by
      show At.right k l s t = _
      unfold At.right At.rightP
      rw [Bool.eq_iff_iff]
      simp [k0, and_assoc]
    subst k0
    obtain ⟨y, hy⟩ : ∃ y, At.right 0 l s t = y := ⟨_, rfl⟩
    have HY : Hid (At.right 0 l s t = y) := hy
    rw [hy]
    clear hy
    by_cases l0 : l = 0
    · by_cases s0 : s = 0
      · by_cases t0 : t = 0
        all_goals
          have H : Hid (y = decide (t = 0)) := by show y = _; rw [← HY.out, HE.out]; simp [l0, s0]
          subst l0
          subst s0
          go_enter Tryz.func103, Tryz.ntmps103
          go_wp2
          go_ret
          rw [H.out]
          simp [t0]
      · have H : Hid (y = false) := by show y = _; rw [← HY.out, HE.out]; simp [s0]
        subst l0
        go_enter Tryz.func103, Tryz.ntmps103
        go_wp2
        go_ret
        rw [H.out]
        exact ⟨rfl, rfl⟩
    · have H : Hid (y = false) := by show y = _; rw [← HY.out, HE.out]; simp [l0]
      go_enter Tryz.func103, Tryz.ntmps103
      go_wp2
      go_ret
      rw [H.out]
      exact ⟨rfl, rfl⟩
  · obtain ⟨y, hy⟩ : ∃ y, At.right k l s t = y := ⟨_, rfl⟩
    have HY : Hid (At.right k l s t = y) := hy
    rw [hy]
    clear hy
    by_cases s0 : s < 0
    · have H : Hid (y = false) := by rw [← HY.out]; exact At.wrong_iff.2 (by unfold At.rightP; omega)
      go_enter Tryz.func103, Tryz.ntmps103
      go_wp2
      go_ret
      rw [H.out]
      exact ⟨rfl, rfl⟩
    by_cases s1 : 1048576 < s
    · have H : Hid (y = false) := by rw [← HY.out]; exact At.wrong_iff.2 (by unfold At.rightP; omega)
      go_enter Tryz.func103, Tryz.ntmps103
      go_wp2
      go_ret
      rw [H.out]
      exact ⟨rfl, rfl⟩
    by_cases t0 : t < 0
    · have H : Hid (y = false) := by rw [← HY.out]; exact At.wrong_iff.2 (by unfold At.rightP; omega)
      go_enter Tryz.func103, Tryz.ntmps103
      go_wp2
      go_ret
      rw [H.out]
      exact ⟨rfl, rfl⟩
    by_cases t1 : 1099511627776 < t
    · have H : Hid (y = false) := by rw [← HY.out]; exact At.wrong_iff.2 (by unfold At.rightP; omega)
      go_enter Tryz.func103, Tryz.ntmps103
      go_wp2
      go_ret
      rw [H.out]
      exact ⟨rfl, rfl⟩
    by_cases k1 : k = 1
    · by_cases l0 : 0 ≤ l
      · by_cases l1 : l ≤ 64
        · have H : Hid (y = true) := by rw [← HY.out]; exact At.right_iff.2 (by unfold At.rightP; omega)
          subst k1
          go_enter Tryz.func103, Tryz.ntmps103
          go_wp2
          go_ret
          rw [H.out]
          exact ⟨rfl, rfl⟩
        · have H : Hid (y = false) := by rw [← HY.out]; exact At.wrong_iff.2 (by unfold At.rightP; omega)
          subst k1
          go_enter Tryz.func103, Tryz.ntmps103
          go_wp2
          go_ret
          rw [H.out]
          exact ⟨rfl, rfl⟩
      · have H : Hid (y = false) := by rw [← HY.out]; exact At.wrong_iff.2 (by unfold At.rightP; omega)
        subst k1
        go_enter Tryz.func103, Tryz.ntmps103
        go_wp2
        go_ret
        rw [H.out]
        exact ⟨rfl, rfl⟩
    by_cases k2 : k = 2
    · by_cases l1 : l = 1
      · have H : Hid (y = true) := by rw [← HY.out]; exact At.right_iff.2 (by unfold At.rightP; omega)
        subst k2
        subst l1
        go_enter Tryz.func103, Tryz.ntmps103
        go_wp2
        go_ret
        rw [H.out]
        exact ⟨rfl, rfl⟩
      · have H : Hid (y = false) := by rw [← HY.out]; exact At.wrong_iff.2 (by unfold At.rightP; omega)
        subst k2
        have l1' : (l == 1) = false := by simpa using l1
        go_enter Tryz.func103, Tryz.ntmps103
        go_wp2
        go_ret
        rw [H.out]
        exact ⟨rfl, rfl⟩
    have H : Hid (y = false) := by rw [← HY.out]; exact At.wrong_iff.2 (by unfold At.rightP; omega)
    go_enter Tryz.func103, Tryz.ntmps103
    go_wp2
    go_ret
    rw [H.out]
    exact ⟨rfl, rfl⟩

set_option maxHeartbeats 2000000 in
theorem bright_any (v : Value) (l : List Bl.R) (w : World) (hv : FieldsAt w.heap.size w v l) (hok : okFields l) :
    Calls Tryz.prog 104 #[v] w fun e w' => e = .returned (.bool (decide (Bl.right (-1) l))) ∧ Below w.heap.size w w' := by
  obtain ⟨ao, cap, rfl, hm, hx⟩ := hv.open
  clear hv
  unfold maxLen at hm
  obtain ⟨n, hn⟩ : ∃ n, l.length = n := ⟨_, rfl⟩
  rw [hn] at hm hx ⊢
  have HN : Hid (l.length = n) := hn
  have HX : Hid (∀ j, j < n → ∃ b off, ao = some ⟨b, off, none⟩ ∧ b < w.heap.size ∧ w.cell? ⟨b, off + j * 2, none⟩ = some (.int .i64 (l.getD j (0, .empty)).1) ∧ w.cell? ⟨b, off + j * 2 + 1, none⟩ = some (.string (l.getD j (0, .empty)).2)) := hx
  have HO : Hid (okFields l) := hok
  clear hn hx hok
  obtain ⟨rb, hrb⟩ : ∃ rb, decide (Bl.right (-1) l) = rb := ⟨_, rfl⟩
  have HRB : Hid (decide (Bl.right (-1) l) = rb) := hrb
  rw [hrb]
  clear hrb
  go_enter Tryz.func104, Tryz.ntmps104
  go_wp2
  go_loopw [7] (fun i wr => ∃ k : Nat, k ≤ n ∧ i = .int .i64 k ∧ Bl.right (-1) (l.take k) ∧ Below w.heap.size w wr) (fun i _ => n - (intOf i).toNat)
  case atStart => exact ⟨0, Nat.zero_le _, rfl, trivial, Below.refl _ _⟩
  case round =>
    obtain ⟨k, hk, rfl, hr, hbl⟩ := hrel
    have hsz := hbl.size
    have HR : Hid (Bl.right (-1) (l.take k)) := hr
    clear hr
    by_cases hlt : k < n
    · obtain ⟨b, off, rfl, hB, c0, c1⟩ := HX.out k hlt
      have hk' : k < l.length := by rw [HN.out]; exact hlt
      have hof := HO.out.at hk'
      rw [← hbl.cell (p := ⟨b, off + k * 2, none⟩) hB] at c0
      rw [← hbl.cell (p := ⟨b, off + k * 2 + 1, none⟩) hB] at c1
      obtain ⟨x, hxk⟩ : ∃ x, l.getD k (0, .empty) = x := ⟨_, rfl⟩
      rw [hxk] at c0 c1 hof
      have HXK : Hid (l.getD k (0, .empty) = x) := hxk
      clear hxk
      obtain ⟨xa, xs⟩ := x
      simp only at c0 c1 hof
      obtain ⟨⟨ha0, ha1⟩, hs1⟩ := hof
      unfold maxLen at hs1
      have hlt' : (k : Int) < (n : Int) := by omega
      have hbw : b < wr.heap.size := by omega
      have HL0 : Hid (-1 ≤ Bl.lastEnd (-1) (l.take k)) := (Bl.lastEnd_bd HR.out).1
      by_cases h1 : xs.size = 0
      · have H : Hid (rb = false) := by rw [← HRB.out]; exact Bl.not_right hk' HXK.out (fun h => h.1 h1)
        have hem : xs.toList.isEmpty = true := by
          rw [ByteArray.toList_eq, List.isEmpty_iff]
          exact List.eq_nil_of_length_eq_zero (by simpa using h1)
        clear h1
        go_wp2
        go_ret
        rw [H.out]
        exact ⟨rfl, hbl.alloc hsz _⟩
      have hem : xs.toList.isEmpty = false := by
        rw [ByteArray.toList_eq, List.isEmpty_eq_false_iff]
        intro h
        have : xs.data.toList.length = 0 := by rw [h]; rfl
        exact h1 (by simpa using this)
      have H1 : Hid (¬ xs.size = 0) := h1
      clear h1
      by_cases h2 : xa < 0
      · have H : Hid (rb = false) := by rw [← HRB.out]; exact Bl.not_right hk' HXK.out (fun h => by have h5 := h.2.1; have := HL0.out; simp only at h5; omega)
        go_wp2
        go_ret
        rw [H.out]
        exact ⟨rfl, hbl.alloc hsz _⟩
      by_cases h3 : 1048576 < xa
      · have H : Hid (rb = false) := by rw [← HRB.out]; exact Bl.not_right hk' HXK.out (fun h => by have h5 := h.2.2; simp only at h5; omega)
        go_wp2
        go_ret
        rw [H.out]
        exact ⟨rfl, hbl.alloc hsz _⟩
      by_cases h4 : 1048576 - xa < (xs.size : Int)
      · have H : Hid (rb = false) := by rw [← HRB.out]; exact Bl.not_right hk' HXK.out (fun h => by have h5 := h.2.2; simp only at h5; omega)
        go_wp2
        go_ret
        rw [H.out]
        exact ⟨rfl, hbl.alloc hsz _⟩
      by_cases hk0 : k = 0
      · have hg : decide (0 < k) = false := by simp [hk0]
        have HLE : Hid (Bl.lastEnd (-1) (l.take k) < xa) := by
          show Bl.lastEnd (-1) (l.take k) < xa
          rw [hk0]
          show (-1 : Int) < xa
          omega
        clear hk0
        go_wp2
        go_quiet (fail)
        go_wp2
        go_roundw
        case rel => exact ⟨k + 1, by omega, by go_num, (Bl.right_take_succ hk' HXK.out).2 ⟨HR.out, H1.out, HLE.out, by simp only; omega⟩, Go.below_drewN (hbl.alloc hsz _) _⟩
        case measure => simp [intOf]; omega
      · obtain ⟨j, rfl⟩ : ∃ j, k = j + 1 := ⟨k - 1, by omega⟩
        obtain ⟨b2, off2, hbe, hB2, d0, d1⟩ := HX.out j (by omega)
        cases hbe
        rw [← hbl.cell (p := ⟨b, off + j * 2, none⟩) hB] at d0
        rw [← hbl.cell (p := ⟨b, off + j * 2 + 1, none⟩) hB] at d1
        obtain ⟨y, hyk⟩ : ∃ y, l.getD j (0, .empty) = y := ⟨_, rfl⟩
        have hj' : j < l.length := by rw [HN.out]; omega
        have hyr := ((Bl.right_take_succ hj' hyk).1 HR.out).2
        have HLE : Hid (Bl.lastEnd (-1) (l.take (j + 1)) = y.1 + y.2.size) := Bl.lastEnd_succ hj' hyk
        have hy0 : -1 ≤ Bl.lastEnd (-1) (l.take j) := (Bl.lastEnd_bd (Bl.right_take HR.out j |> fun h => by rwa [List.take_take, Nat.min_eq_left (by omega)] at h)).1
        rw [hyk] at d0 d1
        clear hyk
        obtain ⟨ya, ys⟩ := y
        simp only at d0 d1 hyr HLE
        obtain ⟨_, hya, hye⟩ := hyr
        have hya0 : 0 ≤ ya := by omega
        clear hya hy0 hk0
        have hg : decide (0 < j + 1) = true := by simp
        have hjn : (j : Int) < (n : Int) := by omega
        have hj0 : (0 : Int) ≤ (j : Int) := by omega
        by_cases hc : xa ≤ ya + (ys.size : Int)
        · have H : Hid (rb = false) := by rw [← HRB.out]; exact Bl.not_right hk' HXK.out (fun h => by have h5 := h.2.1; rw [HLE.out] at h5; simp only at h5; omega)
          go_wp2
          go_quiet (fail)
          go_wp2
          go_ret
          rw [H.out]
          exact ⟨rfl, Go.below_drewN (hbl.alloc hsz _) _⟩
        · go_wp2
          go_quiet (fail)
          go_wp2
          go_roundw
          case rel => exact ⟨j + 1 + 1, by omega, by go_num, (Bl.right_take_succ hk' HXK.out).2 ⟨HR.out, H1.out, by rw [HLE.out]; simp only; omega, by simp only; omega⟩, Go.below_drewN (hbl.alloc hsz _) _⟩
          case measure => simp [intOf]; omega
    · obtain rfl : k = n := by omega
      have H : Hid (rb = true) := by
        rw [← HRB.out]
        have := HR.out
        rw [← HN.out, List.take_length] at this
        exact decide_eq_true this
      go_wp2
      go_ret
      rw [H.out]
      exact ⟨rfl, hbl⟩
set_option maxHeartbeats 1000000 in
theorem runs_same (u v : Value) (l : List Bl.R) (w : World) (hu : FieldsAt w.heap.size w u l) (hv : FieldsAt w.heap.size w v l) :
    Calls Tryz.prog 52 #[u, v] w fun e w' => e = .returned (.bool true) ∧ Below w.heap.size w w' := by
  obtain ⟨ao, cap, rfl, hm, hx⟩ := hu.open
  obtain ⟨bo, cap', rfl, _, hy⟩ := hv.open
  clear hu hv
  unfold maxLen at hm
  obtain ⟨n, hn⟩ : ∃ n, l.length = n := ⟨_, rfl⟩
  rw [hn] at hm hx hy ⊢
  have HX : Hid (∀ j, j < n → ∃ b off, ao = some ⟨b, off, none⟩ ∧ b < w.heap.size ∧ w.cell? ⟨b, off + j * 2, none⟩ = some (.int .i64 (l.getD j (0, .empty)).1) ∧ w.cell? ⟨b, off + j * 2 + 1, none⟩ = some (.string (l.getD j (0, .empty)).2)) := hx
  have HY : Hid (∀ j, j < n → ∃ b off, bo = some ⟨b, off, none⟩ ∧ b < w.heap.size ∧ w.cell? ⟨b, off + j * 2, none⟩ = some (.int .i64 (l.getD j (0, .empty)).1) ∧ w.cell? ⟨b, off + j * 2 + 1, none⟩ = some (.string (l.getD j (0, .empty)).2)) := hy
  clear hn hx hy
  go_enter Tryz.func52, Tryz.ntmps52
  go_wp2
  go_loopw [8] (fun i wr => ∃ k : Nat, k ≤ n ∧ i = .int .i64 k ∧ Below w.heap.size w wr) (fun i _ => n - (intOf i).toNat)
  case atStart => exact ⟨0, Nat.zero_le _, rfl, Below.refl _ _⟩
  case round =>
    obtain ⟨k, hk, rfl, hbl⟩ := hrel
    by_cases hlt : k < n
    · obtain ⟨b, off, rfl, hB, c0, c1⟩ := HX.out k hlt
      obtain ⟨b', off', rfl, hB', d0, d1⟩ := HY.out k hlt
      rw [← hbl.cell (p := ⟨b, off + k * 2, none⟩) hB] at c0
      rw [← hbl.cell (p := ⟨b, off + k * 2 + 1, none⟩) hB] at c1
      rw [← hbl.cell (p := ⟨b', off' + k * 2, none⟩) hB'] at d0
      rw [← hbl.cell (p := ⟨b', off' + k * 2 + 1, none⟩) hB'] at d1
      generalize l.getD k (0, .empty) = f at c0 c1 d0 d1
      obtain ⟨t, s⟩ := f
      have hlt' : (k : Int) < (n : Int) := by omega
      have hge : decide ((n : Int) ≤ (k : Int)) = false := by simp; omega
      have hge2 : decide (n ≤ k) = false := by simp; omega
      go_wp2
      go_quiet (fail)
      go_wp2
      go_roundw
      case rel => exact ⟨k + 1, by omega, by go_num, Go.below_drewN hbl _⟩
      case measure => simp [intOf]; omega
    · obtain rfl : k = n := by omega
      go_wp2
      go_ret
      exact ⟨by simp, hbl⟩

end Go.Proofs.YtacghcoikekfeaaGreat
