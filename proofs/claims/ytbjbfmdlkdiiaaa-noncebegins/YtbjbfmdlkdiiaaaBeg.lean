/-
  nonce's New and Begin, the document's Begin; the comparison of lists of ints; the three nodes that every statement asks.
-/
import Derived.Test.YtbjbfmdlkdiiaaaRMg
namespace Go.Proofs.Ytbjbfmdlkdiiaaa
open Go.RowKit

theorem ints_same (u v : Value) (l : List Int) (w : World) (hu : IntsAt w u l) (hv : IntsAt w v l) :
    Calls Try.prog 12 #[u, v] w fun e w' => e = .returned (.bool true) ∧ Below w.heap.size w w' := by
  rcases hu with ⟨ao, cap, rfl, rfl⟩ | ⟨b, off, cap, rfl, hB, hp, hlc, hm, hx⟩
  · rcases hv with ⟨ao', cap', rfl, _⟩ | ⟨b', off', cap', rfl, hB', hp', hlc', hm', hx'⟩
    · go_enter Try.func12, Try.ntmps12
      go_wp2
      refine wp_loop_rounds 1 ?_
      rw [rounds_succ]
      go_wp2
      go_ret
      exact ⟨rfl, Below.refl _ _⟩
    · simp at hp'
  · rcases hv with ⟨ao', cap', rfl, rfl⟩ | ⟨b', off', cap', rfl, hB', hp', hlc', hm', hx'⟩
    · simp at hp
    · unfold maxLen at hm hm'
      obtain ⟨n, hn⟩ : ∃ n, l.length = n := ⟨_, rfl⟩
      rw [hn] at hp hlc hlc' hx hx' ⊢
      have HX : Hid ((∀ i, i < n → w.cell? ⟨b, off + i, none⟩ = some (.int .i64 (l.getD i 0))) ∧ ∀ i, i < n → w.cell? ⟨b', off' + i, none⟩ = some (.int .i64 (l.getD i 0))) := ⟨hx, hx'⟩
      clear hn hx hx' hp'
      go_enter Try.func12, Try.ntmps12
      go_wp2
      go_loopw [8] (fun i wr => ∃ k : Nat, k ≤ n ∧ i = .int .i64 k ∧ Below w.heap.size w wr) (fun i _ => n - (intOf i).toNat)
      case atStart => exact ⟨0, Nat.zero_le _, rfl, Below.refl _ _⟩
      case round =>
        obtain ⟨k, hk, rfl, hbl⟩ := hrel
        by_cases hlt : k < n
        · have c0 := HX.out.1 k hlt
          have c1 := HX.out.2 k hlt
          rw [← hbl.cell (p := ⟨b, off + k, none⟩) hB] at c0
          rw [← hbl.cell (p := ⟨b', off' + k, none⟩) hB'] at c1
          generalize l.getD k 0 = s at c0 c1
          have hg : decide ((n : Int) ≤ (k : Int)) = false := by simp; omega
          have hlt' : (k : Int) < (n : Int) := by omega
          go_wp2
          go_quiet (fail)
          go_wp2
          go_roundw
          case rel => exact ⟨k + 1, by omega, by go_num, Go.below_drewN hbl _⟩
          case measure => simp [intOf]; omega
        · obtain rfl : k = n := by omega
          go_wp2
          go_ret
          exact ⟨rfl, hbl⟩

namespace Nc
def newE (n : Nat) : Int := if isC n then 0 else 1
def zer (n : Nat) : List Int := if isC n then List.replicate n 0 else []
def begOk (n : Nat) (node x : Int) : Bool := (isC n && decide (0 ≤ node ∧ node < n)) && decide (1 ≤ x ∧ x ≤ 1099511627776)
def begE (n : Nat) (node x : Int) : Int := if begOk n node x then 0 else 1
def begL (n : Nat) (node x : Int) : List Int := if begOk n node x then ini node x n else []
end Nc
set_option maxRecDepth 100000 in
set_option maxHeartbeats 400000 in
theorem new_any (n : Nat) (w : World) : Calls Try.prog 7 #[.int .i64 n] w fun e w' => ∃ v, e = .returned (.tuple #[v, .int .i64 (Nc.newE n)]) ∧ IntsAt w' v (Nc.zer n) ∧ Below w.heap.size w w' := by
  cases h : Nc.isC n with
  | false =>
    have HC : Hid (Nc.isC n = false) := h
    have HE : Hid (Nc.newE n = 1) := show Nc.newE n = 1 by unfold Nc.newE; rw [h]; rfl
    have HZ : Hid (Nc.zer n = []) := show Nc.zer n = [] by unfold Nc.zer; rw [h]; rfl
    clear h
    go_enter Try.func7, Try.ntmps7
    go_wp2_with fail
    refine (isCount_any n _).mono ?_
    rintro e w1 ⟨rfl, rfl⟩
    rw [HC.out]
    go_wp2
    go_ret2
    rw [HE.out, HZ.out]
    exact ⟨_, rfl, .inl ⟨_, _, rfl, rfl⟩, Below.refl _ _⟩
  | true =>
    have HC : Hid (Nc.isC n = true) := h
    have HE : Hid (Nc.newE n = 0) := show Nc.newE n = 0 by unfold Nc.newE; rw [h]; rfl
    have HZ : Hid (Nc.zer n = List.replicate n 0) := show Nc.zer n = List.replicate n 0 by unfold Nc.zer; rw [h]; rfl
    have hn := Nc.isC_le h
    have hmk := run_make_row' (P := Try.prog) 22 3 (.int .i64 0) 8 Try.underlying22 info3 rfl .i64 .i64 n (by omega) (by omega)
    clear h
    go_enter Try.func7, Try.ntmps7
    go_wp2_with fail
    refine (isCount_any n _).mono ?_
    rintro e w1 ⟨rfl, rfl⟩
    rw [HC.out]
    go_wp2
    go_ret2
    rw [HE.out, HZ.out]
    exact ⟨_, rfl, (ArrN.made w1 n).ints (by simp) hn.2 (by unfold maxLen; omega) (fun i hi => by simp [List.getD, hi]), (Below.refl _ _).alloc (Nat.le_refl _) _⟩
theorem Nc.ini_getD {j x : Int} {n i : Nat} (h : i < n) : (Nc.ini j x n).getD i 0 = if (i : Int) = j then x else 0 := by simp [Nc.ini, List.getD, h]
set_option maxRecDepth 100000 in
set_option maxHeartbeats 1000000 in
theorem begin_any (n : Nat) (node x : Int) (w : World) : Calls Try.prog 8 #[.int .i64 n, .int .i64 node, .int .i64 x] w fun e w' => ∃ v, e = .returned (.tuple #[v, .int .i64 (Nc.begE n node x)]) ∧ IntsAt w' v (Nc.begL n node x) ∧ Below w.heap.size w w' := by
  cases h : Nc.begOk n node x with
  | false =>
    have HE : Hid (Nc.begE n node x = 1) := show Nc.begE n node x = 1 by unfold Nc.begE; rw [h]; rfl
    have HZ : Hid (Nc.begL n node x = []) := show Nc.begL n node x = [] by unfold Nc.begL; rw [h]; rfl
    unfold Nc.begOk at h
    cases h1 : Nc.isC n with
    | false =>
      have HC : Hid (Nc.isC n = false) := h1
      clear h h1
      go_enter Try.func8, Try.ntmps8
      go_wp2_with fail
      refine (isCount_any n _).mono ?_
      rintro e w1 ⟨rfl, rfl⟩
      rw [HC.out]
      go_wp2
      go_ret2
      rw [HE.out, HZ.out]
      exact ⟨_, rfl, .inl ⟨_, _, rfl, rfl⟩, Below.refl _ _⟩
    | true =>
      have HC : Hid (Nc.isC n = true) := h1
      cases h2 : decide (0 ≤ node ∧ node < (n : Int)) with
      | false =>
        have HD : Hid (decide (0 ≤ node ∧ node < (n : Int)) = false) := h2
        clear h h1 h2
        go_enter Try.func8, Try.ntmps8
        go_wp2_with fail
        refine (isCount_any n _).mono ?_
        rintro e w1 ⟨rfl, rfl⟩
        rw [HC.out]
        go_wp2_with fail
        refine (isNode_any _ _ _).mono ?_
        rintro e w1 ⟨rfl, rfl⟩
        rw [HD.out]
        go_wp2
        go_ret2
        rw [HE.out, HZ.out]
        exact ⟨_, rfl, .inl ⟨_, _, rfl, rfl⟩, Below.refl _ _⟩
      | true =>
        have HD : Hid (decide (0 ≤ node ∧ node < (n : Int)) = true) := h2
        rw [h1, h2] at h
        have h3 : ¬ (1 ≤ x ∧ x ≤ 1099511627776) := by simpa using h
        rcases Nc.fit_cases x with ⟨hf, x0, x1⟩ | ⟨hf, _⟩
        · obtain rfl : x = 0 := by omega
          have HF : Hid (Nc.fit 0 = true) := hf
          clear h h1 h2 h3 hf x0 x1
          go_enter Try.func8, Try.ntmps8
          go_wp2_with fail
          refine (isCount_any n _).mono ?_
          rintro e w1 ⟨rfl, rfl⟩
          rw [HC.out]
          go_wp2_with fail
          refine (isNode_any _ _ _).mono ?_
          rintro e w1 ⟨rfl, rfl⟩
          rw [HD.out]
          go_wp2_with fail
          refine (fits_any _ _).mono ?_
          rintro e w1 ⟨rfl, rfl⟩
          rw [HF.out]
          go_wp2
          go_ret2
          rw [HE.out, HZ.out]
          exact ⟨_, rfl, .inl ⟨_, _, rfl, rfl⟩, Below.refl _ _⟩
        · have HF : Hid (Nc.fit x = false) := hf
          clear h h1 h2 h3 hf
          go_enter Try.func8, Try.ntmps8
          go_wp2_with fail
          refine (isCount_any n _).mono ?_
          rintro e w1 ⟨rfl, rfl⟩
          rw [HC.out]
          go_wp2_with fail
          refine (isNode_any _ _ _).mono ?_
          rintro e w1 ⟨rfl, rfl⟩
          rw [HD.out]
          go_wp2_with fail
          refine (fits_any _ _).mono ?_
          rintro e w1 ⟨rfl, rfl⟩
          rw [HF.out]
          go_wp2
          go_ret2
          rw [HE.out, HZ.out]
          exact ⟨_, rfl, .inl ⟨_, _, rfl, rfl⟩, Below.refl _ _⟩
  | true =>
    have HE : Hid (Nc.begE n node x = 0) := show Nc.begE n node x = 0 by unfold Nc.begE; rw [h]; rfl
    have HZ : Hid (Nc.begL n node x = Nc.ini node x n) := show Nc.begL n node x = Nc.ini node x n by unfold Nc.begL; rw [h]; rfl
    unfold Nc.begOk at h
    simp only [Bool.and_eq_true, decide_eq_true_eq] at h
    obtain ⟨⟨h1, h2⟩, h3, h4⟩ := h
    obtain ⟨k, rfl⟩ : ∃ k : Nat, node = k := ⟨node.toNat, by omega⟩
    have HC : Hid (Nc.isC n = true) := h1
    have HD : Hid (decide (0 ≤ (k : Int) ∧ (k : Int) < (n : Int)) = true) := show decide (0 ≤ (k : Int) ∧ (k : Int) < (n : Int)) = true by simpa using h2
    have HF : Hid (Nc.fit x = true) := show Nc.fit x = true by unfold Nc.fit; simp; omega
    have hx0 : (x == 0) = false := by simp; omega
    have hn := Nc.isC_le h1
    have i0 : (0 : Int) ≤ (k : Int) := by omega
    have i1 : (k : Int) < (n : Int) := by omega
    have hk : k < n := by omega
    have hmk := run_make_row' (P := Try.prog) 22 3 (.int .i64 0) 8 Try.underlying22 info3 rfl .i64 .i64 n (by omega) (by omega)
    clear h1 h2 h3 h4
    go_enter Try.func8, Try.ntmps8
    go_wp2_with fail
    refine (isCount_any n _).mono ?_
    rintro e w1 ⟨rfl, rfl⟩
    rw [HC.out]
    go_wp2_with fail
    refine (isNode_any _ _ _).mono ?_
    rintro e w1 ⟨rfl, rfl⟩
    rw [HD.out]
    go_wp2_with fail
    refine (fits_any _ _).mono ?_
    rintro e w1 ⟨rfl, rfl⟩
    rw [HF.out]
    obtain ⟨cg, fg⟩ := (ArrN.made w1 n).cell hk
    have HA2 : Hid (ArrN (w1.alloc (.cells ((madeCells #[.int .i64 0] n).setIfInBounds k (.int .i64 x)) 3)) w1.heap.size 3 n (fun i => .int .i64 ((Nc.ini k x n).getD i 0))) := by
      refine ⟨_, heap_alloc_new _ _, fun i hi => ?_⟩
      show _ = some (Value.int .i64 ((Nc.ini k x n).getD i 0))
      rw [Nc.ini_getD hi]
      by_cases e : i = k
      · subst e
        have hs : i < (madeCells #[Value.int .i64 0] n).size := by simp [madeCells, hi]
        simp [hs]
      · rw [Array.getElem?_setIfInBounds_ne (Ne.symm e), if_neg (by omega)]
        simp [madeCells, hi, Nat.mod_one]
    go_wp2
    go_ret2
    rw [HE.out, HZ.out]
    exact ⟨_, rfl, HA2.out.ints (Nc.ini_length _ _ _) hn.2 (by unfold maxLen; omega) (fun i hi => rfl), (Below.refl _ _).alloc (Nat.le_refl _) _⟩
end Go.Proofs.Ytbjbfmdlkdiiaaa
