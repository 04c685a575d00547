/-
  The document's Begin; the three nodes that every statement asks.
-/
import Derived.Test.YtbjbfmdlkdiiaaaBeg
namespace Go.Proofs.Ytbjbfmdlkdiiaaa
open Go.RowKit

theorem Nc.begOk_no {n : Nat} {node x : Int} (h : Nc.begOk n node x = false) : Nc.isC n = false ∨ (Nc.isC n = true ∧ node < 0) ∨ (Nc.isC n = true ∧ ¬ node < 0 ∧ (n : Int) ≤ node) ∨ (Nc.isC n = true ∧ ¬ node < 0 ∧ ¬ (n : Int) ≤ node ∧ x < 1) ∨ (Nc.isC n = true ∧ ¬ node < 0 ∧ ¬ (n : Int) ≤ node ∧ ¬ x < 1 ∧ 1099511627776 < x) := by
  unfold Nc.begOk at h
  cases h1 : Nc.isC n with
  | false => exact .inl rfl
  | true =>
    rw [h1, Bool.true_and, ← Bool.not_eq_true, Bool.and_eq_true, decide_eq_true_eq, decide_eq_true_eq] at h
    simp only [true_and, Bool.true_eq_false, false_or]
    omega
theorem Nc.ini_yes {j x : Int} {k : Nat} (h : (k : Int) = j) : Nc.ini j x (k + 1) = Nc.ini j x k ++ [x] := by rw [Nc.ini_succ, if_pos h]
theorem Nc.ini_no {j x : Int} {k : Nat} (h : ¬ (k : Int) = j) : Nc.ini j x (k + 1) = Nc.ini j x k ++ [0] := by rw [Nc.ini_succ, if_neg h]
set_option maxRecDepth 100000 in
set_option maxHeartbeats 1000000 in
theorem rbegin_any (n : Nat) (node x : Int) (w : World) : Calls Try.prog 9 #[.int .i64 n, .int .i64 node, .int .i64 x] w fun e w' => ∃ v, e = .returned (.tuple #[v, .int .i64 (Nc.begE n node x)]) ∧ IntsAt w' v (Nc.begL n node x) ∧ Below w.heap.size w w' := by
  cases h : Nc.begOk n node x with
  | false =>
    have HE : Hid (Nc.begE n node x = 1) := show Nc.begE n node x = 1 by unfold Nc.begE; rw [h]; rfl
    have HZ : Hid (Nc.begL n node x = []) := show Nc.begL n node x = [] by unfold Nc.begL; rw [h]; rfl
    rcases Nc.begOk_no h with h1 | ⟨h1, h2⟩ | ⟨h1, h2, h3⟩ | ⟨h1, h2, h3, h4⟩ | ⟨h1, h2, h3, h4, h5⟩
    all_goals
      have HC : Hid (Nc.isC n = _) := h1
      clear h h1
      go_enter Try.func9, Try.ntmps9
      go_wp2_with fail
      refine (panel_any n _).mono ?_
      rintro e w1 ⟨rfl, rfl⟩
      rw [HC.out]
      go_wp2
      go_ret2
      rw [HE.out, HZ.out]
      exact ⟨_, rfl, .inl ⟨_, _, rfl, rfl⟩, Below.refl _ _⟩
  | true =>
    have HE : Hid (Nc.begE n node x = 0) := show Nc.begE n node x = 0 by unfold Nc.begE; rw [h]; rfl
    have HZ : Hid (Nc.begL n node x = Nc.ini node x n) := show Nc.begL n node x = Nc.ini node x n by unfold Nc.begL; rw [h]; rfl
    unfold Nc.begOk at h
    simp only [Bool.and_eq_true, decide_eq_true_eq] at h
    obtain ⟨⟨h1, h2, h2'⟩, h3, h4⟩ := h
    have HC : Hid (Nc.isC n = true) := h1
    have hn := Nc.isC_le h1
    have g1 : ¬ node < 0 := by omega
    have g2 : ¬ (n : Int) ≤ node := by omega
    have g3 : ¬ x < 1 := by omega
    have g4 : ¬ 1099511627776 < x := by omega
    obtain ⟨i0, hi, hz0, hz1, hz2⟩ := info_parts info3
    clear h1 h2 h2' h3 h4
    go_enter Try.func9, Try.ntmps9
    go_wp2_with fail
    refine (panel_any n _).mono ?_
    rintro e w1 ⟨rfl, rfl⟩
    rw [HC.out]
    go_wp2
    go_loopw [8, 9] (fun m t wr => ∃ k : Nat, k ≤ n ∧ t = .int .i64 k ∧ wr.ownsRow w1.heap.size 3 1 m k ((Nc.ini node x k).map (Value.int .i64)) ∧ Below w1.heap.size w1 wr) (fun _ t _ => n - (intOf t).toNat)
    case atStart => exact ⟨0, Nat.zero_le _, rfl, World.ownsRow_nil _ _ _ _, Below.refl _ _⟩
    case round =>
      obtain ⟨k, hk, rfl, hrow, hbl⟩ := hrel
      have hsz := hbl.size
      by_cases hlt : k < n
      · have hltI : (k : Int) < (n : Int) := by omega
        by_cases hj : (k : Int) = node
        · have HI : Hid (Nc.ini node x (k + 1) = Nc.ini node x k ++ [x]) := Nc.ini_yes hj
          have hj' : ((k : Int) == node) = true := by simpa using hj
          clear hj
          go_wp2_with (at_builtin; refine wpList_append_own _ rfl _ _ 22 rfl w1.heap.size 3 i0 (.int .i64 0) 1 8 Try.underlying22 hi hz0 hz1 hz2 rfl (by decide) _ _ _ rfl (hrow.alloc _) ⟨_, 0, none⟩ 1 1 [.int .i64 x] rfl rfl ?c1 ?c2 ?c3 ?c4 ?c5 ?_)
          case c1 => exact one_new_at _ _ rfl _ _
          case c2 => exact ints_oneCell .i64 [x]
          case c3 => unfold maxLen; omega
          case c4 => omega
          case c5 => simp; omega
          intro v3 w3 hown3 hg3 _
          have hga := grown_trans (World.grownBy_alloc wr (.cells #[.int .i64 x] 3) u8.ownBlock) hg3
          have hb3 : Below w1.heap.size w1 w3 := hbl.grown hga hbl.size (fun j hj => (hrow.lt j hj).1)
          clear hg3 hga hrow hbl
          go_wp2
          go_roundw
          case rel => exact ⟨k + 1, by omega, by go_num, by rw [HI.out]; simpa using hown3, hb3⟩
          case measure => simp [intOf]; omega
        · have HI : Hid (Nc.ini node x (k + 1) = Nc.ini node x k ++ [0]) := Nc.ini_no hj
          have hj' : ((k : Int) == node) = false := by simpa using hj
          clear hj
          go_wp2_with (at_builtin; refine wpList_append_own _ rfl _ _ 22 rfl w1.heap.size 3 i0 (.int .i64 0) 1 8 Try.underlying22 hi hz0 hz1 hz2 rfl (by decide) _ _ _ rfl (hrow.alloc _) ⟨_, 0, none⟩ 1 1 [.int .i64 0] rfl rfl ?c1 ?c2 ?c3 ?c4 ?c5 ?_)
          case c1 => exact one_new_at _ _ rfl _ _
          case c2 => exact ints_oneCell .i64 [0]
          case c3 => unfold maxLen; omega
          case c4 => omega
          case c5 => simp; omega
          intro v3 w3 hown3 hg3 _
          have hga := grown_trans (World.grownBy_alloc wr (.cells #[.int .i64 0] 3) u8.ownBlock) hg3
          have hb3 : Below w1.heap.size w1 w3 := hbl.grown hga hbl.size (fun j hj => (hrow.lt j hj).1)
          clear hg3 hga hrow hbl
          go_wp2
          go_roundw
          case rel => exact ⟨k + 1, by omega, by go_num, by rw [HI.out]; simpa using hown3, hb3⟩
          case measure => simp [intOf]; omega
      · obtain rfl : n = k := by omega
        go_wp2
        go_ret2
        rw [HE.out, HZ.out]
        exact ⟨_, rfl, IntsAt.of_own hrow, hbl⟩

theorem lits3 (w : World) (g : Nat) (hg : g = w.heap.size) (a b c : Int) : IntsAt (w.alloc (.cells #[.int .i64 a, .int .i64 b, .int .i64 c] 3)) (.slice (some ⟨g, 0, none⟩) 3 3) [a, b, c] := by
  subst hg
  refine .inr ⟨w.heap.size, 0, 3, rfl, by simp, by simp, by simp, by decide, fun j hj => ?_⟩
  have hj' : j < 3 := by simpa using hj
  match j, hj' with
  | 0, _ => simp
  | 1, _ => simp
  | 2, _ => simp
theorem lits1 (w : World) (g : Nat) (hg : g = w.heap.size) (a : Int) : IntsAt (w.alloc (.cells #[.int .i64 a] 3)) (.slice (some ⟨g, 0, none⟩) 1 1) [a] := by
  subst hg
  refine .inr ⟨w.heap.size, 0, 1, rfl, by simp, by simp, by simp, by decide, fun j hj => ?_⟩
  have hj' : j < 1 := by simpa using hj
  match j, hj' with
  | 0, _ => simp
theorem Nc.three1 : Nc.e2 [0, 5, 2] [1, 5, 0] = 0 ∧ Nc.mxs [0, 5, 2] [1, 5, 0] = [1, 5, 2] ∧ Nc.grs [0, 5, 2] [1, 5, 0] = [0] := by decide
theorem Nc.three2 : Nc.oldE [0, 5, 2] 1 [0, 4, 9] = 0 ∧ Nc.oldB [0, 5, 2] 1 [0, 4, 9] = true := by decide
theorem bup {w w1 w2 : World} (h : Below w.heap.size w w1) (k : Below w1.heap.size w1 w2) : Below w.heap.size w w2 := h.trans (k.mono h.size)
theorem below_alloc (w : World) (o : Obj) : Below w.heap.size w (w.alloc o) := (Below.refl _ _).alloc (Nat.le_refl _) _
set_option maxRecDepth 100000 in
set_option maxHeartbeats 1000000 in
theorem three_any (w : World) : Calls Try.prog 14 #[] w fun e w' => e = .returned (.bool true) ∧ Below w.heap.size w w' := by
  go_enter Try.func14, Try.ntmps14
  go_wp2_with fail
  refine (merge_any _ _ [0, 5, 2] [1, 5, 0] _ ((lits3 w w.heap.size rfl 0 5 2).up (below_alloc _ _)) (lits3 (w.alloc (.cells #[.int .i64 0, .int .i64 5, .int .i64 2] 3)) (w.heap.size + 1) (by simp) 1 5 0)).mono ?_
  rintro e w1 ⟨m, g, rfl, hm, hg, hb⟩
  rw [Nc.three1.1]
  rw [Nc.three1.2.1] at hm
  rw [Nc.three1.2.2] at hg
  have HM : Hid (IntsAt w1 m [1, 5, 2]) := hm
  have HG : Hid (IntsAt w1 g [0]) := hg
  have HB : Hid (Below w.heap.size w w1) := bup (bup (below_alloc w _) (below_alloc _ _)) hb
  clear hm hg hb
  go_wp2_with fail
  refine (old_any _ _ [0, 5, 2] [0, 4, 9] 1 _ ((lits3 w1 w1.heap.size rfl 0 5 2).up (below_alloc _ _)) (lits3 (w1.alloc (.cells #[.int .i64 0, .int .i64 5, .int .i64 2] 3)) (w1.heap.size + 1) (by simp) 0 4 9)).mono ?_
  rintro e w2 ⟨rfl, q, hw⟩
  rw [Nc.three2.1, Nc.three2.2]
  have hb2 : Below w1.heap.size w1 w2 := by
    rw [hw]
    exact Go.below_drewN (bup (below_alloc w1 _) (below_alloc _ _)) q
  have HM2 : Hid (IntsAt w2 m [1, 5, 2]) := HM.out.up hb2
  have HG2 : Hid (IntsAt w2 g [0]) := HG.out.up hb2
  have HB2 : Hid (Below w.heap.size w w2) := bup HB.out hb2
  clear hb2 hw HM HG HB
  go_wp2_with fail
  refine (ints_same _ _ [1, 5, 2] _ (HM2.out.up (below_alloc _ _)) (lits3 w2 w2.heap.size rfl 1 5 2)).mono ?_
  rintro e w3 ⟨rfl, hb3⟩
  have hb4 := bup (below_alloc w2 _) hb3
  have HG3 : Hid (IntsAt w3 g [0]) := HG2.out.up hb4
  have HB3 : Hid (Below w.heap.size w w3) := bup HB2.out hb4
  clear hb3 hb4 HG2 HB2
  go_wp2_with fail
  refine (ints_same _ _ [0] _ (HG3.out.up (below_alloc _ _)) (lits1 w3 w3.heap.size rfl 0)).mono ?_
  rintro e w4 ⟨rfl, hb5⟩
  have HB4 : Hid (Below w.heap.size w w4) := bup HB3.out (bup (below_alloc w3 _) hb5)
  clear hb5
  go_wp2
  go_ret
  exact ⟨rfl, HB4.out⟩
end Go.Proofs.Ytbjbfmdlkdiiaaa
