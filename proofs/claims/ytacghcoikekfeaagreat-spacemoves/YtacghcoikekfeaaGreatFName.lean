/-
  folder.within, folder.Name, folder.rightTo: what they answer.
-/
import Derived.Test.YtacghcoikekfeaaGreatRows
import Derived.Test.YtacghcoikekfeaaGreatFPlain
import Derived.Test.YtacghcoikekfeaaGreatFPlainF
import Derived.Test.YtacghcoikekfeaaGreatRow
import Derived.WalkKit
import Derived.WalkSpells
import Derived.WalkLawsBesides
import Derived.ProofKit
import Derived.BigQuiet
import Derived.Deep.QuietTactic
import Derived.Deep.RegionHeld3
import Derived.Deep.SlicePairs
namespace Go.Proofs.YtacghcoikekfeaaGreat
open Go.ChangeShapes Go.WideShapes Go.ChangeAt Go.RowKit Go.Deep
set_option maxRecDepth 100000
theorem flaidOut : laidOutB Tryz.prog = true := by kernel_rfl
theorem fown : ownKnob Tryz.prog.godebug = none := by kernel_rfl
theorem fwithin_any (lo x hi : Int) (w : World) : Calls Tryz.prog 100 #[.int .i64 lo, .int .i64 x, .int .i64 hi] w fun e w' => e = .returned (.bool (decide (lo ≤ x ∧ x ≤ hi))) ∧ w' = w := by
  by_cases h1 : lo ≤ x
  · by_cases h2 : x ≤ hi
    · rw [decide_eq_true (show lo ≤ x ∧ x ≤ hi from ⟨h1, h2⟩)]
      go_enter Tryz.func100, Tryz.ntmps100
      go_wp2
      go_ret
      exact ⟨rfl, rfl⟩
    · rw [decide_eq_false (show ¬ (lo ≤ x ∧ x ≤ hi) from fun h => h2 h.2)]
      go_enter Tryz.func100, Tryz.ntmps100
      go_wp2
      go_ret
      exact ⟨rfl, rfl⟩
  · rw [decide_eq_false (show ¬ (lo ≤ x ∧ x ≤ hi) from fun h => h1 h.1)]
    go_enter Tryz.func100, Tryz.ntmps100
    go_wp2
    go_ret
    exact ⟨rfl, rfl⟩
theorem fwithin_yes (lo x hi : Int) (w : World) (h : lo ≤ x ∧ x ≤ hi) : Calls Tryz.prog 100 #[.int .i64 lo, .int .i64 x, .int .i64 hi] w fun e w' => e = .returned (.bool true) ∧ w' = w := by
  have := fwithin_any lo x hi w
  rwa [decide_eq_true h] at this
theorem fwithin_no (lo x hi : Int) (w : World) (h : ¬ (lo ≤ x ∧ x ≤ hi)) : Calls Tryz.prog 100 #[.int .i64 lo, .int .i64 x, .int .i64 hi] w fun e w' => e = .returned (.bool false) ∧ w' = w := by
  have := fwithin_any lo x hi w
  rwa [decide_eq_false h] at this

abbrev BHf (no gen : Int) : Obj := .cells #[.int .i64 no, .int .i64 gen] 31
abbrev VHf (no gen : Int) : Value := .agg #[.int .i64 no, .int .i64 gen]
theorem rightTo_any (no gen : Int) (w : World) : Calls Tryz.prog 102 #[VHf no gen] w fun e w' => e = .returned (.bool (decide (Ho no gen))) ∧ w' = w.alloc (BHf no gen) := by
  by_cases h1 : 0 ≤ no ∧ no ≤ 23
  · by_cases h2 : 1 ≤ gen ∧ gen ≤ 1099511627776
    · rw [decide_eq_true (show Ho no gen from ⟨h1, h2⟩)]
      have H : Hid ((0 ≤ no ∧ no ≤ 23) ∧ (1 ≤ gen ∧ gen ≤ 1099511627776)) := ⟨h1, h2⟩
      clear h1 h2
      go_enter Tryz.func102, Tryz.ntmps102
      go_wp2_with fail
      refine (fwithin_yes _ _ _ _ H.out.1).mono ?_
      rintro e w' ⟨rfl, rfl⟩
      go_wp2_with fail
      refine (fwithin_yes _ _ _ _ H.out.2).mono ?_
      rintro e w' ⟨rfl, rfl⟩
      go_wp2
      go_ret
      exact ⟨rfl, rfl⟩
    · rw [decide_eq_false (show ¬ Ho no gen from fun h => h2 h.2)]
      have H : Hid ((0 ≤ no ∧ no ≤ 23) ∧ ¬ (1 ≤ gen ∧ gen ≤ 1099511627776)) := ⟨h1, h2⟩
      clear h1 h2
      go_enter Tryz.func102, Tryz.ntmps102
      go_wp2_with fail
      refine (fwithin_yes _ _ _ _ H.out.1).mono ?_
      rintro e w' ⟨rfl, rfl⟩
      go_wp2_with fail
      refine (fwithin_no _ _ _ _ H.out.2).mono ?_
      rintro e w' ⟨rfl, rfl⟩
      go_wp2
      go_ret
      exact ⟨rfl, rfl⟩
  · rw [decide_eq_false (show ¬ Ho no gen from fun h => h1 h.1)]
    have H : Hid (¬ (0 ≤ no ∧ no ≤ 23)) := h1
    clear h1
    go_enter Tryz.func102, Tryz.ntmps102
    go_wp2_with fail
    refine (fwithin_no _ _ _ _ H.out).mono ?_
    rintro e w' ⟨rfl, rfl⟩
    go_wp2
    go_ret
    exact ⟨rfl, rfl⟩

theorem toList_ne {s : ByteArray} {a : Array UInt8} (h : s ≠ ⟨a⟩) : ¬ s.toList = a.toList := fun e => h (by
  rw [ByteArray.toList_eq] at e
  cases s
  simp at e
  rw [e])
theorem below_iter {w : World} (s : ByteArray) (p : Nat) : Below w.heap.size w (w.iter s p) := (Below.refl _ w).alloc (Nat.le_refl _) _
set_option maxHeartbeats 1000000 in
theorem name_any (s : ByteArray) (w : World) (hm : s.size ≤ maxLen) : Calls Tryz.prog 101 #[.string s] w fun e w' => e = .returned (.int .i64 (Nm.err s)) ∧ Below w.heap.size w w' := by
  unfold maxLen at hm
  by_cases h1 : 1 ≤ (s.size : Int) ∧ (s.size : Int) ≤ 32
  · have H1 : Hid (1 ≤ (s.size : Int) ∧ (s.size : Int) ≤ 32) := h1
    by_cases h2 : s = ⟨#[46]⟩
    · have H : Hid (Nm.err s = 409) := Nm.err_no fun h => h.2.2.1 h2
      rw [H.out]
      subst h2
      go_enter Tryz.func101, Tryz.ntmps101
      go_wp2_with fail
      refine (fwithin_yes _ _ _ _ H1.out).mono ?_
      rintro e w' ⟨rfl, rfl⟩
      go_wp2
      go_ret
      exact ⟨rfl, Below.refl _ _⟩
    · by_cases h3 : s = ⟨#[46, 46]⟩
      · have H : Hid (Nm.err s = 409) := Nm.err_no fun h => h.2.2.2.1 h3
        rw [H.out]
        subst h3
        go_enter Tryz.func101, Tryz.ntmps101
        go_wp2_with fail
        refine (fwithin_yes _ _ _ _ H1.out).mono ?_
        rintro e w' ⟨rfl, rfl⟩
        go_wp2
        go_ret
        exact ⟨rfl, Below.refl _ _⟩
      · have H2 : Hid (s ≠ ⟨#[46]⟩ ∧ s ≠ ⟨#[46, 46]⟩) := ⟨h2, h3⟩
        have e2 : (s.toList == [46]) = false := beq_eq_false_iff_ne.2 (toList_ne h2)
        have e3 : (s.toList == [46, 46]) = false := beq_eq_false_iff_ne.2 (toList_ne h3)
        clear h1 h2 h3
        go_enter Tryz.func101, Tryz.ntmps101
        go_wp2_with fail
        refine (fwithin_yes _ _ _ _ H1.out).mono ?_
        rintro e w' ⟨rfl, hw⟩
        obtain rfl : w = w' := hw.symm
        go_wp2
        go_loopw [4] (fun _ wr => ∃ pos : Nat, pos ≤ s.size ∧ wr = w.iter s pos ∧ Nm.clean s pos) (fun _ wr => s.size - wr.iterPos w.heap.size)
        case atStart => exact ⟨0, Nat.zero_le _, rfl, Nm.clean_zero s⟩
        case round =>
          obtain ⟨pos, hps, rfl, hc⟩ := hrel
          have HC : Hid (Nm.clean s pos) := hc
          clear hc
          by_cases hp : pos < s.size
          · have hnext : ∀ ty, (Instr.next (.pointer (some ⟨w.heap.size, 0, none⟩)) true ty).run Tryz.prog (w.iter s pos) = _ := fun ty => run_next_any w s pos ty hp
            obtain ⟨hd1, hd2, -⟩ := Nm.decode_skip s pos hp
            obtain ⟨q1, q2⟩ := Nm.decode_bad s pos hp
            have HJ : Hid ((Utf8.decode s pos).1 ≠ 47 → (Utf8.decode s pos).1 ≠ 0 → Nm.clean s (pos + (Utf8.decode s pos).2)) := fun a b => Nm.clean_jump hp HC.out a b
            have HB : Hid ((Utf8.decode s pos).1 = 47 ∨ (Utf8.decode s pos).1 = 0 → Nm.err s = 409) := fun a => Nm.err_no (Nm.clean_bad hp (a.imp q1.1 q2.1))
            clear q1 q2
            generalize Utf8.decode s pos = d at *
            obtain ⟨r, k⟩ := d
            simp only at *
            by_cases r1 : r = 47
            · subst r1
              have H : Hid (Nm.err s = 409) := HB.out (.inl rfl)
              go_wp2
              go_ret
              rw [H.out]
              exact ⟨rfl, below_iter s _⟩
            · by_cases r0 : r = 0
              · subst r0
                have H : Hid (Nm.err s = 409) := HB.out (.inr rfl)
                go_wp2
                go_ret
                rw [H.out]
                exact ⟨rfl, below_iter s _⟩
              · have t1 : ((r : Int) == 47) = false := beq_eq_false_iff_ne.2 (by omega)
                have t0 : ((r : Int) == 0) = false := beq_eq_false_iff_ne.2 (by omega)
                have HK : Hid (Nm.clean s (pos + k)) := HJ.out r1 r0
                go_wp2
                go_roundw
                case rel => exact ⟨pos + k, hd2, rfl, HK.out⟩
                case measure =>
                  simp only [World.iterPos_iter]
                  omega
          · have hnext : ∀ ty, (Instr.next (.pointer (some ⟨w.heap.size, 0, none⟩)) true ty).run Tryz.prog (w.iter s pos) = _ := fun ty => run_next_end w s pos ty hp
            have H : Hid (Nm.err s = 0) := Nm.err_ok ⟨by have := H1.out.1; omega, by have := H1.out.2; omega, H2.out.1, H2.out.2, by
              have := HC.out
              rwa [show pos = s.size by omega] at this⟩
            go_wp2
            go_ret
            rw [H.out]
            exact ⟨rfl, below_iter s _⟩
  · have H : Hid (Nm.err s = 409) := Nm.err_no fun h => h1 ⟨by have := h.1; omega, by have := h.2.1; omega⟩
    have H1 : Hid (¬ (1 ≤ (s.size : Int) ∧ (s.size : Int) ≤ 32)) := h1
    rw [H.out]
    clear h1
    go_enter Tryz.func101, Tryz.ntmps101
    go_wp2_with fail
    refine (fwithin_no _ _ _ _ H1.out).mono ?_
    rintro e w' ⟨rfl, rfl⟩
    go_wp2
    go_ret
    exact ⟨rfl, Below.refl _ _⟩
end Go.Proofs.YtacghcoikekfeaaGreat
