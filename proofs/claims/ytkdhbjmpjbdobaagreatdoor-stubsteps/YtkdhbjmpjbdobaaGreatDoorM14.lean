/-
  The texts KBase, KBackP, KAdd, as one.
-/
import Derived.BigQuiet
import Derived.Deep.QuietTactic
import Derived.Deep.RegionHeld3
import Derived.RangeFuncBox
import Derived.OneCell
import Derived.Test.YtkdhbjmpjbdobaaGreatDoorM13
/- KBase -/
namespace Go.Proofs.YtkdhbjmpjbdobaaGreatDoor.Ks
open Go.ChangeShapes Go.WideShapes Go.ChangeAt Go.RowKit Go.Deep
set_option maxRecDepth 100000
open Ak

/-- Any world grown from w. -/
structure Grw (w : World) where
  out : World
  grown : w.grownBy out none
theorem grw_some (w : World) : Nonempty (Grw w) := ⟨⟨w, grown_refl _ _⟩⟩
/-- A region that only reads, and whose callees read and lay blocks of their own, walked once. -/
theorem wp_region_grw {P : Program} {id : Nat} {Q : Exit → Act → World → Prop} {a : Act} {w : World} {l : List Oper} (hm : P.follows .mixedOrders = true) (hB : Region.lexB .any l.toArray = true)
    (h : wpQuiet P l.toArray (fun w' => ∃ p : Grw w, w' = p.out) (fun a' => ∀ w', (∃ p : Grw w, w' = p.out) → Q .normal a' w') l a) : (Code.region id l.toArray true).wp P Q a w :=
  wp_region_quiet (C := fun w' => ∃ p : Grw w, w' = p.out) hm hB ⟨⟨w.drew, ⟨rfl, rfl, rfl, Nat.le_refl _, fun _ _ _ => rfl⟩⟩, rfl⟩ (by simpa using h)
theorem calls_grw {P : Program} {f : FuncId} {args : Array Value} {w W : World} {v : Value} (hg : w.grownBy W none)
    (h : Calls P f args W fun e w' => e = .returned v ∧ Below W.heap.size W w') : Calls P f args W fun e w'' => e = .returned v ∧ ∃ p : Grw w, w'' = p.out :=
  h.mono fun _ w' ⟨he, hw⟩ => ⟨he, ⟨w', grown_trans hg (grown_of_below hw none)⟩, rfl⟩
theorem Grw.below {w : World} (p : Grw w) : Below w.heap.size w p.out := below_none p.grown (Nat.le_refl _)
theorem cell_lt {w : World} {b j : Nat} {v : Value} (h : w.cell? ⟨b, j, none⟩ = some v) : b < w.heap.size := by
  rcases Nat.lt_or_ge b w.heap.size with h' | h'
  · exact h'
  · simp [World.cell?, Array.getElem?_eq_none h'] at h
theorem cell_step {w w' : World} {b j : Nat} {v : Value} (h : w.cell? ⟨b, j, none⟩ = some v) (hb : Below w.heap.size w w') : w'.cell? ⟨b, j, none⟩ = some v := (hb.cell (p := ⟨b, j, none⟩) (cell_lt h)).trans h
theorem Grw.cell {w : World} (p : Grw w) {b j : Nat} {v : Value} (h : w.cell? ⟨b, j, none⟩ = some v) : p.out.cell? ⟨b, j, none⟩ = some v := cell_step h p.below
theorem block_lt {w : World} {b : Nat} {o : Obj} (h : w.heap[b]? = some o) : b < w.heap.size := by
  rcases Nat.lt_or_ge b w.heap.size with h' | h'
  · exact h'
  · rw [Array.getElem?_eq_none h'] at h; cases h
theorem block_step {w w' : World} {b : Nat} {o : Obj} (h : w.heap[b]? = some o) (hb : Below w.heap.size w w') : w'.heap[b]? = some o := (hb.block b (block_lt h)).trans h

abbrev VC (c : Cl) : Value := .agg #[.int .i64 c.k, .int .i64 c.no, .int .i64 c.gen, .int .i64 c.no2, .int .i64 c.gen2, .string c.nm, .string c.nm2, .int .i64 c.pl, .int .i64 c.n, .string c.data]
abbrev BC (c : Cl) : Obj := .cells #[.int .i64 c.k, .int .i64 c.no, .int .i64 c.gen, .int .i64 c.no2, .int .i64 c.gen2, .string c.nm, .string c.nm2, .int .i64 c.pl, .int .i64 c.n, .string c.data] 34
abbrev VH (no gen : Int) : Value := .agg #[.int .i64 no, .int .i64 gen]
abbrev BH (no gen : Int) : Obj := .cells #[.int .i64 no, .int .i64 gen] 32
theorem ten_of {w : World} {b : Nat} {c : Cl} (h : w.heap[b]? = some (BC c)) : w.cell? ⟨b, 0, none⟩ = some (.int .i64 c.k) ∧ w.cell? ⟨b, 1, none⟩ = some (.int .i64 c.no) ∧ w.cell? ⟨b, 2, none⟩ = some (.int .i64 c.gen) ∧ w.cell? ⟨b, 3, none⟩ = some (.int .i64 c.no2) ∧ w.cell? ⟨b, 4, none⟩ = some (.int .i64 c.gen2) ∧ w.cell? ⟨b, 5, none⟩ = some (.string c.nm) ∧ w.cell? ⟨b, 6, none⟩ = some (.string c.nm2) ∧ w.cell? ⟨b, 7, none⟩ = some (.int .i64 c.pl) ∧ w.cell? ⟨b, 8, none⟩ = some (.int .i64 c.n) ∧ w.cell? ⟨b, 9, none⟩ = some (.string c.data) := by
  refine ⟨?_, ?_, ?_, ?_, ?_, ?_, ?_, ?_, ?_, ?_⟩ <;> simp [World.cell?, h]
theorem two_of {w : World} {b : Nat} {x y : Int} (h : w.heap[b]? = some (BH x y)) : w.cell? ⟨b, 0, none⟩ = some (.int .i64 x) ∧ w.cell? ⟨b, 1, none⟩ = some (.int .i64 y) := by
  refine ⟨?_, ?_⟩ <;> simp [World.cell?, h]

theorem within_is (lo x hi : Int) (b : Bool) (w : World) (h : Hid (decide (lo ≤ x ∧ x ≤ hi) = b)) : Calls Tryz.prog 88 #[.int .i64 lo, .int .i64 x, .int .i64 hi] w fun e w' => e = .returned (.bool b) ∧ w' = w := by
  rw [← h.out]
  clear h
  by_cases h1 : lo ≤ x
  · by_cases h2 : x ≤ hi
    · rw [decide_eq_true (show lo ≤ x ∧ x ≤ hi from ⟨h1, h2⟩)]
      go_enter Tryz.func88, Tryz.ntmps88
      go_wp2
      go_ret
      exact ⟨rfl, rfl⟩
    · rw [decide_eq_false (show ¬ (lo ≤ x ∧ x ≤ hi) from fun h => h2 h.2)]
      go_enter Tryz.func88, Tryz.ntmps88
      go_wp2
      go_ret
      exact ⟨rfl, rfl⟩
  · rw [decide_eq_false (show ¬ (lo ≤ x ∧ x ≤ hi) from fun h => h1 h.1)]
    go_enter Tryz.func88, Tryz.ntmps88
    go_wp2
    go_ret
    exact ⟨rfl, rfl⟩
theorem rh_is (no gen : Int) (b : Bool) (w : World) (h : Hid (hok no gen = b)) : Calls Tryz.prog 89 #[VH no gen] w fun e w' => e = .returned (.bool b) ∧ w' = w.alloc (BH no gen) := by
  by_cases h1 : 0 ≤ no ∧ no ≤ 255
  · have H1 : Hid (decide (0 ≤ no ∧ no ≤ 255) = true) := decide_eq_true h1
    have H2 : Hid (decide (0 ≤ gen ∧ gen ≤ 1099511627776) = b) := by
      show decide (0 ≤ gen ∧ gen ≤ 1099511627776) = b
      rw [← h.out]; unfold hok hokP; simp [h1]
    clear h h1
    go_enter Tryz.func89, Tryz.ntmps89
    go_wp2_with fail
    refine (within_is _ _ _ _ _ H1).mono ?_
    rintro e w' ⟨rfl, rfl⟩
    go_wp2_with fail
    refine (within_is _ _ _ _ _ H2).mono ?_
    rintro e w' ⟨rfl, rfl⟩
    go_wp2
    go_ret
    exact ⟨rfl, rfl⟩
  · have H1 : Hid (decide (0 ≤ no ∧ no ≤ 255) = false) := decide_eq_false h1
    have H2 : Hid (b = false) := by show b = false; rw [← h.out]; unfold hok hokP; exact decide_eq_false fun hh => h1 hh.1
    clear h h1
    go_enter Tryz.func89, Tryz.ntmps89
    go_wp2_with fail
    refine (within_is _ _ _ _ _ H1).mono ?_
    rintro e w' ⟨rfl, rfl⟩
    go_wp2
    go_ret
    rw [H2.out]
    exact ⟨rfl, rfl⟩
set_option maxRecDepth 100000 in
set_option maxHeartbeats 1000000 in
theorem rhandle_is (no gen : Int) (b : Bool) (w : World) (h : Hid (hok no gen = b)) : Calls Tryz.prog 47 #[VH no gen] w fun e w' => e = .returned (.bool b) ∧ w' = w.alloc (BH no gen) := by
  by_cases h1 : 0 ≤ no
  · by_cases h2 : no ≤ 255
    · by_cases h3 : 0 ≤ gen
      · by_cases h4 : gen ≤ 1099511627776
        all_goals
          have H : Hid (b = decide (gen ≤ 1099511627776)) := by show b = _; rw [← h.out]; unfold hok hokP; simp [h1, h2, h3]
          clear h
          go_enter Tryz.func47, Tryz.ntmps47
          go_wp2
          go_ret
          rw [H.out]
          simp [h4]
      · have H : Hid (b = false) := by show b = false; rw [← h.out]; unfold hok hokP; exact decide_eq_false fun hh => h3 hh.2.1
        clear h
        go_enter Tryz.func47, Tryz.ntmps47
        go_wp2
        go_ret
        rw [H.out]
        exact ⟨rfl, rfl⟩
    · have H : Hid (b = false) := by show b = false; rw [← h.out]; unfold hok hokP; exact decide_eq_false fun hh => h2 hh.1.2
      clear h
      go_enter Tryz.func47, Tryz.ntmps47
      go_wp2
      go_ret
      rw [H.out]
      exact ⟨rfl, rfl⟩
  · have H : Hid (b = false) := by show b = false; rw [← h.out]; unfold hok hokP; exact decide_eq_false fun hh => h1 hh.1.1
    clear h
    go_enter Tryz.func47, Tryz.ntmps47
    go_wp2
    go_ret
    rw [H.out]
    exact ⟨rfl, rfl⟩
set_option maxRecDepth 100000 in
set_option maxHeartbeats 4000000 in
theorem check_is (c : Cl) (w : World) (y : Int) (h : Hid ((if right c then (0 : Int) else 413) = y)) : Calls Tryz.prog 53 #[VC c] w fun e w' => e = .returned (.int .i64 y) ∧ Below w.heap.size w w' := by
  obtain ⟨k, no, gen, no2, gen2, nm, nm2, pl, n, data⟩ := c
  by_cases h0 : 1 ≤ k ∧ k ≤ 14
  case neg =>
    have HY : Hid (y = 413) := by
      have hr : right ⟨k, no, gen, no2, gen2, nm, nm2, pl, n, data⟩ = false := wrong_iff.2 fun hh => h0 hh.1
      show y = _
      rw [← h.out, hr]; rfl
    have H0 : Hid (decide (1 ≤ k ∧ k ≤ 14) = false) := decide_eq_false h0
    clear h0
    clear h
    go_enter Tryz.func53, Tryz.ntmps53
    go_wp2_with (first
    | (go_at_call 88; refine (within_is _ _ _ _ _ (by assumption)).mono ?_; rintro e w' ⟨rfl, rfl⟩)
    | (go_at_call 89; refine (rh_is _ _ _ _ (by assumption)).mono ?_; rintro e w' ⟨rfl, rfl⟩))
    go_ret
    rw [HY.out]
    exact ⟨rfl, by first | exact (Below.refl _ _).alloc (Nat.le_refl _) _ | exact ((Below.refl _ _).alloc (Nat.le_refl _) _).alloc (by simp) _ | exact (((Below.refl _ _).alloc (Nat.le_refl _) _).alloc (by simp) _).alloc (by simp; omega) _⟩
  case pos =>
    by_cases h1 : hokP no gen
    case neg =>
      have HY : Hid (y = 413) := by
        have hr : right ⟨k, no, gen, no2, gen2, nm, nm2, pl, n, data⟩ = false := wrong_iff.2 fun hh => h1 hh.2.1
        show y = _
        rw [← h.out, hr]; rfl
      have H0 : Hid (decide (1 ≤ k ∧ k ≤ 14) = true) := decide_eq_true h0
      clear h0
      have H1 : Hid (hok no gen = false) := decide_eq_false h1
      clear h1
      clear h
      go_enter Tryz.func53, Tryz.ntmps53
      go_wp2_with (first
    | (go_at_call 88; refine (within_is _ _ _ _ _ (by assumption)).mono ?_; rintro e w' ⟨rfl, rfl⟩)
    | (go_at_call 89; refine (rh_is _ _ _ _ (by assumption)).mono ?_; rintro e w' ⟨rfl, rfl⟩))
      go_ret
      rw [HY.out]
      exact ⟨rfl, by first | exact (Below.refl _ _).alloc (Nat.le_refl _) _ | exact ((Below.refl _ _).alloc (Nat.le_refl _) _).alloc (by simp) _ | exact (((Below.refl _ _).alloc (Nat.le_refl _) _).alloc (by simp) _).alloc (by simp; omega) _⟩
    case pos =>
      by_cases h2 : hokP no2 gen2
      case neg =>
        have HY : Hid (y = 413) := by
          have hr : right ⟨k, no, gen, no2, gen2, nm, nm2, pl, n, data⟩ = false := wrong_iff.2 fun hh => h2 hh.2.2.1
          show y = _
          rw [← h.out, hr]; rfl
        have H0 : Hid (decide (1 ≤ k ∧ k ≤ 14) = true) := decide_eq_true h0
        clear h0
        have H1 : Hid (hok no gen = true) := decide_eq_true h1
        clear h1
        have H2 : Hid (hok no2 gen2 = false) := decide_eq_false h2
        clear h2
        clear h
        go_enter Tryz.func53, Tryz.ntmps53
        go_wp2_with (first
    | (go_at_call 88; refine (within_is _ _ _ _ _ (by assumption)).mono ?_; rintro e w' ⟨rfl, rfl⟩)
    | (go_at_call 89; refine (rh_is _ _ _ _ (by assumption)).mono ?_; rintro e w' ⟨rfl, rfl⟩))
        go_ret
        rw [HY.out]
        exact ⟨rfl, by first | exact (Below.refl _ _).alloc (Nat.le_refl _) _ | exact ((Below.refl _ _).alloc (Nat.le_refl _) _).alloc (by simp) _ | exact (((Below.refl _ _).alloc (Nat.le_refl _) _).alloc (by simp) _).alloc (by simp; omega) _⟩
      case pos =>
        by_cases h3 : nm.size ≤ 255
        case neg =>
          have HY : Hid (y = 413) := by
            have hr : right ⟨k, no, gen, no2, gen2, nm, nm2, pl, n, data⟩ = false := wrong_iff.2 fun hh => h3 hh.2.2.2.1
            show y = _
            rw [← h.out, hr]; rfl
          have H0 : Hid (decide (1 ≤ k ∧ k ≤ 14) = true) := decide_eq_true h0
          clear h0
          have H1 : Hid (hok no gen = true) := decide_eq_true h1
          clear h1
          have H2 : Hid (hok no2 gen2 = true) := decide_eq_true h2
          clear h2
          have e3 : ¬ ((nm.size : Int) ≤ 255) := by omega
          clear h3
          clear h
          go_enter Tryz.func53, Tryz.ntmps53
          go_wp2_with (first
    | (go_at_call 88; refine (within_is _ _ _ _ _ (by assumption)).mono ?_; rintro e w' ⟨rfl, rfl⟩)
    | (go_at_call 89; refine (rh_is _ _ _ _ (by assumption)).mono ?_; rintro e w' ⟨rfl, rfl⟩))
          go_ret
          rw [HY.out]
          exact ⟨rfl, by first | exact (Below.refl _ _).alloc (Nat.le_refl _) _ | exact ((Below.refl _ _).alloc (Nat.le_refl _) _).alloc (by simp) _ | exact (((Below.refl _ _).alloc (Nat.le_refl _) _).alloc (by simp) _).alloc (by simp; omega) _⟩
        case pos =>
          by_cases h4 : nm2.size ≤ 255
          case neg =>
            have HY : Hid (y = 413) := by
              have hr : right ⟨k, no, gen, no2, gen2, nm, nm2, pl, n, data⟩ = false := wrong_iff.2 fun hh => h4 hh.2.2.2.2.1
              show y = _
              rw [← h.out, hr]; rfl
            have H0 : Hid (decide (1 ≤ k ∧ k ≤ 14) = true) := decide_eq_true h0
            clear h0
            have H1 : Hid (hok no gen = true) := decide_eq_true h1
            clear h1
            have H2 : Hid (hok no2 gen2 = true) := decide_eq_true h2
            clear h2
            have e3 : ((nm.size : Int) ≤ 255) := by omega
            clear h3
            have e4 : ¬ ((nm2.size : Int) ≤ 255) := by omega
            clear h4
            clear h
            go_enter Tryz.func53, Tryz.ntmps53
            go_wp2_with (first
    | (go_at_call 88; refine (within_is _ _ _ _ _ (by assumption)).mono ?_; rintro e w' ⟨rfl, rfl⟩)
    | (go_at_call 89; refine (rh_is _ _ _ _ (by assumption)).mono ?_; rintro e w' ⟨rfl, rfl⟩))
            go_ret
            rw [HY.out]
            exact ⟨rfl, by first | exact (Below.refl _ _).alloc (Nat.le_refl _) _ | exact ((Below.refl _ _).alloc (Nat.le_refl _) _).alloc (by simp) _ | exact (((Below.refl _ _).alloc (Nat.le_refl _) _).alloc (by simp) _).alloc (by simp; omega) _⟩
          case pos =>
            by_cases h5 : 0 ≤ pl ∧ pl ≤ 4294967295
            case neg =>
              have HY : Hid (y = 413) := by
                have hr : right ⟨k, no, gen, no2, gen2, nm, nm2, pl, n, data⟩ = false := wrong_iff.2 fun hh => h5 hh.2.2.2.2.2.1
                show y = _
                rw [← h.out, hr]; rfl
              have H0 : Hid (decide (1 ≤ k ∧ k ≤ 14) = true) := decide_eq_true h0
              clear h0
              have H1 : Hid (hok no gen = true) := decide_eq_true h1
              clear h1
              have H2 : Hid (hok no2 gen2 = true) := decide_eq_true h2
              clear h2
              have e3 : ((nm.size : Int) ≤ 255) := by omega
              clear h3
              have e4 : ((nm2.size : Int) ≤ 255) := by omega
              clear h4
              have H5 : Hid (decide (0 ≤ pl ∧ pl ≤ 4294967295) = false) := decide_eq_false h5
              clear h5
              clear h
              go_enter Tryz.func53, Tryz.ntmps53
              go_wp2_with (first
    | (go_at_call 88; refine (within_is _ _ _ _ _ (by assumption)).mono ?_; rintro e w' ⟨rfl, rfl⟩)
    | (go_at_call 89; refine (rh_is _ _ _ _ (by assumption)).mono ?_; rintro e w' ⟨rfl, rfl⟩))
              go_ret
              rw [HY.out]
              exact ⟨rfl, by first | exact (Below.refl _ _).alloc (Nat.le_refl _) _ | exact ((Below.refl _ _).alloc (Nat.le_refl _) _).alloc (by simp) _ | exact (((Below.refl _ _).alloc (Nat.le_refl _) _).alloc (by simp) _).alloc (by simp; omega) _⟩
            case pos =>
              by_cases h6 : 0 ≤ n ∧ n ≤ 65535
              case neg =>
                have HY : Hid (y = 413) := by
                  have hr : right ⟨k, no, gen, no2, gen2, nm, nm2, pl, n, data⟩ = false := wrong_iff.2 fun hh => h6 hh.2.2.2.2.2.2.1
                  show y = _
                  rw [← h.out, hr]; rfl
                have H0 : Hid (decide (1 ≤ k ∧ k ≤ 14) = true) := decide_eq_true h0
                clear h0
                have H1 : Hid (hok no gen = true) := decide_eq_true h1
                clear h1
                have H2 : Hid (hok no2 gen2 = true) := decide_eq_true h2
                clear h2
                have e3 : ((nm.size : Int) ≤ 255) := by omega
                clear h3
                have e4 : ((nm2.size : Int) ≤ 255) := by omega
                clear h4
                have H5 : Hid (decide (0 ≤ pl ∧ pl ≤ 4294967295) = true) := decide_eq_true h5
                clear h5
                have H6 : Hid (decide (0 ≤ n ∧ n ≤ 65535) = false) := decide_eq_false h6
                clear h6
                clear h
                go_enter Tryz.func53, Tryz.ntmps53
                go_wp2_with (first
    | (go_at_call 88; refine (within_is _ _ _ _ _ (by assumption)).mono ?_; rintro e w' ⟨rfl, rfl⟩)
    | (go_at_call 89; refine (rh_is _ _ _ _ (by assumption)).mono ?_; rintro e w' ⟨rfl, rfl⟩))
                go_ret
                rw [HY.out]
                exact ⟨rfl, by first | exact (Below.refl _ _).alloc (Nat.le_refl _) _ | exact ((Below.refl _ _).alloc (Nat.le_refl _) _).alloc (by simp) _ | exact (((Below.refl _ _).alloc (Nat.le_refl _) _).alloc (by simp) _).alloc (by simp; omega) _⟩
              case pos =>
                by_cases h7 : data.size ≤ 1024
                case neg =>
                  have HY : Hid (y = 413) := by
                    have hr : right ⟨k, no, gen, no2, gen2, nm, nm2, pl, n, data⟩ = false := wrong_iff.2 fun hh => h7 hh.2.2.2.2.2.2.2
                    show y = _
                    rw [← h.out, hr]; rfl
                  have H0 : Hid (decide (1 ≤ k ∧ k ≤ 14) = true) := decide_eq_true h0
                  clear h0
                  have H1 : Hid (hok no gen = true) := decide_eq_true h1
                  clear h1
                  have H2 : Hid (hok no2 gen2 = true) := decide_eq_true h2
                  clear h2
                  have e3 : ((nm.size : Int) ≤ 255) := by omega
                  clear h3
                  have e4 : ((nm2.size : Int) ≤ 255) := by omega
                  clear h4
                  have H5 : Hid (decide (0 ≤ pl ∧ pl ≤ 4294967295) = true) := decide_eq_true h5
                  clear h5
                  have H6 : Hid (decide (0 ≤ n ∧ n ≤ 65535) = true) := decide_eq_true h6
                  clear h6
                  have e7 : decide ((data.size : Int) ≤ 1024) = false := decide_eq_false (by omega)
                  clear h7
                  clear h
                  go_enter Tryz.func53, Tryz.ntmps53
                  go_wp2_with (first
    | (go_at_call 88; refine (within_is _ _ _ _ _ (by assumption)).mono ?_; rintro e w' ⟨rfl, rfl⟩)
    | (go_at_call 89; refine (rh_is _ _ _ _ (by assumption)).mono ?_; rintro e w' ⟨rfl, rfl⟩))
                  go_ret
                  rw [HY.out]
                  exact ⟨rfl, by first | exact (Below.refl _ _).alloc (Nat.le_refl _) _ | exact ((Below.refl _ _).alloc (Nat.le_refl _) _).alloc (by simp) _ | exact (((Below.refl _ _).alloc (Nat.le_refl _) _).alloc (by simp) _).alloc (by simp; omega) _⟩
                case pos =>
                  have HY : Hid (y = 0) := by
                    have hr : right ⟨k, no, gen, no2, gen2, nm, nm2, pl, n, data⟩ = true := right_iff.2 ⟨h0, h1, h2, h3, h4, h5, h6, h7⟩
                    show y = _
                    rw [← h.out, hr]; rfl
                  have H0 : Hid (decide (1 ≤ k ∧ k ≤ 14) = true) := decide_eq_true h0
                  clear h0
                  have H1 : Hid (hok no gen = true) := decide_eq_true h1
                  clear h1
                  have H2 : Hid (hok no2 gen2 = true) := decide_eq_true h2
                  clear h2
                  have e3 : ((nm.size : Int) ≤ 255) := by omega
                  clear h3
                  have e4 : ((nm2.size : Int) ≤ 255) := by omega
                  clear h4
                  have H5 : Hid (decide (0 ≤ pl ∧ pl ≤ 4294967295) = true) := decide_eq_true h5
                  clear h5
                  have H6 : Hid (decide (0 ≤ n ∧ n ≤ 65535) = true) := decide_eq_true h6
                  clear h6
                  have e7 : decide ((data.size : Int) ≤ 1024) = true := decide_eq_true (by omega)
                  clear h7
                  clear h
                  go_enter Tryz.func53, Tryz.ntmps53
                  go_wp2_with (first
    | (go_at_call 88; refine (within_is _ _ _ _ _ (by assumption)).mono ?_; rintro e w' ⟨rfl, rfl⟩)
    | (go_at_call 89; refine (rh_is _ _ _ _ (by assumption)).mono ?_; rintro e w' ⟨rfl, rfl⟩))
                  go_ret
                  rw [HY.out]
                  exact ⟨rfl, by first | exact (Below.refl _ _).alloc (Nat.le_refl _) _ | exact ((Below.refl _ _).alloc (Nat.le_refl _) _).alloc (by simp) _ | exact (((Below.refl _ _).alloc (Nat.le_refl _) _).alloc (by simp) _).alloc (by simp; omega) _⟩
set_option maxRecDepth 100000 in
set_option maxHeartbeats 4000000 in
theorem rright_is (c : Cl) (w : World) (y : Bool) (h : Hid (right c = y)) : Calls Tryz.prog 22 #[VC c] w fun e w' => e = .returned (.bool y) ∧ Below w.heap.size w w' := by
  obtain ⟨k, no, gen, no2, gen2, nm, nm2, pl, n, data⟩ := c
  by_cases h0 : 1 ≤ k
  case neg =>
    have HY : Hid (y = false) := by
      have hr : right ⟨k, no, gen, no2, gen2, nm, nm2, pl, n, data⟩ = false := wrong_iff.2 fun hh => h0 hh.1.1
      show y = _
      rw [← h.out, hr]
    clear h
    go_enter Tryz.func22, Tryz.ntmps22
    go_wp2_with (first
    | (go_at_call 47; refine (rhandle_is _ _ _ _ (by assumption)).mono ?_; rintro e w' ⟨rfl, rfl⟩))
    go_ret
    rw [HY.out]
    exact ⟨rfl, by first | exact (Below.refl _ _).alloc (Nat.le_refl _) _ | exact ((Below.refl _ _).alloc (Nat.le_refl _) _).alloc (by simp) _ | exact (((Below.refl _ _).alloc (Nat.le_refl _) _).alloc (by simp) _).alloc (by simp; omega) _⟩
  case pos =>
    by_cases h1 : k ≤ 14
    case neg =>
      have HY : Hid (y = false) := by
        have hr : right ⟨k, no, gen, no2, gen2, nm, nm2, pl, n, data⟩ = false := wrong_iff.2 fun hh => h1 hh.1.2
        show y = _
        rw [← h.out, hr]
      clear h
      go_enter Tryz.func22, Tryz.ntmps22
      go_wp2_with (first
    | (go_at_call 47; refine (rhandle_is _ _ _ _ (by assumption)).mono ?_; rintro e w' ⟨rfl, rfl⟩))
      go_ret
      rw [HY.out]
      exact ⟨rfl, by first | exact (Below.refl _ _).alloc (Nat.le_refl _) _ | exact ((Below.refl _ _).alloc (Nat.le_refl _) _).alloc (by simp) _ | exact (((Below.refl _ _).alloc (Nat.le_refl _) _).alloc (by simp) _).alloc (by simp; omega) _⟩
    case pos =>
      by_cases h2 : hokP no gen
      case neg =>
        have HY : Hid (y = false) := by
          have hr : right ⟨k, no, gen, no2, gen2, nm, nm2, pl, n, data⟩ = false := wrong_iff.2 fun hh => h2 hh.2.1
          show y = _
          rw [← h.out, hr]
        have H2 : Hid (hok no gen = false) := decide_eq_false h2
        clear h2
        clear h
        go_enter Tryz.func22, Tryz.ntmps22
        go_wp2_with (first
    | (go_at_call 47; refine (rhandle_is _ _ _ _ (by assumption)).mono ?_; rintro e w' ⟨rfl, rfl⟩))
        go_ret
        rw [HY.out]
        exact ⟨rfl, by first | exact (Below.refl _ _).alloc (Nat.le_refl _) _ | exact ((Below.refl _ _).alloc (Nat.le_refl _) _).alloc (by simp) _ | exact (((Below.refl _ _).alloc (Nat.le_refl _) _).alloc (by simp) _).alloc (by simp; omega) _⟩
      case pos =>
        by_cases h3 : hokP no2 gen2
        case neg =>
          have HY : Hid (y = false) := by
            have hr : right ⟨k, no, gen, no2, gen2, nm, nm2, pl, n, data⟩ = false := wrong_iff.2 fun hh => h3 hh.2.2.1
            show y = _
            rw [← h.out, hr]
          have H2 : Hid (hok no gen = true) := decide_eq_true h2
          clear h2
          have H3 : Hid (hok no2 gen2 = false) := decide_eq_false h3
          clear h3
          clear h
          go_enter Tryz.func22, Tryz.ntmps22
          go_wp2_with (first
    | (go_at_call 47; refine (rhandle_is _ _ _ _ (by assumption)).mono ?_; rintro e w' ⟨rfl, rfl⟩))
          go_ret
          rw [HY.out]
          exact ⟨rfl, by first | exact (Below.refl _ _).alloc (Nat.le_refl _) _ | exact ((Below.refl _ _).alloc (Nat.le_refl _) _).alloc (by simp) _ | exact (((Below.refl _ _).alloc (Nat.le_refl _) _).alloc (by simp) _).alloc (by simp; omega) _⟩
        case pos =>
          by_cases h4 : nm.size ≤ 255
          case neg =>
            have HY : Hid (y = false) := by
              have hr : right ⟨k, no, gen, no2, gen2, nm, nm2, pl, n, data⟩ = false := wrong_iff.2 fun hh => h4 hh.2.2.2.1
              show y = _
              rw [← h.out, hr]
            have H2 : Hid (hok no gen = true) := decide_eq_true h2
            clear h2
            have H3 : Hid (hok no2 gen2 = true) := decide_eq_true h3
            clear h3
            have e4 : ¬ ((nm.size : Int) ≤ 255) := by omega
            clear h4
            clear h
            go_enter Tryz.func22, Tryz.ntmps22
            go_wp2_with (first
    | (go_at_call 47; refine (rhandle_is _ _ _ _ (by assumption)).mono ?_; rintro e w' ⟨rfl, rfl⟩))
            go_ret
            rw [HY.out]
            exact ⟨rfl, by first | exact (Below.refl _ _).alloc (Nat.le_refl _) _ | exact ((Below.refl _ _).alloc (Nat.le_refl _) _).alloc (by simp) _ | exact (((Below.refl _ _).alloc (Nat.le_refl _) _).alloc (by simp) _).alloc (by simp; omega) _⟩
          case pos =>
            by_cases h5 : nm2.size ≤ 255
            case neg =>
              have HY : Hid (y = false) := by
                have hr : right ⟨k, no, gen, no2, gen2, nm, nm2, pl, n, data⟩ = false := wrong_iff.2 fun hh => h5 hh.2.2.2.2.1
                show y = _
                rw [← h.out, hr]
              have H2 : Hid (hok no gen = true) := decide_eq_true h2
              clear h2
              have H3 : Hid (hok no2 gen2 = true) := decide_eq_true h3
              clear h3
              have e4 : ((nm.size : Int) ≤ 255) := by omega
              clear h4
              have e5 : ¬ ((nm2.size : Int) ≤ 255) := by omega
              clear h5
              clear h
              go_enter Tryz.func22, Tryz.ntmps22
              go_wp2_with (first
    | (go_at_call 47; refine (rhandle_is _ _ _ _ (by assumption)).mono ?_; rintro e w' ⟨rfl, rfl⟩))
              go_ret
              rw [HY.out]
              exact ⟨rfl, by first | exact (Below.refl _ _).alloc (Nat.le_refl _) _ | exact ((Below.refl _ _).alloc (Nat.le_refl _) _).alloc (by simp) _ | exact (((Below.refl _ _).alloc (Nat.le_refl _) _).alloc (by simp) _).alloc (by simp; omega) _⟩
            case pos =>
              by_cases h6 : 0 ≤ pl
              case neg =>
                have HY : Hid (y = false) := by
                  have hr : right ⟨k, no, gen, no2, gen2, nm, nm2, pl, n, data⟩ = false := wrong_iff.2 fun hh => h6 hh.2.2.2.2.2.1.1
                  show y = _
                  rw [← h.out, hr]
                have H2 : Hid (hok no gen = true) := decide_eq_true h2
                clear h2
                have H3 : Hid (hok no2 gen2 = true) := decide_eq_true h3
                clear h3
                have e4 : ((nm.size : Int) ≤ 255) := by omega
                clear h4
                have e5 : ((nm2.size : Int) ≤ 255) := by omega
                clear h5
                clear h
                go_enter Tryz.func22, Tryz.ntmps22
                go_wp2_with (first
    | (go_at_call 47; refine (rhandle_is _ _ _ _ (by assumption)).mono ?_; rintro e w' ⟨rfl, rfl⟩))
                go_ret
                rw [HY.out]
                exact ⟨rfl, by first | exact (Below.refl _ _).alloc (Nat.le_refl _) _ | exact ((Below.refl _ _).alloc (Nat.le_refl _) _).alloc (by simp) _ | exact (((Below.refl _ _).alloc (Nat.le_refl _) _).alloc (by simp) _).alloc (by simp; omega) _⟩
              case pos =>
                by_cases h7 : pl < 4294967296
                case neg =>
                  have HY : Hid (y = false) := by
                    have hr : right ⟨k, no, gen, no2, gen2, nm, nm2, pl, n, data⟩ = false := wrong_iff.2 fun hh => h7 (by have := hh.2.2.2.2.2.1.2; simp only at this; omega)
                    show y = _
                    rw [← h.out, hr]
                  have H2 : Hid (hok no gen = true) := decide_eq_true h2
                  clear h2
                  have H3 : Hid (hok no2 gen2 = true) := decide_eq_true h3
                  clear h3
                  have e4 : ((nm.size : Int) ≤ 255) := by omega
                  clear h4
                  have e5 : ((nm2.size : Int) ≤ 255) := by omega
                  clear h5
                  clear h
                  go_enter Tryz.func22, Tryz.ntmps22
                  go_wp2_with (first
    | (go_at_call 47; refine (rhandle_is _ _ _ _ (by assumption)).mono ?_; rintro e w' ⟨rfl, rfl⟩))
                  go_ret
                  rw [HY.out]
                  exact ⟨rfl, by first | exact (Below.refl _ _).alloc (Nat.le_refl _) _ | exact ((Below.refl _ _).alloc (Nat.le_refl _) _).alloc (by simp) _ | exact (((Below.refl _ _).alloc (Nat.le_refl _) _).alloc (by simp) _).alloc (by simp; omega) _⟩
                case pos =>
                  by_cases h8 : 0 ≤ n
                  case neg =>
                    have HY : Hid (y = false) := by
                      have hr : right ⟨k, no, gen, no2, gen2, nm, nm2, pl, n, data⟩ = false := wrong_iff.2 fun hh => h8 hh.2.2.2.2.2.2.1.1
                      show y = _
                      rw [← h.out, hr]
                    have H2 : Hid (hok no gen = true) := decide_eq_true h2
                    clear h2
                    have H3 : Hid (hok no2 gen2 = true) := decide_eq_true h3
                    clear h3
                    have e4 : ((nm.size : Int) ≤ 255) := by omega
                    clear h4
                    have e5 : ((nm2.size : Int) ≤ 255) := by omega
                    clear h5
                    clear h
                    go_enter Tryz.func22, Tryz.ntmps22
                    go_wp2_with (first
    | (go_at_call 47; refine (rhandle_is _ _ _ _ (by assumption)).mono ?_; rintro e w' ⟨rfl, rfl⟩))
                    go_ret
                    rw [HY.out]
                    exact ⟨rfl, by first | exact (Below.refl _ _).alloc (Nat.le_refl _) _ | exact ((Below.refl _ _).alloc (Nat.le_refl _) _).alloc (by simp) _ | exact (((Below.refl _ _).alloc (Nat.le_refl _) _).alloc (by simp) _).alloc (by simp; omega) _⟩
                  case pos =>
                    by_cases h9 : n < 65536
                    case neg =>
                      have HY : Hid (y = false) := by
                        have hr : right ⟨k, no, gen, no2, gen2, nm, nm2, pl, n, data⟩ = false := wrong_iff.2 fun hh => h9 (by have := hh.2.2.2.2.2.2.1.2; simp only at this; omega)
                        show y = _
                        rw [← h.out, hr]
                      have H2 : Hid (hok no gen = true) := decide_eq_true h2
                      clear h2
                      have H3 : Hid (hok no2 gen2 = true) := decide_eq_true h3
                      clear h3
                      have e4 : ((nm.size : Int) ≤ 255) := by omega
                      clear h4
                      have e5 : ((nm2.size : Int) ≤ 255) := by omega
                      clear h5
                      clear h
                      go_enter Tryz.func22, Tryz.ntmps22
                      go_wp2_with (first
    | (go_at_call 47; refine (rhandle_is _ _ _ _ (by assumption)).mono ?_; rintro e w' ⟨rfl, rfl⟩))
                      go_ret
                      rw [HY.out]
                      exact ⟨rfl, by first | exact (Below.refl _ _).alloc (Nat.le_refl _) _ | exact ((Below.refl _ _).alloc (Nat.le_refl _) _).alloc (by simp) _ | exact (((Below.refl _ _).alloc (Nat.le_refl _) _).alloc (by simp) _).alloc (by simp; omega) _⟩
                    case pos =>
                      by_cases h10 : data.size ≤ 1024
                      case neg =>
                        have HY : Hid (y = false) := by
                          have hr : right ⟨k, no, gen, no2, gen2, nm, nm2, pl, n, data⟩ = false := wrong_iff.2 fun hh => h10 hh.2.2.2.2.2.2.2
                          show y = _
                          rw [← h.out, hr]
                        have H2 : Hid (hok no gen = true) := decide_eq_true h2
                        clear h2
                        have H3 : Hid (hok no2 gen2 = true) := decide_eq_true h3
                        clear h3
                        have e4 : ((nm.size : Int) ≤ 255) := by omega
                        clear h4
                        have e5 : ((nm2.size : Int) ≤ 255) := by omega
                        clear h5
                        have e10 : decide ((data.size : Int) ≤ 1024) = false := decide_eq_false (by omega)
                        clear h10
                        clear h
                        go_enter Tryz.func22, Tryz.ntmps22
                        go_wp2_with (first
    | (go_at_call 47; refine (rhandle_is _ _ _ _ (by assumption)).mono ?_; rintro e w' ⟨rfl, rfl⟩))
                        go_ret
                        rw [HY.out]
                        exact ⟨rfl, by first | exact (Below.refl _ _).alloc (Nat.le_refl _) _ | exact ((Below.refl _ _).alloc (Nat.le_refl _) _).alloc (by simp) _ | exact (((Below.refl _ _).alloc (Nat.le_refl _) _).alloc (by simp) _).alloc (by simp; omega) _⟩
                      case pos =>
                        have HY : Hid (y = true) := by
                          have hr : right ⟨k, no, gen, no2, gen2, nm, nm2, pl, n, data⟩ = true := right_iff.2 ⟨⟨h0, h1⟩, h2, h3, h4, h5, ⟨h6, (show pl ≤ 4294967295 by omega)⟩, ⟨h8, (show n ≤ 65535 by omega)⟩, h10⟩
                          show y = _
                          rw [← h.out, hr]
                        have H2 : Hid (hok no gen = true) := decide_eq_true h2
                        clear h2
                        have H3 : Hid (hok no2 gen2 = true) := decide_eq_true h3
                        clear h3
                        have e4 : ((nm.size : Int) ≤ 255) := by omega
                        clear h4
                        have e5 : ((nm2.size : Int) ≤ 255) := by omega
                        clear h5
                        have e10 : decide ((data.size : Int) ≤ 1024) = true := decide_eq_true (by omega)
                        clear h10
                        clear h
                        go_enter Tryz.func22, Tryz.ntmps22
                        go_wp2_with (first
    | (go_at_call 47; refine (rhandle_is _ _ _ _ (by assumption)).mono ?_; rintro e w' ⟨rfl, rfl⟩))
                        go_ret
                        rw [HY.out]
                        exact ⟨rfl, by first | exact (Below.refl _ _).alloc (Nat.le_refl _) _ | exact ((Below.refl _ _).alloc (Nat.le_refl _) _).alloc (by simp) _ | exact (((Below.refl _ _).alloc (Nat.le_refl _) _).alloc (by simp) _).alloc (by simp; omega) _⟩
end Go.Proofs.YtkdhbjmpjbdobaaGreatDoor.Ks
/- KBackP -/
namespace Go.Proofs.YtkdhbjmpjbdobaaGreatDoor.Ks
set_option maxRecDepth 100000
namespace Ak

theorem packErr_snoc : ∀ (l : List (Int × ByteArray)) (last : Int) (y : Int × ByteArray), Pl.packErr last l = 0 → (∀ x ∈ l, x.1 ≤ y.1) → last ≤ y.1 → 1 ≤ y.1 → y.1 ≤ 255 → y.2.size ≤ 65535 → Pl.packErr last (l ++ [y]) = 0
  | [], last, y, _, _, h1, h2, h3, h4 => by
    have : Pl.badAt last y = 0 := by unfold Pl.badAt; rw [if_neg (by omega), if_neg (by omega), if_neg (by omega)]
    simp [Pl.packErr, this]
  | x :: l, last, y, hp, hx, h1, h2, h3, h4 => by
    have hb : Pl.badAt last x = 0 := by
      unfold Pl.packErr at hp
      split at hp
      · assumption
      · exact hp
    have hp' : Pl.packErr x.1 l = 0 := by
      unfold Pl.packErr at hp
      rwa [if_pos hb] at hp
    show Pl.packErr last (x :: (l ++ [y])) = 0
    unfold Pl.packErr
    rw [if_pos hb]
    exact packErr_snoc l x.1 y hp' (fun z hz => hx z (by simp [hz])) (hx x (by simp)) h2 h3 h4
/-- Fields that can be packed, whose tags are at most t, and whose bytes are at most n. -/
def Up (l : List (Int × ByteArray)) (t : Int) (n : Nat) : Prop := Pl.packErr 1 l = 0 ∧ (∀ x ∈ l, x.1 ≤ t) ∧ (Pl.encs l).length ≤ n
theorem Up.opt {l : List (Int × ByteArray)} {t u : Int} {n m : Nat} {b : Bool} {s : ByteArray} (h : Up l t n) (h1 : 1 ≤ t) (ht : t < u) (hu : u ≤ 255) (hs : s.size ≤ m) (hm : m ≤ 65535) : Up (l ++ opt b (u, s)) u (n + 3 + m) := by
  obtain ⟨h0, h2, h3⟩ := h
  unfold Ak.opt
  cases b with
  | true =>
    rw [if_pos rfl]
    refine ⟨packErr_snoc l 1 (u, s) h0 (fun x hx => ?_) ?_ ?_ ?_ ?_, ?_, ?_⟩
    · have := h2 x hx; simp only; omega
    · simp only; omega
    · simp only; omega
    · simp only; omega
    · simp only; omega
    · intro x hx
      rcases List.mem_append.1 hx with hx | hx
      · have := h2 x hx; omega
      · simp at hx; subst hx; simp
    · have e : Pl.encs (l ++ [(u, s)]) = Pl.encs l ++ Pl.encOne (u, s) := by simp [Pl.encs]
      have := Pl.encOne_length (u, s)
      rw [e, List.length_append]
      simp only at this
      omega
  | false =>
    rw [if_neg (by decide), List.append_nil]
    exact ⟨h0, fun x hx => by have := h2 x hx; omega, by omega⟩
theorem numOut_le (n z : Int) : (Pl.numOut n z).size ≤ 8 := by
  unfold Pl.numOut
  split
  · decide
  · rename_i h
    rw [Pl.txt_size, Pl.digits_length]
    unfold Pl.numBad at h
    simp at h
    omega
theorem hbytes_le (a b : Int) : (hbytes a b).size ≤ 16 := by
  have h1 := numOut_le a 1
  have h2 := numOut_le b 6
  unfold hbytes
  rw [ByteArray.size_append]
  omega
theorem up_one (c : Cl) : Up (f1 c) 1 11 := by
  have h := numOut_le c.k 1
  refine ⟨?_, ?_, ?_⟩
  · have : Pl.badAt 1 (1, Pl.numOut c.k 1) = 0 := by unfold Pl.badAt; simp only; rw [if_neg (by omega), if_neg (by omega), if_neg (by omega)]
    simp [f1, Pl.packErr, this]
  · intro x hx; simp [f1] at hx; subst hx; simp
  · have := Pl.encOne_length (1, Pl.numOut c.k 1)
    simp only at this
    simp only [f1, Pl.encs, List.flatMap_cons, List.flatMap_nil, List.append_nil]
    omega
theorem up_fields {c : Cl} (h : rightP c) : Up (fields c) 8 1700 := by
  obtain ⟨hk, hh, hh2, hn, hn2, hp, hnn, hd⟩ := h
  have a2 := (up_one c).opt (b := hnz c.no c.gen) (u := 2) (s := hbytes c.no c.gen) (by omega) (by omega) (by omega) (hbytes_le _ _) (by omega)
  have a3 := a2.opt (b := hnz c.no2 c.gen2) (u := 3) (s := hbytes c.no2 c.gen2) (by omega) (by omega) (by omega) (hbytes_le _ _) (by omega)
  have a4 := a3.opt (b := snz c.nm) (u := 4) (s := c.nm) (by omega) (by omega) (by omega) hn (by omega)
  have a5 := a4.opt (b := snz c.nm2) (u := 5) (s := c.nm2) (by omega) (by omega) (by omega) hn2 (by omega)
  have a6 := a5.opt (b := c.pl != 0) (u := 6) (s := Pl.numOut c.pl 4) (by omega) (by omega) (by omega) (numOut_le _ _) (by omega)
  have a7 := a6.opt (b := c.n != 0) (u := 7) (s := Pl.numOut c.n 2) (by omega) (by omega) (by omega) (numOut_le _ _) (by omega)
  have a8 := a7.opt (b := snz c.data) (u := 8) (s := c.data) (by omega) (by omega) (by omega) hd (by omega)
  exact ⟨a8.1, a8.2.1, Nat.le_trans a8.2.2 (by omega)⟩

theorem callOf_opt (l : List (Int × ByteArray)) (b : Bool) (x : Int × ByteArray) : callOf (l ++ opt b x) = if b then withF (callOf l) x else callOf l := by
  unfold opt
  cases b with
  | true => rw [if_pos rfl, if_pos rfl, callOf_snoc]
  | false => rw [if_neg (by decide), if_neg (by decide), List.append_nil]
theorem empty_of {s : ByteArray} (h : snz s = false) : s = ⟨#[]⟩ := by
  unfold snz at h
  rw [ByteArray.toList_eq] at h
  simp at h
  cases s
  simp at h
  rw [h]
theorem hz_of {no gen : Int} (h : hnz no gen = false) : no = 0 ∧ gen = 0 := by
  unfold hnz at h
  simp at h
  exact h
theorem callOf_fields {c : Cl} (h : rightP c) : callOf (fields c) = c := by
  obtain ⟨hk, hh, hh2, hn, hn2, hp, hnn, hd⟩ := h
  have g1 : callOf (f1 c) = ⟨c.k, 0, 0, 0, 0, ⟨#[]⟩, ⟨#[]⟩, 0, 0, ⟨#[]⟩⟩ := by
    have : Pl.numVal (Pl.numOut c.k 1) = c.k := val_num (z := 1) (by omega) (by omega) (by omega) (by omega)
    simp [callOf, f1, withF, zero, this]
  have g2 : callOf (f2 c) = ⟨c.k, c.no, c.gen, 0, 0, ⟨#[]⟩, ⟨#[]⟩, 0, 0, ⟨#[]⟩⟩ := by
    unfold f2
    rw [callOf_opt, g1]
    cases hz : hnz c.no c.gen with
    | true => rw [if_pos rfl]; obtain ⟨e1, e2⟩ := hback hh; simp [withF, e1, e2]
    | false => rw [if_neg (by decide)]; obtain ⟨e1, e2⟩ := hz_of hz; rw [e1, e2]
  have g3 : callOf (f3 c) = ⟨c.k, c.no, c.gen, c.no2, c.gen2, ⟨#[]⟩, ⟨#[]⟩, 0, 0, ⟨#[]⟩⟩ := by
    unfold f3
    rw [callOf_opt, g2]
    cases hz : hnz c.no2 c.gen2 with
    | true => rw [if_pos rfl]; obtain ⟨e1, e2⟩ := hback hh2; simp [withF, e1, e2]
    | false => rw [if_neg (by decide)]; obtain ⟨e1, e2⟩ := hz_of hz; rw [e1, e2]
  have g4 : callOf (f4 c) = ⟨c.k, c.no, c.gen, c.no2, c.gen2, c.nm, ⟨#[]⟩, 0, 0, ⟨#[]⟩⟩ := by
    unfold f4
    rw [callOf_opt, g3]
    cases hz : snz c.nm with
    | true => rw [if_pos rfl]; simp [withF]
    | false => rw [if_neg (by decide), empty_of hz]
  have g5 : callOf (f5 c) = ⟨c.k, c.no, c.gen, c.no2, c.gen2, c.nm, c.nm2, 0, 0, ⟨#[]⟩⟩ := by
    unfold f5
    rw [callOf_opt, g4]
    cases hz : snz c.nm2 with
    | true => rw [if_pos rfl]; simp [withF]
    | false => rw [if_neg (by decide), empty_of hz]
  have g6 : callOf (f6 c) = ⟨c.k, c.no, c.gen, c.no2, c.gen2, c.nm, c.nm2, c.pl, 0, ⟨#[]⟩⟩ := by
    unfold f6
    rw [callOf_opt, g5]
    cases hz : (c.pl != 0) with
    | true =>
      have : Pl.numVal (Pl.numOut c.pl 4) = c.pl := val_num (z := 4) (by omega) (by omega) (by omega) (by omega)
      rw [if_pos rfl]; simp [withF, this]
    | false => have : c.pl = 0 := by simpa using hz
               rw [if_neg (by decide), this]
  have g7 : callOf (f7 c) = ⟨c.k, c.no, c.gen, c.no2, c.gen2, c.nm, c.nm2, c.pl, c.n, ⟨#[]⟩⟩ := by
    unfold f7
    rw [callOf_opt, g6]
    cases hz : (c.n != 0) with
    | true =>
      have : Pl.numVal (Pl.numOut c.n 2) = c.n := val_num (z := 2) (by omega) (by omega) (by omega) (by omega)
      rw [if_pos rfl]; simp [withF, this]
    | false => have : c.n = 0 := by simpa using hz
               rw [if_neg (by decide), this]
  unfold fields
  rw [callOf_opt, g7]
  cases hz : snz c.data with
  | true => rw [if_pos rfl]; simp [withF]
  | false => have := empty_of hz; rw [if_neg (by decide)]; cases c; simp only at this; rw [this]

/-- What was packed is unpacked. -/
theorem back {c : Cl} (h : right c = true) : unpC (Pl.encs (fields c)) = c ∧ unpE (Pl.encs (fields c)) = 0 ∧ (Pl.encs (fields c)).length ≤ 1700 := by
  have hr := right_iff.1 h
  have hu := up_fields hr
  obtain ⟨e1, e2⟩ := Pl.unp_encs (fields c) hu.1
  have hc : isCall (Pl.encs (fields c)) = true := by
    unfold isCall
    rw [e1, e2, callOf_fields hr, h]
    simp
  refine ⟨?_, ?_, hu.2.2⟩
  · unfold unpC; rw [if_pos hc, e1, callOf_fields hr]
  · unfold unpE; rw [if_pos hc]
/-- What is unpacked is packed so. -/
theorem forth {L : List UInt8} (h : unpE L = 0) : right (unpC L) = true ∧ Pl.encs (fields (unpC L)) = L := by
  unfold unpE at h
  split at h
  · rename_i hc
    unfold unpC
    rw [if_pos hc]
    unfold isCall at hc
    simp only [Bool.and_eq_true, decide_eq_true_eq] at hc
    exact ⟨hc.1.2, hc.2⟩
  · cases h
theorem unp_bad {L : List UInt8} (h : unpE L ≠ 0) : unpC L = zero ∧ unpE L = 413 := by
  unfold unpE at h
  unfold unpC unpE
  split at h
  · exact absurd rfl h
  · rename_i hc
    simp [hc]
end Ak
end Go.Proofs.YtkdhbjmpjbdobaaGreatDoor.Ks
/- KAdd -/
namespace Go.Proofs.YtkdhbjmpjbdobaaGreatDoor.Ks
open Go.ChangeShapes Go.WideShapes Go.ChangeAt Go.RowKit Go.Deep
set_option maxRecDepth 100000
open Ak

theorem infoF : (Tryz.prog.info? 168).map (fun i => (i.zero, i.size, i.bytes)) = some (some (.agg #[.int .i64 0, .string ⟨#[]⟩]), 2, 24) := by kernel_rfl

theorem num_s (n size : Int) (w : World) (hn : n ≤ 9223372036854775807) : Calls Tryz.prog 90 #[.int .i64 n, .int .i64 size] w fun e w' => e = .returned (.string (Pl.numOut n size)) ∧ Below w.heap.size w w' := by
  go_enter Tryz.func90, Tryz.ntmps90
  go_wp2_with fail
  refine (num_any n size _ hn).mono ?_
  rintro e w1 ⟨rfl, hb⟩
  go_wp2
  go_ret
  exact ⟨rfl, hb⟩
set_option maxRecDepth 100000 in
set_option maxHeartbeats 1000000 in
theorem packHandle_any (no gen : Int) (w : World) (hn : no ≤ 9223372036854775807) (hg : gen ≤ 9223372036854775807) : Calls Tryz.prog 92 #[VH no gen] w fun e w' => e = .returned (.string (hbytes no gen)) ∧ Below w.heap.size w w' := by
  have z1 := numOut_le no 1
  have z2 := numOut_le gen 6
  obtain ⟨n1, hn1⟩ : ∃ n1, Pl.numOut no 1 = n1 := ⟨_, rfl⟩
  obtain ⟨n2, hn2⟩ : ∃ n2, Pl.numOut gen 6 = n2 := ⟨_, rfl⟩
  have HO : Hid (hbytes no gen = n1 ++ n2) := by show hbytes no gen = _; rw [← hn1, ← hn2]; rfl
  rw [hn1] at z1
  rw [hn2] at z2
  have hq1 : ¬ 9223372036854775807 < n1.size + n2.size := by omega
  obtain ⟨W, hW⟩ : ∃ W, W = w.alloc (BH no gen) := ⟨_, rfl⟩
  have hbk : W.heap[w.heap.size]? = some (BH no gen) := by rw [hW]; exact heap_alloc_new w _
  have HB0 : Hid (Below w.heap.size w W) := by show Below w.heap.size w W; rw [hW]; exact (Below.refl _ _).alloc (Nat.le_refl _) _
  obtain ⟨a0, a1⟩ := two_of hbk
  have c0 := fun p : Grw W => p.cell a0
  have c1 := fun p : Grw W => p.cell a1
  have HC1 : Hid (∀ V, Calls Tryz.prog 90 #[.int .i64 no, .int .i64 1] V fun e w' => e = .returned (.string n1) ∧ Below V.heap.size V w') := fun V => by rw [← hn1]; exact num_s no 1 V hn
  have HC2 : Hid (∀ V, Calls Tryz.prog 90 #[.int .i64 gen, .int .i64 6] V fun e w' => e = .returned (.string n2) ∧ Below V.heap.size V w') := fun V => by rw [← hn2]; exact num_s gen 6 V hg
  have hne9 : Nonempty (Grw W) := grw_some W
  clear hn1 hn2 hbk a0 a1 hn hg
  go_enter Tryz.func92, Tryz.ntmps92
  go_wp2_with fail
  rw [← hW]
  clear hW
  refine wp_region_grw (by kernel_rfl) (by kernel_rfl) ?_
  repeat (go_big_quiet_step (first
    | (go_at_call_of 90 (Value.int .i64 6); with_reducible refine calls_grw (Grw.grown _) (HC2.out _))
    | (go_at_call 90; with_reducible refine calls_grw (Grw.grown _) (HC1.out _))))
  rintro w9 ⟨p9, rfl⟩
  have HB : Hid (Below w.heap.size w p9.out) := HB0.out.trans (p9.below.mono HB0.out.size)
  go_wp2
  go_ret
  rw [HO.out]
  exact ⟨rfl, HB.out⟩

/-- What holds behind each field: the box b has a slice of the call's own, whose fields are l; the blocks of w0 are as they were. -/
structure St (n0 b : Nat) (l : List (Int × ByteArray)) (w0 : World) (v : Value) (w : World) : Prop where
  box : Boxed w b 117 v
  row : w.ownsRow n0 168 2 v l.length (cellsOf l)
  below : Below n0 w0 w
  base : n0 ≤ b
  start : n0 ≤ w0.heap.size
theorem St.step {n0 b : Nat} {l : List (Int × ByteArray)} {w0 w w' : World} {v : Value} (h : St n0 b l w0 v w) (hb : Below w.heap.size w w') : St n0 b l w0 v w' :=
  ⟨block_step h.box hb, h.row.kept (grown_of_below hb none) (Classical.em _), h.below.trans (hb.mono (Nat.le_trans h.start h.below.size)), h.base, h.start⟩
theorem St.fields {n0 b : Nat} {l : List (Int × ByteArray)} {w0 w : World} {v : Value} (h : St n0 b l w0 v w) : FieldsAt w.heap.size w v l := FieldsAt.of_own h.row

def Others (b : Nat) (w w' : World) : Prop := ∀ B o t, t ≠ 168 → B ≠ b → w.heap[B]? = some (.cells o t (0, 0)) → w'.heap[B]? = some (.cells o t (0, 0))
theorem added {n0 b : Nat} {l : List (Int × ByteArray)} {w0 w w1 : World} {v v1 : Value} {tag : Int} {s : ByteArray} {o : Obj} (h : St n0 b l w0 v w)
    (hown : w1.ownsRow n0 168 2 v1 (l.length + 1) (cellsOf l ++ [.int .i64 tag, .string s])) (hgrow : (w.alloc o).grownBy w1 v.ownBlock) :
    ∃ g cap, v1 = .slice (some ⟨g, 0, none⟩) (l.length + 1) cap ∧ w1.cell? ⟨b, 0, none⟩ = some v ∧ w1.frozen? ⟨b, 0, none⟩ = false ∧ b < w1.heap.size ∧ Hid (St n0 b (l ++ [(tag, s)]) w0 v1 (w1.setCell ⟨b, 0, none⟩ v1) ∧ Others b w (w1.setCell ⟨b, 0, none⟩ v1)) := by
  obtain ⟨g1, cap1, hv1⟩ := ownsRow_succ hown
  have hb1 : Boxed w1 b 117 v := (h.box.alloc _).kept hgrow ((h.box.alloc o).not_row (by decide) (h.row.alloc o))
  refine ⟨g1, cap1, hv1, hb1.cell, hb1.frozen, hb1.lt, ⟨hb1.set _, ?_, ?_, h.base, h.start⟩, ?_⟩
  · refine World.ownsRow.kept (w := w1) ?_ (grownBy_setCell' w1 b _) (.inr (hb1.not_row (by decide) hown).symm)
    rw [cellsOf_append, List.length_append]
    exact hown
  · have h1 := h.below.size
    have h2 := h.start
    exact ((h.below.alloc (Nat.le_trans h2 h1) _).grown hgrow (by simp; omega) (fun g hg => (h.row.lt g hg).1)).setCell (p := ⟨b, 0, none⟩) h.base _
  · intro B o' t ht hB hBo
    have h1 : w1.heap[B]? = some (.cells o' t (0, 0)) := App.keep (h.row.alloc o) hgrow ((Below.heap_alloc w o B (block_lt hBo)).trans hBo) ht
    exact (Below.heap_setCell _ _ _ B (fun e => hB e)).trans h1
set_option maxRecDepth 100000 in
set_option maxHeartbeats 1000000 in
theorem add_any (there : Bool) (tag : Int) (s : ByteArray) (n0 b : Nat) (l : List (Int × ByteArray)) (w0 : World) (v : Value) (w : World) (h : St n0 b l w0 v w) (hl : l.length ≤ 1000) :
    Calls Tryz.prog 91 #[.bool there, .int .i64 tag, .string s, .pointer (some ⟨b, 0, none⟩)] w fun e w' => e = .returned (.tuple #[]) ∧ ∃ v', St n0 b (l ++ opt there (tag, s)) w0 v' w' ∧ Others b w w' := by
  cases there with
  | false =>
    have HL : Hid (l ++ opt false (tag, s) = l) := by simp [Hid, opt]
    rw [HL.out]
    go_enter Tryz.func91, Tryz.ntmps91
    go_wp2
    go_end0
    exact ⟨rfl, v, h, fun _ _ _ _ _ hB => hB⟩
  | true =>
    have HL : Hid (l ++ opt true (tag, s) = l ++ [(tag, s)]) := by simp [Hid, opt]
    rw [HL.out]
    obtain ⟨i0, hi, hz0, hz1, hz2⟩ := info_parts infoF
    have hc := h.box.cell
    have hlt := h.box.lt
    have HH : Hid (St n0 b l w0 v w) := h
    clear h
    go_enter Tryz.func91, Tryz.ntmps91
    go_wp2_with (at_builtin; refine wpList_append_own _ rfl (.tmp 8) (.tmp 12) 117 rfl n0 168 i0 (.agg #[.int .i64 0, .string ⟨#[]⟩]) 2 24 Tryz.underlying117 hi hz0 hz1 hz2 rfl (by decide) _ _ _ rfl (HH.out.row.alloc _) ⟨w.heap.size, 0, none⟩ 1 1 [.int .i64 tag, .string s] rfl rfl (App.two_new _ _ rfl _ _ _) (App.one2 _ _) (by unfold maxLen; omega) (by omega) (by have := HH.out.below.size; have := HH.out.start; simp; omega) ?_; intro v1 w1 hown1 hgrow1 _; obtain ⟨g1, cap1, rfl, q0, q1, q2, HQ⟩ := added HH.out hown1 hgrow1; clear hown1 hgrow1)
    go_end0
    exact ⟨rfl, _, HQ.out⟩
end Go.Proofs.YtkdhbjmpjbdobaaGreatDoor.Ks
