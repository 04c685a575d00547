/-
  ask's within, rightHandle, Check and the document's handle, Right: what they answer at any call.
-/
import Derived.Test.YtfdajcakmbpicaaKPlain
import Derived.Test.YtfdajcakmbpicaaNum
import Derived.Test.YtfdajcakmbpicaaRow
import Derived.BigQuiet
import Derived.Deep.QuietTactic
import Derived.Deep.RegionHeld3
namespace Go.Proofs.Ytfdajcakmbpicaa
open Go.ChangeShapes Go.WideShapes Go.ChangeAt Go.RowKit Go.Deep
open Ak

/-- Any world grown from w. -/
structure Grw (w : World) where
  out : World
  grown : w.grownBy out none
theorem grw_some (w : World) : Nonempty (Grw w) := ⟨⟨w, grown_refl _ _⟩⟩
/-- A region that only reads, and whose callees read and lay blocks of their own, walked once. -/
theorem wp_region_grw {P : Program} {id : Nat} {Q : Exit → Act → World → Prop} {a : Act} {w : World} {l : List Oper} (hm : P.follows .mixedOrders = true) (hB : Region.lexB .any l.toArray = true)
    (h : wpQuiet P l.toArray (fun w' => ∃ p : Grw w, w' = p.out) (fun a' => ∀ w', (∃ p : Grw w, w' = p.out) → Q .normal a' w') l a) : (Code.region id l.toArray true).wp P Q a w :=
  wp_region_quiet (C := fun w' => ∃ p : Grw w, w' = p.out) hm hB ⟨⟨w.drew, ⟨rfl, rfl, rfl, Nat.le_refl _, fun _ _ _ => rfl⟩⟩, rfl⟩ (by simpa using h)
theorem calls_grw {P : Program} {f : FuncId} {args : Array Value} {w W : World} {v : Value} (hg : w.grownBy W none)
    (h : Calls P f args W fun e w' => e = .returned v ∧ Below W.heap.size W w') : Calls P f args W fun e w'' => e = .returned v ∧ ∃ p : Grw w, w'' = p.out :=
  h.mono fun _ w' ⟨he, hw⟩ => ⟨he, ⟨w', grown_trans hg (grown_of_below hw none)⟩, rfl⟩
theorem Grw.below {w : World} (p : Grw w) : Below w.heap.size w p.out := below_none p.grown (Nat.le_refl _)
theorem cell_lt {w : World} {b j : Nat} {v : Value} (h : w.cell? ⟨b, j, none⟩ = some v) : b < w.heap.size := by
  rcases Nat.lt_or_ge b w.heap.size with h' | h'
  · exact h'
  · simp [World.cell?, Array.getElem?_eq_none h'] at h
theorem cell_step {w w' : World} {b j : Nat} {v : Value} (h : w.cell? ⟨b, j, none⟩ = some v) (hb : Below w.heap.size w w') : w'.cell? ⟨b, j, none⟩ = some v := (hb.cell (p := ⟨b, j, none⟩) (cell_lt h)).trans h
theorem Grw.cell {w : World} (p : Grw w) {b j : Nat} {v : Value} (h : w.cell? ⟨b, j, none⟩ = some v) : p.out.cell? ⟨b, j, none⟩ = some v := cell_step h p.below
theorem block_lt {w : World} {b : Nat} {o : Obj} (h : w.heap[b]? = some o) : b < w.heap.size := by
  rcases Nat.lt_or_ge b w.heap.size with h' | h'
  · exact h'
  · rw [Array.getElem?_eq_none h'] at h; cases h
theorem block_step {w w' : World} {b : Nat} {o : Obj} (h : w.heap[b]? = some o) (hb : Below w.heap.size w w') : w'.heap[b]? = some o := (hb.block b (block_lt h)).trans h

abbrev VC (c : Cl) : Value := .agg #[.int .i64 c.k, .int .i64 c.no, .int .i64 c.gen, .int .i64 c.no2, .int .i64 c.gen2, .string c.nm, .string c.nm2, .int .i64 c.pl, .int .i64 c.n, .string c.data]
abbrev BC (c : Cl) : Obj := .cells #[.int .i64 c.k, .int .i64 c.no, .int .i64 c.gen, .int .i64 c.no2, .int .i64 c.gen2, .string c.nm, .string c.nm2, .int .i64 c.pl, .int .i64 c.n, .string c.data] 25
abbrev VH (no gen : Int) : Value := .agg #[.int .i64 no, .int .i64 gen]
abbrev BH (no gen : Int) : Obj := .cells #[.int .i64 no, .int .i64 gen] 23
theorem ten_of {w : World} {b : Nat} {c : Cl} (h : w.heap[b]? = some (BC c)) : w.cell? ⟨b, 0, none⟩ = some (.int .i64 c.k) ∧ w.cell? ⟨b, 1, none⟩ = some (.int .i64 c.no) ∧ w.cell? ⟨b, 2, none⟩ = some (.int .i64 c.gen) ∧ w.cell? ⟨b, 3, none⟩ = some (.int .i64 c.no2) ∧ w.cell? ⟨b, 4, none⟩ = some (.int .i64 c.gen2) ∧ w.cell? ⟨b, 5, none⟩ = some (.string c.nm) ∧ w.cell? ⟨b, 6, none⟩ = some (.string c.nm2) ∧ w.cell? ⟨b, 7, none⟩ = some (.int .i64 c.pl) ∧ w.cell? ⟨b, 8, none⟩ = some (.int .i64 c.n) ∧ w.cell? ⟨b, 9, none⟩ = some (.string c.data) := by
  refine ⟨?_, ?_, ?_, ?_, ?_, ?_, ?_, ?_, ?_, ?_⟩ <;> simp [World.cell?, h]
theorem two_of {w : World} {b : Nat} {x y : Int} (h : w.heap[b]? = some (BH x y)) : w.cell? ⟨b, 0, none⟩ = some (.int .i64 x) ∧ w.cell? ⟨b, 1, none⟩ = some (.int .i64 y) := by
  refine ⟨?_, ?_⟩ <;> simp [World.cell?, h]

theorem within_is (lo x hi : Int) (b : Bool) (w : World) (h : Hid (decide (lo ≤ x ∧ x ≤ hi) = b)) : Calls Try.prog 21 #[.int .i64 lo, .int .i64 x, .int .i64 hi] w fun e w' => e = .returned (.bool b) ∧ w' = w := by
  rw [← h.out]
  clear h
  by_cases h1 : lo ≤ x
  · by_cases h2 : x ≤ hi
    · rw [decide_eq_true (show lo ≤ x ∧ x ≤ hi from ⟨h1, h2⟩)]
      go_enter Try.func21, Try.ntmps21
      go_wp2
      go_ret
      exact ⟨rfl, rfl⟩
    · rw [decide_eq_false (show ¬ (lo ≤ x ∧ x ≤ hi) from fun h => h2 h.2)]
      go_enter Try.func21, Try.ntmps21
      go_wp2
      go_ret
      exact ⟨rfl, rfl⟩
  · rw [decide_eq_false (show ¬ (lo ≤ x ∧ x ≤ hi) from fun h => h1 h.1)]
    go_enter Try.func21, Try.ntmps21
    go_wp2
    go_ret
    exact ⟨rfl, rfl⟩
theorem rh_is (no gen : Int) (b : Bool) (w : World) (h : Hid (hok no gen = b)) : Calls Try.prog 22 #[VH no gen] w fun e w' => e = .returned (.bool b) ∧ w' = w.alloc (BH no gen) := by
  by_cases h1 : 0 ≤ no ∧ no ≤ 255
  · have H1 : Hid (decide (0 ≤ no ∧ no ≤ 255) = true) := decide_eq_true h1
    have H2 : Hid (decide (0 ≤ gen ∧ gen ≤ 1099511627776) = b) := by
      show decide (0 ≤ gen ∧ gen ≤ 1099511627776) = b
      rw [← h.out]; unfold hok hokP; simp [h1]
    clear h h1
    go_enter Try.func22, Try.ntmps22
    go_wp2_with fail
    refine (within_is _ _ _ _ _ H1).mono ?_
    rintro e w' ⟨rfl, rfl⟩
    go_wp2_with fail
    refine (within_is _ _ _ _ _ H2).mono ?_
    rintro e w' ⟨rfl, rfl⟩
    go_wp2
    go_ret
    exact ⟨rfl, rfl⟩
  · have H1 : Hid (decide (0 ≤ no ∧ no ≤ 255) = false) := decide_eq_false h1
    have H2 : Hid (b = false) := by show b = false; rw [← h.out]; unfold hok hokP; exact decide_eq_false fun hh => h1 hh.1
    clear h h1
    go_enter Try.func22, Try.ntmps22
    go_wp2_with fail
    refine (within_is _ _ _ _ _ H1).mono ?_
    rintro e w' ⟨rfl, rfl⟩
    go_wp2
    go_ret
    rw [H2.out]
    exact ⟨rfl, rfl⟩
set_option maxHeartbeats 1000000 in
theorem rhandle_is (no gen : Int) (b : Bool) (w : World) (h : Hid (hok no gen = b)) : Calls Try.prog 23 #[VH no gen] w fun e w' => e = .returned (.bool b) ∧ w' = w.alloc (BH no gen) := by
  by_cases h1 : 0 ≤ no
  · by_cases h2 : no ≤ 255
    · by_cases h3 : 0 ≤ gen
      · by_cases h4 : gen ≤ 1099511627776
        all_goals
          have H : Hid (b = decide (gen ≤ 1099511627776)) := by show b = _; rw [← h.out]; unfold hok hokP; simp [h1, h2, h3]
          clear h
          go_enter Try.func23, Try.ntmps23
          go_wp2
          go_ret
          rw [H.out]
          simp [h4]
      · have H : Hid (b = false) := by show b = false; rw [← h.out]; unfold hok hokP; exact decide_eq_false fun hh => h3 hh.2.1
        clear h
        go_enter Try.func23, Try.ntmps23
        go_wp2
        go_ret
        rw [H.out]
        exact ⟨rfl, rfl⟩
    · have H : Hid (b = false) := by show b = false; rw [← h.out]; unfold hok hokP; exact decide_eq_false fun hh => h2 hh.1.2
      clear h
      go_enter Try.func23, Try.ntmps23
      go_wp2
      go_ret
      rw [H.out]
      exact ⟨rfl, rfl⟩
  · have H : Hid (b = false) := by show b = false; rw [← h.out]; unfold hok hokP; exact decide_eq_false fun hh => h1 hh.1.1
    clear h
    go_enter Try.func23, Try.ntmps23
    go_wp2
    go_ret
    rw [H.out]
    exact ⟨rfl, rfl⟩
set_option maxHeartbeats 4000000 in
theorem check_is (c : Cl) (w : World) (y : Int) (h : Hid ((if right c then (0 : Int) else 413) = y)) : Calls Try.prog 8 #[VC c] w fun e w' => e = .returned (.int .i64 y) ∧ Below w.heap.size w w' := by
  obtain ⟨k, no, gen, no2, gen2, nm, nm2, pl, n, data⟩ := c
  by_cases h0 : 1 ≤ k ∧ k ≤ 14
  case neg =>
    have HY : Hid (y = 413) := by
      have hr : right ⟨k, no, gen, no2, gen2, nm, nm2, pl, n, data⟩ = false := wrong_iff.2 fun hh => h0 hh.1
      show y = _
      rw [← h.out, hr]; rfl
    have H0 : Hid (decide (1 ≤ k ∧ k ≤ 14) = false) := decide_eq_false h0
    clear h0
    clear h
    go_enter Try.func8, Try.ntmps8
    go_wp2_with (first
    | (go_at_call 21; refine (within_is _ _ _ _ _ (by assumption)).mono ?_; rintro e w' ⟨rfl, rfl⟩)
    | (go_at_call 22; refine (rh_is _ _ _ _ (by assumption)).mono ?_; rintro e w' ⟨rfl, rfl⟩))
    go_ret
    rw [HY.out]
    exact ⟨rfl, by first | exact (Below.refl _ _).alloc (Nat.le_refl _) _ | exact ((Below.refl _ _).alloc (Nat.le_refl _) _).alloc (by simp) _ | exact (((Below.refl _ _).alloc (Nat.le_refl _) _).alloc (by simp) _).alloc (by simp; omega) _⟩
  case pos =>
    by_cases h1 : hokP no gen
    case neg =>
      have HY : Hid (y = 413) := by
        have hr : right ⟨k, no, gen, no2, gen2, nm, nm2, pl, n, data⟩ = false := wrong_iff.2 fun hh => h1 hh.2.1
        show y = _
        rw [← h.out, hr]; rfl
      have H0 : Hid (decide (1 ≤ k ∧ k ≤ 14) = true) := decide_eq_true h0
      clear h0
      have H1 : Hid (hok no gen = false) := decide_eq_false h1
      clear h1
      clear h
      go_enter Try.func8, Try.ntmps8
      go_wp2_with (first
    | (go_at_call 21; refine (within_is _ _ _ _ _ (by assumption)).mono ?_; rintro e w' ⟨rfl, rfl⟩)
    | (go_at_call 22; refine (rh_is _ _ _ _ (by assumption)).mono ?_; rintro e w' ⟨rfl, rfl⟩))
      go_ret
      rw [HY.out]
      exact ⟨rfl, by first | exact (Below.refl _ _).alloc (Nat.le_refl _) _ | exact ((Below.refl _ _).alloc (Nat.le_refl _) _).alloc (by simp) _ | exact (((Below.refl _ _).alloc (Nat.le_refl _) _).alloc (by simp) _).alloc (by simp; omega) _⟩
    case pos =>
      by_cases h2 : hokP no2 gen2
      case neg =>
        have HY : Hid (y = 413) := by
          have hr : right ⟨k, no, gen, no2, gen2, nm, nm2, pl, n, data⟩ = false := wrong_iff.2 fun hh => h2 hh.2.2.1
          show y = _
          rw [← h.out, hr]; rfl
        have H0 : Hid (decide (1 ≤ k ∧ k ≤ 14) = true) := decide_eq_true h0
        clear h0
        have H1 : Hid (hok no gen = true) := decide_eq_true h1
        clear h1
        have H2 : Hid (hok no2 gen2 = false) := decide_eq_false h2
        clear h2
        clear h
        go_enter Try.func8, Try.ntmps8
        go_wp2_with (first
    | (go_at_call 21; refine (within_is _ _ _ _ _ (by assumption)).mono ?_; rintro e w' ⟨rfl, rfl⟩)
    | (go_at_call 22; refine (rh_is _ _ _ _ (by assumption)).mono ?_; rintro e w' ⟨rfl, rfl⟩))
        go_ret
        rw [HY.out]
        exact ⟨rfl, by first | exact (Below.refl _ _).alloc (Nat.le_refl _) _ | exact ((Below.refl _ _).alloc (Nat.le_refl _) _).alloc (by simp) _ | exact (((Below.refl _ _).alloc (Nat.le_refl _) _).alloc (by simp) _).alloc (by simp; omega) _⟩
      case pos =>
        by_cases h3 : nm.size ≤ 255
        case neg =>
          have HY : Hid (y = 413) := by
            have hr : right ⟨k, no, gen, no2, gen2, nm, nm2, pl, n, data⟩ = false := wrong_iff.2 fun hh => h3 hh.2.2.2.1
            show y = _
            rw [← h.out, hr]; rfl
          have H0 : Hid (decide (1 ≤ k ∧ k ≤ 14) = true) := decide_eq_true h0
          clear h0
          have H1 : Hid (hok no gen = true) := decide_eq_true h1
          clear h1
          have H2 : Hid (hok no2 gen2 = true) := decide_eq_true h2
          clear h2
          have e3 : ¬ ((nm.size : Int) ≤ 255) := by omega
          clear h3
          clear h
          go_enter Try.func8, Try.ntmps8
          go_wp2_with (first
    | (go_at_call 21; refine (within_is _ _ _ _ _ (by assumption)).mono ?_; rintro e w' ⟨rfl, rfl⟩)
    | (go_at_call 22; refine (rh_is _ _ _ _ (by assumption)).mono ?_; rintro e w' ⟨rfl, rfl⟩))
          go_ret
          rw [HY.out]
          exact ⟨rfl, by first | exact (Below.refl _ _).alloc (Nat.le_refl _) _ | exact ((Below.refl _ _).alloc (Nat.le_refl _) _).alloc (by simp) _ | exact (((Below.refl _ _).alloc (Nat.le_refl _) _).alloc (by simp) _).alloc (by simp; omega) _⟩
        case pos =>
          by_cases h4 : nm2.size ≤ 255
          case neg =>
            have HY : Hid (y = 413) := by
              have hr : right ⟨k, no, gen, no2, gen2, nm, nm2, pl, n, data⟩ = false := wrong_iff.2 fun hh => h4 hh.2.2.2.2.1
              show y = _
              rw [← h.out, hr]; rfl
            have H0 : Hid (decide (1 ≤ k ∧ k ≤ 14) = true) := decide_eq_true h0
            clear h0
            have H1 : Hid (hok no gen = true) := decide_eq_true h1
            clear h1
            have H2 : Hid (hok no2 gen2 = true) := decide_eq_true h2
            clear h2
            have e3 : ((nm.size : Int) ≤ 255) := by omega
            clear h3
            have e4 : ¬ ((nm2.size : Int) ≤ 255) := by omega
            clear h4
            clear h
            go_enter Try.func8, Try.ntmps8
            go_wp2_with (first
    | (go_at_call 21; refine (within_is _ _ _ _ _ (by assumption)).mono ?_; rintro e w' ⟨rfl, rfl⟩)
    | (go_at_call 22; refine (rh_is _ _ _ _ (by assumption)).mono ?_; rintro e w' ⟨rfl, rfl⟩))
            go_ret
            rw [HY.out]
            exact ⟨rfl, by first | exact (Below.refl _ _).alloc (Nat.le_refl _) _ | exact ((Below.refl _ _).alloc (Nat.le_refl _) _).alloc (by simp) _ | exact (((Below.refl _ _).alloc (Nat.le_refl _) _).alloc (by simp) _).alloc (by simp; omega) _⟩
          case pos =>
            by_cases h5 : 0 ≤ pl ∧ pl ≤ 4294967295
            case neg =>
              have HY : Hid (y = 413) := by
                have hr : right ⟨k, no, gen, no2, gen2, nm, nm2, pl, n, data⟩ = false := wrong_iff.2 fun hh => h5 hh.2.2.2.2.2.1
                show y = _
                rw [← h.out, hr]; rfl
              have H0 : Hid (decide (1 ≤ k ∧ k ≤ 14) = true) := decide_eq_true h0
              clear h0
              have H1 : Hid (hok no gen = true) := decide_eq_true h1
              clear h1
              have H2 : Hid (hok no2 gen2 = true) := decide_eq_true h2
              clear h2
              have e3 : ((nm.size : Int) ≤ 255) := by omega
              clear h3
              have e4 : ((nm2.size : Int) ≤ 255) := by omega
              clear h4
              have H5 : Hid (decide (0 ≤ pl ∧ pl ≤ 4294967295) = false) := decide_eq_false h5
              clear h5
              clear h
              go_enter Try.func8, Try.ntmps8
              go_wp2_with (first
    | (go_at_call 21; refine (within_is _ _ _ _ _ (by assumption)).mono ?_; rintro e w' ⟨rfl, rfl⟩)
    | (go_at_call 22; refine (rh_is _ _ _ _ (by assumption)).mono ?_; rintro e w' ⟨rfl, rfl⟩))
              go_ret
              rw [HY.out]
              exact ⟨rfl, by first | exact (Below.refl _ _).alloc (Nat.le_refl _) _ | exact ((Below.refl _ _).alloc (Nat.le_refl _) _).alloc (by simp) _ | exact (((Below.refl _ _).alloc (Nat.le_refl _) _).alloc (by simp) _).alloc (by simp; omega) _⟩
            case pos =>
              by_cases h6 : 0 ≤ n ∧ n ≤ 65535
              case neg =>
                have HY : Hid (y = 413) := by
                  have hr : right ⟨k, no, gen, no2, gen2, nm, nm2, pl, n, data⟩ = false := wrong_iff.2 fun hh => h6 hh.2.2.2.2.2.2.1
                  show y = _
                  rw [← h.out, hr]; rfl
                have H0 : Hid (decide (1 ≤ k ∧ k ≤ 14) = true) := decide_eq_true h0
                clear h0
                have H1 : Hid (hok no gen = true) := decide_eq_true h1
                clear h1
                have H2 : Hid (hok no2 gen2 = true) := decide_eq_true h2
                clear h2
                have e3 : ((nm.size : Int) ≤ 255) := by omega
                clear h3
                have e4 : ((nm2.size : Int) ≤ 255) := by omega
                clear h4
                have H5 : Hid (decide (0 ≤ pl ∧ pl ≤ 4294967295) = true) := decide_eq_true h5
                clear h5
                have H6 : Hid (decide (0 ≤ n ∧ n ≤ 65535) = false) := decide_eq_false h6
                clear h6
                clear h
                go_enter Try.func8, Try.ntmps8
                go_wp2_with (first
    | (go_at_call 21; refine (within_is _ _ _ _ _ (by assumption)).mono ?_; rintro e w' ⟨rfl, rfl⟩)
    | (go_at_call 22; refine (rh_is _ _ _ _ (by assumption)).mono ?_; rintro e w' ⟨rfl, rfl⟩))
                go_ret
                rw [HY.out]
                exact ⟨rfl, by first | exact (Below.refl _ _).alloc (Nat.le_refl _) _ | exact ((Below.refl _ _).alloc (Nat.le_refl _) _).alloc (by simp) _ | exact (((Below.refl _ _).alloc (Nat.le_refl _) _).alloc (by simp) _).alloc (by simp; omega) _⟩
              case pos =>
                by_cases h7 : data.size ≤ 1024
                case neg =>
                  have HY : Hid (y = 413) := by
                    have hr : right ⟨k, no, gen, no2, gen2, nm, nm2, pl, n, data⟩ = false := wrong_iff.2 fun hh => h7 hh.2.2.2.2.2.2.2
                    show y = _
                    rw [← h.out, hr]; rfl
                  have H0 : Hid (decide (1 ≤ k ∧ k ≤ 14) = true) := decide_eq_true h0
                  clear h0
                  have H1 : Hid (hok no gen = true) := decide_eq_true h1
                  clear h1
                  have H2 : Hid (hok no2 gen2 = true) := decide_eq_true h2
                  clear h2
                  have e3 : ((nm.size : Int) ≤ 255) := by omega
                  clear h3
                  have e4 : ((nm2.size : Int) ≤ 255) := by omega
                  clear h4
                  have H5 : Hid (decide (0 ≤ pl ∧ pl ≤ 4294967295) = true) := decide_eq_true h5
                  clear h5
                  have H6 : Hid (decide (0 ≤ n ∧ n ≤ 65535) = true) := decide_eq_true h6
                  clear h6
                  have e7 : decide ((data.size : Int) ≤ 1024) = false := decide_eq_false (by omega)
                  clear h7
                  clear h
                  go_enter Try.func8, Try.ntmps8
                  go_wp2_with (first
    | (go_at_call 21; refine (within_is _ _ _ _ _ (by assumption)).mono ?_; rintro e w' ⟨rfl, rfl⟩)
    | (go_at_call 22; refine (rh_is _ _ _ _ (by assumption)).mono ?_; rintro e w' ⟨rfl, rfl⟩))
                  go_ret
                  rw [HY.out]
                  exact ⟨rfl, by first | exact (Below.refl _ _).alloc (Nat.le_refl _) _ | exact ((Below.refl _ _).alloc (Nat.le_refl _) _).alloc (by simp) _ | exact (((Below.refl _ _).alloc (Nat.le_refl _) _).alloc (by simp) _).alloc (by simp; omega) _⟩
                case pos =>
                  have HY : Hid (y = 0) := by
                    have hr : right ⟨k, no, gen, no2, gen2, nm, nm2, pl, n, data⟩ = true := right_iff.2 ⟨h0, h1, h2, h3, h4, h5, h6, h7⟩
                    show y = _
                    rw [← h.out, hr]; rfl
                  have H0 : Hid (decide (1 ≤ k ∧ k ≤ 14) = true) := decide_eq_true h0
                  clear h0
                  have H1 : Hid (hok no gen = true) := decide_eq_true h1
                  clear h1
                  have H2 : Hid (hok no2 gen2 = true) := decide_eq_true h2
                  clear h2
                  have e3 : ((nm.size : Int) ≤ 255) := by omega
                  clear h3
                  have e4 : ((nm2.size : Int) ≤ 255) := by omega
                  clear h4
                  have H5 : Hid (decide (0 ≤ pl ∧ pl ≤ 4294967295) = true) := decide_eq_true h5
                  clear h5
                  have H6 : Hid (decide (0 ≤ n ∧ n ≤ 65535) = true) := decide_eq_true h6
                  clear h6
                  have e7 : decide ((data.size : Int) ≤ 1024) = true := decide_eq_true (by omega)
                  clear h7
                  clear h
                  go_enter Try.func8, Try.ntmps8
                  go_wp2_with (first
    | (go_at_call 21; refine (within_is _ _ _ _ _ (by assumption)).mono ?_; rintro e w' ⟨rfl, rfl⟩)
    | (go_at_call 22; refine (rh_is _ _ _ _ (by assumption)).mono ?_; rintro e w' ⟨rfl, rfl⟩))
                  go_ret
                  rw [HY.out]
                  exact ⟨rfl, by first | exact (Below.refl _ _).alloc (Nat.le_refl _) _ | exact ((Below.refl _ _).alloc (Nat.le_refl _) _).alloc (by simp) _ | exact (((Below.refl _ _).alloc (Nat.le_refl _) _).alloc (by simp) _).alloc (by simp; omega) _⟩
set_option maxHeartbeats 4000000 in
theorem rright_is (c : Cl) (w : World) (y : Bool) (h : Hid (right c = y)) : Calls Try.prog 9 #[VC c] w fun e w' => e = .returned (.bool y) ∧ Below w.heap.size w w' := by
  obtain ⟨k, no, gen, no2, gen2, nm, nm2, pl, n, data⟩ := c
  by_cases h0 : 1 ≤ k
  case neg =>
    have HY : Hid (y = false) := by
      have hr : right ⟨k, no, gen, no2, gen2, nm, nm2, pl, n, data⟩ = false := wrong_iff.2 fun hh => h0 hh.1.1
      show y = _
      rw [← h.out, hr]
    clear h
    go_enter Try.func9, Try.ntmps9
    go_wp2_with (first
    | (go_at_call 23; refine (rhandle_is _ _ _ _ (by assumption)).mono ?_; rintro e w' ⟨rfl, rfl⟩))
    go_ret
    rw [HY.out]
    exact ⟨rfl, by first | exact (Below.refl _ _).alloc (Nat.le_refl _) _ | exact ((Below.refl _ _).alloc (Nat.le_refl _) _).alloc (by simp) _ | exact (((Below.refl _ _).alloc (Nat.le_refl _) _).alloc (by simp) _).alloc (by simp; omega) _⟩
  case pos =>
    by_cases h1 : k ≤ 14
    case neg =>
      have HY : Hid (y = false) := by
        have hr : right ⟨k, no, gen, no2, gen2, nm, nm2, pl, n, data⟩ = false := wrong_iff.2 fun hh => h1 hh.1.2
        show y = _
        rw [← h.out, hr]
      clear h
      go_enter Try.func9, Try.ntmps9
      go_wp2_with (first
    | (go_at_call 23; refine (rhandle_is _ _ _ _ (by assumption)).mono ?_; rintro e w' ⟨rfl, rfl⟩))
      go_ret
      rw [HY.out]
      exact ⟨rfl, by first | exact (Below.refl _ _).alloc (Nat.le_refl _) _ | exact ((Below.refl _ _).alloc (Nat.le_refl _) _).alloc (by simp) _ | exact (((Below.refl _ _).alloc (Nat.le_refl _) _).alloc (by simp) _).alloc (by simp; omega) _⟩
    case pos =>
      by_cases h2 : hokP no gen
      case neg =>
        have HY : Hid (y = false) := by
          have hr : right ⟨k, no, gen, no2, gen2, nm, nm2, pl, n, data⟩ = false := wrong_iff.2 fun hh => h2 hh.2.1
          show y = _
          rw [← h.out, hr]
        have H2 : Hid (hok no gen = false) := decide_eq_false h2
        clear h2
        clear h
        go_enter Try.func9, Try.ntmps9
        go_wp2_with (first
    | (go_at_call 23; refine (rhandle_is _ _ _ _ (by assumption)).mono ?_; rintro e w' ⟨rfl, rfl⟩))
        go_ret
        rw [HY.out]
        exact ⟨rfl, by first | exact (Below.refl _ _).alloc (Nat.le_refl _) _ | exact ((Below.refl _ _).alloc (Nat.le_refl _) _).alloc (by simp) _ | exact (((Below.refl _ _).alloc (Nat.le_refl _) _).alloc (by simp) _).alloc (by simp; omega) _⟩
      case pos =>
        by_cases h3 : hokP no2 gen2
        case neg =>
          have HY : Hid (y = false) := by
            have hr : right ⟨k, no, gen, no2, gen2, nm, nm2, pl, n, data⟩ = false := wrong_iff.2 fun hh => h3 hh.2.2.1
            show y = _
            rw [← h.out, hr]
          have H2 : Hid (hok no gen = true) := decide_eq_true h2
          clear h2
          have H3 : Hid (hok no2 gen2 = false) := decide_eq_false h3
          clear h3
          clear h
          go_enter Try.func9, Try.ntmps9
          go_wp2_with (first
    | (go_at_call 23; refine (rhandle_is _ _ _ _ (by assumption)).mono ?_; rintro e w' ⟨rfl, rfl⟩))
          go_ret
          rw [HY.out]
          exact ⟨rfl, by first | exact (Below.refl _ _).alloc (Nat.le_refl _) _ | exact ((Below.refl _ _).alloc (Nat.le_refl _) _).alloc (by simp) _ | exact (((Below.refl _ _).alloc (Nat.le_refl _) _).alloc (by simp) _).alloc (by simp; omega) _⟩
        case pos =>
          by_cases h4 : nm.size ≤ 255
          case neg =>
            have HY : Hid (y = false) := by
              have hr : right ⟨k, no, gen, no2, gen2, nm, nm2, pl, n, data⟩ = false := wrong_iff.2 fun hh => h4 hh.2.2.2.1
              show y = _
              rw [← h.out, hr]
            have H2 : Hid (hok no gen = true) := decide_eq_true h2
            clear h2
            have H3 : Hid (hok no2 gen2 = true) := decide_eq_true h3
            clear h3
            have e4 : ¬ ((nm.size : Int) ≤ 255) := by omega
            clear h4
            clear h
            go_enter Try.func9, Try.ntmps9
            go_wp2_with (first
    | (go_at_call 23; refine (rhandle_is _ _ _ _ (by assumption)).mono ?_; rintro e w' ⟨rfl, rfl⟩))
            go_ret
            rw [HY.out]
            exact ⟨rfl, by first | exact (Below.refl _ _).alloc (Nat.le_refl _) _ | exact ((Below.refl _ _).alloc (Nat.le_refl _) _).alloc (by simp) _ | exact (((Below.refl _ _).alloc (Nat.le_refl _) _).alloc (by simp) _).alloc (by simp; omega) _⟩
          case pos =>
            by_cases h5 : nm2.size ≤ 255
            case neg =>
              have HY : Hid (y = false) := by
                have hr : right ⟨k, no, gen, no2, gen2, nm, nm2, pl, n, data⟩ = false := wrong_iff.2 fun hh => h5 hh.2.2.2.2.1
                show y = _
                rw [← h.out, hr]
              have H2 : Hid (hok no gen = true) := decide_eq_true h2
              clear h2
              have H3 : Hid (hok no2 gen2 = true) := decide_eq_true h3
              clear h3
              have e4 : ((nm.size : Int) ≤ 255) := by omega
              clear h4
              have e5 : ¬ ((nm2.size : Int) ≤ 255) := by omega
              clear h5
              clear h
              go_enter Try.func9, Try.ntmps9
              go_wp2_with (first
    | (go_at_call 23; refine (rhandle_is _ _ _ _ (by assumption)).mono ?_; rintro e w' ⟨rfl, rfl⟩))
              go_ret
              rw [HY.out]
              exact ⟨rfl, by first | exact (Below.refl _ _).alloc (Nat.le_refl _) _ | exact ((Below.refl _ _).alloc (Nat.le_refl _) _).alloc (by simp) _ | exact (((Below.refl _ _).alloc (Nat.le_refl _) _).alloc (by simp) _).alloc (by simp; omega) _⟩
            case pos =>
              by_cases h6 : 0 ≤ pl
              case neg =>
                have HY : Hid (y = false) := by
                  have hr : right ⟨k, no, gen, no2, gen2, nm, nm2, pl, n, data⟩ = false := wrong_iff.2 fun hh => h6 hh.2.2.2.2.2.1.1
                  show y = _
                  rw [← h.out, hr]
                have H2 : Hid (hok no gen = true) := decide_eq_true h2
                clear h2
                have H3 : Hid (hok no2 gen2 = true) := decide_eq_true h3
                clear h3
                have e4 : ((nm.size : Int) ≤ 255) := by omega
                clear h4
                have e5 : ((nm2.size : Int) ≤ 255) := by omega
                clear h5
                clear h
                go_enter Try.func9, Try.ntmps9
                go_wp2_with (first
    | (go_at_call 23; refine (rhandle_is _ _ _ _ (by assumption)).mono ?_; rintro e w' ⟨rfl, rfl⟩))
                go_ret
                rw [HY.out]
                exact ⟨rfl, by first | exact (Below.refl _ _).alloc (Nat.le_refl _) _ | exact ((Below.refl _ _).alloc (Nat.le_refl _) _).alloc (by simp) _ | exact (((Below.refl _ _).alloc (Nat.le_refl _) _).alloc (by simp) _).alloc (by simp; omega) _⟩
              case pos =>
                by_cases h7 : pl < 4294967296
                case neg =>
                  have HY : Hid (y = false) := by
                    have hr : right ⟨k, no, gen, no2, gen2, nm, nm2, pl, n, data⟩ = false := wrong_iff.2 fun hh => h7 (by have := hh.2.2.2.2.2.1.2; simp only at this; omega)
                    show y = _
                    rw [← h.out, hr]
                  have H2 : Hid (hok no gen = true) := decide_eq_true h2
                  clear h2
                  have H3 : Hid (hok no2 gen2 = true) := decide_eq_true h3
                  clear h3
                  have e4 : ((nm.size : Int) ≤ 255) := by omega
                  clear h4
                  have e5 : ((nm2.size : Int) ≤ 255) := by omega
                  clear h5
                  clear h
                  go_enter Try.func9, Try.ntmps9
                  go_wp2_with (first
    | (go_at_call 23; refine (rhandle_is _ _ _ _ (by assumption)).mono ?_; rintro e w' ⟨rfl, rfl⟩))
                  go_ret
                  rw [HY.out]
                  exact ⟨rfl, by first | exact (Below.refl _ _).alloc (Nat.le_refl _) _ | exact ((Below.refl _ _).alloc (Nat.le_refl _) _).alloc (by simp) _ | exact (((Below.refl _ _).alloc (Nat.le_refl _) _).alloc (by simp) _).alloc (by simp; omega) _⟩
                case pos =>
                  by_cases h8 : 0 ≤ n
                  case neg =>
                    have HY : Hid (y = false) := by
                      have hr : right ⟨k, no, gen, no2, gen2, nm, nm2, pl, n, data⟩ = false := wrong_iff.2 fun hh => h8 hh.2.2.2.2.2.2.1.1
                      show y = _
                      rw [← h.out, hr]
                    have H2 : Hid (hok no gen = true) := decide_eq_true h2
                    clear h2
                    have H3 : Hid (hok no2 gen2 = true) := decide_eq_true h3
                    clear h3
                    have e4 : ((nm.size : Int) ≤ 255) := by omega
                    clear h4
                    have e5 : ((nm2.size : Int) ≤ 255) := by omega
                    clear h5
                    clear h
                    go_enter Try.func9, Try.ntmps9
                    go_wp2_with (first
    | (go_at_call 23; refine (rhandle_is _ _ _ _ (by assumption)).mono ?_; rintro e w' ⟨rfl, rfl⟩))
                    go_ret
                    rw [HY.out]
                    exact ⟨rfl, by first | exact (Below.refl _ _).alloc (Nat.le_refl _) _ | exact ((Below.refl _ _).alloc (Nat.le_refl _) _).alloc (by simp) _ | exact (((Below.refl _ _).alloc (Nat.le_refl _) _).alloc (by simp) _).alloc (by simp; omega) _⟩
                  case pos =>
                    by_cases h9 : n < 65536
                    case neg =>
                      have HY : Hid (y = false) := by
                        have hr : right ⟨k, no, gen, no2, gen2, nm, nm2, pl, n, data⟩ = false := wrong_iff.2 fun hh => h9 (by have := hh.2.2.2.2.2.2.1.2; simp only at this; omega)
                        show y = _
                        rw [← h.out, hr]
                      have H2 : Hid (hok no gen = true) := decide_eq_true h2
                      clear h2
                      have H3 : Hid (hok no2 gen2 = true) := decide_eq_true h3
                      clear h3
                      have e4 : ((nm.size : Int) ≤ 255) := by omega
                      clear h4
                      have e5 : ((nm2.size : Int) ≤ 255) := by omega
                      clear h5
                      clear h
                      go_enter Try.func9, Try.ntmps9
                      go_wp2_with (first
    | (go_at_call 23; refine (rhandle_is _ _ _ _ (by assumption)).mono ?_; rintro e w' ⟨rfl, rfl⟩))
                      go_ret
                      rw [HY.out]
                      exact ⟨rfl, by first | exact (Below.refl _ _).alloc (Nat.le_refl _) _ | exact ((Below.refl _ _).alloc (Nat.le_refl _) _).alloc (by simp) _ | exact (((Below.refl _ _).alloc (Nat.le_refl _) _).alloc (by simp) _).alloc (by simp; omega) _⟩
                    case pos =>
                      by_cases h10 : data.size ≤ 1024
                      case neg =>
                        have HY : Hid (y = false) := by
                          have hr : right ⟨k, no, gen, no2, gen2, nm, nm2, pl, n, data⟩ = false := wrong_iff.2 fun hh => h10 hh.2.2.2.2.2.2.2
                          show y = _
                          rw [← h.out, hr]
                        have H2 : Hid (hok no gen = true) := decide_eq_true h2
                        clear h2
                        have H3 : Hid (hok no2 gen2 = true) := decide_eq_true h3
                        clear h3
                        have e4 : ((nm.size : Int) ≤ 255) := by omega
                        clear h4
                        have e5 : ((nm2.size : Int) ≤ 255) := by omega
                        clear h5
                        have e10 : decide ((data.size : Int) ≤ 1024) = false := decide_eq_false (by omega)
                        clear h10
                        clear h
                        go_enter Try.func9, Try.ntmps9
                        go_wp2_with (first
    | (go_at_call 23; refine (rhandle_is _ _ _ _ (by assumption)).mono ?_; rintro e w' ⟨rfl, rfl⟩))
                        go_ret
                        rw [HY.out]
                        exact ⟨rfl, by first | exact (Below.refl _ _).alloc (Nat.le_refl _) _ | exact ((Below.refl _ _).alloc (Nat.le_refl _) _).alloc (by simp) _ | exact (((Below.refl _ _).alloc (Nat.le_refl _) _).alloc (by simp) _).alloc (by simp; omega) _⟩
                      case pos =>
                        have HY : Hid (y = true) := by
                          have hr : right ⟨k, no, gen, no2, gen2, nm, nm2, pl, n, data⟩ = true := right_iff.2 ⟨⟨h0, h1⟩, h2, h3, h4, h5, ⟨h6, (show pl ≤ 4294967295 by omega)⟩, ⟨h8, (show n ≤ 65535 by omega)⟩, h10⟩
                          show y = _
                          rw [← h.out, hr]
                        have H2 : Hid (hok no gen = true) := decide_eq_true h2
                        clear h2
                        have H3 : Hid (hok no2 gen2 = true) := decide_eq_true h3
                        clear h3
                        have e4 : ((nm.size : Int) ≤ 255) := by omega
                        clear h4
                        have e5 : ((nm2.size : Int) ≤ 255) := by omega
                        clear h5
                        have e10 : decide ((data.size : Int) ≤ 1024) = true := decide_eq_true (by omega)
                        clear h10
                        clear h
                        go_enter Try.func9, Try.ntmps9
                        go_wp2_with (first
    | (go_at_call 23; refine (rhandle_is _ _ _ _ (by assumption)).mono ?_; rintro e w' ⟨rfl, rfl⟩))
                        go_ret
                        rw [HY.out]
                        exact ⟨rfl, by first | exact (Below.refl _ _).alloc (Nat.le_refl _) _ | exact ((Below.refl _ _).alloc (Nat.le_refl _) _).alloc (by simp) _ | exact (((Below.refl _ _).alloc (Nat.le_refl _) _).alloc (by simp) _).alloc (by simp; omega) _⟩
end Go.Proofs.Ytfdajcakmbpicaa
