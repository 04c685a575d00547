/-
  ask's number, handle, with: what they answer.
-/
import Derived.Test.YtfdajcakmbpicaaKBase
import Derived.Test.YtfdajcakmbpicaaKBackP
import Derived.Test.YtfdajcakmbpicaaNumber
namespace Go.Proofs.Ytfdajcakmbpicaa
open Go.ChangeShapes Go.WideShapes Go.ChangeAt Go.RowKit Go.Deep
open Ak

theorem number_s (s : ByteArray) (w : World) (hs : s.size ≤ maxLen) : Calls Try.prog 35 #[.string s] w fun e w' => e = .returned (.int .i64 (Pl.numVal s)) ∧ w' = w := by
  have HS : Hid (s.size ≤ maxLen) := hs
  clear hs
  go_enter Try.func35, Try.ntmps35
  go_wp2_with fail
  refine (number_any s _ HS.out).mono ?_
  rintro e w1 ⟨rfl, rfl⟩
  go_wp2
  go_ret
  exact ⟨rfl, rfl⟩
set_option maxHeartbeats 1000000 in
theorem handle_any (S : ByteArray) (w : World) : Calls Try.prog 36 #[.string S] w fun e w' => e = .returned (VH (hno S) (hgen S)) ∧ Below w.heap.size w w' := by
  by_cases h7 : S.size = 7
  · have HE : Hid ((S.extract 0 1).size ≤ maxLen ∧ (S.extract 1 7).size ≤ maxLen) := ⟨by rw [ByteArray.size_extract]; unfold maxLen; omega, by rw [ByteArray.size_extract]; unfold maxLen; omega⟩
    have HU : Hid (hno S = Pl.numVal (S.extract 0 1) ∧ hgen S = Pl.numVal (S.extract 1 7)) := ⟨by unfold hno; rw [if_pos h7], by unfold hgen; rw [if_pos h7]⟩
    go_enter Try.func36, Try.ntmps36
    go_wp2
    go_region_held3 (fun _ => True) (trivial) (first
      | (go_at_call_of 35 (Value.string (S.extract 0 1)); refine (number_s _ _ HE.out.1).mono ?_; rintro e w1 ⟨rfl, rfl⟩)
      | (go_at_call_of 35 (Value.string (S.extract 1 7)); refine (number_s _ _ HE.out.2).mono ?_; rintro e w1 ⟨rfl, rfl⟩))
    all_goals
      generalize Pl.numVal (S.extract 0 1) = k at HU ⊢
      generalize Pl.numVal (S.extract 1 7) = l at HU ⊢
      go_wp2
      refine bodyPost_ret (v := VH k l) (by simp [results, Try.results36, go_sem]) rfl ⟨?_, ?_⟩
      · rw [HU.out.1, HU.out.2]
      · first | exact ((Below.refl _ _).alloc (Nat.le_refl _) _).drew | exact ((Below.refl _ _).drew).alloc (Nat.le_refl _) _
  · have H : Hid (hno S = 0 ∧ hgen S = 0) := ⟨by unfold hno; rw [if_neg h7], by unfold hgen; rw [if_neg h7]⟩
    have h7' : ((S.size : Int) != 7) = true := by simp; omega
    clear h7
    rw [H.out.1, H.out.2]
    go_enter Try.func36, Try.ntmps36
    go_wp2
    exact bodyPost_ret (v := VH 0 0) (by simp [results, Try.results36, go_sem]) rfl ⟨rfl, (Below.refl _ _).alloc (Nat.le_refl _) _⟩
abbrev VX (t : Int) (s : ByteArray) : Value := .agg #[.int .i64 t, .string s]
abbrev BX (t : Int) (s : ByteArray) : Obj := .cells #[.int .i64 t, .string s] 57
set_option maxHeartbeats 1000000 in
theorem with_1 (c : Cl) (s : ByteArray) (w : World) (hs : s.size ≤ maxLen) : Calls Try.prog 25 #[VC c, VX 1 s] w fun e w' => e = .returned (VC { c with k := Pl.numVal s }) ∧ Below w.heap.size w w' := by
  have HS : Hid (s.size ≤ maxLen) := hs
  clear hs
  obtain ⟨k, no, gen, no2, gen2, nm, nm2, pl, n, data⟩ := c
  go_enter Try.func25, Try.ntmps25
  go_wp2_with fail
  refine (number_s s _ HS.out).mono ?_
  rintro e w1 ⟨rfl, rfl⟩
  go_wp2
  refine bodyPost_ret (v := VC ⟨Pl.numVal s, no, gen, no2, gen2, nm, nm2, pl, n, data⟩) (by simp [results, Try.results25, go_sem]) rfl ⟨rfl, ?_⟩
  exact ((Below.refl _ _).alloc (Nat.le_refl _) _).alloc (by simp) _ |>.alloc (by simp; omega) _
set_option maxHeartbeats 1000000 in
theorem with_6 (c : Cl) (s : ByteArray) (w : World) (hs : s.size ≤ maxLen) : Calls Try.prog 25 #[VC c, VX 6 s] w fun e w' => e = .returned (VC { c with pl := Pl.numVal s }) ∧ Below w.heap.size w w' := by
  have HS : Hid (s.size ≤ maxLen) := hs
  clear hs
  obtain ⟨k, no, gen, no2, gen2, nm, nm2, pl, n, data⟩ := c
  go_enter Try.func25, Try.ntmps25
  go_wp2_with fail
  refine (number_s s _ HS.out).mono ?_
  rintro e w1 ⟨rfl, rfl⟩
  go_wp2
  refine bodyPost_ret (v := VC ⟨k, no, gen, no2, gen2, nm, nm2, Pl.numVal s, n, data⟩) (by simp [results, Try.results25, go_sem]) rfl ⟨rfl, ?_⟩
  exact ((Below.refl _ _).alloc (Nat.le_refl _) _).alloc (by simp) _ |>.alloc (by simp; omega) _
set_option maxHeartbeats 1000000 in
theorem with_7 (c : Cl) (s : ByteArray) (w : World) (hs : s.size ≤ maxLen) : Calls Try.prog 25 #[VC c, VX 7 s] w fun e w' => e = .returned (VC { c with n := Pl.numVal s }) ∧ Below w.heap.size w w' := by
  have HS : Hid (s.size ≤ maxLen) := hs
  clear hs
  obtain ⟨k, no, gen, no2, gen2, nm, nm2, pl, n, data⟩ := c
  go_enter Try.func25, Try.ntmps25
  go_wp2_with fail
  refine (number_s s _ HS.out).mono ?_
  rintro e w1 ⟨rfl, rfl⟩
  go_wp2
  refine bodyPost_ret (v := VC ⟨k, no, gen, no2, gen2, nm, nm2, pl, Pl.numVal s, data⟩) (by simp [results, Try.results25, go_sem]) rfl ⟨rfl, ?_⟩
  exact ((Below.refl _ _).alloc (Nat.le_refl _) _).alloc (by simp) _ |>.alloc (by simp; omega) _
set_option maxHeartbeats 1000000 in
theorem with_4 (c : Cl) (s : ByteArray) (w : World) : Calls Try.prog 25 #[VC c, VX 4 s] w fun e w' => e = .returned (VC { c with nm := s }) ∧ Below w.heap.size w w' := by
  obtain ⟨k, no, gen, no2, gen2, nm, nm2, pl, n, data⟩ := c
  go_enter Try.func25, Try.ntmps25
  go_wp2
  refine bodyPost_ret (v := VC ⟨k, no, gen, no2, gen2, s, nm2, pl, n, data⟩) (by simp [results, Try.results25, go_sem]) rfl ⟨rfl, ?_⟩
  exact ((Below.refl _ _).alloc (Nat.le_refl _) _).alloc (by simp) _ |>.alloc (by simp; omega) _
set_option maxHeartbeats 1000000 in
theorem with_5 (c : Cl) (s : ByteArray) (w : World) : Calls Try.prog 25 #[VC c, VX 5 s] w fun e w' => e = .returned (VC { c with nm2 := s }) ∧ Below w.heap.size w w' := by
  obtain ⟨k, no, gen, no2, gen2, nm, nm2, pl, n, data⟩ := c
  go_enter Try.func25, Try.ntmps25
  go_wp2
  refine bodyPost_ret (v := VC ⟨k, no, gen, no2, gen2, nm, s, pl, n, data⟩) (by simp [results, Try.results25, go_sem]) rfl ⟨rfl, ?_⟩
  exact ((Below.refl _ _).alloc (Nat.le_refl _) _).alloc (by simp) _ |>.alloc (by simp; omega) _
set_option maxHeartbeats 1000000 in
theorem with_8 (c : Cl) (s : ByteArray) (w : World) : Calls Try.prog 25 #[VC c, VX 8 s] w fun e w' => e = .returned (VC { c with data := s }) ∧ Below w.heap.size w w' := by
  obtain ⟨k, no, gen, no2, gen2, nm, nm2, pl, n, data⟩ := c
  go_enter Try.func25, Try.ntmps25
  go_wp2
  refine bodyPost_ret (v := VC ⟨k, no, gen, no2, gen2, nm, nm2, pl, n, s⟩) (by simp [results, Try.results25, go_sem]) rfl ⟨rfl, ?_⟩
  exact ((Below.refl _ _).alloc (Nat.le_refl _) _).alloc (by simp) _ |>.alloc (by simp; omega) _
set_option maxHeartbeats 1000000 in
theorem with_2 (c : Cl) (s : ByteArray) (w : World) : Calls Try.prog 25 #[VC c, VX 2 s] w fun e w' => e = .returned (VC { c with no := hno s, gen := hgen s }) ∧ Below w.heap.size w w' := by
  obtain ⟨k, no, gen, no2, gen2, nm, nm2, pl, n, data⟩ := c
  obtain ⟨y1, hy1⟩ : ∃ y, hno s = y := ⟨_, rfl⟩
  obtain ⟨y2, hy2⟩ : ∃ y, hgen s = y := ⟨_, rfl⟩
  have HY : Hid (hno s = y1 ∧ hgen s = y2) := ⟨hy1, hy2⟩
  rw [hy1, hy2]
  clear hy1 hy2
  go_enter Try.func25, Try.ntmps25
  go_wp2_with fail
  refine (handle_any s _).mono ?_
  rintro e w1 ⟨rfl, hb1⟩
  rw [HY.out.1, HY.out.2]
  have HA : Hid (w1.heap[w.heap.size]? = some (BC ⟨k, no, gen, no2, gen2, nm, nm2, pl, n, data⟩)) := (hb1.block _ (by simp; omega)).trans ((Below.heap_alloc _ _ _ (by simp; omega)).trans ((Below.heap_alloc _ _ _ (by simp)).trans (heap_alloc_new w _)))
  have HD : Hid (w1.heap[w.heap.size + 1 + 1]? = some (BC Ak.zero)) := (hb1.block _ (by simp)).trans (by have := heap_alloc_new ((w.alloc (BC ⟨k, no, gen, no2, gen2, nm, nm2, pl, n, data⟩)).alloc (BX 2 s)) (BC Ak.zero); rw [World.size_alloc, World.size_alloc] at this; exact this)
  have HB : Hid (Below w.heap.size w w1) := (((Below.refl _ _).alloc (Nat.le_refl _) _).alloc (by simp) _ |>.alloc (by simp; omega) _).trans (hb1.mono (by simp; omega))
  obtain ⟨c0, c1, c2, c3, c4, c5, c6, c7, c8, c9⟩ := ten_of HA.out
  obtain ⟨d0, d1, d2, d3, d4, d5, d6, d7, d8, d9⟩ := ten_of HD.out
  have la := block_lt HA.out
  have ld := block_lt HD.out
  have fa : ∀ j, w1.frozen? ⟨w.heap.size, j, none⟩ = false := fun j => by simp [World.frozen?, HA.out]
  have fd : ∀ j, w1.frozen? ⟨w.heap.size + 1 + 1, j, none⟩ = false := fun j => by simp [World.frozen?, HD.out]
  clear hb1
  go_wp2
  refine bodyPost_ret (v := VC ⟨k, y1, y2, no2, gen2, nm, nm2, pl, n, data⟩) (by simp [results, Try.results25, go_sem, d0, d1, d2, d3, d4, d5, d6, d7, d8, d9]) rfl ⟨rfl, ?_⟩
  exact ((((((((((((HB.out.setCell (p := ⟨w.heap.size, 1, none⟩) (Nat.le_refl _) _).setCell (p := ⟨w.heap.size, 2, none⟩) (Nat.le_refl _) _).setCell (p := ⟨w.heap.size + 1 + 1, 0, none⟩) (by simp; omega) _).setCell (p := ⟨w.heap.size + 1 + 1, 1, none⟩) (by simp; omega) _).setCell (p := ⟨w.heap.size + 1 + 1, 2, none⟩) (by simp; omega) _).setCell (p := ⟨w.heap.size + 1 + 1, 3, none⟩) (by simp; omega) _).setCell (p := ⟨w.heap.size + 1 + 1, 4, none⟩) (by simp; omega) _).setCell (p := ⟨w.heap.size + 1 + 1, 5, none⟩) (by simp; omega) _).setCell (p := ⟨w.heap.size + 1 + 1, 6, none⟩) (by simp; omega) _).setCell (p := ⟨w.heap.size + 1 + 1, 7, none⟩) (by simp; omega) _).setCell (p := ⟨w.heap.size + 1 + 1, 8, none⟩) (by simp; omega) _).setCell (p := ⟨w.heap.size + 1 + 1, 9, none⟩) (by simp; omega) _)
set_option maxHeartbeats 1000000 in
theorem with_3 (c : Cl) (s : ByteArray) (w : World) : Calls Try.prog 25 #[VC c, VX 3 s] w fun e w' => e = .returned (VC { c with no2 := hno s, gen2 := hgen s }) ∧ Below w.heap.size w w' := by
  obtain ⟨k, no, gen, no2, gen2, nm, nm2, pl, n, data⟩ := c
  obtain ⟨y1, hy1⟩ : ∃ y, hno s = y := ⟨_, rfl⟩
  obtain ⟨y2, hy2⟩ : ∃ y, hgen s = y := ⟨_, rfl⟩
  have HY : Hid (hno s = y1 ∧ hgen s = y2) := ⟨hy1, hy2⟩
  rw [hy1, hy2]
  clear hy1 hy2
  go_enter Try.func25, Try.ntmps25
  go_wp2_with fail
  refine (handle_any s _).mono ?_
  rintro e w1 ⟨rfl, hb1⟩
  rw [HY.out.1, HY.out.2]
  have HA : Hid (w1.heap[w.heap.size]? = some (BC ⟨k, no, gen, no2, gen2, nm, nm2, pl, n, data⟩)) := (hb1.block _ (by simp; omega)).trans ((Below.heap_alloc _ _ _ (by simp; omega)).trans ((Below.heap_alloc _ _ _ (by simp)).trans (heap_alloc_new w _)))
  have HD : Hid (w1.heap[w.heap.size + 1 + 1]? = some (BC Ak.zero)) := (hb1.block _ (by simp)).trans (by have := heap_alloc_new ((w.alloc (BC ⟨k, no, gen, no2, gen2, nm, nm2, pl, n, data⟩)).alloc (BX 3 s)) (BC Ak.zero); rw [World.size_alloc, World.size_alloc] at this; exact this)
  have HB : Hid (Below w.heap.size w w1) := (((Below.refl _ _).alloc (Nat.le_refl _) _).alloc (by simp) _ |>.alloc (by simp; omega) _).trans (hb1.mono (by simp; omega))
  obtain ⟨c0, c1, c2, c3, c4, c5, c6, c7, c8, c9⟩ := ten_of HA.out
  obtain ⟨d0, d1, d2, d3, d4, d5, d6, d7, d8, d9⟩ := ten_of HD.out
  have la := block_lt HA.out
  have ld := block_lt HD.out
  have fa : ∀ j, w1.frozen? ⟨w.heap.size, j, none⟩ = false := fun j => by simp [World.frozen?, HA.out]
  have fd : ∀ j, w1.frozen? ⟨w.heap.size + 1 + 1, j, none⟩ = false := fun j => by simp [World.frozen?, HD.out]
  clear hb1
  go_wp2
  refine bodyPost_ret (v := VC ⟨k, no, gen, y1, y2, nm, nm2, pl, n, data⟩) (by simp [results, Try.results25, go_sem, d0, d1, d2, d3, d4, d5, d6, d7, d8, d9]) rfl ⟨rfl, ?_⟩
  exact ((((((((((((HB.out.setCell (p := ⟨w.heap.size, 3, none⟩) (Nat.le_refl _) _).setCell (p := ⟨w.heap.size, 4, none⟩) (Nat.le_refl _) _).setCell (p := ⟨w.heap.size + 1 + 1, 0, none⟩) (by simp; omega) _).setCell (p := ⟨w.heap.size + 1 + 1, 1, none⟩) (by simp; omega) _).setCell (p := ⟨w.heap.size + 1 + 1, 2, none⟩) (by simp; omega) _).setCell (p := ⟨w.heap.size + 1 + 1, 3, none⟩) (by simp; omega) _).setCell (p := ⟨w.heap.size + 1 + 1, 4, none⟩) (by simp; omega) _).setCell (p := ⟨w.heap.size + 1 + 1, 5, none⟩) (by simp; omega) _).setCell (p := ⟨w.heap.size + 1 + 1, 6, none⟩) (by simp; omega) _).setCell (p := ⟨w.heap.size + 1 + 1, 7, none⟩) (by simp; omega) _).setCell (p := ⟨w.heap.size + 1 + 1, 8, none⟩) (by simp; omega) _).setCell (p := ⟨w.heap.size + 1 + 1, 9, none⟩) (by simp; omega) _)
set_option maxHeartbeats 1000000 in
theorem with_0 (c : Cl) (t : Int) (s : ByteArray) (w : World) (h1 : t ≠ 1) (h2 : t ≠ 2) (h3 : t ≠ 3) (h4 : t ≠ 4) (h5 : t ≠ 5) (h6 : t ≠ 6) (h7 : t ≠ 7) (h8 : t ≠ 8) : Calls Try.prog 25 #[VC c, VX t s] w fun e w' => e = .returned (VC c) ∧ Below w.heap.size w w' := by
  obtain ⟨k, no, gen, no2, gen2, nm, nm2, pl, n, data⟩ := c
  have e1 : (t == 1) = false := by simpa using h1
  have e2 : (t == 2) = false := by simpa using h2
  have e3 : (t == 3) = false := by simpa using h3
  have e4 : (t == 4) = false := by simpa using h4
  have e5 : (t == 5) = false := by simpa using h5
  have e6 : (t == 6) = false := by simpa using h6
  have e7 : (t == 7) = false := by simpa using h7
  have e8 : (t == 8) = false := by simpa using h8
  clear h1 h2 h3 h4 h5 h6 h7 h8
  go_enter Try.func25, Try.ntmps25
  go_wp2
  refine bodyPost_ret (v := VC ⟨k, no, gen, no2, gen2, nm, nm2, pl, n, data⟩) (by simp [results, Try.results25, go_sem]) rfl ⟨rfl, ?_⟩
  exact ((Below.refl _ _).alloc (Nat.le_refl _) _).alloc (by simp) _ |>.alloc (by simp; omega) _
theorem with_any (c : Cl) (t : Int) (s : ByteArray) (w : World) (hs : s.size ≤ maxLen) : Calls Try.prog 25 #[VC c, VX t s] w fun e w' => e = .returned (VC (withF c (t, s))) ∧ Below w.heap.size w w' := by
  unfold withF
  simp only
  by_cases h1 : t = 1
  · subst h1
    exact with_1 c s w hs
  by_cases h2 : t = 2
  · subst h2
    exact with_2 c s w
  by_cases h3 : t = 3
  · subst h3
    exact with_3 c s w
  by_cases h4 : t = 4
  · subst h4
    exact with_4 c s w
  by_cases h5 : t = 5
  · subst h5
    exact with_5 c s w
  by_cases h6 : t = 6
  · subst h6
    exact with_6 c s w hs
  by_cases h7 : t = 7
  · subst h7
    exact with_7 c s w hs
  by_cases h8 : t = 8
  · subst h8
    exact with_8 c s w
  rw [if_neg h1, if_neg h2, if_neg h3, if_neg h4, if_neg h5, if_neg h6, if_neg h7, if_neg h8]
  exact with_0 c t s w h1 h2 h3 h4 h5 h6 h7 h8
end Go.Proofs.Ytfdajcakmbpicaa
