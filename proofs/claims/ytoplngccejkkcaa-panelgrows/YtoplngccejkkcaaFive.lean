/-
  panel's Reached at whatever numbers; and the five nodes that every statement asks.
-/
import Derived.Test.YtoplngccejkkcaaReach
namespace Go.Proofs.Ytoplngccejkkcaa
open Go.RowKit Go.Shelf Go.Sort

theorem reached_no {n : Int} (v : Value) (w : World) (h : Pn.No n) : Calls Try.prog 21 #[.int .i64 n, v] w fun e w' => e = .returned (.tuple #[.int .i64 0, .int .i64 1]) ∧ w' = w := by
  have H : Hid (Pn.No n) := h
  clear h
  go_enter Try.func21, Try.ntmps21
  go_wp2_with fail
  refine (isPanel_no _ H.out).mono ?_
  rintro e w' ⟨rfl, rfl⟩
  go_wp2
  go_ret2
  exact ⟨rfl, rfl⟩
theorem reached_len {n f : Int} (ao : Option Addr) (m cap : Nat) (w : World) (h : Pn.Is n f) (hm : ¬ (m : Int) = n) : Calls Try.prog 21 #[.int .i64 n, .slice ao m cap] w fun e w' => e = .returned (.tuple #[.int .i64 0, .int .i64 1]) ∧ w' = w := by
  have H : Hid (Pn.Is n f) := h
  clear h
  go_enter Try.func21, Try.ntmps21
  go_wp2_with fail
  refine (isPanel_yes _ H.out).mono ?_
  rintro e w' ⟨rfl, rfl⟩
  go_wp2
  go_ret2
  exact ⟨rfl, rfl⟩
theorem Pn.Is.nat {n f : Int} (h : Pn.Is n f) : ∃ k : Nat, f = k ∧ n = ((2 * k + 1 : Nat) : Int) ∧ k ≤ 3 := by
  rcases h with ⟨rfl, rfl⟩ | ⟨rfl, rfl⟩ | ⟨rfl, rfl⟩ | ⟨rfl, rfl⟩
  · exact ⟨0, rfl, rfl, by omega⟩
  · exact ⟨1, rfl, rfl, by omega⟩
  · exact ⟨2, rfl, rfl, by omega⟩
  · exact ⟨3, rfl, rfl, by omega⟩
set_option maxHeartbeats 400000 in
theorem reached_arg {f : Int} (b off cap : Nat) (l : List Int) (w : World) (h : Pn.Is (l.length : Int) f) (hc : ∀ j, j < l.length → w.cell? ⟨b, off + j, none⟩ = some (.int .i64 (l.getD j 0))) (ha : (l.any fun x => !Pn.fit x) = true) :
    Calls Try.prog 21 #[.int .i64 (l.length : Int), .slice (some ⟨b, off, none⟩) l.length cap] w fun e w' => e = .returned (.tuple #[.int .i64 0, .int .i64 1]) ∧ ∃ q, w' = w.drewN q := by
  obtain ⟨k, hf, hn, hk⟩ := h.nat
  have H : Hid (Pn.Is (l.length : Int) f) := h
  have HC := has_any b off cap l w hc (by unfold maxLen; omega)
  rw [ha] at HC
  have HC' : Hid _ := HC
  generalize l.length = m at *
  clear h hc ha hn hf hk HC
  go_enter Try.func21, Try.ntmps21
  go_wp2_with fail
  refine (isPanel_yes _ H.out).mono ?_
  rintro e w' ⟨rfl, rfl⟩
  go_wp2_with fail
  refine Calls.mono HC'.out ?_
  rintro e w' ⟨rfl, q, rfl⟩
  go_wp2
  go_ret2
  exact ⟨rfl, q, rfl⟩
set_option maxHeartbeats 400000 in
theorem reached_ok {f : Int} (b off cap : Nat) (l : List Int) (w : World) (h : Pn.Is (l.length : Int) f) (hB : b < w.heap.size) (hc : ∀ j, j < l.length → w.cell? ⟨b, off + j, none⟩ = some (.int .i64 (l.getD j 0))) (ha : (l.any fun x => !Pn.fit x) = false) :
    Calls Try.prog 21 #[.int .i64 (l.length : Int), .slice (some ⟨b, off, none⟩) l.length cap] w fun e w' => e = .returned (.tuple #[.int .i64 (Pn.med l f.toNat), .int .i64 0]) ∧ Below w.heap.size w w' := by
  obtain ⟨k, rfl, hn, hk⟩ := h.nat
  have hm : l.length = 2 * k + 1 := by omega
  have H : Hid (Pn.Is (l.length : Int) k) := h
  have HC := has_any b off cap l w hc (by unfold maxLen; omega)
  rw [ha] at HC
  have HC' : Hid _ := HC
  have HX : Hid (b < w.heap.size ∧ l.length = 2 * k + 1 ∧ k ≤ 3 ∧ ∀ j, j < l.length → w.cell? ⟨b, off + j, none⟩ = some (.int .i64 (l.getD j 0))) := ⟨hB, hm, hk, hc⟩
  have i0 : (0 : Int) ≤ (l.length : Int) - ((k : Int) + 1) := by omega
  have i1 : (l.length : Int) - ((k : Int) + 1) < (l.length : Int) := by omega
  have i2 : (k : Int) ≤ 3 := by omega
  have i3 : (l.length : Int) ≤ 7 := by omega
  clear h hc ha hn hk HC hB hm
  go_enter Try.func21, Try.ntmps21
  go_wp2_with fail
  refine (isPanel_yes _ H.out).mono ?_
  rintro e w' ⟨rfl, rfl⟩
  go_wp2_with fail
  refine Calls.mono HC'.out ?_
  rintro e w1 ⟨rfl, q, rfl⟩
  go_wp2_with fail
  refine (clone_any b off cap l (w'.drewN q) (fun j hj => HX.out.2.2.2 j hj) (by have := HX.out; omega)).mono ?_
  rintro e w2 ⟨v', rfl, hown, hnn, hb2⟩
  rcases hown.2 with ⟨hv, _⟩ | ⟨g, cap', cur, rfl, hbg, hg, hnc, hcm, hcs, htake⟩
  · exact absurd hv hnn
  have HO : Hid _ := hown
  have HB2 : Hid (Below w'.heap.size w' w2) := (Go.below_drewN (Below.refl _ w') q).trans hb2
  have HG : Hid (w'.heap.size ≤ g) := hbg
  clear hown hnn hb2 hg hnc hcm hcs htake hbg
  go_wp2_with fail
  refine (sort_any g cap' l _ _ HO.out (by have := HX.out; omega)).mono ?_
  rintro e w3 ⟨rfl, hown, hg⟩
  have HB3 : Hid (Below w'.heap.size w' w3) := HB2.out.trans ((Below.refl _ w2).grown hg HB2.out.size (fun k hk => by cases hk; exact HG.out))
  have hcell : w3.cell? ⟨g, l.length - (k + 1), none⟩ = some (.int .i64 (Pn.med l k)) := by
    have hl : (l.mergeSort fun x y => decide (x ≤ y)).length = l.length := by simp
    have hlt : k < (l.mergeSort fun x y => decide (x ≤ y)).length := by have := HX.out; omega
    have := hown.cells (g := g) rfl k (.int .i64 (Pn.med l k)) (by
      rw [List.getElem?_map, List.getElem?_eq_getElem hlt]
      unfold Pn.med
      rw [List.getD_eq_getElem?_getD, List.getElem?_eq_getElem hlt]
      rfl)
    rw [WideShapes.add_plain, Nat.zero_add] at this
    rw [show l.length - (k + 1) = k from by have := HX.out; omega]
    exact this
  clear hg hown HB2 HO
  go_wp2_with fail
  refine (replicas_any _ H.out).mono ?_
  rintro e w4 ⟨rfl, rfl⟩
  go_wp2
  go_ret2
  exact ⟨rfl, HB3.out⟩
theorem lits5 (w : World) (a b c d f : Int) : ∀ j, j < [a, b, c, d, f].length → (w.alloc (.cells #[.int .i64 a, .int .i64 b, .int .i64 c, .int .i64 d, .int .i64 f] 3)).cell? ⟨w.heap.size, 0 + j, none⟩ = some (.int .i64 ([a, b, c, d, f].getD j 0)) := by
  intro j hj
  have hj' : j < 5 := by simpa using hj
  match j, hj' with
  | 0, _ => simp
  | 1, _ => simp
  | 2, _ => simp
  | 3, _ => simp
  | 4, _ => simp
theorem reached_five (w : World) : Calls Try.prog 21 #[.int .i64 5, .slice (some ⟨w.heap.size, 0, none⟩) 5 5] (w.alloc (.cells #[.int .i64 4, .int .i64 9, .int .i64 2, .int .i64 7, .int .i64 1] 3)) fun e w' => e = .returned (.tuple #[.int .i64 4, .int .i64 0]) ∧ Below w.heap.size w w' := by
  have h := reached_ok (f := 2) w.heap.size 0 5 [4, 9, 2, 7, 1] (w.alloc (.cells #[.int .i64 4, .int .i64 9, .int .i64 2, .int .i64 7, .int .i64 1] 3)) (.inr (.inr (.inl ⟨rfl, rfl⟩))) (by simp) (lits5 w 4 9 2 7 1) (by decide)
  rw [show Pn.med [4, 9, 2, 7, 1] (2 : Int).toNat = 4 from Pn.med_five] at h
  refine Calls.mono h ?_
  rintro e w' ⟨he, hb⟩
  exact ⟨he, ((Below.refl _ w).alloc (Nat.le_refl _) _).trans (hb.mono (by simp))⟩
theorem five_any (w : World) : Calls Try.prog 15 #[] w fun e w' => e = .returned (.bool true) ∧ Below w.heap.size w w' := by
  go_enter Try.func15, Try.ntmps15
  go_wp2_with fail
  refine (faults_yes (n := 5) (f := 2) _ (.inr (.inr (.inl ⟨rfl, rfl⟩)))).mono ?_
  rintro e w' ⟨rfl, rfl⟩
  go_wp2_with fail
  refine (primary_yes (n := 5) (f := 2) 4 _ (.inr (.inr (.inl ⟨rfl, rfl⟩))) (by decide) (by decide)).mono ?_
  rintro e w' ⟨rfl, rfl⟩
  go_wp2_with fail
  refine (reached_five _).mono ?_
  rintro e w2 ⟨rfl, hb⟩
  have HB : Hid (Below w'.heap.size w' w2) := hb
  clear hb
  go_wp2
  go_ret
  exact ⟨rfl, HB.out⟩
end Go.Proofs.Ytoplngccejkkcaa
