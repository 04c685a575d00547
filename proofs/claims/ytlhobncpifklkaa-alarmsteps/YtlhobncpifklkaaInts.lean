/-
  The statements' own Ints says yes of two lists of ints that are one list; and their three alarms are told in order.
-/
import Derived.Test.YtlhobncpifklkaaNext
import Derived.BigQuiet
import Derived.WalkSmall
import Derived.Deep.QuietTactic
namespace Go.Proofs.Ytlhobncpifklkaa
open Go.RowKit Go.Maps Go.Deep

/-- The value v stands for the list l of ints. -/
def IntsAt (w : World) (v : Value) (l : List Int) : Prop :=
  (∃ ao cap, v = .slice ao 0 cap ∧ l = []) ∨
  (∃ b off cap, v = .slice (some ⟨b, off, none⟩) l.length cap ∧ b < w.heap.size ∧ 0 < l.length ∧ l.length ≤ cap ∧ cap ≤ maxLen ∧
    ∀ i, i < l.length → w.cell? ⟨b, off + i, none⟩ = some (.int .i64 (l.getD i 0)))

theorem IntsAt.of_own {base : Nat} {w : World} {v : Value} {e : TypeId} {l : List Int} (h : w.ownsRow base e 1 v l.length (l.map (Value.int .i64))) : IntsAt w v l := by
  have hlt := h.lt
  rcases h.2 with ⟨rfl, hn⟩ | ⟨g, cap, cur, rfl, hbg, hg, hnc, hcm, hcs, htake⟩
  · exact .inl ⟨none, 0, rfl, List.eq_nil_of_length_eq_zero hn⟩
  · by_cases hp : 0 < l.length
    · refine .inr ⟨g, 0, cap, rfl, (hlt g rfl).2, hp, hnc, hcm, fun i hi => ?_⟩
      have := h.cells (g := g) rfl i (.int .i64 (l.getD i 0)) (by simp [List.getD, hi])
      rw [WideShapes.add_plain] at this
      exact this
    · have : l = [] := List.eq_nil_of_length_eq_zero (by omega)
      subst this
      exact .inl ⟨_, _, rfl, rfl⟩
theorem IntsAt.kept {w w' : World} {v : Value} {l : List Int} {row : Option Nat} (h : IntsAt w v l) (hg : w.grownBy w' row) (hne : ∀ j, row = some j → v.ownBlock ≠ some j) : IntsAt w' v l := by
  rcases h with h | ⟨b, off, cap, rfl, hb, hp, hc, hm, hx⟩
  · exact .inl h
  · refine .inr ⟨b, off, cap, rfl, Nat.lt_of_lt_of_le hb hg.size, hp, hc, hm, fun i hi => hg.cell (hx i hi) ?_⟩
    intro e
    exact hne b e.symm rfl
theorem grown_of_below {w w' : World} (h : Below w.heap.size w w') (row : Option Nat) : w.grownBy w' row := ⟨h.os, h.tape, h.output, h.size, fun k hk _ => h.block k hk⟩

set_option maxHeartbeats 1000000 in
theorem ints_same (u v : Value) (l : List Int) (w : World) (hu : IntsAt w u l) (hv : IntsAt w v l) :
    Calls Try.prog 17 #[u, v] w fun e w' => e = .returned (.bool true) ∧ w.grownBy w' none := by
  rcases hu with ⟨ao, cap, rfl, rfl⟩ | ⟨b, off, cap, rfl, hB, hp, hlc, hm, hx⟩
  · rcases hv with ⟨ao', cap', rfl, _⟩ | ⟨b', off', cap', rfl, hB', hp', hlc', hm', hx'⟩
    · go_enter Try.func17, Try.ntmps17
      go_wp2
      refine wp_loop_rounds 1 ?_
      rw [rounds_succ]
      go_wp2
      go_ret
      exact ⟨rfl, grown_refl _ _⟩
    · simp at hp'
  · rcases hv with ⟨ao', cap', rfl, rfl⟩ | ⟨b', off', cap', rfl, hB', hp', hlc', hm', hx'⟩
    · simp at hp
    · unfold maxLen at hm hm'
      obtain ⟨n, hn⟩ : ∃ n, l.length = n := ⟨_, rfl⟩
      rw [hn] at hp hlc hlc' hx hx' ⊢
      have HX : Hid ((∀ i, i < n → w.cell? ⟨b, off + i, none⟩ = some (.int .i64 (l.getD i 0))) ∧ ∀ i, i < n → w.cell? ⟨b', off' + i, none⟩ = some (.int .i64 (l.getD i 0))) := ⟨hx, hx'⟩
      clear hn hx hx' hp'
      go_enter Try.func17, Try.ntmps17
      go_wp2
      go_loopw [8] (fun i wr => ∃ k : Nat, k ≤ n ∧ i = .int .i64 k ∧ Below w.heap.size w wr) (fun i _ => n - (intOf i).toNat)
      case atStart => exact ⟨0, Nat.zero_le _, rfl, Below.refl _ _⟩
      case round =>
        obtain ⟨k, hk, rfl, hbl⟩ := hrel
        by_cases hlt : k < n
        · have c0 := HX.out.1 k hlt
          have c1 := HX.out.2 k hlt
          rw [← hbl.cell (p := ⟨b, off + k, none⟩) hB] at c0
          rw [← hbl.cell (p := ⟨b', off' + k, none⟩) hB'] at c1
          generalize l.getD k 0 = s at c0 c1
          have hg : decide ((n : Int) ≤ (k : Int)) = false := by simp; omega
          have hlt' : (k : Int) < (n : Int) := by omega
          go_wp2
          go_quiet (fail)
          go_wp2
          go_roundw
          case rel => exact ⟨k + 1, by omega, by go_num, Go.below_drewN hbl _⟩
          case measure => simp [intOf]; omega
        · obtain rfl : k = n := by omega
          go_wp2
          go_ret
          exact ⟨rfl, grown_of_below hbl _⟩

theorem below_clock {B : Nat} {w w' : World} {b : Nat} (h : w.grownBy w' (some b)) (hB : B ≤ b) (hs : B ≤ w.heap.size) : Below B w w' := (Below.refl B w).grown h hs (fun k hk => by cases hk; exact hB)
theorem below_none {B : Nat} {w w' : World} (h : w.grownBy w' none) (hs : B ≤ w.heap.size) : Below B w w' := (Below.refl B w).grown h hs (fun k hk => by cases hk)

theorem lits_one (w : World) (a : Int) : IntsAt (w.alloc (.cells #[.int .i64 a] 3)) (.slice (some ⟨w.heap.size, 0, none⟩) 1 1) [a] := by
  refine .inr ⟨w.heap.size, 0, 1, rfl, by simp, by simp, by simp, by decide, fun i hi => ?_⟩
  obtain rfl : i = 0 := by simpa using hi
  simp
theorem lits_two (w : World) (a b : Int) : IntsAt (w.alloc (.cells #[.int .i64 a, .int .i64 b] 3)) (.slice (some ⟨w.heap.size, 0, none⟩) 2 2) [a, b] := by
  refine .inr ⟨w.heap.size, 0, 2, rfl, by simp, by simp, by simp, by decide, fun i hi => ?_⟩
  have hi' : i < 2 := by simpa using hi
  match i, hi' with
  | 0, _ => simp
  | 1, _ => simp

namespace Al
theorem t1 : set [] 5 9 = [(5, 9)] := by decide
theorem t2 : set [(5, 9)] 2 9 = [(2, 9), (5, 9)] := by decide
theorem t3 : set [(2, 9), (5, 9)] 7 3 = [(7, 3), (2, 9), (5, 9)] := by decide
theorem t4 : due [(7, 3), (2, 9), (5, 9)] 8 = [7] ∧ rest [(7, 3), (2, 9), (5, 9)] 8 = [(2, 9), (5, 9)] := by decide
theorem t5 : due [(2, 9), (5, 9)] 9 = [2, 5] ∧ rest [(2, 9), (5, 9)] 9 = [] := by decide
end Al

theorem new_ex (w : World) : Calls Try.prog 9 #[] w fun e w' => ∃ s bm, e = .returned (.pointer (some ⟨s, 0, none⟩)) ∧ w.heap.size ≤ s ∧ w.heap.size ≤ bm ∧ ClockAt w' s bm [] ∧ w.grownBy w' none :=
  (new_any w).mono fun _ _ ⟨he, hk, hg⟩ => ⟨_, _, he, by omega, Nat.le_refl _, hk, hg⟩

set_option maxHeartbeats 1000000 in
set_option maxRecDepth 100000 in
theorem three_any (w : World) : Calls Try.prog 10 #[] w fun e w' => e = .returned (.bool true) ∧ w.grownBy w' none := by
  go_enter Try.func10, Try.ntmps10
  go_wp2_with fail
  refine (new_ex _).mono ?_
  rintro e w1 ⟨s, bm, rfl, hs, hm, hk1, hg1⟩
  have HS : Hid (w.heap.size ≤ s ∧ w.heap.size ≤ bm) := ⟨hs, hm⟩
  have HK1 : Hid (ClockAt w1 s bm []) := hk1
  have HB1 : Hid (Below w.heap.size w w1) := below_none hg1 (Nat.le_refl _)
  clear hg1 hk1 hs hm
  go_wp2_with fail
  refine (setOk_any _ HK1.out (by simp [Al.fits]) (Or.inr (by simp))).mono ?_
  rintro e w2 ⟨rfl, hk2, hg2⟩
  rw [Al.t1] at hk2
  have HK2 : Hid (ClockAt w2 s bm [(5, 9)]) := hk2
  have HB2 : Hid (Below w.heap.size w w2) := HB1.out.trans (below_clock hg2 HS.out.2 HB1.out.size)
  clear hg2 hk2 HK1 HB1
  go_wp2_with fail
  refine (setOk_any _ HK2.out (by simp [Al.fits]) (Or.inr (by simp))).mono ?_
  rintro e w3 ⟨rfl, hk2, hg2⟩
  rw [Al.t2] at hk2
  have HK3 : Hid (ClockAt w3 s bm [(2, 9), (5, 9)]) := hk2
  have HB3 : Hid (Below w.heap.size w w3) := HB2.out.trans (below_clock hg2 HS.out.2 HB2.out.size)
  clear hg2 hk2 HK2 HB2
  go_wp2_with fail
  refine (setOk_any _ HK3.out (by simp [Al.fits]) (Or.inr (by simp))).mono ?_
  rintro e w4 ⟨rfl, hk2, hg2⟩
  rw [Al.t3] at hk2
  have HK4 : Hid (ClockAt w4 s bm [(7, 3), (2, 9), (5, 9)]) := hk2
  have HB4 : Hid (Below w.heap.size w w4) := HB3.out.trans (below_clock hg2 HS.out.2 HB3.out.size)
  clear hg2 hk2 HK3 HB3
  go_wp2_with fail
  refine (dueOk_any (now := 8) _ HK4.out (by simp [Al.fits])).mono ?_
  rintro e w5 ⟨v1, rfl, hr1, hk2, hg2⟩
  rw [Al.t4.2] at hk2
  rw [Al.t4.1] at hr1
  have HR1 : Hid (w5.ownsRow w4.heap.size 3 1 v1 [7].length ([7].map (Value.int .i64))) := hr1
  have HK5 : Hid (ClockAt w5 s bm [(2, 9), (5, 9)]) := hk2
  have HB5 : Hid (Below w.heap.size w w5) := HB4.out.trans (below_clock hg2 HS.out.2 HB4.out.size)
  have HM : Hid (bm < w4.heap.size) := HK4.out.lt.2.1
  clear hg2 hk2 HK4 HB4 hr1
  go_wp2_with fail
  refine (dueOk_any (now := 9) _ HK5.out (by simp [Al.fits])).mono ?_
  rintro e w6 ⟨v2, rfl, hr2, hk2, hg2⟩
  rw [Al.t5.2] at hk2
  rw [Al.t5.1] at hr2
  have HI1 : Hid (IntsAt w6 v1 [7]) := (IntsAt.of_own HR1.out).kept hg2 (fun j hj e => by cases hj; have h1 := (HR1.out.lt _ e).1; have h2 := HM.out; omega)
  have HI2 : Hid (IntsAt w6 v2 [2, 5]) := IntsAt.of_own hr2
  have HK6 : Hid (ClockAt w6 s bm []) := hk2
  have HB6 : Hid (Below w.heap.size w w6) := HB5.out.trans (below_clock hg2 HS.out.2 HB5.out.size)
  clear hg2 hk2 HK5 HB5 hr2 HR1 HM
  go_wp2_with fail
  have ga := World.grownBy_alloc w6 (.cells #[.int .i64 7] 3) none
  refine (ints_same _ _ [7] _ (HI1.out.kept ga (fun j hj => by cases hj)) (lits_one _ _)).mono ?_
  rintro e w7 ⟨rfl, hg⟩
  have gb := grown_trans ga hg
  have HI2 : Hid (IntsAt w7 v2 [2, 5]) := HI2.out.kept gb (fun j hj => by cases hj)
  have HK7 : Hid (ClockAt w7 s bm []) := HK6.out.kept gb (by simp) (by simp)
  have HB7 : Hid (Below w.heap.size w w7) := HB6.out.trans (below_none gb HB6.out.size)
  clear ga gb hg HB6 HK6 HI1
  go_wp2_with fail
  have ga := World.grownBy_alloc w7 (.cells #[.int .i64 2, .int .i64 5] 3) none
  refine (ints_same _ _ [2, 5] _ (HI2.out.kept ga (fun j hj => by cases hj)) (lits_two _ _ _)).mono ?_
  rintro e w8 ⟨rfl, hg⟩
  have gb := grown_trans ga hg
  have HK8 : Hid (ClockAt w8 s bm []) := HK7.out.kept gb (by simp) (by simp)
  have HB8 : Hid (Below w.heap.size w w8) := HB7.out.trans (below_none gb HB7.out.size)
  clear ga gb hg HB7 HK7 HI2
  go_wp2_with fail
  refine (len_any _ HK8.out).mono ?_
  rintro e w9 ⟨rfl, rfl⟩
  go_wp2
  go_ret
  exact ⟨rfl, grown_of_below HB8.out _⟩
end Go.Proofs.Ytlhobncpifklkaa
