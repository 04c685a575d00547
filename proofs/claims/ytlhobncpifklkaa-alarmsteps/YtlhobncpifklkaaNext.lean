/-
  alarm's Next: the least moment at which one is due.
-/
import Derived.Test.YtlhobncpifklkaaDue
namespace Go.Proofs.Ytlhobncpifklkaa
open Go.RowKit Go.Maps

namespace Al
def next : List (Int × Int) → Int
  | [] => 0
  | p :: _ => p.2
structure Least (L : List (Int × Int)) (left : Lit → Bool) (m : Int) : Prop where
  some_ : m = 1099511627776 ∨ ∃ x, find L x = some m
  le : ∀ x a, find L x = some a → left (.int .i64 x) = false → m ≤ a
theorem least_start {D : DataW Unit} {L : List (Int × Int)} (hR : Reads D L) : Least L (Maps.has D) 1099511627776 := by
  refine ⟨.inl rfl, fun x a hf hl => ?_⟩
  rw [hR.has x, hf] at hl
  cases hl
theorem Least.step {L : List (Int × Int)} {left : Lit → Bool} {m x c : Int} (h : Least L left m) (hf : find L x = some c) : Least L (fun z => left z && !z.sameKey (.int .i64 x)) (if m ≤ c then m else c) := by
  refine ⟨?_, fun y a hy hl => ?_⟩
  · split
    · exact h.some_
    · exact .inr ⟨x, hf⟩
  · simp only [sameKey_int] at hl
    by_cases e : y = x
    · subst e
      rw [hf] at hy
      cases hy
      split <;> omega
    · simp [e] at hl
      have := h.le y a hy hl
      split <;> omega
theorem Least.all {L : List (Int × Int)} {left : Lit → Bool} {m : Int} (h : Least L left m) (hG : Good L) (h0 : ∀ kl, left kl = false) (hl : 0 < L.length) : m = next L := by
  match L, hl with
  | p :: L, _ =>
    have hp : find (p :: L) p.1 = some p.2 := find_of_mem hG.nodup (by simp)
    have h1 := h.le _ _ hp (h0 _)
    have h2 := (hG.inside p (by simp)).2
    simp only [next]
    rcases h.some_ with h3 | ⟨x, h3⟩
    · simp only [fits] at h2
      omega
    · have hm := mem_of_find h3
      rcases List.mem_cons.1 hm with e | hm
      · rw [← e]
      · have := (List.pairwise_cons.1 hG.sorted).1 _ hm
        simp only [before] at this
        omega
end Al

theorem nextNone_any {s bm : Nat} (w : World) (hk : ClockAt w s bm []) : Calls Try.prog 19 #[.pointer (some ⟨s, 0, none⟩)] w fun e w' => e = .returned (.tuple #[.int .i64 0, .bool false]) ∧ w' = w := by
  have HK : Hid (ClockAt w s bm []) := hk
  clear hk
  go_enter Try.func19, Try.ntmps19
  go_wp2_with fail
  refine (len_any _ HK.out).mono ?_
  rintro e w' ⟨rfl, rfl⟩
  go_wp2
  go_ret2
  exact ⟨rfl, rfl⟩
theorem nextNil_any (w : World) : Calls Try.prog 19 #[.pointer none] w fun e w' => e = .returned (.tuple #[.int .i64 0, .bool false]) ∧ w' = w := by
  go_enter Try.func19, Try.ntmps19
  go_wp2_with fail
  refine (len_nil _).mono ?_
  rintro e w' ⟨rfl, rfl⟩
  go_wp2
  go_ret2
  exact ⟨rfl, rfl⟩
set_option maxHeartbeats 1000000 in
set_option maxRecDepth 100000 in
theorem nextSome_any {s bm : Nat} {L : List (Int × Int)} (w : World) (hk : ClockAt w s bm L) (hl : 0 < L.length) :
    Calls Try.prog 19 #[.pointer (some ⟨s, 0, none⟩)] w fun e w' => e = .returned (.tuple #[.int .i64 (Al.next L), .bool true]) ∧ w.grownBy w' none := by
  have HK : Hid (ClockAt w s bm L) := hk
  obtain ⟨hc, hG, D, hown, hR⟩ := hk
  have HG : Hid (Al.Good L) := hG
  have HR : Hid (Al.Reads D L) := hR
  have hlz : ¬ ((L.length : Int) = 0) := by omega
  have HL : Hid (0 < L.length) := hl
  clear hG hR hl
  go_enter Try.func19, Try.ntmps19
  go_wp2_with fail
  refine (len_any _ HK.out).mono ?_
  rintro e w' ⟨rfl, rfl⟩
  go_wp2_with fail
  refine (alarms_any _ hc).mono ?_
  rintro e w' ⟨rfl, rfl⟩
  go_wp2_with (at_range; refine wpList_range_own _ rfl _ 75 rfl 3 3 law3 Try.underlying75 _ bm _ D rfl hown ?_; intro w0 hrg0 hg0 hs0)
  go_frame
  clear hs0
  go_loopw [4] (fun u wr => ∃ (left : Lit → Bool) (cnt : Nat) (m : Int), u = .int .i64 m ∧ wr.ranges Try.prog 3 (plainElem Try.prog 3) bm w'.heap.size L.length D left cnt ∧ w'.grownBy wr none ∧ Hid (Al.Least L left m))
    (fun _ wr => wr.rangeLeft bm w'.heap.size)
  case atStart => exact ⟨_, _, _, rfl, hrg0, hg0, Al.least_start HR.out⟩
  case round =>
    obtain ⟨left, cnt, m, rfl, hrg, hgw, HM⟩ := hrel
    go_wp2_with (at_next; refine wpList_next_ranges_ii _ rfl _ rfl 3 3 .i64 .i64 law3 Try.underlying3 Try.underlying3 bm w'.heap.size L.length _ _ _ rfl hrg ?_ ?_)
    · intro _ hl0
      have e := HM.out.all HG.out hl0 HL.out
      have E : Hid (m = Al.next L) := e
      clear e
      go_wp2
      go_ret2
      rw [E.out]
      exact ⟨rfl, hgw⟩
    · intro x c w1 cnt1 hwx hwc hlx hat hrg1 hlt1 hg1 hs1' hen
      have hf := Al.find_of_reads HR.out hat
      have HM1 := HM.out.step hf
      have hgw1 : w'.grownBy w1 none := hgw.andThen hg1 (fun j hj => by cases hj; exact Or.inl (Nat.le_refl _))
      have hle0 := hrg.left_eq
      have hle1 := hrg1.left_eq
      clear hat hg1 hs1' hf
      by_cases hmc : m ≤ c
      · rw [if_pos hmc] at HM1
        have HM2 : Hid (Al.Least L (fun z => left z && !z.sameKey (.int .i64 x)) m) := HM1
        clear HM1
        go_wp2
        go_roundw
        case rel => exact ⟨_, cnt1, m, by rw [Int.min_eq_left hmc], hrg1, hgw1, HM2⟩
        case measure => rw [hle1, hle0]; exact hlt1
      · rw [if_neg hmc] at HM1
        have HM2 : Hid (Al.Least L (fun z => left z && !z.sameKey (.int .i64 x)) c) := HM1
        clear HM1
        go_wp2
        go_roundw
        case rel => exact ⟨_, cnt1, c, by rw [Int.min_eq_right (by omega)], hrg1, hgw1, HM2⟩
        case measure => rw [hle1, hle0]; exact hlt1
end Go.Proofs.Ytlhobncpifklkaa
