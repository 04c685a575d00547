/-
  The reference's Set in one sentence.
-/
import Derived.Test.YtlhobncpifklkaaRefSet
import Derived.Test.YtlhobncpifklkaaRefDue
namespace Go.Proofs.Ytlhobncpifklkaa
open Go.RowKit Go.Maps

set_option maxHeartbeats 1000000 in
set_option maxRecDepth 100000 in
theorem rset_arg {r : Nat} {n a : Int} (w : World) (hf : ¬ (Al.fits n ∧ Al.fits a)) :
    Calls Try.prog 12 #[.pointer (some ⟨r, 0, none⟩), .int .i64 n, .int .i64 a] w fun e w' => e = .returned (.int .i64 1) ∧ w' = w := by
  by_cases h1 : Al.fits n
  · have HFN : Hid (Al.fits n) := h1
    have HFA : Hid (¬ Al.fits a) := fun h2 => hf ⟨h1, h2⟩
    clear hf h1
    go_enter Try.func12, Try.ntmps12
    go_wp2_with fail
    refine (big_yes _ HFN.out).mono ?_
    rintro e w1 ⟨rfl, rfl⟩
    go_wp2_with fail
    refine (big_no _ HFA.out).mono ?_
    rintro e w1 ⟨rfl, rfl⟩
    go_wp2
    go_ret
    exact ⟨rfl, rfl⟩
  · have HFN : Hid (¬ Al.fits n) := h1
    clear hf h1
    go_enter Try.func12, Try.ntmps12
    go_wp2_with fail
    refine (big_no _ HFN.out).mono ?_
    rintro e w1 ⟨rfl, rfl⟩
    go_wp2
    go_ret
    exact ⟨rfl, rfl⟩
set_option maxHeartbeats 1000000 in
set_option maxRecDepth 100000 in
theorem rset_full {r : Nat} {v : Value} {L : List (Int × Int)} {n a : Int} (w : World) (h : RefAt w r v L) (hl : L.length ≤ 257) (hf : Al.fits n ∧ Al.fits a) (hq : Al.find L n = none ∧ 256 ≤ L.length) :
    Calls Try.prog 12 #[.pointer (some ⟨r, 0, none⟩), .int .i64 n, .int .i64 a] w fun e w' => e = .returned (.int .i64 5) ∧ w.grownBy w' none := by
  have HFN : Hid (Al.fits n) := hf.1
  have HFA : Hid (Al.fits a) := hf.2
  have HR : Hid (RefAt w r v L) := h
  have HQ : Hid (Al.find L n = none ∧ 256 ≤ L.length) := hq
  have HL : Hid (L.length ≤ 257) := hl
  clear h hf hq
  go_enter Try.func12, Try.ntmps12
  go_wp2_with fail
  refine (big_yes _ HFN.out).mono ?_
  rintro e w1 ⟨rfl, rfl⟩
  go_wp2_with fail
  refine (big_yes _ HFA.out).mono ?_
  rintro e w1 ⟨rfl, rfl⟩
  go_wp2_with fail
  refine (rfind_any n _ HR.out HL.out).mono ?_
  rintro e w2 ⟨rfl, hg2⟩
  have HR2 : Hid (RefAt w2 r v L) := HR.out.still hg2
  have HG2 : Hid (w1.grownBy w2 none) := hg2
  have hx : (Al.find L n).getD (-1) = -1 := by rw [HQ.out.1]; rfl
  rw [hx]
  obtain ⟨cc, _⟩ := HR2.out.cell
  obtain ⟨aoL, cpL, ev⟩ := row_slice HR2.out.row
  rw [ev] at cc
  have hlen : (256 : Int) ≤ (L.length : Int) := by have := HQ.out.2; omega
  clear hg2 hx
  go_wp2
  go_ret
  exact ⟨rfl, HG2.out⟩
theorem rset_any {r : Nat} {v : Value} {L : List (Int × Int)} {n a : Int} (w : World) (h : RefAt w r v L) (hG : Al.Good L) :
    Calls Try.prog 12 #[.pointer (some ⟨r, 0, none⟩), .int .i64 n, .int .i64 a] w fun e w' => ∃ v', e = .returned (.int .i64 (Al.setErr L n a)) ∧ RefAt w' r v' (Al.setTo L n a) ∧ w.grownBy w' (some r) := by
  have hl := hG.len
  unfold Al.setTo Al.setErr
  by_cases hf : Al.fits n ∧ Al.fits a
  · rw [if_pos hf]
    by_cases hq : Al.find L n = none ∧ 256 ≤ L.length
    · rw [if_pos hq, if_neg (by decide)]
      exact (rset_full w h (by omega) hf hq).mono fun _ _ ⟨he, hw⟩ => ⟨v, he, h.still hw, grown_any hw _⟩
    · rw [if_neg hq, if_pos rfl]
      cases hx : Al.find L n with
      | none =>
        have hlt : ¬ 256 ≤ L.length := fun hh => hq ⟨hx, hh⟩
        exact rset_new w h hl hf ⟨hx, by omega⟩
      | some x => exact rset_some w h hl hf ⟨x, hx, (hG.inside _ (Al.mem_of_find hx)).2.1⟩
  · rw [if_neg hf, if_neg (by decide)]
    exact (rset_arg w hf).mono fun _ _ ⟨he, hw⟩ => ⟨v, he, by subst hw; exact h, by subst hw; exact grown_refl _ _⟩
end Go.Proofs.Ytlhobncpifklkaa
