/-
  The reference's post: Again, at any one that stands for a list of letters.
-/
import Derived.Test.YtlhobncpifklkaaPRefS
namespace Go.Proofs.Ytlhobncpifklkaa
namespace Rf
open Go.RowKit

set_option maxHeartbeats 1000000 in
theorem again_none {s : Nat} {nodes last : Int} {v : Value} {ls : List Po.Lt} (n : Int) (w : World) (h : PostAt w s nodes last v ls) (hn : Po.get ls n = none) : Calls Try.prog 39 #[.pointer (some ⟨s, 0, none⟩), .int .i64 n] w fun e w' => e = .returned (.tuple #[.int .i64 0, .int .i64 6]) ∧ w.grownBy w' none := by
  have HP : Hid (PostAt w s nodes last v ls ∧ Po.get ls n = none) := ⟨h, hn⟩
  clear h hn
  go_enter Try.func39, Try.ntmps39
  go_wp2_with fail
  refine (see_none n _ HP.out.1 HP.out.2).mono ?_
  rintro e w1 ⟨rfl, hg⟩
  have HG : Hid (w.grownBy w1 none) := hg
  clear hg
  unfold letter
  go_wp2
  go_ret2
  exact ⟨rfl, grown_trans HG.out (World.grownBy_alloc _ _ _)⟩
set_option maxHeartbeats 1000000 in
theorem again_full {s : Nat} {nodes last : Int} {v : Value} {ls : List Po.Lt} {x : Po.Lt} (n : Int) (w : World) (h : PostAt w s nodes last v ls) (hn : Po.get ls n = some x) (hl : 2048 ≤ ls.length) : Calls Try.prog 39 #[.pointer (some ⟨s, 0, none⟩), .int .i64 n] w fun e w' => e = .returned (.tuple #[.int .i64 0, .int .i64 5]) ∧ w.grownBy w' none := by
  have HP : Hid (PostAt w s nodes last v ls ∧ Po.get ls n = some x ∧ 2048 ≤ ls.length) := ⟨h, hn, hl⟩
  clear h hn hl
  obtain ⟨x0, x1, x2, x3⟩ := x
  go_enter Try.func39, Try.ntmps39
  go_wp2_with fail
  refine (see_some n _ HP.out.1 HP.out.2.1).mono ?_
  rintro e w1 ⟨rfl, hg⟩
  have HG : Hid (w.grownBy w1 none) := hg
  clear hg
  unfold letter
  go_wp2_with fail
  have hga := grown_trans HG.out (World.grownBy_alloc w1 (.cells #[.int .i64 x0, .int .i64 x1, .int .i64 x2, .string x3] 72) none)
  refine (add_full (x0, x1, x2, x3) _ (HP.out.1.still hga) HP.out.2.2).mono ?_
  rintro e w2 ⟨rfl, hg2⟩
  have HG2 : Hid (w.grownBy w2 none) := grown_trans hga hg2
  clear hg2 hga
  go_wp2
  go_ret2
  exact ⟨rfl, HG2.out⟩
set_option maxHeartbeats 1000000 in
theorem again_ok {s : Nat} {nodes last : Int} {v : Value} {ls : List Po.Lt} {x : Po.Lt} (n : Int) (w : World) (h : PostAt w s nodes last v ls) (hlast : last < 4611686018427387904) (hn : Po.get ls n = some x) (hl : ls.length < 2048) :
    Calls Try.prog 39 #[.pointer (some ⟨s, 0, none⟩), .int .i64 n] w fun e w' => ∃ v', e = .returned (.tuple #[.int .i64 (last + 1), .int .i64 0]) ∧ PostAt w' s nodes (last + 1) v' (ls ++ [(last + 1, x.2)]) ∧ Turns w w' s v ∧ Moves w v v' := by
  have HP : Hid (PostAt w s nodes last v ls ∧ Po.get ls n = some x ∧ ls.length < 2048 ∧ last < 4611686018427387904 ∧ x.2.2.2.size ≤ 65535) := ⟨h, hn, hl, hlast, h.good.short x (Po.get_mem hn).1⟩
  clear h hn hl hlast
  obtain ⟨x0, x1, x2, x3⟩ := x
  simp only at HP ⊢
  go_enter Try.func39, Try.ntmps39
  go_wp2_with fail
  refine (see_some n _ HP.out.1 HP.out.2.1).mono ?_
  rintro e w1 ⟨rfl, hg⟩
  have HG : Hid (w.grownBy w1 none) := hg
  clear hg
  unfold letter
  go_wp2_with fail
  have hga := grown_trans HG.out (World.grownBy_alloc w1 (.cells #[.int .i64 x0, .int .i64 x1, .int .i64 x2, .string x3] 72) none)
  refine (add_ok (x0, x1, x2, x3) _ (HP.out.1.still hga) HP.out.2.2.1 HP.out.2.2.2.1 HP.out.2.2.2.2).mono ?_
  rintro e w2 ⟨v', rfl, hp, ht, hm⟩
  have HR : Hid (PostAt w2 s nodes (last + 1) v' (ls ++ [(last + 1, x1, x2, x3)]) ∧ Turns w w2 s v ∧ Moves w v v') := ⟨hp, (Turns.of_grown hga).trans (.refl _ _) ht, Moves.trans (.refl _ _) hga.size hm⟩
  clear hp ht hm hga
  go_wp2
  go_ret2
  exact ⟨_, rfl, HR.out⟩
/-- Again, at any post. -/
theorem again_any {s : Nat} {nodes last : Int} {v : Value} {ls : List Po.Lt} (n : Int) (w : World) (h : PostAt w s nodes last v ls) (hlast : last < 4611686018427387904) :
    Calls Try.prog 39 #[.pointer (some ⟨s, 0, none⟩), .int .i64 n] w fun e w' => ∃ v', e = .returned (.tuple #[.int .i64 (Po.againNum last ls n), .int .i64 (Po.againErr ls n)]) ∧ PostAt w' s nodes (Po.againLast last ls n) v' (Po.againTo last ls n) ∧ Turns w w' s v ∧ Moves w v v' := by
  unfold Po.againNum Po.againLast Po.againTo
  cases hg : Po.get ls n with
  | none =>
    have e : Po.againErr ls n = 6 := by unfold Po.againErr; rw [hg]; rfl
    rw [e]
    exact (again_none n w h hg).mono fun _ _ ⟨he, hg⟩ => ⟨v, he, h.still hg, .of_grown hg, .refl _ _⟩
  | some x =>
    by_cases h4 : 2048 ≤ ls.length
    · have e : Po.againErr ls n = 5 := by unfold Po.againErr Po.addErr; simp [hg, h4]
      rw [e]
      exact (again_full n w h hg h4).mono fun _ _ ⟨he, hg⟩ => ⟨v, he, h.still hg, .of_grown hg, .refl _ _⟩
    · have e : Po.againErr ls n = 0 := by unfold Po.againErr Po.addErr; simp [hg, h4]
      rw [e]
      exact again_ok n w h hlast hg (by omega)
end Rf
end Go.Proofs.Ytlhobncpifklkaa
