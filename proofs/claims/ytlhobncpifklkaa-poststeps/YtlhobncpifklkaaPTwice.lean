/-
  The statements' own 'twice': a letter that is doubled, and taken.
-/
import Derived.Test.YtlhobncpifklkaaPWait
import Derived.Laws.StructEq
namespace Go.Proofs.Ytlhobncpifklkaa
open Go.RowKit

theorem guard35 : Try.prog.eqGuardType Try.prog.depth 88 = false := by kernel_rfl
theorem eql_same (x0 x1 x2 : Int) (x3 : ByteArray) (w : World) : (binOp .eql 88 (.agg #[.int .i64 x0, .int .i64 x1, .int .i64 x2, .string x3]) (.agg #[.int .i64 x0, .int .i64 x1, .int .i64 x2, .string x3])).run Try.prog w = .ok (.bool true) w := by
  have u3 := Try.underlying3
  have u9 := Try.underlying9
  have hS : Try.prog.underlying 88 = some (.struct (Try.prog.fieldsOf 88)) := by kernel_rfl
  have hp : Try.prog.stoodInHeld 88 = false := by kernel_rfl
  rw [run_eql_struct, show (10000 : Nat) = 9999 + 1 from rfl, run_equalIn_agg w 9999 88 _ _ hS hp]
  simp only [Program.fieldsOf, Try.underlying88]
  go_simp
theorem neq_same (x0 x1 x2 : Int) (x3 : ByteArray) (w : World) : (binOp .neq 88 (.agg #[.int .i64 x0, .int .i64 x1, .int .i64 x2, .string x3]) (.agg #[.int .i64 x0, .int .i64 x1, .int .i64 x2, .string x3])).run Try.prog w = .ok (.bool false) w := by
  have u3 := Try.underlying3
  have u9 := Try.underlying9
  have hS : Try.prog.underlying 88 = some (.struct (Try.prog.fieldsOf 88)) := by kernel_rfl
  have hp : Try.prog.stoodInHeld 88 = false := by kernel_rfl
  rw [run_neq_struct, show (10000 : Nat) = 9999 + 1 from rfl, run_equalIn_agg w 9999 88 _ _ hS hp]
  simp only [Program.fieldsOf, Try.underlying88]
  go_simp

theorem waiting_ex {s : Nat} {nodes last : Int} {v : Value} {ls : List Po.Lt} (w : World) (h : PostAt w s nodes last v ls) :
    Calls Try.prog 26 #[.pointer (some ⟨s, 0, none⟩)] w fun e w' => ∃ u, e = .returned u ∧ IntsAt w' u (ls.map (·.1)) ∧ w.grownBy w' none ∧ u.ownBlock = some w.heap.size :=
  (waiting_any w h).mono fun _ _ ⟨_, he, hi, hg⟩ => ⟨_, he, hi, hg, rfl⟩
theorem lits_one (w : World) (a : Int) : IntsAt (w.alloc (.cells #[.int .i64 a] 3)) (.slice (some ⟨w.heap.size, 0, none⟩) 1 1) [a] := by
  refine .inr ⟨w.heap.size, 0, 1, rfl, by simp, by simp, by simp, by decide, fun i hi => ?_⟩
  obtain rfl : i = 0 := by simpa using hi
  simp

theorem new_ex {n : Int} (w : World) (h1 : ¬ n < 1) (h2 : ¬ 32 < n) : Calls Try.prog 22 #[.int .i64 n] w fun e w' => ∃ s, e = .returned (.tuple #[.pointer (some ⟨s, 0, none⟩), .int .i64 0]) ∧ w.heap.size ≤ s ∧ PostAt w' s n 0 (.slice none 0 0) [] ∧ w.grownBy w' none :=
  (new_ok w h1 h2).mono fun _ _ ⟨he, hp, hg⟩ => ⟨_, he, Nat.le_refl _, hp, hg⟩

set_option maxHeartbeats 1000000 in
set_option maxRecDepth 100000 in
theorem twice_any (w : World) : Calls Try.prog 24 #[] w fun e w' => e = .returned (.bool true) ∧ w.grownBy w' none := by
  have hgd := guard35
  have heq := eql_same
  go_enter Try.func24, Try.ntmps24
  go_wp2_with fail
  refine (new_ex _ (by decide) (by decide)).mono ?_
  rintro e w1 ⟨s, rfl, hs, hp, hg⟩
  have HS : Hid (w.heap.size ≤ s) := hs
  have HP1 : Hid (PostAt w1 s 2 0 (.slice none 0 0) []) := hp
  have HB1 : Hid (Below w.heap.size w w1) := below_none hg (Nat.le_refl _)
  clear hs hp hg
  go_wp2_with fail
  refine (send_ok 0 1 ⟨#[97]⟩ _ HP1.out (by decide) (by simp [isNode]) (by simp [isNode]) (by decide) (by decide)).mono ?_
  rintro e w2 ⟨v2, rfl, hp, ht, hm⟩
  have HP2 : Hid (PostAt w2 s 2 1 v2 [(1, 0, 1, ⟨#[97]⟩)]) := hp
  have HB2 : Hid (Below w.heap.size w w2) := HB1.out.trans (HP1.out.below ht HS.out)
  clear hp ht hm HB1 HP1
  go_wp2_with fail
  refine (again_ok (x := (1, 0, 1, ⟨#[97]⟩)) 1 _ HP2.out (by decide) rfl (by decide)).mono ?_
  rintro e w3 ⟨v3, rfl, hp, ht, hm⟩
  have HP3 : Hid (PostAt w3 s 2 2 v3 [(1, 0, 1, ⟨#[97]⟩), (2, 0, 1, ⟨#[97]⟩)]) := hp
  have HB3 : Hid (Below w.heap.size w w3) := HB2.out.trans (HP2.out.below ht HS.out)
  clear hp ht hm HB2 HP2
  go_wp2_with fail
  refine (take_some (x := (1, 0, 1, ⟨#[97]⟩)) 1 _ HP3.out rfl).mono ?_
  rintro e w4 ⟨v4, rfl, hp, ht, hm⟩
  have HP4 : Hid (PostAt w4 s 2 2 v4 [(2, 0, 1, ⟨#[97]⟩)]) := hp
  have HB4 : Hid (Below w.heap.size w w4) := HB3.out.trans (HP3.out.below ht HS.out)
  clear hp ht hm HB3 HP3
  unfold letter
  simp only
  go_wp2_with fail
  have hga := World.grownBy_alloc w4 (.cells #[.int .i64 1, .int .i64 0, .int .i64 1, .string ⟨#[97]⟩] 88) none
  refine (waiting_ex _ (HP4.out.still hga)).mono ?_
  rintro e w5 ⟨u5, rfl, hi5, hg5, _⟩
  have HI5 : Hid (IntsAt w5 u5 [2]) := hi5
  have HB5 : Hid (Below w.heap.size w w5) := HB4.out.trans (below_none (grown_trans hga hg5) HB4.out.size)
  clear hi5 hg5 hga HB4 HP4
  go_wp2_with fail
  have hgb := World.grownBy_alloc w5 (.cells #[.int .i64 2] 3) none
  refine (ints_same _ _ [2] _ (HI5.out.still hgb) (lits_one _ _)).mono ?_
  rintro e w6 ⟨rfl, hg6⟩
  have HB6 : Hid (Below w.heap.size w w6) := HB5.out.trans (below_none (grown_trans hgb hg6) HB5.out.size)
  clear hg6 hgb HB5 HI5
  go_wp2
  go_ret
  exact ⟨rfl, grown_of_below HB6.out _⟩
end Go.Proofs.Ytlhobncpifklkaa
