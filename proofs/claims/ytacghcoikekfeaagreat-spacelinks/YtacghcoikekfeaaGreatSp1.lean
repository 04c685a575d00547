/-
  space.within, isDir, dirOf, rightFolders: what they answer.
-/
import Derived.Test.YtacghcoikekfeaaGreatMakeB
import Derived.Test.YtacghcoikekfeaaGreatFCheck
namespace Go.Proofs.YtacghcoikekfeaaGreat
open Go.ChangeShapes Go.WideShapes Go.ChangeAt Go.RowKit Go.Deep It
set_option maxRecDepth 100000
theorem swithin_any (lo x hi : Int) (w : World) : Calls Tryz.prog 118 #[.int .i64 lo, .int .i64 x, .int .i64 hi] w fun e w' => e = .returned (.bool (decide (lo ≤ x ∧ x ≤ hi))) ∧ w' = w := by
  by_cases h1 : lo ≤ x
  · by_cases h2 : x ≤ hi
    · rw [decide_eq_true (show lo ≤ x ∧ x ≤ hi from ⟨h1, h2⟩)]
      go_enter Tryz.func118, Tryz.ntmps118
      go_wp2
      go_ret
      exact ⟨rfl, rfl⟩
    · rw [decide_eq_false (show ¬ (lo ≤ x ∧ x ≤ hi) from fun h => h2 h.2)]
      go_enter Tryz.func118, Tryz.ntmps118
      go_wp2
      go_ret
      exact ⟨rfl, rfl⟩
  · rw [decide_eq_false (show ¬ (lo ≤ x ∧ x ≤ hi) from fun h => h1 h.1)]
    go_enter Tryz.func118, Tryz.ntmps118
    go_wp2
    go_ret
    exact ⟨rfl, rfl⟩
/-- An inode in a block of its own. -/
abbrev BIx (x : Rw) : Obj := B8 x.i.gen x.i.kind x.i.links x.i.size x.i.stamp (.slice x.rp x.rn x.rc) (.slice x.ep x.en x.ec) x.i.next
theorem isDir_any (x : Rw) (w : World) : Calls Tryz.prog 57 #[VI x] w fun e w' => e = .returned (.bool (x.i.kind == 2)) ∧ w' = w.alloc (BIx x) := by
  go_enter Tryz.func57, Tryz.ntmps57
  go_wp2
  go_ret
  exact ⟨rfl, rfl⟩
theorem dirOf_any (x : Rw) (w : World) : Calls Tryz.prog 67 #[VI x] w fun e w' => e = .returned (VD (.slice x.ep x.en x.ec) x.i.next) ∧ Below w.heap.size w w' := by
  obtain ⟨⟨q0, q1, q2, q3, q4, q5, q6, q7⟩, -⟩ := eight_of (heap_alloc_new w (BIx x))
  have k6 := (cell_older (by simp) (.cells #[.slice none 0 0, .int .i64 0] 100) 6).trans q6
  have k7 := (cell_older (by simp) (.cells #[.slice none 0 0, .int .i64 0] 100) 7).trans q7
  clear q0 q1 q2 q3 q4 q5 q6 q7
  go_enter Tryz.func67, Tryz.ntmps67
  go_wp2
  (try simp only [Exit.inBlock, Exit.then])
  refine bodyPost_ret (v := VD (.slice x.ep x.en x.ec) x.i.next) ?_ rfl ⟨rfl, ?_⟩
  · rw [results_cell1 rfl]
    go_simp
  · exact ((Below.refl _ w).alloc (Nat.le_refl _) _).alloc (by simp) _
end Go.Proofs.YtacghcoikekfeaaGreat
