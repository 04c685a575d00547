/-
  sextonref11.copied: what it answers.
-/
import Derived.Test.YtacghcoikekfeaaGreatSRef3
import Derived.Test.YtacghcoikekfeaaGreatOwn
namespace Go.Proofs.YtacghcoikekfeaaGreat
open Go.ChangeShapes Go.WideShapes Go.ChangeAt Go.RowKit Go.Deep It
set_option maxRecDepth 100000
set_option maxHeartbeats 2000000 in
theorem rcopied_any {S : Nat → Prop} (v : Value) (L : List Rw) (w : World) (hv : TabAt S w v L) (hl : L.length ≤ 100000) :
    Calls Tryz.prog 89 #[v] w fun e w' => ∃ u, e = .returned u ∧ Row EI w' w.heap.size 65 u L ∧ Below w.heap.size w w' := by
  obtain ⟨i0, hi, hz0, hz1, hz2⟩ := info_parts infoI
  have HA : Hid (At EI S w v L) := hv.1
  have HN : Hid (L.length ≤ 100000) := hl
  have HR0 : Hid (Row EI w w.heap.size 65 (.slice none 0 0) []) := Row.nil _ _ _ _
  obtain ⟨ao, cap, rfl, -, -⟩ := hv.open
  clear hv hl
  go_enter Tryz.func89, Tryz.ntmps89
  go_wp2_with (at_builtin; refine wpList_row _ rfl _ _ 22 rfl EI S w.heap.size 65 i0 _ 96 Tryz.underlying22 hi hz0 hz1 hz2 rfl _ [] rfl HR0.out _ L rfl HA.out (by have := HN.out; unfold maxLen; simp; omega) (by have := HN.out; simp; omega) (Nat.le_refl _) ?_; intro v7 w7 hrow7 hg7 hloc7; have HR7 : Hid (Row EI w7 w.heap.size 65 v7 L) := hrow7; have HB7 : Hid (Below w.heap.size w w7) := below_none (by exact hg7) (Nat.le_refl _); clear hrow7 hg7 hloc7)
  go_ret
  exact ⟨v7, rfl, HR7.out, HB7.out⟩
end Go.Proofs.YtacghcoikekfeaaGreat
