/-
  blob.Bytes: how many bytes any runs have.
-/
import Derived.Test.YtobcjnfombfdmaaBase
import Derived.WalkKit
import Derived.WalkSpells
import Derived.WalkLawsBesides
import Derived.ProofKit
import Derived.BigQuiet
import Derived.Deep.QuietTactic
import Derived.Deep.RegionHeld3
import Derived.Deep.SlicePairs
namespace Go.Proofs.Ytobcjnfombfdmaa
open Go.ChangeShapes Go.WideShapes Go.ChangeAt Go.RowKit Go.Deep

set_option maxHeartbeats 1000000 in
theorem bbytes_any (v : Value) (l : List Bl.R) (w : World) (hv : FieldsAt w.heap.size w v l) :
    Calls Try.prog 29 #[v] w fun e w' => e = .returned (.int .i64 (Bl.sumw l)) ∧ Below w.heap.size w w' := by
  obtain ⟨ao, cap, rfl, hm, hx⟩ := hv.open
  clear hv
  unfold maxLen at hm
  obtain ⟨n, hn⟩ : ∃ n, l.length = n := ⟨_, rfl⟩
  rw [hn] at hm hx ⊢
  have HN : Hid (l.length = n) := hn
  have HX : Hid (∀ j, j < n → ∃ b off, ao = some ⟨b, off, none⟩ ∧ b < w.heap.size ∧ w.cell? ⟨b, off + j * 2, none⟩ = some (.int .i64 (l.getD j (0, .empty)).1) ∧ w.cell? ⟨b, off + j * 2 + 1, none⟩ = some (.string (l.getD j (0, .empty)).2)) := hx
  clear hn hx
  go_enter Try.func29, Try.ntmps29
  go_wp2
  go_loopw [3, 8] (fun t i wr => ∃ (k : Nat) (y : Int), k ≤ n ∧ i = .int .i64 k ∧ t = .int .i64 y ∧ y = Bl.sumw (l.take k) ∧ Below w.heap.size w wr) (fun _ i _ => n - (intOf i).toNat)
  case atStart => exact ⟨0, _, Nat.zero_le _, rfl, rfl, rfl, Below.refl _ _⟩
  case round =>
    obtain ⟨k, y, hk, rfl, rfl, hy, hbl⟩ := hrel
    have HY : Hid (y = Bl.sumw (l.take k)) := hy
    clear hy
    have hsz := hbl.size
    by_cases hlt : k < n
    · obtain ⟨b, off, rfl, hB, c0, c1⟩ := HX.out k hlt
      have hk' : k < l.length := by rw [HN.out]; exact hlt
      rw [← hbl.cell (p := ⟨b, off + k * 2, none⟩) hB] at c0
      rw [← hbl.cell (p := ⟨b, off + k * 2 + 1, none⟩) hB] at c1
      obtain ⟨x, hxk⟩ : ∃ x, l.getD k (0, .empty) = x := ⟨_, rfl⟩
      rw [hxk] at c0 c1
      have HS : Hid (Bl.sumw (l.take (k + 1)) = wrap64 (Bl.sumw (l.take k) + (x.2.size : Int))) := Bl.sumw_succ hk' hxk
      clear hxk
      obtain ⟨t, s'⟩ := x
      simp only at c0 c1 HS
      have hlt' : (k : Int) < (n : Int) := by omega
      go_wp2
      go_roundw
      case rel => exact ⟨k + 1, _, by omega, by go_num, rfl, by rw [HS.out, ← HY.out], hbl.alloc hsz _⟩
      case measure => simp [intOf]; omega
    · obtain rfl : k = n := by omega
      go_wp2
      go_ret
      have h := HY.out
      rw [← HN.out, List.take_length] at h
      rw [h]
      exact ⟨rfl, hbl⟩
end Go.Proofs.Ytobcjnfombfdmaa
