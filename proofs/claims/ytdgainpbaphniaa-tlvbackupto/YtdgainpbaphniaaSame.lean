/-
  The statements' own same says yes of two lists of fields that are one list: by its walk.
-/
import Derived.Test.YtdgainpbaphniaaNum
import Derived.Test.YtdgainpbaphniaaFields
import Derived.BigQuiet
import Derived.Deep.QuietTactic
namespace Go.Proofs.Ytdgainpbaphniaa
open Go.ChangeShapes Go.WideShapes Go.ChangeAt Go.RowKit Go.Deep

set_option maxHeartbeats 1000000 in
theorem same_any (u v : Value) (l : List (Int × ByteArray)) (w : World) (hu : FieldsAt w.heap.size w u l) (hv : FieldsAt w.heap.size w v l) :
    Calls Try.prog 14 #[u, v] w fun e w' => e = .returned (.bool true) ∧ Below w.heap.size w w' := by
  rcases hu with ⟨ao, cap, rfl, rfl⟩ | ⟨b, off, cap, rfl, hB, hp, hlc, hm, hx⟩
  · rcases hv with ⟨ao', cap', rfl, _⟩ | ⟨b', off', cap', rfl, hB', hp', hlc', hm', hx'⟩
    · go_enter Try.func14, Try.ntmps14
      go_wp2
      refine wp_loop_rounds 1 ?_
      rw [rounds_succ]
      go_wp2
      go_ret
      exact ⟨rfl, Below.refl _ _⟩
    · simp at hp'
  · rcases hv with ⟨ao', cap', rfl, rfl⟩ | ⟨b', off', cap', rfl, hB', hp', hlc', hm', hx'⟩
    · simp at hp
    · unfold maxLen at hm hm'
      obtain ⟨n, hn⟩ : ∃ n, l.length = n := ⟨_, rfl⟩
      rw [hn] at hp hlc hlc' hx hx' ⊢
      have HX : Hid ((∀ i, i < n → w.cell? ⟨b, off + i * 2, none⟩ = some (.int .i64 (l.getD i (0, .empty)).1) ∧ w.cell? ⟨b, off + i * 2 + 1, none⟩ = some (.string (l.getD i (0, .empty)).2)) ∧
        (∀ i, i < n → w.cell? ⟨b', off' + i * 2, none⟩ = some (.int .i64 (l.getD i (0, .empty)).1) ∧ w.cell? ⟨b', off' + i * 2 + 1, none⟩ = some (.string (l.getD i (0, .empty)).2))) := ⟨hx, hx'⟩
      clear hn hx hx' hp'
      go_enter Try.func14, Try.ntmps14
      go_wp2
      go_loopw [13] (fun i wr => ∃ k : Nat, k ≤ n ∧ i = .int .i64 k ∧ Below w.heap.size w wr) (fun i _ => n - (intOf i).toNat)
      case atStart => exact ⟨0, Nat.zero_le _, rfl, Below.refl _ _⟩
      case round =>
        obtain ⟨k, hk, rfl, hbl⟩ := hrel
        by_cases hlt : k < n
        · obtain ⟨c0, c1⟩ := HX.out.1 k hlt
          obtain ⟨d0, d1⟩ := HX.out.2 k hlt
          rw [← hbl.cell (p := ⟨b, off + k * 2, none⟩) hB] at c0
          rw [← hbl.cell (p := ⟨b, off + k * 2 + 1, none⟩) hB] at c1
          rw [← hbl.cell (p := ⟨b', off' + k * 2, none⟩) hB'] at d0
          rw [← hbl.cell (p := ⟨b', off' + k * 2 + 1, none⟩) hB'] at d1
          generalize l.getD k (0, .empty) = f at c0 c1 d0 d1
          obtain ⟨t, s⟩ := f
          have hlt' : (k : Int) < (n : Int) := by omega
          go_wp2
          go_quiet (fail)
          go_wp2
          go_roundw
          case rel => exact ⟨k + 1, by omega, by go_num, Go.below_drewN hbl _⟩
          case measure => simp [intOf]; omega
        · obtain rfl : k = n := by omega
          go_wp2
          go_ret
          exact ⟨rfl, hbl⟩
end Go.Proofs.Ytdgainpbaphniaa
