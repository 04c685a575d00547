/-
  What poly.More and the document's More answer, in a world that holds the table: each by its walk.
-/
import Derived.Test.YtdgainpbaphniabDoorSum
namespace Go.Proofs.YtdgainpbaphniabDoor
open Go.ChangeShapes Go.WideShapes Go.ChangeAt Go.RowKit

namespace Pl
def isBad (sum : Int) : Prop := sum < 0 ∨ 4294967295 < sum
def moreOf (r : Nat) (l : List UInt8) : Nat := sums (r ^^^ 4294967295) l ^^^ 4294967295
theorem moreOf_lt (r : Nat) (l : List UInt8) (h : r < 4294967296) : moreOf r l < 4294967296 := xor_lt (sums_lt l (xor_lt h (by decide))) (by decide)
theorem moreOf_crc (a b : List UInt8) : moreOf (crc a) b = crc (a ++ b) := by
  unfold moreOf crc
  rw [Nat.xor_assoc, Nat.xor_self, Nat.xor_zero, sums_append]
end Pl

theorem isSum_yes (n : Int) (w : World) (h0 : 0 ≤ n) (h1 : n ≤ 4294967295) : Calls Tryd.prog 20 #[.int .i64 n] w fun e w' => e = .returned (.bool true) ∧ w' = w := by
  go_enter Tryd.func20, Tryd.ntmps20
  go_wp2
  go_ret
  exact ⟨rfl, rfl⟩
theorem isSum_no (n : Int) (w : World) (h : n < 0 ∨ 4294967295 < n) : Calls Tryd.prog 20 #[.int .i64 n] w fun e w' => e = .returned (.bool false) ∧ w' = w := by
  by_cases h0 : n < 0
  · clear h
    go_enter Tryd.func20, Tryd.ntmps20
    go_wp2
    go_ret
    exact ⟨rfl, rfl⟩
  · have h1 : ¬ n ≤ 4294967295 := by omega
    have h2 : decide (n ≤ 4294967295) = false := by simp [h1]
    clear h
    go_enter Tryd.func20, Tryd.ntmps20
    go_wp2
    go_ret
    exact ⟨rfl, rfl⟩

set_option maxHeartbeats 400000 in
theorem more_bad (n : Int) (s : ByteArray) (w : World) (h : n < 0 ∨ 4294967295 < n) :
    Calls Tryd.prog 10 #[.int .i64 n, .string s] w fun e w' => e = .returned (.tuple #[.int .i64 0, .int .i64 1]) ∧ w' = w := by
  have H : Hid (n < 0 ∨ 4294967295 < n) := h
  clear h
  go_enter Tryd.func10, Tryd.ntmps10
  go_wp2_with fail
  refine (isSum_no n _ H.out).mono ?_
  rintro e w' ⟨rfl, rfl⟩
  go_wp2
  go_ret2
  exact ⟨rfl, rfl⟩

set_option maxHeartbeats 400000 in
theorem more_good (r : Nat) (s : ByteArray) (w : World) (hr : r < 4294967296) (hs : s.size ≤ maxLen) (ht : Tab w) :
    Calls Tryd.prog 10 #[.int .i64 r, .string s] w fun e w' => e = .returned (.tuple #[.int .i64 (Pl.moreOf r s.data.toList), .int .i64 0]) ∧ w' = w := by
  have HT : Hid (Tab w) := ht
  have hm := Pl.moreOf_lt r s.data.toList hr
  have HM : Hid (Pl.sums (r ^^^ 4294967295) s.data.toList ^^^ 4294967295 = Pl.moreOf r s.data.toList) := rfl
  clear ht
  go_enter Tryd.func10, Tryd.ntmps10
  go_wp2_with fail
  refine (isSum_yes r _ (by omega) (by omega)).mono ?_
  rintro e w' ⟨rfl, rfl⟩
  go_wp2_with fail
  refine (goOn_any r s _ hr hs HT.out).mono ?_
  rintro e w' ⟨rfl, rfl⟩
  rw [HM.out]
  generalize hq : Pl.moreOf r s.data.toList = m at *
  have HQ : Hid (Pl.moreOf r s.data.toList = m) := hq
  clear hq
  go_wp2
  go_ret2
  rw [HQ.out]
  exact ⟨rfl, rfl⟩

set_option maxHeartbeats 400000 in
theorem refMore_bad (n : Int) (s : ByteArray) (w : World) (h : n < 0 ∨ 4294967295 < n) :
    Calls Tryd.prog 11 #[.int .i64 n, .string s] w fun e w' => e = .returned (.tuple #[.int .i64 0, .int .i64 1]) ∧ w' = w := by
  rcases h with h | h
  all_goals
    go_enter Tryd.func11, Tryd.ntmps11
    go_wp2
    go_ret2
    exact ⟨rfl, rfl⟩

set_option maxHeartbeats 400000 in
theorem refMore_good (r : Nat) (s : ByteArray) (w : World) (hr : r < 4294967296) (hs : s.size ≤ maxLen) :
    Calls Tryd.prog 11 #[.int .i64 r, .string s] w fun e w' => e = .returned (.tuple #[.int .i64 (Pl.moreOf r s.data.toList), .int .i64 0]) ∧ w' = w := by
  unfold maxLen at hs
  have hn0 := i64_not r hr
  have hr' := Pl.xor_lt hr (show 4294967295 < 4294967296 by decide)
  have HM : Hid (Pl.moreOf r s.data.toList = Pl.sums (r ^^^ 4294967295) s.data.toList ^^^ 4294967295) := rfl
  obtain ⟨q, hq⟩ : ∃ q, r ^^^ 4294967295 = q := ⟨_, rfl⟩
  rw [hq] at hn0 hr' HM
  clear hq
  have HL : Hid (∀ k, Pl.sums q (s.data.toList.take k) < 4294967296) := fun k => Pl.sums_lt _ hr'
  have h1 : ¬ (r : Int) < 0 := by omega
  have h2 : ¬ 4294967295 < (r : Int) := by omega
  go_enter Tryd.func11, Tryd.ntmps11
  go_wp2
  clear hn0
  go_loop [6, 7] (fun t i => ∃ k : Nat, k ≤ s.size ∧ i = .int .i64 k ∧ t = .int .i64 (Pl.sums q (s.data.toList.take k))) (fun _ i => s.size - (intOf i).toNat)
  case atStart => exact ⟨0, by omega, rfl, rfl⟩
  case round =>
    obtain ⟨k, hk, rfl, rfl⟩ := hrel
    have hx := HL.out k
    by_cases hlt : k < s.size
    · have HS : Hid (Pl.sums q (s.data.toList.take (k + 1)) = Pl.byte (Pl.sums q (s.data.toList.take k)) (s[k]'hlt).toNat) := by
        show _ = _
        rw [take_snoc s k hlt, Pl.sums_snoc]
      generalize Pl.sums q (s.data.toList.take k) = x at *
      have hb := (s[k]'hlt).toNat_lt
      go_wp2_with fail
      refine (bits_any x (s[k]'hlt).toNat _ hx hb).mono ?_
      rintro e w' ⟨rfl, rfl⟩
      go_wp2
      go_round
      case rel => exact ⟨k + 1, by omega, by go_num, by rw [HS.out]⟩
      case measure => simp [intOf]; omega
    · obtain rfl : k = s.size := by omega
      rw [List.take_of_length_le (by simp)] at hx ⊢
      generalize Pl.sums q s.data.toList = x at *
      have hn := i64_not x hx
      go_wp2
      go_ret2
      rw [HM.out]
      exact ⟨rfl, rfl⟩
end Go.Proofs.YtdgainpbaphniabDoor
