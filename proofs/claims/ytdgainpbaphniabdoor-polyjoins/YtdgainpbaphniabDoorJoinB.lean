/-
  What poly.Join and the document's Join answer, in whatever world: each by its walk.
-/
import Derived.Test.YtdgainpbaphniabDoorJoin
namespace Go.Proofs.YtdgainpbaphniabDoor
open Go.ChangeShapes Go.WideShapes Go.ChangeAt Go.RowKit

def JoinBad (a b n : Int) : Prop := (a < 0 ∨ 4294967295 < a) ∨ (b < 0 ∨ 4294967295 < b) ∨ n < 0 ∨ 1048576 < n

set_option maxHeartbeats 1000000 in
theorem join_bad (a b n : Int) (w : World) (h : JoinBad a b n) :
    Calls Tryd.prog 12 #[.int .i64 a, .int .i64 b, .int .i64 n] w fun e w' => e = .returned (.tuple #[.int .i64 0, .int .i64 1]) ∧ w' = w := by
  by_cases ha : a < 0 ∨ 4294967295 < a
  · have HA : Hid (a < 0 ∨ 4294967295 < a) := ha
    clear ha h
    go_enter Tryd.func12, Tryd.ntmps12
    go_wp2_with fail
    refine (isSum_no a _ HA.out).mono ?_
    rintro e w' ⟨rfl, rfl⟩
    go_wp2
    go_ret2
    exact ⟨rfl, rfl⟩
  · have HA : Hid (0 ≤ a ∧ a ≤ 4294967295) := ⟨by omega, by omega⟩
    by_cases hb : b < 0 ∨ 4294967295 < b
    · have HB : Hid (b < 0 ∨ 4294967295 < b) := hb
      clear ha hb h
      go_enter Tryd.func12, Tryd.ntmps12
      go_wp2_with fail
      refine (isSum_yes a _ HA.out.1 HA.out.2).mono ?_
      rintro e w' ⟨rfl, rfl⟩
      go_wp2_with fail
      refine (isSum_no b _ HB.out).mono ?_
      rintro e w' ⟨rfl, rfl⟩
      go_wp2
      go_ret2
      exact ⟨rfl, rfl⟩
    · have HB : Hid (0 ≤ b ∧ b ≤ 4294967295) := ⟨by omega, by omega⟩
      by_cases hn : n < 0
      · clear ha hb h
        go_enter Tryd.func12, Tryd.ntmps12
        go_wp2_with fail
        refine (isSum_yes a _ HA.out.1 HA.out.2).mono ?_
        rintro e w' ⟨rfl, rfl⟩
        go_wp2_with fail
        refine (isSum_yes b _ HB.out.1 HB.out.2).mono ?_
        rintro e w' ⟨rfl, rfl⟩
        go_wp2
        go_ret2
        exact ⟨rfl, rfl⟩
      · have hm : 1048576 < n := by
          rcases h with h | h | h | h
          · exact absurd h ha
          · exact absurd h hb
          · exact absurd h hn
          · exact h
        clear ha hb h
        go_enter Tryd.func12, Tryd.ntmps12
        go_wp2_with fail
        refine (isSum_yes a _ HA.out.1 HA.out.2).mono ?_
        rintro e w' ⟨rfl, rfl⟩
        go_wp2_with fail
        refine (isSum_yes b _ HB.out.1 HB.out.2).mono ?_
        rintro e w' ⟨rfl, rfl⟩
        go_wp2
        go_ret2
        exact ⟨rfl, rfl⟩

set_option maxHeartbeats 1000000 in
theorem join_good (a b n : Nat) (w : World) (ha : a < 4294967296) (hb : b < 4294967296) (hn : n ≤ 1048576) :
    Calls Tryd.prog 12 #[.int .i64 a, .int .i64 b, .int .i64 n] w fun e w' => e = .returned (.tuple #[.int .i64 (Pl.joinOf a b n), .int .i64 0]) ∧ w' = w := by
  have HM : Hid (Pl.mul a (Pl.pow8 n) = Pl.bitN (8 * n) a) := Pl.mul_bitN a (8 * n) ha
  have hL := Pl.bitN_lt (8 * n) ha
  have hx := u32_xor (Pl.bitN (8 * n) a) b hL hb
  have hJ := Pl.joinOf_lt n ha hb
  have HJ : Hid (Pl.bitN (8 * n) a ^^^ b = Pl.joinOf a b n) := rfl
  have HP : Hid (Pl.pow8 n < 4294967296) := Pl.pow8_lt n
  rw [HJ.out] at hx
  generalize Pl.bitN (8 * n) a = z at *
  obtain ⟨y, hy⟩ : ∃ y, Pl.joinOf a b n = y := ⟨_, rfl⟩
  have HY : Hid (Pl.joinOf a b n = y) := hy
  rw [hy] at hx hJ
  clear hy HJ
  go_enter Tryd.func12, Tryd.ntmps12
  go_wp2_with fail
  refine (isSum_yes a _ (by omega) (by omega)).mono ?_
  rintro e w' ⟨rfl, rfl⟩
  go_wp2_with fail
  refine (isSum_yes b _ (by omega) (by omega)).mono ?_
  rintro e w' ⟨rfl, rfl⟩
  go_wp2_with fail
  refine (xTo8n_any n _ hn).mono ?_
  rintro e w' ⟨rfl, rfl⟩
  go_wp2_with fail
  refine (times_any a _ _ ha HP.out).mono ?_
  rintro e w' ⟨rfl, rfl⟩
  rw [HM.out]
  go_wp2
  go_ret2
  rw [HY.out]
  exact ⟨rfl, rfl⟩

set_option maxHeartbeats 1000000 in
theorem refJoin_bad (a b n : Int) (w : World) (h : JoinBad a b n) :
    Calls Tryd.prog 13 #[.int .i64 a, .int .i64 b, .int .i64 n] w fun e w' => e = .returned (.tuple #[.int .i64 0, .int .i64 1]) ∧ w' = w := by
  by_cases h1 : a < 0
  · clear h
    go_enter Tryd.func13, Tryd.ntmps13
    go_wp2
    go_ret2
    exact ⟨rfl, rfl⟩
  by_cases h2 : 4294967295 < a
  · clear h
    go_enter Tryd.func13, Tryd.ntmps13
    go_wp2
    go_ret2
    exact ⟨rfl, rfl⟩
  by_cases h3 : b < 0
  · clear h
    go_enter Tryd.func13, Tryd.ntmps13
    go_wp2
    go_ret2
    exact ⟨rfl, rfl⟩
  by_cases h4 : 4294967295 < b
  · clear h
    go_enter Tryd.func13, Tryd.ntmps13
    go_wp2
    go_ret2
    exact ⟨rfl, rfl⟩
  by_cases h5 : n < 0
  · clear h
    go_enter Tryd.func13, Tryd.ntmps13
    go_wp2
    go_ret2
    exact ⟨rfl, rfl⟩
  have h6 : 1048576 < n := by
    unfold JoinBad at h
    omega
  clear h
  go_enter Tryd.func13, Tryd.ntmps13
  go_wp2
  go_ret2
  exact ⟨rfl, rfl⟩

set_option maxHeartbeats 1000000 in
theorem refJoin_good (a b n : Nat) (w : World) (ha : a < 4294967296) (hb : b < 4294967296) (hn : n ≤ 1048576) :
    Calls Tryd.prog 13 #[.int .i64 a, .int .i64 b, .int .i64 n] w fun e w' => e = .returned (.tuple #[.int .i64 (Pl.joinOf a b n), .int .i64 0]) ∧ w' = w := by
  have hn0 := i64_not a ha
  have hq := Pl.xor_lt ha (show 4294967295 < 4294967296 by decide)
  have HR : Hid ((Pl.bitN (8 * n) (a ^^^ 4294967295) ^^^ Pl.bitN (8 * n) 4294967295) ^^^ b = Pl.joinOf a b n) := Pl.joinOf_ref a b n
  generalize a ^^^ 4294967295 = q at *
  have HL : Hid (∀ k, Pl.bitN k q < 4294967296 ∧ Pl.bitN k 4294967295 < 4294967296) := fun k => ⟨Pl.bitN_lt k hq, Pl.bitN_lt k (by decide)⟩
  have HB0 : Hid (∀ r, Pl.byte r 0 = Pl.bitN 8 r) := Pl.byte_zero
  have HBA : Hid (∀ k r, Pl.bitN 8 (Pl.bitN (8 * k) r) = Pl.bitN (8 * (k + 1)) r) := fun k r => by rw [← Pl.bitN_add, Nat.mul_add]
  have h1 : ¬ (a : Int) < 0 := by omega
  have h2 : ¬ 4294967295 < (a : Int) := by omega
  have h3 : ¬ (b : Int) < 0 := by omega
  have h4 : ¬ 4294967295 < (b : Int) := by omega
  have h5 : ¬ (n : Int) < 0 := by omega
  have h6 : ¬ 1048576 < (n : Int) := by omega
  go_enter Tryd.func13, Tryd.ntmps13
  go_wp2
  clear hn0
  go_loop [8, 9, 10] (fun x y i => ∃ k : Nat, k ≤ n ∧ i = .int .i64 k ∧ x = .int .i64 (Pl.bitN (8 * k) q) ∧ y = .int .i64 (Pl.bitN (8 * k) 4294967295)) (fun _ _ i => n - (intOf i).toNat)
  case atStart => exact ⟨0, Nat.zero_le _, rfl, rfl, rfl⟩
  case round =>
    obtain ⟨k, hk, rfl, rfl, rfl⟩ := hrel
    obtain ⟨lx, ly⟩ := HL.out (8 * k)
    by_cases hlt : k < n
    · have H1 : Hid (Pl.byte (Pl.bitN (8 * k) q) 0 = Pl.bitN (8 * (k + 1)) q) := by show _ = _; rw [HB0.out, HBA.out]
      have H2 : Hid (Pl.byte (Pl.bitN (8 * k) 4294967295) 0 = Pl.bitN (8 * (k + 1)) 4294967295) := by show _ = _; rw [HB0.out, HBA.out]
      generalize Pl.bitN (8 * k) q = x at *
      generalize Pl.bitN (8 * k) 4294967295 = y at *
      go_wp2_with fail
      refine (bits_any x 0 _ lx (by decide)).mono ?_
      rintro e w' ⟨rfl, rfl⟩
      rw [H1.out]
      go_wp2_with fail
      refine (bits_any y 0 _ ly (by decide)).mono ?_
      rintro e w' ⟨rfl, rfl⟩
      rw [H2.out]
      go_wp2
      go_round
      case rel => exact ⟨k + 1, by omega, by go_num, rfl, rfl⟩
      case measure => simp [intOf]; omega
    · obtain rfl : k = n := by omega
      have lxy := Pl.xor_lt lx ly
      have x1 := Pl.i64_xor _ _ lx ly
      have x2 := Pl.i64_xor _ b lxy hb
      rw [HR.out] at x2
      generalize Pl.bitN (8 * k) q = x at *
      generalize Pl.bitN (8 * k) 4294967295 = y at *
      generalize x ^^^ y = z at *
      go_wp2
      go_ret2
      exact ⟨rfl, rfl⟩
end Go.Proofs.YtdgainpbaphniabDoor
