/-
  What poly's inner timesX, times and xTo8n, poly.Join and the document's Join answer, in whatever world: each by its walk.
-/
import Derived.Test.YtceeafmahoelfaaDoorPSum
import Derived.Test.YtceeafmahoelfaaDoorPPlainJ
import Derived.Deep.LoopGhost
namespace Go.Proofs.YtceeafmahoelfaaDoor
open Go.ChangeShapes Go.WideShapes Go.ChangeAt Go.RowKit

theorem isSum_yes (n : Int) (w : World) (h0 : 0 ≤ n) (h1 : n ≤ 4294967295) : Calls Tryd.prog 42 #[.int .i64 n] w fun e w' => e = .returned (.bool true) ∧ w' = w := by
  go_enter Tryd.func42, Tryd.ntmps42
  go_wp2
  go_ret
  exact ⟨rfl, rfl⟩
theorem isSum_no (n : Int) (w : World) (h : n < 0 ∨ 4294967295 < n) : Calls Tryd.prog 42 #[.int .i64 n] w fun e w' => e = .returned (.bool false) ∧ w' = w := by
  by_cases h0 : n < 0
  · clear h
    go_enter Tryd.func42, Tryd.ntmps42
    go_wp2
    go_ret
    exact ⟨rfl, rfl⟩
  · have h1 : ¬ n ≤ 4294967295 := by omega
    have h2 : decide (n ≤ 4294967295) = false := by simp [h1]
    clear h
    go_enter Tryd.func42, Tryd.ntmps42
    go_wp2
    go_ret
    exact ⟨rfl, rfl⟩

theorem u32_one (x : Nat) (hx : x < 4294967296) : bits .and .u32 (x : Int) 1 = ((x % 2 : Nat) : Int) := by
  have := u32_and_nat x 1 hx (by decide)
  rw [nat_mask1] at this
  exact this
theorem u32_odd (x : Nat) (hx : x < 4294967296) : bits .xor .u32 ((x : Int) / 2) 3988292384 = ((x / 2 ^^^ 3988292384 : Nat) : Int) := by
  have := u32_xor (x / 2) 3988292384 (by omega) (by decide)
  simpa using this

set_option maxRecDepth 100000 in
set_option maxHeartbeats 400000 in
theorem timesX_any (r : Nat) (w : World) (hr : r < 4294967296) :
    Calls Tryd.prog 47 #[.int .u32 r] w fun e w' => e = .returned (.int .u32 (Pl.bit r)) ∧ w' = w := by
  have h1 := u32_one r hr
  have h2 := u32_odd r hr
  by_cases hp : r % 2 = 1
  · have H : Hid (Pl.bit r = r / 2 ^^^ 3988292384) := by show Pl.bit r = _; unfold Pl.bit; rw [if_pos hp]
    rw [hp] at h1
    clear hp
    go_enter Tryd.func47, Tryd.ntmps47
    go_wp2
    go_ret
    rw [H.out]
    exact ⟨rfl, rfl⟩
  · have H : Hid (Pl.bit r = r / 2) := by show Pl.bit r = _; unfold Pl.bit; rw [if_neg hp]
    have h0 : r % 2 = 0 := by omega
    rw [h0] at h1
    clear hp h0
    go_enter Tryd.func47, Tryd.ntmps47
    go_wp2
    go_ret
    rw [H.out]
    exact ⟨by go_num, rfl⟩

theorem u32_top_yes (x : Nat) (hx : x < 4294967296) (h : 2147483648 ≤ x) : bits .and .u32 (x : Int) 2147483648 = 2147483648 := by
  have := u32_and_nat x 2147483648 hx (by decide)
  have e := nat_bit 31 x
  have p : (2 : Nat) ^ 31 = 2147483648 := by decide
  rw [p] at e
  rw [e, show x / 2147483648 % 2 = 1 from by omega] at this
  exact this
theorem u32_top_no (x : Nat) (hx : x < 4294967296) (h : ¬ 2147483648 ≤ x) : bits .and .u32 (x : Int) 2147483648 = 0 := by
  have := u32_and_nat x 2147483648 hx (by decide)
  have e := nat_bit 31 x
  have p : (2 : Nat) ^ 31 = 2147483648 := by decide
  rw [p] at e
  rw [e, show x / 2147483648 % 2 = 0 from by omega] at this
  exact this

set_option maxRecDepth 100000 in
set_option maxHeartbeats 1000000 in
theorem times_any (a b : Nat) (w : World) (ha : a < 4294967296) (hb : b < 4294967296) :
    Calls Tryd.prog 43 #[.int .u32 a, .int .u32 b] w fun e w' => e = .returned (.int .u32 (Pl.mul a b)) ∧ w' = w := by
  have HS0 : Hid (Pl.shl a 0 = a) := Pl.shl_zero a ha
  have HPL : Hid (∀ k, Pl.part a b k < 4294967296) := Pl.part_lt a b hb
  have HBL : Hid (∀ k, Pl.bitN k b < 4294967296) := fun k => Pl.bitN_lt k hb
  go_enter Tryd.func43, Tryd.ntmps43
  go_wp2
  go_loopg [0, 1, 5] 32 (fun g x y p wr => ∃ k : Nat, k + g = 32 ∧ x = .int .u32 (Pl.shl a k) ∧ y = .int .u32 (Pl.bitN k b) ∧ p = .int .u32 (Pl.part a b k) ∧ wr = w)
  case atStart => exact ⟨0, rfl, by rw [HS0.out], rfl, rfl, rfl⟩
  case round =>
    obtain ⟨k, hk, rfl, rfl, rfl, rfl⟩ := hrel
    have hx := Pl.shl_lt a k
    have hy := HBL.out k
    have hp := HPL.out k
    by_cases h0 : Pl.shl a k = 0
    · have HM : Hid (Pl.mul a b = Pl.part a b k) := Pl.part_rest a b k h0 (by omega)
      rw [h0]
      clear h0 hx hk
      generalize hpp : Pl.part a b k = p at *
      generalize Pl.bitN k b = y at *
      clear hpp
      go_wp2
      go_ret
      rw [HM.out]
      exact ⟨rfl, rfl⟩
    · have hk31 : k ≤ 31 := by
        rcases Nat.lt_or_ge k 32 with h | h
        · omega
        · have : k = 32 := by omega
          rw [this] at h0
          exact absurd (Pl.shl_end a) h0
      have HX : Hid (Pl.shl a (k + 1) = Pl.shl a k * 2 % 4294967296) := Pl.shl_succ a k
      have HY : Hid (Pl.bitN (k + 1) b = Pl.bit (Pl.bitN k b)) := bitN_succ k b
      have hne : ((Pl.shl a k : Int) != 0) = true := by simp [h0]
      by_cases ht : 2147483648 ≤ Pl.shl a k
      · have HP : Hid (Pl.part a b (k + 1) = Pl.part a b k ^^^ Pl.bitN k b) := by
          show Pl.part a b (k + 1) = _
          have hbit : a.testBit (31 - k) = true := by rw [← Pl.shl_top a k hk31]; exact ht
          conv => lhs; unfold Pl.part
          rw [if_pos hbit]
        have hand := u32_top_yes _ hx ht
        have hxor := u32_xor _ _ hp hy
        have HKK : Hid (k + gk = 32) := hk
        clear ht h0 hk
        generalize Pl.shl a k = x at *
        generalize Pl.bitN k b = y at *
        generalize Pl.part a b k = p at *
        go_wp2_with (go_at_call 47; refine (timesX_any y _ hy).mono ?_; rintro e w' ⟨rfl, rfl⟩)
        go_roundg (gk - 1)
        case measure => have := HKK.out; omega
        case rel =>
          have hkk := HKK.out
          refine ⟨k + 1, by omega, ?_, ?_, ?_, rfl⟩
          · rw [HX.out]; first | rfl | go_num | simp
          · rw [HY.out]
          · rw [HP.out]
      · have HP : Hid (Pl.part a b (k + 1) = Pl.part a b k) := by
          show Pl.part a b (k + 1) = _
          have hbit : ¬ a.testBit (31 - k) = true := by rw [← Pl.shl_top a k hk31]; exact ht
          conv => lhs; unfold Pl.part
          rw [if_neg hbit]
        have hand := u32_top_no _ hx ht
        have HKK : Hid (k + gk = 32) := hk
        clear ht h0 hk
        generalize Pl.shl a k = x at *
        generalize Pl.bitN k b = y at *
        generalize Pl.part a b k = p at *
        go_wp2_with (go_at_call 47; refine (timesX_any y _ hy).mono ?_; rintro e w' ⟨rfl, rfl⟩)
        go_roundg (gk - 1)
        case measure => have := HKK.out; omega
        case rel =>
          have hkk := HKK.out
          refine ⟨k + 1, by omega, ?_, ?_, ?_, rfl⟩
          · rw [HX.out]; first | rfl | go_num | simp
          · rw [HY.out]
          · rw [HP.out]

theorem i64_one (x : Nat) (hx : x < 4294967296) : bits .and .i64 (x : Int) 1 = ((x % 2 : Nat) : Int) := by
  show IntKind.i64.wrap ((BitVec.ofInt 64 (x : Int) &&& BitVec.ofInt 64 ((1 : Nat) : Int)).toNat : Int) = _
  rw [BitVec.toNat_and, ofInt_u64 x (by omega), ofInt_u64 1 (by omega), nat_mask1, Pl.wrap_i64 _ (by omega)]

namespace Pl
/-- x to the power 8 m -/
def pow8 (m : Nat) : Nat := bitN (8 * m) 2147483648
theorem pow8_lt (m : Nat) : pow8 m < 4294967296 := bitN_lt _ (by decide)
theorem mul_pow8 (p q : Nat) : mul (pow8 p) (pow8 q) = pow8 (p + q) := by
  unfold pow8
  rw [mul_bitN _ _ (bitN_lt _ (by decide)), ← bitN_add, ← Nat.mul_add]
end Pl

set_option maxRecDepth 100000 in
set_option maxHeartbeats 1000000 in
theorem xTo8n_any (n : Nat) (w : World) (hn : n ≤ 1048576) :
    Calls Tryd.prog 44 #[.int .i64 n] w fun e w' => e = .returned (.int .u32 (Pl.pow8 n)) ∧ w' = w := by
  have H0 : Hid (Pl.pow8 0 = 2147483648 ∧ Pl.pow8 1 = 8388608) := ⟨rfl, by decide⟩
  have HML : Hid (∀ p q, Pl.mul (Pl.pow8 p) (Pl.pow8 q) = Pl.pow8 (p + q)) := Pl.mul_pow8
  have HPL : Hid (∀ m, Pl.pow8 m < 4294967296) := Pl.pow8_lt
  go_enter Tryd.func44, Tryd.ntmps44
  go_wp2
  go_loop [0, 3, 4] (fun t x y => ∃ m p q : Nat, p + q * m = n ∧ m ≤ 1048576 ∧ t = .int .i64 m ∧ x = .int .u32 (Pl.pow8 p) ∧ y = .int .u32 (Pl.pow8 q)) (fun t _ _ => (intOf t).toNat)
  case atStart => exact ⟨n, 0, 1, by omega, hn, rfl, by rw [H0.out.1]; rfl, by rw [H0.out.2]; rfl⟩
  case round =>
    obtain ⟨m, p, q, hm, hml, rfl, rfl, rfl⟩ := hrel
    have HM : Hid (p + q * m = n) := hm
    clear hm
    by_cases h0 : m = 0
    · subst h0
      have HE : Hid (p = n) := by have := HM.out; show p = n; omega
      go_wp2
      go_ret
      rw [HE.out]
      exact ⟨rfl, rfl⟩
    · have h1 := i64_one m (by omega)
      have hpos : (0 : Int) < (m : Int) := by omega
      have HX1 := HML.out p q
      have HX2 := HML.out q q
      have lp := HPL.out p
      have lq := HPL.out q
      by_cases hodd : m % 2 = 1
      · rw [hodd] at h1
        have HN : Hid (p + q + (q + q) * (m / 2) = n) := by
          have := HM.out
          show p + q + (q + q) * (m / 2) = n
          have e : q * m = q + (q + q) * (m / 2) := by
            have e1 : m = 2 * (m / 2) + 1 := by omega
            conv => lhs; rw [e1]
            rw [Nat.mul_add, Nat.mul_one, ← Nat.mul_assoc, Nat.mul_comm q 2, Nat.two_mul]; omega
          omega
        have HQ1 : Hid (Pl.mul (Pl.pow8 p) (Pl.pow8 q) = Pl.pow8 (p + q)) := HX1
        have HQ2 : Hid (Pl.mul (Pl.pow8 q) (Pl.pow8 q) = Pl.pow8 (q + q)) := HX2
        clear HX1 HX2 hodd
        go_wp2_with fail
        refine (times_any _ _ _ lp lq).mono ?_
        rintro e w' ⟨rfl, rfl⟩
        rw [HQ1.out]
        go_wp2_with fail
        refine (times_any _ _ _ lq lq).mono ?_
        rintro e w' ⟨rfl, rfl⟩
        rw [HQ2.out]
        go_wp2
        go_round
        case rel => exact ⟨m / 2, p + q, q + q, HN.out, by omega, by go_num, rfl, rfl⟩
        case measure => simp [intOf]; omega
      · have he : m % 2 = 0 := by omega
        rw [he] at h1
        have HN : Hid (p + (q + q) * (m / 2) = n) := by
          have := HM.out
          show p + (q + q) * (m / 2) = n
          have e : q * m = (q + q) * (m / 2) := by
            have e1 : m = 2 * (m / 2) := by omega
            conv => lhs; rw [e1]
            rw [← Nat.mul_assoc, Nat.mul_comm q 2, Nat.two_mul]
          omega
        have HQ2 : Hid (Pl.mul (Pl.pow8 q) (Pl.pow8 q) = Pl.pow8 (q + q)) := HX2
        clear HX1 HX2 hodd he
        go_wp2_with fail
        refine (times_any _ _ _ lq lq).mono ?_
        rintro e w' ⟨rfl, rfl⟩
        rw [HQ2.out]
        go_wp2
        go_round
        case rel => exact ⟨m / 2, p, q + q, HN.out, by omega, by go_num, rfl, rfl⟩
        case measure => simp [intOf]; omega
set_option maxRecDepth 100000 in
set_option maxHeartbeats 1000000 in
theorem join_good (a b n : Nat) (w : World) (ha : a < 4294967296) (hb : b < 4294967296) (hn : n ≤ 1048576) :
    Calls Tryd.prog 38 #[.int .i64 a, .int .i64 b, .int .i64 n] w fun e w' => e = .returned (.tuple #[.int .i64 (Pl.joinOf a b n), .int .i64 0]) ∧ w' = w := by
  have HM : Hid (Pl.mul a (Pl.pow8 n) = Pl.bitN (8 * n) a) := Pl.mul_bitN a (8 * n) ha
  have hL := Pl.bitN_lt (8 * n) ha
  have hx := u32_xor (Pl.bitN (8 * n) a) b hL hb
  have hJ := Pl.joinOf_lt n ha hb
  have HJ : Hid (Pl.bitN (8 * n) a ^^^ b = Pl.joinOf a b n) := rfl
  have HP : Hid (Pl.pow8 n < 4294967296) := Pl.pow8_lt n
  rw [HJ.out] at hx
  generalize Pl.bitN (8 * n) a = z at *
  obtain ⟨y, hy⟩ : ∃ y, Pl.joinOf a b n = y := ⟨_, rfl⟩
  have HY : Hid (Pl.joinOf a b n = y) := hy
  rw [hy] at hx hJ
  clear hy HJ
  go_enter Tryd.func38, Tryd.ntmps38
  go_wp2_with fail
  refine (isSum_yes a _ (by omega) (by omega)).mono ?_
  rintro e w' ⟨rfl, rfl⟩
  go_wp2_with fail
  refine (isSum_yes b _ (by omega) (by omega)).mono ?_
  rintro e w' ⟨rfl, rfl⟩
  go_wp2_with fail
  refine (xTo8n_any n _ hn).mono ?_
  rintro e w' ⟨rfl, rfl⟩
  go_wp2_with fail
  refine (times_any a _ _ ha HP.out).mono ?_
  rintro e w' ⟨rfl, rfl⟩
  rw [HM.out]
  go_wp2
  go_ret2
  rw [HY.out]
  exact ⟨rfl, rfl⟩

end Go.Proofs.YtceeafmahoelfaaDoor
