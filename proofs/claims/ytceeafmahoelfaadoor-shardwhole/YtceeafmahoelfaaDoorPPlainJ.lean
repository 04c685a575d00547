/-
  Plain facts on products of remainders (no program).
-/
import Derived.Test.YtceeafmahoelfaaDoorPPlain
namespace Go.Proofs.YtceeafmahoelfaaDoor
namespace Pl

def part (a b : Nat) : Nat → Nat
  | 0 => 0
  | k + 1 => if a.testBit (31 - k) then part a b k ^^^ bitN k b else part a b k
def mul (a b : Nat) : Nat := part a b 32

theorem part_lt (a b : Nat) (hb : b < 4294967296) : ∀ k, part a b k < 4294967296
  | 0 => by simp [part]
  | k + 1 => by
    unfold part
    split
    · exact xor_lt (part_lt a b hb k) (bitN_lt k hb)
    · exact part_lt a b hb k
theorem mul_lt (a b : Nat) (hb : b < 4294967296) : mul a b < 4294967296 := part_lt a b hb 32

theorem bitN_zero : ∀ k, bitN k 0 = 0
  | 0 => rfl
  | k + 1 => bitN_zero k
theorem bitN_comm (a b r : Nat) : bitN a (bitN b r) = bitN b (bitN a r) := by rw [← bitN_add, ← bitN_add, Nat.add_comm]
theorem bitN_one : ∀ i, i ≤ 31 → bitN i 2147483648 = 2 ^ (31 - i)
  | 0, _ => rfl
  | i + 1, h => by
    have e := bitN_add i 1 2147483648
    rw [e, bitN_one i (by omega)]
    show bit (2 ^ (31 - i)) = _
    rw [show 31 - i = (31 - (i + 1)) + 1 from by omega, Nat.pow_succ, Nat.mul_comm, bit_even]
theorem part_bit (a : Nat) : ∀ k, k ≤ 32 → ∀ j, (part a 2147483648 k).testBit j = (decide (32 - k ≤ j) && decide (j < 32) && a.testBit j)
  | 0, _, j => by
    simp [part]
    omega
  | k + 1, hk, j => by
    have ih := part_bit a k (by omega) j
    unfold part
    split
    · rename_i hb
      rw [Nat.testBit_xor, ih, bitN_one k (by omega), Nat.testBit_two_pow]
      by_cases hj : 31 - k = j
      · subst hj
        have h1 : decide (32 - k ≤ 31 - k) = false := by rw [decide_eq_false_iff_not]; omega
        have h2 : decide (32 - (k + 1) ≤ 31 - k) = true := by rw [decide_eq_true_iff]; omega
        have h3 : decide (31 - k < 32) = true := by rw [decide_eq_true_iff]; omega
        rw [h1, h2, h3, hb]
        simp
      · have h1 : decide (32 - k ≤ j) = decide (32 - (k + 1) ≤ j) := by
          rw [decide_eq_decide]; omega
        have h2 : decide (31 - k = j) = false := by rw [decide_eq_false_iff_not]; exact hj
        rw [h1, h2, Bool.xor_false]
    · rename_i hb
      rw [ih]
      by_cases hj : 31 - k = j
      · subst hj
        simp [Bool.not_eq_true] at hb
        simp [hb]
      · have h1 : decide (32 - k ≤ j) = decide (32 - (k + 1) ≤ j) := by
          rw [decide_eq_decide]; omega
        rw [h1]
theorem mul_one (a : Nat) (ha : a < 4294967296) : mul a 2147483648 = a := by
  apply Nat.eq_of_testBit_eq
  intro j
  rw [mul, part_bit a 32 (Nat.le_refl _) j]
  by_cases hj : j < 32
  · simp [hj]
  · have : a.testBit j = false := Nat.testBit_lt_two_pow (Nat.lt_of_lt_of_le (by simpa using ha) (Nat.pow_le_pow_right (by decide) (Nat.le_of_not_lt hj)))
    simp [this]
theorem part_bitN (a b m : Nat) : ∀ k, part a (bitN m b) k = bitN m (part a b k)
  | 0 => (bitN_zero m).symm
  | k + 1 => by
    unfold part
    split
    · rw [part_bitN a b m k, bitN_xor, bitN_comm]
    · exact part_bitN a b m k
theorem mul_bitN (a m : Nat) (ha : a < 4294967296) : mul a (bitN m 2147483648) = bitN m a := by
  unfold mul
  rw [part_bitN]
  have := mul_one a ha
  unfold mul at this
  rw [this]

/-- the loop's first number behind k rounds -/
def shl (a k : Nat) : Nat := a * 2 ^ k % 4294967296
theorem shl_zero (a : Nat) (h : a < 4294967296) : shl a 0 = a := by simp [shl]; omega
theorem shl_lt (a k : Nat) : shl a k < 4294967296 := Nat.mod_lt _ (by decide)
theorem shl_succ (a k : Nat) : shl a (k + 1) = shl a k * 2 % 4294967296 := by
  unfold shl
  rw [Nat.mod_mul_mod, Nat.pow_succ, Nat.mul_assoc]
theorem shl_end (a : Nat) : shl a 32 = 0 := by
  unfold shl
  exact Nat.mul_mod_left a 4294967296
theorem shl_bit (a k j : Nat) : (shl a k).testBit j = (decide (j < 32) && (decide (k ≤ j) && a.testBit (j - k))) := by
  unfold shl
  rw [show (4294967296 : Nat) = 2 ^ 32 from rfl, Nat.testBit_mod_two_pow, Nat.mul_comm, Nat.testBit_two_pow_mul]
theorem shl_top (a k : Nat) (hk : k ≤ 31) : (2147483648 ≤ shl a k) = (a.testBit (31 - k) = true) := by
  have h := shl_bit a k 31
  have hb : (shl a k).testBit 31 = decide (2147483648 ≤ shl a k) := by
    have hl := shl_lt a k
    rw [Nat.testBit_eq_decide_div_mod_eq]
    rw [decide_eq_decide]
    have e : (2 : Nat) ^ 31 = 2147483648 := by decide
    rw [e]
    omega
  rw [hb] at h
  have h1 : decide (31 < 32) = true := rfl
  have h2 : decide (k ≤ 31) = true := by rw [decide_eq_true_iff]; exact hk
  rw [h1, h2, Bool.true_and, Bool.true_and] at h
  rw [← h, decide_eq_true_eq]
theorem part_rest (a b k : Nat) (h : shl a k = 0) (hk : k ≤ 32) : mul a b = part a b k := by
  have key : ∀ d, k + d ≤ 32 → part a b (k + d) = part a b k := by
    intro d
    induction d with
    | zero => intro _; rfl
    | succ d ih =>
      intro hd
      have hz : a.testBit (31 - (k + d)) = false := by
        have := shl_bit a k (31 - d)
        rw [h, Nat.zero_testBit] at this
        have e1 : decide (31 - d < 32) = true := by simp; omega
        have e2 : decide (k ≤ 31 - d) = true := by simp; omega
        rw [e1, e2, Bool.true_and, Bool.true_and, show 31 - d - k = 31 - (k + d) from by omega] at this
        exact this.symm
      have e : part a b (k + d + 1) = part a b (k + d) := by
        conv => lhs; unfold part
        rw [hz]
        rfl
      rw [← Nat.add_assoc, e]
      exact ih (by omega)
  have := key (32 - k) (by omega)
  rw [show k + (32 - k) = 32 from by omega] at this
  exact this

theorem byte_zero (r : Nat) : byte r 0 = bitN 8 r := by unfold byte; rw [Nat.xor_zero]
theorem sums_lin : ∀ (l : List UInt8) (r q : Nat), sums (r ^^^ q) l = bitN (8 * l.length) r ^^^ sums q l
  | [], r, q => rfl
  | b :: l, r, q => by
    have e : byte (r ^^^ q) b.toNat = bitN 8 r ^^^ byte q b.toNat := by
      unfold byte
      rw [Nat.xor_assoc, bitN_xor]
    show sums (byte (r ^^^ q) b.toNat) l = _ ^^^ sums (byte q b.toNat) l
    rw [e, sums_lin l, ← bitN_add, List.length_cons, show 8 * (l.length + 1) = 8 + 8 * l.length from by omega]
def joinOf (a b n : Nat) : Nat := bitN (8 * n) a ^^^ b
theorem joinOf_lt {a b : Nat} (n : Nat) (ha : a < 4294967296) (hb : b < 4294967296) : joinOf a b n < 4294967296 := xor_lt (bitN_lt _ ha) hb
theorem join_crc (s t : List UInt8) : joinOf (crc s) (crc t) t.length = crc (s ++ t) := by
  have h : sums 4294967295 s = crc s ^^^ 4294967295 := by unfold crc; rw [Nat.xor_assoc, Nat.xor_self, Nat.xor_zero]
  have e : crc (s ++ t) = sums (crc s ^^^ 4294967295) t ^^^ 4294967295 := by rw [← h, ← sums_append]; rfl
  rw [e, sums_lin, Nat.xor_assoc]
  rfl
theorem joinOf_ref (a b n : Nat) : (bitN (8 * n) (a ^^^ 4294967295) ^^^ bitN (8 * n) 4294967295) ^^^ b = joinOf a b n := by
  rw [bitN_xor, Nat.xor_assoc (bitN (8 * n) a), Nat.xor_self, Nat.xor_zero]
  rfl
end Pl
end Go.Proofs.YtceeafmahoelfaaDoor
