/-
  Plain facts on the sum (no program): remainders as numbers, bit by bit and half a byte at a time.
-/
import Derived.WalkKit
import Derived.Laws.BitsAllLaws
namespace Go.Proofs.YtlmoibicepppmaaDoor.Po
set_option maxRecDepth 100000
namespace Pl

def bit (r : Nat) : Nat := if r % 2 = 1 then r / 2 ^^^ 3988292384 else r / 2
def bitN : Nat → Nat → Nat
  | 0, r => r
  | k + 1, r => bitN k (bit r)
def byte (r c : Nat) : Nat := bitN 8 (r ^^^ c)
def sums (r : Nat) (l : List UInt8) : Nat := l.foldl (fun r b => byte r b.toNat) r
def half (j : Nat) : Nat := bitN 4 j
def crc (l : List UInt8) : Nat := sums 4294967295 l ^^^ 4294967295

theorem xor_lt {a b : Nat} (ha : a < 4294967296) (hb : b < 4294967296) : a ^^^ b < 4294967296 := Nat.xor_lt_two_pow (n := 32) ha hb
theorem bit_lt {r : Nat} (h : r < 4294967296) : bit r < 4294967296 := by
  unfold bit
  split
  · exact xor_lt (by omega) (by decide)
  · omega
theorem bitN_lt : ∀ (k : Nat) {r : Nat}, r < 4294967296 → bitN k r < 4294967296
  | 0, _, h => h
  | k + 1, _, h => bitN_lt k (bit_lt h)
theorem byte_lt {r c : Nat} (hr : r < 4294967296) (hc : c < 256) : byte r c < 4294967296 := bitN_lt 8 (xor_lt hr (by omega))
theorem sums_lt : ∀ (l : List UInt8) {r : Nat}, r < 4294967296 → sums r l < 4294967296
  | [], _, h => h
  | b :: l, _, h => sums_lt l (byte_lt h b.toNat_lt)
theorem crc_lt (l : List UInt8) : crc l < 4294967296 := xor_lt (sums_lt l (by decide)) (by decide)
theorem sums_snoc (r : Nat) (l : List UInt8) (b : UInt8) : sums r (l ++ [b]) = byte (sums r l) b.toNat := by simp [sums]
theorem sums_append (r : Nat) (a b : List UInt8) : sums r (a ++ b) = sums (sums r a) b := by simp [sums]
theorem bitN_add : ∀ (a b r : Nat), bitN (a + b) r = bitN b (bitN a r)
  | 0, b, r => by rw [Nat.zero_add]; rfl
  | a + 1, b, r => by rw [Nat.succ_add]; exact bitN_add a b (bit r)

theorem bit_xor (a b : Nat) : bit (a ^^^ b) = bit a ^^^ bit b := by
  have hd : (a ^^^ b) / 2 = a / 2 ^^^ b / 2 := by
    have := Nat.xor_div_two_pow (a := a) (b := b) (n := 1)
    simpa using this
  have hm : (a ^^^ b) % 2 = (a + b) % 2 := by
    have h := @Nat.xor_mod_two_eq_one a b
    rcases Nat.mod_two_eq_zero_or_one (a ^^^ b) with h0 | h0 <;> rcases Nat.mod_two_eq_zero_or_one a with ha | ha <;> rcases Nat.mod_two_eq_zero_or_one b with hb | hb <;> simp [h0, ha, hb] at h <;> omega
  unfold bit
  rw [hd]
  generalize a / 2 = x
  generalize b / 2 = y
  rcases Nat.mod_two_eq_zero_or_one a with ha | ha <;> rcases Nat.mod_two_eq_zero_or_one b with hb | hb
  · rw [if_neg (by omega), if_neg (by omega), if_neg (by omega)]
  · rw [if_pos (by omega), if_neg (by omega), if_pos (by omega), Nat.xor_assoc]
  · rw [if_pos (by omega), if_pos (by omega), if_neg (by omega), Nat.xor_assoc, Nat.xor_comm y, ← Nat.xor_assoc]
  · rw [if_neg (by omega), if_pos (by omega), if_pos (by omega)]
    rw [Nat.xor_assoc, ← Nat.xor_assoc 3988292384 y, Nat.xor_comm 3988292384 y, Nat.xor_assoc y, Nat.xor_self, Nat.xor_zero]
theorem bitN_xor : ∀ (k a b : Nat), bitN k (a ^^^ b) = bitN k a ^^^ bitN k b
  | 0, _, _ => rfl
  | k + 1, a, b => by
    show bitN k (bit (a ^^^ b)) = bitN k (bit a) ^^^ bitN k (bit b)
    rw [bit_xor, bitN_xor k]
theorem bit_even (q : Nat) : bit (2 * q) = q := by unfold bit; rw [if_neg (by omega)]; omega
theorem bitN4_mul (q : Nat) : bitN 4 (16 * q) = q := by
  show bit (bit (bit (bit (16 * q)))) = q
  rw [show 16 * q = 2 * (2 * (2 * (2 * q))) from by omega, bit_even, bit_even, bit_even, bit_even]
theorem join16 (r : Nat) : r = 16 * (r / 16) ^^^ r % 16 := by
  have h := nat_join 4 (16 * (r / 16)) (r % 16) (by omega) (by omega)
  have e : (16 * (r / 16)) ^^^ (r % 16) = 16 * (r / 16) ||| r % 16 := by
    apply Nat.eq_of_testBit_eq
    intro i
    rw [Nat.testBit_xor, Nat.testBit_or]
    by_cases hi : i < 4
    · have : (16 * (r / 16)).testBit i = false := by
        rw [show 16 = 2 ^ 4 from rfl, Nat.testBit_two_pow_mul]; simp; omega
      simp [this]
    · have : (r % 16).testBit i = false := by
        rw [show 16 = 2 ^ 4 from rfl, Nat.testBit_mod_two_pow]; simp; omega
      simp [this]
  rw [e, h]; omega
theorem half_step (r : Nat) : bitN 4 r = r / 16 ^^^ half (r % 16) := by
  conv => lhs; rw [join16 r]
  rw [bitN_xor, bitN4_mul]
  rfl

/-- the table -/
def tab : List Int := [0, 498536548, 997073096, 651767980, 1994146192, 1802195444, 1303535960, 1342533948, 3988292384, 4027552580, 3604390888, 3412177804, 2607071920, 2262029012, 2685067896, 3183342108]
theorem tab_half : ∀ j : Nat, j < 16 → tab.getD j 0 = (half j : Int) := by decide

theorem wrap_i64 (n : Nat) (h : n < 9223372036854775808) : IntKind.i64.wrap (n : Int) = (n : Int) := by
  have e : (n : Int) % 2 ^ 64 = n := Int.emod_eq_of_lt (by omega) (by omega)
  simp only [IntKind.wrap, IntKind.bits, IntKind.signed, e]
  rw [if_neg]
  simp
  omega
theorem i64_xor (a b : Nat) (ha : a < 4294967296) (hb : b < 4294967296) : bits .xor .i64 (a : Int) (b : Int) = ((a ^^^ b : Nat) : Int) := by
  have hx := xor_lt ha hb
  show IntKind.i64.wrap ((BitVec.ofInt 64 (a : Int) ^^^ BitVec.ofInt 64 (b : Int)).toNat : Int) = _
  rw [BitVec.toNat_xor, ofInt_u64 a (by omega), ofInt_u64 b (by omega), wrap_i64 _ (by omega)]
theorem not_eq (r : Nat) (h : r < 4294967296) : 4294967295 - r = r ^^^ 4294967295 := by
  have : (4294967295 - r) ^^^ r = 4294967295 := by
    have hb : ∀ i, (4294967295 - r).testBit i = (decide (i < 32) && !r.testBit i) := by
      intro i
      have := Nat.testBit_two_pow_sub_succ (x := r) (n := 32) (by simpa using h) i
      rw [show (2 : Nat) ^ 32 - (r + 1) = 4294967295 - r from by omega] at this
      exact this
    apply Nat.eq_of_testBit_eq
    intro i
    rw [Nat.testBit_xor, hb i, show (4294967295 : Nat) = 2 ^ 32 - 1 from rfl, Nat.testBit_two_pow_sub_one]
    by_cases hi : i < 32
    · cases r.testBit i <;> simp [hi]
    · have : r.testBit i = false := Nat.testBit_lt_two_pow (Nat.lt_of_lt_of_le (by simpa using h) (Nat.pow_le_pow_right (by decide) (Nat.le_of_not_lt hi)))
      simp [hi, this]
  calc 4294967295 - r = ((4294967295 - r) ^^^ r) ^^^ r := by rw [Nat.xor_assoc, Nat.xor_self, Nat.xor_zero]
    _ = r ^^^ 4294967295 := by rw [this, Nat.xor_comm]
end Pl
end Go.Proofs.YtlmoibicepppmaaDoor.Po
