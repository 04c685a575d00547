/-
  Plain facts on the number that bytes are (no program).
-/
import Derived.Test.YtlmoibicepppmaaDoorPlain
import Derived.Laws.BitsAllLaws
namespace Go.Proofs.YtlmoibicepppmaaDoor
set_option maxRecDepth 100000
namespace Pl

theorem numOf_cons_lt (b : UInt8) (l : List UInt8) : numOf (b :: l) < (b.toNat + 1) * 256 ^ l.length := by
  have := numOf_lt_acc l b.toNat
  simpa [numOf] using this
theorem numOf_take_lt (l : List UInt8) (k : Nat) (h8 : l.length ≤ 8) (hh : l.length = 8 → (l.headD 0).toNat < 128) (hk : k < l.length) : numOf (l.take k) < 36028797018963968 := by
  by_cases h7 : k ≤ 6
  · have h1 := numOf_lt (l.take k)
    have h2 : (l.take k).length = k := by simp; omega
    rw [h2] at h1
    have h3 : 256 ^ k ≤ 256 ^ 6 := Nat.pow_le_pow_right (by decide) h7
    have h4 : (256 : Nat) ^ 6 < 36028797018963968 := by decide
    omega
  · have hk7 : k = 7 := by omega
    subst hk7
    match l, h8, hh, hk with
    | b :: r, h8, hh, hk =>
      have hb := hh (by simp at h8 hk ⊢; omega)
      have h1 := numOf_cons_lt b (r.take 6)
      have h2 : (r.take 6).length = 6 := by simp at hk ⊢; omega
      rw [h2] at h1
      simp only [List.headD_cons] at hb
      have h3 : (256 : Nat) ^ 6 = 281474976710656 := by decide
      rw [h3] at h1
      show numOf (b :: r.take 6) < _
      omega
theorem take_snoc (s : ByteArray) (k : Nat) (h : k < s.size) : s.data.toList.take (k + 1) = s.data.toList.take k ++ [s[k]] := by
  rw [List.take_succ_eq_append_getElem (by simpa using h)]; rfl
theorem numOf_take_succ (s : ByteArray) (k : Nat) (h : k < s.size) : numOf (s.data.toList.take (k + 1)) = 256 * numOf (s.data.toList.take k) + s[k].toNat := by
  rw [take_snoc s k h, numOf_snoc]
theorem wrap_i64_small (n : Nat) (h : n < 9223372036854775808) : IntKind.i64.wrap (n : Int) = (n : Int) := by
  have e : (n : Int) % 2 ^ 64 = n := Int.emod_eq_of_lt (by omega) (by omega)
  simp only [IntKind.wrap, IntKind.bits, IntKind.signed, e]
  rw [if_neg]
  simp
  omega
theorem or_byte (x : Nat) (b : UInt8) (hx : x < 36028797018963968) : bits .or .i64 ((x : Int) * 256) (b.toNat : Int) = 256 * (x : Int) + (b.toNat : Int) := by
  have hb := b.toNat_lt
  have e : (x : Int) * 256 = ((256 * x : Nat) : Int) := by omega
  rw [e]
  show IntKind.i64.wrap ((BitVec.ofInt 64 ((256 * x : Nat) : Int) ||| BitVec.ofInt 64 ((b.toNat : Nat) : Int)).toNat : Int) = _
  rw [BitVec.toNat_or, ofInt_u64 (256 * x) (by omega), ofInt_u64 b.toNat (by omega), nat_join 8 (256 * x) b.toNat (by omega) (by omega), wrap_i64_small _ (by omega)]
  omega
end Pl
end Go.Proofs.YtlmoibicepppmaaDoor
