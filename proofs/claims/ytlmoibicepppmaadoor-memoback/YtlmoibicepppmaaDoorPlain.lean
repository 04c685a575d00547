/-
  Plain facts on bytes and numbers (no program): big-endian digits, the number that bytes are.
-/
import Derived.WalkKit
namespace Go.Proofs.YtlmoibicepppmaaDoor
set_option maxRecDepth 100000
namespace Pl

/-- The last k bytes of m, big end first. -/
def digits (k m : Nat) : List UInt8 := (List.range k).map fun j => UInt8.ofNat (m / 256 ^ (k - 1 - j) % 256)

theorem digits_zero (m : Nat) : digits 0 m = [] := rfl
theorem digits_length (k m : Nat) : (digits k m).length = k := by simp [digits]
theorem digits_succ (k m : Nat) : digits (k + 1) m = UInt8.ofNat (m / 256 ^ k % 256) :: digits k m := by
  unfold digits
  rw [List.range_succ_eq_map, List.map_cons, List.map_map]
  congr 1
  apply List.map_congr_left
  intro j hj
  have := List.mem_range.1 hj
  simp only [Function.comp, Nat.succ_eq_add_one]
  rw [show k + 1 - 1 - (j + 1) = k - 1 - j from by omega]

def txt (l : List UInt8) : ByteArray := ⟨l.toArray⟩
theorem txt_toList (s : ByteArray) : txt s.data.toList = s := by cases s; simp [txt]
theorem txt_data (l : List UInt8) : (txt l).data.toList = l := by simp [txt]
theorem txt_size (l : List UInt8) : (txt l).size = l.length := by simp [txt, ByteArray.size]
theorem txt_append (a b : List UInt8) : txt a ++ txt b = txt (a ++ b) := ByteArray.mk_append_mk a b

/-- What Num answers: the text, and the error's number. -/
def numBad (n size : Int) : Bool := decide (size < 1 ∨ 8 < size ∨ n < 0) || decide (n.toNat / 256 ^ size.toNat ≠ 0)
def numOut (n size : Int) : ByteArray := if numBad n size then txt [] else txt (digits size.toNat n.toNat)
def numErr (n size : Int) : Int := if numBad n size then 1 else 0

theorem div_step (n : Int) (k : Nat) : (((n.toNat / 256 ^ k : Nat) : Int)) / 256 = ((n.toNat / 256 ^ (k + 1) : Nat) : Int) := by
  rw [Nat.pow_succ, ← Nat.div_div_eq_div_mul]; omega

/-- The number that bytes are. -/
def numOf (l : List UInt8) : Nat := l.foldl (fun n b => 256 * n + b.toNat) 0
theorem numOf_snoc (l : List UInt8) (b : UInt8) : numOf (l ++ [b]) = 256 * numOf l + b.toNat := by simp [numOf]
theorem numOf_lt_acc (l : List UInt8) : ∀ a : Nat, l.foldl (fun n b => 256 * n + b.toNat) a < (a + 1) * 256 ^ l.length := by
  induction l with
  | nil => intro a; simp
  | cons b l ih =>
    intro a
    have h := ih (256 * a + b.toNat)
    have hb := b.toNat_lt
    rw [List.foldl_cons, List.length_cons]
    have h2 : (256 * a + b.toNat + 1) * 256 ^ l.length ≤ (256 * (a + 1)) * 256 ^ l.length := Nat.mul_le_mul_right _ (by omega)
    have h3 : (256 * (a + 1)) * 256 ^ l.length = (a + 1) * 256 ^ (l.length + 1) := by rw [Nat.pow_succ, Nat.mul_comm 256 (a + 1), Nat.mul_assoc, Nat.mul_comm 256]
    omega
theorem numOf_lt (l : List UInt8) : numOf l < 256 ^ l.length := by have := numOf_lt_acc l 0; simpa [numOf] using this
def sNum (s : ByteArray) : Bool := decide (s.size < 1 ∨ 8 < s.size)
def fNum (s : ByteArray) : Bool := decide (s.size = 8) && decide (128 ≤ (s.data.toList.headD 0).toNat)
def numVal (s : ByteArray) : Int := if sNum s || fNum s then 0 else numOf s.data.toList
def numberErr (s : ByteArray) : Int := if sNum s then 1 else if fNum s then 4 else 0

end Pl
end Go.Proofs.YtlmoibicepppmaaDoor
