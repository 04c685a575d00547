/-
  Calls as plain data (no program): which are right, their fields, their bytes, and the call that fields say.
-/
import Derived.Test.YtapjgkhbanpmjaaPlainK
import Derived.Test.YtapjgkhbanpmjaaPlainB
namespace Go.Proofs.Ytapjgkhbanpmjaa
namespace Ak

structure Cl where
  k : Int
  no : Int
  gen : Int
  no2 : Int
  gen2 : Int
  nm : ByteArray
  nm2 : ByteArray
  pl : Int
  n : Int
  data : ByteArray

theorem Cl.ext' {a b : Cl} (h1 : a.k = b.k) (h2 : a.no = b.no) (h3 : a.gen = b.gen) (h4 : a.no2 = b.no2) (h5 : a.gen2 = b.gen2) (h6 : a.nm = b.nm) (h7 : a.nm2 = b.nm2) (h8 : a.pl = b.pl) (h9 : a.n = b.n) (h10 : a.data = b.data) : a = b := by
  cases a; cases b; simp only at h1 h2 h3 h4 h5 h6 h7 h8 h9 h10; subst h1; subst h2; subst h3; subst h4; subst h5; subst h6; subst h7; subst h8; subst h9; subst h10; rfl
def zero : Cl := ⟨0, 0, 0, 0, 0, ⟨#[]⟩, ⟨#[]⟩, 0, 0, ⟨#[]⟩⟩
def hokP (no gen : Int) : Prop := (0 ≤ no ∧ no ≤ 255) ∧ (0 ≤ gen ∧ gen ≤ 1099511627776)
instance (no gen : Int) : Decidable (hokP no gen) := by unfold hokP; infer_instance
def hok (no gen : Int) : Bool := decide (hokP no gen)
def rightP (c : Cl) : Prop := (1 ≤ c.k ∧ c.k ≤ 14) ∧ hokP c.no c.gen ∧ hokP c.no2 c.gen2 ∧ c.nm.size ≤ 255 ∧ c.nm2.size ≤ 255 ∧ (0 ≤ c.pl ∧ c.pl ≤ 4294967295) ∧ (0 ≤ c.n ∧ c.n ≤ 65535) ∧ c.data.size ≤ 1024
instance (c : Cl) : Decidable (rightP c) := by unfold rightP; infer_instance
def right (c : Cl) : Bool := decide (rightP c)
theorem right_iff {c : Cl} : right c = true ↔ rightP c := by simp [right]
theorem wrong_iff {c : Cl} : right c = false ↔ ¬ rightP c := by simp [right]

def opt (b : Bool) (x : Int × ByteArray) : List (Int × ByteArray) := if b then [x] else []
def hnz (no gen : Int) : Bool := !(no == 0 && gen == 0)
def snz (s : ByteArray) : Bool := !s.toList.isEmpty
def hbytes (no gen : Int) : ByteArray := Pl.numOut no 1 ++ Pl.numOut gen 6
def f1 (c : Cl) : List (Int × ByteArray) := [(1, Pl.numOut c.k 1)]
def f2 (c : Cl) := f1 c ++ opt (hnz c.no c.gen) (2, hbytes c.no c.gen)
def f3 (c : Cl) := f2 c ++ opt (hnz c.no2 c.gen2) (3, hbytes c.no2 c.gen2)
def f4 (c : Cl) := f3 c ++ opt (snz c.nm) (4, c.nm)
def f5 (c : Cl) := f4 c ++ opt (snz c.nm2) (5, c.nm2)
def f6 (c : Cl) := f5 c ++ opt (c.pl != 0) (6, Pl.numOut c.pl 4)
def f7 (c : Cl) := f6 c ++ opt (c.n != 0) (7, Pl.numOut c.n 2)
def fields (c : Cl) := f7 c ++ opt (snz c.data) (8, c.data)

/-- What Pack answers. -/
def packOut (c : Cl) : ByteArray := if right c then Pl.txt (Pl.encs (fields c)) else ⟨#[]⟩
def packErr (c : Cl) : Int := if right c then 0 else 413

/-- A number of a right call, as bytes. -/
theorem num_ok {n : Int} {z : Nat} (h0 : 0 ≤ n) (hz : 1 ≤ z) (h8 : z ≤ 8) (h : n.toNat < 256 ^ z) : Pl.numOut n z = Pl.txt (Pl.digits z n.toNat) := by
  have hb : Pl.numBad n z = false := by
    simp only [Pl.numBad, Bool.or_eq_false_iff, decide_eq_false_iff_not, Int.toNat_natCast]
    refine ⟨by omega, ?_⟩
    rw [Nat.div_eq_of_lt h]
    simp
  simp [Pl.numOut, hb]
theorem num_size {n : Int} {z : Nat} (h0 : 0 ≤ n) (hz : 1 ≤ z) (h8 : z ≤ 8) (h : n.toNat < 256 ^ z) : (Pl.numOut n z).size = z := by
  rw [num_ok h0 hz h8 h, Pl.txt_size, Pl.digits_length]
theorem numOf_acc (l : List UInt8) : ∀ a : Nat, l.foldl (fun n b => 256 * n + b.toNat) a = a * 256 ^ l.length + Pl.numOf l := by
  induction l with
  | nil => intro a; simp [Pl.numOf]
  | cons b l ih =>
    intro a
    have e : Pl.numOf (b :: l) = (256 * 0 + b.toNat) * 256 ^ l.length + Pl.numOf l := ih (256 * 0 + b.toNat)
    rw [List.foldl_cons, ih, e, List.length_cons, Nat.pow_succ, Nat.mul_zero, Nat.zero_add, Nat.add_mul, Nat.mul_comm 256 a, Nat.mul_assoc, Nat.mul_comm 256, Nat.add_assoc]
theorem numOf_cons (b : UInt8) (l : List UInt8) : Pl.numOf (b :: l) = b.toNat * 256 ^ l.length + Pl.numOf l := by
  have e : Pl.numOf (b :: l) = l.foldl (fun n b => 256 * n + b.toNat) (256 * 0 + b.toNat) := rfl
  rw [e, numOf_acc, Nat.mul_zero, Nat.zero_add]
theorem numOf_digits (z : Nat) : ∀ m : Nat, Pl.numOf (Pl.digits z m) = m % 256 ^ z := by
  induction z with
  | zero => intro m; simp [Pl.digits, Pl.numOf, Nat.mod_one]
  | succ z ih =>
    intro m
    have e : (UInt8.ofNat (m / 256 ^ z % 256)).toNat = m / 256 ^ z % 256 := by rw [UInt8.toNat_ofNat']; omega
    rw [Pl.digits_succ, numOf_cons, ih, Pl.digits_length, e, Nat.pow_succ, Nat.mod_mul, Nat.mul_comm (256 ^ z) (m / 256 ^ z % 256), Nat.add_comm]
/-- A number read again. -/
theorem val_num {n : Int} {z : Nat} (h0 : 0 ≤ n) (hz : 1 ≤ z) (h7 : z ≤ 7) (h : n.toNat < 256 ^ z) : Pl.numVal (Pl.numOut n z) = n := by
  have hs := num_size h0 hz (by omega) h
  have h1 : Pl.sNum (Pl.numOut n z) = false := by simp only [Pl.sNum, hs, decide_eq_false_iff_not]; omega
  have h2 : Pl.fNum (Pl.numOut n z) = false := by
    have : decide (z = 8) = false := decide_eq_false (by omega)
    simp [Pl.fNum, hs, this]
  unfold Pl.numVal
  rw [h1, h2, num_ok h0 hz (by omega) h, Pl.txt_data, numOf_digits, Nat.mod_eq_of_lt h]
  simp
  omega

/-- The handle that bytes are. -/
def hno (s : ByteArray) : Int := if s.size = 7 then Pl.numVal (s.extract 0 1) else 0
def hgen (s : ByteArray) : Int := if s.size = 7 then Pl.numVal (s.extract 1 7) else 0
theorem hok_of {no gen : Int} (h : hokP no gen) : 0 ≤ no ∧ no.toNat < 256 ^ 1 ∧ 0 ≤ gen ∧ gen.toNat < 256 ^ 6 := by
  obtain ⟨⟨a, b⟩, c, d⟩ := h
  exact ⟨a, by omega, c, by omega⟩
theorem hbytes_size {no gen : Int} (h : hokP no gen) : (hbytes no gen).size = 7 := by
  obtain ⟨a, b, c, d⟩ := hok_of h
  unfold hbytes
  have h1 := num_size (z := 1) a (by omega) (by omega) b
  have h2 := num_size (z := 6) c (by omega) (by omega) d
  rw [ByteArray.size_append]
  have e1 : Pl.numOut no 1 = Pl.numOut no ((1 : Nat) : Int) := rfl
  have e2 : Pl.numOut gen 6 = Pl.numOut gen ((6 : Nat) : Int) := rfl
  rw [e1, e2, h1, h2]
theorem extract_left (a b : ByteArray) (n : Nat) (h : a.size = n) : (a ++ b).extract 0 n = a := by
  subst h
  rw [Pl.extract_txt]
  have : (a ++ b).data.toList = a.data.toList ++ b.data.toList := by simp [ByteArray.data_append]
  rw [this, List.drop_zero, List.take_append_of_le_length (by simp), List.take_of_length_le (by simp), Pl.txt_toList]
theorem extract_right (a b : ByteArray) (n m : Nat) (h : a.size = n) (hm : a.size + b.size ≤ m) : (a ++ b).extract n m = b := by
  subst h
  rw [Pl.extract_txt]
  have : (a ++ b).data.toList = a.data.toList ++ b.data.toList := by simp [ByteArray.data_append]
  have hl : a.size = a.data.toList.length := by simp
  rw [this, hl, List.drop_left, List.take_of_length_le (by simp; have : b.data.size = b.size := rfl; have h2 : a.data.size = a.size := rfl; omega), Pl.txt_toList]
theorem hback {no gen : Int} (h : hokP no gen) : hno (hbytes no gen) = no ∧ hgen (hbytes no gen) = gen := by
  have hs := hbytes_size h
  obtain ⟨a, b, c, d⟩ := hok_of h
  have h1 : (Pl.numOut no 1).size = 1 := num_size (z := 1) a (by omega) (by omega) b
  have h2 : (Pl.numOut gen 6).size = 6 := num_size (z := 6) c (by omega) (by omega) d
  unfold hno hgen
  rw [if_pos hs, if_pos hs]
  unfold hbytes
  rw [extract_left _ _ 1 h1, extract_right _ _ 1 7 h1 (by omega)]
  exact ⟨val_num (z := 1) a (by omega) (by omega) b, val_num (z := 6) c (by omega) (by omega) d⟩

/-- A call with what a field says. -/
def withF (c : Cl) (x : Int × ByteArray) : Cl :=
  if x.1 = 1 then { c with k := Pl.numVal x.2 }
  else if x.1 = 2 then { c with no := hno x.2, gen := hgen x.2 }
  else if x.1 = 3 then { c with no2 := hno x.2, gen2 := hgen x.2 }
  else if x.1 = 4 then { c with nm := x.2 }
  else if x.1 = 5 then { c with nm2 := x.2 }
  else if x.1 = 6 then { c with pl := Pl.numVal x.2 }
  else if x.1 = 7 then { c with n := Pl.numVal x.2 }
  else if x.1 = 8 then { c with data := x.2 }
  else c
def callOf (l : List (Int × ByteArray)) : Cl := l.foldl withF zero

/-- The value of a tag: the last one. -/
def lastOf (l : List (Int × ByteArray)) (t : Int) : ByteArray := l.foldl (fun s x => if x.1 = t then x.2 else s) ⟨#[]⟩
theorem lastOf_snoc (l : List (Int × ByteArray)) (x : Int × ByteArray) (t : Int) : lastOf (l ++ [x]) t = if x.1 = t then x.2 else lastOf l t := by simp [lastOf]
theorem callOf_snoc (l : List (Int × ByteArray)) (x : Int × ByteArray) : callOf (l ++ [x]) = withF (callOf l) x := by simp [callOf]
def refOf (l : List (Int × ByteArray)) : Cl := ⟨Pl.numVal (lastOf l 1), hno (lastOf l 2), hgen (lastOf l 2), hno (lastOf l 3), hgen (lastOf l 3), lastOf l 4, lastOf l 5, Pl.numVal (lastOf l 6), Pl.numVal (lastOf l 7), lastOf l 8⟩
theorem rev_ind {α : Type} {p : List α → Prop} (h0 : p []) (h1 : ∀ l x, p l → p (l ++ [x])) (l : List α) : p l := by
  have : ∀ m : List α, p m.reverse := by
    intro m
    induction m with
    | nil => exact h0
    | cons x m ih => rw [List.reverse_cons]; exact h1 _ _ ih
  have := this l.reverse
  rwa [List.reverse_reverse] at this
theorem refOf_eq (l : List (Int × ByteArray)) : refOf l = callOf l := by
  induction l using rev_ind with
  | h0 => rfl
  | h1 l x ih =>
    rw [callOf_snoc, ← ih]
    unfold refOf withF
    simp only [lastOf_snoc]
    by_cases h1 : x.1 = 1
    · simp [h1]
    by_cases h2 : x.1 = 2
    · simp [h2]
    by_cases h3 : x.1 = 3
    · simp [h3]
    by_cases h4 : x.1 = 4
    · simp [h4]
    by_cases h5 : x.1 = 5
    · simp [h5]
    by_cases h6 : x.1 = 6
    · simp [h6]
    by_cases h7 : x.1 = 7
    · simp [h7]
    by_cases h8 : x.1 = 8
    · simp [h8]
    simp [h1, h2, h3, h4, h5, h6, h7, h8]

/-- What Unpack answers. -/
def isCall (L : List UInt8) : Bool := decide (Pl.unpErr L = 0) && right (callOf (Pl.unpOut L)) && decide (Pl.encs (fields (callOf (Pl.unpOut L))) = L)
def unpC (L : List UInt8) : Cl := if isCall L then callOf (Pl.unpOut L) else zero
def unpE (L : List UInt8) : Int := if isCall L then 0 else 413
end Ak
end Go.Proofs.Ytapjgkhbanpmjaa
