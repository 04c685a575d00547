/-
  Plain facts (no program): what was packed of attributes is unpacked.
-/
import Derived.Test.YtapjgkhbanpmjaaNAttr
import Derived.Test.YtapjgkhbanpmjaaPlainU
namespace Go.Proofs.Ytapjgkhbanpmjaa
namespace Pl
theorem numOf_acc (l : List UInt8) : ∀ a : Nat, l.foldl (fun n b => 256 * n + b.toNat) a = a * 256 ^ l.length + numOf l := by
  induction l with
  | nil => intro a; simp [numOf]
  | cons b l ih =>
    intro a
    have h1 := ih (256 * a + b.toNat)
    have h2 := ih (256 * 0 + b.toNat)
    have e : numOf (b :: l) = l.foldl (fun n b => 256 * n + b.toNat) (256 * 0 + b.toNat) := rfl
    rw [List.foldl_cons, h1, e, h2, List.length_cons, Nat.pow_succ]
    generalize 256 ^ l.length = p
    rw [Nat.mul_comm p 256, ← Nat.mul_assoc, Nat.add_mul, Nat.add_mul, Nat.mul_zero, Nat.zero_mul, Nat.zero_add, Nat.mul_comm a 256, Nat.add_assoc]
theorem numOf_cons (b : UInt8) (l : List UInt8) : numOf (b :: l) = b.toNat * 256 ^ l.length + numOf l := by
  have := numOf_acc l (256 * 0 + b.toNat)
  simpa [numOf] using this
theorem numOf_digits (m : Nat) : ∀ k, numOf (digits k m) = m % 256 ^ k
  | 0 => by simp [digits_zero, numOf, Nat.mod_one]
  | k + 1 => by
    rw [digits_succ, numOf_cons, numOf_digits m k, digits_length, Nat.pow_succ, Nat.mod_mul, UInt8.toNat_ofNat']
    have : m / 256 ^ k % 256 % 2 ^ 8 = m / 256 ^ k % 256 := Nat.mod_eq_of_lt (by omega)
    rw [this, Nat.mul_comm, Nat.add_comm]

theorem num_back {n size : Int} (hn : n ≤ 9223372036854775807) (h : numErr n size = 0) :
    numVal (numOut n size) = n ∧ numberErr (numOut n size) = 0 ∧ ((numOut n size).size : Int) = size := by
  have hb : numBad n size = false := by
    cases hc : numBad n size with
    | false => rfl
    | true => simp [numErr, hc] at h
  have ho : numOut n size = txt (digits size.toNat n.toNat) := by simp [numOut, hb]
  simp only [numBad, Bool.or_eq_false_iff, decide_eq_false_iff_not, Classical.not_not] at hb
  obtain ⟨h1, h2⟩ := hb
  obtain ⟨m, rfl⟩ := Int.eq_ofNat_of_zero_le (show 0 ≤ n by omega)
  obtain ⟨z, rfl⟩ := Int.eq_ofNat_of_zero_le (show 0 ≤ size by omega)
  rw [Int.toNat_natCast, Int.toNat_natCast] at ho h2
  have hlt : m < 256 ^ z := by
    rcases Nat.lt_or_ge m (256 ^ z) with h' | h'
    · exact h'
    · have := Nat.div_pos h' (Nat.pow_pos (by decide)); omega
  have hsz : (txt (digits z m)).size = z := by rw [txt_size, digits_length]
  have hS : sNum (txt (digits z m)) = false := by simp only [sNum, hsz, decide_eq_false_iff_not]; omega
  have hF : fNum (txt (digits z m)) = false := by
    unfold fNum
    rw [hsz, txt_data]
    by_cases h8 : z = 8
    · subst h8
      have e : (digits 8 m).headD 0 = UInt8.ofNat (m / 256 ^ 7 % 256) := by rw [digits_succ]; rfl
      have e7 : (256 : Nat) ^ 7 = 72057594037927936 := by decide
      rw [e, UInt8.toNat_ofNat', e7]
      simp
      omega
    · simp [h8]
  refine ⟨?_, ?_, ?_⟩
  · rw [ho, numVal, hS, hF, txt_data, numOf_digits, Nat.mod_eq_of_lt hlt]; rfl
  · rw [ho, numberErr, hS, hF]; rfl
  · rw [ho, hsz]

end Pl
theorem Pl.fits {n size : Int} (h0 : 0 ≤ n) (h1 : 1 ≤ size) (h2 : size ≤ 8) (h3 : n.toNat < 256 ^ size.toNat) : Pl.numErr n size = 0 := by
  have hb : Pl.numBad n size = false := by
    unfold Pl.numBad
    rw [Nat.div_eq_of_lt h3]
    simp
    omega
  simp [Pl.numErr, hb]
theorem At.pack_parts {k l s t : Int} (h : At.right k l s t = true) : At.packOut k l s t = Pl.numOut k 1 ++ Pl.numOut l 1 ++ Pl.numOut s 4 ++ Pl.numOut t 6 ∧ (Pl.numVal (Pl.numOut k 1) = k ∧ (Pl.numOut k 1).size = 1) ∧ (Pl.numVal (Pl.numOut l 1) = l ∧ (Pl.numOut l 1).size = 1) ∧ (Pl.numVal (Pl.numOut s 4) = s ∧ (Pl.numOut s 4).size = 4) ∧ (Pl.numVal (Pl.numOut t 6) = t ∧ (Pl.numOut t 6).size = 6) := by
  have hp := At.right_iff.1 h
  unfold At.rightP at hp
  have e1 : (256 : Nat) ^ (1 : Int).toNat = 256 := by decide
  have e4 : (256 : Nat) ^ (4 : Int).toNat = 4294967296 := by decide
  have e6 : (256 : Nat) ^ (6 : Int).toNat = 281474976710656 := by decide
  obtain ⟨a1, _, a2⟩ := Pl.num_back (n := k) (size := 1) (by omega) (Pl.fits (by omega) (by decide) (by decide) (by rw [e1]; omega))
  obtain ⟨b1, _, b2⟩ := Pl.num_back (n := l) (size := 1) (by omega) (Pl.fits (by omega) (by decide) (by decide) (by rw [e1]; omega))
  obtain ⟨c1, _, c2⟩ := Pl.num_back (n := s) (size := 4) (by omega) (Pl.fits (by omega) (by decide) (by decide) (by rw [e4]; omega))
  obtain ⟨d1, _, d2⟩ := Pl.num_back (n := t) (size := 6) (by omega) (Pl.fits (by omega) (by decide) (by decide) (by rw [e6]; omega))
  refine ⟨by simp [At.packOut, h], ⟨a1, by omega⟩, ⟨b1, by omega⟩, ⟨c1, by omega⟩, ⟨d1, by omega⟩⟩
theorem Pl.cut_mid (a b c : ByteArray) (i j : Nat) (hi : a.size = i) (hj : a.size + b.size = j) : (a ++ b ++ c).extract i j = b := by
  rw [Pl.extract_txt]
  have e : (a ++ b ++ c).data.toList = a.data.toList ++ b.data.toList ++ c.data.toList := by simp
  have la : a.data.toList.length = i := by rw [← hi]; simp
  have lb : b.data.toList.length = j - i := by rw [← hj, ← hi]; simp
  rw [e, List.append_assoc, List.drop_left' la, List.take_left' lb, Pl.txt_toList]
theorem Pl.ba_assoc (a b c : ByteArray) : a ++ b ++ c = a ++ (b ++ c) := ByteArray.append_assoc
theorem Pl.ba_nil (a : ByteArray) : ⟨#[]⟩ ++ a = a := by
  apply ByteArray.ext
  simp
theorem Pl.ba_nil' (a : ByteArray) : a ++ ⟨#[]⟩ = a := by
  apply ByteArray.ext
  simp
theorem At.back {k l s t : Int} (h : At.right k l s t = true) : (At.packOut k l s t).size = 12 ∧ At.unpErr (At.packOut k l s t) = 0 ∧ At.unpOut (At.packOut k l s t) = VA k l s t := by
  obtain ⟨hp, ⟨a1, a2⟩, ⟨b1, b2⟩, ⟨c1, c2⟩, ⟨d1, d2⟩⟩ := At.pack_parts h
  rw [hp]
  generalize Pl.numOut k 1 = A at *
  generalize Pl.numOut l 1 = B at *
  generalize Pl.numOut s 4 = C at *
  generalize Pl.numOut t 6 = D at *
  have hsz : (A ++ B ++ C ++ D).size = 12 := by simp only [ByteArray.size_append]; omega
  have x0 : (A ++ B ++ C ++ D).extract 0 1 = A := by
    have := Pl.cut_mid ⟨#[]⟩ A (B ++ (C ++ D)) 0 1 rfl (by rw [a2]; rfl)
    rw [Pl.ba_nil] at this
    rw [Pl.ba_assoc, Pl.ba_assoc, this]
  have x1 : (A ++ B ++ C ++ D).extract 1 2 = B := by
    have := Pl.cut_mid A B (C ++ D) 1 2 a2 (by omega)
    rw [Pl.ba_assoc (A ++ B), this]
  have x2 : (A ++ B ++ C ++ D).extract 2 6 = C := Pl.cut_mid (A ++ B) C D 2 6 (by simp only [ByteArray.size_append]; omega) (by simp only [ByteArray.size_append]; omega)
  have x3 : (A ++ B ++ C ++ D).extract 6 12 = D := by
    have := Pl.cut_mid (A ++ B ++ C) D ⟨#[]⟩ 6 12 (by simp only [ByteArray.size_append]; omega) (by simp only [ByteArray.size_append]; omega)
    rw [Pl.ba_nil'] at this
    exact this
  have hk : At.k (A ++ B ++ C ++ D) = k := by unfold At.k; rw [x0, a1]
  have hl : At.l (A ++ B ++ C ++ D) = l := by unfold At.l; rw [x1, b1]
  have hs : At.s (A ++ B ++ C ++ D) = s := by unfold At.s; rw [x2, c1]
  have ht : At.t (A ++ B ++ C ++ D) = t := by unfold At.t; rw [hsz, x3, d1]
  have he : At.unpErr (A ++ B ++ C ++ D) = 0 := by unfold At.unpErr; rw [if_pos hsz, hk, hl, hs, ht, if_pos h]
  refine ⟨hsz, he, ?_⟩
  unfold At.unpOut
  rw [if_pos he, hk, hl, hs, ht]
end Go.Proofs.Ytapjgkhbanpmjaa
