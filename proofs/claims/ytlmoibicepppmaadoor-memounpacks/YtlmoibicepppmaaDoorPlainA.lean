/-
  Plain facts (no program): what is unpacked is packed as the bytes that it was; a number's bytes are that number.
-/
import Derived.Test.YtlmoibicepppmaaDoorPlainK
import Derived.Test.YtlmoibicepppmaaDoorPlainB
namespace Go.Proofs.YtlmoibicepppmaaDoor
set_option maxRecDepth 100000
namespace Pl

theorem numOf_acc (l : List UInt8) : ∀ a : Nat, l.foldl (fun n b => 256 * n + b.toNat) a = a * 256 ^ l.length + numOf l := by
  induction l with
  | nil => intro a; simp [numOf]
  | cons b l ih =>
    intro a
    have h1 := ih (256 * a + b.toNat)
    have h2 := ih (256 * 0 + b.toNat)
    have e : numOf (b :: l) = l.foldl (fun n b => 256 * n + b.toNat) (256 * 0 + b.toNat) := rfl
    rw [List.foldl_cons, h1, e, h2, List.length_cons, Nat.pow_succ]
    generalize 256 ^ l.length = p
    rw [Nat.mul_comm p 256, ← Nat.mul_assoc, Nat.add_mul, Nat.add_mul, Nat.mul_zero, Nat.zero_mul, Nat.zero_add, Nat.mul_comm a 256, Nat.add_assoc]
theorem numOf_cons (b : UInt8) (l : List UInt8) : numOf (b :: l) = b.toNat * 256 ^ l.length + numOf l := by
  have := numOf_acc l (256 * 0 + b.toNat)
  simpa [numOf] using this
theorem numOf_digits (m : Nat) : ∀ k, numOf (digits k m) = m % 256 ^ k
  | 0 => by simp [digits_zero, numOf, Nat.mod_one]
  | k + 1 => by
    rw [digits_succ, numOf_cons, numOf_digits m k, digits_length, Nat.pow_succ, Nat.mod_mul, UInt8.toNat_ofNat']
    have : m / 256 ^ k % 256 % 2 ^ 8 = m / 256 ^ k % 256 := Nat.mod_eq_of_lt (by omega)
    rw [this, Nat.mul_comm, Nat.add_comm]

theorem num_back {n size : Int} (hn : n ≤ 9223372036854775807) (h : numErr n size = 0) :
    numVal (numOut n size) = n ∧ numberErr (numOut n size) = 0 ∧ ((numOut n size).size : Int) = size := by
  have hb : numBad n size = false := by
    cases hc : numBad n size with
    | false => rfl
    | true => simp [numErr, hc] at h
  have ho : numOut n size = txt (digits size.toNat n.toNat) := by simp [numOut, hb]
  simp only [numBad, Bool.or_eq_false_iff, decide_eq_false_iff_not, Classical.not_not] at hb
  obtain ⟨h1, h2⟩ := hb
  obtain ⟨m, rfl⟩ := Int.eq_ofNat_of_zero_le (show 0 ≤ n by omega)
  obtain ⟨z, rfl⟩ := Int.eq_ofNat_of_zero_le (show 0 ≤ size by omega)
  rw [Int.toNat_natCast, Int.toNat_natCast] at ho h2
  have hlt : m < 256 ^ z := by
    rcases Nat.lt_or_ge m (256 ^ z) with h' | h'
    · exact h'
    · have := Nat.div_pos h' (Nat.pow_pos (by decide)); omega
  have hsz : (txt (digits z m)).size = z := by rw [txt_size, digits_length]
  have hS : sNum (txt (digits z m)) = false := by simp only [sNum, hsz, decide_eq_false_iff_not]; omega
  have hF : fNum (txt (digits z m)) = false := by
    unfold fNum
    rw [hsz, txt_data]
    by_cases h8 : z = 8
    · subst h8
      have e : (digits 8 m).headD 0 = UInt8.ofNat (m / 256 ^ 7 % 256) := by rw [digits_succ]; rfl
      have e7 : (256 : Nat) ^ 7 = 72057594037927936 := by decide
      rw [e, UInt8.toNat_ofNat', e7]
      simp
      omega
    · simp [h8]
  refine ⟨?_, ?_, ?_⟩
  · rw [ho, numVal, hS, hF, txt_data, numOf_digits, Nat.mod_eq_of_lt hlt]; rfl
  · rw [ho, numberErr, hS, hF]; rfl
  · rw [ho, hsz]

theorem encs_cons (x : Int × ByteArray) (l : List (Int × ByteArray)) : encs (x :: l) = encOne x ++ encs l := by simp [encs]

theorem encOne_field {last : Int} {l : List UInt8} (hs : stepErr last l = 0) (hl : 1 ≤ last) : badAt last (fieldOf l) = 0 ∧ encOne (fieldOf l) = l.take (3 + lenOf l) := by
  unfold stepErr at hs
  split at hs
  · cases hs
  · rename_i h3
    split at hs
    · cases hs
    · rename_i h4
      split at hs
      · cases hs
      · rename_i h5
        split at hs
        · cases hs
        · rename_i h6
          match l, h3, h4, h5, h6 with
          | [], h3, _, _, _ => exact absurd (by simp) h3
          | [_], h3, _, _, _ => exact absurd (by simp) h3
          | [_, _], h3, _, _, _ => exact absurd (by simp) h3
          | a :: b :: c :: r, h3, h4, h5, h6 =>
            have ha := a.toNat_lt
            have hb := b.toNat_lt
            have hc := c.toNat_lt
            have et : tagOf (a :: b :: c :: r) = (a.toNat : Int) := rfl
            have el : lenOf (a :: b :: c :: r) = 256 * b.toNat + c.toNat := rfl
            rw [et] at h4 h5
            rw [el] at h6
            have hlen : (r.take (256 * b.toNat + c.toNat)).length = 256 * b.toNat + c.toNat := by
              rw [List.length_take]; simp only [List.length_cons] at h6; omega
            have ef : fieldOf (a :: b :: c :: r) = ((a.toNat : Int), txt (r.take (256 * b.toNat + c.toNat))) := by
              unfold fieldOf; rw [et, el]; rfl
            have hsz : (txt (r.take (256 * b.toNat + c.toNat))).size = 256 * b.toNat + c.toNat := by rw [txt_size, hlen]
            rw [ef, el]
            constructor
            · unfold badAt
              rw [if_neg (by simp only; omega), if_neg (by simp only; rw [hsz]; omega), if_neg (by simp only; omega)]
            · unfold encOne
              simp only [hsz, txt_data, Int.toNat_natCast]
              rw [show (256 * b.toNat + c.toNat) / 256 = b.toNat from by omega, show (256 * b.toNat + c.toNat) % 256 = c.toNat from by omega,
                UInt8.ofNat_toNat, UInt8.ofNat_toNat, UInt8.ofNat_toNat, show 3 + (256 * b.toNat + c.toNat) = (256 * b.toNat + c.toNat) + 1 + 1 + 1 from by omega]
              rfl

theorem encs_parse : ∀ (f : Nat) (last : Int) (l : List UInt8), 1 ≤ last → l.length ≤ f → (parse f last l).2 = 0 → packErr last (parse f last l).1 = 0 ∧ encs (parse f last l).1 = l
  | 0, last, l, _, hf, _ => by
    have : l = [] := List.eq_nil_of_length_eq_zero (by omega)
    subst this
    exact ⟨rfl, rfl⟩
  | f + 1, last, l, hl, hf, h => by
    by_cases h0 : l = []
    · subst h0; rw [parse_nil]; exact ⟨rfl, rfl⟩
    · by_cases hs : stepErr last l = 0
      · have hp : parse (f + 1) last l = join [fieldOf l] (parse f (tagOf l) (l.drop (3 + lenOf l))) := by
          conv => lhs; unfold parse
          rw [if_neg h0, if_pos hs]
        rw [hp] at h ⊢
        have hr : (parse f (tagOf l) (l.drop (3 + lenOf l))).2 = 0 := by
          unfold join at h
          split at h
          · assumption
          · exact h
        obtain ⟨hb, he⟩ := encOne_field hs hl
        have hbz := badAt_zero hb
        have hn : 1 ≤ tagOf l := hbz.1
        have hlen : (l.drop (3 + lenOf l)).length ≤ f := by
          rw [List.length_drop]
          have : 0 < l.length := List.length_pos_iff.2 h0
          omega
        obtain ⟨i1, i2⟩ := encs_parse f (tagOf l) (l.drop (3 + lenOf l)) hn hlen hr
        have ej : (join [fieldOf l] (parse f (tagOf l) (l.drop (3 + lenOf l)))).1 = fieldOf l :: (parse f (tagOf l) (l.drop (3 + lenOf l))).1 := by
          unfold join; rw [if_pos hr]; rfl
        rw [ej]
        constructor
        · unfold packErr
          rw [if_pos hb]
          exact i1
        · rw [encs_cons, he, i2, List.take_append_drop]
      · have hp : parse (f + 1) last l = ([], stepErr last l) := by
          conv => lhs; unfold parse
          rw [if_neg h0, if_neg hs]
        rw [hp] at h
        exact absurd h hs

theorem again (L : List UInt8) (h : unpErr L = 0) : packErr 1 (unpOut L) = 0 ∧ encs (unpOut L) = L :=
  encs_parse L.length 1 L (by decide) (Nat.le_refl _) h
end Pl
end Go.Proofs.YtlmoibicepppmaaDoor
