/-
  Plain facts (no program): what is packed is unpacked.
-/
import Derived.Test.YtlmoibicepppmaaDoorPlainP
import Derived.Test.YtlmoibicepppmaaDoorPlainU
namespace Go.Proofs.YtlmoibicepppmaaDoor
set_option maxRecDepth 100000
namespace Pl

theorem badAt_zero {last : Int} {x : Int × ByteArray} (h : badAt last x = 0) : 1 ≤ x.1 ∧ x.1 ≤ 255 ∧ x.2.size ≤ 65535 ∧ last ≤ x.1 := by
  unfold badAt at h
  split at h
  · cases h
  · split at h
    · cases h
    · split at h
      · cases h
      · omega

theorem parse_encs : ∀ (l : List (Int × ByteArray)) (last : Int) (f : Nat), packErr last l = 0 → (encs l).length ≤ f → parse f last (encs l) = (l, 0)
  | [], last, f, _, _ => parse_nil f last
  | x :: l, last, f, hp, hf => by
    have hb : badAt last x = 0 := by
      unfold packErr at hp
      split at hp
      · assumption
      · exact hp
    have hp' : packErr x.1 l = 0 := by
      unfold packErr at hp
      rwa [if_pos hb] at hp
    obtain ⟨h1, h2, h3, h4⟩ := badAt_zero hb
    obtain ⟨t, s⟩ := x
    simp only at h1 h2 h3 h4 hp'
    have e : encs ((t, s) :: l) = UInt8.ofNat t.toNat :: UInt8.ofNat (s.size / 256) :: UInt8.ofNat (s.size % 256) :: (s.data.toList ++ encs l) := by simp [encs, encOne]
    have hsl : s.data.toList.length = s.size := by simp
    have hlen : (encs ((t, s) :: l)).length = 3 + s.size + (encs l).length := by
      rw [e]; simp only [List.length_cons, List.length_append, hsl]; omega
    rw [hlen] at hf
    have et : tagOf (encs ((t, s) :: l)) = t := by
      rw [e, tagOf, List.getD_cons_zero, UInt8.toNat_ofNat']; omega
    have el : lenOf (encs ((t, s) :: l)) = s.size := by
      rw [e, lenOf, List.getD_cons_succ, List.getD_cons_zero, List.getD_cons_succ, List.getD_cons_succ, List.getD_cons_zero, UInt8.toNat_ofNat', UInt8.toNat_ofNat']; omega
    have ef : fieldOf (encs ((t, s) :: l)) = (t, s) := by
      unfold fieldOf
      rw [et, el, e]
      simp only [List.drop_succ_cons, List.drop_zero]
      rw [List.take_append_of_le_length (by omega), List.take_of_length_le (by omega), txt_toList]
    have ed : (encs ((t, s) :: l)).drop (3 + lenOf (encs ((t, s) :: l))) = encs l := by
      rw [el, ← List.drop_drop, e]
      simp only [List.drop_succ_cons, List.drop_zero]
      rw [← hsl, List.drop_left]
    have es : stepErr last (encs ((t, s) :: l)) = 0 := by
      unfold stepErr
      rw [et, el, hlen, if_neg (by omega), if_neg (by omega), if_neg (by omega), if_neg (by omega)]
    match f, hf with
    | 0, hf => omega
    | f + 1, hf =>
      unfold parse
      rw [if_neg (by rw [e]; simp), if_pos es, ed, ef, et, parse_encs l t f hp' (by omega)]
      simp [join]

theorem unp_encs (l : List (Int × ByteArray)) (h : packErr 1 l = 0) : unpOut (encs l) = l ∧ unpErr (encs l) = 0 := by
  unfold unpOut unpErr
  rw [parse_encs l 1 _ h (Nat.le_refl _)]
  exact ⟨rfl, rfl⟩
end Pl
end Go.Proofs.YtlmoibicepppmaaDoor
