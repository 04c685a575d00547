/-
  Plain facts (no program): fields one behind the other are packed one behind the other.
-/
import Derived.Test.YtdgainpbaphniabPlainK
namespace Go.Proofs.Ytdgainpbaphniab
namespace Pl

def lastTag (last : Int) (a : List (Int × ByteArray)) : Int := lastAt last a a.length
theorem lastTag_cons (last : Int) (x : Int × ByteArray) (l : List (Int × ByteArray)) : lastTag last (x :: l) = lastTag x.1 l := by
  unfold lastTag
  rw [List.length_cons, lastAt_cons]
theorem packErr_append : ∀ (a b : List (Int × ByteArray)) (last : Int), packErr last (a ++ b) = if packErr last a = 0 then packErr (lastTag last a) b else packErr last a
  | [], b, last => by simp [packErr, lastTag, lastAt]
  | x :: a, b, last => by
    rw [List.cons_append, lastTag_cons]
    by_cases h : badAt last x = 0
    · have e1 : packErr last (x :: (a ++ b)) = packErr x.1 (a ++ b) := by simp [packErr, h]
      have e2 : packErr last (x :: a) = packErr x.1 a := by simp [packErr, h]
      rw [e1, packErr_append a b x.1]
      simp only [e2]
    · have e1 : packErr last (x :: (a ++ b)) = badAt last x := by simp [packErr, h]
      have e2 : packErr last (x :: a) = badAt last x := by simp [packErr, h]
      rw [e1]
      simp only [e2, if_neg h]
theorem badAt_mono {l1 l2 : Int} {x : Int × ByteArray} (h : badAt l2 x = 0) (hl : l1 ≤ l2) : badAt l1 x = 0 := by
  obtain ⟨h1, h2, h3, h4⟩ := badAt_zero h
  unfold badAt
  rw [if_neg (by omega), if_neg (by omega), if_neg (by omega)]
theorem packErr_mono {l1 l2 : Int} {b : List (Int × ByteArray)} (h : packErr l2 b = 0) (hl : l1 ≤ l2) : packErr l1 b = 0 := by
  cases b with
  | nil => rfl
  | cons y b =>
    simp only [packErr] at h ⊢
    have hb : badAt l2 y = 0 := by
      split at h
      · assumption
      · exact h
    rw [if_pos hb] at h
    rw [if_pos (badAt_mono hb hl)]
    exact h
theorem lastTag_ge : ∀ (a : List (Int × ByteArray)) (last : Int), packErr last a = 0 → last ≤ lastTag last a
  | [], last, _ => by simp [lastTag, lastAt]
  | x :: a, last, h => by
    simp only [packErr] at h
    have hb : badAt last x = 0 := by
      split at h
      · assumption
      · exact h
    rw [if_pos hb] at h
    have h1 := lastTag_ge a x.1 h
    have h2 := (badAt_zero hb).2.2.2
    rw [lastTag_cons]
    omega

theorem parts_bad {a b : List (Int × ByteArray)} (h : packErr 1 a ≠ 0 ∨ packErr 1 b ≠ 0) : packErr 1 (a ++ b) ≠ 0 := by
  rw [packErr_append]
  by_cases ha : packErr 1 a = 0
  · rw [if_pos ha]
    rcases h with h | h
    · exact absurd ha h
    · exact fun hb => h (packErr_mono hb (lastTag_ge a 1 ha))
  · rw [if_neg ha]; exact ha
theorem parts_falls {a b : List (Int × ByteArray)} (ha : packErr 1 a = 0) (hb : packErr 1 b = 0) (h : packErr 1 (a ++ b) ≠ 0) :
    ∃ ja, a.length = ja + 1 ∧ 0 < b.length ∧ (b.getD 0 (0, .empty)).1 < (a.getD ja (0, .empty)).1 := by
  rw [packErr_append, if_pos ha] at h
  match a, b, ha, hb, h with
  | [], b, _, hb, h => exact absurd hb h
  | x :: a, [], _, _, h => exact absurd rfl h
  | x :: a, y :: b, ha, hb, h =>
    refine ⟨a.length, by simp, by simp, ?_⟩
    have hy : badAt 1 y = 0 := by
      simp only [packErr] at hb
      split at hb
      · assumption
      · exact hb
    have hr : packErr y.1 b = 0 := by
      simp only [packErr] at hb
      rwa [if_pos hy] at hb
    have hn : badAt (lastTag 1 (x :: a)) y ≠ 0 := by
      intro h0
      apply h
      simp only [packErr]
      rw [if_pos h0]
      exact hr
    obtain ⟨h1, h2, h3, h4⟩ := badAt_zero hy
    have hlt : y.1 < lastTag 1 (x :: a) := by
      rcases Int.lt_or_le y.1 (lastTag 1 (x :: a)) with h' | h'
      · exact h'
      · exfalso
        apply hn
        unfold badAt
        rw [if_neg (by omega), if_neg (by omega), if_neg (by omega)]
    rw [List.getD_cons_zero]
    have e : lastTag 1 (x :: a) = ((x :: a).getD a.length (0, .empty)).1 := by
      unfold lastTag lastAt
      rw [List.length_cons, if_neg (by omega), Nat.add_sub_cancel]
    rw [← e]
    exact hlt
theorem parts_fine {a b : List (Int × ByteArray)} (ha : packErr 1 a = 0) (hb : packErr 1 b = 0) (h : packErr 1 (a ++ b) = 0) :
    packOut (a ++ b) = packOut a ++ packOut b := by
  unfold packOut
  rw [if_pos ha, if_pos hb, if_pos h, txt_append]
  simp [encs]
theorem encs_append_length (a b : List (Int × ByteArray)) : (encs (a ++ b)).length = (encs a).length + (encs b).length := by simp [encs]
end Pl
end Go.Proofs.Ytdgainpbaphniab
