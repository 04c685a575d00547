/-
  Names: which texts are names, and what a range over a text sees of its bytes. No program.
-/
import Derived.WalkKit
import Derived.ProofKit
import Derived.Laws.RangeAny
namespace Go.Proofs.YtacghcoikekfeaaGreat
set_option maxRecDepth 100000
namespace Nm
/-- No byte that may not be, up to p. -/
def clean (s : ByteArray) (p : Nat) : Prop := ∀ i (h : i < s.size), i < p → (s[i]'h).toNat ≠ 47 ∧ (s[i]'h).toNat ≠ 0
def ok (s : ByteArray) : Prop := 1 ≤ s.size ∧ s.size ≤ 32 ∧ s ≠ ⟨#[46]⟩ ∧ s ≠ ⟨#[46, 46]⟩ ∧ clean s s.size
open Classical in
noncomputable def err (s : ByteArray) : Int := if ok s then 0 else 409
theorem err_ok {s : ByteArray} (h : ok s) : err s = 0 := by unfold err; rw [if_pos h]
theorem err_no {s : ByteArray} (h : ¬ ok s) : err s = 409 := by unfold err; rw [if_neg h]
theorem err_or (s : ByteArray) : (err s = 0 ∧ ok s) ∨ (err s = 409 ∧ ¬ ok s) := by
  by_cases h : ok s
  · exact .inl ⟨err_ok h, h⟩
  · exact .inr ⟨err_no h, h⟩
theorem clean_zero (s : ByteArray) : clean s 0 := fun i _ h => by omega
theorem clean_bad {s : ByteArray} {p : Nat} (h : p < s.size) (hb : (s[p]'h).toNat = 47 ∨ (s[p]'h).toNat = 0) : ¬ ok s := fun hk => by
  have := hk.2.2.2.2 p h h
  rcases hb with hb | hb
  · exact this.1 hb
  · exact this.2 hb
theorem clean_succ {s : ByteArray} {p : Nat} (h : p < s.size) (hc : clean s p) (h1 : (s[p]'h).toNat ≠ 47) (h2 : (s[p]'h).toNat ≠ 0) : clean s (p + 1) := fun i hi hl => by
  by_cases e : i = p
  · subst e
    exact ⟨h1, h2⟩
  · exact hc i hi (by omega)
theorem get_tail (s : ByteArray) (i : Nat) (h : i < s.size) : s.get! i = s[i]'h := by
  simp [ByteArray.get!, getElem!_pos, h]
  rfl
/-- What a decode jumps over lies within the text and is 128 or more. -/
theorem decode_skip (s : ByteArray) (pos : Nat) (h : pos < s.size) : 1 ≤ (Utf8.decode s pos).2 ∧ pos + (Utf8.decode s pos).2 ≤ s.size ∧ ∀ k, 1 ≤ k → k < (Utf8.decode s pos).2 → 128 ≤ (s.get! (pos + k)).toNat := by
  by_cases ha : (s[pos]'h).toNat < 128
  · rw [decode_ascii s pos h ha]
    exact ⟨Nat.le_refl _, h, fun k h1 h2 => by simp at h2; omega⟩
  · simp only [Utf8.decode, get_at s pos h, ha, if_false]
    generalize h1 : (s.get! (pos + 1)).toNat = b1
    generalize h2 : (s.get! (pos + 2)).toNat = b2
    generalize h3 : (s.get! (pos + 3)).toNat = b3
    have one : ∀ k, 1 ≤ k → k < 1 → 128 ≤ (s.get! (pos + k)).toNat := fun k _ _ => by omega
    repeat' split
    all_goals simp only [Bool.and_eq_true, decide_eq_true_eq, beq_iff_eq] at *
    all_goals refine ⟨by decide, by omega, ?_⟩
    all_goals first
      | exact one
      | (intro k hk1 hk2
         have hk : k = 1 ∨ k = 2 ∨ k = 3 := by omega
         rcases hk with rfl | rfl | rfl
         · rw [h1]; omega
         · rw [h2]; omega
         · rw [h3]; omega)
theorem decode_bad (s : ByteArray) (pos : Nat) (h : pos < s.size) : ((Utf8.decode s pos).1 = 47 ↔ (s[pos]'h).toNat = 47) ∧ ((Utf8.decode s pos).1 = 0 ↔ (s[pos]'h).toNat = 0) := by
  by_cases ha : (s[pos]'h).toNat < 128
  · rw [decode_ascii s pos h ha]
    exact ⟨Iff.rfl, Iff.rfl⟩
  · have := (decode_high s pos h (by omega)).1
    constructor <;> constructor <;> intro h' <;> omega
theorem clean_jump {s : ByteArray} {p : Nat} (h : p < s.size) (hc : clean s p) (h1 : (Utf8.decode s p).1 ≠ 47) (h2 : (Utf8.decode s p).1 ≠ 0) : clean s (p + (Utf8.decode s p).2) := fun i hi hl => by
  obtain ⟨hb1, hb2⟩ := decode_bad s p h
  by_cases e : i < p
  · exact hc i hi e
  · by_cases e2 : i = p
    · subst e2
      exact ⟨fun h' => h1 (hb1.2 h'), fun h' => h2 (hb2.2 h')⟩
    · have := (decode_skip s p h).2.2 (i - p) (by omega) (by omega)
      rw [show p + (i - p) = i by omega, get_tail s i hi] at this
      constructor <;> omega
end Nm
end Go.Proofs.YtacghcoikekfeaaGreat
