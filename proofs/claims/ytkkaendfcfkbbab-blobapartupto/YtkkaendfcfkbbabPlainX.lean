/-
  Plain mathematics of two writes that have no place in common (no program).
-/
import Derived.Test.YtkkaendfcfkbbabPlain
namespace Go.Proofs.Ytkkaendfcfkbbab
namespace Bl
theorem f_all {p : Int × UInt8 → Bool} {l : List (Int × UInt8)} (h : ∀ q ∈ l, p q = true) : l.filter p = l := List.filter_eq_self.2 h
theorem f_none {p : Int × UInt8 → Bool} {l : List (Int × UInt8)} (h : ∀ q ∈ l, p q = false) : l.filter p = [] := List.filter_eq_nil_iff.2 (fun q hq => by rw [h q hq]; simp)
theorem inn_iff {a b : Int} {q : Int × UInt8} : inn a b q = true ↔ a ≤ q.1 ∧ q.1 < b := by simp [inn]
theorem inn_not {a b : Int} {q : Int × UInt8} : inn a b q = false ↔ ¬ (a ≤ q.1 ∧ q.1 < b) := by rw [← inn_iff]; simp
theorem f_two {a b c d e f : Int} {l : List (Int × UInt8)} (h : ∀ q ∈ l, ((a ≤ q.1 ∧ q.1 < b) ∧ (c ≤ q.1 ∧ q.1 < d)) ↔ (e ≤ q.1 ∧ q.1 < f)) : (l.filter (inn c d)).filter (inn a b) = l.filter (inn e f) := by
  rw [List.filter_filter]
  apply List.filter_congr
  intro q hq
  rw [Bool.eq_iff_iff, Bool.and_eq_true, inn_iff, inn_iff, inn_iff]
  exact h q hq
theorem from_all {s : ByteArray} {a x y : Int} (h1 : x ≤ a) (h2 : a + (s.size : Int) ≤ y) : (onesFrom a s.data.toList).filter (inn x y) = onesFrom a s.data.toList :=
  f_all fun q hq => inn_iff.2 (by have := onesFrom_mem _ _ q hq; have hl : s.data.toList.length = s.size := by simp
                                  rw [hl] at this; omega)
theorem from_none {s : ByteArray} {a x y : Int} (h : a + (s.size : Int) ≤ x ∨ y ≤ a) : (onesFrom a s.data.toList).filter (inn x y) = [] :=
  f_none fun q hq => inn_not.2 (by have := onesFrom_mem _ _ q hq; have hl : s.data.toList.length = s.size := by simp
                                   rw [hl] at this; omega)
theorem f_nil {a b c d : Int} {l : List (Int × UInt8)} (h : ∀ q ∈ l, ¬ ((a ≤ q.1 ∧ q.1 < b) ∧ (c ≤ q.1 ∧ q.1 < d))) : (l.filter (inn c d)).filter (inn a b) = [] := by
  rw [List.filter_filter]
  exact f_none fun q hq => by
    rw [Bool.and_eq_false_iff, inn_not, inn_not]
    have := h q hq
    by_cases h1 : a ≤ q.1 ∧ q.1 < b
    · exact .inr (fun h2 => this ⟨h1, h2⟩)
    · exact .inl h1
theorem apart_ones {l : List R} (hr : right (-1) l) {a b : Int} {A B : ByteArray} (ha : 0 ≤ a) (hab : a + (A.size : Int) ≤ b) (hb : b + (B.size : Int) ≤ 1048576) : ones (write (write l a A) b B) = ones (write (write l b B) a A) := by
  have hm : ∀ q ∈ ones l, 0 ≤ q.1 ∧ q.1 < (1048576 : Int) := right_filter hr
  rw [ones_write, ones_write l a A, ones_write (write l b B), ones_write l b B]
  simp only [List.filter_append]
  rw [f_two (a := 0) (b := b) (c := 0) (d := a) (e := 0) (f := a) (fun q hq => by omega), from_all (x := 0) (y := b) ha hab,
    f_two (a := 0) (b := b) (c := a + A.size) (d := MAX) (e := a + A.size) (f := b) (fun q hq => by have := hm q hq; have e : (MAX : Int) = 1048576 := rfl; omega),
    f_nil (a := b + B.size) (b := MAX) (c := 0) (d := a) (fun q hq => by omega), from_none (x := b + B.size) (y := MAX) (.inl (by omega)),
    f_two (a := b + B.size) (b := MAX) (c := a + A.size) (d := MAX) (e := b + B.size) (f := MAX) (fun q hq => by omega),
    f_two (a := 0) (b := a) (c := 0) (d := b) (e := 0) (f := a) (fun q hq => by omega), from_none (x := 0) (y := a) (.inr (by omega)),
    f_nil (a := 0) (b := a) (c := b + B.size) (d := MAX) (fun q hq => by omega),
    f_two (a := a + A.size) (b := MAX) (c := 0) (d := b) (e := a + A.size) (f := b) (fun q hq => by have := hm q hq; have e : (MAX : Int) = 1048576 := rfl; omega), from_all (x := a + A.size) (y := MAX) (by omega) hb,
    f_two (a := a + A.size) (b := MAX) (c := b + B.size) (d := MAX) (e := b + B.size) (f := MAX) (fun q hq => by omega)]
  simp only [List.append_nil, List.nil_append, List.append_assoc]
theorem apart {l : List R} (hr : right (-1) l) {a b : Int} {A B : ByteArray} (ha : 0 ≤ a) (hb : 0 ≤ b) (ha2 : a + (A.size : Int) ≤ 1048576) (hb2 : b + (B.size : Int) ≤ 1048576) (h : a + (A.size : Int) ≤ b ∨ b + (B.size : Int) ≤ a) : write (write l a A) b B = write (write l b B) a A := by
  refine eq_of_ones (write_right (write_right hr ha ha2) hb hb2) (write_right (write_right hr hb hb2) ha ha2) ?_
  rcases h with h | h
  · exact apart_ones hr ha h hb2
  · exact (apart_ones hr hb h ha2).symm
end Bl
end Go.Proofs.Ytkkaendfcfkbbab
