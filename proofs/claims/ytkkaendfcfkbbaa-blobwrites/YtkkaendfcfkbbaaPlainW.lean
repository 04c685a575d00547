/-
  Plain mathematics of reading what was written (no program).
-/
import Derived.Test.YtkkaendfcfkbbaaPlainR
namespace Go.Proofs.Ytkkaendfcfkbbaa
namespace Bl
theorem look_write {l : List R} {at_ : Int} {d : ByteArray} (hr : right (-1) l) (p : Int) :
    look 0 p (ones (write l at_ d)) = if at_ ≤ p ∧ p < at_ + (d.size : Int) then d.data.toList.getD (p - at_).toNat 0 else look 0 p (ones l) := by
  rw [ones_write, look_append, look_append]
  have hl : d.data.toList.length = d.size := by simp
  split
  · rename_i h
    rw [look_none _ _ (List.filter _ _) (fun q hq => by have := (List.mem_filter.1 hq).2; unfold inn at this; simp at this; omega)]
    rw [look_from _ _ _ _ h.1 (by rw [hl]; exact h.2)]
  · rename_i h
    rw [look_none _ _ (onesFrom _ _) (fun q hq => by have := onesFrom_mem _ _ q hq; rw [hl] at this; omega)]
    by_cases h1 : p < at_
    · rw [look_none _ _ (List.filter (inn (at_ + d.size) MAX) _) (fun q hq => by have := (List.mem_filter.1 hq).2; unfold inn at this; simp at this; omega)]
      exact look_filter _ _ _ _ (fun q hq e => by
        have h2 := right_filter hr q hq
        unfold inn
        simp
        omega)
    · rw [look_none _ _ (List.filter (inn 0 at_) _) (fun q hq => by have := (List.mem_filter.1 hq).2; unfold inn at this; simp at this; omega)]
      exact look_filter _ _ _ _ (fun q hq e => by
        have h2 := right_filter hr q hq
        unfold inn
        simp
        omega)
theorem over_same {l : List R} {at_ : Int} {d : ByteArray} (hr : right (-1) l) : over at_ d.size (write l at_ d) = d.data.toList := by
  have hl : d.data.toList.length = d.size := by simp
  apply List.ext_getElem
  · rw [over_length, hl]
  · intro i h1 h2
    rw [over_length] at h1
    simp only [over, List.getElem_map, List.getElem_range]
    rw [look_write hr, if_pos (by omega), show (at_ + (i : Int) - at_).toNat = i by omega, List.getD_eq_getElem?_getD, List.getElem?_eq_getElem h2]
    rfl
theorem over_else {l : List R} {at_ : Int} {d : ByteArray} (hr : right (-1) l) {a : Int} {m : Nat} (h : a + (m : Int) ≤ at_ ∨ at_ + (d.size : Int) ≤ a) : over a m (write l at_ d) = over a m l := by
  unfold over
  apply List.map_congr_left
  intro q hq
  have := List.mem_range.1 hq
  rw [look_write hr, if_neg (by omega)]
theorem rErr_ok {l : List R} {size at_ n : Int} (hr : right (-1) l) (h : ¬ (size < 0 ∨ 1048576 < size ∨ at_ < 0 ∨ n < 0 ∨ 512 < n)) : rErr l size at_ n = 0 := by unfold rErr; rw [if_pos hr, if_neg h]
theorem rOut_ok {l : List R} {size at_ n : Int} (hr : right (-1) l) (h : ¬ (size < 0 ∨ 1048576 < size ∨ at_ < 0 ∨ n < 0 ∨ 512 < n)) : rOut l size at_ n = txt (over at_ (min n (size - at_)).toNat l) := by unfold rOut; rw [if_pos (rErr_ok hr h)]
end Bl
end Go.Proofs.Ytkkaendfcfkbbaa
