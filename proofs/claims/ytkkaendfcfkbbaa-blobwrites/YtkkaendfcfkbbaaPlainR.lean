/-
  Plain mathematics of reading runs (no program): the bytes from a place on.
-/
import Derived.Test.YtkkaendfcfkbbaaPlain
namespace Go.Proofs.Ytkkaendfcfkbbaa
namespace Bl
/-- The m bytes from a place on. -/
def over (at_ : Int) (m : Nat) (l : List R) : List UInt8 := (List.range m).map fun (q : Nat) => look 0 (at_ + (q : Int)) (ones l)
theorem over_length (at_ : Int) (m : Nat) (l : List R) : (over at_ m l).length = m := by simp [over]
theorem over_nil (at_ : Int) (m : Nat) : over at_ m [] = List.replicate m 0 := by
  apply List.ext_getElem
  · simp [over]
  · intro i h1 h2
    simp [over, ones, look]
theorem over_snoc (at_ : Int) (m : Nat) (l : List R) (x : R) (o : Nat) (ho : x.1 = at_ + (o : Int)) (hm : o + x.2.size ≤ m) :
    over at_ m (l ++ [x]) = (over at_ m l).take o ++ x.2.data.toList ++ (over at_ m l).drop (o + x.2.size) := by
  have hl := over_length at_ m l
  have hb : x.2.data.toList.length = x.2.size := by simp
  apply List.ext_getElem
  · simp only [over_length, List.length_append, List.length_take, List.length_drop, hb]
    omega
  · intro i h1 h2
    rw [over_length] at h1
    have e1 : (over at_ m (l ++ [x]))[i]'(by rw [over_length]; exact h1) = if x.1 ≤ at_ + (i : Int) ∧ at_ + (i : Int) < rend x then (bs x).getD (at_ + (i : Int) - x.1).toNat 0 else look 0 (at_ + (i : Int)) (ones l) := by
      simp only [over, List.getElem_map, List.getElem_range, ones_append, look_append]
      rw [show ones [x] = one x by simp [ones], look_one]
    rw [e1]
    have e2 : ∀ (j : Nat) (hj : j < (over at_ m l).length), (over at_ m l)[j] = look 0 (at_ + (j : Int)) (ones l) := fun j hj => by simp [over]
    unfold rend
    by_cases h3 : i < o
    · rw [if_neg (by omega), List.getElem_append_left (by simp only [List.length_append, List.length_take, hb]; omega), List.getElem_append_left (by simp only [List.length_take]; omega), List.getElem_take, e2]
    · by_cases h4 : i < o + x.2.size
      · rw [if_pos (by omega), List.getElem_append_left (by simp only [List.length_append, List.length_take, hb]; omega), List.getElem_append_right (by simp only [List.length_take]; omega)]
        have hi : (at_ + (i : Int) - x.1).toNat = i - o := by omega
        have ht : ((over at_ m l).take o).length = o := by simp only [List.length_take]; omega
        rw [hi]
        simp only [ht]
        unfold bs
        rw [List.getD_eq_getElem?_getD, List.getElem?_eq_getElem (by omega)]
        rfl
      · rw [if_neg (by omega), List.getElem_append_right (by simp only [List.length_append, List.length_take, hb]; omega), List.getElem_drop, e2]
        congr 1
        simp only [List.length_append, List.length_take, hb]
        omega
theorem over_within (at_ : Int) (m : Nat) (l : List R) : over at_ m (within at_ (at_ + m) l) = over at_ m l := by
  unfold over
  apply List.map_congr_left
  intro q hq
  have := List.mem_range.1 hq
  rw [ones_within, look_filter]
  intro p _ hp
  unfold inn
  simp
  omega
/-- What Read tells. -/
def rErr (l : List R) (size at_ n : Int) : Int := if right (-1) l then if size < 0 ∨ 1048576 < size ∨ at_ < 0 ∨ n < 0 ∨ 512 < n then 1 else 0 else 80
def rOut (l : List R) (size at_ n : Int) : ByteArray := if rErr l size at_ n = 0 then txt (over at_ (min n (size - at_)).toNat l) else txt []
end Bl
end Go.Proofs.Ytkkaendfcfkbbaa
