/-
  Plain mathematics of attributes and of runs: which are right, where runs end, how many bytes they have. No program.
-/
import Derived.WalkKit
namespace Go.Proofs.YtacghcoikekfeaaGreat
open Go.RowKit (wrap64)
set_option maxRecDepth 100000
namespace At
/-- Kind, links, size, stamp. -/
def rightP (k l s t : Int) : Prop := (k = 0 ∧ l = 0 ∧ s = 0 ∧ t = 0) ∨ ((0 ≤ s ∧ s ≤ 1048576) ∧ (0 ≤ t ∧ t ≤ 1099511627776) ∧ ((k = 1 ∧ 0 ≤ l ∧ l ≤ 64) ∨ (k = 2 ∧ l = 1)))
instance (k l s t : Int) : Decidable (rightP k l s t) := by unfold rightP; infer_instance
def right (k l s t : Int) : Bool := decide (rightP k l s t)
theorem right_iff {k l s t : Int} : right k l s t = true ↔ rightP k l s t := by simp [right]
theorem wrong_iff {k l s t : Int} : right k l s t = false ↔ ¬ rightP k l s t := by simp [right]
end At
namespace Bl
abbrev R := Int × ByteArray
def d0 : R := (0, ⟨#[]⟩)
def txt (l : List UInt8) : ByteArray := ⟨l.toArray⟩
def bs (r : R) : List UInt8 := r.2.data.toList
theorem txt_bs (s : ByteArray) : txt s.data.toList = s := by cases s; simp [txt]
theorem bs_txt (a : Int) (l : List UInt8) : bs (a, txt l) = l := by simp [bs, txt]
theorem txt_size (l : List UInt8) : (txt l).size = l.length := by simp [txt, ByteArray.size]
theorem txt_append (a b : List UInt8) : txt a ++ txt b = txt (a ++ b) := ByteArray.mk_append_mk a b
theorem bs_length (r : R) : (bs r).length = r.2.size := by simp [bs]
theorem data_append (a b : ByteArray) : (a ++ b).data.toList = a.data.toList ++ b.data.toList := by simp
theorem size_append (a b : ByteArray) : (a ++ b).size = a.size + b.size := by simp
theorem extract_txt (s : ByteArray) (a b : Nat) : s.extract a b = txt ((s.data.toList.drop a).take (b - a)) := by
  cases s with
  | mk d =>
    simp only [txt]
    apply ByteArray.ext
    simp only [ByteArray.data_extract]
    rw [← Array.toList_inj]
    simp [Array.toList_extract, List.extract_eq_take_drop]
def rend (r : R) : Int := r.1 + r.2.size
abbrev MAX : Int := 1048576
/-- Right runs behind a place. -/
def right (last : Int) : List R → Prop
  | [] => True
  | r :: l => (r.2.size ≠ 0 ∧ last < r.1 ∧ r.1 + r.2.size ≤ MAX) ∧ right (rend r) l
instance instRight : ∀ (last : Int) (l : List R), Decidable (right last l)
  | _, [] => .isTrue trivial
  | _, r :: l => @instDecidableAnd _ _ inferInstance (instRight (rend r) l)
def lastEnd (a : Int) : List R → Int
  | [] => a
  | r :: l => lastEnd (rend r) l
theorem lastEnd_append (l m : List R) : ∀ a, lastEnd a (l ++ m) = lastEnd (lastEnd a l) m := by
  induction l with
  | nil => intro a; rfl
  | cons r l ih => intro a; exact ih _
theorem right_append (l m : List R) : ∀ a, right a (l ++ m) ↔ right a l ∧ right (lastEnd a l) m := by
  induction l with
  | nil => intro a; simp [right, lastEnd]
  | cons r l ih =>
    intro a
    have h := ih (rend r)
    show (_ ∧ right (rend r) (l ++ m)) ↔ (_ ∧ right (rend r) l) ∧ right (lastEnd (rend r) l) m
    rw [h]
    exact (and_assoc (a := _ ∧ _ ∧ _)).symm
theorem right_lastEnd {l : List R} : ∀ {a : Int}, right a l → a ≤ lastEnd a l := by
  induction l with
  | nil => intro a _; exact Int.le_refl _
  | cons r l ih =>
    intro a h
    have := ih h.2
    have h1 := h.1
    show a ≤ lastEnd (rend r) l
    unfold rend at *
    omega
theorem right_mem {l : List R} : ∀ {a : Int}, right a l → ∀ r ∈ l, r.2.size ≠ 0 ∧ a < r.1 ∧ rend r ≤ MAX := by
  induction l with
  | nil => intro a _ r hr; cases hr
  | cons s l ih =>
    intro a h r hr
    rcases List.mem_cons.1 hr with rfl | hr
    · exact ⟨h.1.1, h.1.2.1, h.1.2.2⟩
    · have := ih h.2 r hr
      have h1 := h.1
      unfold rend at *
      exact ⟨this.1, by omega, this.2.2⟩
theorem right_length {l : List R} : ∀ {a : Int}, right a l → a ≤ MAX → (l.length : Int) ≤ MAX - a := by
  induction l with
  | nil => intro a _ ha; simp; omega
  | cons s l ih =>
    intro a h ha
    have h1 := h.1
    have := ih h.2 (by unfold rend; omega)
    simp only [List.length_cons]
    unfold rend at *
    omega
theorem snoc_cases (l : List R) : l = [] ∨ ∃ m s, l = m ++ [s] := by
  rcases List.eq_nil_or_concat l with h | ⟨m, s, h⟩
  · exact .inl h
  · exact .inr ⟨m, s, by simpa using h⟩
def endOf (l : List R) : Int := if right (-1) l then lastEnd 0 l else 0
theorem lastEnd_ne {l : List R} (h : l ≠ []) (a b : Int) : lastEnd a l = lastEnd b l := by
  cases l with
  | nil => exact absurd rfl h
  | cons r l => rfl
def sumw (l : List R) : Int := l.foldl (fun y r => wrap64 (y + (r.2.size : Int))) 0
theorem takeR_succ (l : List R) {k : Nat} (hk : k < l.length) {x : R} (hx : l.getD k (0, .empty) = x) : l.take (k + 1) = l.take k ++ [x] := by
  rw [List.take_add_one, List.getElem?_eq_getElem hk]
  simp [List.getD, List.getElem?_eq_getElem hk] at hx
  simp [hx]
theorem sumw_succ {l : List R} {k : Nat} (hk : k < l.length) {x : R} (hx : l.getD k (0, .empty) = x) : sumw (l.take (k + 1)) = wrap64 (sumw (l.take k) + (x.2.size : Int)) := by
  rw [takeR_succ l hk hx]; unfold sumw; rw [List.foldl_append]; rfl
end Bl
/-- What reads as fields: each tag an int, each value a string that can be. -/
def okFields (l : List (Int × ByteArray)) : Prop := ∀ x ∈ l, (-9223372036854775808 ≤ x.1 ∧ x.1 ≤ 9223372036854775807) ∧ x.2.size ≤ maxLen

theorem okFields.at {l : List (Int × ByteArray)} (h : okFields l) {i : Nat} (hi : i < l.length) : (-9223372036854775808 ≤ (l.getD i (0, .empty)).1 ∧ (l.getD i (0, .empty)).1 ≤ 9223372036854775807) ∧ (l.getD i (0, .empty)).2.size ≤ maxLen := by
  have : l.getD i (0, .empty) ∈ l := by simp [List.getD, hi]
  exact h _ this

def Bl.err (l : List Bl.R) : Int := if Bl.right (-1) l then 0 else 80
theorem Bl.take_succ (l : List Bl.R) {k : Nat} (hk : k < l.length) {x : Bl.R} (hx : l.getD k (0, .empty) = x) : l.take (k + 1) = l.take k ++ [x] := by
  rw [List.take_succ_eq_append_getElem hk, ← hx]
  simp [List.getD, hk]
theorem Bl.right_take_succ {l : List Bl.R} {k : Nat} (hk : k < l.length) {x : Bl.R} (hx : l.getD k (0, .empty) = x) : Bl.right (-1) (l.take (k + 1)) ↔ Bl.right (-1) (l.take k) ∧ (x.2.size ≠ 0 ∧ Bl.lastEnd (-1) (l.take k) < x.1 ∧ x.1 + x.2.size ≤ 1048576) := by
  rw [Bl.take_succ l hk hx, Bl.right_append]
  exact ⟨fun ⟨a, b, _⟩ => ⟨a, b⟩, fun ⟨a, b⟩ => ⟨a, b, trivial⟩⟩
theorem Bl.right_take {l : List Bl.R} {a : Int} (h : Bl.right a l) (k : Nat) : Bl.right a (l.take k) := by
  rw [← List.take_append_drop k l, Bl.right_append] at h
  exact h.1
theorem Bl.err_bad {l : List Bl.R} {k : Nat} (hk : k < l.length) {x : Bl.R} (hx : l.getD k (0, .empty) = x) (h : ¬ (x.2.size ≠ 0 ∧ Bl.lastEnd (-1) (l.take k) < x.1 ∧ x.1 + x.2.size ≤ 1048576)) : Bl.err l = 80 := by
  unfold Bl.err
  rw [if_neg]
  intro hr
  exact h ((Bl.right_take_succ hk hx).1 (Bl.right_take hr (k + 1))).2
theorem Bl.lastEnd_succ {l : List Bl.R} {k : Nat} (hk : k < l.length) {x : Bl.R} (hx : l.getD k (0, .empty) = x) : Bl.lastEnd (-1) (l.take (k + 1)) = x.1 + x.2.size := by
  rw [Bl.take_succ l hk hx, Bl.lastEnd_append]
  rfl
theorem Bl.lastEnd_bd {l : List Bl.R} (h : Bl.right (-1) l) : -1 ≤ Bl.lastEnd (-1) l ∧ Bl.lastEnd (-1) l ≤ 1048576 := by
  refine ⟨Bl.right_lastEnd h, ?_⟩
  rcases Bl.snoc_cases l with rfl | ⟨m, s, rfl⟩
  · decide
  · rw [Bl.lastEnd_append]
    exact (Bl.right_mem h s (by simp)).2.2

theorem Bl.not_right {l : List Bl.R} {k : Nat} (hk : k < l.length) {x : Bl.R} (hx : l.getD k (0, .empty) = x) (h : ¬ (x.2.size ≠ 0 ∧ Bl.lastEnd (-1) (l.take k) < x.1 ∧ x.1 + x.2.size ≤ 1048576)) : decide (Bl.right (-1) l) = false :=
  decide_eq_false fun hr => h ((Bl.right_take_succ hk hx).1 (Bl.right_take hr (k + 1))).2

end Go.Proofs.YtacghcoikekfeaaGreat
