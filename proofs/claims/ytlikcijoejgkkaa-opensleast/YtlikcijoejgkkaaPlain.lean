/-
  Open files: which are right, the least number that is free, what is open behind an opening, a closing, a leaving. No program.
-/
import Derived.Test.YtlikcijoejgkkaaRow
namespace Go.Proofs.Ytlikcijoejgkkaa
open Go.RowKit
/-- An open file: its number, the client, the handle's number and generation. -/
abbrev Opn := Int × Int × Int × Int
def EO : Enc Opn := ⟨4, fun x => [.int .i64 x.1, .int .i64 x.2.1, .int .i64 x.2.2.1, .int .i64 x.2.2.2], fun _ => rfl, fun x u hu => by
  simp at hu
  rcases hu with rfl | rfl | rfl | rfl <;> rfl⟩
/-- A handle that an open file may be of. -/
def Ho (no gen : Int) : Prop := (0 ≤ no ∧ no ≤ 23) ∧ (1 ≤ gen ∧ gen ≤ 1099511627776)
instance (no gen : Int) : Decidable (Ho no gen) := by unfold Ho; infer_instance
namespace Op
/-- A client that may be. -/
def Cl (c : Int) : Prop := 0 ≤ c ∧ c ≤ 1099511627776
instance (c : Int) : Decidable (Cl c) := by unfold Cl; infer_instance
def good (t : Int) (x : Opn) : Prop := (t ≤ x.1 ∧ x.1 ≤ 15) ∧ Cl x.2.1 ∧ Ho x.2.2.1 x.2.2.2
instance (t : Int) (x : Opn) : Decidable (good t x) := by unfold good; infer_instance
def right (t : Int) : List Opn → Bool
  | [] => true
  | x :: r => decide (good t x) && right (x.1 + 1) r
theorem drop_at {α : Type} {l : List α} {k : Nat} {x : α} (h : l[k]? = some x) : l.drop k = x :: l.drop (k + 1) := by
  obtain ⟨hk, rfl⟩ := List.getElem?_eq_some_iff.1 h
  exact List.drop_eq_getElem_cons hk
theorem take_at {α : Type} {l : List α} {k : Nat} {x : α} (h : l[k]? = some x) : l.take (k + 1) = l.take k ++ [x] := by
  rw [List.take_add_one, h]
  rfl
theorem right_yes {l : List Opn} {k : Nat} {x : Opn} {t : Int} (h : l[k]? = some x) (hg : good t x) : right t (l.drop k) = right (x.1 + 1) (l.drop (k + 1)) := by
  rw [drop_at h]
  simp [right, hg]
theorem right_no {l : List Opn} {k : Nat} {x : Opn} {t : Int} (h : l[k]? = some x) (hg : ¬ good t x) : right t (l.drop k) = false := by
  rw [drop_at h]
  simp [right, hg]
theorem right_end {l : List Opn} {k : Nat} {t : Int} (h : k = l.length) : right t (l.drop k) = true := by
  rw [h, List.drop_length]
  rfl
theorem right_all : ∀ (l : List Opn) (t : Int), right t l = true → ∀ (j : Nat) (x : Opn), l[j]? = some x → t + j ≤ x.1 ∧ x.1 + (l.length : Int) ≤ 16 + j ∧ Cl x.2.1 ∧ Ho x.2.2.1 x.2.2.2
  | [], _, _, j, x, h => by simp at h
  | y :: r, t, h, 0, x, hx => by
    simp [right] at h
    simp at hx
    subst hx
    refine ⟨by have := h.1.1.1; simpa using this, ?_, h.1.2.1, h.1.2.2⟩
    have ih := right_all r _ h.2
    cases r with
    | nil =>
      have := h.1.1.2
      simp
      omega
    | cons z r =>
      have := ih 0 z rfl
      simp only [List.length_cons] at this ⊢
      omega
  | y :: r, t, h, j + 1, x, hx => by
    simp [right] at h
    have ih := right_all r _ h.2 j x (by simpa using hx)
    have := h.1.1.1
    simp only [List.length_cons]
    refine ⟨by omega, by omega, ih.2.2⟩
theorem right_len {l : List Opn} (h : right 0 l = true) : l.length ≤ 16 := by
  cases l with
  | nil => simp
  | cons x r =>
    have := right_all _ _ h 0 x rfl
    omega
theorem right_one {l : List Opn} (h : right 0 l = true) {i j : Nat} {x y : Opn} (hx : l[i]? = some x) (hy : l[j]? = some y) (he : x.1 = y.1) : x = y := by
  have key : ∀ (l : List Opn) (t : Int), right t l = true → ∀ (i j : Nat) (x y : Opn), i < j → l[i]? = some x → l[j]? = some y → x.1 < y.1 := by
    intro l
    induction l with
    | nil => intro t _ i j x y _ hx; simp at hx
    | cons z r ih =>
      intro t h i j x y hij hx hy
      simp [right] at h
      cases j with
      | zero => omega
      | succ j =>
        cases i with
        | zero =>
          simp at hx
          subst hx
          have := right_all r _ h.2 j y (by simpa using hy)
          omega
        | succ i => exact ih _ h.2 i j x y (by omega) (by simpa using hx) (by simpa using hy)
  rcases Nat.lt_trichotomy i j with hl | hl | hl
  · have := key l 0 h i j x y hl hx hy
    omega
  · subst hl
    rw [hx] at hy
    cases hy
    rfl
  · have := key l 0 h j i y x hl hy hx
    omega
/-- What is wrong with open files or a client. -/
def ask (l : List Opn) (c : Int) : Int := if right 0 l = true then (if Cl c then 0 else 1) else 4
theorem ask_or (l : List Opn) (c : Int) : (ask l c = 0 ∧ right 0 l = true ∧ Cl c) ∨ (ask l c = 1 ∧ right 0 l = true ∧ ¬ Cl c) ∨ (ask l c = 4 ∧ right 0 l = false) := by
  unfold ask
  cases h : right 0 l
  · exact .inr (.inr ⟨by simp, rfl⟩)
  · by_cases hc : Cl c
    · exact .inl ⟨by simp [hc], rfl, hc⟩
    · exact .inr (.inl ⟨by simp [hc], rfl, hc⟩)
/-- The least number that is free, from i on. -/
def least (i : Nat) : List Opn → Nat
  | [] => i
  | x :: r => if x.1 = i then least (i + 1) r else i
theorem least_yes {l : List Opn} {k : Nat} {x : Opn} (h : l[k]? = some x) (hx : x.1 = k) : least k (l.drop k) = least (k + 1) (l.drop (k + 1)) := by
  rw [drop_at h]
  simp [least, hx]
theorem least_no {l : List Opn} {k : Nat} {x : Opn} (h : l[k]? = some x) (hx : ¬ x.1 = k) : least k (l.drop k) = k := by
  rw [drop_at h]
  simp [least, hx]
theorem least_end {l : List Opn} {k : Nat} (h : k = l.length) : least k (l.drop k) = k := by
  rw [h, List.drop_length]
  rfl
theorem least_all : ∀ (l : List Opn) (i : Nat), i ≤ least i l ∧ least i l ≤ i + l.length ∧ (∀ j, j < least i l - i → ∃ x, l[j]? = some x ∧ x.1 = ((i + j : Nat) : Int)) ∧ ∀ x, l[least i l - i]? = some x → ¬ x.1 = (least i l : Int)
  | [], i => ⟨by simp [least], by simp [least], fun j hj => by simp [least] at hj, fun x hx => by simp at hx⟩
  | y :: r, i => by
    by_cases hy : y.1 = i
    · have e : least i (y :: r) = least (i + 1) r := by simp [least, hy]
      obtain ⟨h1, h2, h3, h4⟩ := least_all r (i + 1)
      rw [e]
      refine ⟨by omega, by simp; omega, fun j hj => ?_, fun x hx => ?_⟩
      · cases j with
        | zero => exact ⟨y, rfl, hy⟩
        | succ j =>
          obtain ⟨x, hx, hxe⟩ := h3 j (by omega)
          exact ⟨x, by simpa using hx, by rw [hxe]; congr 1; omega⟩
      · rw [show least (i + 1) r - i = (least (i + 1) r - (i + 1)) + 1 by omega, List.getElem?_cons_succ] at hx
        exact h4 x hx
    · have e : least i (y :: r) = i := by simp [least, hy]
      rw [e]
      refine ⟨Nat.le_refl _, by omega, fun j hj => by omega, fun x hx => ?_⟩
      simp at hx
      subst hx
      exact hy
theorem least_in (l : List Opn) : least 0 l ≤ l.length := by have := (least_all l 0).2.1; omega
theorem least_low {l : List Opn} {j : Nat} (h : j < least 0 l) : ∃ x, l[j]? = some x ∧ x.1 = (j : Int) := by
  obtain ⟨x, h1, h2⟩ := (least_all l 0).2.2.1 j (by omega)
  exact ⟨x, h1, by rw [h2]; congr 1; omega⟩
theorem least_high {l : List Opn} (hr : right 0 l = true) {j : Nat} {x : Opn} (h : least 0 l ≤ j) (hx : l[j]? = some x) : (least 0 l : Int) < x.1 := by
  have h1 := (right_all l 0 hr j x hx).1
  by_cases e : j = least 0 l
  · have := (least_all l 0).2.2.2 x (by rw [Nat.sub_zero, ← e]; exact hx)
    omega
  · omega
theorem full_all {l : List Opn} (hr : right 0 l = true) (hl : l.length = 16) {j : Nat} {x : Opn} (hx : l[j]? = some x) : x.1 = (j : Int) := by
  have := right_all l 0 hr j x hx
  omega
theorem low_fd {l : List Opn} {x : Opn} {j : Nat} (hj : j < least 0 l) (hx : l[j]? = some x) : x.1 = (j : Int) := by
  obtain ⟨y, h1, h2⟩ := least_low hj
  rw [hx] at h1
  cases h1
  exact h2
theorem filter_low {l : List Opn} (hr : right 0 l = true) : l.filter (fun x => decide (x.1 < (least 0 l : Int))) = l.take (least 0 l) := by
  have e : l = l.take (least 0 l) ++ l.drop (least 0 l) := (List.take_append_drop _ l).symm
  generalize hL : least 0 l = L at *
  rw [e, List.filter_append, ← e]
  have h1 : (l.take L).filter (fun x => decide (x.1 < (L : Int))) = l.take L := List.filter_eq_self.2 fun y hy => by
    obtain ⟨j, hj⟩ := List.mem_iff_getElem?.1 hy
    have hjL : j < L := by have := (List.getElem?_eq_some_iff.1 hj).1; simp at this; omega
    rw [List.getElem?_take_of_lt hjL] at hj
    have := low_fd (by rw [hL]; exact hjL) hj
    exact decide_eq_true (by omega)
  have h2 : (l.drop L).filter (fun x => decide (x.1 < (L : Int))) = [] := List.filter_eq_nil_iff.2 fun y hy => by
    obtain ⟨j, hj⟩ := List.mem_iff_getElem?.1 hy
    rw [List.getElem?_drop] at hj
    have := least_high hr (by rw [hL]; omega) hj
    simp
    omega
  rw [h1, h2, List.append_nil]
theorem filter_high {l : List Opn} (hr : right 0 l = true) : l.filter (fun x => decide ((least 0 l : Int) < x.1)) = l.drop (least 0 l) := by
  have e : l = l.take (least 0 l) ++ l.drop (least 0 l) := (List.take_append_drop _ l).symm
  generalize hL : least 0 l = L at *
  rw [e, List.filter_append, ← e]
  have h1 : (l.take L).filter (fun x => decide ((L : Int) < x.1)) = [] := List.filter_eq_nil_iff.2 fun y hy => by
    obtain ⟨j, hj⟩ := List.mem_iff_getElem?.1 hy
    have hjL : j < L := by have := (List.getElem?_eq_some_iff.1 hj).1; simp at this; omega
    rw [List.getElem?_take_of_lt hjL] at hj
    have := low_fd (by rw [hL]; exact hjL) hj
    simp
    omega
  have h2 : (l.drop L).filter (fun x => decide ((L : Int) < x.1)) = l.drop L := List.filter_eq_self.2 fun y hy => by
    obtain ⟨j, hj⟩ := List.mem_iff_getElem?.1 hy
    rw [List.getElem?_drop] at hj
    have := least_high hr (by rw [hL]; omega) hj
    exact decide_eq_true (by omega)
  rw [h1, h2, List.nil_append]
/-- Is a number used? -/
def used (l : List Opn) (n : Int) : Bool := l.any fun x => x.1 == n
theorem used_low {l : List Opn} {j : Nat} (h : j < least 0 l) : used l j = true := by
  obtain ⟨x, h1, h2⟩ := least_low h
  exact List.any_eq_true.2 ⟨x, List.mem_of_getElem? h1, by simp [h2]⟩
theorem used_least {l : List Opn} (hr : right 0 l = true) : used l (least 0 l) = false := by
  refine List.any_eq_false.2 fun x hx => ?_
  obtain ⟨j, hj⟩ := List.mem_iff_getElem?.1 hx
  by_cases h : j < least 0 l
  · have := low_fd h hj
    simp
    omega
  · have := least_high hr (by omega) hj
    simp
    omega
theorem least_full {l : List Opn} (hr : right 0 l = true) (hl : l.length = 16) : least 0 l = 16 := by
  have h1 := least_in l
  by_cases h : least 0 l = 16
  · exact h
  · have hx : l[least 0 l]? = some (l[least 0 l]'(by omega)) := List.getElem?_eq_getElem _
    have := full_all hr hl hx
    have := least_high hr (Nat.le_refl _) hx
    omega
def openErr (l : List Opn) (c no gen : Int) : Int := if ask l c = 0 then (if Ho no gen then (if l.length = 16 then 407 else 0) else 1) else ask l c
def opened (l : List Opn) (c no gen : Int) : List Opn := if openErr l c no gen = 0 then l.take (least 0 l) ++ [((least 0 l : Int), c, no, gen)] ++ l.drop (least 0 l) else []
def openFd (l : List Opn) (c no gen : Int) : Int := if openErr l c no gen = 0 then (least 0 l : Int) else 0
theorem open_or (l : List Opn) (c no gen : Int) : (openErr l c no gen = 0 ∧ ask l c = 0 ∧ right 0 l = true ∧ Cl c ∧ Ho no gen ∧ l.length < 16) ∨ (openErr l c no gen = ask l c ∧ ask l c ≠ 0) ∨ (openErr l c no gen = 1 ∧ ask l c = 0 ∧ ¬ Ho no gen) ∨ (openErr l c no gen = 407 ∧ ask l c = 0 ∧ right 0 l = true ∧ Ho no gen ∧ l.length = 16) := by
  rcases ask_or l c with ⟨ha, hr, hc⟩ | ⟨ha, hr, hc⟩ | ⟨ha, hr⟩
  · unfold openErr
    rw [if_pos ha]
    by_cases ho : Ho no gen
    · rw [if_pos ho]
      have := right_len hr
      by_cases hl : l.length = 16
      · rw [if_pos hl]
        exact .inr (.inr (.inr ⟨rfl, ha, hr, ho, hl⟩))
      · rw [if_neg hl]
        exact .inl ⟨rfl, ha, hr, hc, ho, by omega⟩
    · rw [if_neg ho]
      exact .inr (.inr (.inl ⟨rfl, ha, ho⟩))
  · exact .inr (.inl ⟨by unfold openErr; rw [if_neg (by omega)], by omega⟩)
  · exact .inr (.inl ⟨by unfold openErr; rw [if_neg (by omega)], by omega⟩)
/-- A client's open file of a number. -/
def mine (c fd : Int) (x : Opn) : Bool := x.2.1 == c && x.1 == fd
def owned (l : List Opn) (c : Int) : List Opn := l.filter fun x => x.2.1 == c
def without (l g : List Opn) : List Opn := l.filter fun x => decide (x ∉ g)
def closeErr (l : List Opn) (c fd : Int) : Int := if ask l c = 0 then (match l.find? (mine c fd) with | some _ => 0 | none => 411) else ask l c
def closed (l : List Opn) (c fd : Int) : List Opn := if ask l c = 0 then (match l.find? (mine c fd) with | some x => without l [x] | none => []) else []
def closeOf (l : List Opn) (c fd : Int) : Int × Int := if ask l c = 0 then (match l.find? (mine c fd) with | some x => x.2.2 | none => (0, 0)) else (0, 0)
def left (l : List Opn) (c : Int) : List Opn := if ask l c = 0 then without l (owned l c) else []
def leftOf (l : List Opn) (c : Int) : List (Int × Int) := if ask l c = 0 then (owned l c).map (fun x => x.2.2) else []
def held (l : List Opn) (no gen : Int) : Nat := l.countP fun x => x.2.2.1 == no && x.2.2.2 == gen
theorem without_owned (l : List Opn) (c : Int) : without l (owned l c) = l.filter fun x => !(x.2.1 == c) := by
  unfold without owned
  refine List.filter_congr fun x hx => ?_
  by_cases h : x.2.1 = c
  · simp [h, hx]
  · simp [h]
theorem without_one {l : List Opn} (hr : right 0 l = true) {c fd : Int} {x : Opn} (h : l.find? (mine c fd) = some x) : without l [x] = l.filter fun y => !(mine c fd y) := by
  have hm := List.find?_some h
  have hx := List.mem_of_find?_eq_some h
  unfold without
  refine List.filter_congr fun y hy => ?_
  simp only [List.mem_singleton]
  by_cases e : y = x
  · subst e
    simp [hm]
  · have : mine c fd y = false := by
      cases hy' : mine c fd y
      · rfl
      · refine absurd ?_ e
        obtain ⟨i, hi⟩ := List.mem_iff_getElem?.1 hx
        obtain ⟨j, hj⟩ := List.mem_iff_getElem?.1 hy
        simp [mine] at hm hy'
        exact right_one hr hj hi (by omega)
    simp [e, this]
theorem mine_one {l : List Opn} (hr : right 0 l = true) {c fd : Int} {x y : Opn} (hx : x ∈ l) (hy : y ∈ l) (h1 : mine c fd x = true) (h2 : mine c fd y = true) : x = y := by
  obtain ⟨i, hi⟩ := List.mem_iff_getElem?.1 hx
  obtain ⟨j, hj⟩ := List.mem_iff_getElem?.1 hy
  simp [mine] at h1 h2
  exact right_one hr hi hj (by omega)
end Op
end Go.Proofs.Ytlikcijoejgkkaa
