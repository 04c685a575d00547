/-
  A post's letters as a list (number, from, to, body), their numbers rising: finding, adding, taking, turning a bit. No program.
-/
import Derived.WalkKit
namespace Go.Proofs.Ytlhobncpifklkaa
namespace Po

abbrev Lt := Int × Int × Int × ByteArray
abbrev d0 : Lt := (0, 0, 0, ⟨#[]⟩)
def cells (l : List Lt) : List Value := l.flatMap fun x => [.int .i64 x.1, .int .i64 x.2.1, .int .i64 x.2.2.1, .string x.2.2.2]
theorem cells_length (l : List Lt) : (cells l).length = l.length * 4 := by
  induction l with
  | nil => rfl
  | cons x l ih => simp only [cells, List.flatMap_cons, List.length_append, List.length_cons, List.length_nil] at ih ⊢; omega
theorem cells_append (l m : List Lt) : cells (l ++ m) = cells l ++ cells m := by simp [cells]
theorem cells_one (x : Lt) : cells [x] = [.int .i64 x.1, .int .i64 x.2.1, .int .i64 x.2.2.1, .string x.2.2.2] := by simp [cells]
theorem cells_at (l : List Lt) : ∀ i, i < l.length → (cells l)[i * 4]? = some (.int .i64 (l.getD i d0).1) ∧ (cells l)[i * 4 + 1]? = some (.int .i64 (l.getD i d0).2.1) ∧ (cells l)[i * 4 + 2]? = some (.int .i64 (l.getD i d0).2.2.1) ∧ (cells l)[i * 4 + 3]? = some (.string (l.getD i d0).2.2.2) := by
  induction l with
  | nil => intro i hi; simp at hi
  | cons x l ih =>
    intro i hi
    match i, hi with
    | 0, _ => simp [cells]
    | i + 1, hi =>
      have := ih i (by simpa using hi)
      have e : cells (x :: l) = .int .i64 x.1 :: .int .i64 x.2.1 :: .int .i64 x.2.2.1 :: .string x.2.2.2 :: cells l := by simp [cells]
      rw [e, show (i + 1) * 4 = i * 4 + 1 + 1 + 1 + 1 from by omega]
      simpa using this
theorem cells_one' (l : List Lt) : ∀ u ∈ cells l, u.oneCell' = true := by
  intro u hu
  unfold cells at hu
  rw [List.mem_flatMap] at hu
  obtain ⟨x, _, hx⟩ := hu
  simp at hx
  rcases hx with rfl | rfl | rfl | rfl <;> rfl
theorem cells_take (l : List Lt) (i : Nat) : (cells l).take (i * 4) = cells (l.take i) := by
  induction l generalizing i with
  | nil => simp [cells]
  | cons x l ih =>
    cases i with
    | zero => simp [cells]
    | succ i =>
      have e : ∀ m : List Lt, cells (x :: m) = .int .i64 x.1 :: .int .i64 x.2.1 :: .int .i64 x.2.2.1 :: .string x.2.2.2 :: cells m := fun m => by simp [cells]
      rw [e, show (i + 1) * 4 = i * 4 + 1 + 1 + 1 + 1 from by omega]
      simp only [List.take_succ_cons, e]
      rw [ih]
theorem cells_drop (l : List Lt) (i : Nat) : (cells l).drop (i * 4) = cells (l.drop i) := by
  induction l generalizing i with
  | nil => simp [cells]
  | cons x l ih =>
    cases i with
    | zero => simp
    | succ i =>
      have e : cells (x :: l) = .int .i64 x.1 :: .int .i64 x.2.1 :: .int .i64 x.2.2.1 :: .string x.2.2.2 :: cells l := by simp [cells]
      rw [e, show (i + 1) * 4 = i * 4 + 1 + 1 + 1 + 1 from by omega]
      simp only [List.drop_succ_cons]
      exact ih i

def get (ls : List Lt) (n : Int) : Option Lt := ls.find? (fun x => x.1 == n)
def pos (ls : List Lt) (n : Int) : Nat := ls.countP (fun x => !decide (n ≤ x.1))
def drop (ls : List Lt) (n : Int) : List Lt := ls.filter (fun x => x.1 != n)

structure Good (last : Int) (ls : List Lt) : Prop where
  sorted : ls.Pairwise (fun x y => x.1 < y.1)
  inside : ∀ x ∈ ls, 1 ≤ x.1 ∧ x.1 ≤ last
  zero : 0 ≤ last
  len : ls.length ≤ 2048
  short : ∀ x ∈ ls, x.2.2.2.size ≤ 65535
theorem good_nil : Good 0 [] := ⟨.nil, (fun _ h => by cases h), Int.le_refl 0, by simp, (fun _ h => by cases h)⟩

theorem count_range (l : List Lt) (f : Lt → Bool) : (List.range l.length).countP (fun i => f (l.getD i d0)) = l.countP f := by
  have h : l = (List.range l.length).map (fun i => l.getD i d0) := by
    apply List.ext_getElem
    · simp
    · intro i h1 h2
      simp [List.getD, h1]
  conv => rhs; rw [h]
  rw [List.countP_map]
  rfl
theorem pos_cons (x : Lt) (l : List Lt) (n : Int) : pos (x :: l) n = if n ≤ x.1 then pos l n else pos l n + 1 := by
  unfold pos
  rw [List.countP_cons]
  by_cases h : n ≤ x.1 <;> simp [h]
theorem pos_zero {l : List Lt} {n : Int} (h : ∀ x ∈ l, n ≤ x.1) : pos l n = 0 := by
  unfold pos
  rw [List.countP_eq_zero]
  intro x hx
  simp [h x hx]
theorem pos_le (l : List Lt) (n : Int) : pos l n ≤ l.length := List.countP_le_length
theorem get_cons (x : Lt) (l : List Lt) (n : Int) : get (x :: l) n = if x.1 = n then some x else get l n := by
  unfold get
  by_cases h : x.1 = n <;> simp [h]
theorem get_mem {l : List Lt} {n : Int} {x : Lt} (h : get l n = some x) : x ∈ l ∧ x.1 = n := by
  have h1 := List.mem_of_find?_eq_some h
  have h2 := List.find?_some h
  exact ⟨h1, by simpa using h2⟩
theorem get_none {l : List Lt} {n : Int} : get l n = none ↔ ∀ x ∈ l, x.1 ≠ n := by
  unfold get
  simp [List.find?_eq_none]
theorem pos_get {l : List Lt} {n : Int} {x : Lt} (hs : l.Pairwise (fun x y => x.1 < y.1)) (h : get l n = some x) : pos l n < l.length ∧ l.getD (pos l n) d0 = x := by
  induction l with
  | nil => simp [get] at h
  | cons y l ih =>
    obtain ⟨h1, h2⟩ := List.pairwise_cons.1 hs
    rw [get_cons] at h
    rw [pos_cons]
    split at h
    · rename_i e
      cases h
      subst e
      rw [if_pos (Int.le_refl _), pos_zero (fun z hz => Int.le_of_lt (h1 z hz))]
      simp
    · rename_i e
      obtain ⟨hm, hx⟩ := get_mem h
      have := h1 x hm
      obtain ⟨i1, i2⟩ := ih h2 h
      rw [if_neg (by omega)]
      exact ⟨by simpa using i1, by simpa using i2⟩
theorem pos_none {l : List Lt} {n : Int} (h : get l n = none) (hp : pos l n < l.length) : (l.getD (pos l n) d0).1 ≠ n := by
  have : l.getD (pos l n) d0 ∈ l := by simp [List.getD, hp]
  exact get_none.1 h _ this
theorem mono_at {l : List Lt} (hs : l.Pairwise (fun x y => x.1 < y.1)) (n : Int) : ∀ a b, a ≤ b → b < l.length → decide (n ≤ (l.getD a d0).1) = true → decide (n ≤ (l.getD b d0).1) = true := by
  intro a b hab hb h
  by_cases e : a = b
  · subst e; exact h
  · have := List.pairwise_iff_getElem.1 hs a b (by omega) hb (by omega)
    have ea : l.getD a d0 = l[a] := by simp [List.getD, show a < l.length by omega]
    have eb : l.getD b d0 = l[b] := by simp [List.getD, hb]
    rw [ea] at h
    rw [eb]
    simp at h ⊢
    omega
theorem drop_eq {l : List Lt} {n : Int} {x : Lt} (hs : l.Pairwise (fun x y => x.1 < y.1)) (h : get l n = some x) : drop l n = l.take (pos l n) ++ l.drop (pos l n + 1) := by
  induction l with
  | nil => simp [get] at h
  | cons y l ih =>
    obtain ⟨h1, h2⟩ := List.pairwise_cons.1 hs
    rw [get_cons] at h
    rw [pos_cons]
    unfold drop at ih ⊢
    rw [List.filter_cons]
    split at h
    · rename_i e
      cases h
      subst e
      rw [if_neg (by simp), if_pos (Int.le_refl _), pos_zero (fun z hz => Int.le_of_lt (h1 z hz))]
      simp only [List.take_zero, List.nil_append, Nat.zero_add, List.drop_succ_cons, List.drop_zero]
      refine List.filter_eq_self.2 fun z hz => ?_
      have := h1 z hz
      simp
      omega
    · rename_i e
      obtain ⟨hm, hx⟩ := get_mem h
      have := h1 x hm
      rw [if_pos (by simpa using e), if_neg (by omega)]
      simp only [List.take_succ_cons, List.drop_succ_cons, List.cons_append]
      rw [ih h2 h]
theorem drop_length {l : List Lt} {n : Int} {x : Lt} (hs : l.Pairwise (fun x y => x.1 < y.1)) (h : get l n = some x) : (drop l n).length + 1 = l.length := by
  have := (pos_get hs h).1
  rw [drop_eq hs h]
  simp
  omega
theorem Good.drop {last : Int} {ls : List Lt} (h : Good last ls) (n : Int) : Good last (drop ls n) :=
  ⟨h.sorted.filter _, fun x hx => h.inside x (List.mem_filter.1 hx).1, h.zero, Nat.le_trans (List.length_filter_le _ _) h.len, fun x hx => h.short x (List.mem_filter.1 hx).1⟩
theorem Good.add {last : Int} {ls : List Lt} (h : Good last ls) (f t : Int) {b : ByteArray} (hb : b.size ≤ 65535) (hl : ls.length < 2048) : Good (last + 1) (ls ++ [(last + 1, f, t, b)]) := by
  have hz := h.zero
  refine ⟨List.pairwise_append.2 ⟨h.sorted, by simp, fun x hx y hy => ?_⟩, fun x hx => ?_, by omega, by simp; omega, fun x hx => ?_⟩
  · simp at hy
    subst hy
    have := (h.inside x hx).2
    simp only
    omega
  · rcases List.mem_append.1 hx with hx | hx
    · have := h.inside x hx
      omega
    · simp at hx
      subst hx
      simp only
      omega
  · rcases List.mem_append.1 hx with hx | hx
    · exact h.short x hx
    · simp at hx
      subst hx
      exact hb
/-- Another body. -/
def put (ls : List Lt) (n : Int) (b : ByteArray) : List Lt := ls.map fun x => if x.1 = n then (x.1, x.2.1, x.2.2.1, b) else x
theorem put_length (ls : List Lt) (n : Int) (b : ByteArray) : (put ls n b).length = ls.length := by simp [put]
theorem Good.put {last : Int} {ls : List Lt} (h : Good last ls) (n : Int) {b : ByteArray} (hb : b.size ≤ 65535) : Good last (put ls n b) := by
  have e : ∀ x : Lt, (if x.1 = n then (x.1, x.2.1, x.2.2.1, b) else x).1 = x.1 := fun x => by split <;> rfl
  refine ⟨List.pairwise_map.2 (h.sorted.imp fun {x y} hxy => by rw [e, e]; exact hxy), fun x hx => ?_, h.zero, by rw [put_length]; exact h.len, fun x hx => ?_⟩
  · obtain ⟨y, hy, rfl⟩ := List.mem_map.1 hx
    rw [e]
    exact h.inside y hy
  · obtain ⟨y, hy, rfl⟩ := List.mem_map.1 hx
    split
    · exact hb
    · exact h.short y hy
theorem put_eq {ls : List Lt} {n : Int} {x : Lt} (hs : ls.Pairwise (fun x y => x.1 < y.1)) (h : get ls n = some x) (b : ByteArray) : put ls n b = ls.take (pos ls n) ++ (x.1, x.2.1, x.2.2.1, b) :: ls.drop (pos ls n + 1) := by
  induction ls with
  | nil => simp [get] at h
  | cons y l ih =>
    obtain ⟨h1, h2⟩ := List.pairwise_cons.1 hs
    rw [get_cons] at h
    rw [pos_cons]
    unfold put at ih ⊢
    rw [List.map_cons]
    split at h
    · rename_i e
      cases h
      subst e
      rw [if_pos rfl, if_pos (Int.le_refl _), pos_zero (fun z hz => Int.le_of_lt (h1 z hz))]
      simp only [List.take_zero, List.nil_append, Nat.zero_add, List.drop_succ_cons, List.drop_zero]
      congr 1
      conv => rhs; rw [← List.map_id l]
      refine List.map_congr_left fun z hz => ?_
      have := h1 z hz
      rw [if_neg (by omega)]
      rfl
    · rename_i e
      obtain ⟨hm, hx⟩ := get_mem h
      have := h1 x hm
      rw [if_neg e, if_neg (by omega)]
      simp only [List.take_succ_cons, List.drop_succ_cons, List.cons_append]
      rw [ih h2 h]
end Po
end Go.Proofs.Ytlhobncpifklkaa
