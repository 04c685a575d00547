/-
  A log's items as a list (view, client, request, body): which are right, whether views fall, what is behind an operation. No program.
-/
import Derived.WalkKit
namespace Go.Proofs.Ytbjcleeiobaegaa
namespace Ol

abbrev It := Int × Int × Int × ByteArray
abbrev d0 : It := (0, 0, 0, ⟨#[]⟩)
def cells (l : List It) : List Value := l.flatMap fun x => [.int .i64 x.1, .int .i64 x.2.1, .int .i64 x.2.2.1, .string x.2.2.2]
theorem cells_length (l : List It) : (cells l).length = l.length * 4 := by
  induction l with
  | nil => rfl
  | cons x l ih => simp only [cells, List.flatMap_cons, List.length_append, List.length_cons, List.length_nil] at ih ⊢; omega
theorem cells_append (l m : List It) : cells (l ++ m) = cells l ++ cells m := by simp [cells]
theorem cells_one (x : It) : cells [x] = [.int .i64 x.1, .int .i64 x.2.1, .int .i64 x.2.2.1, .string x.2.2.2] := by simp [cells]
theorem cells_cons (x : It) (l : List It) : cells (x :: l) = .int .i64 x.1 :: .int .i64 x.2.1 :: .int .i64 x.2.2.1 :: .string x.2.2.2 :: cells l := by simp [cells]
theorem cells_at (l : List It) : ∀ i, i < l.length → (cells l)[i * 4]? = some (.int .i64 (l.getD i d0).1) ∧ (cells l)[i * 4 + 1]? = some (.int .i64 (l.getD i d0).2.1) ∧ (cells l)[i * 4 + 2]? = some (.int .i64 (l.getD i d0).2.2.1) ∧ (cells l)[i * 4 + 3]? = some (.string (l.getD i d0).2.2.2) := by
  induction l with
  | nil => intro i hi; simp at hi
  | cons x l ih =>
    intro i hi
    match i, hi with
    | 0, _ => simp [cells]
    | i + 1, hi =>
      have := ih i (by simpa using hi)
      rw [cells_cons, show (i + 1) * 4 = i * 4 + 1 + 1 + 1 + 1 from by omega]
      simpa using this
theorem cells_one' (l : List It) : ∀ u ∈ cells l, u.oneCell' = true := by
  intro u hu
  unfold cells at hu
  rw [List.mem_flatMap] at hu
  obtain ⟨x, _, hx⟩ := hu
  simp at hx
  rcases hx with rfl | rfl | rfl | rfl <;> rfl
theorem cells_take (l : List It) (i : Nat) : (cells l).take (i * 4) = cells (l.take i) := by
  induction l generalizing i with
  | nil => simp [cells]
  | cons x l ih =>
    cases i with
    | zero => simp [cells]
    | succ i =>
      rw [cells_cons, show (i + 1) * 4 = i * 4 + 1 + 1 + 1 + 1 from by omega]
      simp only [List.take_succ_cons, cells_cons]
      rw [ih]
theorem cells_drop (l : List It) (i : Nat) : (cells l).drop (i * 4) = cells (l.drop i) := by
  induction l generalizing i with
  | nil => simp [cells]
  | cons x l ih =>
    cases i with
    | zero => simp
    | succ i =>
      rw [cells_cons, show (i + 1) * 4 = i * 4 + 1 + 1 + 1 + 1 from by omega]
      simp only [List.drop_succ_cons]
      exact ih i

/-- An item that a log may have. -/
def right (x : It) : Prop := (0 ≤ x.1 ∧ x.1 ≤ 1099511627776) ∧ (0 ≤ x.2.1 ∧ x.2.1 ≤ 1099511627776) ∧ (1 ≤ x.2.2.1 ∧ x.2.2.1 ≤ 1099511627776) ∧ x.2.2.2.size ≤ 4096
instance (x : It) : Decidable (right x) := by unfold right; infer_instance
/-- Do views fall, from v on? -/
def fall : Int → List It → Bool
  | _, [] => false
  | v, y :: l => decide (y.1 < v) || fall y.1 l
/-- The last one's view; v, if there is none. -/
def view : Int → List It → Int
  | v, [] => v
  | _, y :: l => view y.1 l
theorem fall_append (v : Int) (l m : List It) : fall v (l ++ m) = (fall v l || fall (view v l) m) := by
  induction l generalizing v with
  | nil => simp [fall, view]
  | cons y l ih => simp [fall, view, ih, Bool.or_assoc]
theorem view_append (v : Int) (l m : List It) : view v (l ++ m) = view (view v l) m := by
  induction l generalizing v with
  | nil => rfl
  | cons y l ih => simp [view, ih]
theorem take_succ {l : List It} {k : Nat} (h : k < l.length) : l.take (k + 1) = l.take k ++ [l.getD k d0] := by
  rw [List.take_succ_eq_append_getElem h, List.getD_eq_getElem?_getD, List.getElem?_eq_getElem h]
  rfl
theorem view_take {l : List It} {k : Nat} (v : Int) (h : k < l.length) : view v (l.take (k + 1)) = (l.getD k d0).1 := by
  rw [take_succ h, view_append]
  rfl
theorem fall_take {l : List It} {k : Nat} {v : Int} (h : k < l.length) : fall v (l.take (k + 1)) = (fall v (l.take k) || decide ((l.getD k d0).1 < view v (l.take k))) := by
  rw [take_succ h, fall_append]
  simp [fall]
theorem fall_prefix {l : List It} {v : Int} (h : fall v l = false) (k : Nat) : fall v (l.take k) = false := by
  have := fall_append v (l.take k) (l.drop k)
  rw [List.take_append_drop, h] at this
  cases hx : fall v (l.take k) with
  | false => rfl
  | true => rw [hx] at this; simp at this
theorem fall_le {l : List It} : ∀ {v u : Int}, u ≤ v → fall v l = false → fall u l = false := by
  intro v u h hf
  cases l with
  | nil => rfl
  | cons y l =>
    simp only [fall, Bool.or_eq_false_iff, decide_eq_false_iff_not] at hf ⊢
    exact ⟨by omega, hf.2⟩
theorem fall_drop {l : List It} (hr : ∀ x ∈ l, 0 ≤ x.1) (h : fall 0 l = false) (k : Nat) : fall 0 (l.drop k) = false := by
  have e := fall_append 0 (l.take k) (l.drop k)
  rw [List.take_append_drop, h] at e
  have h2 : fall (view 0 (l.take k)) (l.drop k) = false := by
    cases hx : fall (view 0 (l.take k)) (l.drop k) with
    | false => rfl
    | true => rw [hx] at e; simp at e
  have hv : ∀ (m : List It) (v : Int), 0 ≤ v → (∀ x ∈ m, 0 ≤ x.1) → 0 ≤ view v m := by
    intro m
    induction m with
    | nil => intro v hv _; exact hv
    | cons y m ih => intro v _ hm; exact ih y.1 (hm y (by simp)) (fun x hx => hm x (by simp [hx]))
  exact fall_le (hv _ 0 (Int.le_refl _) (fun x hx => hr x (List.mem_of_mem_take hx))) h2

structure Good (base : Int) (ls : List It) : Prop where
  zero : 0 ≤ base
  len : ls.length ≤ 256
  top : base + ls.length ≤ 1099511627776
  rights : ∀ x ∈ ls, right x
  rise : fall 0 ls = false
theorem good_nil {base : Int} (h0 : 0 ≤ base) (h1 : base ≤ 1099511627776) : Good base [] := ⟨h0, by simp, by simpa using h1, (fun _ h => by cases h), rfl⟩
theorem Good.cut {base : Int} {ls : List It} (h : Good base ls) (k : Nat) : Good base (ls.take k) := by
  have hl : (ls.take k).length ≤ ls.length := by simp; omega
  exact ⟨h.zero, Nat.le_trans hl h.len, by have := h.top; omega, fun x hx => h.rights x (List.mem_of_mem_take hx), fall_prefix h.rise k⟩
theorem Good.trim {base : Int} {ls : List It} (h : Good base ls) {k : Nat} (hk : k ≤ ls.length) : Good (base + k) (ls.drop k) := by
  have hl : (ls.drop k).length = ls.length - k := by simp
  have := h.len
  have := h.top
  have := h.zero
  exact ⟨by omega, by omega, by omega, fun x hx => h.rights x (List.mem_of_mem_drop hx), fall_drop (fun x hx => (h.rights x hx).1.1) h.rise k⟩
theorem Good.put {base : Int} {ls xs : List It} (h : Good base ls) (h1 : ∀ x ∈ xs, right x) (h2 : fall (view 0 ls) xs = false) (h3 : ls.length + xs.length ≤ 256) (h4 : base + ls.length + xs.length ≤ 1099511627776) : Good base (ls ++ xs) := by
  refine ⟨h.zero, by simpa using h3, by simp; omega, fun x hx => ?_, by rw [fall_append, h.rise, h2]; rfl⟩
  rcases List.mem_append.1 hx with hx | hx
  · exact h.rights x hx
  · exact h1 x hx

/-- What keeps xs from being behind ps in a log whose base is 'base'. -/
def refuse (base : Int) (ps xs : List It) : Int := if (xs.any fun x => !decide (right x)) then 4 else if fall (view 0 ps) xs then 7 else if 256 < ps.length + xs.length ∨ 1099511627776 < base + ps.length + xs.length then 5 else 0
theorem refuse_ok {base : Int} {ps xs : List It} (h : refuse base ps xs = 0) : (∀ x ∈ xs, right x) ∧ fall (view 0 ps) xs = false ∧ ps.length + xs.length ≤ 256 ∧ base + ps.length + xs.length ≤ 1099511627776 := by
  unfold refuse at h
  split at h
  · omega
  rename_i h1
  split at h
  · omega
  rename_i h2
  split at h
  · omega
  rename_i h3
  refine ⟨fun x hx => ?_, by simpa using h2, by omega, by omega⟩
  have : ¬ (!decide (right x)) = true := fun hc => h1 (List.any_eq_true.2 ⟨x, hx, hc⟩)
  simpa using this
theorem getD_mem {l : List It} {i : Nat} (h : i < l.length) : l.getD i d0 ∈ l := by
  rw [List.getD_eq_getElem?_getD, List.getElem?_eq_getElem h]
  exact List.getElem_mem h
end Ol
end Go.Proofs.Ytbjcleeiobaegaa
