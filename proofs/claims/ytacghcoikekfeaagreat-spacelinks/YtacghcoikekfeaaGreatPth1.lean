/-
  The paths, sorted by the one and by the other: the same. No program.
-/
import Derived.Test.YtacghcoikekfeaaGreatPth
namespace Go.Proofs.YtacghcoikekfeaaGreat
open It
set_option maxRecDepth 100000
namespace Sp
theorem less_iff : ∀ x y : List UInt8, Go.Op.bytesLess x y = true ↔ x < y
  | [], [] => by simp [Go.Op.bytesLess]
  | [], b :: y => by simp [Go.Op.bytesLess]
  | a :: x, [] => by simp [Go.Op.bytesLess]
  | a :: x, b :: y => by
    rw [List.cons_lt_cons_iff, ← less_iff x y]
    simp [Go.Op.bytesLess]
def leT (a b : ByteArray) : Prop := a.data.toList ≤ b.data.toList
theorem toL (s : ByteArray) : s.toList = s.data.toList := ByteArray.toList_eq ..
theorem ltT_yes {a b : ByteArray} (h : ltT a b = true) : leT a b := by
  unfold ltT at h
  rw [less_iff, toL, toL] at h
  exact List.le_of_lt h
theorem ltT_no {a b : ByteArray} (h : ltT a b = false) : leT b a := by
  have h' : ¬ Go.Op.bytesLess a.toList b.toList = true := by unfold ltT at h; rw [h]; simp
  rw [less_iff, toL, toL] at h'
  exact List.not_lt.1 h'
theorem leT_trans {a b c : ByteArray} (h : leT a b) (h' : leT b c) : leT a c := List.le_trans h h'
theorem insT_sorted (s : ByteArray) : ∀ l : List ByteArray, l.Pairwise leT → (insT s l).Pairwise leT
  | [], _ => by simp [insT]
  | x :: l, h => by
    obtain ⟨h1, h2⟩ := List.pairwise_cons.1 h
    unfold insT
    cases hc : ltT s x with
    | true =>
      rw [if_pos rfl]
      refine List.pairwise_cons.2 ⟨fun y hy => ?_, h⟩
      rcases List.mem_cons.1 hy with rfl | hy
      · exact ltT_yes hc
      · exact leT_trans (ltT_yes hc) (h1 y hy)
    | false =>
      rw [if_neg (by simp)]
      refine List.pairwise_cons.2 ⟨fun y hy => ?_, insT_sorted s l h2⟩
      rcases List.mem_cons.1 ((insT_perm s l).subset hy) with rfl | hy
      · exact ltT_no hc
      · exact h1 y hy
theorem fold_sorted {α : Type} {g : List ByteArray → α → List ByteArray} (h : ∀ o e, o.Pairwise leT → (g o e).Pairwise leT) : ∀ (l : List α) (o : List ByteArray), o.Pairwise leT → (l.foldl g o).Pairwise leT
  | [], _, ho => ho
  | e :: l, o, ho => fold_sorted h l _ (h o e ho)
theorem below_sorted (L : List Ino) : ∀ (f no : Nat) (path : ByteArray) (out : List ByteArray), out.Pairwise leT → (below L f no path out).Pairwise leT
  | 0, _, _, _, h => h
  | f + 1, no, path, out, h => by
    rw [below_succ]
    refine fold_sorted (fun o e ho => ?_) _ _ h
    unfold belowE
    split
    · exact below_sorted L f _ _ _ (insT_sorted _ _ ho)
    · exact insT_sorted _ _ ho
theorem sortT_perm (l : List ByteArray) : (sortT l).Perm l := by
  unfold sortT
  have h := (List.mergeSort_perm (l.map fun s => s.data.toList) (fun x y => decide (x ≤ y))).map (fun x => (⟨x.toArray⟩ : ByteArray))
  refine h.trans ?_
  rw [List.map_map]
  have e : l.map ((fun x => (⟨x.toArray⟩ : ByteArray)) ∘ fun s : ByteArray => s.data.toList) = l := by
    conv => rhs; rw [← List.map_id l]
    exact List.map_congr_left fun s _ => by simp
  rw [e]
theorem sortT_sorted (l : List ByteArray) : (sortT l).Pairwise leT := by
  unfold sortT
  have h := List.pairwise_mergeSort (le := fun x y : List UInt8 => decide (x ≤ y)) (fun a b c h1 h2 => by simp only [decide_eq_true_eq] at h1 h2 ⊢; exact List.le_trans h1 h2) (fun a b => by simp only [Bool.or_eq_true, decide_eq_true_eq]; exact List.le_total a b) (l.map fun s => s.data.toList)
  refine List.pairwise_map.2 (h.imp fun {a b} hab => ?_)
  unfold leT
  simpa using hab
/-- A way from the root begins with a stroke. -/
theorem way_stroke {p s : ByteArray} (h : p.size = 0 ∨ p.data.toList.head? = some 47) : leT ⟨#[47]⟩ (way p s) := by
  unfold leT way
  have e : (p ++ (⟨#[47]⟩ : ByteArray) ++ s).data.toList = p.data.toList ++ 47 :: s.data.toList := by simp
  rw [e]
  rcases h with h | h
  · have h0 : p.data.toList = [] := by
      have h1 : p.data.size = 0 := h
      rw [← Array.length_toList] at h1
      exact List.eq_nil_of_length_eq_zero h1
    rw [h0]
    show ([47] : List UInt8) ≤ 47 :: s.data.toList
    refine List.not_lt.1 fun hlt => ?_
    rw [List.cons_lt_cons_iff] at hlt
    rcases hlt with hlt | ⟨-, hlt⟩
    · simp at hlt
    · exact List.not_lt_nil _ hlt
  · cases hp : p.data.toList with
    | nil => rw [hp] at h; cases h
    | cons a l =>
      rw [hp] at h
      cases h
      show ([47] : List UInt8) ≤ 47 :: (l ++ 47 :: s.data.toList)
      refine List.not_lt.1 fun hlt => ?_
      rw [List.cons_lt_cons_iff] at hlt
      rcases hlt with hlt | ⟨-, hlt⟩
      · simp at hlt
      · exact List.not_lt_nil _ hlt
theorem way_head (p s : ByteArray) (h : p.size = 0 ∨ p.data.toList.head? = some 47) : (way p s).data.toList.head? = some 47 := by
  unfold way
  have e : (p ++ (⟨#[47]⟩ : ByteArray) ++ s).data.toList = p.data.toList ++ 47 :: s.data.toList := by simp
  rw [e]
  rcases h with h | h
  · have h0 : p.data.toList = [] := by
      have h1 : p.data.size = 0 := h
      rw [← Array.length_toList] at h1
      exact List.eq_nil_of_length_eq_zero h1
    rw [h0]
    rfl
  · cases hp : p.data.toList with
    | nil => rw [hp] at h; cases h
    | cons a l => rw [hp] at h; simpa using h
theorem walk_head {L : List Ino} : ∀ (f no : Nat) (path : ByteArray) (z : Nat × ByteArray), (path.size = 0 ∨ path.data.toList.head? = some 47) → z ∈ walk L f no path → z.2.size = 0 ∨ z.2.data.toList.head? = some 47
  | 0, _, _, _, _, hz => by cases hz
  | f + 1, no, path, z, h, hz => by
    rw [walk_succ] at hz
    rcases List.mem_cons.1 hz with rfl | hz
    · exact h
    · obtain ⟨e, he, hze⟩ := List.mem_flatMap.1 hz
      exact walk_head f _ _ z (.inr (way_head _ _ h)) (mem_step hze).2
theorem paths_same (L : List Ino) : pathsC L = pathsR L := by
  unfold pathsC pathsR
  split
  · have hp : (sortT (⟨#[47]⟩ :: (walk L 24 0 ⟨#[]⟩).flatMap (ways L))).Perm (⟨#[47]⟩ :: below L 24 0 ⟨#[]⟩ []) := (sortT_perm _).trans (.cons _ (by simpa using (below_perm L 24 0 ⟨#[]⟩ []).symm))
    refine List.Perm.eq_of_pairwise (le := leT) (fun a b _ _ h1 h2 => ?_) (sortT_sorted _) (List.pairwise_cons.2 ⟨fun y hy => ?_, below_sorted L _ _ _ _ .nil⟩) hp
    · have := List.le_antisymm h1 h2
      cases a
      cases b
      simpa using this
    · have hy' := (below_perm L 24 0 ⟨#[]⟩ []).subset hy
      rw [List.nil_append] at hy'
      obtain ⟨z, hz, hyz⟩ := List.mem_flatMap.1 hy'
      obtain ⟨e, he, rfl⟩ := List.mem_map.1 hyz
      exact way_stroke (walk_head 24 0 ⟨#[]⟩ z (.inl rfl) hz)
  · rfl
end Sp
end Go.Proofs.YtacghcoikekfeaaGreat
