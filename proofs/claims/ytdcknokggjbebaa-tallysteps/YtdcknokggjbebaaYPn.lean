/-
  Panels in plain numbers: which there are, the middle of a sorted list, counting. No program.
-/
import Derived.WalkKit
namespace Go.Proofs.Ytdcknokggjbebaa
namespace Pn

/-- A panel of n nodes, of which f may fail. -/
def Is (n f : Int) : Prop := (n = 1 ∧ f = 0) ∨ (n = 3 ∧ f = 1) ∨ (n = 5 ∧ f = 2) ∨ (n = 7 ∧ f = 3)
def No (n : Int) : Prop := n < 1 ∨ 7 < n ∨ n = 2 ∨ n = 4 ∨ n = 6
theorem either (n : Int) : No n ∨ ∃ f, Is n f := by
  by_cases h1 : n < 1
  · exact .inl (.inl h1)
  by_cases h2 : 7 < n
  · exact .inl (.inr (.inl h2))
  have : n = 1 ∨ n = 2 ∨ n = 3 ∨ n = 4 ∨ n = 5 ∨ n = 6 ∨ n = 7 := by omega
  unfold No Is
  rcases this with h | h | h | h | h | h | h
  · exact .inr ⟨0, .inl ⟨h, rfl⟩⟩
  · exact .inl (by omega)
  · exact .inr ⟨1, .inr (.inl ⟨h, rfl⟩)⟩
  · exact .inl (by omega)
  · exact .inr ⟨2, .inr (.inr (.inl ⟨h, rfl⟩))⟩
  · exact .inl (by omega)
  · exact .inr ⟨3, .inr (.inr (.inr ⟨h, rfl⟩))⟩

theorem sorted_at (a : Int) : ∀ (s : List Int) (k : Nat), s.Pairwise (fun x y => x ≤ y) → k < s.length → (a ≤ s.getD k 0 ↔ s.length ≤ s.countP (fun b => decide (a ≤ b)) + k)
  | [], k, _, h => by simp at h
  | x :: t, 0, hp, _ => by
    obtain ⟨h1, h2⟩ := List.pairwise_cons.1 hp
    have hle := List.countP_le_length (p := fun b => decide (a ≤ b)) (l := t)
    rw [List.countP_cons]
    constructor
    · intro h
      have hx : a ≤ x := by simpa using h
      have : t.countP (fun b => decide (a ≤ b)) = t.length := by
        rw [List.countP_eq_length]
        intro y hy
        have := h1 y hy
        simp
        omega
      simp [this, hx]
    · intro h
      by_cases hx : a ≤ x
      · simpa using hx
      · simp [hx] at h
        omega
  | x :: t, k + 1, hp, hk => by
    obtain ⟨h1, h2⟩ := List.pairwise_cons.1 hp
    have hk' : k < t.length := by simpa using hk
    have ih := sorted_at a t k h2 hk'
    have hle := List.countP_le_length (p := fun b => decide (a ≤ b)) (l := t)
    have e : (x :: t).getD (k + 1) 0 = t.getD k 0 := by simp [List.getD]
    rw [e, ih, List.countP_cons]
    by_cases hx : a ≤ x
    · have : t.countP (fun b => decide (a ≤ b)) = t.length := by
        rw [List.countP_eq_length]
        intro y hy
        have := h1 y hy
        simp
        omega
      simp [this, hx]
    · simp [hx]
      omega

/-- The number in the middle. -/
def med (l : List Int) (f : Nat) : Int := (l.mergeSort fun x y => decide (x ≤ y)).getD f 0
theorem sorted_sort (l : List Int) : (l.mergeSort fun x y => decide (x ≤ y)).Pairwise (fun x y => x ≤ y) := by
  have h := List.pairwise_mergeSort (le := fun x y : Int => decide (x ≤ y)) (fun a b c h1 h2 => by simp at h1 h2 ⊢; omega) (fun a b => by simp; omega) l
  exact h.imp (fun h => by simpa using h)
theorem med_iff {l : List Int} {f : Nat} (hl : l.length = 2 * f + 1) (a : Int) : a ≤ med l f ↔ f + 1 ≤ l.countP (fun b => decide (a ≤ b)) := by
  have hp := List.mergeSort_perm l (fun x y : Int => decide (x ≤ y))
  have hlen := hp.length_eq
  have h := sorted_at a _ f (sorted_sort l) (by omega)
  rw [hp.countP_eq, hlen] at h
  unfold med
  rw [h]
  omega
theorem med_mem {l : List Int} {f : Nat} (hl : l.length = 2 * f + 1) : med l f ∈ l := by
  have hp := List.mergeSort_perm l (fun x y : Int => decide (x ≤ y))
  have hlen := hp.length_eq
  refine hp.mem_iff.1 ?_
  unfold med
  have hf : f < (l.mergeSort fun x y => decide (x ≤ y)).length := by omega
  rw [show (l.mergeSort fun x y => decide (x ≤ y)).getD f 0 = (l.mergeSort fun x y => decide (x ≤ y))[f] from by rw [List.getD_eq_getElem?_getD, List.getElem?_eq_getElem hf]; rfl]
  exact List.getElem_mem hf
/-- Few are above the middle. -/
theorem med_above {l : List Int} {f : Nat} (hl : l.length = 2 * f + 1) : l.countP (fun b => decide (med l f < b)) ≤ f := by
  have h := (med_iff hl (med l f + 1)).2
  have e : l.countP (fun b => decide (med l f < b)) = l.countP (fun b => decide (med l f + 1 ≤ b)) := by
    congr 1
  rw [e]
  by_cases hc : f + 1 ≤ l.countP (fun b => decide (med l f + 1 ≤ b))
  · have := h hc
    omega
  · omega
theorem med_have {l : List Int} {f : Nat} (hl : l.length = 2 * f + 1) : f + 1 ≤ l.countP (fun b => decide (med l f ≤ b)) := (med_iff hl _).1 (Int.le_refl _)
theorem med_eq {l : List Int} {f : Nat} (hl : l.length = 2 * f + 1) {a : Int} (h1 : f + 1 ≤ l.countP (fun b => decide (a ≤ b))) (h2 : l.countP (fun b => decide (a + 1 ≤ b)) ≤ f) : med l f = a := by
  have := (med_iff hl a).2 h1
  have h3 : ¬ (a + 1 ≤ med l f) := fun h => by
    have := (med_iff hl _).1 h
    omega
  omega
theorem med_five : med [4, 9, 2, 7, 1] 2 = 4 := med_eq rfl (by decide) (by decide)

/-- The greatest of l that enough of m have, behind b. -/
def best (m : List Int) (f : Nat) (b : Int) (l : List Int) : Int := l.foldl (fun b a => if f + 1 ≤ m.countP (fun c => decide (a ≤ c)) ∧ b < a then a else b) b
theorem best_snoc (m : List Int) (f : Nat) (b : Int) (l : List Int) (a : Int) : best m f b (l ++ [a]) = if f + 1 ≤ m.countP (fun c => decide (a ≤ c)) ∧ best m f b l < a then a else best m f b l := by
  unfold best
  rw [List.foldl_append]
  rfl
theorem best_ge {m : List Int} {f : Nat} : ∀ (l : List Int) (b : Int), b ≤ best m f b l ∧ (∀ a ∈ l, f + 1 ≤ m.countP (fun c => decide (a ≤ c)) → a ≤ best m f b l) ∧ (best m f b l = b ∨ f + 1 ≤ m.countP (fun c => decide (best m f b l ≤ c)))
  | [], b => ⟨Int.le_refl _, (fun _ h => by cases h), .inl rfl⟩
  | x :: l, b => by
    by_cases h : f + 1 ≤ m.countP (fun c => decide (x ≤ c)) ∧ b < x
    · have e : best m f b (x :: l) = best m f x l := by simp only [best, List.foldl_cons, if_pos h]
      obtain ⟨h1, h2, h3⟩ := best_ge (m := m) (f := f) l x
      rw [e]
      refine ⟨by omega, fun a ha hc => ?_, ?_⟩
      · rcases List.mem_cons.1 ha with rfl | ha
        · exact h1
        · exact h2 a ha hc
      · rcases h3 with h3 | h3
        · right
          rw [h3]
          exact h.1
        · exact .inr h3
    · have e : best m f b (x :: l) = best m f b l := by simp only [best, List.foldl_cons, if_neg h]
      obtain ⟨h1, h2, h3⟩ := best_ge (m := m) (f := f) l b
      rw [e]
      refine ⟨h1, fun a ha hc => ?_, h3⟩
      rcases List.mem_cons.1 ha with rfl | ha
      · have : ¬ b < a := fun hb => h ⟨hc, hb⟩
        omega
      · exact h2 a ha hc
theorem best_med {l : List Int} {f : Nat} (hl : l.length = 2 * f + 1) (h0 : ∀ x ∈ l, 0 ≤ x) : best l f 0 l = med l f := by
  obtain ⟨h1, h2, h3⟩ := best_ge (m := l) (f := f) l 0
  have hm := med_mem hl
  have ha := h2 _ hm (med_have hl)
  rcases h3 with h3 | h3
  · have := h0 _ hm
    omega
  · have := (med_iff hl _).2 h3
    omega

theorem count_add (p q : Nat → Bool) : ∀ l : List Nat, l.countP p + l.countP q ≤ l.length + l.countP (fun i => p i && q i)
  | [] => by simp
  | x :: l => by
    have := count_add p q l
    simp only [List.countP_cons, List.length_cons]
    cases p x <;> cases q x <;> simp <;> omega
/-- Two that are many have one in common. -/
theorem meets {p q : Nat → Bool} {n f : Nat} (hn : n = 2 * f + 1) (hp : f + 1 ≤ (List.range n).countP p) (hq : f + 1 ≤ (List.range n).countP q) : ∃ i, i < n ∧ p i = true ∧ q i = true := by
  have h := count_add p q (List.range n)
  have : 0 < (List.range n).countP (fun i => p i && q i) := by simp at h; omega
  obtain ⟨i, hi, hpq⟩ := List.countP_pos_iff.1 this
  simp at hi hpq
  exact ⟨i, hi, hpq.1, hpq.2⟩
/-- One that has many has one of the first f + 1. -/
theorem has_low {p : Nat → Bool} {n f : Nat} (hn : n = 2 * f + 1) (hp : f + 1 ≤ (List.range n).countP p) : ∃ i, i ≤ f ∧ i < n ∧ p i = true := by
  have hq : f + 1 ≤ (List.range n).countP (fun i => decide (i ≤ f)) := by
    subst hn
    rw [show 2 * f + 1 = (f + 1) + f from by omega, List.range_add, List.countP_append]
    have : (List.range (f + 1)).countP (fun i => decide (i ≤ f)) = f + 1 := by
      have h := (List.countP_eq_length (p := fun i => decide (i ≤ f)) (l := List.range (f + 1))).2 (fun a ha => by simp at ha ⊢; omega)
      rw [h, List.length_range]
    omega
  obtain ⟨i, hi, h1, h2⟩ := meets hn hp hq
  simp at h2
  exact ⟨i, h2, hi, h1⟩

/-- Is node i in the set s? -/
def bit (s i : Nat) : Bool := decide (s / 2 ^ i % 2 = 1)
def nodes (s n : Nat) : List Int := ((List.range n).filter (bit s)).map fun i : Nat => (i : Int)
theorem nodes_zero (s : Nat) : nodes s 0 = [] := rfl
theorem nodes_yes {s n : Nat} (h : bit s n = true) : nodes s (n + 1) = nodes s n ++ [(n : Int)] := by simp [nodes, List.range_succ, List.filter_append, h]
theorem nodes_no {s n : Nat} (h : bit s n = false) : nodes s (n + 1) = nodes s n := by simp [nodes, List.range_succ, List.filter_append, h]
theorem nodes_length (s n : Nat) : (nodes s n).length = (List.range n).countP (bit s) := by simp [nodes, List.countP_eq_length_filter]
theorem nodes_le (s n : Nat) : (nodes s n).length ≤ n := by
  rw [nodes_length]
  have := List.countP_le_length (p := bit s) (l := List.range n)
  simpa using this
theorem mem_nodes {s n : Nat} {x : Int} : x ∈ nodes s n ↔ ∃ i : Nat, i < n ∧ bit s i = true ∧ x = i := by
  simp only [nodes, List.mem_map, List.mem_filter, List.mem_range]
  constructor
  · rintro ⟨i, ⟨h1, h2⟩, rfl⟩
    exact ⟨i, h1, h2, rfl⟩
  · rintro ⟨i, h1, h2, rfl⟩
    exact ⟨i, ⟨h1, h2⟩, rfl⟩
theorem getD_mem {l : List Int} {i : Nat} (h : i < l.length) : l.getD i 0 ∈ l := by
  rw [List.getD_eq_getElem?_getD, List.getElem?_eq_getElem h]
  exact List.getElem_mem h
theorem mem_getD {l : List Int} {x : Int} (h : x ∈ l) : ∃ i, i < l.length ∧ l.getD i 0 = x := by
  obtain ⟨i, hi, rfl⟩ := List.getElem_of_mem h
  exact ⟨i, hi, by rw [List.getD_eq_getElem?_getD, List.getElem?_eq_getElem hi]; rfl⟩

/-- The i-th number, or a greater one. -/
def nx (l m : List Int) (i : Nat) : Int := if i < m.length ∧ l.getD i 0 < m.getD i 0 ∧ m.getD i 0 ≤ 1099511627776 then m.getD i 0 else l.getD i 0
def nexts (l m : List Int) (k : Nat) : List Int := (List.range k).map (nx l m)
theorem nexts_succ (l m : List Int) (k : Nat) : nexts l m (k + 1) = nexts l m k ++ [nx l m k] := by simp [nexts, List.range_succ]
theorem nexts_length (l m : List Int) (k : Nat) : (nexts l m k).length = k := by simp [nexts]
theorem nx_ge (l m : List Int) (i : Nat) : l.getD i 0 ≤ nx l m i := by unfold nx; split <;> omega
theorem nx_fits {l m : List Int} {i : Nat} (h : 0 ≤ l.getD i 0 ∧ l.getD i 0 ≤ 1099511627776) : 0 ≤ nx l m i ∧ nx l m i ≤ 1099511627776 := by unfold nx; split <;> omega
theorem range_map (l : List Int) : (List.range l.length).map (fun i => l.getD i 0) = l := by
  apply List.ext_getElem
  · simp
  · intro i h1 h2
    simp [List.getD, h2]
theorem count_nexts (l m : List Int) (a : Int) : l.countP (fun b => decide (a ≤ b)) ≤ (nexts l m l.length).countP (fun b => decide (a ≤ b)) := by
  have : l.countP (fun b => decide (a ≤ b)) = ((List.range l.length).map (fun i => l.getD i 0)).countP (fun b => decide (a ≤ b)) := by rw [range_map]
  rw [this]
  unfold nexts
  rw [List.countP_map, List.countP_map]
  refine List.countP_mono_left fun i _ h => ?_
  have := nx_ge l m i
  simp only [Function.comp, decide_eq_true_eq] at h ⊢
  omega
/-- What enough have never falls. -/
theorem med_grows {l : List Int} {f : Nat} (hl : l.length = 2 * f + 1) (m : List Int) : med l f ≤ med (nexts l m l.length) f :=
  (med_iff (by rw [nexts_length]; exact hl) _).2 (Nat.le_trans (med_have hl) (count_nexts l m _))
theorem count_take (p : Int → Bool) (l : List Int) (k : Nat) (h : k < l.length) : (l.take (k + 1)).countP p = (l.take k).countP p + if p (l.getD k 0) then 1 else 0 := by
  rw [List.take_succ_eq_append_getElem h, List.countP_append, List.countP_singleton]
  rw [List.getD_eq_getElem?_getD, List.getElem?_eq_getElem h]
  rfl
end Pn
end Go.Proofs.Ytdcknokggjbebaa
