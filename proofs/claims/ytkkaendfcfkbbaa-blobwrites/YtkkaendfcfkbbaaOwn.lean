/-
  What a loop over within's iterator holds: the box of the runs that it makes, and the iterator's three boxes. No program but its types' numbers.
-/
import Derived.Test.YtkkaendfcfkbbaaIter
import Derived.Test.YtkkaendfcfkbbaaJoin
namespace Go.Proofs.Ytkkaendfcfkbbaa
open Go.RowKit Go.Shelf

theorem joined {W w1 : World} {n₀ O : Nat} {v v' : Value} {k m : Nat} {xs ys : List Value} (hv : Boxed W O 22 v) (hrow : W.ownsRow n₀ 24 2 v k xs) (hn : n₀ ≤ W.heap.size) (hO : n₀ ≤ O)
    (hown' : w1.ownsRow n₀ 24 2 v' m ys) (hgrow : W.grownBy w1 v.ownBlock) :
    Boxed w1 O 22 v ∧ Boxed (w1.setCell ⟨O, 0, none⟩ v') O 22 v' ∧ (w1.setCell ⟨O, 0, none⟩ v').ownsRow n₀ 24 2 v' m ys ∧ KeepsOthers W (w1.setCell ⟨O, 0, none⟩ v') ∧ Below n₀ W (w1.setCell ⟨O, 0, none⟩ v') ∧
      (∀ B t u, t ≠ 24 → B ≠ O → Boxed W B t u → Boxed (w1.setCell ⟨O, 0, none⟩ v') B t u) := by
  have hv1 : Boxed w1 O 22 v := hv.kept hgrow (hv.not_row (by decide) hrow)
  refine ⟨hv1, hv1.set v', hown'.kept (grownBy_setCell' w1 O v') (.inr (hv1.not_row (by decide) hown').symm), ?_, ?_, fun B t u ht hB hb => ?_⟩
  · refine (KeepsOthers.of_grownBy hgrow fun j o ej hj => ?_).trans (KeepsOthers.setCell _ _ _)
    rcases hrow.2 with ⟨rfl, _⟩ | ⟨g, cap, cur, rfl, _, hgb, _⟩
    · simp [Value.ownBlock] at ej
    · obtain rfl : g = j := by simpa [Value.ownBlock] using ej
      rw [hgb] at hj; cases hj; rfl
  · refine ((Below.refl n₀ W).grown hgrow hn fun j ej => ?_).setCell (p := ⟨O, 0, none⟩) hO v'
    rcases hrow.2 with ⟨rfl, _⟩ | ⟨g, cap, cur, rfl, hb, _, _⟩
    · simp [Value.ownBlock] at ej
    · obtain rfl : g = j := by simpa [Value.ownBlock] using ej
      exact hb
  · exact (hb.kept hgrow (hb.not_row ht hrow)).other hB v'
/-- The iterator's three boxes. -/
def Three (W : World) (B : Nat) (lv : Value) (a b : Int) : Prop := Boxed W B 22 lv ∧ Boxed W (B + 1) 3 (.int .i64 a) ∧ Boxed W (B + 1 + 1) 3 (.int .i64 b)
theorem Three.kept {n₀ B : Nat} {lv : Value} {a b : Int} {W W' : World} (h : Three W B lv a b) (h' : Three W' B lv a b) (hb : Below n₀ W W') : Kept n₀ B W W' := by
  refine ⟨hb.size, fun k hk hl => ?_⟩
  rcases hk with hk | ⟨h1, h2⟩
  · exact hb.block k hk
  · have hk : k = B ∨ k = B + 1 ∨ k = B + 1 + 1 := by omega
    rcases hk with rfl | rfl | rfl
    · exact (show W'.heap[k]? = _ from h'.1).trans (show W.heap[k]? = _ from h.1).symm
    · exact (show W'.heap[B + 1]? = _ from h'.2.1).trans (show W.heap[B + 1]? = _ from h.2.1).symm
    · exact (show W'.heap[B + 1 + 1]? = _ from h'.2.2).trans (show W.heap[B + 1 + 1]? = _ from h.2.2).symm
theorem three_own {β : Type} (B : Nat) (lv : Value) (a b : Int) : Own (fun (_ : β) W => Three W B lv a b) := fun s X Y row hs hg hr =>
  ⟨boxed_own B 22 (fun (_ : β) => lv) s X Y row hs.1 hg hr, boxed_own (B + 1) 3 (fun (_ : β) => Value.int .i64 a) s X Y row hs.2.1 hg hr, boxed_own (B + 1 + 1) 3 (fun (_ : β) => Value.int .i64 b) s X Y row hs.2.2 hg hr⟩
theorem Three.alloc {W : World} {B : Nat} {lv : Value} {a b : Int} (h : Three W B lv a b) (o : Obj) : Three (W.alloc o) B lv a b := ⟨h.1.alloc o, h.2.1.alloc o, h.2.2.alloc o⟩
theorem three_new (w : World) (lv : Value) (a b : Int) : Three (((w.alloc (.cells #[lv] 22)).alloc (.cells #[.int .i64 a] 3)).alloc (.cells #[.int .i64 b] 3)) w.heap.size lv a b := by
  refine ⟨((Boxed.new w 22 lv).alloc _).alloc _, ?_, ?_⟩
  · have h := (Boxed.new (w.alloc (.cells #[lv] 22)) 3 (.int .i64 a)).alloc (.cells #[.int .i64 b] 3)
    rw [World.size_alloc] at h
    exact h
  · have h := Boxed.new ((w.alloc (.cells #[lv] 22)).alloc (.cells #[.int .i64 a] 3)) 3 (.int .i64 b)
    rw [World.size_alloc, World.size_alloc] at h
    exact h
/-- A block of cells lies on where no block of cells is turned. -/
theorem cells_own {β : Type} (B : Nat) (c : Array Value) (t : TypeId) : Own (fun (_ : β) W => W.heap[B]? = some (.cells c t (0, 0))) := fun s X Y row hs hg hrow =>
  (hg.block B (Array.getElem?_eq_some_iff.1 hs).1 (fun e' => by obtain ⟨o, ho, hc⟩ := hrow B e'.symm; rw [hs] at ho; cases ho; cases hc)).trans hs
/-- A block that lay ahead of B, whatever it is, lies on. -/
theorem mark_own {β : Type} {B D : Nat} (o : Obj) (hD : D < B) : OwnFrom B (fun (_ : β) W => W.heap[D]? = some o) := fun s X Y row hs hg hrow =>
  (hg.block D (Array.getElem?_eq_some_iff.1 hs).1 (fun e' => by have := (hrow D e'.symm).1; omega)).trans hs
theorem own_pos {w : World} {n₀ : Nat} {e : TypeId} {v : Value} {k : Nat} {xs : List Value} (h : w.ownsRow n₀ e 2 v k xs) (hk : 0 < k) : ∃ g cap, v = .slice (some ⟨g, 0, none⟩) k cap := by
  rcases h.2 with ⟨_, h0⟩ | ⟨g, cap, _, rfl, _⟩
  · omega
  · exact ⟨g, cap, rfl⟩
theorem Bl.join_pos (l : List Bl.R) (r : Bl.R) : 0 < (Bl.join l r).length := by
  rcases Bl.snoc_cases l with rfl | ⟨m, s, rfl⟩
  · simp [Bl.join_nil]
  · rw [Bl.join_snoc]; split <;> simp

theorem two_of {w : World} {b : Nat} {x y : Value} {t : TypeId} {fr : Nat × Nat} (hb : w.heap[b]? = some (.cells #[x, y] t fr)) : w.cell? ⟨b, 0, none⟩ = some x ∧ w.cell? ⟨b, 1, none⟩ = some y := by
  constructor <;> simp [World.cell?, hb]
/-- The iterator's contract, as a loop wants it. -/
theorem iter_stops (n : Nat) (hn : 1 ≤ n) (B n₀ : Nat) (lv : Value) (l : List Bl.R) (a b : Int) (hr : Bl.right (-1) l) (w : World) (hn0 : n₀ ≤ w.heap.size) (hB : B + 3 ≤ w.heap.size) (hF : FieldsAt n₀ w lv l) (h3 : Three w B lv a b) :
    SeqStopsK Fence.wide n Try.prog 27 #[.pointer (some ⟨B, 0, none⟩), .pointer (some ⟨B + 1, 0, none⟩), .pointer (some ⟨B + 1 + 1, 0, none⟩)] (encs (a := a) (b := b)) (Kept n₀ B) (fun ys => ys.map (·.1) = Bl.within a b l) (fun _ => True) l.length w := fun lp J Jx W hW hJ _ hY h0 => by
  have hF' : FieldsAt n₀ W lv l := hF.below (hW.mono hn0) (Nat.le_refl _)
  obtain ⟨ao, cap, rfl, hm, hx⟩ := hF'.open
  have hs := hW.size
  have c0 := (hW.cell (p := ⟨B, 0, none⟩) (by show B < _; omega)).trans h3.1.cell
  have c1 := (hW.cell (p := ⟨B + 1, 0, none⟩) (by show B + 1 < _; omega)).trans h3.2.1.cell
  have c2 := (hW.cell (p := ⟨B + 1 + 1, 0, none⟩) (by show B + 1 + 1 < _; omega)).trans h3.2.2.cell
  exact iter_in n hn lp B n₀ ao cap l a b hr J Jx W (by omega) (by omega) hm hx c0 c1 c2 hJ hY h0

/-- Runs within all places. -/
def Bl.low (l : List Bl.R) : Prop := ∀ r ∈ l, 0 ≤ r.1 ∧ Bl.rend r ≤ 1048576
theorem Bl.low_join {l : List Bl.R} {x : Bl.R} (h : Bl.low l) (hx : 0 ≤ x.1 ∧ Bl.rend x ≤ 1048576) : Bl.low (Bl.join l x) := by
  rcases Bl.snoc_cases l with rfl | ⟨m, s, rfl⟩
  · intro r hr
    simp only [Bl.join_nil, List.mem_singleton] at hr
    subst hr
    exact hx
  · rw [Bl.join_snoc]
    split
    · rename_i he
      intro r hr
      rcases List.mem_append.1 hr with hr | hr
      · exact h r (List.mem_append_left _ hr)
      · simp only [List.mem_singleton] at hr
        subst hr
        have hs := h s (by simp)
        refine ⟨hs.1, ?_⟩
        unfold Bl.rend at *
        simp only [Bl.size_append]
        omega
    · intro r hr
      rcases List.mem_append.1 hr with hr | hr
      · exact h r hr
      · simp only [List.mem_singleton] at hr
        subst hr
        exact hx
theorem Bl.low_joins {xs : List Bl.R} : ∀ {l : List Bl.R}, Bl.low l → Bl.low xs → Bl.low (Bl.joins l xs) := by
  induction xs with
  | nil => intro l h _; exact h
  | cons x xs ih => intro l h hx; exact ih (Bl.low_join h (hx x (by simp))) (fun r hr => hx r (by simp [hr]))
theorem Bl.low_total {xs : List Bl.R} (h : Bl.low xs) : Bl.total xs ≤ xs.length * 1048576 := by
  induction xs with
  | nil => simp [Bl.total]
  | cons x xs ih =>
    have h1 := ih (fun r hr => h r (by simp [hr]))
    have h2 := h x (by simp)
    unfold Bl.rend at h2
    simp only [Bl.total, List.map_cons, List.sum_cons, List.length_cons] at h1 ⊢
    omega
theorem Bl.fit {l xs : List Bl.R} (h : Bl.low l) (hl : l.length ≤ 4194304) (hx : Bl.low xs) (hn : xs.length ≤ 4194304) : Fit (Bl.joins l xs) := by
  have h1 := Bl.low_joins h hx
  have h2 := Bl.low_total h
  have h3 := Bl.low_total hx
  refine ⟨fun r hr => ⟨by have := (h1 r hr).1; omega, (h1 r hr).2⟩, ?_, ?_⟩
  · rw [Bl.total_joins]; omega
  · have := Bl.length_joins xs l; omega
theorem low_in {a b : Int} (ha : 0 ≤ a) (hb : b ≤ 1048576) (pre : List (In a b)) : Bl.low (pre.map (·.1)) := by
  intro r hr
  obtain ⟨y, _, rfl⟩ := List.mem_map.1 hr
  have := y.2
  exact ⟨by omega, by omega⟩
theorem in_size {a b : Int} (ha : 0 ≤ a) (hb : b ≤ 1048576) (x : In a b) : x.1.2.size ≤ 1048576 := by
  have := x.2
  unfold Bl.rend at this
  omega
end Go.Proofs.Ytkkaendfcfkbbaa
