/-
  Two arrays of twenty beside a clock: on lists; and an array of twenty in memory.
-/
import Derived.Test.YtlhobncpifklkaaOrderA
namespace Go.Proofs.Ytlhobncpifklkaa
open Go.RowKit Go.Maps

namespace Al
def upd {α : Type} (f : Nat → α) (i : Nat) (v : α) : Nat → α := fun j => if j = i then v else f j
/-- What the two arrays say of the alarms L. -/
structure On (L : List (Int × Int)) (f : Nat → Bool) (t : Nat → Int) : Prop where
  inside : ∀ x a, find L x = some a → 0 ≤ x ∧ x ≤ 19
  set : ∀ i : Nat, i < 20 → f i = (find L (i : Int)).isSome
  at_ : ∀ (i : Nat) a, find L (i : Int) = some a → t i = a
theorem on_start : On [] (fun _ => false) (fun _ => 0) := ⟨(fun _ _ h => by cases h), fun _ _ => rfl, (fun _ _ h => by cases h)⟩
theorem On.put {L : List (Int × Int)} {f : Nat → Bool} {t : Nat → Int} (h : On L f t) {i : Nat} (hi : i < 20) (a : Int) : On (Al.set L i a) (upd f i true) (upd t i a) := by
  refine ⟨fun x b hx => ?_, fun j hj => ?_, fun j b hj => ?_⟩
  · by_cases e : x = i
    · omega
    · rw [find_set_other L a e] at hx
      exact h.inside x b hx
  · unfold upd
    by_cases e : j = i
    · subst e
      rw [if_pos rfl, find_set_same]
      rfl
    · rw [if_neg e, find_set_other L a (by omega)]
      exact h.set j hj
  · unfold upd
    by_cases e : j = i
    · subst e
      rw [find_set_same] at hj
      rw [if_pos rfl]
      exact Option.some.inj hj
    · rw [if_neg e]
      rw [find_set_other L a (by omega)] at hj
      exact h.at_ j b hj
theorem On.off {L : List (Int × Int)} {f : Nat → Bool} {t : Nat → Int} (h : On L f t) (i : Nat) : On (Al.drop L i) (upd f i false) t := by
  have key : ∀ x b, find (Al.drop L i) x = some b → x ≠ i ∧ find L x = some b := fun x b hx => by
    by_cases e : x = i
    · subst e
      rw [find_drop_same] at hx
      cases hx
    · rw [find_drop_other L e] at hx
      exact ⟨e, hx⟩
  refine ⟨fun x b hx => h.inside x b (key x b hx).2, fun j hj => ?_, fun j b hj => h.at_ j b (key _ b hj).2⟩
  unfold upd
  by_cases e : j = i
  · subst e
    rw [if_pos rfl, find_drop_same]
    rfl
  · rw [if_neg e, find_drop_other L (by omega)]
    exact h.set j hj
theorem find_rest {L : List (Int × Int)} (hn : L.Pairwise (fun p q => p.1 ≠ q.1)) {now x a : Int} : find (rest L now) x = some a ↔ find L x = some a ∧ now < a := by
  constructor
  · intro h
    have := List.mem_filter.1 (mem_of_find h)
    exact ⟨find_of_mem hn this.1, by simpa using this.2⟩
  · rintro ⟨h, hl⟩
    exact find_of_mem (hn.filter _) (List.mem_filter.2 ⟨mem_of_find h, by simpa using hl⟩)
theorem On.due {L : List (Int × Int)} {f f' : Nat → Bool} {t : Nat → Int} (h : On L f t) (hG : Good L) {now : Int} (hf : ∀ i : Nat, i < 20 → f' i = (f i && !(Al.due L now).contains (i : Int))) : On (rest L now) f' t := by
  have key := @find_rest L hG.nodup now
  refine ⟨fun x b hx => h.inside x b (key.1 hx).1, fun j hj => ?_, fun j b hj => h.at_ j b (key.1 hj).1⟩
  rw [hf j hj, h.set j hj]
  cases hx : find L (j : Int) with
  | none =>
    cases hy : find (rest L now) (j : Int) with
    | none => rfl
    | some b =>
      have := (key.1 hy).1
      rw [hx] at this
      cases this
  | some a =>
    by_cases ha : a ≤ now
    · have hm : (j : Int) ∈ Al.due L now := (mem_due hG.nodup).2 ⟨a, hx, ha⟩
      have e1 : (Al.due L now).contains (j : Int) = true := by simpa using hm
      cases hy : find (rest L now) (j : Int) with
      | none => rw [e1]; rfl
      | some b =>
        have := key.1 hy
        rw [hx] at this
        have := Option.some.inj this.1
        omega
    · have hm : (j : Int) ∉ Al.due L now := fun hm => by
        obtain ⟨c, h1, h2⟩ := (mem_due hG.nodup).1 hm
        rw [hx] at h1
        have := Option.some.inj h1
        omega
      have e1 : (Al.due L now).contains (j : Int) = false := by simpa using hm
      rw [e1, key.2 ⟨hx, by omega⟩]
      rfl
theorem next_rest {L : List (Int × Int)} {now : Int} (h : 0 < (rest L now).length) : now < next (rest L now) := by
  cases hr : rest L now with
  | nil => rw [hr] at h; simp at h
  | cons p q =>
    have : p ∈ rest L now := by rw [hr]; simp
    simpa [next] using (List.mem_filter.1 this).2
theorem told_at {L : List (Int × Int)} {f : Nat → Bool} {t : Nat → Int} (h : On L f t) (hG : Good L) {now : Int} {j : Nat} (hj : j < (Al.due L now).length) : ∃ (p : Nat) (a : Int), (Al.due L now).getD j 0 = (p : Int) ∧ p < 20 ∧ find L (p : Int) = some a ∧ a ≤ now ∧ ((Al.due L now).take j).contains (p : Int) = false := by
  have e : (Al.due L now).getD j 0 = (Al.due L now)[j] := by simp [List.getD, hj]
  obtain ⟨a, h1, h2⟩ := (mem_due hG.nodup).1 (List.getElem_mem hj)
  have h3 := h.inside _ a h1
  refine ⟨((Al.due L now)[j]).toNat, a, by rw [e]; omega, by omega, ?_, h2, ?_⟩
  · rw [Int.toNat_of_nonneg h3.1]
    exact h1
  · rw [Int.toNat_of_nonneg h3.1]
    have nd := nodup_due hG.nodup now
    cases hc : ((Al.due L now).take j).contains (Al.due L now)[j] with
    | false => rfl
    | true =>
      have hm : (Al.due L now)[j] ∈ (Al.due L now).take j := by simpa using hc
      obtain ⟨i, hi, ei⟩ := List.mem_iff_getElem.1 hm
      rw [List.length_take] at hi
      rw [List.getElem_take] at ei
      exact absurd ei ((List.pairwise_iff_getElem.1 nd) i j (by omega) hj (by omega))
theorem told_step {D : List Int} {f f' : Nat → Bool} {j p : Nat} (hf : ∀ i : Nat, i < 20 → f' i = (f i && !(D.take j).contains (i : Int))) (hp : D.getD j 0 = (p : Int)) (hj : j < D.length) : ∀ i : Nat, i < 20 → upd f' p false i = (f i && !(D.take (j + 1)).contains (i : Int)) := by
  intro i hi
  have e : D[j] = (p : Int) := by rw [← hp]; simp [List.getD, hj]
  rw [List.take_succ_eq_append_getElem hj, e]
  unfold upd
  by_cases h : i = p
  · subst h
    simp
  · rw [if_neg h, hf i hi]
    have h' : ¬ (i : Int) = (p : Int) := by omega
    simp [List.contains_eq_mem, h']
end Al
theorem own_cells {w : World} {base g cap n j : Nat} {l : List Int} (h : w.ownsRow base 3 1 (.slice (some ⟨g, 0, none⟩) n cap) n (l.map (Value.int .i64))) (hn : l.length = n) (hj : j < n) : w.cell? ⟨g, j, none⟩ = some (.int .i64 (l.getD j 0)) := by
  have h0 : (l.map (Value.int .i64))[j]? = some (.int .i64 (l.getD j 0)) := by
    have : j < l.length := by omega
    simp [List.getD, this]
  have q0 := h.cells (g := g) rfl _ _ h0
  rw [Go.WideShapes.add_plain, Nat.zero_add] at q0
  exact q0
theorem row_slice {w : World} {base : Nat} {e : TypeId} {sz : Nat} {v : Value} {n : Nat} {xs : List Value} (h : w.ownsRow base e sz v n xs) : ∃ ao cp, v = .slice ao n cp := by
  rcases h.2 with ⟨rfl, h0⟩ | ⟨g, cap, cur, rfl, _⟩
  · exact ⟨_, _, by rw [h0]⟩
  · exact ⟨_, _, rfl⟩

/-- Block A is an array of twenty, and says g. -/
def ArrAt (w : World) (A : Nat) (T : TypeId) (g : Nat → Value) : Prop := ∃ cur : Array Value, w.heap[A]? = some (.cells cur T (0, 0)) ∧ ∀ i, i < 20 → cur[i]? = some (g i)
theorem ArrAt.lt {w : World} {A : Nat} {T : TypeId} {g : Nat → Value} (h : ArrAt w A T g) : A < w.heap.size := by
  obtain ⟨cur, hb, _⟩ := h
  exact (Array.getElem?_eq_some_iff.1 hb).1
theorem ArrAt.cell {w : World} {A : Nat} {T : TypeId} {g : Nat → Value} (h : ArrAt w A T g) {i : Nat} (hi : i < 20) : w.cell? ⟨A, i, none⟩ = some (g i) ∧ w.frozen? ⟨A, i, none⟩ = false := by
  obtain ⟨cur, hb, hg⟩ := h
  exact ⟨by simp [World.cell?, hb, hg i hi], by simp [World.frozen?, hb]⟩
theorem ArrAt.kept {w w' : World} {A : Nat} {T : TypeId} {g : Nat → Value} {row : Option Nat} (h : ArrAt w A T g) (hg : w.grownBy w' row) (hne : some A ≠ row) : ArrAt w' A T g := by
  have := h.lt
  obtain ⟨cur, hb, hc⟩ := h
  exact ⟨cur, (hg.block A this hne).trans hb, hc⟩
theorem ArrAt.put {w : World} {A : Nat} {T : TypeId} {g g' : Nat → Value} (h : ArrAt w A T g) {i : Nat} {v : Value} (hg : ∀ j, j < 20 → g' j = if j = i then v else g j) : ArrAt (w.setCell ⟨A, i, none⟩ v) A T g' := by
  obtain ⟨cur, hb, hc⟩ := h
  refine ⟨cur.setIfInBounds i v, by simp [World.setCell, Array.getElem?_modify, hb], fun j hj => ?_⟩
  rw [hg j hj]
  have hjs : j < cur.size := (Array.getElem?_eq_some_iff.1 (hc j hj)).1
  by_cases e : j = i
  · subst e
    rw [if_pos rfl]
    simp [hjs]
  · rw [if_neg e, Array.getElem?_setIfInBounds_ne (Ne.symm e)]
    exact hc j hj
theorem grown_setCell (w : World) (A o : Nat) (v : Value) : w.grownBy (w.setCell ⟨A, o, none⟩ v) (some A) := ⟨rfl, rfl, rfl, by simp [World.setCell], fun k _ hne => Below.heap_setCell _ _ _ _ (fun e => hne (by rw [e]))⟩
theorem grown_drew {w W : World} {row : Option Nat} (h : w.grownBy W row) (q : Nat) : w.grownBy (W.drewN q) row := ⟨h.os, h.tape, h.output, h.size, h.block⟩
theorem grown_any {w W : World} (h : w.grownBy W none) (row : Option Nat) : w.grownBy W row := ⟨h.os, h.tape, h.output, h.size, fun k hk _ => h.block k hk (by simp)⟩
theorem below_drew {B : Nat} {w W : World} (h : Below B w W) (q : Nat) : Below B w (W.drewN q) := ⟨h.os, h.tape, h.output, h.size, h.block⟩
end Go.Proofs.Ytlhobncpifklkaa
