/-
  The document's answer: sextonref10.Page.
-/
import Derived.Test.YtacghcoikekfeaaGreatFPage
import Derived.Test.YtacghcoikekfeaaGreatFRefB
namespace Go.Proofs.YtacghcoikekfeaaGreat
open Go.ChangeShapes Go.WideShapes Go.ChangeAt Go.RowKit Go.Deep
set_option maxRecDepth 100000
namespace Fo
/-- What the first k entries bring into a page. -/
def pre (l : List Ent) (c : Int) (n : Nat) (k : Nat) : List Ent := ((l.take k).filter (past c)).take n
theorem pre_zero' (l : List Ent) (c : Int) (n : Nat) : pre l c n 0 = [] := by simp [pre]
theorem pre_in {l : List Ent} {c : Int} {n k : Nat} {x : Ent} (hx : l[k]? = some x) (hp : past c x = true) (hl : (pre l c n k).length < n) : pre l c n (k + 1) = pre l c n k ++ [x] := by
  unfold pre at hl ⊢
  rw [List.length_take] at hl
  rw [List.take_add_one, hx, List.filter_append]
  simp only [Option.toList_some, List.filter_cons, hp, if_true, List.filter_nil]
  generalize (l.take k).filter (past c) = A at hl ⊢
  have h1 : (A ++ [x]).take n = A ++ [x] := List.take_of_length_le (by simp; omega)
  have h2 : A.take n = A := List.take_of_length_le (by omega)
  rw [h1, h2]
theorem pre_full {l : List Ent} {c : Int} {n k : Nat} (hl : ¬ (pre l c n k).length < n) : pre l c n (k + 1) = pre l c n k := by
  unfold pre at hl ⊢
  rw [List.length_take] at hl
  rw [List.take_add_one, List.filter_append, List.take_append_of_le_length (by omega)]
theorem pre_out {l : List Ent} {c : Int} {n k : Nat} {x : Ent} (hx : l[k]? = some x) (hp : past c x = false) : pre l c n (k + 1) = pre l c n k := by
  unfold pre
  rw [List.take_add_one, hx, List.filter_append]
  simp [hp]
theorem pre_len (l : List Ent) (c : Int) (n k : Nat) : (pre l c n k).length ≤ n := by simp [pre]; omega
/-- Behind the first cookie that is greater all are. -/
theorem rising {l : List Ent} {next : Int} (h : Right l next) : ∀ (j i : Nat) x y, i < j → l[i]? = some x → l[j]? = some y → x.2.1 < y.2.1 := fun j => by
  induction j with
  | zero => intro i x y hij; omega
  | succ j ih =>
    intro i x y hij hx hy
    have hjl := (List.getElem?_eq_some_iff.1 hy).1
    have hz : l[j]? = some (l[j]'(by omega)) := List.getElem?_eq_getElem _
    have hg := h.2.1 (j + 1) hjl y hy
    rw [lastC_succ hz] at hg
    by_cases e : i = j
    · subst e
      rw [hx] at hz
      cases hz
      omega
    · have := ih i x _ (by omega) hx hz
      omega
theorem page_pre {l : List Ent} {next c n : Int} (h : Right l next) (hp : pageErr l next c n = 0) : page l next c n = pre l c n.toNat l.length := by
  unfold pre
  rw [List.take_length]
  rcases at_or (past c) l with ⟨ht, hall⟩ | ⟨k, x, ht, hx, hk, hb⟩
  · rw [page_miss ht, List.filter_eq_nil_iff.2 (fun y hy => by rw [hall y hy]; decide), List.take_nil]
  · rw [page_hit hp ht]
    congr 1
    have e : l = l.take k ++ l.drop k := (List.take_append_drop k l).symm
    rw [e, List.filter_append, ← e]
    have h1 : (l.take k).filter (past c) = [] := List.filter_eq_nil_iff.2 fun y hy => by
      obtain ⟨j, hj⟩ := List.mem_iff_getElem?.1 hy
      have hjk : j < k := by have := (List.getElem?_eq_some_iff.1 hj).1; simp at this; omega
      rw [List.getElem?_take_of_lt hjk] at hj
      rw [hb j y hjk hj]
      decide
    have h2 : (l.drop k).filter (past c) = l.drop k := List.filter_eq_self.2 fun y hy => by
      obtain ⟨j, hj⟩ := List.mem_iff_getElem?.1 hy
      rw [List.getElem?_drop] at hj
      have hx1 : c < x.2.1 := of_decide_eq_true hk
      refine decide_eq_true ?_
      by_cases e0 : j = 0
      · subst e0
        rw [Nat.add_zero, hx] at hj
        cases hj
        exact hx1
      · have := rising h (k + j) k x y (by omega) hx hj
        omega
    rw [h1, h2, List.nil_append]
end Fo
abbrev BF (v : Value) (next : Int) : Obj := .cells #[v, .int .i64 next] 127
theorem boxf_cells (w : World) (v : Value) (next : Int) : (w.alloc (BF v next)).cell? ⟨w.heap.size, 0, none⟩ = some v ∧ (w.alloc (BF v next)).cell? ⟨w.heap.size, 1, none⟩ = some (.int .i64 next) := by
  have hh := heap_alloc_new w (BF v next)
  constructor <;> simp only [World.cell?, hh] <;> rfl
end Go.Proofs.YtacghcoikekfeaaGreat
