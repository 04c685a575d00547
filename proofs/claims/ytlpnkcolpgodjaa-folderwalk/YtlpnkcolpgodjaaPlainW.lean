/-
  A folder gone through page by page while it changes: each entry that stays is told once. No program.
-/
import Derived.Test.YtlpnkcolpgodjaaPlainH
namespace Go.Proofs.Ytlpnkcolpgodjaa
namespace Fo
def rise (T : List Ent) : Prop := T.Pairwise fun a b => a.2.1 < b.2.1
/-- What is told so far, up to the cookie c, and what stays. -/
structure WalkP (l : List Ent) (next c : Int) (T St : List Ent) (i : Nat) : Prop where
  right : Right l next
  rise : rise T
  top : ∀ x ∈ T, x.2.1 ≤ c
  cnn : (i : Int) ≤ c
  cnx : c ≤ next
  sub : ∀ x ∈ St, x ∈ l
  told : ∀ x ∈ St, x.2.1 ≤ c → x ∈ T
  nx1 : next ≤ 100 + i
  nx2 : next ≤ 200
  tl : T.length ≤ 64 * i
  stl : St.length ≤ 100
theorem rise_lt {F : List Ent} (h : rise F) {i j : Nat} {x y : Ent} (hij : i < j) (hx : F[i]? = some x) (hy : F[j]? = some y) : x.2.1 < y.2.1 := by
  obtain ⟨hi, rfl⟩ := List.getElem?_eq_some_iff.1 hx
  obtain ⟨hj, rfl⟩ := List.getElem?_eq_some_iff.1 hy
  exact List.pairwise_iff_getElem.1 h i j hi hj hij
theorem pg_ok {l : List Ent} {next c n : Int} (h : Right l next) (hc : 0 ≤ c) (hn : 1 ≤ n ∧ n ≤ 64) : pageErr l next c n = 0 ∧ page l next c n = (l.filter (past c)).take n.toNat := by
  have he : pageErr l next c n = 0 := by
    unfold pageErr
    rw [if_pos (err_ok h), if_pos ⟨hc, hn⟩]
  refine ⟨he, ?_⟩
  rw [page_pre h he]
  unfold pre
  rw [List.take_length]
theorem pg_end {l : List Ent} {c : Int} {n : Nat} (hn : 0 < n) (h : (l.filter (past c)).take n = []) : ∀ x ∈ l, x.2.1 ≤ c := fun x hx => by
  have hf : l.filter (past c) = [] := by
    rcases List.take_eq_nil_iff.1 h with h | h
    · omega
    · exact h
  have := List.filter_eq_nil_iff.1 hf x hx
  simp [past] at this
  omega
theorem walk_page {l : List Ent} {next c : Int} {T St : List Ent} {i n n3 : Nat} {y : Ent} (h : WalkP l next c T St i) (hn : n ≤ 64) (hl : ((l.filter (past c)).take n).length = n3 + 1) (hy : ((l.filter (past c)).take n)[n3]? = some y) :
    rise (T ++ (l.filter (past c)).take n) ∧ (∀ x ∈ T ++ (l.filter (past c)).take n, x.2.1 ≤ y.2.1) ∧ ((i + 1 : Nat) : Int) ≤ y.2.1 ∧ y.2.1 ≤ next ∧ (∀ x ∈ St, x.2.1 ≤ y.2.1 → x ∈ T ++ (l.filter (past c)).take n) ∧ (T ++ (l.filter (past c)).take n).length ≤ 64 * (i + 1) := by
  have hri := (right_iff.1 h.right)
  have hF : rise (l.filter (past c)) := hri.2.2.1.sublist List.filter_sublist
  have hP : rise ((l.filter (past c)).take n) := hF.sublist (List.take_sublist _ _)
  have hgt : ∀ x ∈ l.filter (past c), c < x.2.1 := fun x hx => of_decide_eq_true (List.mem_filter.1 hx).2
  have hPF : ∀ x ∈ (l.filter (past c)).take n, x ∈ l.filter (past c) := fun x hx => List.mem_of_mem_take hx
  have hyP := List.mem_of_getElem? hy
  have hyc := hgt y (hPF y hyP)
  have hmax : ∀ x ∈ (l.filter (past c)).take n, x.2.1 ≤ y.2.1 := fun x hx => by
    obtain ⟨j, hj⟩ := List.mem_iff_getElem?.1 hx
    have hjl := (List.getElem?_eq_some_iff.1 hj).1
    by_cases e : j = n3
    · subst e
      rw [hj] at hy
      cases hy
      exact Int.le_refl _
    · have := rise_lt hP (show j < n3 by omega) hj hy
      omega
  refine ⟨?_, fun x hx => ?_, ?_, ?_, fun x hx hxy => ?_, ?_⟩
  · unfold rise
    rw [List.pairwise_append]
    refine ⟨h.rise, hP, fun a ha b hb => ?_⟩
    have := h.top a ha
    have := hgt b (hPF b hb)
    omega
  · rcases List.mem_append.1 hx with hx | hx
    · have := h.top x hx
      omega
    · exact hmax x hx
  · have := h.cnn
    omega
  · exact ((hri.2.1 y (List.mem_filter.1 (hPF y hyP)).1).2.1).2
  · by_cases hxc : x.2.1 ≤ c
    · exact List.mem_append_left _ (h.told x hx hxc)
    · refine List.mem_append_right _ ?_
      have hxF : x ∈ l.filter (past c) := List.mem_filter.2 ⟨h.sub x hx, decide_eq_true (by omega)⟩
      obtain ⟨j, hj⟩ := List.mem_iff_getElem?.1 hxF
      have hn3 : n3 < n := by
        have := List.length_take (i := n) (l := l.filter (past c))
        omega
      have hyF : (l.filter (past c))[n3]? = some y := by rwa [List.getElem?_take_of_lt hn3] at hy
      by_cases hjn : j ≤ n3
      · refine List.mem_iff_getElem?.2 ⟨j, ?_⟩
        rw [List.getElem?_take_of_lt (by omega)]
        exact hj
      · have := rise_lt hF (show n3 < j by omega) hyF hj
        omega
  · rw [List.length_append, hl]
    have := h.tl
    have h5 := List.length_take (i := n) (l := l.filter (past c))
    omega
theorem found_mem {l : List Ent} {next : Int} {s : ByteArray} (h : findErr l next s = 0) : found l next s ∈ l := by
  rcases findErr_or l next s with ⟨k, x, h1, h2, h3, -⟩ | ⟨-, h1⟩
  · rw [found_hit h1 h2 h3]
    exact List.mem_of_getElem? h3
  · omega
/-- What is left of a rising list is told once. -/
theorem rise_count : ∀ {T : List Ent}, rise T → ∀ {x : Ent}, x ∈ T → T.countP (fun y => decide (y = x)) = 1
  | [], _, x, hx => by cases hx
  | a :: r, h, x, hx => by
    obtain ⟨h1, h2⟩ := List.pairwise_cons.1 h
    rw [List.countP_cons]
    by_cases e : a = x
    · subst e
      have h0 : r.countP (fun y => decide (y = a)) = 0 := List.countP_eq_zero.2 fun y hy => by
        have := h1 y hy
        simp
        rintro rfl
        omega
      rw [h0]
      simp
    · have hxr : x ∈ r := by
        rcases List.mem_cons.1 hx with h | h
        · exact absurd h.symm e
        · exact h
      rw [rise_count h2 hxr]
      simp [e]
end Fo
end Go.Proofs.Ytlpnkcolpgodjaa
