/-
  What is opened and closed again, and what is left: lists alone. No program.
-/
import Derived.Test.YtlikcijoejgkkaaPlain
namespace Go.Proofs.Ytlikcijoejgkkaa
namespace Op
theorem right_iff : ∀ (l : List Opn) (t : Int), right t l = true ↔ (∀ x ∈ l, good t x) ∧ l.Pairwise (fun a b => a.1 < b.1)
  | [], t => by simp [right]
  | x :: r, t => by
    rw [right, Bool.and_eq_true, decide_eq_true_iff, right_iff r, List.pairwise_cons]
    constructor
    · rintro ⟨h1, h2, h3⟩
      refine ⟨fun y hy => ?_, fun y hy => ?_, h3⟩
      · rcases List.mem_cons.1 hy with rfl | hy
        · exact h1
        · have := h2 y hy
          exact ⟨⟨by have := this.1.1; have := h1.1.1; omega, this.1.2⟩, this.2⟩
      · have := (h2 y hy).1.1
        omega
    · rintro ⟨h1, h2, h3⟩
      refine ⟨h1 x (by simp), fun y hy => ?_, h3⟩
      have := h1 y (by simp [hy])
      have := h2 y hy
      exact ⟨⟨by omega, (h1 y (by simp [hy])).1.2⟩, (h1 y (by simp [hy])).2⟩
theorem low_mem {l : List Opn} {y : Opn} (hy : y ∈ l.take (least 0 l)) : y.1 < (least 0 l : Int) := by
  obtain ⟨j, hj⟩ := List.mem_iff_getElem?.1 hy
  have hjL : j < least 0 l := by have := (List.getElem?_eq_some_iff.1 hj).1; simp at this; omega
  rw [List.getElem?_take_of_lt hjL] at hj
  have := low_fd hjL hj
  omega
theorem high_mem {l : List Opn} (hr : right 0 l = true) {y : Opn} (hy : y ∈ l.drop (least 0 l)) : (least 0 l : Int) < y.1 := by
  obtain ⟨j, hj⟩ := List.mem_iff_getElem?.1 hy
  rw [List.getElem?_drop] at hj
  exact least_high hr (by omega) hj
section
variable {l : List Opn} {c no gen : Int} (he : openErr l c no gen = 0)
include he
theorem op_facts : ask l c = 0 ∧ right 0 l = true ∧ Cl c ∧ Ho no gen ∧ l.length < 16 ∧ opened l c no gen = l.take (least 0 l) ++ [((least 0 l : Int), c, no, gen)] ++ l.drop (least 0 l) ∧ openFd l c no gen = (least 0 l : Int) := by
  rcases open_or l c no gen with ⟨_, ha, hr, hc, ho, hl⟩ | ⟨h, ha⟩ | ⟨h, _, _⟩ | ⟨h, _, _, _, _⟩
  · exact ⟨ha, hr, hc, ho, hl, if_pos he, if_pos he⟩
  · rw [he] at h
    exact absurd h.symm ha
  · rw [he] at h
    cases h
  · rw [he] at h
    cases h
theorem op_right : right 0 (opened l c no gen) = true := by
  obtain ⟨-, hr, hc, ho, hl, hp, -⟩ := op_facts he
  have hlt := least_in l
  rw [hp, right_iff]
  obtain ⟨h1, h2⟩ := (right_iff l 0).1 hr
  have hpw : (l.take (least 0 l) ++ l.drop (least 0 l)).Pairwise (fun a b : Opn => a.1 < b.1) := by rw [List.take_append_drop]; exact h2
  obtain ⟨p1, p2, p3⟩ := List.pairwise_append.1 hpw
  refine ⟨fun x hx => ?_, ?_⟩
  · simp only [List.mem_append, List.mem_singleton] at hx
    rcases hx with (hx | rfl) | hx
    · exact h1 x (List.mem_of_mem_take hx)
    · exact ⟨⟨by simp, by simp; omega⟩, hc, ho⟩
    · exact h1 x (List.mem_of_mem_drop hx)
  · rw [List.pairwise_append, List.pairwise_append]
    refine ⟨⟨p1, by simp, fun a ha b hb => ?_⟩, p2, fun a ha b hb => ?_⟩
    · simp at hb
      subst hb
      exact low_mem ha
    · rcases List.mem_append.1 ha with ha | ha
      · exact p3 a ha b hb
      · simp at ha
        subst ha
        exact high_mem hr hb
theorem op_len : (opened l c no gen).length = l.length + 1 := by
  obtain ⟨-, hr, hc, ho, hl, hp, -⟩ := op_facts he
  have hlt := least_in l
  rw [hp]
  simp
  omega
theorem op_held : held (opened l c no gen) no gen = held l no gen + 1 := by
  obtain ⟨-, hr, hc, ho, hl, hp, -⟩ := op_facts he
  rw [hp]
  unfold held
  rw [List.countP_append, List.countP_append]
  have : l.countP (fun x => x.2.2.1 == no && x.2.2.2 == gen) = (l.take (least 0 l)).countP (fun x => x.2.2.1 == no && x.2.2.2 == gen) + (l.drop (least 0 l)).countP (fun x => x.2.2.1 == no && x.2.2.2 == gen) := by
    rw [← List.countP_append, List.take_append_drop]
  rw [this]
  simp
  omega
theorem op_ask : ask (opened l c no gen) c = 0 := by
  obtain ⟨-, hr, hc, ho, hl, hp, -⟩ := op_facts he
  unfold ask
  rw [if_pos (op_right he), if_pos hc]
theorem op_find : (opened l c no gen).find? (mine c (least 0 l : Int)) = some ((least 0 l : Int), c, no, gen) := by
  obtain ⟨-, hr, hc, ho, hl, hp, -⟩ := op_facts he
  rw [hp, List.append_assoc, List.find?_append, List.find?_eq_none.2 (fun y hy => by
    have := low_mem hy
    simp [mine]
    omega)]
  simp [mine]
theorem op_closed : closed (opened l c no gen) c (openFd l c no gen) = l ∧ closeErr (opened l c no gen) c (openFd l c no gen) = 0 ∧ closeOf (opened l c no gen) c (openFd l c no gen) = (no, gen) := by
  obtain ⟨-, hr, hc, ho, hl, hp, hf⟩ := op_facts he
  have hfd := op_find he
  rw [hf]
  unfold closed closeErr closeOf
  rw [if_pos (op_ask he), if_pos (op_ask he), if_pos (op_ask he), hfd]
  refine ⟨?_, rfl, rfl⟩
  simp only [without]
  rw [hp, List.filter_append, List.filter_append]
  have e1 : (l.take (least 0 l)).filter (fun x => decide (x ∉ [((least 0 l : Int), c, no, gen)])) = l.take (least 0 l) := List.filter_eq_self.2 fun y hy => by
    have := low_mem hy
    simp
    rintro rfl
    simp at this
  have e2 : (l.drop (least 0 l)).filter (fun x => decide (x ∉ [((least 0 l : Int), c, no, gen)])) = l.drop (least 0 l) := List.filter_eq_self.2 fun y hy => by
    have := high_mem hr hy
    simp
    rintro rfl
    simp at this
  rw [e1, e2]
  simp
end
theorem left_own {l : List Opn} {c : Int} (ha : ask l c = 0) : owned (left l c) c = [] := by
  unfold left
  rw [if_pos ha, without_owned]
  unfold owned
  rw [List.filter_filter]
  exact List.filter_eq_nil_iff.2 fun x _ => by simp
theorem left_len {l : List Opn} {c : Int} (ha : ask l c = 0) : (left l c).length + (leftOf l c).length = l.length ∧ (leftOf l c).length = (owned l c).length := by
  unfold left leftOf
  rw [if_pos ha, if_pos ha, without_owned, List.length_map]
  refine ⟨?_, rfl⟩
  unfold owned
  rw [← List.countP_eq_length_filter, ← List.countP_eq_length_filter]
  have := List.length_eq_countP_add_countP (fun x : Opn => x.2.1 == c) (l := l)
  rw [this]
  rw [Nat.add_comm]
  congr 1
  refine List.countP_congr fun x _ => ?_
  simp
end Op
end Go.Proofs.Ytlikcijoejgkkaa
