/-
  What follows of seats: what was put is told, of one client nothing says anything of another one. No program.
-/
import Derived.Test.YtaojdndhhgmdmaaPlain
namespace Go.Proofs.Ytaojdndhhgmdmaa
open Go.RowKit
namespace Se
theorem seat_iff {l : List Sea} (hs : Sorted l) {c : Int} {y : Sea} : seat l c = some y ↔ y ∈ l ∧ y.1 = c := by
  constructor
  · exact seat_some
  · rintro ⟨h, rfl⟩
    exact seat_of hs h
theorem ok_of_rErr {l : List Sea} {c r : Int} (h : rErr l c r = 0) : ok l = true ∧ Cl c ∧ Rq r := by
  rcases rErr_or l c r with ⟨_, _, h1, h2, h3⟩ | ⟨h1, _⟩ | ⟨h1, h2⟩
  · exact ⟨h1, h2, h3⟩
  · omega
  · omega
theorem rErr_ok {l : List Sea} {c r : Int} (h : ok l = true) (hc : Cl c) (hr : Rq r) : rErr l c r = 0 := by
  unfold rErr cErr
  rw [h]
  simp [hc, hr]
/-- The list that Put makes. -/
def putL (l : List Sea) (x : Sea) : List Sea := l.filter (fun y => decide (y.1 < x.1)) ++ [x] ++ l.filter (fun y => decide (x.1 < y.1))
theorem put_eq {l : List Sea} {x : Sea} (h : putErr l x.1 x.2.1 x.2.2 = 0) : put l x.1 x.2.1 x.2.2 = putL l x := if_pos h
theorem put_none {l : List Sea} {c r : Int} {s : ByteArray} (h : putErr l c r s ≠ 0) : put l c r s = [] := if_neg h
theorem mem_putL {l : List Sea} {x y : Sea} : y ∈ putL l x ↔ y = x ∨ (y ∈ l ∧ y.1 ≠ x.1) := by
  unfold putL
  simp only [List.mem_append, List.mem_filter, List.mem_singleton, decide_eq_true_iff]
  constructor
  · rintro ((⟨h1, h2⟩ | h) | ⟨h1, h2⟩)
    · exact .inr ⟨h1, by omega⟩
    · exact .inl h
    · exact .inr ⟨h1, by omega⟩
  · rintro (h | ⟨h1, h2⟩)
    · exact .inl (.inr h)
    · rcases Int.lt_or_gt_of_ne h2 with h | h
      · exact .inl (.inl ⟨h1, h⟩)
      · exact .inr ⟨h1, h⟩
theorem putL_sorted {l : List Sea} {x : Sea} (hs : Sorted l) : Sorted (putL l x) := by
  unfold putL Sorted
  rw [List.append_assoc, List.pairwise_append]
  refine ⟨hs.filter _, ?_, ?_⟩
  · rw [List.singleton_append, List.pairwise_cons]
    exact ⟨fun y hy => by simpa using (List.mem_filter.1 hy).2, hs.filter _⟩
  · intro a ha b hb
    have h1 : a.1 < x.1 := by simpa using (List.mem_filter.1 ha).2
    rcases List.mem_append.1 hb with hb | hb
    · rw [List.mem_singleton.1 hb]
      exact h1
    · have h2 : x.1 < b.1 := by simpa using (List.mem_filter.1 hb).2
      omega
theorem put_perm {l p : List Sea} {x : Sea} (h : p.Perm l) : (p.filter (fun y => !(y.1 == x.1)) ++ [x]).Perm (putL l x) := by
  have h1 : (p.filter (fun y => !(y.1 == x.1))).Perm (l.filter (fun y => !(y.1 == x.1))) := h.filter _
  have h2 : (l.filter (fun y => decide (y.1 < x.1)) ++ l.filter (fun y => decide (x.1 < y.1))).Perm (l.filter (fun y => !(y.1 == x.1))) := by
    have e1 : l.filter (fun y => decide (y.1 < x.1)) = (l.filter (fun y => !(y.1 == x.1))).filter (fun y => decide (y.1 < x.1)) := by
      rw [List.filter_filter]
      refine List.filter_congr fun y _ => ?_
      rw [Bool.eq_iff_iff]
      simp
      omega
    have e2 : l.filter (fun y => decide (x.1 < y.1)) = (l.filter (fun y => !(y.1 == x.1))).filter (fun y => !decide (y.1 < x.1)) := by
      rw [List.filter_filter]
      refine List.filter_congr fun y _ => ?_
      rw [Bool.eq_iff_iff]
      simp
      omega
    rw [e1, e2]
    exact List.filter_append_perm _ _
  unfold putL
  refine (h1.append_right [x]).trans ?_
  refine (h2.symm.append_right [x]).trans ?_
  rw [List.append_assoc, List.append_assoc]
  exact List.Perm.append_left _ List.perm_append_comm
theorem putL_len {l : List Sea} {x : Sea} (h : putErr l x.1 x.2.1 x.2.2 = 0) : (putL l x).length ≤ 6 ∧ ((putL l x).length = l.length + 1 ∨ (putL l x).length = l.length) := by
  obtain ⟨hr, _, hw⟩ := put_ok h
  obtain ⟨ho, _, _⟩ := ok_of_rErr hr
  have hs := ok_sorted ho
  have h6 := ok_len ho
  have hp := put_perm (x := x) (List.Perm.refl l)
  have hl := hp.length_eq
  rw [List.length_append, List.length_singleton] at hl
  cases hse : seat l x.1 with
  | none =>
    have h1 := (what_none hr hse).1
    rw [hw] at h1
    have hne : ¬ l.length = 6 := fun e => by rw [if_pos e] at h1; omega
    have hf : l.filter (fun y => !(y.1 == x.1)) = l := List.filter_eq_self.2 fun y hy => by
      have := seat_none hse y hy
      simpa using this
    rw [hf] at hl
    omega
  | some z =>
    obtain ⟨hz, hzc⟩ := seat_some hse
    have hf := dropped_hit hs hse
    have hk := (List.getElem?_eq_some_iff.1 (seat_at hs hse)).1
    rw [hf, List.length_append, List.length_take, List.length_drop] at hl
    omega
theorem putL_ok {l : List Sea} {x : Sea} (h : putErr l x.1 x.2.1 x.2.2 = 0) : ok (putL l x) = true := by
  obtain ⟨hr, hsz, hw⟩ := put_ok h
  obtain ⟨ho, hc, hq⟩ := ok_of_rErr hr
  refine (ok_iff _).2 ⟨(putL_len h).1, fun y hy => ?_, putL_sorted (ok_sorted ho)⟩
  rcases mem_putL.1 hy with rfl | ⟨hy, _⟩
  · exact ⟨⟨hc.1, hc.2⟩, hq, hsz⟩
  · exact ((ok_iff l).1 ho).2.1 y hy
theorem seat_other {l : List Sea} {x : Sea} (hs : Sorted l) {c : Int} (hc : c ≠ x.1) : seat (putL l x) c = seat l c := by
  refine Option.ext fun y => ?_
  rw [seat_iff (putL_sorted hs), seat_iff hs, mem_putL]
  constructor
  · rintro ⟨h | h, h2⟩
    · exact absurd (h2.symm.trans (by rw [h])) hc
    · exact ⟨h.1, h2⟩
  · rintro ⟨h, h2⟩
    exact ⟨.inr ⟨h, by rw [h2]; exact hc⟩, h2⟩
/-- Of another client the same is told, or it would have had the last seat. -/
theorem apart {l : List Sea} {x : Sea} (h : putErr l x.1 x.2.1 x.2.2 = 0) {c r : Int} (hc : c ≠ x.1) (hcl : Cl c) (hrq : Rq r) :
    rErr l c r = 0 ∧ rErr (putL l x) c r = 0 ∧ told (putL l x) c r = told l c r ∧ (what (putL l x) c r = what l c r ∨ (what l c r = 1 ∧ what (putL l x) c r = 4 ∧ (putL l x).length = 6)) := by
  obtain ⟨hr, hsz, hw⟩ := put_ok h
  obtain ⟨ho, _, _⟩ := ok_of_rErr hr
  have h1 := rErr_ok ho hcl hrq
  have h2 := rErr_ok (putL_ok h) hcl hrq
  have h3 := seat_other (ok_sorted ho) hc
  refine ⟨h1, h2, ?_, ?_⟩
  · unfold told
    rw [if_pos h1, if_pos h2, h3]
  · cases hse : seat l c with
    | some z =>
      left
      rw [hse] at h3
      rw [(what_some h1 hse).1, (what_some h2 h3).1]
    | none =>
      rw [hse] at h3
      rw [(what_none h1 hse).1, (what_none h2 h3).1]
      have hl := putL_len h
      have h6 := ok_len ho
      by_cases e : (putL l x).length = 6
      · by_cases e2 : l.length = 6
        · left
          rw [if_pos e, if_pos e2]
        · right
          rw [if_neg e2, if_pos e]
          exact ⟨rfl, rfl, e⟩
      · left
        rw [if_neg e, if_neg (by omega)]
/-- What was put is told. -/
theorem told_of {l : List Sea} (ho : ok l = true) {y : Sea} (hy : y ∈ l) : what l y.1 y.2.1 = 2 ∧ told l y.1 y.2.1 = y.2.2 ∧ rErr l y.1 y.2.1 = 0 := by
  have hg := ((ok_iff l).1 ho).2.1 y hy
  have hr := rErr_ok ho (c := y.1) (r := y.2.1) ⟨hg.1.1, hg.1.2⟩ hg.2.1
  have hs := seat_of (ok_sorted ho) hy
  obtain ⟨h1, h2⟩ := what_some hr hs
  refine ⟨by rw [h1, if_neg (by omega), if_neg (by omega)], by rw [h2, if_pos rfl], hr⟩
/-- A request that may be put is later than the client's last. -/
theorem rises {l : List Sea} {x y : Sea} (h : putErr l x.1 x.2.1 x.2.2 = 0) (hy : y ∈ l) (hc : y.1 = x.1) : y.2.1 < x.2.1 := by
  obtain ⟨hr, hsz, hw⟩ := put_ok h
  obtain ⟨ho, _, _⟩ := ok_of_rErr hr
  have hs := seat_of (ok_sorted ho) hy
  rw [hc] at hs
  have h1 := (what_some hr hs).1
  rw [hw] at h1
  by_cases e : y.2.1 < x.2.1
  · exact e
  · rw [if_neg e] at h1
    split at h1 <;> omega
theorem fullErr {l : List Sea} {x : Sea} (h : putErr l x.1 x.2.1 x.2.2 = 412) : l.length = 6 ∧ ∀ y ∈ l, y.1 ≠ x.1 := by
  rcases putErr_or l x.1 x.2.1 x.2.2 with ⟨h1, _⟩ | ⟨h1, _⟩ | ⟨_, hr, _, hw⟩ | ⟨h1, _⟩ | ⟨h1, h2⟩
  · omega
  · omega
  · cases hs : seat l x.1 with
    | some z =>
      have h1 := (what_some hr hs).1
      rw [hw] at h1
      split at h1
      · omega
      · split at h1 <;> omega
    | none =>
      have h1 := (what_none hr hs).1
      rw [hw] at h1
      refine ⟨?_, seat_none hs⟩
      by_cases e : l.length = 6
      · exact e
      · rw [if_neg e] at h1; omega
  · omega
  · rcases rErr_or l x.1 x.2.1 with ⟨h3, _⟩ | ⟨h3, _⟩ | ⟨h3, h4⟩
    · omega
    · omega
    · rcases cErr_or l x.1 with ⟨h5, _⟩ | ⟨h5, _⟩ | ⟨h5, _⟩ <;> omega
end Se
end Go.Proofs.Ytaojdndhhgmdmaa
