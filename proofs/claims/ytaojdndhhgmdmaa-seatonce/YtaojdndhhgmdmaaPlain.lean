/-
  Seats: which are right, where a client's stands, what a request is, seats with a reply, seats without a client's. No program.
-/
import Derived.Test.YtaojdndhhgmdmaaRow
namespace Go.Proofs.Ytaojdndhhgmdmaa
open Go.RowKit
/-- A seat: the client, its last request, the reply. -/
abbrev Sea := Int × Int × ByteArray
def ES : Enc Sea := ⟨3, fun x => [.int .i64 x.1, .int .i64 x.2.1, .string x.2.2], fun _ => rfl, fun x u hu => by
  simp at hu
  rcases hu with rfl | rfl | rfl <;> rfl⟩
namespace Se
/-- A client that may be. -/
def Cl (c : Int) : Prop := 0 ≤ c ∧ c ≤ 1099511627776
instance (c : Int) : Decidable (Cl c) := by unfold Cl; infer_instance
/-- A request's number that may be. -/
def Rq (r : Int) : Prop := 1 ≤ r ∧ r ≤ 1099511627776
instance (r : Int) : Decidable (Rq r) := by unfold Rq; infer_instance
def good (t : Int) (x : Sea) : Prop := (t ≤ x.1 ∧ x.1 ≤ 1099511627776) ∧ Rq x.2.1 ∧ x.2.2.size ≤ 8192
instance (t : Int) (x : Sea) : Decidable (good t x) := by unfold good; infer_instance
def right (t : Int) : List Sea → Bool
  | [] => true
  | x :: r => decide (good t x) && right (x.1 + 1) r
def ok (l : List Sea) : Bool := decide (l.length ≤ 6) && right 0 l
theorem drop_at {α : Type} {l : List α} {k : Nat} {x : α} (h : l[k]? = some x) : l.drop k = x :: l.drop (k + 1) := by
  obtain ⟨hk, rfl⟩ := List.getElem?_eq_some_iff.1 h
  exact List.drop_eq_getElem_cons hk
theorem take_at {α : Type} {l : List α} {k : Nat} {x : α} (h : l[k]? = some x) : l.take (k + 1) = l.take k ++ [x] := by
  rw [List.take_add_one, h]
  rfl
theorem right_yes {l : List Sea} {k : Nat} {x : Sea} {t : Int} (h : l[k]? = some x) (hg : good t x) : right t (l.drop k) = right (x.1 + 1) (l.drop (k + 1)) := by
  rw [drop_at h]
  simp [right, hg]
theorem right_no {l : List Sea} {k : Nat} {x : Sea} {t : Int} (h : l[k]? = some x) (hg : ¬ good t x) : right t (l.drop k) = false := by
  rw [drop_at h]
  simp [right, hg]
theorem right_end {l : List Sea} {k : Nat} {t : Int} (h : k = l.length) : right t (l.drop k) = true := by
  rw [h, List.drop_length]
  rfl
theorem right_iff : ∀ (l : List Sea) (t : Int), right t l = true ↔ (∀ x ∈ l, good t x) ∧ l.Pairwise (fun x y => x.1 < y.1)
  | [], t => by simp [right]
  | y :: r, t => by
    rw [right, Bool.and_eq_true, decide_eq_true_iff, right_iff r, List.pairwise_cons]
    constructor
    · rintro ⟨h1, h2, h3⟩
      refine ⟨fun x hx => ?_, fun x hx => ?_, h3⟩
      · rcases List.mem_cons.1 hx with rfl | hx
        · exact h1
        · have := h2 x hx
          have h1' := h1.1.1
          have h2' := this.1.1
          exact ⟨⟨by omega, this.1.2⟩, this.2⟩
      · have := (h2 x hx).1.1
        omega
    · rintro ⟨h1, h2, h3⟩
      refine ⟨h1 y (by simp), fun x hx => ?_, h3⟩
      have := h1 x (by simp [hx])
      have h4 := h2 x hx
      exact ⟨⟨by omega, this.1.2⟩, this.2⟩
abbrev Sorted (l : List Sea) : Prop := l.Pairwise (fun x y => x.1 < y.1)
theorem ok_iff (l : List Sea) : ok l = true ↔ l.length ≤ 6 ∧ (∀ x ∈ l, good 0 x) ∧ Sorted l := by
  unfold ok
  rw [Bool.and_eq_true, decide_eq_true_iff, right_iff]
theorem ok_sorted {l : List Sea} (h : ok l = true) : Sorted l := ((ok_iff l).1 h).2.2
theorem ok_len {l : List Sea} (h : ok l = true) : l.length ≤ 6 := ((ok_iff l).1 h).1
/-- Where a client's seat stands, or would. -/
def plc : List Sea → Int → Nat
  | [], _ => 0
  | x :: r, c => if c ≤ x.1 then 0 else plc r c + 1
theorem plc_le : ∀ (l : List Sea) (c : Int), plc l c ≤ l.length
  | [], _ => Nat.le_refl _
  | x :: r, c => by
    unfold plc
    split
    · omega
    · have := plc_le r c
      simp only [List.length_cons]
      omega
theorem plc_at : ∀ (l : List Sea) (c : Int), Sorted l → ∀ (k : Nat) (x : Sea), l[k]? = some x → (c ≤ x.1 ↔ plc l c ≤ k)
  | [], _, _, k, x, h => by simp at h
  | y :: r, c, hs, 0, x, h => by
    simp at h
    subst h
    unfold plc
    by_cases hc : c ≤ y.1
    · simp [hc]
    · simp [hc]
  | y :: r, c, hs, k + 1, x, h => by
    have hp := List.pairwise_cons.1 hs
    have hx : r[k]? = some x := by simpa using h
    have ih := plc_at r c hp.2 k x hx
    have hyx := hp.1 x (List.mem_of_getElem? hx)
    unfold plc
    by_cases hc : c ≤ y.1
    · simp only [hc, if_true]
      omega
    · simp only [hc, if_false]
      omega
theorem take_plc : ∀ (l : List Sea) (c : Int), Sorted l → l.take (plc l c) = l.filter (fun x => decide (x.1 < c))
  | [], _, _ => rfl
  | y :: r, c, hs => by
    have hp := List.pairwise_cons.1 hs
    unfold plc
    by_cases hc : c ≤ y.1
    · rw [if_pos hc, List.take_zero]
      symm
      refine List.filter_eq_nil_iff.2 fun x hx => ?_
      rcases List.mem_cons.1 hx with rfl | hx
      · simp; omega
      · have := hp.1 x hx
        simp; omega
    · rw [if_neg hc, List.take_succ_cons, take_plc r c hp.2, List.filter_cons, if_pos (by simp; omega)]
theorem drop_plc : ∀ (l : List Sea) (c : Int), Sorted l → l.drop (plc l c) = l.filter (fun x => decide (c ≤ x.1))
  | [], _, _ => rfl
  | y :: r, c, hs => by
    have hp := List.pairwise_cons.1 hs
    unfold plc
    by_cases hc : c ≤ y.1
    · rw [if_pos hc, List.drop_zero]
      symm
      refine List.filter_eq_self.2 fun x hx => ?_
      rcases List.mem_cons.1 hx with rfl | hx
      · simp; omega
      · have := hp.1 x hx
        simp; omega
    · rw [if_neg hc, List.drop_succ_cons, drop_plc r c hp.2, List.filter_cons, if_neg (by simp; omega)]
/-- A client's seat. -/
def seat (l : List Sea) (c : Int) : Option Sea := l.find? fun x => x.1 == c
theorem seat_some {l : List Sea} {c : Int} {x : Sea} (h : seat l c = some x) : x ∈ l ∧ x.1 = c := by
  have h1 := List.find?_some h
  exact ⟨List.mem_of_find?_eq_some h, by simpa using h1⟩
theorem seat_none {l : List Sea} {c : Int} (h : seat l c = none) : ∀ x ∈ l, x.1 ≠ c := fun x hx => by
  have := List.find?_eq_none.1 h x hx
  simpa using this
theorem sorted_one {l : List Sea} (hs : Sorted l) {x y : Sea} (hx : x ∈ l) (hy : y ∈ l) (h : x.1 = y.1) : x = y := by
  induction l with
  | nil => cases hx
  | cons z r ih =>
    have hp := List.pairwise_cons.1 hs
    rcases List.mem_cons.1 hx with e1 | hx1
    · rcases List.mem_cons.1 hy with e2 | hy1
      · rw [e1, e2]
      · have := hp.1 y hy1
        rw [e1] at h
        omega
    · rcases List.mem_cons.1 hy with e2 | hy1
      · have := hp.1 x hx1
        rw [e2] at h
        omega
      · exact ih hp.2 hx1 hy1
theorem seat_of {l : List Sea} (hs : Sorted l) {x : Sea} (hx : x ∈ l) : seat l x.1 = some x := by
  cases h : seat l x.1 with
  | none => exact absurd rfl (seat_none h x hx)
  | some y =>
    obtain ⟨h1, h2⟩ := seat_some h
    rw [sorted_one hs h1 hx h2]
/-- A client's seat is where it would stand. -/
theorem seat_at {l : List Sea} {c : Int} (hs : Sorted l) {x : Sea} (h : seat l c = some x) : l[plc l c]? = some x := by
  obtain ⟨hx, rfl⟩ := seat_some h
  obtain ⟨k, hk⟩ := List.mem_iff_getElem?.1 hx
  have h1 := (plc_at l x.1 hs k x hk).1 (Int.le_refl _)
  have hlt := (List.getElem?_eq_some_iff.1 hk).1
  have hg : l[plc l x.1]? = some (l[plc l x.1]'(by omega)) := List.getElem?_eq_getElem _
  have h2 := (plc_at l x.1 hs _ _ hg).2 (Nat.le_refl _)
  by_cases e : plc l x.1 = k
  · rw [e]; exact hk
  · have hp := List.pairwise_iff_getElem.1 hs (plc l x.1) k (by omega) hlt (by omega)
    rw [(List.getElem?_eq_some_iff.1 hk).2] at hp
    omega
theorem seat_miss {l : List Sea} {c : Int} (h : seat l c = none) {x : Sea} (hx : l[plc l c]? = some x) : x.1 ≠ c := seat_none h x (List.mem_of_getElem? hx)
theorem high_hit {l : List Sea} {c : Int} (hs : Sorted l) {x : Sea} (h : seat l c = some x) : l.drop (plc l c + 1) = l.filter (fun y => decide (c < y.1)) := by
  have h1 := seat_at hs h
  have h2 := drop_plc l c hs
  rw [drop_at h1] at h2
  have hc := (seat_some h).2
  have e : l.filter (fun y => decide (c < y.1)) = (l.filter (fun y => decide (c ≤ y.1))).filter (fun y => decide (c < y.1)) := by
    rw [List.filter_filter]
    refine List.filter_congr fun y _ => ?_
    rw [Bool.eq_iff_iff]
    simp
    omega
  rw [e, ← h2, List.filter_cons, if_neg (by simp; omega)]
  symm
  refine List.filter_eq_self.2 fun y hy => ?_
  have hp : Sorted (x :: l.drop (plc l c + 1)) := by rw [← drop_at h1]; exact hs.sublist (List.drop_sublist _ _)
  have := (List.pairwise_cons.1 hp).1 y hy
  simp
  omega
theorem high_miss {l : List Sea} {c : Int} (hs : Sorted l) (h : seat l c = none) : l.drop (plc l c) = l.filter (fun y => decide (c < y.1)) := by
  rw [drop_plc l c hs]
  refine List.filter_congr fun y hy => ?_
  have := seat_none h y hy
  rw [Bool.eq_iff_iff]
  simp
  omega
/-- What is wrong with seats or a client. -/
def cErr (l : List Sea) (c : Int) : Int := if ok l = true then (if Cl c then 0 else 1) else 4
/-- What is wrong with seats, a client or a request. -/
def rErr (l : List Sea) (c r : Int) : Int := if cErr l c = 0 then (if Rq r then 0 else 1) else cErr l c
theorem cErr_or (l : List Sea) (c : Int) : (cErr l c = 0 ∧ ok l = true ∧ Cl c) ∨ (cErr l c = 1 ∧ ok l = true ∧ ¬ Cl c) ∨ (cErr l c = 4 ∧ ok l = false) := by
  unfold cErr
  cases h : ok l
  · exact .inr (.inr ⟨by simp, rfl⟩)
  · by_cases hc : Cl c
    · exact .inl ⟨by simp [hc], rfl, hc⟩
    · exact .inr (.inl ⟨by simp [hc], rfl, hc⟩)
theorem rErr_or (l : List Sea) (c r : Int) : (rErr l c r = 0 ∧ cErr l c = 0 ∧ ok l = true ∧ Cl c ∧ Rq r) ∨ (rErr l c r = 1 ∧ cErr l c = 0 ∧ ok l = true ∧ Cl c ∧ ¬ Rq r) ∨ (rErr l c r = cErr l c ∧ cErr l c ≠ 0) := by
  rcases cErr_or l c with ⟨h, h1, h2⟩ | ⟨h, h1, h2⟩ | ⟨h, h1⟩
  · by_cases hr : Rq r
    · exact .inl ⟨by unfold rErr; rw [if_pos h, if_pos hr], h, h1, h2, hr⟩
    · exact .inr (.inl ⟨by unfold rErr; rw [if_pos h, if_neg hr], h, h1, h2, hr⟩)
  · exact .inr (.inr ⟨by unfold rErr; rw [if_neg (by omega)], by omega⟩)
  · exact .inr (.inr ⟨by unfold rErr; rw [if_neg (by omega)], by omega⟩)
/-- What a request is. -/
def what (l : List Sea) (c r : Int) : Int := if rErr l c r = 0 then (match seat l c with | none => if l.length = 6 then 4 else 1 | some x => if x.2.1 < r then 1 else if r < x.2.1 then 3 else 2) else 0
/-- The reply that is told. -/
def told (l : List Sea) (c r : Int) : ByteArray := if rErr l c r = 0 then (match seat l c with | none => ⟨#[]⟩ | some x => if r = x.2.1 then x.2.2 else ⟨#[]⟩) else ⟨#[]⟩
theorem what_bad {l : List Sea} {c r : Int} (h : rErr l c r ≠ 0) : what l c r = 0 ∧ told l c r = ⟨#[]⟩ := ⟨if_neg h, if_neg h⟩
theorem what_none {l : List Sea} {c r : Int} (h : rErr l c r = 0) (hs : seat l c = none) : what l c r = (if l.length = 6 then 4 else 1) ∧ told l c r = ⟨#[]⟩ := by
  unfold what told
  rw [if_pos h, if_pos h, hs]
  exact ⟨rfl, rfl⟩
theorem what_some {l : List Sea} {c r : Int} {x : Sea} (h : rErr l c r = 0) (hs : seat l c = some x) : what l c r = (if x.2.1 < r then 1 else if r < x.2.1 then 3 else 2) ∧ told l c r = (if r = x.2.1 then x.2.2 else ⟨#[]⟩) := by
  unfold what told
  rw [if_pos h, if_pos h, hs]
  exact ⟨rfl, rfl⟩
def putErr (l : List Sea) (c r : Int) (s : ByteArray) : Int := if rErr l c r = 0 then (if 8192 < s.size then 2 else if what l c r = 4 then 412 else if what l c r = 1 then 0 else 7) else rErr l c r
def put (l : List Sea) (c r : Int) (s : ByteArray) : List Sea := if putErr l c r s = 0 then l.filter (fun x => decide (x.1 < c)) ++ [(c, r, s)] ++ l.filter (fun x => decide (c < x.1)) else []
def dropErr (l : List Sea) (c : Int) : Int := if cErr l c = 0 then (match seat l c with | none => 6 | some _ => 0) else cErr l c
def dropped (l : List Sea) (c : Int) : List Sea := if dropErr l c = 0 then l.filter (fun x => !(x.1 == c)) else []
theorem dropped_hit {l : List Sea} {c : Int} (hs : Sorted l) {x : Sea} (h : seat l c = some x) : l.filter (fun x => !(x.1 == c)) = l.take (plc l c) ++ l.drop (plc l c + 1) := by
  have e : l = l.take (plc l c) ++ ([x] ++ l.drop (plc l c + 1)) := by
    rw [List.singleton_append, ← drop_at (seat_at hs h), List.take_append_drop]
  have hc := (seat_some h).2
  have h1 : (l.take (plc l c)).filter (fun x => !(x.1 == c)) = l.take (plc l c) := List.filter_eq_self.2 fun y hy => by
    rw [take_plc l c hs] at hy
    have := (List.mem_filter.1 hy).2
    simp at this ⊢
    omega
  have h2 : (l.drop (plc l c + 1)).filter (fun x => !(x.1 == c)) = l.drop (plc l c + 1) := List.filter_eq_self.2 fun y hy => by
    rw [high_hit hs h] at hy
    have := (List.mem_filter.1 hy).2
    simp at this ⊢
    omega
  generalize hL : l.take (plc l c) = A at *
  generalize l.drop (plc l c + 1) = B at *
  rw [e, List.filter_append, List.filter_append, h1, h2]
  simp [hc]
theorem putErr_or (l : List Sea) (c r : Int) (s : ByteArray) : (putErr l c r s = 0 ∧ rErr l c r = 0 ∧ s.size ≤ 8192 ∧ what l c r = 1) ∨ (putErr l c r s = 2 ∧ rErr l c r = 0 ∧ 8192 < s.size) ∨ (putErr l c r s = 412 ∧ rErr l c r = 0 ∧ s.size ≤ 8192 ∧ what l c r = 4) ∨ (putErr l c r s = 7 ∧ rErr l c r = 0 ∧ s.size ≤ 8192 ∧ what l c r ≠ 4 ∧ what l c r ≠ 1) ∨ (putErr l c r s = rErr l c r ∧ rErr l c r ≠ 0) := by
  by_cases h : rErr l c r = 0
  · by_cases h1 : 8192 < s.size
    · exact .inr (.inl ⟨by unfold putErr; rw [if_pos h, if_pos h1], h, h1⟩)
    · by_cases h2 : what l c r = 4
      · exact .inr (.inr (.inl ⟨by unfold putErr; rw [if_pos h, if_neg h1, if_pos h2], h, by omega, h2⟩))
      · by_cases h3 : what l c r = 1
        · exact .inl ⟨by unfold putErr; rw [if_pos h, if_neg h1, if_neg h2, if_pos h3], h, by omega, h3⟩
        · exact .inr (.inr (.inr (.inl ⟨by unfold putErr; rw [if_pos h, if_neg h1, if_neg h2, if_neg h3], h, by omega, h2, h3⟩)))
  · exact .inr (.inr (.inr (.inr ⟨by unfold putErr; rw [if_neg h], h⟩)))
theorem put_ok {l : List Sea} {c r : Int} {s : ByteArray} (h : putErr l c r s = 0) : rErr l c r = 0 ∧ s.size ≤ 8192 ∧ what l c r = 1 := by
  rcases putErr_or l c r s with ⟨_, h1, h2, h3⟩ | ⟨h1, _⟩ | ⟨h1, _⟩ | ⟨h1, _⟩ | ⟨h1, h2⟩
  · exact ⟨h1, h2, h3⟩
  all_goals omega
end Se
end Go.Proofs.Ytaojdndhhgmdmaa
