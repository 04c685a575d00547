/-
  Bytes at places that rise, and how the document's Write goes through them. No program.
-/
import Derived.Test.YtkkaendfcfkbbaaKit
import Derived.Test.YtkkaendfcfkbbaaMade
namespace Go.Proofs.Ytkkaendfcfkbbaa
namespace Bl
abbrev Q := Int × UInt8
theorem from_rises (l : List UInt8) : ∀ p, (onesFrom p l).Pairwise (fun a b : Q => a.1 < b.1) := by
  induction l with
  | nil => intro p; exact List.Pairwise.nil
  | cons b l ih =>
    intro p
    refine List.Pairwise.cons (fun q hq => ?_) (ih (p + 1))
    have := onesFrom_mem l (p + 1) q hq
    show p < q.1
    omega
theorem ones_rises : ∀ (l : List R) (a : Int), right a l → (ones l).Pairwise (fun a b : Q => a.1 < b.1) ∧ ∀ q ∈ ones l, a < q.1
  | [], _, _ => ⟨List.Pairwise.nil, fun q hq => by cases hq⟩
  | r :: l, a, h => by
    obtain ⟨h1, h2⟩ := ones_rises l (rend r) h.2
    have h3 := h.1
    rw [ones_cons]
    refine ⟨List.pairwise_append.2 ⟨from_rises _ _, h1, fun x hx y hy => ?_⟩, fun q hq => ?_⟩
    · have := (one_mem r x hx).2
      have := h2 y hy
      omega
    · rcases List.mem_append.1 hq with hq | hq
      · have := (one_mem r q hq).1
        omega
      · have := h2 q hq
        unfold rend at this
        omega
/-- A place ahead of a, and one from a on. -/
def lo (a : Int) (q : Q) : Bool := decide (q.1 < a)
def hi (a : Int) (q : Q) : Bool := decide (a ≤ q.1)
/-- What stands in out behind k rounds. -/
def goes (L : List Q) (a : Int) (d : ByteArray) (b : Bool) (k : Nat) : List Q :=
  if b then (L.take k).filter (lo a) ++ onesFrom a d.data.toList ++ (L.take k).filter (hi (a + d.size)) else L.take k
/-- What is known behind k rounds. -/
def knows (L : List Q) (a : Int) (b : Bool) (k : Nat) : Prop :=
  if b then ∀ q ∈ L.drop k, a ≤ q.1 else ∀ q ∈ L.take k, q.1 < a
theorem takeQ_succ (L : List Q) {k : Nat} (hk : k < L.length) {x : Q} (hx : L.getD k (0, 0) = x) : L.take (k + 1) = L.take k ++ [x] := take1_succ L hk hx
theorem dropQ (L : List Q) {k : Nat} (hk : k < L.length) {x : Q} (hx : L.getD k (0, 0) = x) : L.drop k = x :: L.drop (k + 1) := by
  rw [List.drop_eq_getElem_cons hk, ← hx]
  simp [List.getD, hk]
theorem goes_lo {L : List Q} {a : Int} {d : ByteArray} {k : Nat} (hk : k < L.length) {x : Q} (hx : L.getD k (0, 0) = x) (h : x.1 < a) (hn : knows L a false k) :
    goes L a d false (k + 1) = goes L a d false k ++ [x] ∧ knows L a false (k + 1) := by
  unfold goes knows at *
  simp only [Bool.false_eq_true, if_false] at *
  rw [takeQ_succ L hk hx]
  refine ⟨rfl, fun q hq => ?_⟩
  rcases List.mem_append.1 hq with hq | hq
  · exact hn q hq
  · simp only [List.mem_singleton] at hq
    subst hq
    exact h
theorem lo_all {L : List Q} {a : Int} (h : ∀ q ∈ L, q.1 < a) : L.filter (lo a) = L := List.filter_eq_self.2 (fun q hq => decide_eq_true (h q hq))
theorem hi_none {L : List Q} {a : Int} {n : Nat} (h : ∀ q ∈ L, q.1 < a) : L.filter (hi (a + (n : Int))) = [] := List.filter_eq_nil_iff.2 (fun q hq => by unfold hi; have := h q hq; simp; omega)
/-- The data goes in: all ahead is below it. -/
theorem goes_in {L : List Q} {a : Int} {d : ByteArray} {k : Nat} (hn : knows L a false k) : goes L a d false k ++ onesFrom a d.data.toList = goes L a d true k := by
  unfold goes knows at *
  simp only [Bool.false_eq_true, if_false, if_true] at *
  rw [lo_all hn, hi_none hn, List.append_nil]
theorem knows_in {L : List Q} {a : Int} {k : Nat} (hs : L.Pairwise (fun a b : Q => a.1 < b.1)) (hk : k < L.length) {x : Q} (hx : L.getD k (0, 0) = x) (h : a ≤ x.1) : knows L a true k := by
  unfold knows
  simp only [if_true]
  intro q hq
  have h2 := List.Pairwise.drop (i := k) hs
  rw [dropQ L hk hx] at hq h2
  rcases List.mem_cons.1 hq with rfl | hq
  · exact h
  · have := (List.pairwise_cons.1 h2).1 q hq
    omega
theorem knows_at {L : List Q} {a : Int} {k : Nat} (hk : k < L.length) {x : Q} (hx : L.getD k (0, 0) = x) (h : knows L a true k) : a ≤ x.1 ∧ knows L a true (k + 1) := by
  unfold knows at *
  simp only [if_true] at *
  rw [dropQ L hk hx] at h
  exact ⟨h x (by simp), fun q hq => h q (by simp [hq])⟩
theorem goes_hi {L : List Q} {a : Int} {d : ByteArray} {k : Nat} (hk : k < L.length) {x : Q} (hx : L.getD k (0, 0) = x) (h0 : a ≤ x.1) (h : a + (d.size : Int) ≤ x.1) : goes L a d true (k + 1) = goes L a d true k ++ [x] := by
  unfold goes
  simp only [if_true]
  rw [takeQ_succ L hk hx, List.filter_append, List.filter_append]
  have e1 : [x].filter (lo a) = [] := by simp [lo]; omega
  have e2 : [x].filter (hi (a + d.size)) = [x] := by simp [hi]; omega
  rw [e1, e2, List.append_nil, List.append_assoc, List.append_assoc, List.append_assoc]
theorem goes_mid {L : List Q} {a : Int} {d : ByteArray} {k : Nat} (hk : k < L.length) {x : Q} (hx : L.getD k (0, 0) = x) (h0 : a ≤ x.1) (h : ¬ a + (d.size : Int) ≤ x.1) : goes L a d true (k + 1) = goes L a d true k := by
  unfold goes
  simp only [if_true]
  rw [takeQ_succ L hk hx, List.filter_append, List.filter_append]
  have e1 : [x].filter (lo a) = [] := by simp [lo]; omega
  have e2 : [x].filter (hi (a + d.size)) = [] := by simp [hi]; omega
  rw [e1, e2, List.append_nil, List.append_nil]
theorem goes_length (L : List Q) (a : Int) (d : ByteArray) (b : Bool) (k : Nat) : (goes L a d b k).length ≤ 2 * L.length + d.size := by
  unfold goes
  have h0 : (L.take k).length ≤ L.length := by simp; omega
  have h1 := List.length_filter_le (lo a) (L.take k)
  have h2 := List.length_filter_le (hi (a + d.size)) (L.take k)
  have h3 : (onesFrom a d.data.toList).length = d.size := by rw [onesFrom_length]; simp
  cases b
  · simp only [Bool.false_eq_true, if_false]; omega
  · simp only [if_true, List.length_append]; omega
theorem goes_end {l : List R} {a : Int} {d : ByteArray} (hr : right (-1) l) : goes (ones l) a d true (ones l).length = ones (write l a d) := by
  unfold goes
  simp only [if_true, List.take_length]
  rw [ones_write]
  congr 1
  · congr 1
    apply List.filter_congr
    intro q hq
    have := right_filter hr q hq
    unfold lo inn
    simp
    omega
  · apply List.filter_congr
    intro q hq
    have := right_filter hr q hq
    unfold hi inn
    simp
    omega
end Bl
end Go.Proofs.Ytkkaendfcfkbbaa
