/-
  What stays while a post is used; and what is known of the letters that were sent and taken.
-/
import Derived.Test.YtpfnlciacbfcgabTwice
import Derived.Test.YtpfnlciacbfcgabSteps
namespace Go.Proofs.Ytpfnlciacbfcgab
open Go.RowKit

theorem block_turned {w w' : World} {s : Nat} {nodes last : Int} {v : Value} {ls : List Po.Lt} (hp : PostAt w s nodes last v ls) (ht : Turns w w' s v) {b : Nat} {c : Array Value} {t : TypeId} {fr : Nat × Nat} (hb : w.heap[b]? = some (.cells c t fr)) (h1 : t ≠ 35) (h2 : t ≠ 48) : w'.heap[b]? = some (.cells c t fr) := by
  have hlt : b < w.heap.size := (Array.getElem?_eq_some_iff.1 hb).1
  refine (ht.block b hlt (fun e => ?_) (block_ne hp.row hb h1)).trans hb
  subst e
  rw [hp.block] at hb
  simp at hb
  exact h2 hb.2.1.symm
theorem row_turned {w w' : World} {s : Nat} {nodes last : Int} {v : Value} {ls : List Po.Lt} (hp : PostAt w s nodes last v ls) (ht : Turns w w' s v) {base : Nat} {e : TypeId} {sz : Nat} {r : Value} {n : Nat} {xs : List Value} (h : w.ownsRow base e sz r n xs) (h1 : e ≠ 35) (h2 : e ≠ 48) : w'.ownsRow base e sz r n xs := by
  refine ⟨h.1, ?_⟩
  rcases h.2 with h0 | ⟨g, cap, cur, hv, hbg, hg, hr⟩
  · exact .inl h0
  · exact .inr ⟨g, cap, cur, hv, hbg, block_turned hp ht hg h1 h2, hr⟩
theorem PostAt.kept_row {w w' : World} {s : Nat} {nodes last : Int} {v : Value} {ls : List Po.Lt} (hp : PostAt w s nodes last v ls) {base : Nat} {e : TypeId} {sz : Nat} {r : Value} {n : Nat} {xs : List Value} (h : w.ownsRow base e sz r n xs) (hg : w.grownBy w' r.ownBlock) (h1 : e ≠ 35) (h2 : e ≠ 48) : PostAt w' s nodes last v ls := by
  refine hp.kept hg (block_ne h hp.block (fun e => h2 e.symm)) ?_
  exact rows_ne hp.row h (fun e => h1 e.symm)

namespace Po
/-- What the statement knows: of each number what was sent, and which were taken. -/
structure Known (last : Int) (ls : List Lt) (bs : List St) (tk : List Int) : Prop where
  len : (bs.length : Int) = last + 1
  same : ∀ x ∈ ls, (bs.getD x.1.toNat s0).2.1 = x.2.1 ∧ (bs.getD x.1.toNat s0).2.2.1 = x.2.2.1 ∧ (bs.getD x.1.toNat s0).2.2.2.2 = x.2.2.2
  gone : ∀ n ∈ tk, get ls n = none ∧ n ≤ last
theorem known_start : Known 0 [] [s0] [] := ⟨by simp, (fun _ h => by cases h), (fun _ h => by cases h)⟩
theorem getD_snoc {bs : List St} {x : St} {i : Nat} (h : i < bs.length) : (bs ++ [x]).getD i s0 = bs.getD i s0 := by
  simp [List.getD, List.getElem?_append_left h]
theorem getD_last {bs : List St} {x : St} {i : Nat} (h : i = bs.length) : (bs ++ [x]).getD i s0 = x := by
  subst h
  simp [List.getD]
theorem get_append_none {ls : List Lt} {x : Lt} {n : Int} (h : get ls n = none) (hx : x.1 ≠ n) : get (ls ++ [x]) n = none := by
  rw [get_none] at h ⊢
  intro y hy
  rcases List.mem_append.1 hy with hy | hy
  · exact h y hy
  · simp at hy
    subst hy
    exact hx
theorem Known.add {last : Int} {ls : List Lt} {bs : List St} {tk : List Int} (h : Known last ls bs tk) (hG : Good last ls) {f t : Int} {b : ByteArray} {y : St} (h1 : y.2.1 = f) (h2 : y.2.2.1 = t) (h3 : y.2.2.2.2 = b) : Known (last + 1) (ls ++ [(last + 1, f, t, b)]) (bs ++ [y]) tk := by
  have hl := h.len
  have hz := hG.zero
  refine ⟨by simp; omega, fun x hx => ?_, fun n hn => ⟨get_append_none (h.gone n hn).1 (by have := (h.gone n hn).2; simp only; omega), by have := (h.gone n hn).2; omega⟩⟩
  rcases List.mem_append.1 hx with hx | hx
  · have hi := hG.inside x hx
    rw [getD_snoc (by omega)]
    exact h.same x hx
  · simp at hx
    subst hx
    rw [getD_last (by simp only; omega)]
    exact ⟨h1, h2, h3⟩
theorem Known.take {last : Int} {ls : List Lt} {bs : List St} {tk : List Int} (h : Known last ls bs tk) {n : Int} (hn : n ≤ last) : Known last (drop ls n) bs (tk ++ [n]) := by
  refine ⟨h.len, fun x hx => h.same x (List.mem_filter.1 hx).1, fun m hm => ?_⟩
  rcases List.mem_append.1 hm with hm | hm
  · obtain ⟨h1, h2⟩ := h.gone m hm
    refine ⟨?_, h2⟩
    rw [get_none] at h1 ⊢
    exact fun x hx => h1 x (List.mem_filter.1 hx).1
  · simp at hm
    subst hm
    refine ⟨?_, hn⟩
    rw [get_none]
    intro x hx
    simpa using (List.mem_filter.1 hx).2
end Po
end Go.Proofs.Ytpfnlciacbfcgab
