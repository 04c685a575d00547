/-
  What is done with one letter changes no other one: on lists; and rows that lie apart from a post's.
-/
import Derived.Test.YtpfnlciacbfcgabFlip
import Derived.Test.YtpfnlciacbfcgabOnceA
namespace Go.Proofs.Ytpfnlciacbfcgab
open Go.RowKit

theorem row_far {w w' : World} {s : Nat} {v : Value} (ht : Turns w w' s v) {base : Nat} {e : TypeId} {sz : Nat} {r : Value} {n : Nat} {xs : List Value} (h : w.ownsRow base e sz r n xs) (h1 : s < base) (h2 : ∀ j, v.ownBlock = some j → r.ownBlock ≠ some j) : w'.ownsRow base e sz r n xs := by
  refine ⟨h.1, ?_⟩
  rcases h.2 with h0 | ⟨g, cap, cur, rfl, hbg, hg, hr⟩
  · exact .inl h0
  · exact .inr ⟨g, cap, cur, rfl, hbg, (ht.block g (Array.getElem?_eq_some_iff.1 hg).1 (by omega) (fun e => h2 g e.symm rfl)).trans hg, hr⟩
theorem IntsAt.turned {w w' : World} {s : Nat} {v u : Value} {l : List Int} (h : IntsAt w u l) (ht : Turns w w' s v) (h1 : u.ownBlock ≠ some s) (h2 : ∀ j, v.ownBlock = some j → u.ownBlock ≠ some j) : IntsAt w' u l := by
  rcases h with h | ⟨b, off, cap, rfl, hb, hp, hc, hm, hx⟩
  · exact .inl h
  · refine .inr ⟨b, off, cap, rfl, Nat.lt_of_lt_of_le hb ht.size, hp, hc, hm, fun i hi => ?_⟩
    rw [World.cell?_of_block (a := ⟨b, off + i, none⟩) (ht.block b hb (fun e => h1 (by rw [← e]; rfl)) (fun e => h2 b e.symm rfl))]
    exact hx i hi

namespace Po
theorem uniq {ls : List Lt} (hs : ls.Pairwise (fun x y => x.1 < y.1)) {x y : Lt} (hx : x ∈ ls) (hy : y ∈ ls) (e : x.1 = y.1) : x = y := by
  induction ls with
  | nil => cases hx
  | cons a l ih =>
    obtain ⟨p1, p2⟩ := List.pairwise_cons.1 hs
    rcases List.mem_cons.1 hx with rfl | hx'
    · rcases List.mem_cons.1 hy with rfl | hy'
      · rfl
      · have := p1 y hy'
        omega
    · rcases List.mem_cons.1 hy with rfl | hy'
      · have := p1 x hx'
        omega
      · exact ih p2 hx' hy'
theorem get_at {ls : List Lt} (hs : ls.Pairwise (fun x y => x.1 < y.1)) {j : Nat} (hj : j < ls.length) : get ls (ls.getD j d0).1 = some (ls.getD j d0) := by
  have hm : ls.getD j d0 ∈ ls := by simp [List.getD, hj]
  cases hg : get ls (ls.getD j d0).1 with
  | none => exact absurd rfl (get_none.1 hg _ hm)
  | some y =>
    obtain ⟨h1, h2⟩ := get_mem hg
    rw [uniq hs h1 hm h2]
theorem get_map {ls : List Lt} (f : Lt → Lt) (hf : ∀ x, (f x).1 = x.1) (k : Int) : get (ls.map f) k = (get ls k).map f := by
  induction ls with
  | nil => rfl
  | cons a l ih =>
    rw [List.map_cons, get_cons, get_cons, hf a, ih]
    split <;> rfl
theorem get_put_other {ls : List Lt} {n k : Int} (b : ByteArray) (h : k ≠ n) : get (put ls n b) k = get ls k := by
  unfold put
  rw [get_map _ (fun x => by split <;> rfl)]
  cases hg : get ls k with
  | none => rfl
  | some y =>
    have := (get_mem hg).2
    simp only [Option.map_some]
    rw [if_neg (by omega)]
theorem get_put_some {ls : List Lt} {n : Int} (b : ByteArray) : (get (put ls n b) n).isSome = (get ls n).isSome := by
  unfold put
  rw [get_map _ (fun x => by split <;> rfl)]
  cases get ls n <;> rfl
theorem get_snoc {ls : List Lt} {x : Lt} {k : Int} (h : x.1 ≠ k) : get (ls ++ [x]) k = get ls k := by
  induction ls with
  | nil => rw [List.nil_append, get_cons, if_neg h]
  | cons a l ih => rw [List.cons_append, get_cons, get_cons, ih]
theorem get_drop_other {ls : List Lt} {n k : Int} (h : k ≠ n) : get (drop ls n) k = get ls k := by
  induction ls with
  | nil => rfl
  | cons a l ih =>
    unfold drop at ih ⊢
    rw [List.filter_cons]
    by_cases e : a.1 = n
    · rw [if_neg (by simp [e]), ih, get_cons, if_neg (by omega)]
    · rw [if_pos (by simpa using e), get_cons, get_cons, ih]
theorem get_drop_same (ls : List Lt) (n : Int) : get (drop ls n) n = none := by
  rw [get_none]
  intro x hx
  simpa using (List.mem_filter.1 hx).2

/-- The three calls, one behind the other. -/
def flipped (ls : List Lt) (n bit : Int) : List Lt := flipTo ls n bit
def after (last : Int) (ls : List Lt) (n bit : Int) : List Lt := drop (againTo last (flipTo ls n bit) n) n
theorem get_flip_other {ls : List Lt} {n bit k : Int} (h : k ≠ n) : get (flipTo ls n bit) k = get ls k := by
  unfold flipTo
  split
  · rfl
  · split
    · exact get_put_other _ h
    · rfl
theorem get_flip_some {ls : List Lt} {n bit : Int} : (get (flipTo ls n bit) n).isSome = (get ls n).isSome := by
  unfold flipTo
  split
  · rfl
  · split
    · exact get_put_some _
    · rfl
theorem get_again {last : Int} {ls : List Lt} {n k : Int} (hk : k ≤ last) : get (againTo last ls n) k = get ls k := by
  unfold againTo
  split
  · exact get_snoc (by simp only; omega)
  · rfl
theorem get_after {last : Int} {ls : List Lt} {n bit k : Int} (hk : k ≤ last) (h : k ≠ n) : get (after last ls n bit) k = get ls k := by
  unfold after
  rw [get_drop_other h, get_again hk, get_flip_other h]
theorem get_before {last : Int} {ls : List Lt} {n bit : Int} (hn : n ≤ last) : (get (againTo last (flipTo ls n bit) n) n).isSome = (get ls n).isSome := by
  rw [get_again hn, get_flip_some]
theorem again_absent {last : Int} {ls : List Lt} {n bit : Int} (h : get ls n = none) : get (againTo last (flipTo ls n bit) n) n = none := by
  have e : flipTo ls n bit = ls := by unfold flipTo; rw [h]
  rw [e]
  have e2 : againErr ls n = 6 := by unfold againErr; rw [h]; rfl
  unfold againTo
  rw [e2]
  exact h
/-- How many of the first j are the one. -/
def goneIn (ls : List Lt) (n : Int) (j : Nat) : Nat := (ls.take j).countP (fun x => x.1 == n)
theorem gone_step {ls : List Lt} {n : Int} {j : Nat} (hj : j < ls.length) : goneIn ls n (j + 1) = goneIn ls n j + (if (ls.getD j d0).1 = n then 1 else 0) := by
  unfold goneIn
  rw [List.take_succ_eq_append_getElem hj, List.countP_append]
  have e : ls.getD j d0 = ls[j] := by simp [List.getD, hj]
  rw [e]
  by_cases h : ls[j].1 = n <;> simp [h]
theorem gone_all {ls : List Lt} (hs : ls.Pairwise (fun x y => x.1 < y.1)) (n : Int) : goneIn ls n ls.length = if (get ls n).isSome then 1 else 0 := by
  unfold goneIn
  rw [List.take_length]
  induction ls with
  | nil => rfl
  | cons a l ih =>
    obtain ⟨p1, p2⟩ := List.pairwise_cons.1 hs
    rw [List.countP_cons, get_cons, ih p2]
    by_cases e : a.1 = n
    · have : get l n = none := get_none.2 fun x hx => by have := p1 x hx; omega
      simp [e, this]
    · simp [e]
end Po
end Go.Proofs.Ytpfnlciacbfcgab
