/-
  What becomes of slices of items while a log is put: frames; the first of two halves of OplogPuts.
-/
import Derived.Test.YtbjcleeiobaegaaItems
namespace Go.Proofs.Ytbjcleeiobaegaa
open Go.RowKit

theorem Row.turns {w w' : World} {B s : Nat} {e : TypeId} {u v : Value} {l : List Ol.It} (h : Row w B e u l) (ht : Turns w w' s v) (h1 : s < B) (h2 : ∀ j, v.ownBlock = some j → j < B) : Row w' B e u l := by
  rcases h with h | ⟨g, off, cap, cur, rfl, hB, hh, h3⟩
  · exact .inl h
  · refine .inr ⟨g, off, cap, cur, rfl, hB, ?_, h3⟩
    rw [ht.block g (Array.getElem?_eq_some_iff.1 hh).1 (by omega) (fun e => by have := h2 g e.symm; omega), hh]
/-- Add, whatever it answers. -/
theorem add_some {s : Nat} {base : Int} {v : Value} {ls : List Ol.It} (x : Ol.It) (w : World) (h : LogAt w s base v ls) : Calls Try.prog 18 #[.pointer (some ⟨s, 0, none⟩), item x] w fun e w' => ∃ (a b : Int) (v' : Value) (ls' : List Ol.It), e = .returned (.tuple #[.int .i64 a, .int .i64 b]) ∧ LogAt w' s base v' ls' ∧ Turns w w' s v := by
  by_cases hr : Ol.refuse base ls [x] = 0
  · exact (add_ok x w h hr).mono fun _ _ ⟨v', he, hl, ht, _⟩ => ⟨_, _, v', _, he, hl, ht⟩
  · exact (add_err x w h hr).mono fun _ _ ⟨he, hg⟩ => ⟨_, _, v, ls, he, h.still hg, Turns.of_grown hg⟩
/-- All items of a log. -/
theorem behind_all {s : Nat} {v : Value} {ls : List Ol.It} (most : Int) (w : World) (h : LogAt w s 0 v ls) (hm : 256 ≤ most) (hM : most ≤ 9223372036854775807) : Calls Try.prog 21 #[.pointer (some ⟨s, 0, none⟩), .int .i64 0, .int .i64 most] w fun e w' => ∃ p c, e = .returned (.tuple #[.slice p ls.length c, .int .i64 0]) ∧ Row w' w.heap.size 32 (.slice p ls.length c) ls ∧ w.grownBy w' none := by
  refine (behind_ok 0 0 most w h (Nat.zero_le _) rfl (by omega) hM).mono ?_
  rintro e w' ⟨u, he, hr, hg⟩
  rw [List.drop_zero, List.take_of_length_le (by have := h.good.len; omega)] at hr
  obtain ⟨p, c, rfl⟩ := hr.slice
  exact ⟨p, c, he, hr, hg⟩
/-- What Put answers and leaves. -/
theorem put_some {s : Nat} {v : Value} {ls : List Ol.It} (n : Int) (u : Value) (xs : List Ol.It) (w : World) (h : LogAt w s 0 v ls) (hx : ItemsAt w u xs) (hsz : xs.length ≤ 4611686018427387904) : Calls Try.prog 22 #[.pointer (some ⟨s, 0, none⟩), .int .i64 n, u] w fun e w' =>
    (∃ f : Int, e = .returned (.int .i64 f) ∧ f ≠ 0 ∧ LogAt w' s 0 v ls ∧ Turns w w' s v) ∨ (∃ (k : Nat) (v' : Value), e = .returned (.int .i64 0) ∧ n = k ∧ k ≤ ls.length ∧ LogAt w' s 0 v' (ls.take k ++ xs) ∧ Turns w w' s v) := by
  by_cases h0 : Ol.reach 0 ls.length n = 0
  · have hn : 0 ≤ n ∧ n ≤ ls.length := by
      unfold Ol.reach at h0
      split at h0
      · omega
      · rename_i hc
        omega
    obtain ⟨k, rfl⟩ : ∃ k : Nat, n = k := ⟨n.toNat, by omega⟩
    by_cases hr : Ol.refuse 0 (ls.take k) xs = 0
    · exact (put_ok k k u xs w h (by omega) (by simp) hx hsz hr).mono fun _ _ ⟨v', he, hl, ht, _⟩ => .inr ⟨k, v', he, rfl, by omega, hl, ht⟩
    · exact (put_err k k u xs w h (by omega) (by simp) hx hsz hr).mono fun _ _ ⟨he, hg⟩ => .inl ⟨_, he, hr, h.still hg, Turns.of_grown hg⟩
  · exact (put_reach n u w h h0).mono fun _ _ ⟨he, hg⟩ => .inl ⟨_, he, h0, h.still hg, Turns.of_grown hg⟩
end Go.Proofs.Ytbjcleeiobaegaa
