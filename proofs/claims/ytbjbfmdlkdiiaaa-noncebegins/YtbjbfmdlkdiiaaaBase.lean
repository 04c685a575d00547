/-
  Vectors as slices of ints; what nonce's small functions and the document's answer; they turn nothing.
-/
import Derived.Test.YtbjbfmdlkdiiaaaRows
import Derived.Test.YtbjbfmdlkdiiaaaPlain
import Derived.WalkKit
import Derived.ProofKit
import Derived.BigQuiet
import Derived.WalkSmall
import Derived.WalkLawsBesides
import Derived.Deep.QuietTactic
import Derived.Deep.OwnRows
namespace Go.Proofs.Ytbjbfmdlkdiiaaa
open Go.RowKit

theorem own : ownKnob Try.prog.godebug = none := by kernel_rfl
theorem laidOut : laidOutB Try.prog = true := by kernel_rfl
theorem grown_refl (w : World) (row : Option Nat) : w.grownBy w row := ⟨rfl, rfl, rfl, Nat.le_refl _, fun _ _ _ => rfl⟩
theorem grown_trans {a b c : World} {row : Option Nat} (h : a.grownBy b row) (k : b.grownBy c row) : a.grownBy c row :=
  ⟨k.os.trans h.os, k.tape.trans h.tape, k.output.trans h.output, Nat.le_trans h.size k.size, fun i hi hr => (k.block i (Nat.lt_of_lt_of_le hi h.size) hr).trans (h.block i hi hr)⟩
theorem grown_of_below {w w' : World} (h : Below w.heap.size w w') (row : Option Nat) : w.grownBy w' row := ⟨h.os, h.tape, h.output, h.size, fun k hk _ => h.block k hk⟩
theorem below_none {B : Nat} {w w' : World} (h : w.grownBy w' none) (hs : B ≤ w.heap.size) : Below B w w' := (Below.refl B w).grown h hs (fun k hk => by cases hk)

/-- The value v stands for the list l of ints. -/
def IntsAt (w : World) (v : Value) (l : List Int) : Prop :=
  (∃ ao cap, v = .slice ao 0 cap ∧ l = []) ∨
  (∃ b off cap, v = .slice (some ⟨b, off, none⟩) l.length cap ∧ b < w.heap.size ∧ 0 < l.length ∧ l.length ≤ cap ∧ cap ≤ maxLen ∧
    ∀ i, i < l.length → w.cell? ⟨b, off + i, none⟩ = some (.int .i64 (l.getD i 0)))
theorem IntsAt.of_own {base : Nat} {w : World} {v : Value} {e : TypeId} {l : List Int} {n : Nat} (h : w.ownsRow base e 1 v n (l.map (Value.int .i64))) : IntsAt w v l := by
  have hn : n = l.length := by have := h.1; simp at this; omega
  subst hn
  have hlt := h.lt
  rcases h.2 with ⟨rfl, hn⟩ | ⟨g, cap, cur, rfl, hbg, hg, hnc, hcm, hcs, htake⟩
  · exact .inl ⟨none, 0, rfl, List.eq_nil_of_length_eq_zero hn⟩
  · by_cases hp : 0 < l.length
    · refine .inr ⟨g, 0, cap, rfl, (hlt g rfl).2, hp, hnc, hcm, fun i hi => ?_⟩
      have := h.cells (g := g) rfl i (.int .i64 (l.getD i 0)) (by simp [List.getD, hi])
      rw [WideShapes.add_plain] at this
      exact this
    · have : l = [] := List.eq_nil_of_length_eq_zero (by omega)
      subst this
      exact .inl ⟨_, _, rfl, rfl⟩
theorem IntsAt.up {w w' : World} {v : Value} {l : List Int} (h : IntsAt w v l) (hb : Below w.heap.size w w') : IntsAt w' v l := by
  rcases h with h | ⟨b, off, cap, rfl, hb', hp, hc, hm, hx⟩
  · exact .inl h
  · exact .inr ⟨b, off, cap, rfl, Nat.lt_of_lt_of_le hb' hb.size, hp, hc, hm, fun i hi => (hb.cell (p := ⟨b, off + i, none⟩) hb').trans (hx i hi)⟩
theorem IntsAt.slice {w : World} {v : Value} {l : List Int} (h : IntsAt w v l) : ∃ ao cap, v = .slice ao l.length cap ∧ l.length ≤ maxLen := by
  rcases h with ⟨ao, cap, rfl, rfl⟩ | ⟨b, off, cap, rfl, _, _, h1, h2, _⟩
  · exact ⟨_, _, rfl, by simp⟩
  · exact ⟨_, _, rfl, by omega⟩
theorem IntsAt.pos {w : World} {v : Value} {l : List Int} (h : IntsAt w v l) (hp : 0 < l.length) : ∃ b off cap, v = .slice (some ⟨b, off, none⟩) l.length cap ∧ b < w.heap.size ∧ l.length ≤ cap ∧ cap ≤ maxLen ∧
    ∀ i, i < l.length → w.cell? ⟨b, off + i, none⟩ = some (.int .i64 (l.getD i 0)) := by
  rcases h with ⟨ao, cap, rfl, rfl⟩ | ⟨b, off, cap, rfl, h1, _, h2, h3, h4⟩
  · simp at hp
  · exact ⟨b, off, cap, rfl, h1, h2, h3, h4⟩

namespace Nc
def chk (l : List Int) : Int := if vec l then 0 else 4
def e2 (a b : List Int) : Int := if two a b then 0 else 4
theorem e2_yes {a b : List Int} (h : two a b = true) : e2 a b = 0 := by unfold e2; rw [if_pos h]
theorem e2_no {a b : List Int} (h : two a b = false) : e2 a b = 4 := by unfold e2; rw [if_neg (by simp [h])]
theorem isC_cases {n : Nat} (h : isC n = true) : n = 1 ∨ n = 3 ∨ n = 5 ∨ n = 7 := by simpa [isC] using h
theorem isC_no {n : Nat} (h : isC n = false) : n = 0 ∨ n = 2 ∨ n = 4 ∨ n = 6 ∨ 7 < n := by simp [isC] at h; omega
theorem fit_cases (x : Int) : (fit x = true ∧ 0 ≤ x ∧ x ≤ 1099511627776) ∨ (fit x = false ∧ (x < 0 ∨ (¬ x < 0 ∧ 1099511627776 < x))) := by
  unfold fit
  by_cases h : 0 ≤ x ∧ x ≤ 1099511627776
  · exact .inl ⟨by simpa using h, h⟩
  · exact .inr ⟨by simp only [decide_eq_false_iff_not]; exact h, by omega⟩
end Nc

theorem isCount_any (n : Nat) (w : World) : Calls Try.prog 20 #[.int .i64 n] w fun e w' => e = .returned (.bool (Nc.isC n)) ∧ w' = w := by
  cases h : Nc.isC n with
  | true =>
    rcases Nc.isC_cases h with rfl | rfl | rfl | rfl
    all_goals
      go_enter Try.func20, Try.ntmps20
      go_wp2
      go_ret
      exact ⟨rfl, rfl⟩
  | false =>
    rcases Nc.isC_no h with rfl | rfl | rfl | rfl | h'
    · go_enter Try.func20, Try.ntmps20
      go_wp2
      go_ret
      exact ⟨rfl, rfl⟩
    · go_enter Try.func20, Try.ntmps20
      go_wp2
      go_ret
      exact ⟨rfl, rfl⟩
    · go_enter Try.func20, Try.ntmps20
      go_wp2
      go_ret
      exact ⟨rfl, rfl⟩
    · go_enter Try.func20, Try.ntmps20
      go_wp2
      go_ret
      exact ⟨rfl, rfl⟩
    · have h0 : (1 : Int) ≤ (n : Int) := by omega
      have h1 : ¬ (n : Int) ≤ 7 := by omega
      clear h
      go_enter Try.func20, Try.ntmps20
      go_wp2
      go_ret
      exact ⟨rfl, rfl⟩
theorem panel_any (n : Nat) (w : World) : Calls Try.prog 13 #[.int .i64 n] w fun e w' => e = .returned (.bool (Nc.isC n)) ∧ w' = w := by
  cases h : Nc.isC n with
  | true =>
    rcases Nc.isC_cases h with rfl | rfl | rfl | rfl
    all_goals
      go_enter Try.func13, Try.ntmps13
      go_wp2
      go_ret
      exact ⟨rfl, rfl⟩
  | false =>
    have h' := Nc.isC_no h
    have h1 : ((n : Int) == 1) = false := by simp; omega
    have h3 : ((n : Int) == 3) = false := by simp; omega
    have h5 : ((n : Int) == 5) = false := by simp; omega
    have h7 : ((n : Int) == 7) = false := by simp; omega
    clear h' h
    go_enter Try.func13, Try.ntmps13
    go_wp2
    go_ret
    exact ⟨rfl, rfl⟩
theorem fits_any (x : Int) (w : World) : Calls Try.prog 22 #[.int .i64 x] w fun e w' => e = .returned (.bool (Nc.fit x)) ∧ w' = w := by
  rcases Nc.fit_cases x with ⟨h, h0, h1⟩ | ⟨h, h0 | ⟨h0, h1⟩⟩
  · rw [h]
    clear h
    go_enter Try.func22, Try.ntmps22
    go_wp2
    go_ret
    exact ⟨rfl, rfl⟩
  · rw [h]
    have h2 : ¬ 0 ≤ x := by omega
    clear h
    go_enter Try.func22, Try.ntmps22
    go_wp2
    go_ret
    exact ⟨rfl, rfl⟩
  · rw [h]
    have h2 : 0 ≤ x := by omega
    have h3 : ¬ x ≤ 1099511627776 := by omega
    clear h
    go_enter Try.func22, Try.ntmps22
    go_wp2
    go_ret
    exact ⟨rfl, rfl⟩
theorem isNode_any (n k : Int) (w : World) : Calls Try.prog 21 #[.int .i64 n, .int .i64 k] w fun e w' => e = .returned (.bool (decide (0 ≤ k ∧ k < n))) ∧ w' = w := by
  by_cases h0 : 0 ≤ k
  · by_cases h1 : k < n
    · rw [show decide (0 ≤ k ∧ k < n) = true from by simp [h0, h1]]
      go_enter Try.func21, Try.ntmps21
      go_wp2
      go_ret
      exact ⟨rfl, rfl⟩
    · rw [show decide (0 ≤ k ∧ k < n) = false from by simp; omega]
      go_enter Try.func21, Try.ntmps21
      go_wp2
      go_ret
      exact ⟨rfl, rfl⟩
  · rw [show decide (0 ≤ k ∧ k < n) = false from by simp; omega]
    go_enter Try.func21, Try.ntmps21
    go_wp2
    go_ret
    exact ⟨rfl, rfl⟩
end Go.Proofs.Ytbjbfmdlkdiiaaa
