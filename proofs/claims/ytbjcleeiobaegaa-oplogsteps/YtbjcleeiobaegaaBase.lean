/-
  oplog's small functions: New, Base, Last, at, reach, between, fresh: what they answer at any log that stands for a list of items.
-/
import Derived.Test.YtbjcleeiobaegaaRows
import Derived.Test.YtbjcleeiobaegaaRow
import Derived.WalkKit
import Derived.ProofKit
import Derived.BigQuiet
import Derived.WalkSmall
import Derived.WalkLawsBesides
import Derived.Deep.QuietTactic
import Derived.Deep.RegionLaw
namespace Go.Proofs.Ytbjcleeiobaegaa
open Go.RowKit

theorem own : ownKnob Try.prog.godebug = none := by kernel_rfl
theorem laidOut : laidOutB Try.prog = true := by kernel_rfl
theorem info32 : (Try.prog.info? 32).map (fun i => (i.zero, i.size, i.bytes)) = some (some (.agg #[.int .i64 0, .int .i64 0, .int .i64 0, .string ⟨#[]⟩]), 4, 40) := by kernel_rfl

/-- The struct at block s is a log that begins behind 'base' and has the items ls; v is the slice that holds them. -/
structure LogAt (w : World) (s : Nat) (base : Int) (v : Value) (ls : List Ol.It) : Prop where
  block : w.heap[s]? = some (.cells #[.int .i64 base, v] 58 (0, 0))
  row : Row w (s + 1) 32 v ls
  good : Ol.Good base ls
/-- Nothing has turned but the struct at block s, the row of v, and new blocks. -/
structure Turns (w w' : World) (s : Nat) (v : Value) : Prop where
  os : w'.os = w.os
  tape : w'.tape = w.tape
  output : w'.output = w.output
  size : w.heap.size ≤ w'.heap.size
  block : ∀ k, k < w.heap.size → k ≠ s → some k ≠ v.ownBlock → w'.heap[k]? = w.heap[k]?
/-- Where the new slice lies: where the old one lay, or in a new block. -/
def Moves (w : World) (v v' : Value) : Prop := v'.ownBlock = v.ownBlock ∨ ∀ j, v'.ownBlock = some j → w.heap.size ≤ j
theorem Turns.of_grown {w w' : World} {s : Nat} {v : Value} (h : w.grownBy w' none) : Turns w w' s v := ⟨h.os, h.tape, h.output, h.size, fun k hk _ _ => h.block k hk (by simp)⟩
theorem Turns.refl (w : World) (s : Nat) (v : Value) : Turns w w s v := ⟨rfl, rfl, rfl, Nat.le_refl _, fun _ _ _ _ => rfl⟩
theorem Moves.refl (w : World) (v : Value) : Moves w v v := .inl rfl
theorem Turns.trans {a b c : World} {s : Nat} {v v' : Value} (h : Turns a b s v) (hm : Moves a v v') (k : Turns b c s v') : Turns a c s v :=
  ⟨k.os.trans h.os, k.tape.trans h.tape, k.output.trans h.output, Nat.le_trans h.size k.size, fun i hi hs hv => by
    refine (k.block i (Nat.lt_of_lt_of_le hi h.size) hs ?_).trans (h.block i hi hs hv)
    intro e
    rcases hm with hm | hm
    · rw [hm] at e
      exact hv e
    · have := hm i e.symm
      omega⟩
theorem Moves.trans {a b : World} {v v' v'' : Value} (h : Moves a v v') (hs : a.heap.size ≤ b.heap.size) (k : Moves b v' v'') : Moves a v v'' := by
  rcases k with k | k
  · rcases h with h | h
    · exact .inl (k.trans h)
    · exact .inr fun j hj => h j (by rw [← k]; exact hj)
  · exact .inr fun j hj => Nat.le_trans hs (k j hj)
section
variable {w w' : World} {s : Nat} {base : Int} {v : Value} {ls : List Ol.It}
theorem LogAt.lt (h : LogAt w s base v ls) : s < w.heap.size := (Array.getElem?_eq_some_iff.1 h.block).1
theorem LogAt.below {B : Nat} (h : LogAt w s base v ls) (ht : Turns w w' s v) (hB : B ≤ s) : Below B w w' :=
  ⟨ht.os, ht.tape, ht.output, ht.size, fun k hk => ht.block k (by have := h.lt; omega) (by omega) (fun e => by have := (h.row.lt k e.symm).1; omega)⟩
theorem LogAt.kept {row : Option Nat} (h : LogAt w s base v ls) (hg : w.grownBy w' row) (h1 : some s ≠ row) (h2 : v.ownBlock = none ∨ v.ownBlock ≠ row) : LogAt w' s base v ls := ⟨(hg.block s h.lt h1).trans h.block, h.row.kept hg h2, h.good⟩
theorem LogAt.still (h : LogAt w s base v ls) (hg : w.grownBy w' none) : LogAt w' s base v ls := h.kept hg (by simp) (by cases hv : v.ownBlock <;> simp)
theorem LogAt.cells (h : LogAt w s base v ls) : w.cell? ⟨s, 0, none⟩ = some (.int .i64 base) ∧ w.cell? ⟨s, 1, none⟩ = some v := by
  refine ⟨?_, ?_⟩ <;> simp [World.cell?, h.block]
theorem LogAt.free (h : LogAt w s base v ls) (o : Nat) : w.frozen? ⟨s, o, none⟩ = false := by simp [World.frozen?, h.block]
end

theorem fits_yes {x : Int} (w : World) (h1 : 0 ≤ x) (h2 : x ≤ 1099511627776) : Calls Try.prog 25 #[.int .i64 x] w fun e w' => e = .returned (.bool true) ∧ w' = w := by
  go_enter Try.func25, Try.ntmps25
  go_wp2
  go_ret
  exact ⟨rfl, rfl⟩
theorem fits_no {x : Int} (w : World) (h : x < 0 ∨ 1099511627776 < x) : Calls Try.prog 25 #[.int .i64 x] w fun e w' => e = .returned (.bool false) ∧ w' = w := by
  rcases h with h | h
  · have h' : ¬ 0 ≤ x := by omega
    go_enter Try.func25, Try.ntmps25
    go_wp2
    go_ret
    exact ⟨rfl, rfl⟩
  · have h0 : 0 ≤ x := by omega
    have h' : ¬ x ≤ 1099511627776 := by omega
    go_enter Try.func25, Try.ntmps25
    go_wp2
    go_ret
    exact ⟨rfl, rfl⟩
theorem new_arg {n : Int} (w : World) (h : n < 0 ∨ 1099511627776 < n) : Calls Try.prog 7 #[.int .i64 n] w fun e w' => e = .returned (.tuple #[.pointer none, .int .i64 1]) ∧ w' = w := by
  have H : Hid (n < 0 ∨ 1099511627776 < n) := h
  clear h
  go_enter Try.func7, Try.ntmps7
  go_wp2_with fail
  refine (fits_no _ H.out).mono ?_
  rintro e w' ⟨rfl, rfl⟩
  go_wp2
  go_ret2
  exact ⟨rfl, rfl⟩
theorem new_ok {n : Int} (w : World) (h0 : 0 ≤ n) (h1 : n ≤ 1099511627776) : Calls Try.prog 7 #[.int .i64 n] w fun e w' => ∃ s, e = .returned (.tuple #[.pointer (some ⟨s, 0, none⟩), .int .i64 0]) ∧ w.heap.size ≤ s ∧ LogAt w' s n (.slice none 0 0) [] ∧ w.grownBy w' none := by
  go_enter Try.func7, Try.ntmps7
  go_wp2_with fail
  refine (fits_yes _ h0 h1).mono ?_
  rintro e w' ⟨rfl, rfl⟩
  go_wp2
  go_ret2
  exact ⟨w'.heap.size, rfl, Nat.le_refl _, ⟨heap_alloc_new _ _, Row.nil _ _ _, Ol.good_nil h0 h1⟩, World.grownBy_alloc _ _ _⟩
theorem base_nil (w : World) : Calls Try.prog 13 #[.pointer none] w fun e w' => e = .returned (.int .i64 0) ∧ w' = w := by
  go_enter Try.func13, Try.ntmps13
  go_wp2
  go_ret
  exact ⟨rfl, rfl⟩
theorem base_any {s : Nat} {base : Int} {v : Value} {ls : List Ol.It} (w : World) (h : LogAt w s base v ls) : Calls Try.prog 13 #[.pointer (some ⟨s, 0, none⟩)] w fun e w' => e = .returned (.int .i64 base) ∧ w' = w := by
  obtain ⟨c0, c1⟩ := h.cells
  clear h
  go_enter Try.func13, Try.ntmps13
  go_wp2
  go_ret
  exact ⟨rfl, rfl⟩
theorem last_nil (w : World) : Calls Try.prog 14 #[.pointer none] w fun e w' => e = .returned (.int .i64 0) ∧ w' = w := by
  go_enter Try.func14, Try.ntmps14
  go_wp2
  go_ret
  exact ⟨rfl, rfl⟩
theorem last_any {s : Nat} {base : Int} {v : Value} {ls : List Ol.It} (w : World) (h : LogAt w s base v ls) : Calls Try.prog 14 #[.pointer (some ⟨s, 0, none⟩)] w fun e w' => e = .returned (.int .i64 (base + ls.length)) ∧ ∃ q, w' = w.drewN q := by
  obtain ⟨c0, c1⟩ := h.cells
  obtain ⟨p, cp, rfl⟩ := h.row.slice
  have g0 := h.good.zero
  have g1 := h.good.top
  have g2 := h.good.len
  generalize ls.length = m at *
  clear h
  go_enter Try.func14, Try.ntmps14
  go_wp2
  go_quiet (fail)
  go_wp2
  go_ret
  exact ⟨rfl, _, rfl⟩
end Go.Proofs.Ytbjcleeiobaegaa
