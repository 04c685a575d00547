/-
  post: New, has and find: what they answer at any post that stands for a list of letters; they turn nothing.
-/
import Derived.Test.YtlhobncpifklkaaRows
import Derived.Test.YtlhobncpifklkaaPPlain
import Derived.Test.YtlhobncpifklkaaPShelf
import Derived.WalkKit
import Derived.ProofKit
import Derived.BigQuiet
import Derived.WalkSmall
import Derived.Deep.QuietTactic
namespace Go.Proofs.Ytlhobncpifklkaa
open Go.RowKit Go.Shelf

theorem own : ownKnob Try.prog.godebug = none := by kernel_rfl
theorem laidOut : laidOutB Try.prog = true := by kernel_rfl

/-- The struct at block s is a post of so many nodes whose last number is 'last' and in which the letters ls wait; v is the slice that holds them. -/
structure PostAt (w : World) (s : Nat) (nodes last : Int) (v : Value) (ls : List Po.Lt) : Prop where
  block : w.heap[s]? = some (.cells #[.int .i64 nodes, .int .i64 last, v] 84 (0, 0))
  row : w.ownsRow (s + 1) 88 4 v ls.length (Po.cells ls)
  good : Po.Good last ls

/-- Nothing has turned but the struct at block s, the row of v, and new blocks. -/
structure Turns (w w' : World) (s : Nat) (v : Value) : Prop where
  os : w'.os = w.os
  tape : w'.tape = w.tape
  output : w'.output = w.output
  size : w.heap.size ≤ w'.heap.size
  block : ∀ k, k < w.heap.size → k ≠ s → some k ≠ v.ownBlock → w'.heap[k]? = w.heap[k]?
/-- Where the new slice lies: where the old one lay, or in a new block. -/
def Moves (w : World) (v v' : Value) : Prop := v'.ownBlock = v.ownBlock ∨ ∀ j, v'.ownBlock = some j → w.heap.size ≤ j

theorem grown_refl (w : World) (row : Option Nat) : w.grownBy w row := ⟨rfl, rfl, rfl, Nat.le_refl _, fun _ _ _ => rfl⟩
theorem grown_trans {a b c : World} {row : Option Nat} (h : a.grownBy b row) (k : b.grownBy c row) : a.grownBy c row :=
  ⟨k.os.trans h.os, k.tape.trans h.tape, k.output.trans h.output, Nat.le_trans h.size k.size, fun i hi hr => (k.block i (Nat.lt_of_lt_of_le hi h.size) hr).trans (h.block i hi hr)⟩
theorem grown_of_below {w w' : World} (h : Below w.heap.size w w') (row : Option Nat) : w.grownBy w' row := ⟨h.os, h.tape, h.output, h.size, fun k hk _ => h.block k hk⟩
theorem below_none {B : Nat} {w w' : World} (h : w.grownBy w' none) (hs : B ≤ w.heap.size) : Below B w w' := (Below.refl B w).grown h hs (fun k hk => by cases hk)
theorem Turns.of_grown {w w' : World} {s : Nat} {v : Value} (h : w.grownBy w' none) : Turns w w' s v := ⟨h.os, h.tape, h.output, h.size, fun k hk _ _ => h.block k hk (by simp)⟩
theorem Turns.refl (w : World) (s : Nat) (v : Value) : Turns w w s v := ⟨rfl, rfl, rfl, Nat.le_refl _, fun _ _ _ _ => rfl⟩
theorem Moves.refl (w : World) (v : Value) : Moves w v v := .inl rfl
theorem Turns.trans {a b c : World} {s : Nat} {v v' : Value} (h : Turns a b s v) (hm : Moves a v v') (k : Turns b c s v') : Turns a c s v :=
  ⟨k.os.trans h.os, k.tape.trans h.tape, k.output.trans h.output, Nat.le_trans h.size k.size, fun i hi hs hv => by
    refine (k.block i (Nat.lt_of_lt_of_le hi h.size) hs ?_).trans (h.block i hi hs hv)
    intro e
    rcases hm with hm | hm
    · rw [hm] at e
      exact hv e
    · have := hm i e.symm
      omega⟩
theorem Moves.trans {a b : World} {v v' v'' : Value} (h : Moves a v v') (hs : a.heap.size ≤ b.heap.size) (k : Moves b v' v'') : Moves a v v'' := by
  rcases k with k | k
  · rcases h with h | h
    · exact .inl (k.trans h)
    · exact .inr fun j hj => h j (by rw [← k]; exact hj)
  · exact .inr fun j hj => Nat.le_trans hs (k j hj)
theorem PostAt.lt {w : World} {s : Nat} {nodes last : Int} {v : Value} {ls : List Po.Lt} (h : PostAt w s nodes last v ls) : s < w.heap.size := (Array.getElem?_eq_some_iff.1 h.block).1
theorem PostAt.below {w w' : World} {s B : Nat} {nodes last : Int} {v : Value} {ls : List Po.Lt} (h : PostAt w s nodes last v ls) (ht : Turns w w' s v) (hB : B ≤ s) : Below B w w' :=
  ⟨ht.os, ht.tape, ht.output, ht.size, fun k hk => ht.block k (by have := h.lt; omega) (by omega) (fun e => by have := (h.row.lt k e.symm).1; omega)⟩
theorem PostAt.kept {w w' : World} {s : Nat} {nodes last : Int} {v : Value} {ls : List Po.Lt} {row : Option Nat} (h : PostAt w s nodes last v ls) (hg : w.grownBy w' row) (h1 : some s ≠ row) (h2 : v.ownBlock = none ∨ v.ownBlock ≠ row) : PostAt w' s nodes last v ls :=
  ⟨(hg.block s h.lt h1).trans h.block, h.row.kept hg h2, h.good⟩
theorem PostAt.still {w w' : World} {s : Nat} {nodes last : Int} {v : Value} {ls : List Po.Lt} (h : PostAt w s nodes last v ls) (hg : w.grownBy w' none) : PostAt w' s nodes last v ls :=
  h.kept hg (by simp) (by cases hv : v.ownBlock <;> simp)
theorem PostAt.drew {w : World} {s : Nat} {nodes last : Int} {v : Value} {ls : List Po.Lt} (h : PostAt w s nodes last v ls) : PostAt w.drew s nodes last v ls := ⟨h.block, h.row, h.good⟩
theorem PostAt.cells {w : World} {s : Nat} {nodes last : Int} {v : Value} {ls : List Po.Lt} (h : PostAt w s nodes last v ls) : w.cell? ⟨s, 0, none⟩ = some (.int .i64 nodes) ∧ w.cell? ⟨s, 1, none⟩ = some (.int .i64 last) ∧ w.cell? ⟨s, 2, none⟩ = some v := by
  refine ⟨?_, ?_, ?_⟩ <;> simp [World.cell?, h.block]
theorem PostAt.free {w : World} {s : Nat} {nodes last : Int} {v : Value} {ls : List Po.Lt} (h : PostAt w s nodes last v ls) (o : Nat) : w.frozen? ⟨s, o, none⟩ = false := by
  simp [World.frozen?, h.block]

theorem new_arg {n : Int} (w : World) (h : n < 1 ∨ 32 < n) : Calls Try.prog 22 #[.int .i64 n] w fun e w' => e = .returned (.tuple #[.pointer none, .int .i64 1]) ∧ w' = w := by
  by_cases h1 : n < 1
  · clear h
    go_enter Try.func22, Try.ntmps22
    go_wp2
    go_ret2
    exact ⟨rfl, rfl⟩
  · have h2 : 32 < n := by omega
    clear h
    go_enter Try.func22, Try.ntmps22
    go_wp2
    go_ret2
    exact ⟨rfl, rfl⟩
theorem new_ok {n : Int} (w : World) (h1 : ¬ n < 1) (h2 : ¬ 32 < n) : Calls Try.prog 22 #[.int .i64 n] w fun e w' => e = .returned (.tuple #[.pointer (some ⟨w.heap.size, 0, none⟩), .int .i64 0]) ∧ PostAt w' w.heap.size n 0 (.slice none 0 0) [] ∧ w.grownBy w' none := by
  go_enter Try.func22, Try.ntmps22
  go_wp2
  go_ret2
  exact ⟨rfl, ⟨heap_alloc_new _ _, World.ownsRow_nil _ _ _ _, Po.good_nil⟩, World.grownBy_alloc _ _ _⟩

abbrev isNode (nodes x : Int) : Prop := 0 ≤ x ∧ x < nodes
theorem has_nil (x : Int) (w : World) : Calls Try.prog 48 #[.pointer none, .int .i64 x] w fun e w' => e = .returned (.bool false) ∧ w' = w := by
  go_enter Try.func48, Try.ntmps48
  go_wp2
  go_ret
  exact ⟨rfl, rfl⟩
theorem has_any {s : Nat} {nodes last : Int} {v : Value} {ls : List Po.Lt} (x : Int) (w : World) (h : PostAt w s nodes last v ls) : Calls Try.prog 48 #[.pointer (some ⟨s, 0, none⟩), .int .i64 x] w fun e w' => e = .returned (.bool (decide (isNode nodes x))) ∧ w' = w := by
  obtain ⟨c0, _, _⟩ := h.cells
  clear h
  by_cases h1 : 0 ≤ x
  · by_cases h2 : x < nodes
    · have e : decide (isNode nodes x) = true := by simp [isNode, h1, h2]
      rw [e]
      clear e
      go_enter Try.func48, Try.ntmps48
      go_wp2
      go_ret
      exact ⟨rfl, rfl⟩
    · have e : decide (isNode nodes x) = false := by simp [isNode, h1, h2]
      rw [e]
      clear e
      go_enter Try.func48, Try.ntmps48
      go_wp2
      go_ret
      exact ⟨rfl, rfl⟩
  · have e : decide (isNode nodes x) = false := by simp [isNode, h1]
    rw [e]
    clear e
    go_enter Try.func48, Try.ntmps48
    go_wp2
    go_ret
    exact ⟨rfl, rfl⟩

set_option maxHeartbeats 1000000 in
/-- find's own closure. -/
theorem closure_any {bp bn s g cap n : Nat} {x : Int} (i : Nat) (y : Int) (W : World) (hi : i < n) (hp : W.cell? ⟨bp, 0, none⟩ = some (.pointer (some ⟨s, 0, none⟩))) (hn : W.cell? ⟨bn, 0, none⟩ = some (.int .i64 x)) (h2 : W.cell? ⟨s, 2, none⟩ = some (.slice (some ⟨g, 0, none⟩) n cap)) (hc : W.cell? ⟨g, i * 4, none⟩ = some (.int .i64 y)) :
    Calls Try.prog 58 (#[.int .i64 i] ++ #[.pointer (some ⟨bp, 0, none⟩), .pointer (some ⟨bn, 0, none⟩)]) W fun e w' => e = .returned (.bool (decide (x ≤ y))) ∧ ∃ q, w' = W.drewN q := by
  have hiz : (i : Int) < (n : Int) := by omega
  have hi0 : (0 : Int) ≤ (i : Int) := by omega
  change Calls Try.prog 58 #[.int .i64 i, .pointer (some ⟨bp, 0, none⟩), .pointer (some ⟨bn, 0, none⟩)] W _
  go_enter Try.func58, Try.ntmps58
  go_wp2
  go_quiet (fail)
  go_wp2
  go_ret
  exact ⟨rfl, _, rfl⟩

theorem find_nil (x : Int) (w : World) : Calls Try.prog 50 #[.pointer none, .int .i64 x] w fun e w' => e = .returned (.tuple #[.int .i64 0, .bool false]) ∧ w.grownBy w' none := by
  go_enter Try.func50, Try.ntmps50
  go_wp2
  go_ret2
  exact ⟨rfl, grown_trans (World.grownBy_alloc _ _ _) (World.grownBy_alloc _ _ _)⟩

theorem grown_of_grow (W : World) (q : Nat) (os : Array Obj) : W.grownBy (Go.Sort.grow (W.drewN q) os) none :=
  grown_of_below (below_grown_sl W.heap.size W q os (Nat.le_refl _)) none

theorem grown_drew {w W : World} (h : w.grownBy W none) (q : Nat) : w.grownBy (W.drewN q) none := ⟨h.os, h.tape, h.output, h.size, h.block⟩

set_option maxHeartbeats 1000000 in
set_option maxRecDepth 100000 in
theorem find_none {s : Nat} {nodes last : Int} (x : Int) (w : World) (h : PostAt w s nodes last (.slice none 0 0) []) : Calls Try.prog 50 #[.pointer (some ⟨s, 0, none⟩), .int .i64 x] w fun e w' => e = .returned (.tuple #[.int .i64 0, .bool false]) ∧ w.grownBy w' none := by
  obtain ⟨_, _, c2⟩ := h.cells
  have hs := h.lt
  obtain ⟨W0, hW0⟩ : ∃ W0, W0 = (w.alloc (.cells #[.pointer (some ⟨s, 0, none⟩)] 59)).alloc (.cells #[.int .i64 x] 3) := ⟨_, rfl⟩
  have hg0 : w.grownBy W0 none := by rw [hW0]; exact grown_trans (World.grownBy_alloc _ _ _) (World.grownBy_alloc _ _ _)
  have hp0 : W0.cell? ⟨w.heap.size, 0, none⟩ = some (.pointer (some ⟨s, 0, none⟩)) := by rw [hW0]; exact cell_alloc_sl _ (cell_new_sl w _ _)
  have c20 := hg0.cell c2 (by simp)
  have eg : ∀ args w, (callFunc 58 args).run Try.prog w = .ok (.enter 58 args) w := enters_of Try.func58 (by kernel_rfl) rfl
  have hS := Any.sort_Search Lay.searchL 58 #[.pointer (some ⟨w.heap.size, 0, none⟩), .pointer (some ⟨w.heap.size + 1, 0, none⟩)] 0 (fun _ => true) W0 eg (by omega) (fun m os i hi => absurd hi (Nat.not_lt_zero _)) (fun a b hab hb _ => rfl)
  change Calls Try.prog 57 _ _ _ at hS
  simp only [List.range_zero, List.countP_nil] at hS
  have HG0 : Hid (w.grownBy W0 none) := hg0
  clear h hg0
  have HW0 : Hid (W0 = (w.alloc (.cells #[.pointer (some ⟨s, 0, none⟩)] 59)).alloc (.cells #[.int .i64 x] 3)) := hW0
  clear hW0
  go_enter Try.func50, Try.ntmps50
  go_wp2_with (go_at_call 57; rw [← HW0.out]; refine hS.mono ?_; rintro e w' ⟨rfl, q, os, rfl⟩)
  have hg1 := grown_of_grow W0 q os
  have p1 := hg1.cell hp0 (by simp)
  have q1 := hg1.cell c20 (by simp)
  have HG1 : Hid (w.grownBy (Go.Sort.grow (W0.drewN q) os) none) := grown_trans HG0.out hg1
  generalize Go.Sort.grow (W0.drewN q) os = W1 at *
  clear hg1 hS
  have hd : decide ((0 : Int) < (0 : Int)) = false := by decide
  go_quiet (fail)
  go_wp2
  go_ret2
  exact ⟨rfl, grown_drew HG1.out _⟩

set_option maxHeartbeats 2000000 in
set_option maxRecDepth 100000 in
theorem find_row {s g cap : Nat} {nodes last : Int} {ls : List Po.Lt} (x : Int) (w : World) (h : PostAt w s nodes last (.slice (some ⟨g, 0, none⟩) ls.length cap) ls) :
    Calls Try.prog 50 #[.pointer (some ⟨s, 0, none⟩), .int .i64 x] w fun e w' => e = .returned (.tuple #[.int .i64 (Po.pos ls x), .bool (Po.get ls x).isSome]) ∧ w.grownBy w' none := by
  obtain ⟨_, _, c2⟩ := h.cells
  have hs := h.lt
  have hsorted := h.good.sorted
  have hlen := h.good.len
  have hrow : ∀ i, i < ls.length → w.cell? ⟨g, i * 4, none⟩ = some (.int .i64 (ls.getD i Po.d0).1) := fun i hi => by
    have := h.row.cells (g := g) rfl _ _ (Po.cells_at ls i hi).1
    rw [Go.WideShapes.add_plain, Nat.zero_add] at this
    exact this
  obtain ⟨W0, hW0⟩ : ∃ W0, W0 = (w.alloc (.cells #[.pointer (some ⟨s, 0, none⟩)] 59)).alloc (.cells #[.int .i64 x] 3) := ⟨_, rfl⟩
  have hg0 : w.grownBy W0 none := by rw [hW0]; exact grown_trans (World.grownBy_alloc _ _ _) (World.grownBy_alloc _ _ _)
  have hp0 : W0.cell? ⟨w.heap.size, 0, none⟩ = some (.pointer (some ⟨s, 0, none⟩)) := by rw [hW0]; exact cell_alloc_sl _ (cell_new_sl w _ _)
  have hn0 : W0.cell? ⟨w.heap.size + 1, 0, none⟩ = some (.int .i64 x) := by rw [hW0]; have := cell_new_sl (w.alloc (.cells #[.pointer (some ⟨s, 0, none⟩)] 59)) (.int .i64 x) 3; rwa [World.size_alloc] at this
  have c20 := hg0.cell c2 (by simp)
  have hr0 : ∀ i, i < ls.length → W0.cell? ⟨g, i * 4, none⟩ = some (.int .i64 (ls.getD i Po.d0).1) := fun i hi => hg0.cell (hrow i hi) (by simp)
  have eg : ∀ args w, (callFunc 58 args).run Try.prog w = .ok (.enter 58 args) w := enters_of Try.func58 (by kernel_rfl) rfl
  have hS := Any.sort_Search Lay.searchL 58 #[.pointer (some ⟨w.heap.size, 0, none⟩), .pointer (some ⟨w.heap.size + 1, 0, none⟩)] ls.length (fun i => decide (x ≤ (ls.getD i Po.d0).1)) W0 eg (by omega)
    (fun m os i hi => by
      have hg := grown_of_grow W0 m os
      exact (closure_any i (ls.getD i Po.d0).1 _ hi (hg.cell hp0 (by simp)) (hg.cell hn0 (by simp)) (hg.cell c20 (by simp)) (hg.cell (hr0 i hi) (by simp))).mono fun _ _ ⟨he, q, hq⟩ => ⟨he, q, #[], by rw [hq, Go.Sort.grow_empty]⟩)
    (Po.mono_at hsorted x)
  change Calls Try.prog 57 _ _ _ at hS
  rw [Po.count_range ls (fun y => !decide (x ≤ y.1))] at hS
  change Calls Try.prog 57 _ W0 (fun e w' => e = .returned (.int .i64 ((Po.pos ls x : Nat) : Int)) ∧ _) at hS
  have hpl := Po.pos_le ls x
  have HG0 : Hid (w.grownBy W0 none) := hg0
  have HW0 : Hid (W0 = (w.alloc (.cells #[.pointer (some ⟨s, 0, none⟩)] 59)).alloc (.cells #[.int .i64 x] 3)) := hW0
  have HS : Hid (ls.Pairwise (fun x y => x.1 < y.1)) := hsorted
  clear h hg0 hrow hW0 hsorted
  generalize hk : Po.pos ls x = k at hS hpl ⊢
  have HK : Hid (Po.pos ls x = k) := hk
  clear hk
  generalize hb : (Po.get ls x).isSome = bb
  have HBB : Hid ((Po.get ls x).isSome = bb) := hb
  clear hb
  obtain ⟨n, hn⟩ : ∃ n, ls.length = n := ⟨_, rfl⟩
  rw [hn] at hlen hr0 hS hpl c2 c20
  have HN : Hid (ls.length = n) := hn
  clear hn
  go_enter Try.func50, Try.ntmps50
  go_wp2_with (go_at_call 57; rw [← HW0.out]; refine hS.mono ?_; rintro e w' ⟨rfl, q, os, rfl⟩)
  have hg1 := grown_of_grow W0 q os
  have p1 := hg1.cell hp0 (by simp)
  have p2 := hg1.cell hn0 (by simp)
  have q1 := hg1.cell c20 (by simp)
  have HG1 : Hid (w.grownBy (Go.Sort.grow (W0.drewN q) os) none) := grown_trans HG0.out hg1
  by_cases hlt : k < n
  · have q2 := hg1.cell (hr0 k hlt) (by simp)
    have E : Hid (bb = decide ((ls.getD k Po.d0).1 = x)) := by
      have : bb = decide ((ls.getD k Po.d0).1 = x) := by
        rw [← HBB.out, ← HK.out]
        cases hx : Po.get ls x with
        | none =>
          have := Po.pos_none hx (by rw [HK.out, HN.out]; exact hlt)
          simpa using this
        | some y =>
          have h1 := (Po.pos_get HS.out hx).2
          rw [h1]
          simpa using (Po.get_mem hx).2
      exact this
    generalize (ls.getD k Po.d0).1 = y at q2 E
    generalize Go.Sort.grow (W0.drewN q) os = W1 at *
    clear hg1 hS hr0 hp0 hn0 c20 c2
    have hd : decide ((k : Int) < (n : Int)) = true := by simp; omega
    have hlt' : (k : Int) < (n : Int) := by omega
    have hk0 : (0 : Int) ≤ (k : Int) := by omega
    go_quiet (fail)
    go_wp2
    go_ret2
    rw [E.out]
    exact ⟨by first | rfl | simp, grown_drew HG1.out _⟩
  · have E : Hid (bb = false) := by
      have : bb = false := by
        rw [← HBB.out]
        cases hx : Po.get ls x with
        | none => rfl
        | some y =>
          have h1 := (Po.pos_get HS.out hx).1
          rw [HK.out, HN.out] at h1
          exact absurd h1 hlt
      exact this
    generalize Go.Sort.grow (W0.drewN q) os = W1 at *
    clear hg1 hS hr0 hp0 hn0 c20 c2
    have hd : decide ((k : Int) < (n : Int)) = false := by simp; omega
    go_quiet (fail)
    go_wp2
    go_ret2
    rw [E.out]
    exact ⟨rfl, grown_drew HG1.out _⟩
/-- find, at any post. -/
theorem find_any {s : Nat} {nodes last : Int} {v : Value} {ls : List Po.Lt} (x : Int) (w : World) (h : PostAt w s nodes last v ls) :
    Calls Try.prog 50 #[.pointer (some ⟨s, 0, none⟩), .int .i64 x] w fun e w' => e = .returned (.tuple #[.int .i64 (Po.pos ls x), .bool (Po.get ls x).isSome]) ∧ w.grownBy w' none := by
  rcases h.row.2 with ⟨rfl, h0⟩ | ⟨g, cap, cur, rfl, _⟩
  · have e0 : ls = [] := List.eq_nil_of_length_eq_zero h0
    subst e0
    exact find_none x w h
  · exact find_row x w h
end Go.Proofs.Ytlhobncpifklkaa
