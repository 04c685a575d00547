/-
  The reference's post: New, node, add and Send, at any one that stands for a list of letters.
-/
import Derived.Test.YtlhobncpifklkaaPAdd
namespace Go.Proofs.Ytlhobncpifklkaa
namespace Rf
open Go.RowKit

/-- The struct at block s is a post of so many nodes whose last number is 'last' and in which the letters ls wait; v is the slice that holds them. -/
structure PostAt (w : World) (s : Nat) (nodes last : Int) (v : Value) (ls : List Po.Lt) : Prop where
  block : w.heap[s]? = some (.cells #[.int .i64 nodes, .int .i64 last, v] 70 (0, 0))
  row : w.ownsRow (s + 1) 72 4 v ls.length (Po.cells ls)
  good : Po.Good last ls

theorem PostAt.lt {w : World} {s : Nat} {nodes last : Int} {v : Value} {ls : List Po.Lt} (h : PostAt w s nodes last v ls) : s < w.heap.size := (Array.getElem?_eq_some_iff.1 h.block).1
theorem PostAt.below {w w' : World} {s B : Nat} {nodes last : Int} {v : Value} {ls : List Po.Lt} (h : PostAt w s nodes last v ls) (ht : Turns w w' s v) (hB : B ≤ s) : Below B w w' :=
  ⟨ht.os, ht.tape, ht.output, ht.size, fun k hk => ht.block k (by have := h.lt; omega) (by omega) (fun e => by have := (h.row.lt k e.symm).1; omega)⟩
theorem PostAt.kept {w w' : World} {s : Nat} {nodes last : Int} {v : Value} {ls : List Po.Lt} {row : Option Nat} (h : PostAt w s nodes last v ls) (hg : w.grownBy w' row) (h1 : some s ≠ row) (h2 : v.ownBlock = none ∨ v.ownBlock ≠ row) : PostAt w' s nodes last v ls :=
  ⟨(hg.block s h.lt h1).trans h.block, h.row.kept hg h2, h.good⟩
theorem PostAt.still {w w' : World} {s : Nat} {nodes last : Int} {v : Value} {ls : List Po.Lt} (h : PostAt w s nodes last v ls) (hg : w.grownBy w' none) : PostAt w' s nodes last v ls :=
  h.kept hg (by simp) (by cases hv : v.ownBlock <;> simp)
theorem PostAt.drew {w : World} {s : Nat} {nodes last : Int} {v : Value} {ls : List Po.Lt} (h : PostAt w s nodes last v ls) : PostAt w.drew s nodes last v ls := ⟨h.block, h.row, h.good⟩
theorem PostAt.cells {w : World} {s : Nat} {nodes last : Int} {v : Value} {ls : List Po.Lt} (h : PostAt w s nodes last v ls) : w.cell? ⟨s, 0, none⟩ = some (.int .i64 nodes) ∧ w.cell? ⟨s, 1, none⟩ = some (.int .i64 last) ∧ w.cell? ⟨s, 2, none⟩ = some v := by
  refine ⟨?_, ?_, ?_⟩ <;> simp [World.cell?, h.block]
theorem PostAt.free {w : World} {s : Nat} {nodes last : Int} {v : Value} {ls : List Po.Lt} (h : PostAt w s nodes last v ls) (o : Nat) : w.frozen? ⟨s, o, none⟩ = false := by
  simp [World.frozen?, h.block]

theorem new_arg {n : Int} (w : World) (h : n < 1 ∨ 32 < n) : Calls Try.prog 23 #[.int .i64 n] w fun e w' => e = .returned (.tuple #[.pointer none, .int .i64 1]) ∧ w' = w := by
  by_cases h1 : n < 1
  · clear h
    go_enter Try.func23, Try.ntmps23
    go_wp2
    go_ret2
    exact ⟨rfl, rfl⟩
  · have h2 : 32 < n := by omega
    clear h
    go_enter Try.func23, Try.ntmps23
    go_wp2
    go_ret2
    exact ⟨rfl, rfl⟩
theorem new_ok {n : Int} (w : World) (h1 : ¬ n < 1) (h2 : ¬ 32 < n) : Calls Try.prog 23 #[.int .i64 n] w fun e w' => e = .returned (.tuple #[.pointer (some ⟨w.heap.size, 0, none⟩), .int .i64 0]) ∧ PostAt w' w.heap.size n 0 (.slice none 0 0) [] ∧ w.grownBy w' none := by
  go_enter Try.func23, Try.ntmps23
  go_wp2
  go_ret2
  exact ⟨rfl, ⟨heap_alloc_new _ _, World.ownsRow_nil _ _ _ _, Po.good_nil⟩, World.grownBy_alloc _ _ _⟩

theorem has_any {s : Nat} {nodes last : Int} {v : Value} {ls : List Po.Lt} (x : Int) (w : World) (h : PostAt w s nodes last v ls) : Calls Try.prog 52 #[.pointer (some ⟨s, 0, none⟩), .int .i64 x] w fun e w' => e = .returned (.bool (decide (isNode nodes x))) ∧ w' = w := by
  obtain ⟨c0, _, _⟩ := h.cells
  clear h
  by_cases h1 : 0 ≤ x
  · by_cases h2 : x < nodes
    · have e : decide (isNode nodes x) = true := by simp [isNode, h1, h2]
      rw [e]
      clear e
      go_enter Try.func52, Try.ntmps52
      go_wp2
      go_ret
      exact ⟨rfl, rfl⟩
    · have e : decide (isNode nodes x) = false := by simp [isNode, h1, h2]
      rw [e]
      clear e
      go_enter Try.func52, Try.ntmps52
      go_wp2
      go_ret
      exact ⟨rfl, rfl⟩
  · have e : decide (isNode nodes x) = false := by simp [isNode, h1]
    rw [e]
    clear e
    go_enter Try.func52, Try.ntmps52
    go_wp2
    go_ret
    exact ⟨rfl, rfl⟩

theorem info72 : (Try.prog.info? 72).map (fun i => (i.zero, i.size, i.bytes)) = some (some (.agg #[.int .i64 0, .int .i64 0, .int .i64 0, .string ⟨#[]⟩]), 4, 40) := by kernel_rfl

theorem add_after {W w1 : World} {s b : Nat} {c0 c1 v x0 x1 x2 x3 : Value} {row : Option Nat} (h1 : W.heap[s]? = some (.cells #[c0, c1, v] 70 (0, 0))) (h2 : W.heap[b]? = some (.cells #[x0, x1, x2, x3] 72 (0, 0))) (hg : W.drew.grownBy w1 row) (hs : some s ≠ row) (hb : some b ≠ row) :
    w1.heap[s]? = some (.cells #[c0, c1, v] 70 (0, 0)) ∧ w1.cell? ⟨s, 2, none⟩ = some v ∧ w1.frozen? ⟨s, 2, none⟩ = false ∧ w1.cell? ⟨b, 0, none⟩ = some x0 := by
  have e1 := (hg.block s (Array.getElem?_eq_some_iff.1 h1).1 hs).trans h1
  have e2 := (hg.block b (Array.getElem?_eq_some_iff.1 h2).1 hb).trans h2
  refine ⟨e1, ?_, ?_, ?_⟩ <;> simp [World.cell?, World.frozen?, e1, e2]

theorem add_end {w W w1 : World} {s gg cap n : Nat} {nodes last : Int} {v : Value} {ls : List Po.Lt} {x1 x2 : Int} {x3 : ByteArray} {cs : List Value} (hT : Turns w W s v) (hg : W.drew.grownBy w1 v.ownBlock)
    (hbs : w1.heap[s]? = some (.cells #[.int .i64 nodes, .int .i64 (last + 1), v] 70 (0, 0))) (hown : w1.ownsRow (s + 1) 72 4 (.slice (some ⟨gg, 0, none⟩) (n + 1) cap) (n + 1) cs)
    (hat : v.ownBlock = some gg ∨ w.heap.size ≤ gg) (hG : Po.Good (last + 1) (ls ++ [(last + 1, x1, x2, x3)])) (hn : n = ls.length := by rfl) (hcs : cs = Po.cells ls ++ [.int .i64 (last + 1), .int .i64 x1, .int .i64 x2, .string x3] := by rfl) :
    PostAt (w1.setCell ⟨s, 2, none⟩ (.slice (some ⟨gg, 0, none⟩) (n + 1) cap)) s nodes (last + 1) (.slice (some ⟨gg, 0, none⟩) (n + 1) cap) (ls ++ [(last + 1, x1, x2, x3)]) ∧
      Turns w (w1.setCell ⟨s, 2, none⟩ (.slice (some ⟨gg, 0, none⟩) (n + 1) cap)) s v ∧ Moves w v (.slice (some ⟨gg, 0, none⟩) (n + 1) cap) := by
  subst hn hcs
  refine ⟨⟨?_, ?_, hG⟩, ⟨hg.os.trans hT.os, hg.tape.trans hT.tape, hg.output.trans hT.output, ?_, fun k hk hks hkv => ?_⟩, ?_⟩
  · simp [World.setCell, Array.getElem?_modify, hbs]
  · rw [Po.cells_append, Po.cells_one]
    have := owns_set hown 2 (.slice (some ⟨gg, 0, none⟩) (ls.length + 1) cap) rfl
    simpa using this
  · rw [show (w1.setCell ⟨s, 2, none⟩ (.slice (some ⟨gg, 0, none⟩) (ls.length + 1) cap)).heap.size = w1.heap.size by simp [World.setCell]]
    exact Nat.le_trans hT.size hg.size
  · rw [Below.heap_setCell _ _ _ _ hks]
    exact (hg.block k (Nat.lt_of_lt_of_le hk hT.size) hkv).trans (hT.block k hk hks hkv)
  · rcases hat with hat | hat
    · exact .inl hat.symm
    · exact .inr fun j hj => by simp [Value.ownBlock] at hj; omega

set_option maxHeartbeats 1000000 in
set_option maxRecDepth 100000 in
theorem add_full {s : Nat} {nodes last : Int} {v : Value} {ls : List Po.Lt} (x : Po.Lt) (w : World) (h : PostAt w s nodes last v ls) (hl : 2048 ≤ ls.length) : Calls Try.prog 53 #[.pointer (some ⟨s, 0, none⟩), letter x] w fun e w' => e = .returned (.tuple #[.int .i64 0, .int .i64 5]) ∧ w.grownBy w' none := by
  obtain ⟨_, _, c2⟩ := h.cells
  have hs := h.lt
  obtain ⟨m, hm⟩ : ∃ m, ls.length = m := ⟨_, rfl⟩
  have hmI : (2048 : Int) ≤ (m : Int) := by omega
  obtain ⟨x0, x1, x2, x3⟩ := x
  rcases h.row.2 with ⟨_, h0⟩ | ⟨g, cap, cur, rfl, _⟩
  · omega
  rw [hm] at c2
  unfold letter
  simp only
  clear h hm hl
  go_enter Try.func53, Try.ntmps53
  go_wp2
  go_ret2
  exact ⟨rfl, World.grownBy_alloc _ _ _⟩

set_option maxHeartbeats 1000000 in
set_option maxRecDepth 100000 in
theorem add_ok {s : Nat} {nodes last : Int} {v : Value} {ls : List Po.Lt} (x : Po.Lt) (w : World) (h : PostAt w s nodes last v ls) (hl : ls.length < 2048) (hlast : last < 4611686018427387904) (hb : x.2.2.2.size ≤ 65535) :
    Calls Try.prog 53 #[.pointer (some ⟨s, 0, none⟩), letter x] w fun e w' => ∃ v', e = .returned (.tuple #[.int .i64 (last + 1), .int .i64 0]) ∧ PostAt w' s nodes (last + 1) v' (ls ++ [(last + 1, x.2.1, x.2.2.1, x.2.2.2)]) ∧ Turns w w' s v ∧ Moves w v v' := by
  obtain ⟨i0, hi, hz0, hz1, hz2⟩ := info_parts info72
  obtain ⟨c0, c1, c2⟩ := h.cells
  have f1 := h.free 1
  have f2 := h.free 2
  have hs := h.lt
  have hz := h.good.zero
  obtain ⟨x0, x1, x2, x3⟩ := x
  simp only at hb ⊢
  have HP : Hid (PostAt w s nodes last v ls) := h
  have HG : Hid (Po.Good (last + 1) (ls ++ [(last + 1, x1, x2, x3)])) := h.good.add x1 x2 hb hl
  have hlen : ∃ p cp, v = .slice p ls.length cp := by
    rcases h.row.2 with ⟨rfl, h0⟩ | ⟨g, cap, cur, rfl, _⟩
    · exact ⟨_, _, by rw [h0]⟩
    · exact ⟨_, _, rfl⟩
  obtain ⟨p, cp, rfl⟩ := hlen
  have hlI : ¬ ((2048 : Int) ≤ (ls.length : Int)) := by omega
  unfold letter
  simp only
  clear h
  go_enter Try.func53, Try.ntmps53
  go_wp2_with fail
  have hblk : (w.setCell ⟨s, 1, none⟩ (.int .i64 (last + 1))).heap[s]? = some (.cells #[.int .i64 nodes, .int .i64 (last + 1), .slice p ls.length cp] 70 (0, 0)) := by
    simp [World.setCell, Array.getElem?_modify, HP.out.block]
  have hg1 : w.grownBy (w.setCell ⟨s, 1, none⟩ (.int .i64 (last + 1))) (some s) := ⟨rfl, rfl, rfl, by simp [World.setCell], fun k _ hne => Below.heap_setCell _ _ _ _ (fun e => hne (by rw [e]))⟩
  have hg2 := World.grownBy_alloc (w.setCell ⟨s, 1, none⟩ (.int .i64 (last + 1))) (.cells #[.int .i64 (last + 1), .int .i64 x1, .int .i64 x2, .string x3] 72) none
  have hrow1 := HP.out.row.kept hg1 (by
    rcases hv : (Value.slice p ls.length cp).ownBlock with _ | j
    · exact .inl rfl
    · have := (HP.out.row.lt j hv).1
      exact .inr (by simp; omega))
  have hbox := heap_alloc_new (w.setCell ⟨s, 1, none⟩ (.int .i64 (last + 1))) (.cells #[.int .i64 (last + 1), .int .i64 x1, .int .i64 x2, .string x3] 72)
  rw [show (w.setCell ⟨s, 1, none⟩ (.int .i64 (last + 1))).heap.size = w.heap.size by simp [World.setCell]] at hbox
  have hblk2 := (hg2.block s (by rw [show (w.setCell ⟨s, 1, none⟩ (.int .i64 (last + 1))).heap.size = w.heap.size by simp [World.setCell]]; exact hs) (by simp)).trans hblk
  have hrow2 := hrow1.alloc (.cells #[.int .i64 (last + 1), .int .i64 x1, .int .i64 x2, .string x3] 72)
  have hT : Turns w ((w.setCell ⟨s, 1, none⟩ (.int .i64 (last + 1))).alloc (.cells #[.int .i64 (last + 1), .int .i64 x1, .int .i64 x2, .string x3] 72)) s (.slice p ls.length cp) :=
    ⟨rfl, rfl, rfl, by simp [World.setCell], fun k hk hks _ => (hg2.block k (by rw [show (w.setCell ⟨s, 1, none⟩ (.int .i64 (last + 1))).heap.size = w.heap.size by simp [World.setCell]]; exact hk) (by simp)).trans (hg1.block k hk (by simpa using hks))⟩
  have hsz : ((w.setCell ⟨s, 1, none⟩ (.int .i64 (last + 1))).alloc (.cells #[.int .i64 (last + 1), .int .i64 x1, .int .i64 x2, .string x3] 72)).heap.size = w.heap.size + 1 := by simp [World.setCell]
  clear hg1 hg2 hrow1 hblk c0 c1 c2 f1 f2
  generalize ((w.setCell ⟨s, 1, none⟩ (.int .i64 (last + 1))).alloc (.cells #[.int .i64 (last + 1), .int .i64 x1, .int .i64 x2, .string x3] 72)) = W at *
  have c2 : W.cell? ⟨s, 2, none⟩ = some (.slice p ls.length cp) := by simp [World.cell?, hblk2]
  have f2 : W.frozen? ⟨s, 2, none⟩ = false := by simp [World.frozen?, hblk2]
  obtain ⟨⟨b0, b1, b2, b3⟩, bf⟩ := four_of hbox
  have HB2 : Hid (W.heap[s]? = some (.cells #[.int .i64 nodes, .int .i64 (last + 1), .slice p ls.length cp] 70 (0, 0))) := hblk2
  have HBX : Hid (W.heap[w.heap.size]? = some (.cells #[.int .i64 (last + 1), .int .i64 x1, .int .i64 x2, .string x3] 72 (0, 0))) := hbox
  have HT : Hid (Turns w W s (.slice p ls.length cp)) := hT
  have hsW : s + 1 ≤ W.heap.size := by omega
  have hnes : some s ≠ (Value.slice p ls.length cp).ownBlock := fun e => by have := (HP.out.row.lt s e.symm).1; omega
  have hneb : some w.heap.size ≠ (Value.slice p ls.length cp).ownBlock := fun e => by have := (HP.out.row.lt _ e.symm).2; omega
  clear hblk2 hbox hT bf
  go_region_law (refine step_append_lies _ rfl (.tmp 29) (.tmp 31) 68 rfl (s + 1) 72 i0 (.agg #[.int .i64 0, .int .i64 0, .int .i64 0, .string ⟨#[]⟩]) 4 40 Try.underlying68 hi hz0 hz1 hz2 rfl (by decide) _ ls.length _ (by simp [Act.eval]) ((hrow2.drew).alloc _) ⟨W.heap.size, 0, none⟩ 1 1 [.int .i64 (last + 1), .int .i64 x1, .int .i64 x2, .string x3] (by simp [Act.eval]) rfl (four_new _ _ rfl _ _ _ _ _) (Po.cells_one' [(last + 1, x1, x2, x3)]) (by decide) (by unfold maxLen; omega) (by omega) (by simp; omega) (W.heap.size + 1) (by simp) ?_; intro gg cap w1 hown1 hgrow hat hlt1; obtain ⟨hbs, cs2, fs2, cb0⟩ := add_after HB2.out HBX.out (grown_trans (row := (Value.slice p ls.length cp).ownBlock) (World.grownBy_alloc W.drew _ _) hgrow) hnes hneb)
  all_goals
    have HE := add_end HT.out (grown_trans (row := (Value.slice p ls.length cp).ownBlock) (World.grownBy_alloc W.drew _ _) hgrow) hbs hown1 (by rcases hat with hat | hat; exact .inl hat; exact .inr (by omega)) HG.out
    have HE2 : Hid (PostAt (w1.setCell ⟨s, 2, none⟩ (.slice (some ⟨gg, 0, none⟩) (ls.length + 1) cap)) s nodes (last + 1) (.slice (some ⟨gg, 0, none⟩) (ls.length + 1) cap) (ls ++ [(last + 1, x1, x2, x3)]) ∧ Turns w (w1.setCell ⟨s, 2, none⟩ (.slice (some ⟨gg, 0, none⟩) (ls.length + 1) cap)) s (.slice p ls.length cp) ∧ Moves w (.slice p ls.length cp) (.slice (some ⟨gg, 0, none⟩) (ls.length + 1) cap)) := HE
    have cl1 : w1.cell? ⟨s, 1, none⟩ = some (.int .i64 (last + 1)) := by simp [World.cell?, hbs]
    clear HE hown1 hgrow hrow2 hbs hat
    have hne0 : ¬ (w.heap.size = s) := by omega
    go_wp2
    go_ret2
    exact ⟨_, rfl, HE2.out⟩

theorem send_from {s : Nat} {nodes last : Int} {v : Value} {ls : List Po.Lt} (f t : Int) (b : ByteArray) (w : World) (h : PostAt w s nodes last v ls) (h1 : ¬ isNode nodes f) : Calls Try.prog 35 #[.pointer (some ⟨s, 0, none⟩), .int .i64 f, .int .i64 t, .string b] w fun e w' => e = .returned (.tuple #[.int .i64 0, .int .i64 1]) ∧ w' = w := by
  have HP : Hid (PostAt w s nodes last v ls) := h
  have E1 : Hid (decide (isNode nodes f) = false) := by
    have : decide (isNode nodes f) = false := by simp only [decide_eq_false_iff_not]; exact h1
    exact this
  clear h h1
  go_enter Try.func35, Try.ntmps35
  go_wp2_with fail
  refine (has_any _ _ HP.out).mono ?_
  rintro e w1 ⟨rfl, rfl⟩
  rw [E1.out]
  go_wp2
  go_ret2
  exact ⟨rfl, rfl⟩
theorem send_to {s : Nat} {nodes last : Int} {v : Value} {ls : List Po.Lt} (f t : Int) (b : ByteArray) (w : World) (h : PostAt w s nodes last v ls) (h1 : isNode nodes f) (h2 : ¬ isNode nodes t) : Calls Try.prog 35 #[.pointer (some ⟨s, 0, none⟩), .int .i64 f, .int .i64 t, .string b] w fun e w' => e = .returned (.tuple #[.int .i64 0, .int .i64 1]) ∧ w' = w := by
  have HP : Hid (PostAt w s nodes last v ls) := h
  have E1 : Hid (decide (isNode nodes f) = true) := by
    have : decide (isNode nodes f) = true := by simp only [decide_eq_true_eq]; exact h1
    exact this
  have E2 : Hid (decide (isNode nodes t) = false) := by
    have : decide (isNode nodes t) = false := by simp only [decide_eq_false_iff_not]; exact h2
    exact this
  clear h h1 h2
  go_enter Try.func35, Try.ntmps35
  go_wp2_with fail
  refine (has_any _ _ HP.out).mono ?_
  rintro e w1 ⟨rfl, rfl⟩
  rw [E1.out]
  go_wp2_with fail
  refine (has_any _ _ HP.out).mono ?_
  rintro e w1 ⟨rfl, rfl⟩
  rw [E2.out]
  go_wp2
  go_ret2
  exact ⟨rfl, rfl⟩
theorem send_long {s : Nat} {nodes last : Int} {v : Value} {ls : List Po.Lt} (f t : Int) (b : ByteArray) (w : World) (h : PostAt w s nodes last v ls) (h1 : isNode nodes f) (h2 : isNode nodes t) (h3 : 65535 < b.size) : Calls Try.prog 35 #[.pointer (some ⟨s, 0, none⟩), .int .i64 f, .int .i64 t, .string b] w fun e w' => e = .returned (.tuple #[.int .i64 0, .int .i64 2]) ∧ w' = w := by
  have HP : Hid (PostAt w s nodes last v ls) := h
  have E1 : Hid (decide (isNode nodes f) = true) := by
    have : decide (isNode nodes f) = true := by simp only [decide_eq_true_eq]; exact h1
    exact this
  have E2 : Hid (decide (isNode nodes t) = true) := by
    have : decide (isNode nodes t) = true := by simp only [decide_eq_true_eq]; exact h2
    exact this
  have h3' : (65535 : Int) < (b.size : Int) := by omega
  clear h h1 h2
  go_enter Try.func35, Try.ntmps35
  go_wp2_with fail
  refine (has_any _ _ HP.out).mono ?_
  rintro e w1 ⟨rfl, rfl⟩
  rw [E1.out]
  go_wp2_with fail
  refine (has_any _ _ HP.out).mono ?_
  rintro e w1 ⟨rfl, rfl⟩
  rw [E2.out]
  go_wp2
  go_ret2
  exact ⟨rfl, rfl⟩
theorem send_full {s : Nat} {nodes last : Int} {v : Value} {ls : List Po.Lt} (f t : Int) (b : ByteArray) (w : World) (h : PostAt w s nodes last v ls) (h1 : isNode nodes f) (h2 : isNode nodes t) (h3 : ¬ 65535 < b.size) (h4 : 2048 ≤ ls.length) : Calls Try.prog 35 #[.pointer (some ⟨s, 0, none⟩), .int .i64 f, .int .i64 t, .string b] w fun e w' => e = .returned (.tuple #[.int .i64 0, .int .i64 5]) ∧ w.grownBy w' none := by
  have HP : Hid (PostAt w s nodes last v ls) := h
  have H4 : Hid (2048 ≤ ls.length) := h4
  have E1 : Hid (decide (isNode nodes f) = true) := by
    have : decide (isNode nodes f) = true := by simp only [decide_eq_true_eq]; exact h1
    exact this
  have E2 : Hid (decide (isNode nodes t) = true) := by
    have : decide (isNode nodes t) = true := by simp only [decide_eq_true_eq]; exact h2
    exact this
  have h3' : ¬ (65535 : Int) < (b.size : Int) := by omega
  clear h h1 h2 h3 h4
  go_enter Try.func35, Try.ntmps35
  go_wp2_with fail
  refine (has_any _ _ HP.out).mono ?_
  rintro e w1 ⟨rfl, rfl⟩
  rw [E1.out]
  go_wp2_with fail
  refine (has_any _ _ HP.out).mono ?_
  rintro e w1 ⟨rfl, rfl⟩
  rw [E2.out]
  go_wp2_with fail
  refine (add_full (0, f, t, b) _ HP.out H4.out).mono ?_
  rintro e w2 ⟨rfl, hg⟩
  have HG : Hid (w1.grownBy w2 none) := hg
  clear hg
  go_wp2
  go_ret2
  exact ⟨rfl, HG.out⟩
theorem send_ok {s : Nat} {nodes last : Int} {v : Value} {ls : List Po.Lt} (f t : Int) (b : ByteArray) (w : World) (h : PostAt w s nodes last v ls) (hlast : last < 4611686018427387904) (h1 : isNode nodes f) (h2 : isNode nodes t) (h3 : ¬ 65535 < b.size) (h4 : ls.length < 2048) : Calls Try.prog 35 #[.pointer (some ⟨s, 0, none⟩), .int .i64 f, .int .i64 t, .string b] w fun e w' => ∃ v', e = .returned (.tuple #[.int .i64 (last + 1), .int .i64 0]) ∧ PostAt w' s nodes (last + 1) v' (ls ++ [(last + 1, f, t, b)]) ∧ Turns w w' s v ∧ Moves w v v' := by
  have HP : Hid (PostAt w s nodes last v ls) := h
  have H4 : Hid (ls.length < 2048 ∧ last < 4611686018427387904 ∧ b.size ≤ 65535) := ⟨h4, hlast, by omega⟩
  have E1 : Hid (decide (isNode nodes f) = true) := by
    have : decide (isNode nodes f) = true := by simp only [decide_eq_true_eq]; exact h1
    exact this
  have E2 : Hid (decide (isNode nodes t) = true) := by
    have : decide (isNode nodes t) = true := by simp only [decide_eq_true_eq]; exact h2
    exact this
  have h3' : ¬ (65535 : Int) < (b.size : Int) := by omega
  clear h h1 h2 h3 h4 hlast
  go_enter Try.func35, Try.ntmps35
  go_wp2_with fail
  refine (has_any _ _ HP.out).mono ?_
  rintro e w1 ⟨rfl, rfl⟩
  rw [E1.out]
  go_wp2_with fail
  refine (has_any _ _ HP.out).mono ?_
  rintro e w1 ⟨rfl, rfl⟩
  rw [E2.out]
  go_wp2_with fail
  refine (add_ok (0, f, t, b) _ HP.out H4.out.1 H4.out.2.1 H4.out.2.2).mono ?_
  rintro e w2 ⟨v', rfl, hp, ht, hm⟩
  have HR : Hid (PostAt w2 s nodes (last + 1) v' (ls ++ [(last + 1, f, t, b)]) ∧ Turns w1 w2 s v ∧ Moves w1 v v') := ⟨hp, ht, hm⟩
  clear hp ht hm
  go_wp2
  go_ret2
  exact ⟨_, rfl, HR.out⟩
/-- Send, at any post. -/
theorem send_any {s : Nat} {nodes last : Int} {v : Value} {ls : List Po.Lt} (f t : Int) (b : ByteArray) (w : World) (h : PostAt w s nodes last v ls) (hlast : last < 4611686018427387904) :
    Calls Try.prog 35 #[.pointer (some ⟨s, 0, none⟩), .int .i64 f, .int .i64 t, .string b] w fun e w' => ∃ v', e = .returned (.tuple #[.int .i64 (Po.sendNum nodes last ls f t b), .int .i64 (Po.sendErr nodes ls f t b)]) ∧ PostAt w' s nodes (Po.sendLast nodes last ls f t b) v' (Po.sendTo nodes last ls f t b) ∧ Turns w w' s v ∧ Moves w v v' := by
  unfold Po.sendNum Po.sendLast Po.sendTo
  by_cases h1 : isNode nodes f
  · by_cases h2 : isNode nodes t
    · by_cases h3 : 65535 < b.size
      · have e : Po.sendErr nodes ls f t b = 2 := by unfold Po.sendErr; rw [if_pos ⟨h1, h2⟩, if_pos h3]
        rw [e]
        exact (send_long f t b w h h1 h2 h3).mono fun _ _ ⟨he, hw⟩ => ⟨v, he, by subst hw; exact h, by subst hw; exact .refl _ _ _, .refl _ _⟩
      · by_cases h4 : 2048 ≤ ls.length
        · have e : Po.sendErr nodes ls f t b = 5 := by unfold Po.sendErr Po.addErr; rw [if_pos ⟨h1, h2⟩, if_neg h3, if_pos h4]
          rw [e]
          exact (send_full f t b w h h1 h2 h3 h4).mono fun _ _ ⟨he, hg⟩ => ⟨v, he, h.still hg, .of_grown hg, .refl _ _⟩
        · have e : Po.sendErr nodes ls f t b = 0 := by unfold Po.sendErr Po.addErr; rw [if_pos ⟨h1, h2⟩, if_neg h3, if_neg h4]
          rw [e]
          exact send_ok f t b w h hlast h1 h2 h3 (by omega)
    · have e : Po.sendErr nodes ls f t b = 1 := by unfold Po.sendErr; rw [if_neg (fun hh => h2 hh.2)]
      rw [e]
      exact (send_to f t b w h h1 h2).mono fun _ _ ⟨he, hw⟩ => ⟨v, he, by subst hw; exact h, by subst hw; exact .refl _ _ _, .refl _ _⟩
  · have e : Po.sendErr nodes ls f t b = 1 := by unfold Po.sendErr; rw [if_neg (fun hh => h1 hh.1)]
    rw [e]
    exact (send_from f t b w h h1).mono fun _ _ ⟨he, hw⟩ => ⟨v, he, by subst hw; exact h, by subst hw; exact .refl _ _ _, .refl _ _⟩

end Rf
end Go.Proofs.Ytlhobncpifklkaa
