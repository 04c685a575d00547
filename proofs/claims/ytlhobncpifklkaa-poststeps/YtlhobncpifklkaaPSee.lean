/-
  post: See: the letter of a number; it turns nothing.
-/
import Derived.Test.YtlhobncpifklkaaPFind
namespace Go.Proofs.Ytlhobncpifklkaa
open Go.RowKit

def letter (x : Po.Lt) : Value := .agg #[.int .i64 x.1, .int .i64 x.2.1, .int .i64 x.2.2.1, .string x.2.2.2]
def seeErr (o : Option Po.Lt) : Int := if o.isSome then 0 else 6

theorem four_of {w : World} {b : Nat} {x y z u : Value} {t : TypeId} (hb : w.heap[b]? = some (.cells #[x, y, z, u] t (0, 0))) : (w.cell? ⟨b, 0, none⟩ = some x ∧ w.cell? ⟨b, 1, none⟩ = some y ∧ w.cell? ⟨b, 2, none⟩ = some z ∧ w.cell? ⟨b, 3, none⟩ = some u) ∧ ∀ o, w.frozen? ⟨b, o, none⟩ = false := by
  refine ⟨⟨?_, ?_, ?_, ?_⟩, fun o => ?_⟩ <;> simp [World.cell?, World.frozen?, hb]
theorem row_at {w : World} {base g cap : Nat} {ls : List Po.Lt} (h : w.ownsRow base 88 4 (.slice (some ⟨g, 0, none⟩) ls.length cap) ls.length (Po.cells ls)) {i : Nat} (hi : i < ls.length) :
    w.cell? ⟨g, i * 4, none⟩ = some (.int .i64 (ls.getD i Po.d0).1) ∧ w.cell? ⟨g, i * 4 + 1, none⟩ = some (.int .i64 (ls.getD i Po.d0).2.1) ∧ w.cell? ⟨g, i * 4 + 2, none⟩ = some (.int .i64 (ls.getD i Po.d0).2.2.1) ∧ w.cell? ⟨g, i * 4 + 3, none⟩ = some (.string (ls.getD i Po.d0).2.2.2) := by
  obtain ⟨h0, h1, h2, h3⟩ := Po.cells_at ls i hi
  have q0 := h.cells (g := g) rfl _ _ h0
  have q1 := h.cells (g := g) rfl _ _ h1
  have q2 := h.cells (g := g) rfl _ _ h2
  have q3 := h.cells (g := g) rfl _ _ h3
  rw [Go.WideShapes.add_plain, Nat.zero_add] at q0 q1 q2 q3
  exact ⟨q0, q1, q2, q3⟩

theorem grown_set {w W : World} (h : w.grownBy W none) {a : Addr} (ha : w.heap.size ≤ a.block) (u : Value) : w.grownBy (W.setCell a u) none :=
  ⟨h.os, h.tape, h.output, by rw [show (W.setCell a u).heap.size = W.heap.size by simp [World.setCell]]; exact h.size, fun k hk hn => (Below.heap_setCell _ _ _ _ (by omega)).trans (h.block k hk hn)⟩
abbrev Z4 : Obj := .cells #[.int .i64 0, .int .i64 0, .int .i64 0, .string ⟨#[]⟩] 88

set_option maxHeartbeats 1000000 in
set_option maxRecDepth 100000 in
theorem see_nil (n : Int) (w : World) : Calls Try.prog 42 #[.pointer none, .int .i64 n] w fun e w' => e = .returned (.tuple #[letter Po.d0, .int .i64 6]) ∧ w.grownBy w' none := by
  go_enter Try.func42, Try.ntmps42
  go_wp2_with fail
  refine (find_nil n _).mono ?_
  rintro e w2 ⟨rfl, hg⟩
  have hA : w2.heap[w.heap.size]? = some Z4 := (hg.block w.heap.size (by simp) (by simp)).trans (heap_alloc_new _ _)
  obtain ⟨⟨a0, a1, a2, a3⟩, af⟩ := four_of hA
  have HG : Hid (w.grownBy w2 none) := grown_trans (World.grownBy_alloc _ _ _) hg
  clear hg hA
  go_wp2
  (try simp only [Exit.inBlock, Exit.then])
  refine bodyPost_ret (v := .tuple #[letter Po.d0, .int .i64 6]) ?_ rfl ⟨rfl, ?_⟩
  · rw [results_cell_tmp rfl]
    unfold letter
    go_simp
  · exact grown_set (grown_set (grown_set (grown_set HG.out (Nat.le_refl _) _) (Nat.le_refl _) _) (Nat.le_refl _) _) (Nat.le_refl _) _

set_option maxHeartbeats 1000000 in
set_option maxRecDepth 100000 in
theorem see_none {s : Nat} {nodes last : Int} {v : Value} {ls : List Po.Lt} (n : Int) (w : World) (h : PostAt w s nodes last v ls) (hg : Po.get ls n = none) : Calls Try.prog 42 #[.pointer (some ⟨s, 0, none⟩), .int .i64 n] w fun e w' => e = .returned (.tuple #[letter Po.d0, .int .i64 6]) ∧ w.grownBy w' none := by
  have HP : Hid (PostAt w s nodes last v ls) := h
  have HN : Hid (Po.get ls n = none) := hg
  clear h hg
  go_enter Try.func42, Try.ntmps42
  go_wp2_with fail
  refine (find_any n _ (HP.out.still (World.grownBy_alloc _ _ _))).mono ?_
  rintro e w2 ⟨rfl, hg⟩
  rw [HN.out]
  have hA : w2.heap[w.heap.size]? = some Z4 := (hg.block w.heap.size (by simp) (by simp)).trans (heap_alloc_new _ _)
  obtain ⟨⟨a0, a1, a2, a3⟩, af⟩ := four_of hA
  have HG : Hid (w.grownBy w2 none) := grown_trans (World.grownBy_alloc _ _ _) hg
  clear hg hA
  go_wp2
  (try simp only [Exit.inBlock, Exit.then])
  refine bodyPost_ret (v := .tuple #[letter Po.d0, .int .i64 6]) ?_ rfl ⟨rfl, ?_⟩
  · rw [results_cell_tmp rfl]
    unfold letter
    go_simp
  · exact grown_set (grown_set (grown_set (grown_set HG.out (Nat.le_refl _) _) (Nat.le_refl _) _) (Nat.le_refl _) _) (Nat.le_refl _) _

set_option maxHeartbeats 1000000 in
set_option maxRecDepth 100000 in
theorem see_some {s : Nat} {nodes last : Int} {v : Value} {ls : List Po.Lt} {x : Po.Lt} (n : Int) (w : World) (h : PostAt w s nodes last v ls) (hg : Po.get ls n = some x) : Calls Try.prog 42 #[.pointer (some ⟨s, 0, none⟩), .int .i64 n] w fun e w' => e = .returned (.tuple #[letter x, .int .i64 0]) ∧ w.grownBy w' none := by
  have HP : Hid (PostAt w s nodes last v ls) := h
  obtain ⟨hlt, hgd⟩ := Po.pos_get h.good.sorted hg
  have HN : Hid ((Po.get ls n).isSome = true) := by rw [hg]; exact rfl
  clear hg
  rcases h.row.2 with ⟨_, h0⟩ | ⟨g, cap, cur, rfl, _⟩
  · omega
  clear h
  go_enter Try.func42, Try.ntmps42
  go_wp2_with fail
  refine (find_any n _ (HP.out.still (World.grownBy_alloc _ _ _))).mono ?_
  rintro e w2 ⟨rfl, hg⟩
  rw [HN.out]
  have hA : w2.heap[w.heap.size]? = some Z4 := (hg.block w.heap.size (by simp) (by simp)).trans (heap_alloc_new _ _)
  obtain ⟨⟨a0, a1, a2, a3⟩, af⟩ := four_of hA
  have hgw := grown_trans (World.grownBy_alloc w Z4 none) hg
  have hp2 := HP.out.still hgw
  have HG : Hid (w.grownBy w2 none) := hgw
  obtain ⟨_, _, c2⟩ := hp2.cells
  obtain ⟨r0, r1, r2, r3⟩ := row_at hp2.row hlt
  rw [hgd] at r0 r1 r2 r3
  generalize Po.pos ls n = k at *
  obtain ⟨m, hm⟩ : ∃ m, ls.length = m := ⟨_, rfl⟩
  rw [hm] at hlt c2
  have hkI : (k : Int) < (m : Int) := by omega
  obtain ⟨x0, x1, x2, x3⟩ := x
  simp only at r0 r1 r2 r3
  clear hg hA hgw hp2 hm
  go_wp2
  (try simp only [Exit.inBlock, Exit.then])
  refine bodyPost_ret (v := .tuple #[letter (x0, x1, x2, x3), .int .i64 0]) ?_ rfl ⟨rfl, ?_⟩
  · rw [results_cell_tmp rfl]
    unfold letter
    go_simp
  · exact grown_set (grown_set (grown_set (grown_set HG.out (Nat.le_refl _) _) (Nat.le_refl _) _) (Nat.le_refl _) _) (Nat.le_refl _) _

/-- See, at any post. -/
theorem see_any {s : Nat} {nodes last : Int} {v : Value} {ls : List Po.Lt} (n : Int) (w : World) (h : PostAt w s nodes last v ls) : Calls Try.prog 42 #[.pointer (some ⟨s, 0, none⟩), .int .i64 n] w fun e w' => e = .returned (.tuple #[letter ((Po.get ls n).getD Po.d0), .int .i64 (seeErr (Po.get ls n))]) ∧ w.grownBy w' none := by
  cases hg : Po.get ls n with
  | none => exact see_none n w h hg
  | some x => exact see_some n w h hg
end Go.Proofs.Ytlhobncpifklkaa
