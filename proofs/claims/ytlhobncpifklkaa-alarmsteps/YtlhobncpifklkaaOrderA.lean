/-
  Rows of three ints; what is kept of a list of steps, and the clocks that are made of it forwards and backwards.
-/
import Derived.Test.YtlhobncpifklkaaOps
import Derived.Test.YtlhobncpifklkaaLaw
import Derived.Deep.RegionHeld3
namespace Go.Proofs.Ytlhobncpifklkaa
open Go.ChangeShapes Go.WideShapes Go.ChangeAt Go.RowKit Go.Maps Go.Deep

def cells3 (l : List (Int × Int × Int)) : List Value := l.flatMap fun x => [.int .i64 x.1, .int .i64 x.2.1, .int .i64 x.2.2]
theorem cells3_length (l : List (Int × Int × Int)) : (cells3 l).length = l.length * 3 := by
  induction l with
  | nil => rfl
  | cons x l ih => simp only [cells3, List.flatMap_cons, List.length_append, List.length_cons, List.length_nil] at ih ⊢; omega
theorem cells3_snoc (l : List (Int × Int × Int)) (a b c : Int) : cells3 (l ++ [(a, b, c)]) = cells3 l ++ [.int .i64 a, .int .i64 b, .int .i64 c] := by simp [cells3]
theorem cells3_at (l : List (Int × Int × Int)) : ∀ i, i < l.length → (cells3 l)[i * 3]? = some (.int .i64 (l.getD i (0, 0, 0)).1) ∧ (cells3 l)[i * 3 + 1]? = some (.int .i64 (l.getD i (0, 0, 0)).2.1) ∧ (cells3 l)[i * 3 + 2]? = some (.int .i64 (l.getD i (0, 0, 0)).2.2) := by
  induction l with
  | nil => intro i hi; simp at hi
  | cons x l ih =>
    intro i hi
    match i, hi with
    | 0, _ => simp [cells3]
    | i + 1, hi =>
      have := ih i (by simpa using hi)
      have e : cells3 (x :: l) = .int .i64 x.1 :: .int .i64 x.2.1 :: .int .i64 x.2.2 :: cells3 l := by simp [cells3]
      rw [e, show (i + 1) * 3 = i * 3 + 1 + 1 + 1 from by omega]
      simpa using this
theorem rows_ne {w : World} {b1 b2 : Nat} {e1 e2 : TypeId} {s1 s2 n1 n2 : Nat} {v1 v2 : Value} {x1 x2 : List Value} (h1 : w.ownsRow b1 e1 s1 v1 n1 x1) (h2 : w.ownsRow b2 e2 s2 v2 n2 x2) (he : e1 ≠ e2) : v1.ownBlock = none ∨ v1.ownBlock ≠ v2.ownBlock := by
  rcases h1.2 with ⟨rfl, _⟩ | ⟨g, cap, cur, rfl, _, hg, _⟩
  · exact .inl rfl
  · refine .inr fun e => ?_
    rcases h2.2 with ⟨rfl, _⟩ | ⟨g', cap', cur', rfl, _, hg', _⟩
    · simp [Value.ownBlock] at e
    · simp only [Value.ownBlock, Option.some.injEq] at e
      subst e
      rw [hg] at hg'
      simp at hg'
      exact he hg'.2
theorem block_ne {w : World} {b1 : Nat} {e1 : TypeId} {s1 n1 : Nat} {v1 : Value} {x1 : List Value} (h1 : w.ownsRow b1 e1 s1 v1 n1 x1) {b : Nat} {c : Array Value} {t : TypeId} {fr : Nat × Nat} (hb : w.heap[b]? = some (.cells c t fr)) (ht : t ≠ e1) : some b ≠ v1.ownBlock := by
  intro e
  rcases h1.2 with ⟨rfl, _⟩ | ⟨g, cap, cur, rfl, _, hg, _⟩
  · simp [Value.ownBlock] at e
  · simp only [Value.ownBlock, Option.some.injEq] at e
    subst e
    rw [hg] at hb
    simp at hb
    exact ht hb.2.1.symm
theorem three_of {w : World} {b : Nat} {x y z : Value} {t : TypeId} {fr : Nat × Nat} (hb : w.heap[b]? = some (.cells #[x, y, z] t fr)) : w.cell? ⟨b, 0, none⟩ = some x ∧ w.cell? ⟨b, 1, none⟩ = some y ∧ w.cell? ⟨b, 2, none⟩ = some z := by
  refine ⟨?_, ?_, ?_⟩ <;> simp [World.cell?, hb]
theorem three_new (W : World) (a b c : Value) (T : TypeId) : ∀ j u, [a, b, c][j]? = some u → (W.alloc (.cells #[a, b, c] T)).cell? ((⟨W.heap.size, 0, none⟩ : Addr).add j) = some u := by
  intro j u hj
  rw [Go.WideShapes.add_plain]
  match j, hj with
  | 0, hj => simp at hj; subst hj; simp
  | 1, hj => simp at hj; subst hj; simp
  | 2, hj => simp at hj; subst hj; simp
theorem one_new_at (W : World) (g : Nat) (hg : g = W.heap.size) (a : Value) (T : TypeId) : ∀ j u, [a][j]? = some u → (W.alloc (.cells #[a] T)).cell? ((⟨g, 0, none⟩ : Addr).add j) = some u := by
  subst hg
  exact one_new W a T
theorem one3 (a b c : Int) : ∀ u ∈ [Value.int .i64 a, .int .i64 b, .int .i64 c], u.oneCell' = true := by
  intro u hu
  simp at hu
  rcases hu with rfl | rfl | rfl <;> rfl
theorem ClockAt.drew {w : World} {s bm : Nat} {L : List (Int × Int)} (h : ClockAt w s bm L) : ClockAt w.drew s bm L := h
theorem held_two {w w' : World} {g o1 o2 b : Nat} {v1 v2 : Value} (h : w.cell? ⟨g, o1, none⟩ = some v1 ∧ w.cell? ⟨g, o2, none⟩ = some v2) (hg : w.grownBy w' (some b)) (hne : g ≠ b) : w'.cell? ⟨g, o1, none⟩ = some v1 ∧ w'.cell? ⟨g, o2, none⟩ = some v2 :=
  ⟨hg.cell h.1 (by simpa using hne), hg.cell h.2 (by simpa using hne)⟩
theorem info31 : (Try.prog.info? 31).map (fun i => (i.zero, i.size, i.bytes)) = some (some (.agg #[.int .i64 0, .int .i64 0, .int .i64 0]), 3, 24) := by kernel_rfl

namespace Al
/-- What is kept of the steps: the first of each number. -/
structure Kept (n k : Nat) (ns : List Int) (ks : List (Int × Int × Int)) : Prop where
  nums : ns = ks.map (·.2.1)
  nodup : ns.Nodup
  le : ks.length ≤ k
  some_ : 0 < k → 0 < ks.length
theorem kept_start (n : Nat) : Kept n 0 [] [] := ⟨rfl, List.nodup_nil, by simp, fun h => absurd h (Nat.lt_irrefl 0)⟩
theorem Kept.old {n k : Nat} {ns : List Int} {ks : List (Int × Int × Int)} (h : Kept n k ns ks) {b : Int} (hb : ns.contains b = true) : Kept n (k + 1) ns ks := by
  refine ⟨h.nums, h.nodup, by have := h.le; omega, fun _ => ?_⟩
  have : b ∈ ns := by simpa using hb
  rw [h.nums] at this
  obtain ⟨x, hx, _⟩ := List.mem_map.1 this
  exact List.length_pos_of_mem hx
theorem Kept.new {n k : Nat} {ns : List Int} {ks : List (Int × Int × Int)} (h : Kept n k ns ks) {b : Int} (hb : ns.contains b = false) (a c : Int) : Kept n (k + 1) (ns ++ [b]) (ks ++ [(a, b, c)]) := by
  have hn : b ∉ ns := by simpa using hb
  refine ⟨by rw [h.nums]; simp, List.nodup_append.2 ⟨h.nodup, by simp, fun x hx y hy e => hn (by simp at hy; rw [← hy, ← e]; exact hx)⟩, by have := h.le; simp; omega, fun _ => by simp⟩
def pairs (ks : List (Int × Int × Int)) : List (Int × Int) := ks.map fun x => (x.2.1, x.2.2)
theorem nodup_sub {ks ms : List (Int × Int × Int)} (h : (ks.map (·.2.1)).Nodup) (hs : List.Sublist ms ks) : (ms.map (·.2.1)).Nodup := h.sublist (hs.map _)
theorem take_step {ks : List (Int × Int × Int)} (h : (ks.map (·.2.1)).Nodup) {i : Nat} (hi : i < ks.length) {x : Int × Int × Int} (hx : ks.getD i (0, 0, 0) = x) {L : List (Int × Int)} (hm : Made L (pairs (ks.take i))) (hl : ks.length ≤ 200) :
    Made (setTo L x.2.1 x.2.2) (pairs (ks.take (i + 1))) := by
  have e : ks.take (i + 1) = ks.take i ++ [x] := by
    rw [List.take_succ_eq_append_getElem hi, ← hx]
    simp [List.getD, hi]
  have hn := nodup_sub h (List.take_sublist (i + 1) ks)
  rw [e] at hn ⊢
  rw [List.map_append, List.nodup_append] at hn
  refine hm.step (fun b hb => ?_) (fun y => ?_) ?_ ?_
  · obtain ⟨z, hz, ez⟩ := List.mem_map.1 hb
    refine hn.2.2 z.2.1 (List.mem_map.2 ⟨z, hz, rfl⟩) x.2.1 (by simp) ?_
    exact (Prod.mk.inj ez).1
  · simp [pairs, Prod.ext_iff]
  · simp [pairs]
  · simp [pairs]
    omega
theorem drop_step {ks : List (Int × Int × Int)} (h : (ks.map (·.2.1)).Nodup) {i j : Nat} (hj : j + 1 + i = ks.length) {x : Int × Int × Int} (hx : ks.getD j (0, 0, 0) = x) {L : List (Int × Int)} (hm : Made L (pairs (ks.drop (j + 1)))) (hl : ks.length ≤ 200) :
    Made (setTo L x.2.1 x.2.2) (pairs (ks.drop j)) := by
  have e : ks.drop j = x :: ks.drop (j + 1) := by
    rw [List.drop_eq_getElem_cons (by omega), ← hx]
    simp [List.getD, show j < ks.length by omega]
  have hn := nodup_sub h (List.drop_sublist j ks)
  rw [e] at hn ⊢
  rw [List.map_cons, List.nodup_cons] at hn
  refine hm.step (fun b hb => ?_) (fun y => ?_) ?_ ?_
  · obtain ⟨z, hz, ez⟩ := List.mem_map.1 hb
    refine hn.1 (List.mem_map.2 ⟨z, hz, ?_⟩)
    exact (Prod.mk.inj ez).1
  · simp [pairs, Prod.ext_iff, or_comm]
  · simp [pairs]
  · simp [pairs]
    omega
end Al
end Go.Proofs.Ytlhobncpifklkaa
