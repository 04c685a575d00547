/-
  blob.join: what it answers at a slice of the call's own.
-/
import Derived.Test.YtkkaendfcfkbbaaBase
import Derived.Deep.RegionHeld3
import Derived.Laws.AppendOwn
namespace Go.Proofs.Ytkkaendfcfkbbaa
open Go.ChangeShapes Go.WideShapes Go.ChangeAt Go.RowKit Go.Deep

theorem own_set {w : World} {n₀ : Nat} {e : TypeId} {size g k cap : Nat} {xs : List Value} (h : w.ownsRow n₀ e size (.slice (some ⟨g, 0, none⟩) k cap) k xs) (j : Nat) (u : Value) :
    (w.setCell ⟨g, j, none⟩ u).ownsRow n₀ e size (.slice (some ⟨g, 0, none⟩) k cap) k (xs.set j u) := by
  refine ⟨by rw [List.length_set]; exact h.1, .inr ?_⟩
  rcases h.2 with ⟨h1, _⟩ | ⟨g', cap', cur, hv, hb, hg, h1, h2, h3, h4⟩
  · cases h1
  · simp only [Value.slice.injEq, Option.some.injEq, Addr.mk.injEq, and_true, true_and] at hv
    obtain ⟨rfl, rfl⟩ := hv
    obtain ⟨hlt, hk⟩ := Array.getElem?_eq_some_iff.1 hg
    refine ⟨g, cap, cur.setIfInBounds j u, rfl, hb, ?_, h1, h2, by simpa using h3, ?_⟩
    · show (w.heap.modify g _)[g]? = _
      rw [Array.getElem?_eq_getElem (by rw [Array.size_modify]; exact hlt), Array.getElem_modify_self, hk]
      rfl
    · rw [Array.toList_setIfInBounds, List.take_set, h4]
theorem grown_setCell (w : World) (g j : Nat) (u : Value) : w.grownBy (w.setCell ⟨g, j, none⟩ u) (some g) :=
  ⟨rfl, rfl, rfl, by simp [World.setCell], fun k _ hk => Below.heap_setCell _ _ _ k (fun e => hk (by rw [e]))⟩
theorem cells_set (m : List Bl.R) (s : Bl.R) (d : ByteArray) : (cellsOf (m ++ [s])).set (m.length * 2 + 1) (.string d) = cellsOf (m ++ [(s.1, d)]) := by
  rw [cellsOf_append, cellsOf_append, List.set_append_right _ _ (by rw [cellsOf_length]; omega), cellsOf_length, Nat.add_sub_cancel_left]
  rfl
/-- What lies where the last run lies. -/
theorem own_last {w : World} {n₀ : Nat} {e : TypeId} {g cap : Nat} {m : List Bl.R} {s : Bl.R} (h : w.ownsRow n₀ e 2 (.slice (some ⟨g, 0, none⟩) (m.length + 1) cap) (m.length + 1) (cellsOf (m ++ [s]))) :
    w.cell? ⟨g, m.length * 2, none⟩ = some (.int .i64 s.1) ∧ w.cell? ⟨g, m.length * 2 + 1, none⟩ = some (.string s.2) ∧ (∀ o, w.frozen? ⟨g, o, none⟩ = false) ∧ g < w.heap.size ∧ n₀ ≤ g ∧ m.length + 1 ≤ maxLen := by
  have hlt := h.lt g rfl
  obtain ⟨a0, a1⟩ := cellsOf_at (m ++ [s]) m.length (by simp)
  have hd : (m ++ [s]).getD m.length (0, .empty) = s := by simp
  rw [hd] at a0 a1
  have c0 := h.cells (g := g) rfl _ _ a0
  have c1 := h.cells (g := g) rfl _ _ a1
  rw [WideShapes.add_plain, Nat.zero_add] at c0 c1
  rcases h.2 with ⟨h1, _⟩ | ⟨g', cap', cur, hv, hb, hg, h1, h2, h3, h4⟩
  · cases h1
  · simp only [Value.slice.injEq, Option.some.injEq, Addr.mk.injEq, and_true, true_and] at hv
    obtain ⟨rfl, rfl⟩ := hv
    exact ⟨c0, c1, fun o => by simp [World.frozen?, hg], hlt.2, hlt.1, by omega⟩
theorem own_snoc {w : World} {n₀ : Nat} {e : TypeId} {v : Value} {m : List Bl.R} {s : Bl.R} (h : w.ownsRow n₀ e 2 v (m ++ [s]).length (cellsOf (m ++ [s]))) : ∃ g cap, v = .slice (some ⟨g, 0, none⟩) (m.length + 1) cap := by
  rcases h.2 with ⟨_, h0⟩ | ⟨g, cap, _, rfl, _⟩
  · simp at h0
  · exact ⟨g, cap, by simp⟩
theorem fourg_next {w' w'' : World} {R g o : Nat} {x0 x1 x2 x3 : Value} (h : w'.cell? ⟨R, 0, none⟩ = some x0 ∧ w'.cell? ⟨R, 1, none⟩ = some x1 ∧ w'.cell? ⟨g, o, none⟩ = some x2 ∧ w'.cell? ⟨g, o + 1, none⟩ = some x3) (hg : w'.grownBy w'' none) :
    w''.cell? ⟨R, 0, none⟩ = some x0 ∧ w''.cell? ⟨R, 1, none⟩ = some x1 ∧ w''.cell? ⟨g, o, none⟩ = some x2 ∧ w''.cell? ⟨g, o + 1, none⟩ = some x3 :=
  ⟨hg.cell h.1 (by simp), hg.cell h.2.1 (by simp), hg.cell h.2.2.1 (by simp), hg.cell h.2.2.2 (by simp)⟩

set_option maxHeartbeats 2000000 in
theorem join_nil (n₀ : Nat) (v : Value) (xa : Int) (xs : ByteArray) (w : World) (hrow : w.ownsRow n₀ 24 2 v 0 []) (hbase : n₀ ≤ w.heap.size) :
    Calls Try.prog 24 #[v, .agg #[.int .i64 xa, .string xs]] w fun e w' => ∃ v', e = .returned v' ∧ w'.ownsRow n₀ 24 2 v' 1 (cellsOf [(xa, xs)]) ∧ w.grownBy w' v.ownBlock := by
  obtain ⟨i0, hi, hz0, hz1, hz2⟩ := info_parts infoRun
  obtain ⟨ao, cap, rfl⟩ : ∃ ao cap, v = .slice ao 0 cap := by
    rcases hrow.2 with ⟨rfl, _⟩ | ⟨g, cap, _, rfl, _⟩
    · exact ⟨_, _, rfl⟩
    · exact ⟨_, _, rfl⟩
  go_enter Try.func24, Try.ntmps24
  go_wp2
  go_quiet (fail)
  go_wp2_with (at_builtin; refine wpList_append_own _ rfl (.tmp 32) (.tmp 34) 22 rfl n₀ 24 i0 (.agg #[.int .i64 0, .string ⟨#[]⟩]) 2 24 Try.underlying22 hi hz0 hz1 hz2 rfl (by decide) _ _ _ rfl ((own_drewN (hrow.alloc _) _).alloc _) ⟨w.heap.size + 1, 0, none⟩ 1 1 [.int .i64 xa, .string xs] rfl rfl (two_new _ _ (by simp) _ _ _) (one2 _ _) (by unfold maxLen; omega) (by omega) (by simp; omega) ?_; intro v1 w1 hown1 hgrow1 _)
  go_ret
  exact ⟨v1, rfl, hown1, grown_trans (grown_trans (grown_drew (World.grownBy_alloc w _ _) _) (World.grownBy_alloc _ _ _)) hgrow1⟩

set_option maxHeartbeats 4000000 in
theorem join_snoc (n₀ : Nat) (v : Value) (m : List Bl.R) (s : Bl.R) (xa : Int) (xs : ByteArray) (w : World) (hrow : w.ownsRow n₀ 24 2 v (m ++ [s]).length (cellsOf (m ++ [s]))) (hbase : n₀ ≤ w.heap.size)
    (hs0 : -9223372036854775808 ≤ s.1) (hs1 : s.1 + s.2.size ≤ 1048576) (hx : xs.size ≤ 1048576) (hz : s.2.size ≤ 4611686018427387904) (hlen : m.length ≤ 1073741824) :
    Calls Try.prog 24 #[v, .agg #[.int .i64 xa, .string xs]] w fun e w' => ∃ v', e = .returned v' ∧ w'.ownsRow n₀ 24 2 v' (Bl.join (m ++ [s]) (xa, xs)).length (cellsOf (Bl.join (m ++ [s]) (xa, xs))) ∧ w.grownBy w' v.ownBlock := by
  obtain ⟨i0, hi, hz0, hz1, hz2⟩ := info_parts infoRun
  have HJ : Hid (Bl.join (m ++ [s]) (xa, xs) = if s.1 + s.2.size = xa then m ++ [(s.1, s.2 ++ xs)] else m ++ [s] ++ [(xa, xs)]) := Bl.join_snoc m s (xa, xs)
  obtain ⟨g, cap, rfl⟩ := own_snoc hrow
  rw [show (m ++ [s]).length = m.length + 1 by simp] at hrow
  obtain ⟨c0, c1, hfr, hg, hgn, hmx⟩ := own_last hrow
  unfold maxLen at hmx
  obtain ⟨sa, sd⟩ := s
  simp only at hs0 hs1 hz c0 c1 HJ
  obtain ⟨n, hn⟩ : ∃ n, m.length = n := ⟨_, rfl⟩
  have HN : Hid (m.length = n) := hn
  rw [hn] at hrow c0 c1 hmx hlen ⊢
  clear hn
  have HS : Hid ((w.alloc (BR xa xs)).cell? ⟨w.heap.size, 0, none⟩ = some (.int .i64 xa) ∧ (w.alloc (BR xa xs)).cell? ⟨w.heap.size, 1, none⟩ = some (.string xs) ∧ (w.alloc (BR xa xs)).cell? ⟨g, n * 2, none⟩ = some (.int .i64 sa) ∧ (w.alloc (BR xa xs)).cell? ⟨g, n * 2 + 1, none⟩ = some (.string sd)) :=
    ⟨by simp, by simp, (World.grownBy_alloc w _ none).cell c0 (by simp), (World.grownBy_alloc w _ none).cell c1 (by simp)⟩
  have HR : Hid (w.ownsRow n₀ 24 2 (.slice (some ⟨g, 0, none⟩) (n + 1) cap) (n + 1) (cellsOf (m ++ [(sa, sd)]))) := hrow
  have HG : Hid (w.grownBy (w.alloc (BR xa xs)) none) := World.grownBy_alloc w _ none
  have HZ : Hid (w.heap.size < (w.alloc (BR xa xs)).heap.size) := by show w.heap.size < _; simp
  have hgne : ¬ g = w.heap.size := by omega
  have hq : ¬ 9223372036854775807 < sd.size + xs.size := by omega
  have hnd : decide ((0 : Int) ≤ (n : Int)) = true := by simp
  have hnl : (n : Int) < (n : Int) + 1 := by omega
  clear hrow c0 c1 hfr
  go_enter Try.func24, Try.ntmps24
  go_wp2
  obtain ⟨w1, hw1⟩ : ∃ w1, w.alloc (BR xa xs) = w1 := ⟨_, rfl⟩
  obtain ⟨R, hR⟩ : ∃ R, w.heap.size = R := ⟨_, rfl⟩
  rw [hw1, hR] at HS HZ
  rw [hw1] at HG
  rw [hR] at hgne
  rw [hw1, hR]
  go_region_held3 (fun w' => w'.cell? ⟨R, 0, none⟩ = some (.int .i64 xa) ∧ w'.cell? ⟨R, 1, none⟩ = some (.string xs) ∧ w'.cell? ⟨g, n * 2, none⟩ = some (.int .i64 sa) ∧ w'.cell? ⟨g, n * 2 + 1, none⟩ = some (.string sd)) (first | exact HS.out | assumption | exact fourg_next (by assumption) (by assumption)) (first | (go_at_call 22; refine (end_grow sa sd _ (by omega) (by omega)).mono ?_; rintro e w2 ⟨rfl, hg2⟩))
  obtain ⟨f0, f1, f2, f3⟩ : w2.cell? ⟨R, 0, none⟩ = some (.int .i64 xa) ∧ w2.cell? ⟨R, 1, none⟩ = some (.string xs) ∧ w2.cell? ⟨g, n * 2, none⟩ = some (.int .i64 sa) ∧ w2.cell? ⟨g, n * 2 + 1, none⟩ = some (.string sd) := by assumption
  have HG2 : Hid (w.grownBy w2 none) := grown_trans HG.out ⟨hg2.os, hg2.tape, hg2.output, hg2.size, hg2.block⟩
  have hR2 : w2.ownsRow n₀ 24 2 (.slice (some ⟨g, 0, none⟩) (n + 1) cap) (n + 1) (cellsOf (m ++ [(sa, sd)])) := HR.out.kept HG2.out (.inr (by simp [Value.ownBlock]))
  have HR2 : Hid (w2.ownsRow n₀ 24 2 (.slice (some ⟨g, 0, none⟩) (n + 1) cap) (n + 1) (cellsOf (m ++ [(sa, sd)]))) := hR2
  have hfr := fun o => (show w2.frozen? ⟨g, o, none⟩ = false from by
    have h := HR2.out
    rw [← HN.out] at h
    exact (own_last h).2.2.1 o)
  have hsz2 : n₀ ≤ w2.heap.size := Nat.le_trans hbase HG2.out.size
  clear hg2 hR2
  by_cases ht : sa + (sd.size : Int) = xa
  · have ht' : (sa + (sd.size : Int) == xa) = true := by simpa using ht
    have HO : Hid (Bl.join (m ++ [(sa, sd)]) (xa, xs) = m ++ [(sa, sd ++ xs)]) := by rw [HJ.out, if_pos ht]; rfl
    clear ht
    go_wp2
    go_region
    all_goals
      go_wp2
      go_ret
      refine ⟨_, rfl, ?_, ?_⟩
      · have h := own_set HR2.out (n * 2 + 1) (.string (sd ++ xs))
        have hc := cells_set m (sa, sd) (sd ++ xs)
        rw [HN.out] at hc
        rw [hc] at h
        rw [HO.out, show (m ++ [(sa, sd ++ xs)]).length = n + 1 by simp [HN.out]]
        exact h
      · have h := grown_trans (grown_any HG2.out (some g)) (grown_setCell w2 g (n * 2 + 1) (.string (sd ++ xs)))
        exact ⟨h.os, h.tape, h.output, h.size, h.block⟩
  · have ht' : (sa + (sd.size : Int) == xa) = false := by simpa using ht
    have HO : Hid (Bl.join (m ++ [(sa, sd)]) (xa, xs) = m ++ [(sa, sd)] ++ [(xa, xs)]) := by rw [HJ.out, if_neg ht]; rfl
    clear ht hfr
    go_wp2_with (at_builtin; refine wpList_append_own _ rfl (.tmp 32) (.tmp 34) 22 rfl n₀ 24 i0 (.agg #[.int .i64 0, .string ⟨#[]⟩]) 2 24 Try.underlying22 hi hz0 hz1 hz2 rfl (by decide) _ _ _ rfl (HR2.out.alloc _) ⟨w2.heap.size, 0, none⟩ 1 1 [.int .i64 xa, .string xs] rfl rfl (two_new _ _ rfl _ _ _) (one2 _ _) (by unfold maxLen; omega) (by omega) (by simp; omega) ?_; intro v1 w3 hown1 hgrow1 _)
    go_ret
    refine ⟨v1, rfl, ?_, ?_⟩
    · rw [HO.out, cellsOf_append, List.length_append, List.length_append, HN.out]
      exact hown1
    · exact grown_trans (grown_trans (grown_any HG2.out _) (World.grownBy_alloc _ _ _)) hgrow1
/-- What runs are while they are joined. -/
structure Fit (out : List Bl.R) : Prop where
  low : ∀ r ∈ out, -9223372036854775808 ≤ r.1 ∧ Bl.rend r ≤ 1048576
  size : Bl.total out ≤ 4611686018427387904
  len : out.length ≤ 1073741824
theorem join_any (n₀ : Nat) (v : Value) (out : List Bl.R) (x : Bl.R) (w : World) (hrow : w.ownsRow n₀ 24 2 v out.length (cellsOf out)) (hbase : n₀ ≤ w.heap.size) (hf : Fit out) (hx : x.2.size ≤ 1048576) :
    Calls Try.prog 24 #[v, .agg #[.int .i64 x.1, .string x.2]] w fun e w' => ∃ v', e = .returned v' ∧ w'.ownsRow n₀ 24 2 v' (Bl.join out x).length (cellsOf (Bl.join out x)) ∧ w.grownBy w' v.ownBlock := by
  rcases Bl.snoc_cases out with rfl | ⟨m, s, rfl⟩
  · exact join_nil n₀ v x.1 x.2 w hrow hbase
  · have hs := hf.low s (by simp)
    have ht : s.2.size ≤ Bl.total (m ++ [s]) := Bl.total_mem (by simp)
    have hz := hf.size
    have hl := hf.len
    unfold Bl.rend at hs
    exact join_snoc n₀ v m s x.1 x.2 w hrow hbase hs.1 hs.2 hx (by omega) (by simp at hl; omega)
end Go.Proofs.Ytkkaendfcfkbbaa
