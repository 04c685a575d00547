/-
  The reference's clock: what its functions answer, and what they leave, at any one that stands for a list of alarms.
-/
import Derived.Test.YtlhobncpifklkaaOnceA
namespace Go.Proofs.Ytlhobncpifklkaa
open Go.RowKit Go.Maps

def cells2 (l : List (Int × Int)) : List Value := l.flatMap fun x => [.int .i64 x.1, .int .i64 x.2]
theorem cells2_length (l : List (Int × Int)) : (cells2 l).length = l.length * 2 := by
  induction l with
  | nil => rfl
  | cons x l ih => simp only [cells2, List.flatMap_cons, List.length_append, List.length_cons, List.length_nil] at ih ⊢; omega
theorem cells2_snoc (l : List (Int × Int)) (a b : Int) : cells2 (l ++ [(a, b)]) = cells2 l ++ [.int .i64 a, .int .i64 b] := by simp [cells2]
theorem cells2_at (l : List (Int × Int)) : ∀ i, i < l.length → (cells2 l)[i * 2]? = some (.int .i64 (l.getD i (0, 0)).1) ∧ (cells2 l)[i * 2 + 1]? = some (.int .i64 (l.getD i (0, 0)).2) := by
  induction l with
  | nil => intro i hi; simp at hi
  | cons x l ih =>
    intro i hi
    match i, hi with
    | 0, _ => simp [cells2]
    | i + 1, hi =>
      have := ih i (by simpa using hi)
      have e : cells2 (x :: l) = .int .i64 x.1 :: .int .i64 x.2 :: cells2 l := by simp [cells2]
      rw [e, show (i + 1) * 2 = i * 2 + 1 + 1 from by omega]
      simpa using this
theorem row2_at {w : World} {base g cap n : Nat} {e : TypeId} {l : List (Int × Int)} (h : w.ownsRow base e 2 (.slice (some ⟨g, 0, none⟩) n cap) n (cells2 l)) {i : Nat} (hi : i < l.length) : w.cell? ⟨g, i * 2, none⟩ = some (.int .i64 (l.getD i (0, 0)).1) ∧ w.cell? ⟨g, i * 2 + 1, none⟩ = some (.int .i64 (l.getD i (0, 0)).2) := by
  obtain ⟨h0, h1⟩ := cells2_at l i hi
  have q0 := h.cells (g := g) rfl _ _ h0
  have q1 := h.cells (g := g) rfl _ _ h1
  rw [Go.WideShapes.add_plain, Nat.zero_add] at q0 q1
  exact ⟨q0, q1⟩
theorem two_new (W : World) (g : Nat) (hg : g = W.heap.size) (a b : Value) (T : TypeId) : ∀ j u, [a, b][j]? = some u → (W.alloc (.cells #[a, b] T)).cell? ((⟨g, 0, none⟩ : Addr).add j) = some u := by
  subst hg
  intro j u hj
  rw [Go.WideShapes.add_plain]
  match j, hj with
  | 0, hj => simp at hj; subst hj; simp
  | 1, hj => simp at hj; subst hj; simp
theorem one2 (a b : Int) : ∀ u ∈ [Value.int .i64 a, .int .i64 b], u.oneCell' = true := by
  intro u hu
  simp at hu
  rcases hu with rfl | rfl <;> rfl
theorem info51 : (Try.prog.info? 51).map (fun i => (i.zero, i.size, i.bytes)) = some (some (.agg #[.int .i64 0, .int .i64 0]), 2, 16) := by kernel_rfl
theorem row_still {w w' : World} {base : Nat} {e : TypeId} {sz : Nat} {r : Value} {n : Nat} {xs : List Value} (h : w.ownsRow base e sz r n xs) (hg : w.grownBy w' none) : w'.ownsRow base e sz r n xs := h.kept hg (by cases hv : r.ownBlock <;> simp)

/-- The struct at block r is the reference's clock with just the alarms L, in the slice v. -/
structure RefAt (w : World) (r : Nat) (v : Value) (L : List (Int × Int)) : Prop where
  block : w.heap[r]? = some (.cells #[v] 29 (0, 0))
  row : w.ownsRow (r + 1) 51 2 v L.length (cells2 L)
theorem RefAt.lt {w : World} {r : Nat} {v : Value} {L : List (Int × Int)} (h : RefAt w r v L) : r < w.heap.size := (Array.getElem?_eq_some_iff.1 h.block).1
theorem RefAt.still {w w' : World} {r : Nat} {v : Value} {L : List (Int × Int)} (h : RefAt w r v L) (hg : w.grownBy w' none) : RefAt w' r v L :=
  ⟨(hg.block r h.lt (by simp)).trans h.block, row_still h.row hg⟩
theorem RefAt.kept {w w' : World} {r : Nat} {v : Value} {L : List (Int × Int)} {row : Option Nat} (h : RefAt w r v L) (hg : w.grownBy w' row) (h1 : some r ≠ row) (h2 : v.ownBlock = none ∨ v.ownBlock ≠ row) : RefAt w' r v L :=
  ⟨(hg.block r h.lt h1).trans h.block, h.row.kept hg h2⟩
theorem RefAt.cell {w : World} {r : Nat} {v : Value} {L : List (Int × Int)} (h : RefAt w r v L) : w.cell? ⟨r, 0, none⟩ = some v ∧ w.frozen? ⟨r, 0, none⟩ = false := by
  constructor
  · simp [World.cell?, h.block]
  · simp [World.frozen?, h.block]
/-- The slice is stored anew. -/
theorem RefAt.put {w : World} {r B : Nat} {v v' : Value} {L L' : List (Int × Int)} (h : RefAt w r v L) (hr : w.ownsRow B 51 2 v' L'.length (cells2 L')) (hB : r < B) : RefAt (w.setCell ⟨r, 0, none⟩ v') r v' L' := by
  refine ⟨by simp [World.setCell, Array.getElem?_modify, h.block], ?_⟩
  refine (owns_base hr (by omega)).kept (grown_setCell _ _ _ _) ?_
  rcases hv : v'.ownBlock with _ | j
  · exact .inl rfl
  · have := (hr.lt j hv).1
    exact .inr (by simp; omega)

theorem big_yes {x : Int} (w : World) (h : Al.fits x) : Calls Try.prog 28 #[.int .i64 x] w fun e w' => e = .returned (.bool true) ∧ w' = w := by
  obtain ⟨h1, h2⟩ := h
  go_enter Try.func28, Try.ntmps28
  go_wp2
  all_goals go_ret
  all_goals exact ⟨rfl, rfl⟩
theorem big_no {x : Int} (w : World) (h : ¬ Al.fits x) : Calls Try.prog 28 #[.int .i64 x] w fun e w' => e = .returned (.bool false) ∧ w' = w := by
  by_cases h1 : 0 ≤ x
  · have h2 : ¬ x ≤ 1099511627776 := fun h2 => h ⟨h1, h2⟩
    clear h
    go_enter Try.func28, Try.ntmps28
    go_wp2
    all_goals go_ret
    all_goals exact ⟨rfl, rfl⟩
  · clear h
    go_enter Try.func28, Try.ntmps28
    go_wp2
    all_goals go_ret
    all_goals exact ⟨rfl, rfl⟩

namespace Al
theorem find_here {L : List (Int × Int)} {n : Int} {j : Nat} (hj : j < L.length) (h : find (L.take j) n = none) (he : (L.getD j (0, 0)).1 = n) : find L n = some (L.getD j (0, 0)).2 := by
  induction L generalizing j with
  | nil => simp at hj
  | cons p L ih =>
    match j, hj with
    | 0, _ =>
      simp only [List.getD_cons_zero] at he ⊢
      rw [find_cons, if_pos he]
    | j + 1, hj =>
      rw [List.take_succ_cons, find_cons] at h
      split at h
      · cases h
      · rename_i hp
        simp only [List.getD_cons_succ] at he ⊢
        rw [find_cons, if_neg hp]
        exact ih (by simpa using hj) h he
theorem find_more {L : List (Int × Int)} {n : Int} {j : Nat} (hj : j < L.length) (h : find (L.take j) n = none) (he : ¬ (L.getD j (0, 0)).1 = n) : find (L.take (j + 1)) n = none := by
  rw [find_none_iff] at h ⊢
  intro p hp
  rw [List.take_succ_eq_append_getElem hj] at hp
  rcases List.mem_append.1 hp with hp | hp
  · exact h p hp
  · rw [List.mem_singleton.1 hp]
    have e : L.getD j (0, 0) = L[j] := by simp [List.getD, hj]
    rwa [e] at he
theorem drop_more {L : List (Int × Int)} {j : Nat} (hj : j < L.length) (n : Int) : drop (L.take (j + 1)) n = if (L.getD j (0, 0)).1 = n then drop (L.take j) n else drop (L.take j) n ++ [L.getD j (0, 0)] := by
  have e : L.getD j (0, 0) = L[j] := by simp [List.getD, hj]
  rw [List.take_succ_eq_append_getElem hj, e]
  unfold drop
  rw [List.filter_append]
  by_cases h : L[j].1 = n
  · rw [if_pos h]
    simp [h]
  · rw [if_neg h]
    simp [h]
end Al

set_option maxHeartbeats 1000000 in
set_option maxRecDepth 100000 in
theorem rfind_any {r : Nat} {v : Value} {L : List (Int × Int)} (n : Int) (w : World) (h : RefAt w r v L) (hl : L.length ≤ 257) :
    Calls Try.prog 20 #[.pointer (some ⟨r, 0, none⟩), .int .i64 n] w fun e w' => e = .returned (.int .i64 ((Al.find L n).getD (-1))) ∧ w.grownBy w' none := by
  obtain ⟨c0, _⟩ := h.cell
  have hr := h.lt
  obtain ⟨ao, cp, rfl⟩ := row_slice h.row
  have HR : Hid (RefAt w r (.slice ao L.length cp) L) := h
  obtain ⟨m, hm⟩ : ∃ m, L.length = m := ⟨_, rfl⟩
  have HM : Hid (L.length = m) := hm
  rw [hm] at c0 hl
  clear h hm
  go_enter Try.func20, Try.ntmps20
  go_wp2
  go_loopw [12] (fun i wr => ∃ j : Nat, j ≤ m ∧ i = .int .i64 j ∧ Hid (Al.find (L.take j) n = none) ∧ Hid (w.grownBy wr none))
    (fun i _ => m - (intOf i).toNat)
  case atStart => exact ⟨0, Nat.zero_le _, rfl, rfl, grown_refl _ _⟩
  case round =>
    obtain ⟨j, hjm, rfl, HF, HG⟩ := hrel
    by_cases hjl : j < m
    · have hjs : j < L.length := by have := HM.out; omega
      rcases HR.out.row.2 with ⟨e, h0⟩ | ⟨g, cp', cur, e, hbg, _⟩
      · have := HM.out
        omega
      injection e with e1 e2 e3
      subst e1 e3
      obtain ⟨q0, q1⟩ := row2_at HR.out.row hjs
      have c1 := HG.out.cell q0 (by simp)
      have c2 := HG.out.cell q1 (by simp)
      by_cases he : (L.getD j (0, 0)).1 = n
      · have HE : Hid (Al.find L n = some (L.getD j (0, 0)).2) := Al.find_here hjs HF.out he
        rw [he] at c1
        generalize (L.getD j (0, 0)).2 = a at c2 HE
        have HG2 : Hid (w.grownBy (wr.alloc (.cells #[.int .i64 n, .int .i64 a] 51)) none) := grown_trans HG.out (World.grownBy_alloc _ _ _)
        clear q0 q1 he
        go_wp2
        go_ret
        rw [HE.out]
        exact ⟨rfl, HG2.out⟩
      · have HE : Hid (Al.find (L.take (j + 1)) n = none) := Al.find_more hjs HF.out he
        generalize L.getD j (0, 0) = p at c1 c2 he
        obtain ⟨p0, p1⟩ := p
        simp only at c1 c2 he
        clear q0 q1
        go_wp2
        go_roundw
        case rel => exact ⟨j + 1, by omega, by go_num, HE, grown_trans HG.out (World.grownBy_alloc _ _ _)⟩
        case measure => simp [intOf]; omega
    · obtain rfl : j = m := by omega
      have HE : Hid (Al.find L n = none) := by
        have : Al.find L n = none := by
          have := HF.out
          rw [← HM.out, List.take_length] at this
          exact this
        exact this
      go_wp2
      go_ret
      rw [HE.out]
      exact ⟨rfl, HG.out⟩

set_option maxHeartbeats 1000000 in
set_option maxRecDepth 100000 in
theorem rdrop_any {r : Nat} {v : Value} {L : List (Int × Int)} (n : Int) (w : World) (h : RefAt w r v L) (hl : L.length ≤ 257) :
    Calls Try.prog 29 #[.pointer (some ⟨r, 0, none⟩), .int .i64 n] w fun e w' => ∃ v', e = .returned (.tuple #[]) ∧ RefAt w' r v' (Al.drop L n) ∧ w.grownBy w' (some r) ∧ (∀ j, v'.ownBlock = some j → w.heap.size ≤ j) := by
  obtain ⟨i0, hi, hz0, hz1, hz2⟩ := info_parts info51
  obtain ⟨c0, f0⟩ := h.cell
  have hr := h.lt
  obtain ⟨ao, cp, rfl⟩ := row_slice h.row
  have HR : Hid (RefAt w r (.slice ao L.length cp) L) := h
  obtain ⟨m, hm⟩ : ∃ m, L.length = m := ⟨_, rfl⟩
  have HM : Hid (L.length = m) := hm
  rw [hm] at c0 hl
  clear h hm
  go_enter Try.func29, Try.ntmps29
  go_wp2
  go_loopw [4, 12] (fun u4 i wr => ∃ j : Nat, j ≤ m ∧ i = .int .i64 j ∧ wr.ownsRow w.heap.size 51 2 u4 (Al.drop (L.take j) n).length (cells2 (Al.drop (L.take j) n)) ∧ Hid (Below w.heap.size w wr))
    (fun _ i _ => m - (intOf i).toNat)
  case atStart => exact ⟨0, Nat.zero_le _, rfl, World.ownsRow_nil _ _ _ _, Below.refl _ _⟩
  case round =>
    obtain ⟨j, hjm, rfl, hr4, HB⟩ := hrel
    by_cases hjl : j < m
    · have hjs : j < L.length := by have := HM.out; omega
      rcases HR.out.row.2 with ⟨e, h0⟩ | ⟨g, cp', cur, e, hbg, _⟩
      · have := HM.out
        omega
      injection e with e1 e2 e3
      subst e1 e3
      obtain ⟨q0, q1⟩ := row2_at HR.out.row hjs
      have k1 := (grown_of_below HB.out none).cell q0 (by simp)
      have k2 := (grown_of_below HB.out none).cell q1 (by simp)
      have HD : Hid _ := Al.drop_more hjs n
      have hlen : (Al.drop (L.take j) n).length ≤ 257 := by
        have h1 : (Al.drop (L.take j) n).length ≤ (L.take j).length := List.length_filter_le _ _
        have h2 := List.length_take_le j L
        omega
      generalize L.getD j (0, 0) = p at k1 k2 HD
      generalize Al.drop (L.take j) n = O at hr4 HD hlen
      obtain ⟨p0, p1⟩ := p
      simp only at k1 k2 HD
      clear q0 q1
      by_cases he : p0 = n
      · have HD2 : Hid (Al.drop (L.take (j + 1)) n = O) := HD.out.trans (if_pos he)
        go_wp2
        go_roundw
        case rel => exact ⟨j + 1, by omega, by go_num, by rw [HD2.out]; exact hr4.alloc _, HB.out.alloc HB.out.size _⟩
        case measure => simp [intOf]; omega
      · have HD2 : Hid (Al.drop (L.take (j + 1)) n = O ++ [(p0, p1)]) := HD.out.trans (if_neg he)
        clear HD
        go_wp2_with (at_builtin; refine wpList_append_own _ rfl _ _ 27 rfl w.heap.size 51 i0 (.agg #[.int .i64 0, .int .i64 0]) 2 16 Try.underlying27 hi hz0 hz1 hz2 rfl (by decide) _ _ _ rfl ((hr4.alloc _).alloc _) ⟨wr.heap.size + 1, 0, none⟩ 1 1 [.int .i64 p0, .int .i64 p1] rfl rfl ?c1 ?c2 ?c3 ?c4 ?c5 ?_)
        case c2 => exact ⟨rfl, rfl⟩
        case c3 => unfold maxLen; omega
        case c4 => omega
        case c5 => have := HB.out.size; simp; omega
        intro v7 w7 hown7 hg7 _
        have gA := World.grownBy_alloc wr (.cells #[.int .i64 p0, .int .i64 p1] 51) none
        have gB := World.grownBy_alloc (wr.alloc (.cells #[.int .i64 p0, .int .i64 p1] 51)) (.cells #[.int .i64 p0, .int .i64 p1] 51) none
        have HB7 : Hid (Below w.heap.size w w7) := (HB.out.trans (below_none (grown_trans gA gB) HB.out.size)).grown hg7 (by have := HB.out.size; simp; omega) (fun j hj => (hr4.lt j hj).1)
        have HR7 : Hid (w7.ownsRow w.heap.size 51 2 v7 (O ++ [(p0, p1)]).length (cells2 (O ++ [(p0, p1)]))) := by
          have : w7.ownsRow w.heap.size 51 2 v7 (O ++ [(p0, p1)]).length (cells2 (O ++ [(p0, p1)])) := by rw [cells2_snoc]; simpa using hown7
          exact this
        clear hown7 hg7 gA gB hr4
        go_wp2
        go_roundw
        case rel => exact ⟨j + 1, by omega, by go_num, by rw [HD2.out]; exact HR7.out, HB7⟩
        case measure => simp [intOf]; omega
    · obtain rfl : j = m := by omega
      obtain ⟨ao4, cp4, rfl⟩ := row_slice hr4
      have e4 : (Al.drop (L.take j) n).length = (Al.drop L n).length := by rw [← HM.out, List.take_length]
      rw [e4] at hr4
      have HO : Hid (wr.ownsRow w.heap.size 51 2 (.slice ao4 (Al.drop L n).length cp4) (Al.drop L n).length (cells2 (Al.drop L n))) := by
        have : wr.ownsRow w.heap.size 51 2 (.slice ao4 (Al.drop L n).length cp4) (Al.drop L n).length (cells2 (Al.drop L n)) := by
          have h := hr4
          rw [show L.take j = L by rw [← HM.out, List.take_length]] at h
          exact h
        exact this
      have HRr : Hid (RefAt wr r (.slice ao L.length cp) L) := HR.out.still (grown_of_below HB.out none)
      have HE : Hid (RefAt (wr.setCell ⟨r, 0, none⟩ (.slice ao4 (Al.drop L n).length cp4)) r (.slice ao4 (Al.drop L n).length cp4) (Al.drop L n) ∧ w.grownBy (wr.setCell ⟨r, 0, none⟩ (.slice ao4 (Al.drop L n).length cp4)) (some r) ∧ (∀ j, (Value.slice ao4 (Al.drop L n).length cp4).ownBlock = some j → w.heap.size ≤ j)) :=
        ⟨HRr.out.put HO.out hr, grown_trans (grown_of_below HB.out _) (grown_setCell _ _ _ _), fun j hj => (HO.out.lt j hj).1⟩
      obtain ⟨d0, d0f⟩ := HRr.out.cell
      clear hr4
      rw [e4]
      clear e4
      go_wp2
      go_end0
      exact ⟨_, rfl, HE.out⟩
end Go.Proofs.Ytlhobncpifklkaa
