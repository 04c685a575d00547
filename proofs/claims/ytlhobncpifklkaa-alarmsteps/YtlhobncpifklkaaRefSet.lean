/-
  The reference's Set, Stop and Due.
-/
import Derived.Test.YtlhobncpifklkaaRef
namespace Go.Proofs.Ytlhobncpifklkaa
open Go.RowKit Go.Maps

namespace Al
abbrev after (n a : Int) (p : Int × Int) : Prop := a < p.2 ∨ (p.2 = a ∧ n < p.1)
theorem ins_none {M : List (Int × Int)} {n a : Int} (h : ∀ p ∈ M, ¬ after n a p) : ins M n a = M ++ [(n, a)] := by
  induction M with
  | nil => rfl
  | cons p M ih =>
    rw [ins, if_neg (h p (by simp)), ih (fun q hq => h q (by simp [hq]))]
    rfl
theorem ins_hit {M : List (Int × Int)} {n a : Int} {q : Int × Int} (h : ∀ p ∈ M, ¬ after n a p) (hq : after n a q) : ins (M ++ [q]) n a = M ++ [(n, a)] ++ [q] := by
  induction M with
  | nil => rw [List.nil_append, ins, if_pos hq]; rfl
  | cons p M ih =>
    rw [List.cons_append, ins, if_neg (h p (by simp)), ih (fun q hq => h q (by simp [hq]))]
    rfl
theorem ins_past {M : List (Int × Int)} {n a : Int} {q : Int × Int} (h : ∃ p ∈ M, after n a p) : ins (M ++ [q]) n a = ins M n a ++ [q] := by
  induction M with
  | nil => obtain ⟨p, hp, _⟩ := h; cases hp
  | cons p M ih =>
    rw [List.cons_append, ins, ins]
    by_cases hp : after n a p
    · rw [if_pos hp, if_pos hp]
      rfl
    · rw [if_neg hp, if_neg hp, ih]
      · rfl
      · obtain ⟨x, hx, hax⟩ := h
        rcases List.mem_cons.1 hx with rfl | hx
        · exact absurd hax hp
        · exact ⟨x, hx, hax⟩
/-- How far the inserting is. -/
structure Inserting (M : List (Int × Int)) (n a : Int) (j : Nat) (put : Bool) (O : List (Int × Int)) : Prop where
  no : put = false → O = M.take j ∧ ∀ p ∈ M.take j, ¬ after n a p
  yes : put = true → O = ins (M.take j) n a ∧ ∃ p ∈ M.take j, after n a p
theorem ins_start (M : List (Int × Int)) (n a : Int) : Inserting M n a 0 false [] := ⟨fun _ => ⟨rfl, by simp⟩, (fun h => by cases h)⟩
theorem take_getD {M : List (Int × Int)} {j : Nat} (hj : j < M.length) : M.take (j + 1) = M.take j ++ [M.getD j (0, 0)] := by
  have e : M.getD j (0, 0) = M[j] := by simp [List.getD, hj]
  rw [List.take_succ_eq_append_getElem hj, e]
theorem Inserting.hit {M : List (Int × Int)} {n a : Int} {j : Nat} {O : List (Int × Int)} (h : Inserting M n a j false O) (hj : j < M.length) (ha : after n a (M.getD j (0, 0))) : Inserting M n a (j + 1) true (O ++ [(n, a)] ++ [M.getD j (0, 0)]) := by
  obtain ⟨rfl, h2⟩ := h.no rfl
  refine ⟨(fun e => by cases e), fun _ => ?_⟩
  rw [take_getD hj]
  exact ⟨(ins_hit h2 ha).symm, _, by simp, ha⟩
theorem Inserting.miss {M : List (Int × Int)} {n a : Int} {j : Nat} {O : List (Int × Int)} (h : Inserting M n a j false O) (hj : j < M.length) (ha : ¬ after n a (M.getD j (0, 0))) : Inserting M n a (j + 1) false (O ++ [M.getD j (0, 0)]) := by
  obtain ⟨rfl, h2⟩ := h.no rfl
  refine ⟨fun _ => ⟨(take_getD hj).symm, fun p hp => ?_⟩, (fun e => by cases e)⟩
  rw [take_getD hj] at hp
  rcases List.mem_append.1 hp with hp | hp
  · exact h2 p hp
  · rw [List.mem_singleton.1 hp]
    exact ha
theorem Inserting.past {M : List (Int × Int)} {n a : Int} {j : Nat} {O : List (Int × Int)} (h : Inserting M n a j true O) (hj : j < M.length) : Inserting M n a (j + 1) true (O ++ [M.getD j (0, 0)]) := by
  obtain ⟨rfl, h2⟩ := h.yes rfl
  refine ⟨(fun e => by cases e), fun _ => ?_⟩
  rw [take_getD hj]
  refine ⟨(ins_past h2).symm, ?_⟩
  obtain ⟨p, hp, ha⟩ := h2
  exact ⟨p, by simp [hp], ha⟩
theorem Inserting.none {M : List (Int × Int)} {n a : Int} {O : List (Int × Int)} (h : Inserting M n a M.length false O) : O ++ [(n, a)] = ins M n a := by
  obtain ⟨rfl, h2⟩ := h.no rfl
  rw [List.take_length] at h2 ⊢
  exact (ins_none h2).symm
theorem Inserting.some_ {M : List (Int × Int)} {n a : Int} {O : List (Int × Int)} (h : Inserting M n a M.length true O) : O = ins M n a := by
  obtain ⟨rfl, _⟩ := h.yes rfl
  rw [List.take_length]
end Al

set_option maxHeartbeats 4000000 in
set_option maxRecDepth 100000 in
theorem rset_some {r : Nat} {v : Value} {L : List (Int × Int)} {n a : Int} (w : World) (h : RefAt w r v L) (hl : L.length ≤ 256) (hf : Al.fits n ∧ Al.fits a) (hq : ∃ x, Al.find L n = some x ∧ 0 ≤ x) :
    Calls Try.prog 12 #[.pointer (some ⟨r, 0, none⟩), .int .i64 n, .int .i64 a] w fun e w' => ∃ v', e = .returned (.int .i64 0) ∧ RefAt w' r v' (Al.set L n a) ∧ w.grownBy w' (some r) := by
  obtain ⟨i0, hi, hz0, hz1, hz2⟩ := info_parts info51
  have hr := h.lt
  have HFN : Hid (Al.fits n) := hf.1
  have HFA : Hid (Al.fits a) := hf.2
  have HR : Hid (RefAt w r v L) := h
  have HQ : Hid (∃ x, Al.find L n = some x ∧ 0 ≤ x) := hq
  have HL : Hid (L.length ≤ 256) := hl
  clear h hf hq
  go_enter Try.func12, Try.ntmps12
  go_wp2_with fail
  refine (big_yes _ HFN.out).mono ?_
  rintro e w1 ⟨rfl, rfl⟩
  go_wp2_with fail
  refine (big_yes _ HFA.out).mono ?_
  rintro e w1 ⟨rfl, rfl⟩
  go_wp2_with fail
  refine (rfind_any n _ HR.out (by have := HL.out; omega)).mono ?_
  rintro e w2 ⟨rfl, hg2⟩
  have HR2 : Hid (RefAt w2 r v L) := HR.out.still hg2
  have HG2 : Hid (w1.grownBy w2 none) := hg2
  have hx : ¬ ((Al.find L n).getD (-1) < 0) := by
    obtain ⟨x, h1, h2⟩ := HQ.out
    rw [h1]
    simp
    omega
  generalize (Al.find L n).getD (-1) = fx at hx ⊢
  clear hg2
  go_wp2_with fail
  refine (rdrop_any n _ HR2.out (by have := HL.out; omega)).mono ?_
  rintro e w3 ⟨v3, rfl, hr3, hg3, _⟩
  have HG3 : Hid (w1.grownBy w3 (some r)) := grown_trans (grown_any HG2.out _) hg3
  have hm : (Al.drop L n).length ≤ 256 := Nat.le_trans (List.length_filter_le _ _) HL.out
  obtain ⟨c0, _⟩ := hr3.cell
  have hr3w := hr3.lt
  obtain ⟨ao, cp, rfl⟩ := row_slice hr3.row
  have HR3 : Hid (RefAt w3 r (.slice ao (Al.drop L n).length cp) (Al.drop L n)) := hr3
  have HSET : Hid (Al.set L n a = Al.ins (Al.drop L n) n a) := rfl
  generalize Al.drop L n = M at HR3 HSET c0 hm
  obtain ⟨m, hmm⟩ : ∃ m, M.length = m := ⟨_, rfl⟩
  have HM : Hid (M.length = m) := hmm
  rw [hmm] at c0 hm
  clear hr3 hg3 hmm HR2 HG2
  go_wp2
  go_loopw [7, 8, 39] (fun u7 u8 i wr => ∃ (j : Nat) (put : Bool) (O : List (Int × Int)), j ≤ m ∧ i = .int .i64 j ∧ u8 = .bool put ∧ wr.ownsRow w3.heap.size 51 2 u7 O.length (cells2 O) ∧ Hid (Al.Inserting M n a j put O) ∧ O.length ≤ j + 1 ∧ Hid (Below w3.heap.size w3 wr))
    (fun _ _ i _ => m - (intOf i).toNat)
  case atStart => exact ⟨0, false, [], Nat.zero_le _, rfl, rfl, World.ownsRow_nil _ _ _ _, Al.ins_start M n a, by simp, Below.refl _ _⟩
  case round =>
    obtain ⟨j, put, O, hjm, rfl, rfl, hr7, HI, hO, HB⟩ := hrel
    by_cases hjl : j < m
    · have hjs : j < M.length := by have := HM.out; omega
      rcases HR3.out.row.2 with ⟨e, h0⟩ | ⟨g, cp', cur, e, hbg, _⟩
      · have := HM.out
        omega
      injection e with e1 e2 e3
      subst e1 e3
      obtain ⟨q0, q1⟩ := row2_at HR3.out.row hjs
      have k1 := (grown_of_below HB.out none).cell q0 (by simp)
      have k2 := (grown_of_below HB.out none).cell q1 (by simp)
      have HJ : Hid (j < M.length) := hjs
      generalize hp : M.getD j (0, 0) = p at k1 k2
      have HP : Hid (M.getD j (0, 0) = p) := hp
      obtain ⟨p0, p1⟩ := p
      simp only at k1 k2
      clear q0 q1 hp hjs
      have gA := World.grownBy_alloc wr (.cells #[.int .i64 p0, .int .i64 p1] 51) none
      have HBX : Hid ((wr.alloc (.cells #[.int .i64 p0, .int .i64 p1] 51)).heap[wr.heap.size]? = some (.cells #[.int .i64 p0, .int .i64 p1] 51 (0, 0))) := heap_alloc_new _ _
      have HNE : Hid (some wr.heap.size ≠ u7.ownBlock) := fun e => by have := (hr7.lt _ e.symm).2; omega
      cases put with
      | true =>
        have HI2 : Hid (Al.Inserting M n a (j + 1) true (O ++ [(p0, p1)])) := by
          have : Al.Inserting M n a (j + 1) true (O ++ [(p0, p1)]) := by rw [← HP.out]; exact HI.out.past HJ.out
          exact this
        go_wp2_with (at_builtin; (refine wpList_append_own _ rfl _ _ 27 rfl w3.heap.size 51 i0 (.agg #[.int .i64 0, .int .i64 0]) 2 16 Try.underlying27 hi hz0 hz1 hz2 rfl (by decide) _ _ _ rfl ((hr7.alloc _).alloc _) ⟨wr.heap.size + 1, 0, none⟩ 1 1 [.int .i64 p0, .int .i64 p1] rfl rfl (two_new _ _ (by simp) _ _ _) (one2 _ _) ?z3 ?z4 ?z5 ?_))
        case z3 => unfold maxLen; first | omega | (simp; omega)
        case z4 => first | omega | (simp; omega)
        case z5 => have := HB.out.size; simp; omega
        intro v7 w7 hown7 hg7 _
        have gB := World.grownBy_alloc (wr.alloc (.cells #[.int .i64 p0, .int .i64 p1] 51)) (.cells #[.int .i64 p0, .int .i64 p1] 51) none
        have HB7 : Hid (Below w3.heap.size w3 w7) := (HB.out.trans (below_none (grown_trans gA gB) HB.out.size)).grown hg7 (by have := HB.out.size; simp; omega) (fun j hj => (hr7.lt j hj).1)
        have HR7 : Hid (w7.ownsRow w3.heap.size 51 2 v7 (O ++ [(p0, p1)]).length (cells2 (O ++ [(p0, p1)]))) := by
          have : w7.ownsRow w3.heap.size 51 2 v7 (O ++ [(p0, p1)]).length (cells2 (O ++ [(p0, p1)])) := by rw [cells2_snoc]; simpa using hown7
          exact this
        clear hown7 hg7 gA gB hr7
        go_wp2
        go_roundw
        case rel => exact ⟨j + 1, true, O ++ [(p0, p1)], by omega, by go_num, rfl, HR7.out, HI2, by simp; omega, HB7⟩
        case measure => simp [intOf]; omega
      | false =>
        by_cases h1 : a < p1
        · have HI2 : Hid (Al.Inserting M n a (j + 1) true (O ++ [(n, a)] ++ [(p0, p1)])) := by
            have : Al.Inserting M n a (j + 1) true (O ++ [(n, a)] ++ [(p0, p1)]) := by have h := HI.out.hit HJ.out (by rw [HP.out]; exact .inl h1); rw [HP.out] at h; exact h
            exact this
          go_wp2_with (at_builtin; (refine wpList_append_own _ rfl _ _ 27 rfl w3.heap.size 51 i0 (.agg #[.int .i64 0, .int .i64 0]) 2 16 Try.underlying27 hi hz0 hz1 hz2 rfl (by decide) _ _ _ rfl ((hr7.alloc _).alloc _) ⟨wr.heap.size + 1, 0, none⟩ 1 1 [.int .i64 n, .int .i64 a] rfl rfl (two_new _ _ (by simp) _ _ _) (one2 _ _) ?z3 ?z4 ?z5 ?_))
          case z3 => unfold maxLen; first | omega | (simp; omega)
          case z4 => first | omega | (simp; omega)
          case z5 => have := HB.out.size; simp; omega
          intro v6 w6 hown6 hg6 _
          have gB := World.grownBy_alloc (wr.alloc (.cells #[.int .i64 p0, .int .i64 p1] 51)) (.cells #[.int .i64 n, .int .i64 a] 51) none
          have HB6 : Hid (Below w3.heap.size w3 w6) := (HB.out.trans (below_none (grown_trans gA gB) HB.out.size)).grown hg6 (by have := HB.out.size; simp; omega) (fun j hj => (hr7.lt j hj).1)
          have hr6 : w6.ownsRow w3.heap.size 51 2 v6 (O ++ [(n, a)]).length (cells2 (O ++ [(n, a)])) := by rw [cells2_snoc]; simpa using hown6
          have hbx : w6.heap[wr.heap.size]? = some (.cells #[.int .i64 p0, .int .i64 p1] 51 (0, 0)) := (hg6.block wr.heap.size (by simp; omega) HNE.out).trans ((gB.block wr.heap.size (by simp) (by simp)).trans HBX.out)
          have b0 : w6.cell? ⟨wr.heap.size, 0, none⟩ = some (.int .i64 p0) := by simp [World.cell?, hbx]
          have b1 : w6.cell? ⟨wr.heap.size, 1, none⟩ = some (.int .i64 p1) := by simp [World.cell?, hbx]
          clear hown6 hg6 gB hbx
          go_wp2_with (at_builtin; (refine wpList_append_own _ rfl _ _ 27 rfl w3.heap.size 51 i0 (.agg #[.int .i64 0, .int .i64 0]) 2 16 Try.underlying27 hi hz0 hz1 hz2 rfl (by decide) _ _ _ rfl (hr6.alloc _) ⟨w6.heap.size, 0, none⟩ 1 1 [.int .i64 p0, .int .i64 p1] rfl rfl (two_new _ _ (by simp) _ _ _) (one2 _ _) ?z3 ?z4 ?z5 ?_))
          case z3 => unfold maxLen; first | omega | (simp; omega)
          case z4 => first | omega | (simp; omega)
          case z5 => have := HB6.out.size; simp; omega
          intro v7 w7 hown7 hg7 _
          have gC := World.grownBy_alloc w6 (.cells #[.int .i64 p0, .int .i64 p1] 51) none
          have HB7 : Hid (Below w3.heap.size w3 w7) := (HB6.out.trans (below_none gC HB6.out.size)).grown hg7 (by have := HB6.out.size; simp; omega) (fun j hj => (hr6.lt j hj).1)
          have HR7 : Hid (w7.ownsRow w3.heap.size 51 2 v7 (O ++ [(n, a)] ++ [(p0, p1)]).length (cells2 (O ++ [(n, a)] ++ [(p0, p1)]))) := by
            have : w7.ownsRow w3.heap.size 51 2 v7 (O ++ [(n, a)] ++ [(p0, p1)]).length (cells2 (O ++ [(n, a)] ++ [(p0, p1)])) := by rw [cells2_snoc]; simpa using hown7
            exact this
          have hO2 : O.length ≤ j := by have h := (HI.out.no rfl).1; rw [h]; exact List.length_take_le j M
          clear hown7 hg7 gA gC hr7 hr6
          go_wp2
          go_roundw
          case rel => exact ⟨j + 1, true, O ++ [(n, a)] ++ [(p0, p1)], by omega, by go_num, rfl, HR7.out, HI2, by simp; omega, HB7⟩
          case measure => simp [intOf]; omega
        · by_cases h2 : p1 = a
          · have h2' := h2.symm
            subst h2'
            clear h2
            by_cases h3 : n < p0
            · have HI2 : Hid (Al.Inserting M n a (j + 1) true (O ++ [(n, a)] ++ [(p0, a)])) := by
                have : Al.Inserting M n a (j + 1) true (O ++ [(n, a)] ++ [(p0, a)]) := by have h := HI.out.hit HJ.out (by rw [HP.out]; exact .inr ⟨rfl, h3⟩); rw [HP.out] at h; exact h
                exact this
              go_wp2_with (at_builtin; (refine wpList_append_own _ rfl _ _ 27 rfl w3.heap.size 51 i0 (.agg #[.int .i64 0, .int .i64 0]) 2 16 Try.underlying27 hi hz0 hz1 hz2 rfl (by decide) _ _ _ rfl ((hr7.alloc _).alloc _) ⟨wr.heap.size + 1, 0, none⟩ 1 1 [.int .i64 n, .int .i64 a] rfl rfl (two_new _ _ (by simp) _ _ _) (one2 _ _) ?z3 ?z4 ?z5 ?_))
              case z3 => unfold maxLen; first | omega | (simp; omega)
              case z4 => first | omega | (simp; omega)
              case z5 => have := HB.out.size; simp; omega
              intro v6 w6 hown6 hg6 _
              have gB := World.grownBy_alloc (wr.alloc (.cells #[.int .i64 p0, .int .i64 a] 51)) (.cells #[.int .i64 n, .int .i64 a] 51) none
              have HB6 : Hid (Below w3.heap.size w3 w6) := (HB.out.trans (below_none (grown_trans gA gB) HB.out.size)).grown hg6 (by have := HB.out.size; simp; omega) (fun j hj => (hr7.lt j hj).1)
              have hr6 : w6.ownsRow w3.heap.size 51 2 v6 (O ++ [(n, a)]).length (cells2 (O ++ [(n, a)])) := by rw [cells2_snoc]; simpa using hown6
              have hbx : w6.heap[wr.heap.size]? = some (.cells #[.int .i64 p0, .int .i64 a] 51 (0, 0)) := (hg6.block wr.heap.size (by simp; omega) HNE.out).trans ((gB.block wr.heap.size (by simp) (by simp)).trans HBX.out)
              have b0 : w6.cell? ⟨wr.heap.size, 0, none⟩ = some (.int .i64 p0) := by simp [World.cell?, hbx]
              have b1 : w6.cell? ⟨wr.heap.size, 1, none⟩ = some (.int .i64 a) := by simp [World.cell?, hbx]
              clear hown6 hg6 gB hbx
              go_wp2_with (at_builtin; (refine wpList_append_own _ rfl _ _ 27 rfl w3.heap.size 51 i0 (.agg #[.int .i64 0, .int .i64 0]) 2 16 Try.underlying27 hi hz0 hz1 hz2 rfl (by decide) _ _ _ rfl (hr6.alloc _) ⟨w6.heap.size, 0, none⟩ 1 1 [.int .i64 p0, .int .i64 a] rfl rfl (two_new _ _ (by simp) _ _ _) (one2 _ _) ?z3 ?z4 ?z5 ?_))
              case z3 => unfold maxLen; first | omega | (simp; omega)
              case z4 => first | omega | (simp; omega)
              case z5 => have := HB6.out.size; simp; omega
              intro v7 w7 hown7 hg7 _
              have gC := World.grownBy_alloc w6 (.cells #[.int .i64 p0, .int .i64 a] 51) none
              have HB7 : Hid (Below w3.heap.size w3 w7) := (HB6.out.trans (below_none gC HB6.out.size)).grown hg7 (by have := HB6.out.size; simp; omega) (fun j hj => (hr6.lt j hj).1)
              have HR7 : Hid (w7.ownsRow w3.heap.size 51 2 v7 (O ++ [(n, a)] ++ [(p0, a)]).length (cells2 (O ++ [(n, a)] ++ [(p0, a)]))) := by
                have : w7.ownsRow w3.heap.size 51 2 v7 (O ++ [(n, a)] ++ [(p0, a)]).length (cells2 (O ++ [(n, a)] ++ [(p0, a)])) := by rw [cells2_snoc]; simpa using hown7
                exact this
              have hO2 : O.length ≤ j := by have h := (HI.out.no rfl).1; rw [h]; exact List.length_take_le j M
              clear hown7 hg7 gA gC hr7 hr6
              go_wp2
              go_roundw
              case rel => exact ⟨j + 1, true, O ++ [(n, a)] ++ [(p0, a)], by omega, by go_num, rfl, HR7.out, HI2, by simp; omega, HB7⟩
              case measure => simp [intOf]; omega
            · have HI2 : Hid (Al.Inserting M n a (j + 1) false (O ++ [(p0, a)])) := by
                have : Al.Inserting M n a (j + 1) false (O ++ [(p0, a)]) := by rw [← HP.out]; exact HI.out.miss HJ.out (by rw [HP.out]; rintro (hh | ⟨_, hh⟩); exact h1 hh; exact h3 hh)
                exact this
              go_wp2_with (at_builtin; (refine wpList_append_own _ rfl _ _ 27 rfl w3.heap.size 51 i0 (.agg #[.int .i64 0, .int .i64 0]) 2 16 Try.underlying27 hi hz0 hz1 hz2 rfl (by decide) _ _ _ rfl ((hr7.alloc _).alloc _) ⟨wr.heap.size + 1, 0, none⟩ 1 1 [.int .i64 p0, .int .i64 a] rfl rfl (two_new _ _ (by simp) _ _ _) (one2 _ _) ?z3 ?z4 ?z5 ?_))
              case z3 => unfold maxLen; first | omega | (simp; omega)
              case z4 => first | omega | (simp; omega)
              case z5 => have := HB.out.size; simp; omega
              intro v7 w7 hown7 hg7 _
              have gB := World.grownBy_alloc (wr.alloc (.cells #[.int .i64 p0, .int .i64 a] 51)) (.cells #[.int .i64 p0, .int .i64 a] 51) none
              have HB7 : Hid (Below w3.heap.size w3 w7) := (HB.out.trans (below_none (grown_trans gA gB) HB.out.size)).grown hg7 (by have := HB.out.size; simp; omega) (fun j hj => (hr7.lt j hj).1)
              have HR7 : Hid (w7.ownsRow w3.heap.size 51 2 v7 (O ++ [(p0, a)]).length (cells2 (O ++ [(p0, a)]))) := by
                have : w7.ownsRow w3.heap.size 51 2 v7 (O ++ [(p0, a)]).length (cells2 (O ++ [(p0, a)])) := by rw [cells2_snoc]; simpa using hown7
                exact this
              clear hown7 hg7 gA gB hr7
              go_wp2
              go_roundw
              case rel => exact ⟨j + 1, false, O ++ [(p0, a)], by omega, by go_num, rfl, HR7.out, HI2, by simp; omega, HB7⟩
              case measure => simp [intOf]; omega
          · have HI2 : Hid (Al.Inserting M n a (j + 1) false (O ++ [(p0, p1)])) := by
              have : Al.Inserting M n a (j + 1) false (O ++ [(p0, p1)]) := by rw [← HP.out]; exact HI.out.miss HJ.out (by rw [HP.out]; rintro (hh | ⟨hh, _⟩); exact h1 hh; exact h2 hh)
              exact this
            go_wp2_with (at_builtin; (refine wpList_append_own _ rfl _ _ 27 rfl w3.heap.size 51 i0 (.agg #[.int .i64 0, .int .i64 0]) 2 16 Try.underlying27 hi hz0 hz1 hz2 rfl (by decide) _ _ _ rfl ((hr7.alloc _).alloc _) ⟨wr.heap.size + 1, 0, none⟩ 1 1 [.int .i64 p0, .int .i64 p1] rfl rfl (two_new _ _ (by simp) _ _ _) (one2 _ _) ?z3 ?z4 ?z5 ?_))
            case z3 => unfold maxLen; first | omega | (simp; omega)
            case z4 => first | omega | (simp; omega)
            case z5 => have := HB.out.size; simp; omega
            intro v7 w7 hown7 hg7 _
            have gB := World.grownBy_alloc (wr.alloc (.cells #[.int .i64 p0, .int .i64 p1] 51)) (.cells #[.int .i64 p0, .int .i64 p1] 51) none
            have HB7 : Hid (Below w3.heap.size w3 w7) := (HB.out.trans (below_none (grown_trans gA gB) HB.out.size)).grown hg7 (by have := HB.out.size; simp; omega) (fun j hj => (hr7.lt j hj).1)
            have HR7 : Hid (w7.ownsRow w3.heap.size 51 2 v7 (O ++ [(p0, p1)]).length (cells2 (O ++ [(p0, p1)]))) := by
              have : w7.ownsRow w3.heap.size 51 2 v7 (O ++ [(p0, p1)]).length (cells2 (O ++ [(p0, p1)])) := by rw [cells2_snoc]; simpa using hown7
              exact this
            clear hown7 hg7 gA gB hr7
            go_wp2
            go_roundw
            case rel => exact ⟨j + 1, false, O ++ [(p0, p1)], by omega, by go_num, rfl, HR7.out, HI2, by simp; omega, HB7⟩
            case measure => simp [intOf]; omega
    · obtain rfl : j = m := by omega
      cases put with
      | true =>
        have HO : Hid (O = Al.set L n a) := by
          have : O = Al.set L n a := by rw [HSET.out]; have h := HI.out; rw [← HM.out] at h; exact h.some_
          exact this
        rw [HO.out] at hr7
        obtain ⟨ao7, cp7, rfl⟩ := row_slice hr7
        have HRr : Hid (RefAt wr r (.slice ao M.length cp) M) := HR3.out.still (grown_of_below HB.out none)
        have HE : Hid (RefAt (wr.setCell ⟨r, 0, none⟩ (.slice ao7 (Al.set L n a).length cp7)) r (.slice ao7 (Al.set L n a).length cp7) (Al.set L n a) ∧ w1.grownBy (wr.setCell ⟨r, 0, none⟩ (.slice ao7 (Al.set L n a).length cp7)) (some r)) :=
          ⟨HRr.out.put hr7 hr3w, grown_trans HG3.out (grown_trans (grown_of_below HB.out _) (grown_setCell _ _ _ _))⟩
        obtain ⟨d0, d0f⟩ := HRr.out.cell
        clear hr7
        generalize (Al.set L n a).length = ml at HE d0 ⊢
        go_wp2
        go_ret
        exact ⟨_, rfl, HE.out⟩
      | false =>
        have HO : Hid (O ++ [(n, a)] = Al.set L n a) := by
          have : O ++ [(n, a)] = Al.set L n a := by rw [HSET.out]; have h := HI.out; rw [← HM.out] at h; exact h.none
          exact this
        go_wp2_with (at_builtin; (refine wpList_append_own _ rfl _ _ 27 rfl w3.heap.size 51 i0 (.agg #[.int .i64 0, .int .i64 0]) 2 16 Try.underlying27 hi hz0 hz1 hz2 rfl (by decide) _ _ _ rfl (hr7.alloc _) ⟨wr.heap.size, 0, none⟩ 1 1 [.int .i64 n, .int .i64 a] rfl rfl (two_new _ _ (by simp) _ _ _) (one2 _ _) ?z3 ?z4 ?z5 ?_))
        case z3 => unfold maxLen; first | omega | (simp; omega)
        case z4 => first | omega | (simp; omega)
        case z5 => have := HB.out.size; simp; omega
        intro v6 w6 hown6 hg6 _
        have gB := World.grownBy_alloc wr (.cells #[.int .i64 n, .int .i64 a] 51) none
        have HB6 : Hid (Below w3.heap.size w3 w6) := (HB.out.trans (below_none gB HB.out.size)).grown hg6 (by have := HB.out.size; simp; omega) (fun j hj => (hr7.lt j hj).1)
        have hr6 : w6.ownsRow w3.heap.size 51 2 v6 (Al.set L n a).length (cells2 (Al.set L n a)) := by
          rw [← HO.out, cells2_snoc]
          simpa using hown6
        clear hown6 hg6 gB hr7
        obtain ⟨ao7, cp7, rfl⟩ := row_slice hr6
        have HRr : Hid (RefAt w6 r (.slice ao M.length cp) M) := HR3.out.still (grown_of_below HB6.out none)
        have HE : Hid (RefAt (w6.setCell ⟨r, 0, none⟩ (.slice ao7 (Al.set L n a).length cp7)) r (.slice ao7 (Al.set L n a).length cp7) (Al.set L n a) ∧ w1.grownBy (w6.setCell ⟨r, 0, none⟩ (.slice ao7 (Al.set L n a).length cp7)) (some r)) :=
          ⟨HRr.out.put hr6 hr3w, grown_trans HG3.out (grown_trans (grown_of_below HB6.out _) (grown_setCell _ _ _ _))⟩
        obtain ⟨d0, d0f⟩ := HRr.out.cell
        clear hr6
        generalize (Al.set L n a).length = ml at HE d0 ⊢
        go_wp2
        go_ret
        exact ⟨_, rfl, HE.out⟩

set_option maxHeartbeats 4000000 in
set_option maxRecDepth 100000 in
theorem rset_new {r : Nat} {v : Value} {L : List (Int × Int)} {n a : Int} (w : World) (h : RefAt w r v L) (hl : L.length ≤ 256) (hf : Al.fits n ∧ Al.fits a) (hq : Al.find L n = none ∧ L.length < 256) :
    Calls Try.prog 12 #[.pointer (some ⟨r, 0, none⟩), .int .i64 n, .int .i64 a] w fun e w' => ∃ v', e = .returned (.int .i64 0) ∧ RefAt w' r v' (Al.set L n a) ∧ w.grownBy w' (some r) := by
  obtain ⟨i0, hi, hz0, hz1, hz2⟩ := info_parts info51
  have hr := h.lt
  have HFN : Hid (Al.fits n) := hf.1
  have HFA : Hid (Al.fits a) := hf.2
  have HR : Hid (RefAt w r v L) := h
  have HQ : Hid (Al.find L n = none ∧ L.length < 256) := hq
  have HL : Hid (L.length ≤ 256) := hl
  clear h hf hq
  go_enter Try.func12, Try.ntmps12
  go_wp2_with fail
  refine (big_yes _ HFN.out).mono ?_
  rintro e w1 ⟨rfl, rfl⟩
  go_wp2_with fail
  refine (big_yes _ HFA.out).mono ?_
  rintro e w1 ⟨rfl, rfl⟩
  go_wp2_with fail
  refine (rfind_any n _ HR.out (by have := HL.out; omega)).mono ?_
  rintro e w2 ⟨rfl, hg2⟩
  have HR2 : Hid (RefAt w2 r v L) := HR.out.still hg2
  have HG2 : Hid (w1.grownBy w2 none) := hg2
  have hx : (Al.find L n).getD (-1) = -1 := by rw [HQ.out.1]; rfl
  rw [hx]
  obtain ⟨cc, _⟩ := HR2.out.cell
  obtain ⟨aoL, cpL, ev⟩ := row_slice HR2.out.row
  rw [ev] at cc
  have hlen : ¬ (256 ≤ (L.length : Int)) := by have := HQ.out.2; omega
  clear hg2 hx
  go_wp2_with fail
  refine (rdrop_any n _ HR2.out (by have := HL.out; omega)).mono ?_
  rintro e w3 ⟨v3, rfl, hr3, hg3, _⟩
  have HG3 : Hid (w1.grownBy w3 (some r)) := grown_trans (grown_any HG2.out _) hg3
  have hm : (Al.drop L n).length ≤ 256 := Nat.le_trans (List.length_filter_le _ _) HL.out
  obtain ⟨c0, _⟩ := hr3.cell
  have hr3w := hr3.lt
  obtain ⟨ao, cp, rfl⟩ := row_slice hr3.row
  have HR3 : Hid (RefAt w3 r (.slice ao (Al.drop L n).length cp) (Al.drop L n)) := hr3
  have HSET : Hid (Al.set L n a = Al.ins (Al.drop L n) n a) := rfl
  generalize Al.drop L n = M at HR3 HSET c0 hm
  obtain ⟨m, hmm⟩ : ∃ m, M.length = m := ⟨_, rfl⟩
  have HM : Hid (M.length = m) := hmm
  rw [hmm] at c0 hm
  clear hr3 hg3 hmm HR2 HG2
  go_wp2
  go_loopw [7, 8, 39] (fun u7 u8 i wr => ∃ (j : Nat) (put : Bool) (O : List (Int × Int)), j ≤ m ∧ i = .int .i64 j ∧ u8 = .bool put ∧ wr.ownsRow w3.heap.size 51 2 u7 O.length (cells2 O) ∧ Hid (Al.Inserting M n a j put O) ∧ O.length ≤ j + 1 ∧ Hid (Below w3.heap.size w3 wr))
    (fun _ _ i _ => m - (intOf i).toNat)
  case atStart => exact ⟨0, false, [], Nat.zero_le _, rfl, rfl, World.ownsRow_nil _ _ _ _, Al.ins_start M n a, by simp, Below.refl _ _⟩
  case round =>
    obtain ⟨j, put, O, hjm, rfl, rfl, hr7, HI, hO, HB⟩ := hrel
    by_cases hjl : j < m
    · have hjs : j < M.length := by have := HM.out; omega
      rcases HR3.out.row.2 with ⟨e, h0⟩ | ⟨g, cp', cur, e, hbg, _⟩
      · have := HM.out
        omega
      injection e with e1 e2 e3
      subst e1 e3
      obtain ⟨q0, q1⟩ := row2_at HR3.out.row hjs
      have k1 := (grown_of_below HB.out none).cell q0 (by simp)
      have k2 := (grown_of_below HB.out none).cell q1 (by simp)
      have HJ : Hid (j < M.length) := hjs
      generalize hp : M.getD j (0, 0) = p at k1 k2
      have HP : Hid (M.getD j (0, 0) = p) := hp
      obtain ⟨p0, p1⟩ := p
      simp only at k1 k2
      clear q0 q1 hp hjs
      have gA := World.grownBy_alloc wr (.cells #[.int .i64 p0, .int .i64 p1] 51) none
      have HBX : Hid ((wr.alloc (.cells #[.int .i64 p0, .int .i64 p1] 51)).heap[wr.heap.size]? = some (.cells #[.int .i64 p0, .int .i64 p1] 51 (0, 0))) := heap_alloc_new _ _
      have HNE : Hid (some wr.heap.size ≠ u7.ownBlock) := fun e => by have := (hr7.lt _ e.symm).2; omega
      cases put with
      | true =>
        have HI2 : Hid (Al.Inserting M n a (j + 1) true (O ++ [(p0, p1)])) := by
          have : Al.Inserting M n a (j + 1) true (O ++ [(p0, p1)]) := by rw [← HP.out]; exact HI.out.past HJ.out
          exact this
        go_wp2_with (at_builtin; (refine wpList_append_own _ rfl _ _ 27 rfl w3.heap.size 51 i0 (.agg #[.int .i64 0, .int .i64 0]) 2 16 Try.underlying27 hi hz0 hz1 hz2 rfl (by decide) _ _ _ rfl ((hr7.alloc _).alloc _) ⟨wr.heap.size + 1, 0, none⟩ 1 1 [.int .i64 p0, .int .i64 p1] rfl rfl (two_new _ _ (by simp) _ _ _) (one2 _ _) ?z3 ?z4 ?z5 ?_))
        case z3 => unfold maxLen; first | omega | (simp; omega)
        case z4 => first | omega | (simp; omega)
        case z5 => have := HB.out.size; simp; omega
        intro v7 w7 hown7 hg7 _
        have gB := World.grownBy_alloc (wr.alloc (.cells #[.int .i64 p0, .int .i64 p1] 51)) (.cells #[.int .i64 p0, .int .i64 p1] 51) none
        have HB7 : Hid (Below w3.heap.size w3 w7) := (HB.out.trans (below_none (grown_trans gA gB) HB.out.size)).grown hg7 (by have := HB.out.size; simp; omega) (fun j hj => (hr7.lt j hj).1)
        have HR7 : Hid (w7.ownsRow w3.heap.size 51 2 v7 (O ++ [(p0, p1)]).length (cells2 (O ++ [(p0, p1)]))) := by
          have : w7.ownsRow w3.heap.size 51 2 v7 (O ++ [(p0, p1)]).length (cells2 (O ++ [(p0, p1)])) := by rw [cells2_snoc]; simpa using hown7
          exact this
        clear hown7 hg7 gA gB hr7
        go_wp2
        go_roundw
        case rel => exact ⟨j + 1, true, O ++ [(p0, p1)], by omega, by go_num, rfl, HR7.out, HI2, by simp; omega, HB7⟩
        case measure => simp [intOf]; omega
      | false =>
        by_cases h1 : a < p1
        · have HI2 : Hid (Al.Inserting M n a (j + 1) true (O ++ [(n, a)] ++ [(p0, p1)])) := by
            have : Al.Inserting M n a (j + 1) true (O ++ [(n, a)] ++ [(p0, p1)]) := by have h := HI.out.hit HJ.out (by rw [HP.out]; exact .inl h1); rw [HP.out] at h; exact h
            exact this
          go_wp2_with (at_builtin; (refine wpList_append_own _ rfl _ _ 27 rfl w3.heap.size 51 i0 (.agg #[.int .i64 0, .int .i64 0]) 2 16 Try.underlying27 hi hz0 hz1 hz2 rfl (by decide) _ _ _ rfl ((hr7.alloc _).alloc _) ⟨wr.heap.size + 1, 0, none⟩ 1 1 [.int .i64 n, .int .i64 a] rfl rfl (two_new _ _ (by simp) _ _ _) (one2 _ _) ?z3 ?z4 ?z5 ?_))
          case z3 => unfold maxLen; first | omega | (simp; omega)
          case z4 => first | omega | (simp; omega)
          case z5 => have := HB.out.size; simp; omega
          intro v6 w6 hown6 hg6 _
          have gB := World.grownBy_alloc (wr.alloc (.cells #[.int .i64 p0, .int .i64 p1] 51)) (.cells #[.int .i64 n, .int .i64 a] 51) none
          have HB6 : Hid (Below w3.heap.size w3 w6) := (HB.out.trans (below_none (grown_trans gA gB) HB.out.size)).grown hg6 (by have := HB.out.size; simp; omega) (fun j hj => (hr7.lt j hj).1)
          have hr6 : w6.ownsRow w3.heap.size 51 2 v6 (O ++ [(n, a)]).length (cells2 (O ++ [(n, a)])) := by rw [cells2_snoc]; simpa using hown6
          have hbx : w6.heap[wr.heap.size]? = some (.cells #[.int .i64 p0, .int .i64 p1] 51 (0, 0)) := (hg6.block wr.heap.size (by simp; omega) HNE.out).trans ((gB.block wr.heap.size (by simp) (by simp)).trans HBX.out)
          have b0 : w6.cell? ⟨wr.heap.size, 0, none⟩ = some (.int .i64 p0) := by simp [World.cell?, hbx]
          have b1 : w6.cell? ⟨wr.heap.size, 1, none⟩ = some (.int .i64 p1) := by simp [World.cell?, hbx]
          clear hown6 hg6 gB hbx
          go_wp2_with (at_builtin; (refine wpList_append_own _ rfl _ _ 27 rfl w3.heap.size 51 i0 (.agg #[.int .i64 0, .int .i64 0]) 2 16 Try.underlying27 hi hz0 hz1 hz2 rfl (by decide) _ _ _ rfl (hr6.alloc _) ⟨w6.heap.size, 0, none⟩ 1 1 [.int .i64 p0, .int .i64 p1] rfl rfl (two_new _ _ (by simp) _ _ _) (one2 _ _) ?z3 ?z4 ?z5 ?_))
          case z3 => unfold maxLen; first | omega | (simp; omega)
          case z4 => first | omega | (simp; omega)
          case z5 => have := HB6.out.size; simp; omega
          intro v7 w7 hown7 hg7 _
          have gC := World.grownBy_alloc w6 (.cells #[.int .i64 p0, .int .i64 p1] 51) none
          have HB7 : Hid (Below w3.heap.size w3 w7) := (HB6.out.trans (below_none gC HB6.out.size)).grown hg7 (by have := HB6.out.size; simp; omega) (fun j hj => (hr6.lt j hj).1)
          have HR7 : Hid (w7.ownsRow w3.heap.size 51 2 v7 (O ++ [(n, a)] ++ [(p0, p1)]).length (cells2 (O ++ [(n, a)] ++ [(p0, p1)]))) := by
            have : w7.ownsRow w3.heap.size 51 2 v7 (O ++ [(n, a)] ++ [(p0, p1)]).length (cells2 (O ++ [(n, a)] ++ [(p0, p1)])) := by rw [cells2_snoc]; simpa using hown7
            exact this
          have hO2 : O.length ≤ j := by have h := (HI.out.no rfl).1; rw [h]; exact List.length_take_le j M
          clear hown7 hg7 gA gC hr7 hr6
          go_wp2
          go_roundw
          case rel => exact ⟨j + 1, true, O ++ [(n, a)] ++ [(p0, p1)], by omega, by go_num, rfl, HR7.out, HI2, by simp; omega, HB7⟩
          case measure => simp [intOf]; omega
        · by_cases h2 : p1 = a
          · have h2' := h2.symm
            subst h2'
            clear h2
            by_cases h3 : n < p0
            · have HI2 : Hid (Al.Inserting M n a (j + 1) true (O ++ [(n, a)] ++ [(p0, a)])) := by
                have : Al.Inserting M n a (j + 1) true (O ++ [(n, a)] ++ [(p0, a)]) := by have h := HI.out.hit HJ.out (by rw [HP.out]; exact .inr ⟨rfl, h3⟩); rw [HP.out] at h; exact h
                exact this
              go_wp2_with (at_builtin; (refine wpList_append_own _ rfl _ _ 27 rfl w3.heap.size 51 i0 (.agg #[.int .i64 0, .int .i64 0]) 2 16 Try.underlying27 hi hz0 hz1 hz2 rfl (by decide) _ _ _ rfl ((hr7.alloc _).alloc _) ⟨wr.heap.size + 1, 0, none⟩ 1 1 [.int .i64 n, .int .i64 a] rfl rfl (two_new _ _ (by simp) _ _ _) (one2 _ _) ?z3 ?z4 ?z5 ?_))
              case z3 => unfold maxLen; first | omega | (simp; omega)
              case z4 => first | omega | (simp; omega)
              case z5 => have := HB.out.size; simp; omega
              intro v6 w6 hown6 hg6 _
              have gB := World.grownBy_alloc (wr.alloc (.cells #[.int .i64 p0, .int .i64 a] 51)) (.cells #[.int .i64 n, .int .i64 a] 51) none
              have HB6 : Hid (Below w3.heap.size w3 w6) := (HB.out.trans (below_none (grown_trans gA gB) HB.out.size)).grown hg6 (by have := HB.out.size; simp; omega) (fun j hj => (hr7.lt j hj).1)
              have hr6 : w6.ownsRow w3.heap.size 51 2 v6 (O ++ [(n, a)]).length (cells2 (O ++ [(n, a)])) := by rw [cells2_snoc]; simpa using hown6
              have hbx : w6.heap[wr.heap.size]? = some (.cells #[.int .i64 p0, .int .i64 a] 51 (0, 0)) := (hg6.block wr.heap.size (by simp; omega) HNE.out).trans ((gB.block wr.heap.size (by simp) (by simp)).trans HBX.out)
              have b0 : w6.cell? ⟨wr.heap.size, 0, none⟩ = some (.int .i64 p0) := by simp [World.cell?, hbx]
              have b1 : w6.cell? ⟨wr.heap.size, 1, none⟩ = some (.int .i64 a) := by simp [World.cell?, hbx]
              clear hown6 hg6 gB hbx
              go_wp2_with (at_builtin; (refine wpList_append_own _ rfl _ _ 27 rfl w3.heap.size 51 i0 (.agg #[.int .i64 0, .int .i64 0]) 2 16 Try.underlying27 hi hz0 hz1 hz2 rfl (by decide) _ _ _ rfl (hr6.alloc _) ⟨w6.heap.size, 0, none⟩ 1 1 [.int .i64 p0, .int .i64 a] rfl rfl (two_new _ _ (by simp) _ _ _) (one2 _ _) ?z3 ?z4 ?z5 ?_))
              case z3 => unfold maxLen; first | omega | (simp; omega)
              case z4 => first | omega | (simp; omega)
              case z5 => have := HB6.out.size; simp; omega
              intro v7 w7 hown7 hg7 _
              have gC := World.grownBy_alloc w6 (.cells #[.int .i64 p0, .int .i64 a] 51) none
              have HB7 : Hid (Below w3.heap.size w3 w7) := (HB6.out.trans (below_none gC HB6.out.size)).grown hg7 (by have := HB6.out.size; simp; omega) (fun j hj => (hr6.lt j hj).1)
              have HR7 : Hid (w7.ownsRow w3.heap.size 51 2 v7 (O ++ [(n, a)] ++ [(p0, a)]).length (cells2 (O ++ [(n, a)] ++ [(p0, a)]))) := by
                have : w7.ownsRow w3.heap.size 51 2 v7 (O ++ [(n, a)] ++ [(p0, a)]).length (cells2 (O ++ [(n, a)] ++ [(p0, a)])) := by rw [cells2_snoc]; simpa using hown7
                exact this
              have hO2 : O.length ≤ j := by have h := (HI.out.no rfl).1; rw [h]; exact List.length_take_le j M
              clear hown7 hg7 gA gC hr7 hr6
              go_wp2
              go_roundw
              case rel => exact ⟨j + 1, true, O ++ [(n, a)] ++ [(p0, a)], by omega, by go_num, rfl, HR7.out, HI2, by simp; omega, HB7⟩
              case measure => simp [intOf]; omega
            · have HI2 : Hid (Al.Inserting M n a (j + 1) false (O ++ [(p0, a)])) := by
                have : Al.Inserting M n a (j + 1) false (O ++ [(p0, a)]) := by rw [← HP.out]; exact HI.out.miss HJ.out (by rw [HP.out]; rintro (hh | ⟨_, hh⟩); exact h1 hh; exact h3 hh)
                exact this
              go_wp2_with (at_builtin; (refine wpList_append_own _ rfl _ _ 27 rfl w3.heap.size 51 i0 (.agg #[.int .i64 0, .int .i64 0]) 2 16 Try.underlying27 hi hz0 hz1 hz2 rfl (by decide) _ _ _ rfl ((hr7.alloc _).alloc _) ⟨wr.heap.size + 1, 0, none⟩ 1 1 [.int .i64 p0, .int .i64 a] rfl rfl (two_new _ _ (by simp) _ _ _) (one2 _ _) ?z3 ?z4 ?z5 ?_))
              case z3 => unfold maxLen; first | omega | (simp; omega)
              case z4 => first | omega | (simp; omega)
              case z5 => have := HB.out.size; simp; omega
              intro v7 w7 hown7 hg7 _
              have gB := World.grownBy_alloc (wr.alloc (.cells #[.int .i64 p0, .int .i64 a] 51)) (.cells #[.int .i64 p0, .int .i64 a] 51) none
              have HB7 : Hid (Below w3.heap.size w3 w7) := (HB.out.trans (below_none (grown_trans gA gB) HB.out.size)).grown hg7 (by have := HB.out.size; simp; omega) (fun j hj => (hr7.lt j hj).1)
              have HR7 : Hid (w7.ownsRow w3.heap.size 51 2 v7 (O ++ [(p0, a)]).length (cells2 (O ++ [(p0, a)]))) := by
                have : w7.ownsRow w3.heap.size 51 2 v7 (O ++ [(p0, a)]).length (cells2 (O ++ [(p0, a)])) := by rw [cells2_snoc]; simpa using hown7
                exact this
              clear hown7 hg7 gA gB hr7
              go_wp2
              go_roundw
              case rel => exact ⟨j + 1, false, O ++ [(p0, a)], by omega, by go_num, rfl, HR7.out, HI2, by simp; omega, HB7⟩
              case measure => simp [intOf]; omega
          · have HI2 : Hid (Al.Inserting M n a (j + 1) false (O ++ [(p0, p1)])) := by
              have : Al.Inserting M n a (j + 1) false (O ++ [(p0, p1)]) := by rw [← HP.out]; exact HI.out.miss HJ.out (by rw [HP.out]; rintro (hh | ⟨hh, _⟩); exact h1 hh; exact h2 hh)
              exact this
            go_wp2_with (at_builtin; (refine wpList_append_own _ rfl _ _ 27 rfl w3.heap.size 51 i0 (.agg #[.int .i64 0, .int .i64 0]) 2 16 Try.underlying27 hi hz0 hz1 hz2 rfl (by decide) _ _ _ rfl ((hr7.alloc _).alloc _) ⟨wr.heap.size + 1, 0, none⟩ 1 1 [.int .i64 p0, .int .i64 p1] rfl rfl (two_new _ _ (by simp) _ _ _) (one2 _ _) ?z3 ?z4 ?z5 ?_))
            case z3 => unfold maxLen; first | omega | (simp; omega)
            case z4 => first | omega | (simp; omega)
            case z5 => have := HB.out.size; simp; omega
            intro v7 w7 hown7 hg7 _
            have gB := World.grownBy_alloc (wr.alloc (.cells #[.int .i64 p0, .int .i64 p1] 51)) (.cells #[.int .i64 p0, .int .i64 p1] 51) none
            have HB7 : Hid (Below w3.heap.size w3 w7) := (HB.out.trans (below_none (grown_trans gA gB) HB.out.size)).grown hg7 (by have := HB.out.size; simp; omega) (fun j hj => (hr7.lt j hj).1)
            have HR7 : Hid (w7.ownsRow w3.heap.size 51 2 v7 (O ++ [(p0, p1)]).length (cells2 (O ++ [(p0, p1)]))) := by
              have : w7.ownsRow w3.heap.size 51 2 v7 (O ++ [(p0, p1)]).length (cells2 (O ++ [(p0, p1)])) := by rw [cells2_snoc]; simpa using hown7
              exact this
            clear hown7 hg7 gA gB hr7
            go_wp2
            go_roundw
            case rel => exact ⟨j + 1, false, O ++ [(p0, p1)], by omega, by go_num, rfl, HR7.out, HI2, by simp; omega, HB7⟩
            case measure => simp [intOf]; omega
    · obtain rfl : j = m := by omega
      cases put with
      | true =>
        have HO : Hid (O = Al.set L n a) := by
          have : O = Al.set L n a := by rw [HSET.out]; have h := HI.out; rw [← HM.out] at h; exact h.some_
          exact this
        rw [HO.out] at hr7
        obtain ⟨ao7, cp7, rfl⟩ := row_slice hr7
        have HRr : Hid (RefAt wr r (.slice ao M.length cp) M) := HR3.out.still (grown_of_below HB.out none)
        have HE : Hid (RefAt (wr.setCell ⟨r, 0, none⟩ (.slice ao7 (Al.set L n a).length cp7)) r (.slice ao7 (Al.set L n a).length cp7) (Al.set L n a) ∧ w1.grownBy (wr.setCell ⟨r, 0, none⟩ (.slice ao7 (Al.set L n a).length cp7)) (some r)) :=
          ⟨HRr.out.put hr7 hr3w, grown_trans HG3.out (grown_trans (grown_of_below HB.out _) (grown_setCell _ _ _ _))⟩
        obtain ⟨d0, d0f⟩ := HRr.out.cell
        clear hr7
        generalize (Al.set L n a).length = ml at HE d0 ⊢
        go_wp2
        go_ret
        exact ⟨_, rfl, HE.out⟩
      | false =>
        have HO : Hid (O ++ [(n, a)] = Al.set L n a) := by
          have : O ++ [(n, a)] = Al.set L n a := by rw [HSET.out]; have h := HI.out; rw [← HM.out] at h; exact h.none
          exact this
        go_wp2_with (at_builtin; (refine wpList_append_own _ rfl _ _ 27 rfl w3.heap.size 51 i0 (.agg #[.int .i64 0, .int .i64 0]) 2 16 Try.underlying27 hi hz0 hz1 hz2 rfl (by decide) _ _ _ rfl (hr7.alloc _) ⟨wr.heap.size, 0, none⟩ 1 1 [.int .i64 n, .int .i64 a] rfl rfl (two_new _ _ (by simp) _ _ _) (one2 _ _) ?z3 ?z4 ?z5 ?_))
        case z3 => unfold maxLen; first | omega | (simp; omega)
        case z4 => first | omega | (simp; omega)
        case z5 => have := HB.out.size; simp; omega
        intro v6 w6 hown6 hg6 _
        have gB := World.grownBy_alloc wr (.cells #[.int .i64 n, .int .i64 a] 51) none
        have HB6 : Hid (Below w3.heap.size w3 w6) := (HB.out.trans (below_none gB HB.out.size)).grown hg6 (by have := HB.out.size; simp; omega) (fun j hj => (hr7.lt j hj).1)
        have hr6 : w6.ownsRow w3.heap.size 51 2 v6 (Al.set L n a).length (cells2 (Al.set L n a)) := by
          rw [← HO.out, cells2_snoc]
          simpa using hown6
        clear hown6 hg6 gB hr7
        obtain ⟨ao7, cp7, rfl⟩ := row_slice hr6
        have HRr : Hid (RefAt w6 r (.slice ao M.length cp) M) := HR3.out.still (grown_of_below HB6.out none)
        have HE : Hid (RefAt (w6.setCell ⟨r, 0, none⟩ (.slice ao7 (Al.set L n a).length cp7)) r (.slice ao7 (Al.set L n a).length cp7) (Al.set L n a) ∧ w1.grownBy (w6.setCell ⟨r, 0, none⟩ (.slice ao7 (Al.set L n a).length cp7)) (some r)) :=
          ⟨HRr.out.put hr6 hr3w, grown_trans HG3.out (grown_trans (grown_of_below HB6.out _) (grown_setCell _ _ _ _))⟩
        obtain ⟨d0, d0f⟩ := HRr.out.cell
        clear hr6
        generalize (Al.set L n a).length = ml at HE d0 ⊢
        go_wp2
        go_ret
        exact ⟨_, rfl, HE.out⟩
end Go.Proofs.Ytlhobncpifklkaa
