/-
  The reference's Stop and Due.
-/
import Derived.Test.YtlhobncpifklkaaRef
namespace Go.Proofs.Ytlhobncpifklkaa
open Go.RowKit Go.Maps

set_option maxHeartbeats 1000000 in
set_option maxRecDepth 100000 in
theorem rstop_any {r : Nat} {v : Value} {L : List (Int × Int)} {n : Int} (w : World) (h : RefAt w r v L) (hG : Al.Good L) :
    Calls Try.prog 14 #[.pointer (some ⟨r, 0, none⟩), .int .i64 n] w fun e w' => ∃ v', e = .returned (.tuple #[.bool (Al.stopWas L n), .int .i64 (Al.stopErr n)]) ∧ RefAt w' r v' (Al.stopTo L n) ∧ w.grownBy w' (some r) := by
  unfold Al.stopWas Al.stopErr Al.stopTo
  have HL : Hid (L.length ≤ 257) := by have : L.length ≤ 257 := by have := hG.len; omega
                                       exact this
  have HR : Hid (RefAt w r v L) := h
  by_cases hf : Al.fits n
  · rw [if_pos hf, if_pos hf, if_pos hf]
    have HF : Hid (Al.fits n) := hf
    have HX : Hid (((Al.find L n).isSome = true ∧ 0 ≤ (Al.find L n).getD (-1)) ∨ ((Al.find L n).isSome = false ∧ ¬ 0 ≤ (Al.find L n).getD (-1))) := by
      cases hx : Al.find L n with
      | none => exact .inr ⟨rfl, by simp⟩
      | some x => exact .inl ⟨rfl, (hG.inside _ (Al.mem_of_find hx)).2.1⟩
    clear h hG hf
    go_enter Try.func14, Try.ntmps14
    go_wp2_with fail
    refine (big_yes _ HF.out).mono ?_
    rintro e w1 ⟨rfl, rfl⟩
    go_wp2_with fail
    refine (rfind_any n _ HR.out HL.out).mono ?_
    rintro e w2 ⟨rfl, hg2⟩
    have HR2 : Hid (RefAt w2 r v L) := HR.out.still hg2
    have HG2 : Hid (w1.grownBy w2 none) := hg2
    rcases HX.out with ⟨hs, hx⟩ | ⟨hs, hx⟩
    · have HS : Hid _ := hs
      have hxd : decide (0 ≤ (Al.find L n).getD (-1)) = true := by simp; omega
      generalize (Al.find L n).getD (-1) = fx at hx hxd ⊢
      clear hg2 hs HX
      go_wp2_with fail
      refine (rdrop_any n _ HR2.out HL.out).mono ?_
      rintro e w3 ⟨v3, rfl, hr3, hg3, _⟩
      have HE : Hid (RefAt w3 r v3 (Al.drop L n) ∧ w1.grownBy w3 (some r)) := ⟨hr3, grown_trans (grown_any HG2.out _) hg3⟩
      clear hr3 hg3
      go_wp2
      go_ret2
      rw [HS.out]
      first | exact ⟨_, rfl, HE.out⟩ | exact ⟨_, by rw [hxd]; rfl, HE.out⟩
    · have HS : Hid _ := hs
      have hxd : decide (0 ≤ (Al.find L n).getD (-1)) = false := by simp; omega
      generalize (Al.find L n).getD (-1) = fx at hx hxd ⊢
      clear hg2 hs HX
      go_wp2_with fail
      refine (rdrop_any n _ HR2.out HL.out).mono ?_
      rintro e w3 ⟨v3, rfl, hr3, hg3, _⟩
      have HE : Hid (RefAt w3 r v3 (Al.drop L n) ∧ w1.grownBy w3 (some r)) := ⟨hr3, grown_trans (grown_any HG2.out _) hg3⟩
      clear hr3 hg3
      go_wp2
      go_ret2
      rw [HS.out]
      first | exact ⟨_, rfl, HE.out⟩ | exact ⟨_, by rw [hxd]; rfl, HE.out⟩
  · rw [if_neg hf, if_neg hf, if_neg hf]
    have HF : Hid (¬ Al.fits n) := hf
    clear h hG hf
    go_enter Try.func14, Try.ntmps14
    go_wp2_with fail
    refine (big_no _ HF.out).mono ?_
    rintro e w1 ⟨rfl, rfl⟩
    go_wp2
    go_ret2
    exact ⟨_, rfl, HR.out, grown_refl _ _⟩

namespace Al
theorem due_more {L : List (Int × Int)} {j : Nat} (hj : j < L.length) (now : Int) : due (L.take (j + 1)) now = (if (L.getD j (0, 0)).2 ≤ now then due (L.take j) now ++ [(L.getD j (0, 0)).1] else due (L.take j) now) ∧ rest (L.take (j + 1)) now = if (L.getD j (0, 0)).2 ≤ now then rest (L.take j) now else rest (L.take j) now ++ [L.getD j (0, 0)] := by
  have e : L.getD j (0, 0) = L[j] := by simp [List.getD, hj]
  rw [List.take_succ_eq_append_getElem hj, e]
  unfold due rest
  rw [List.filter_append, List.filter_append, List.map_append]
  by_cases h : L[j].2 ≤ now
  · rw [if_pos h, if_pos h]
    have h' : ¬ now < L[j].2 := by omega
    simp [h, h']
  · rw [if_neg h, if_neg h]
    have h' : now < L[j].2 := by omega
    simp [h, h']
end Al

set_option maxHeartbeats 1000000 in
set_option maxRecDepth 100000 in
theorem rdue_any {r : Nat} {v : Value} {L : List (Int × Int)} {now : Int} (w : World) (h : RefAt w r v L) (hl : L.length ≤ 257) :
    Calls Try.prog 16 #[.pointer (some ⟨r, 0, none⟩), .int .i64 now] w fun e w' => ∃ v' u, e = .returned (.tuple #[u, .int .i64 (Al.dueErr now)]) ∧ w'.ownsRow w.heap.size 3 1 u (Al.dueOf L now).length ((Al.dueOf L now).map (Value.int .i64)) ∧ RefAt w' r v' (Al.dueTo L now) ∧ w.grownBy w' (some r) := by
  unfold Al.dueErr Al.dueOf Al.dueTo
  have HR : Hid (RefAt w r v L) := h
  by_cases hf : Al.fits now
  · rw [if_pos hf, if_pos hf, if_pos hf]
    have HF : Hid (Al.fits now) := hf
    obtain ⟨i0, hi, hz0, hz1, hz2⟩ := info_parts info51
    obtain ⟨j0, ji, jz0, jz1, jz2⟩ := info_parts info3
    obtain ⟨c0, _⟩ := h.cell
    have hr := h.lt
    obtain ⟨ao, cp, rfl⟩ := row_slice h.row
    obtain ⟨m, hm⟩ : ∃ m, L.length = m := ⟨_, rfl⟩
    have HM : Hid (L.length = m) := hm
    rw [hm] at c0 hl
    clear h hf hm
    go_enter Try.func16, Try.ntmps16
    go_wp2_with fail
    refine (big_yes _ HF.out).mono ?_
    rintro e w1 ⟨rfl, rfl⟩
    go_wp2
    go_loopw [6, 7, 18] (fun u6 u7 i wr => ∃ (j : Nat), j ≤ m ∧ i = .int .i64 j ∧ wr.ownsRow w1.heap.size 3 1 u6 (Al.due (L.take j) now).length ((Al.due (L.take j) now).map (Value.int .i64)) ∧ wr.ownsRow w1.heap.size 51 2 u7 (Al.rest (L.take j) now).length (cells2 (Al.rest (L.take j) now)) ∧ Hid (Below w1.heap.size w1 wr))
      (fun _ _ i _ => m - (intOf i).toNat)
    case atStart => exact ⟨0, Nat.zero_le _, rfl, World.ownsRow_nil _ _ _ _, World.ownsRow_nil _ _ _ _, Below.refl _ _⟩
    case round =>
      obtain ⟨j, hjm, rfl, hr6, hr7, HB⟩ := hrel
      by_cases hjl : j < m
      · have hjs : j < L.length := by have := HM.out; omega
        rcases HR.out.row.2 with ⟨e, h0⟩ | ⟨g, cp', cur, e, hbg, _⟩
        · have := HM.out
          omega
        injection e with e1 e2 e3
        subst e1 e3
        obtain ⟨q0, q1⟩ := row2_at HR.out.row hjs
        have k1 := (grown_of_below HB.out none).cell q0 (by simp)
        have k2 := (grown_of_below HB.out none).cell q1 (by simp)
        have hdm := Al.due_more hjs now
        have hlen : (Al.due (L.take j) now).length ≤ 257 ∧ (Al.rest (L.take j) now).length ≤ 257 := by
          have h1 : (Al.due (L.take j) now).length ≤ (L.take j).length := by unfold Al.due; rw [List.length_map]; exact List.length_filter_le _ _
          have h2 : (Al.rest (L.take j) now).length ≤ (L.take j).length := List.length_filter_le _ _
          have h3 := List.length_take_le j L
          omega
        generalize L.getD j (0, 0) = p at k1 k2 hdm
        generalize Al.due (L.take j) now = D at hr6 hdm hlen
        generalize Al.rest (L.take j) now = R at hr7 hdm hlen
        obtain ⟨p0, p1⟩ := p
        simp only at k1 k2 hdm
        obtain ⟨l1, l2⟩ := hlen
        have gA := World.grownBy_alloc wr (.cells #[.int .i64 p0, .int .i64 p1] 51) none
        clear q0 q1
        by_cases he : p1 ≤ now
        · rw [if_pos he, if_pos he] at hdm
          have HD : Hid (Al.due (L.take (j + 1)) now = D ++ [p0] ∧ Al.rest (L.take (j + 1)) now = R) := hdm
          clear hdm
          go_wp2_with (at_builtin; (refine wpList_append_own _ rfl _ _ 39 rfl w1.heap.size 3 j0 (.int .i64 0) 1 8 Try.underlying39 ji jz0 jz1 jz2 rfl (by decide) _ _ _ rfl ((hr6.alloc _).alloc _) ⟨wr.heap.size + 1, 0, none⟩ 1 1 [.int .i64 p0] rfl rfl (one_new_at _ _ (by simp) _ _) (ints_oneCell .i64 [p0]) ?z3 ?z4 ?z5 ?_))
          case z3 => unfold maxLen; first | omega | (simp; omega)
          case z4 => first | omega | (simp; omega)
          case z5 => have := HB.out.size; simp; omega
          intro v7 w7 hown7 hg7 _
          have gB := World.grownBy_alloc (wr.alloc (.cells #[.int .i64 p0, .int .i64 p1] 51)) (.cells #[.int .i64 p0] 3) none
          have HB7 : Hid (Below w1.heap.size w1 w7) := (HB.out.trans (below_none (grown_trans gA gB) HB.out.size)).grown hg7 (by have := HB.out.size; simp; omega) (fun j hj => (hr6.lt j hj).1)
          have HR7 : Hid (w7.ownsRow w1.heap.size 3 1 v7 (D ++ [p0]).length ((D ++ [p0]).map (Value.int .i64))) := by
            have : w7.ownsRow w1.heap.size 3 1 v7 (D ++ [p0]).length ((D ++ [p0]).map (Value.int .i64)) := by simpa using hown7
            exact this
          have HQ7 : Hid (w7.ownsRow w1.heap.size 51 2 u7 R.length (cells2 R)) := ((hr7.alloc _).alloc _).kept hg7 (rows_ne ((hr7.alloc (.cells #[.int .i64 p0, .int .i64 p1] 51)).alloc (.cells #[.int .i64 p0] 3)) ((hr6.alloc (.cells #[.int .i64 p0, .int .i64 p1] 51)).alloc (.cells #[.int .i64 p0] 3)) (by decide))
          clear hown7 hg7 gA gB hr6 hr7
          go_wp2
          go_roundw
          case rel => exact ⟨j + 1, by omega, by go_num, by rw [HD.out.1]; exact HR7.out, by rw [HD.out.2]; exact HQ7.out, HB7⟩
          case measure => simp [intOf]; omega
        · rw [if_neg he, if_neg he] at hdm
          have HD : Hid (Al.due (L.take (j + 1)) now = D ∧ Al.rest (L.take (j + 1)) now = R ++ [(p0, p1)]) := hdm
          clear hdm
          go_wp2_with (at_builtin; go_loud (refine wpList_append_own _ rfl _ _ 27 rfl w1.heap.size 51 i0 (.agg #[.int .i64 0, .int .i64 0]) 2 16 Try.underlying27 hi hz0 hz1 hz2 rfl (by decide) _ _ _ rfl ((hr7.alloc _).alloc _) ⟨wr.heap.size + 1, 0, none⟩ 1 1 [.int .i64 p0, .int .i64 p1] rfl rfl ?z1 ?z2 ?z3 ?z4 ?z5 ?_))
          try any_goals (first | exact two_new _ _ (by simp) _ _ _ | exact one2 _ _ | (refine And.intro ?_ ?_ <;> rfl))
          case z3 => unfold maxLen; first | omega | (simp; omega)
          case z4 => first | omega | (simp; omega)
          case z5 => have := HB.out.size; simp; omega
          intro v7 w7 hown7 hg7 _
          have gB := World.grownBy_alloc (wr.alloc (.cells #[.int .i64 p0, .int .i64 p1] 51)) (.cells #[.int .i64 p0, .int .i64 p1] 51) none
          have HB7 : Hid (Below w1.heap.size w1 w7) := (HB.out.trans (below_none (grown_trans gA gB) HB.out.size)).grown hg7 (by have := HB.out.size; simp; omega) (fun j hj => (hr7.lt j hj).1)
          have HR7 : Hid (w7.ownsRow w1.heap.size 51 2 v7 (R ++ [(p0, p1)]).length (cells2 (R ++ [(p0, p1)]))) := by
            have : w7.ownsRow w1.heap.size 51 2 v7 (R ++ [(p0, p1)]).length (cells2 (R ++ [(p0, p1)])) := by rw [cells2_snoc]; simpa using hown7
            exact this
          have HQ7 : Hid (w7.ownsRow w1.heap.size 3 1 u6 D.length (D.map (Value.int .i64))) := ((hr6.alloc _).alloc _).kept hg7 (rows_ne ((hr6.alloc (.cells #[.int .i64 p0, .int .i64 p1] 51)).alloc (.cells #[.int .i64 p0, .int .i64 p1] 51)) ((hr7.alloc (.cells #[.int .i64 p0, .int .i64 p1] 51)).alloc (.cells #[.int .i64 p0, .int .i64 p1] 51)) (by decide))
          clear hown7 hg7 gA gB hr6 hr7
          go_wp2
          go_roundw
          case rel => exact ⟨j + 1, by omega, by go_num, by rw [HD.out.1]; exact HQ7.out, by rw [HD.out.2]; exact HR7.out, HB7⟩
          case measure => simp [intOf]; omega
      · obtain rfl : j = m := by omega
        have eL : L.take j = L := by rw [← HM.out, List.take_length]
        rw [eL] at hr6 hr7
        clear eL
        obtain ⟨ao7, cp7, rfl⟩ := row_slice hr7
        have HRr : Hid (RefAt wr r (.slice ao L.length cp) L) := HR.out.still (grown_of_below HB.out none)
        have HE : Hid ((wr.setCell ⟨r, 0, none⟩ (.slice ao7 (Al.rest L now).length cp7)).ownsRow w1.heap.size 3 1 u6 (Al.due L now).length ((Al.due L now).map (Value.int .i64)) ∧ RefAt (wr.setCell ⟨r, 0, none⟩ (.slice ao7 (Al.rest L now).length cp7)) r (.slice ao7 (Al.rest L now).length cp7) (Al.rest L now) ∧ w1.grownBy (wr.setCell ⟨r, 0, none⟩ (.slice ao7 (Al.rest L now).length cp7)) (some r)) :=
          ⟨hr6.kept (grown_setCell _ _ _ _) (by
            rcases hv : u6.ownBlock with _ | q
            · exact .inl rfl
            · have := (hr6.lt q hv).1
              exact .inr (by simp; omega)), HRr.out.put hr7 hr, grown_trans (grown_of_below HB.out _) (grown_setCell _ _ _ _)⟩
        obtain ⟨d0, d0f⟩ := HRr.out.cell
        clear hr6 hr7
        generalize (Al.rest L now).length = ml at HE d0 ⊢
        go_wp2
        go_ret2
        exact ⟨_, _, rfl, HE.out⟩
  · rw [if_neg hf, if_neg hf, if_neg hf]
    have HF : Hid (¬ Al.fits now) := hf
    clear h hf
    go_enter Try.func16, Try.ntmps16
    go_wp2_with fail
    refine (big_no _ HF.out).mono ?_
    rintro e w1 ⟨rfl, rfl⟩
    go_wp2
    go_ret2
    exact ⟨_, _, rfl, World.ownsRow_nil _ _ _ _, HR.out, grown_refl _ _⟩
end Go.Proofs.Ytlhobncpifklkaa
