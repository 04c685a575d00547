/-
  For any int and any two slices of ints sextonlaw06.PanelGrows returns true, whatever the memory: what enough nodes have reached is never less as nodes get further; enough have it, not enough have more. No condition.
-/
import Derived.Test.YtoplngccejkkcaaMeets
import Derived.Test.YtoplngccejkkcaaReaches
namespace Go.Proofs.Ytoplngccejkkcaa
open Go.ChangeShapes Go.WideShapes Go.ChangeAt Go.RowKit

set_option maxHeartbeats 400000 in
theorem grows_not (n : Int) (v1 v2 : Value) (w : World) (c : Calls Try.prog 21 #[.int .i64 n, v1] w fun x w' => x = .returned (.tuple #[.int .i64 0, .int .i64 1]) ∧ Below w.heap.size w w') : Calls Try.prog 8 #[.int .i64 n, v1, v2] w fun e w' => e = .returned (.bool true) ∧ Below w.heap.size w w' := by
  have C : Hid _ := c
  clear c
  go_enter Try.func8, Try.ntmps8
  go_wp2_with fail
  refine Calls.mono C.out ?_
  rintro x w1 ⟨rfl, hb⟩
  have HB : Hid (Below w.heap.size w w1) := hb
  clear hb
  go_wp2_with fail
  refine (five_any _).mono ?_
  rintro x w3 ⟨rfl, hb⟩
  have HB3 : Hid (Below w.heap.size w w3) := HB.out.trans (hb.mono HB.out.size)
  clear hb
  go_wp2
  go_ret
  exact ⟨rfl, HB3.out⟩

theorem Pn.nx_cases (l m : List Int) (j : Nat) : (m.length ≤ j ∧ Pn.nx l m j = l.getD j 0) ∨ (j < m.length ∧ ((m.getD j 0 ≤ l.getD j 0 ∧ Pn.nx l m j = l.getD j 0) ∨ (l.getD j 0 < m.getD j 0 ∧ 1099511627776 < m.getD j 0 ∧ Pn.nx l m j = l.getD j 0) ∨ (l.getD j 0 < m.getD j 0 ∧ m.getD j 0 ≤ 1099511627776 ∧ Pn.nx l m j = m.getD j 0))) := by
  unfold Pn.nx
  by_cases h1 : j < m.length
  · right
    refine ⟨h1, ?_⟩
    by_cases h2 : l.getD j 0 < m.getD j 0
    · by_cases h3 : m.getD j 0 ≤ 1099511627776
      · exact .inr (.inr ⟨h2, h3, if_pos ⟨h1, h2, h3⟩⟩)
      · exact .inr (.inl ⟨h2, by omega, if_neg (fun h => h3 h.2.2)⟩)
    · exact .inl ⟨by omega, if_neg (fun h => h2 h.2.1)⟩
  · exact .inl ⟨by omega, if_neg (fun h => h1 h.1)⟩
/-- One more ends. -/
theorem next_row {w' wr w2 : World} {u v' : Value} {l m : List Int} {j : Nat} {y : Int} (hrow : wr.ownsRow w'.heap.size 3 1 u j ((Pn.nexts l m j).map (Value.int .i64))) (hbl : Below w'.heap.size w' wr)
    (hown : w2.ownsRow w'.heap.size 3 1 v' (j + 1) ((Pn.nexts l m j).map (Value.int .i64) ++ [.int .i64 y])) (hg : (wr.alloc (.cells #[.int .i64 y] 3)).grownBy w2 u.ownBlock) (hy : Pn.nx l m j = y) :
    w2.ownsRow w'.heap.size 3 1 v' (j + 1) ((Pn.nexts l m (j + 1)).map (Value.int .i64)) ∧ Below w'.heap.size w' w2 := by
  have hga := grown_trans (World.grownBy_alloc wr (.cells #[.int .i64 y] 3) u.ownBlock) hg
  refine ⟨?_, hbl.grown hga hbl.size (fun j hj => (hrow.lt j hj).1)⟩
  rw [Pn.nexts_succ, hy]
  simpa using hown

set_option maxRecDepth 100000 in
set_option maxHeartbeats 8000000 in
theorem grows_go (b off cap : Nat) (l m : List Int) (v2 : Value) (f : Int) (w : World) (h : Pn.Is (l.length : Int) f) (hB : b < w.heap.size) (hc : ∀ j, j < l.length → w.cell? ⟨b, off + j, none⟩ = some (.int .i64 (l.getD j 0))) (ha : (l.any fun x => !Pn.fit x) = false) (hv : IntsAt w v2 m) :
    Calls Try.prog 8 #[.int .i64 (l.length : Int), .slice (some ⟨b, off, none⟩) l.length cap, v2] w fun e w' => e = .returned (.bool true) ∧ Below w.heap.size w w' := by
  have C : Hid _ := reached_ok b off cap l w h hB hc ha
  obtain ⟨i0, hi, hz0, hz1, hz2⟩ := info_parts info3
  obtain ⟨k, hf, hn, hk⟩ := h.nat
  subst hf
  have hlen : l.length = 2 * k + 1 := by omega
  have hfit : ∀ j, j < l.length → 0 ≤ l.getD j 0 ∧ l.getD j 0 ≤ 1099511627776 := by
    intro j hj
    have := List.any_eq_false.1 ha _ (Pn.getD_mem hj)
    simpa [Pn.fit] using this
  have hall : ((Pn.nexts l m l.length).any fun x => !Pn.fit x) = false := Pn.all_take (fun j hj => by
    rw [Pn.nexts_length] at hj
    have := Pn.nx_fits (m := m) (hfit j hj)
    have e : (Pn.nexts l m l.length).getD j 0 = Pn.nx l m j := by simp [Pn.nexts, List.getD, hj]
    rw [e]
    simpa [Pn.fit] using this)
  have H : Hid (Pn.Is (l.length : Int) k) := h
  have HL : Hid (l.length = 2 * k + 1 ∧ k ≤ 3 ∧ Pn.med l k ≤ Pn.med (Pn.nexts l m l.length) k ∧ k + 1 ≤ l.countP (fun c => decide (Pn.med l k ≤ c)) ∧ l.countP (fun c => decide (Pn.med l k < c)) ≤ k) := ⟨hlen, hk, Pn.med_grows hlen m, Pn.med_have hlen, Pn.med_above hlen⟩
  have HX : Hid (b < w.heap.size ∧ (∀ j, j < l.length → w.cell? ⟨b, off + j, none⟩ = some (.int .i64 (l.getD j 0))) ∧ ((Pn.nexts l m l.length).any fun x => !Pn.fit x) = false ∧ IntsAt w v2 m) := ⟨hB, hc, hall, hv⟩
  have l7 : (l.length : Int) ≤ 7 := by omega
  clear h hn hk hlen hfit hall hB hc ha
  obtain ⟨ao, cap2, rfl, hx2⟩ := hv.open
  have HX2 : Hid (∀ wr, Below w.heap.size w wr → ∀ j, j < m.length → ∃ b off, ao = some ⟨b, off, none⟩ ∧ wr.cell? ⟨b, off + j, none⟩ = some (.int .i64 (m.getD j 0))) := fun wr hw j hj => by
    obtain ⟨b', off', e, hcl⟩ := hx2 j hj
    exact ⟨b', off', e, (hw.cell (p := ⟨b', off' + j, none⟩) (World.block_lt_of_cell? _ _ hcl)).trans hcl⟩
  clear hv hx2
  rw [show ((k : Int)).toNat = k from by omega] at C
  go_enter Try.func8, Try.ntmps8
  go_wp2_with fail
  refine Calls.mono C.out ?_
  rintro x w1 ⟨rfl, hb⟩
  have HB1 : Hid (Below w.heap.size w w1) := hb
  have HC1 : Hid (∀ wr, Below w.heap.size w wr → ∀ j, j < l.length → wr.cell? ⟨b, off + j, none⟩ = some (.int .i64 (l.getD j 0))) := fun wr hw j hj => (hw.cell (p := ⟨b, off + j, none⟩) HX.out.1).trans (HX.out.2.1 j hj)
  have HN : Hid (Pn.Is (((Pn.nexts l m l.length).length : Nat) : Int) k) := by rw [Pn.nexts_length]; exact H.out
  have HXa : Hid (((Pn.nexts l m l.length).any fun x => !Pn.fit x) = false) := HX.out.2.2.1
  generalize hmed : Pn.med l k = a at *
  clear hb hmed HX C
  go_wp2
  go_loopw [9, 10, 11, 31] (fun v t u i wr => ∃ j : Nat, j ≤ l.length ∧ i = .int .i64 j ∧ t = .int .i64 ((l.take j).countP (fun c => decide (a ≤ c)) : Nat) ∧ u = .int .i64 ((l.take j).countP (fun c => decide (a < c)) : Nat) ∧ wr.ownsRow w.heap.size 3 1 v j ((Pn.nexts l m j).map (Value.int .i64)) ∧ Below w.heap.size w wr) (fun _ _ _ i _ => l.length - (intOf i).toNat)
  case atStart => exact ⟨0, Nat.zero_le _, rfl, rfl, rfl, World.ownsRow_nil _ _ _ _, HB1.out⟩
  case round =>
    obtain ⟨j, hj, rfl, rfl, rfl, hrow, hbl⟩ := hrel
    by_cases hlt : j < l.length
    · have c0 := HC1.out wr hbl j hlt
      have hltI : (j : Int) < (l.length : Int) := by omega
      have HT1 : Hid _ := Pn.count_take (fun c => decide (a ≤ c)) l j hlt
      have HT2 : Hid _ := Pn.count_take (fun c => decide (a < c)) l j hlt
      have le1 : (l.take j).countP (fun c => decide (a ≤ c)) ≤ j := Nat.le_trans List.countP_le_length (by simp; omega)
      have le2 : (l.take j).countP (fun c => decide (a < c)) ≤ j := Nat.le_trans List.countP_le_length (by simp; omega)
      have HXJ : Hid _ := HX2.out wr hbl j
      have HR : Hid (wr.ownsRow w.heap.size 3 1 u9 j ((Pn.nexts l m j).map (Value.int .i64))) := hrow
      have HBL : Hid (Below w.heap.size w wr) := hbl
      have hsz : w.heap.size ≤ wr.heap.size := hbl.size
      clear hrow hbl
      rcases Pn.nx_cases l m j with ⟨n1, hy⟩ | ⟨n1, ⟨n2, hy⟩ | ⟨n2, n3, hy⟩ | ⟨n2, n3, hy⟩⟩
      · have HY : Hid (Pn.nx l m j = l.getD j 0) := hy
        have n1I : ¬ (j : Int) < (m.length : Int) := by omega
        clear hy n1
        generalize l.getD j 0 = x at *
        generalize (l.take j).countP (fun c => decide (a ≤ c)) = q1 at *
        generalize (l.take j).countP (fun c => decide (a < c)) = q2 at *
        have q1I : (q1 : Int) ≤ 7 := by omega
        have q2I : (q2 : Int) ≤ 7 := by omega
        clear le1 le2
        rcases Int.lt_trichotomy x a with hxa | hxa | hxa
        · have g1 : ¬ a ≤ x := by omega
          have g2 : ¬ a < x := by omega
          clear hxa
          go_wp2_with (at_builtin; refine wpList_append_own _ rfl _ _ 35 rfl w.heap.size 3 i0 (.int .i64 0) 1 8 Try.underlying35 hi hz0 hz1 hz2 rfl (by decide) _ _ _ rfl (HR.out.alloc _) ⟨_, 0, none⟩ 1 1 [.int .i64 x] rfl rfl (one_new_at _ _ rfl _ _) ?c2 ?c3 ?c4 ?c5 ?_)
          case c2 => first | rfl | exact ints_oneCell .i64 [_]
          case c3 => unfold maxLen; omega
          case c4 => omega
          case c5 => first | omega | (simp; omega)
          intro v' w2 hown2 hg2 _
          obtain ⟨r1, r2⟩ := next_row HR.out HBL.out hown2 hg2 HY.out
          clear hown2 hg2
          go_wp2
          go_roundw
          case rel => exact ⟨j + 1, by omega, by go_num, by rw [HT1.out, if_neg (by simp; omega)]; rfl, by rw [HT2.out, if_neg (by simp; omega)]; rfl, r1, r2⟩
          case measure => simp [intOf]; omega
        · have g1 : a ≤ x := by omega
          have g2 : ¬ a < x := by omega
          clear hxa
          go_wp2_with (at_builtin; refine wpList_append_own _ rfl _ _ 35 rfl w.heap.size 3 i0 (.int .i64 0) 1 8 Try.underlying35 hi hz0 hz1 hz2 rfl (by decide) _ _ _ rfl (HR.out.alloc _) ⟨_, 0, none⟩ 1 1 [.int .i64 x] rfl rfl (one_new_at _ _ rfl _ _) ?c2 ?c3 ?c4 ?c5 ?_)
          case c2 => first | rfl | exact ints_oneCell .i64 [_]
          case c3 => unfold maxLen; omega
          case c4 => omega
          case c5 => first | omega | (simp; omega)
          intro v' w2 hown2 hg2 _
          obtain ⟨r1, r2⟩ := next_row HR.out HBL.out hown2 hg2 HY.out
          clear hown2 hg2
          go_wp2
          go_roundw
          case rel => exact ⟨j + 1, by omega, by go_num, by rw [HT1.out, if_pos (by simp; omega)]; go_num, by rw [HT2.out, if_neg (by simp; omega)]; rfl, r1, r2⟩
          case measure => simp [intOf]; omega
        · have g1 : a ≤ x := by omega
          have g2 : a < x := by omega
          clear hxa
          go_wp2_with (at_builtin; refine wpList_append_own _ rfl _ _ 35 rfl w.heap.size 3 i0 (.int .i64 0) 1 8 Try.underlying35 hi hz0 hz1 hz2 rfl (by decide) _ _ _ rfl (HR.out.alloc _) ⟨_, 0, none⟩ 1 1 [.int .i64 x] rfl rfl (one_new_at _ _ rfl _ _) ?c2 ?c3 ?c4 ?c5 ?_)
          case c2 => first | rfl | exact ints_oneCell .i64 [_]
          case c3 => unfold maxLen; omega
          case c4 => omega
          case c5 => first | omega | (simp; omega)
          intro v' w2 hown2 hg2 _
          obtain ⟨r1, r2⟩ := next_row HR.out HBL.out hown2 hg2 HY.out
          clear hown2 hg2
          go_wp2
          go_roundw
          case rel => exact ⟨j + 1, by omega, by go_num, by rw [HT1.out, if_pos (by simp; omega)]; go_num, by rw [HT2.out, if_pos (by simp; omega)]; go_num, r1, r2⟩
          case measure => simp [intOf]; omega
      · have HY : Hid (Pn.nx l m j = l.getD j 0) := hy
        obtain ⟨b2, o2, rfl, c2⟩ := HXJ.out n1
        have n1I : (j : Int) < (m.length : Int) := by omega
        clear hy
        generalize l.getD j 0 = x at *
        generalize m.getD j 0 = z at *
        have n2' : ¬ x < z := by omega
        clear n2
        generalize (l.take j).countP (fun c => decide (a ≤ c)) = q1 at *
        generalize (l.take j).countP (fun c => decide (a < c)) = q2 at *
        have q1I : (q1 : Int) ≤ 7 := by omega
        have q2I : (q2 : Int) ≤ 7 := by omega
        clear le1 le2
        rcases Int.lt_trichotomy x a with hxa | hxa | hxa
        · have g1 : ¬ a ≤ x := by omega
          have g2 : ¬ a < x := by omega
          clear hxa
          go_wp2_with (at_builtin; refine wpList_append_own _ rfl _ _ 35 rfl w.heap.size 3 i0 (.int .i64 0) 1 8 Try.underlying35 hi hz0 hz1 hz2 rfl (by decide) _ _ _ rfl (HR.out.alloc _) ⟨_, 0, none⟩ 1 1 [.int .i64 x] rfl rfl (one_new_at _ _ rfl _ _) ?c2 ?c3 ?c4 ?c5 ?_)
          case c2 => first | rfl | exact ints_oneCell .i64 [_]
          case c3 => unfold maxLen; omega
          case c4 => omega
          case c5 => first | omega | (simp; omega)
          intro v' w2 hown2 hg2 _
          obtain ⟨r1, r2⟩ := next_row HR.out HBL.out hown2 hg2 HY.out
          clear hown2 hg2
          go_wp2
          go_roundw
          case rel => exact ⟨j + 1, by omega, by go_num, by rw [HT1.out, if_neg (by simp; omega)]; rfl, by rw [HT2.out, if_neg (by simp; omega)]; rfl, r1, r2⟩
          case measure => simp [intOf]; omega
        · have g1 : a ≤ x := by omega
          have g2 : ¬ a < x := by omega
          clear hxa
          go_wp2_with (at_builtin; refine wpList_append_own _ rfl _ _ 35 rfl w.heap.size 3 i0 (.int .i64 0) 1 8 Try.underlying35 hi hz0 hz1 hz2 rfl (by decide) _ _ _ rfl (HR.out.alloc _) ⟨_, 0, none⟩ 1 1 [.int .i64 x] rfl rfl (one_new_at _ _ rfl _ _) ?c2 ?c3 ?c4 ?c5 ?_)
          case c2 => first | rfl | exact ints_oneCell .i64 [_]
          case c3 => unfold maxLen; omega
          case c4 => omega
          case c5 => first | omega | (simp; omega)
          intro v' w2 hown2 hg2 _
          obtain ⟨r1, r2⟩ := next_row HR.out HBL.out hown2 hg2 HY.out
          clear hown2 hg2
          go_wp2
          go_roundw
          case rel => exact ⟨j + 1, by omega, by go_num, by rw [HT1.out, if_pos (by simp; omega)]; go_num, by rw [HT2.out, if_neg (by simp; omega)]; rfl, r1, r2⟩
          case measure => simp [intOf]; omega
        · have g1 : a ≤ x := by omega
          have g2 : a < x := by omega
          clear hxa
          go_wp2_with (at_builtin; refine wpList_append_own _ rfl _ _ 35 rfl w.heap.size 3 i0 (.int .i64 0) 1 8 Try.underlying35 hi hz0 hz1 hz2 rfl (by decide) _ _ _ rfl (HR.out.alloc _) ⟨_, 0, none⟩ 1 1 [.int .i64 x] rfl rfl (one_new_at _ _ rfl _ _) ?c2 ?c3 ?c4 ?c5 ?_)
          case c2 => first | rfl | exact ints_oneCell .i64 [_]
          case c3 => unfold maxLen; omega
          case c4 => omega
          case c5 => first | omega | (simp; omega)
          intro v' w2 hown2 hg2 _
          obtain ⟨r1, r2⟩ := next_row HR.out HBL.out hown2 hg2 HY.out
          clear hown2 hg2
          go_wp2
          go_roundw
          case rel => exact ⟨j + 1, by omega, by go_num, by rw [HT1.out, if_pos (by simp; omega)]; go_num, by rw [HT2.out, if_pos (by simp; omega)]; go_num, r1, r2⟩
          case measure => simp [intOf]; omega
      · have HY : Hid (Pn.nx l m j = l.getD j 0) := hy
        obtain ⟨b2, o2, rfl, c2⟩ := HXJ.out n1
        have n1I : (j : Int) < (m.length : Int) := by omega
        clear hy
        generalize l.getD j 0 = x at *
        generalize m.getD j 0 = z at *
        have n3' : ¬ z ≤ 1099511627776 := by omega
        clear n3
        generalize (l.take j).countP (fun c => decide (a ≤ c)) = q1 at *
        generalize (l.take j).countP (fun c => decide (a < c)) = q2 at *
        have q1I : (q1 : Int) ≤ 7 := by omega
        have q2I : (q2 : Int) ≤ 7 := by omega
        clear le1 le2
        rcases Int.lt_trichotomy x a with hxa | hxa | hxa
        · have g1 : ¬ a ≤ x := by omega
          have g2 : ¬ a < x := by omega
          clear hxa
          go_wp2_with (at_builtin; refine wpList_append_own _ rfl _ _ 35 rfl w.heap.size 3 i0 (.int .i64 0) 1 8 Try.underlying35 hi hz0 hz1 hz2 rfl (by decide) _ _ _ rfl (HR.out.alloc _) ⟨_, 0, none⟩ 1 1 [.int .i64 x] rfl rfl (one_new_at _ _ rfl _ _) ?c2 ?c3 ?c4 ?c5 ?_)
          case c2 => first | rfl | exact ints_oneCell .i64 [_]
          case c3 => unfold maxLen; omega
          case c4 => omega
          case c5 => first | omega | (simp; omega)
          intro v' w2 hown2 hg2 _
          obtain ⟨r1, r2⟩ := next_row HR.out HBL.out hown2 hg2 HY.out
          clear hown2 hg2
          go_wp2
          go_roundw
          case rel => exact ⟨j + 1, by omega, by go_num, by rw [HT1.out, if_neg (by simp; omega)]; rfl, by rw [HT2.out, if_neg (by simp; omega)]; rfl, r1, r2⟩
          case measure => simp [intOf]; omega
        · have g1 : a ≤ x := by omega
          have g2 : ¬ a < x := by omega
          clear hxa
          go_wp2_with (at_builtin; refine wpList_append_own _ rfl _ _ 35 rfl w.heap.size 3 i0 (.int .i64 0) 1 8 Try.underlying35 hi hz0 hz1 hz2 rfl (by decide) _ _ _ rfl (HR.out.alloc _) ⟨_, 0, none⟩ 1 1 [.int .i64 x] rfl rfl (one_new_at _ _ rfl _ _) ?c2 ?c3 ?c4 ?c5 ?_)
          case c2 => first | rfl | exact ints_oneCell .i64 [_]
          case c3 => unfold maxLen; omega
          case c4 => omega
          case c5 => first | omega | (simp; omega)
          intro v' w2 hown2 hg2 _
          obtain ⟨r1, r2⟩ := next_row HR.out HBL.out hown2 hg2 HY.out
          clear hown2 hg2
          go_wp2
          go_roundw
          case rel => exact ⟨j + 1, by omega, by go_num, by rw [HT1.out, if_pos (by simp; omega)]; go_num, by rw [HT2.out, if_neg (by simp; omega)]; rfl, r1, r2⟩
          case measure => simp [intOf]; omega
        · have g1 : a ≤ x := by omega
          have g2 : a < x := by omega
          clear hxa
          go_wp2_with (at_builtin; refine wpList_append_own _ rfl _ _ 35 rfl w.heap.size 3 i0 (.int .i64 0) 1 8 Try.underlying35 hi hz0 hz1 hz2 rfl (by decide) _ _ _ rfl (HR.out.alloc _) ⟨_, 0, none⟩ 1 1 [.int .i64 x] rfl rfl (one_new_at _ _ rfl _ _) ?c2 ?c3 ?c4 ?c5 ?_)
          case c2 => first | rfl | exact ints_oneCell .i64 [_]
          case c3 => unfold maxLen; omega
          case c4 => omega
          case c5 => first | omega | (simp; omega)
          intro v' w2 hown2 hg2 _
          obtain ⟨r1, r2⟩ := next_row HR.out HBL.out hown2 hg2 HY.out
          clear hown2 hg2
          go_wp2
          go_roundw
          case rel => exact ⟨j + 1, by omega, by go_num, by rw [HT1.out, if_pos (by simp; omega)]; go_num, by rw [HT2.out, if_pos (by simp; omega)]; go_num, r1, r2⟩
          case measure => simp [intOf]; omega
      · have HY : Hid (Pn.nx l m j = m.getD j 0) := hy
        obtain ⟨b2, o2, rfl, c2⟩ := HXJ.out n1
        have n1I : (j : Int) < (m.length : Int) := by omega
        clear hy
        generalize l.getD j 0 = x at *
        generalize m.getD j 0 = z at *
        generalize (l.take j).countP (fun c => decide (a ≤ c)) = q1 at *
        generalize (l.take j).countP (fun c => decide (a < c)) = q2 at *
        have q1I : (q1 : Int) ≤ 7 := by omega
        have q2I : (q2 : Int) ≤ 7 := by omega
        clear le1 le2
        rcases Int.lt_trichotomy x a with hxa | hxa | hxa
        · have g1 : ¬ a ≤ x := by omega
          have g2 : ¬ a < x := by omega
          clear hxa
          go_wp2_with (at_builtin; refine wpList_append_own _ rfl _ _ 35 rfl w.heap.size 3 i0 (.int .i64 0) 1 8 Try.underlying35 hi hz0 hz1 hz2 rfl (by decide) _ _ _ rfl (HR.out.alloc _) ⟨_, 0, none⟩ 1 1 [.int .i64 z] rfl rfl (one_new_at _ _ rfl _ _) ?c2 ?c3 ?c4 ?c5 ?_)
          case c2 => first | rfl | exact ints_oneCell .i64 [_]
          case c3 => unfold maxLen; omega
          case c4 => omega
          case c5 => first | omega | (simp; omega)
          intro v' w2 hown2 hg2 _
          obtain ⟨r1, r2⟩ := next_row HR.out HBL.out hown2 hg2 HY.out
          clear hown2 hg2
          go_wp2
          go_roundw
          case rel => exact ⟨j + 1, by omega, by go_num, by rw [HT1.out, if_neg (by simp; omega)]; rfl, by rw [HT2.out, if_neg (by simp; omega)]; rfl, r1, r2⟩
          case measure => simp [intOf]; omega
        · have g1 : a ≤ x := by omega
          have g2 : ¬ a < x := by omega
          clear hxa
          go_wp2_with (at_builtin; refine wpList_append_own _ rfl _ _ 35 rfl w.heap.size 3 i0 (.int .i64 0) 1 8 Try.underlying35 hi hz0 hz1 hz2 rfl (by decide) _ _ _ rfl (HR.out.alloc _) ⟨_, 0, none⟩ 1 1 [.int .i64 z] rfl rfl (one_new_at _ _ rfl _ _) ?c2 ?c3 ?c4 ?c5 ?_)
          case c2 => first | rfl | exact ints_oneCell .i64 [_]
          case c3 => unfold maxLen; omega
          case c4 => omega
          case c5 => first | omega | (simp; omega)
          intro v' w2 hown2 hg2 _
          obtain ⟨r1, r2⟩ := next_row HR.out HBL.out hown2 hg2 HY.out
          clear hown2 hg2
          go_wp2
          go_roundw
          case rel => exact ⟨j + 1, by omega, by go_num, by rw [HT1.out, if_pos (by simp; omega)]; go_num, by rw [HT2.out, if_neg (by simp; omega)]; rfl, r1, r2⟩
          case measure => simp [intOf]; omega
        · have g1 : a ≤ x := by omega
          have g2 : a < x := by omega
          clear hxa
          go_wp2_with (at_builtin; refine wpList_append_own _ rfl _ _ 35 rfl w.heap.size 3 i0 (.int .i64 0) 1 8 Try.underlying35 hi hz0 hz1 hz2 rfl (by decide) _ _ _ rfl (HR.out.alloc _) ⟨_, 0, none⟩ 1 1 [.int .i64 z] rfl rfl (one_new_at _ _ rfl _ _) ?c2 ?c3 ?c4 ?c5 ?_)
          case c2 => first | rfl | exact ints_oneCell .i64 [_]
          case c3 => unfold maxLen; omega
          case c4 => omega
          case c5 => first | omega | (simp; omega)
          intro v' w2 hown2 hg2 _
          obtain ⟨r1, r2⟩ := next_row HR.out HBL.out hown2 hg2 HY.out
          clear hown2 hg2
          go_wp2
          go_roundw
          case rel => exact ⟨j + 1, by omega, by go_num, by rw [HT1.out, if_pos (by simp; omega)]; go_num, by rw [HT2.out, if_pos (by simp; omega)]; go_num, r1, r2⟩
          case measure => simp [intOf]; omega
    · obtain rfl : j = l.length := by omega
      rw [List.take_length]
      have HBR : Hid (Below w.heap.size w wr) := hbl
      have hle := HL.out
      have HRI : Hid (IntsAt wr u9 (Pn.nexts l m l.length)) := IntsAt.of_own (n := l.length) hrow
      have hlt2 := hrow.lt
      rcases hrow.2 with ⟨rfl, h0⟩ | ⟨g, cap', cur, rfl, hbg, hg, hnc, hcm, hcs, htake⟩
      · omega
      have hcl : ∀ i, i < (Pn.nexts l m l.length).length → wr.cell? ⟨g, 0 + i, none⟩ = some (.int .i64 ((Pn.nexts l m l.length).getD i 0)) := by
        rcases HRI.out with ⟨_, _, he, h0⟩ | ⟨b', off', cap2', he, _, _, _, _, hx'⟩
        · have := Pn.nexts_length l m l.length
          rw [h0] at this
          simp at this
          omega
        · simp only [Value.slice.injEq, Option.some.injEq, Addr.mk.injEq, and_true] at he
          obtain ⟨⟨rfl, rfl⟩, _, rfl⟩ := he
          exact hx'
      have CR : Hid _ := reached_ok g 0 cap' (Pn.nexts l m l.length) wr HN.out (hlt2 g rfl).2 hcl HXa.out
      rw [Pn.nexts_length, show ((k : Int)).toNat = k from by omega] at CR
      have g1 : (l.length : Int) < 2 * ((l.countP (fun c => decide (a ≤ c)) : Nat) : Int) := by omega
      have g2 : 2 * ((l.countP (fun c => decide (a < c)) : Nat) : Int) ≤ (l.length : Int) := by omega
      have g5 : l.countP (fun c => decide (a ≤ c)) ≤ 7 := Nat.le_trans List.countP_le_length (by omega)
      have g6 : l.countP (fun c => decide (a < c)) ≤ 7 := Nat.le_trans List.countP_le_length (by omega)
      have g3 := hle.2.2.1
      generalize l.countP (fun c => decide (a ≤ c)) = q1 at *
      generalize l.countP (fun c => decide (a < c)) = q2 at *
      generalize Pn.med (Pn.nexts l m l.length) k = a' at *
      have q1I : (q1 : Int) ≤ 7 := by omega
      have q2I : (q2 : Int) ≤ 7 := by omega
      clear hle hg hnc hcm hcs htake hcl HRI hlt2 hrow hbl HL
      go_wp2_with fail
      refine Calls.mono CR.out ?_
      rintro x w2 ⟨rfl, hb⟩
      have HB2 : Hid (Below w.heap.size w w2) := HBR.out.trans (hb.mono HBR.out.size)
      clear hb
      go_wp2_with fail
      refine (five_any _).mono ?_
      rintro x w3 ⟨rfl, hb⟩
      have HB3 : Hid (Below w.heap.size w w3) := HB2.out.trans (hb.mono HB2.out.size)
      clear hb
      go_wp2
      go_ret
      exact ⟨rfl, HB3.out⟩

theorem grows_any (n : Int) (v1 v2 : Value) (l m : List Int) (w : World) (h1 : IntsAt w v1 l) (h2 : IntsAt w v2 m) : Calls Try.prog 8 #[.int .i64 n, v1, v2] w fun e w' => e = .returned (.bool true) ∧ Below w.heap.size w w' := by
  rcases Pn.either n with h | ⟨f, h⟩
  · exact grows_not n v1 v2 w ((reached_no v1 w h).mono fun _ _ ⟨he, hw⟩ => ⟨he, by rw [hw]; exact Below.refl _ _⟩)
  by_cases hl : (l.length : Int) = n
  · subst hl
    rcases h1 with ⟨ao, cap, rfl, rfl⟩ | ⟨b, off, cap, rfl, hB, hp, hlc, hm, hx⟩
    · exfalso
      rcases h with ⟨h, _⟩ | ⟨h, _⟩ | ⟨h, _⟩ | ⟨h, _⟩ <;> simp at h
    · cases ha : (l.any fun x => !Pn.fit x) with
      | true => exact grows_not _ _ v2 w ((reached_arg b off cap l w h hx ha).mono fun _ _ ⟨he, q, hw⟩ => ⟨he, by rw [hw]; exact Go.below_drewN (Below.refl _ _) q⟩)
      | false => exact grows_go b off cap l m v2 f w h hB hx ha h2
  · obtain ⟨ao, cap, rfl, _⟩ := h1.open
    exact grows_not n _ v2 w ((reached_len ao _ cap w h hl).mono fun _ _ ⟨he, hw⟩ => ⟨he, by rw [hw]; exact Below.refl _ _⟩)

set_option maxRecDepth 100000 in
theorem panelGrows_lifted (os : Os) (started : os.Started) (H : Type) (enc : TypeId × Value → H) :
    ReturnsInHanded {} Try.checked os 8 .any (Rows.panelGrowsSpec.pre6 enc Try.prog Try.f8 Rows.panelGrowsRow.domain false) (Rows.panelGrowsSpec.post enc Try.prog Try.f8 false true false false) := by
  refine returnsInHanded_of_change (C := Try.checked) own started (by kernel_rfl) Try.func8
    (ChangeSpec.witness6 (enc := enc) (C := Try.checked) false ⟨#[], #[.int .i64 0, .slice none 0 0, .slice none 0 0], []⟩ 8 (by kernel_rfl) (by kernel_rfl) (by kernel_rfl) (by kernel_rfl)) ?_
  intro W base args ds gs before hval0 hW hcnd _
  have hval : ∀ (j : Nat) t v, Try.f8.params[j]? = some t → args[j]? = some v → Value.okWide Try.prog W .any base t v := hval0
  have hW' := hW
  obtain ⟨p, q, hA0, hV, rfl, hfz, hnd⟩ := hW
  have hA : DataW.TrodAll enc Try.prog W 0 (fun _ => true) true Try.f8.params.toList args.toList ds p := hA0
  rw [Try.params8] at hA hval
  obtain ⟨v0, v1, v2, d0, d1, d2, p0, p1, p2, rfl, rfl, rfl, h0, h1, h2⟩ := trodAll_three hA
  obtain ⟨rfl, rfl⟩ := trodVars_none hV
  obtain ⟨a, rfl, rfl, rfl, w0⟩ := open_int Try.underlying3 (hval 0 3 v0 rfl rfl) h0
  obtain ⟨l, hl, _⟩ := open_intsAt (hval 1 35 v1 rfl rfl) h1
  obtain ⟨m, hm, _⟩ := open_intsAt (hval 2 35 v2 rfl rfl) h2
  refine (grows_any a v1 v2 l m W hl hm).mono fun e W' ⟨he, hg⟩ => ⟨_, he, ?_⟩
  exact Law.post laidOut (by kernel_rfl) rfl Try.underlying4 hW' rfl rfl hg

theorem panelGrows_holds : Rows.PanelGrowsSaid :=
  OpenClaim.holds_of_wide 8 Try.f8 rfl rfl rfl rfl rfl rfl rfl ⟨rfl, rfl, rfl, rfl, rfl⟩ rfl rfl rfl rfl rfl (by kernel_rfl) Try.func8 (by kernel_rfl)
    (of_decide_eq_true (by kernel_rfl)) (by unfold Func.isWrapper; first | (rw [if_pos (by decide +kernel)]; kernel_rfl) | (rw [if_neg (by decide +kernel)]; exact ⟨rfl, rfl⟩))
    (fun os started H enc _ => panelGrows_lifted os started H enc)
#print axioms panelGrows_holds
end Go.Proofs.Ytoplngccejkkcaa
