/-
  For any slice of steps sextonlaw03.AlarmSteps returns true, whatever the memory: step by step the clock answers as the reference. No condition.
-/
import Derived.Test.YtlhobncpifklkaaStepsA
import Derived.Deep.QuietTactic
import Derived.BigQuiet
import Derived.Deep.RegionHeld3
import Derived.Deep.CutRange
import Derived.Deep.CutBlock
namespace Go.Proofs.Ytlhobncpifklkaa
open Go.ChangeShapes Go.WideShapes Go.ChangeAt Go.RowKit Go.Maps Go.Deep

set_option maxHeartbeats 4000000 in
set_option maxRecDepth 100000 in
theorem steps_some (b off cap : Nat) (l : List (Int × Int × Int)) (w : World) (hok : okSteps l) (hB : b < w.heap.size) (hp : 0 < l.length) (hlc : l.length ≤ cap) (_hm : cap ≤ maxLen) (h600 : l.length ≤ 600)
    (hx : ∀ i, i < l.length → w.cell? ⟨b, off + i * 3, none⟩ = some (.int .i64 (l.getD i (0, 0, 0)).1) ∧ w.cell? ⟨b, off + i * 3 + 1, none⟩ = some (.int .i64 (l.getD i (0, 0, 0)).2.1) ∧ w.cell? ⟨b, off + i * 3 + 2, none⟩ = some (.int .i64 (l.getD i (0, 0, 0)).2.2)) :
    Calls Try.prog 3 #[.slice (some ⟨b, off, none⟩) l.length cap] w fun e w' => e = .returned (.bool true) ∧ Below w.heap.size w w' := by
  unfold maxLen at _hm
  obtain ⟨n, hn⟩ : ∃ n, l.length = n := ⟨_, rfl⟩
  have HOK : Hid (∀ i, i < n → i64r (l.getD i (0, 0, 0)).1 ∧ i64r (l.getD i (0, 0, 0)).2.1 ∧ i64r (l.getD i (0, 0, 0)).2.2) := fun i hi => hok.at (by omega)
  rw [hn] at hp hlc hx h600 ⊢
  have HX : Hid (∀ i, i < n → w.cell? ⟨b, off + i * 3, none⟩ = some (.int .i64 (l.getD i (0, 0, 0)).1) ∧ w.cell? ⟨b, off + i * 3 + 1, none⟩ = some (.int .i64 (l.getD i (0, 0, 0)).2.1) ∧ w.cell? ⟨b, off + i * 3 + 2, none⟩ = some (.int .i64 (l.getD i (0, 0, 0)).2.2)) := hx
  have h6' : ¬ ((600 : Int) < (n : Int)) := by omega
  clear hn hx hok
  go_enter Try.func3, Try.ntmps3
  go_wp2_with fail
  refine (new_ex _).mono ?_
  rintro e w1 ⟨s, bm, rfl, hs, hbm, hk, hg⟩
  have HB1 : Hid (Below w.heap.size w w1) := below_none hg (Nat.le_refl _)
  have hS : w.heap.size ≤ s ∧ w.heap.size ≤ bm ∧ s < w1.heap.size ∧ bm < w1.heap.size ∧ w.heap.size ≤ w1.heap.size := ⟨hs, hbm, hk.lt.1, hk.lt.2.1, hg.size⟩
  have HK1 : Hid (ClockAt w1 s bm []) := hk
  clear hs hbm hk hg
  go_wp2
  have ga := World.grownBy_alloc w1 (.cells #[.slice none 0 0] 29) none
  have HK2 : Hid (ClockAt (w1.alloc (.cells #[.slice none 0 0] 29)) s bm []) := HK1.out.kept ga (by simp) (by simp)
  have HB2 : Hid (Below w.heap.size w (w1.alloc (.cells #[.slice none 0 0] 29))) := HB1.out.trans (below_none ga HB1.out.size)
  have HR2 : Hid (RefAt (w1.alloc (.cells #[.slice none 0 0] 29)) w1.heap.size (.slice none 0 0) []) := ⟨heap_alloc_new _ _, World.ownsRow_nil _ _ _ _⟩
  clear HK1 HB1 ga
  obtain ⟨s1, s2, s3, s4, s5⟩ := hS
  generalize w1.alloc (.cells #[.slice none 0 0] 29) = w2 at HK2 HB2 HR2 ⊢
  generalize w1.heap.size = r at HR2 s3 s4 s5 ⊢
  go_loopw [36] (fun i wr => ∃ (k : Nat) (L : List (Int × Int)) (v : Value), k ≤ n ∧ i = .int .i64 k ∧ Hid (ClockAt wr s bm L) ∧ Hid (RefAt wr r v L) ∧ Hid (Below w.heap.size w wr))
    (fun i _ => n - (intOf i).toNat)
  case atStart => exact ⟨0, [], _, Nat.zero_le _, rfl, HK2, HR2, HB2⟩
  case round =>
    clear HK2 HB2 HR2
    obtain ⟨k, L, v, hkn, rfl, HK, HR, HB⟩ := hrel
    by_cases hlt : k < n
    · obtain ⟨c0, c1, c2⟩ := HX.out k hlt
      obtain ⟨_, HI1, _⟩ := HOK.out k hlt
      rw [← HB.out.cell (p := ⟨b, off + k * 3, none⟩) hB] at c0
      rw [← HB.out.cell (p := ⟨b, off + k * 3 + 1, none⟩) hB] at c1
      rw [← HB.out.cell (p := ⟨b, off + k * 3 + 2, none⟩) hB] at c2
      generalize l.getD k (0, 0, 0) = st at c0 c1 c2 HI1
      obtain ⟨x0, x1, x2⟩ := st
      simp only at c0 c1 c2 HI1
      have HI : Hid (-9223372036854775808 ≤ x1 ∧ x1 ≤ 9223372036854775807) := HI1
      have ga := World.grownBy_alloc wr (.cells #[.int .i64 x0, .int .i64 x1, .int .i64 x2] 31) none
      have HKb : Hid (ClockAt (wr.alloc (.cells #[.int .i64 x0, .int .i64 x1, .int .i64 x2] 31)) s bm L) := HK.out.kept ga (by simp) (by simp)
      have HRb : Hid (RefAt (wr.alloc (.cells #[.int .i64 x0, .int .i64 x1, .int .i64 x2] 31)) r v L) := HR.out.still ga
      have HBb : Hid (Below w.heap.size w (wr.alloc (.cells #[.int .i64 x0, .int .i64 x1, .int .i64 x2] 31))) := HB.out.trans (below_none ga HB.out.size)
      have HBX : Hid ((wr.alloc (.cells #[.int .i64 x0, .int .i64 x1, .int .i64 x2] 31)).heap[wr.heap.size]? = some (.cells #[.int .i64 x0, .int .i64 x1, .int .i64 x2] 31 (0, 0))) := heap_alloc_new _ _
      have hAw := HR.out.lt
      have hne1 : ¬ (r = wr.heap.size) := by omega
      have hne3 : ¬ (wr.heap.size = bm) := by omega
      have HXX : Hid (wr.heap.size < (wr.alloc (.cells #[.int .i64 x0, .int .i64 x1, .int .i64 x2] 31)).heap.size) := by
        have : wr.heap.size < (wr.alloc (.cells #[.int .i64 x0, .int .i64 x1, .int .i64 x2] 31)).heap.size := by simp
        exact this
      clear ga HI1
      have HG : Hid (Al.Good L) := HK.out.2.1
      go_upto_block 2 with fail
      go_cut [] from 37 to 187 (fun wc => ∃ (L : List (Int × Int)) (v : Value), Hid (ClockAt wc s bm L) ∧ Hid (RefAt wc r v L) ∧ Hid (Below w.heap.size w wc) ∧ Hid (wc.cell? ⟨wr.heap.size, 1, none⟩ = some (.int .i64 x1)))
      case first =>
        by_cases hw0 : x0 = 0
        · subst hw0
          as_aux_lemma =>
            have HSS : Hid ((wr.alloc (.cells #[.int .i64 0, .int .i64 x1, .int .i64 x2] 31)).cell? ⟨wr.heap.size, 1, none⟩ = some (.int .i64 x1) ∧ (wr.alloc (.cells #[.int .i64 0, .int .i64 x1, .int .i64 x2] 31)).cell? ⟨wr.heap.size, 2, none⟩ = some (.int .i64 x2)) := ⟨(three_of HBX.out).2.1, (three_of HBX.out).2.2⟩
            go_wp2_with fail
            go_region_held3 (fun w' => w'.cell? ⟨wr.heap.size, 1, none⟩ = some (.int .i64 x1) ∧ w'.cell? ⟨wr.heap.size, 2, none⟩ = some (.int .i64 x2)) (first | exact HSS.out | exact held_two (by assumption) (by assumption) (by omega)) (first | (go_at_call 11; refine (set_any (n := x1) (a := x2) _ HKb.out.drew).mono ?_; rintro e w3 ⟨rfl, hk3, hg3⟩) | (go_at_call 12; refine (rset_any (n := x1) (a := x2) _ (HRb.out.drew.past (by assumption) (by omega)) HG.out).mono ?_; rintro e w4 ⟨v4, rfl, hr4, hg4⟩))
            have HK4 : Hid (ClockAt w4 s bm (Al.setTo L x1 x2)) := hk3.kept hg4 (by simp; omega) (by simp; omega)
            have HR4 : Hid (RefAt w4 r v4 (Al.setTo L x1 x2)) := hr4
            have HB3 : Hid (Below w.heap.size w w3) := (below_drew1 HBb.out).trans (below_clock hg3 s2 (below_drew1 HBb.out).size)
            have HB4 : Hid (Below w.heap.size w w4) := HB3.out.trans (below_clock hg4 s5 HB3.out.size)
            have HX4 : Hid (w4.cell? ⟨wr.heap.size, 1, none⟩ = some (.int .i64 x1)) := hg4.cell (hg3.cell HSS.out.1 (by simp; omega)) (by simp; omega)
            clear hk3 hr4 hg3 hg4
            go_wp2
            go_meet
            case rel => exact ⟨_, _, HK4, HR4, HB4, HX4⟩
        by_cases hw1 : x0 = 1
        · subst hw1
          as_aux_lemma =>
            have HSS : Hid ((wr.alloc (.cells #[.int .i64 1, .int .i64 x1, .int .i64 x2] 31)).cell? ⟨wr.heap.size, 1, none⟩ = some (.int .i64 x1) ∧ (wr.alloc (.cells #[.int .i64 1, .int .i64 x1, .int .i64 x2] 31)).cell? ⟨wr.heap.size, 2, none⟩ = some (.int .i64 x2)) := ⟨(three_of HBX.out).2.1, (three_of HBX.out).2.2⟩
            go_wp2_with fail
            go_region_held3 (fun w' => w'.cell? ⟨wr.heap.size, 1, none⟩ = some (.int .i64 x1) ∧ w'.cell? ⟨wr.heap.size, 2, none⟩ = some (.int .i64 x2)) (first | exact HSS.out | exact held_two (by assumption) (by assumption) (by omega)) (first | (go_at_call 11; refine (set_any (n := x1) (a := x2) _ HKb.out.drew).mono ?_; rintro e w3 ⟨rfl, hk3, hg3⟩) | (go_at_call 12; refine (rset_any (n := x1) (a := x2) _ (HRb.out.drew.past (by assumption) (by omega)) HG.out).mono ?_; rintro e w4 ⟨v4, rfl, hr4, hg4⟩))
            have HK4 : Hid (ClockAt w4 s bm (Al.setTo L x1 x2)) := hk3.kept hg4 (by simp; omega) (by simp; omega)
            have HR4 : Hid (RefAt w4 r v4 (Al.setTo L x1 x2)) := hr4
            have HB3 : Hid (Below w.heap.size w w3) := (below_drew1 HBb.out).trans (below_clock hg3 s2 (below_drew1 HBb.out).size)
            have HB4 : Hid (Below w.heap.size w w4) := HB3.out.trans (below_clock hg4 s5 HB3.out.size)
            have HX4 : Hid (w4.cell? ⟨wr.heap.size, 1, none⟩ = some (.int .i64 x1)) := hg4.cell (hg3.cell HSS.out.1 (by simp; omega)) (by simp; omega)
            clear hk3 hr4 hg3 hg4
            go_wp2
            go_meet
            case rel => exact ⟨_, _, HK4, HR4, HB4, HX4⟩
        by_cases hw2 : x0 = 2
        · subst hw2
          as_aux_lemma =>
            have HSS : Hid ((wr.alloc (.cells #[.int .i64 2, .int .i64 x1, .int .i64 x2] 31)).cell? ⟨wr.heap.size, 1, none⟩ = some (.int .i64 x1)) := (three_of HBX.out).2.1
            go_wp2_with fail
            refine (stop_any (n := x1) _ HKb.out).mono ?_
            rintro e w3 ⟨rfl, hk3, hg3⟩
            have HK3 : Hid (ClockAt w3 s bm (Al.stopTo L x1)) := hk3
            have HG3 : Hid ((wr.alloc (.cells #[.int .i64 2, .int .i64 x1, .int .i64 x2] 31)).grownBy w3 (some bm)) := hg3
            have cx := hg3.cell HSS.out (by simp; omega)
            have HRr : Hid (RefAt w3 r v L) := HRb.out.past hg3 (by omega)
            clear hk3 hg3
            go_wp2_with fail
            refine (rstop_any (n := x1) _ HRr.out HG.out).mono ?_
            rintro e w4 ⟨v4, rfl, hr4, hg4⟩
            clear cx
            have HK4 : Hid (ClockAt w4 s bm (Al.stopTo L x1)) := HK3.out.kept hg4 (by simp; omega) (by simp; omega)
            have HR4 : Hid (RefAt w4 r v4 (Al.stopTo L x1)) := hr4
            have HB3 : Hid (Below w.heap.size w w3) := HBb.out.trans (below_clock HG3.out s2 HBb.out.size)
            have HB4 : Hid (Below w.heap.size w w4) := HB3.out.trans (below_clock hg4 s5 HB3.out.size)
            have HX4 : Hid (w4.cell? ⟨wr.heap.size, 1, none⟩ = some (.int .i64 x1)) := hg4.cell (HG3.out.cell HSS.out (by simp; omega)) (by simp; omega)
            clear hr4 hg4
            generalize Al.stopWas L x1 = sw
            generalize Al.stopErr x1 = se
            go_wp2
            go_meet
            case rel => exact ⟨_, _, HK4, HR4, HB4, HX4⟩
        by_cases hw3 : x0 = 3
        · subst hw3
          as_aux_lemma =>
            have HSS : Hid ((wr.alloc (.cells #[.int .i64 3, .int .i64 x1, .int .i64 x2] 31)).cell? ⟨wr.heap.size, 1, none⟩ = some (.int .i64 x1) ∧ (wr.alloc (.cells #[.int .i64 3, .int .i64 x1, .int .i64 x2] 31)).cell? ⟨wr.heap.size, 2, none⟩ = some (.int .i64 x2)) := ⟨(three_of HBX.out).2.1, (three_of HBX.out).2.2⟩
            go_wp2_with fail
            refine (due_any (now := x2) _ HKb.out).mono ?_
            rintro e w3 ⟨u3, rfl, ho3, hk3, hg3⟩
            have HK3 : Hid (ClockAt w3 s bm (Al.dueTo L x2)) := hk3
            have HG3 : Hid ((wr.alloc (.cells #[.int .i64 3, .int .i64 x1, .int .i64 x2] 31)).grownBy w3 (some bm)) := hg3
            have HU3 : Hid (IntsAt w3 u3 (Al.dueOf L x2)) := IntsAt.of_own ho3
            have HO3 : Hid (w3.ownsRow (wr.alloc (.cells #[.int .i64 3, .int .i64 x1, .int .i64 x2] 31)).heap.size 3 1 u3 (Al.dueOf L x2).length ((Al.dueOf L x2).map (Value.int .i64))) := ho3
            have cx := hg3.cell HSS.out.2 (by simp; omega)
            have HRr : Hid (RefAt w3 r v L) := HRb.out.past hg3 (by omega)
            clear hk3 hg3 ho3
            go_wp2_with fail
            refine (rdue_any (now := x2) _ HRr.out (Nat.le_trans HG.out.len (by decide))).mono ?_
            rintro e w4 ⟨v4, u4, rfl, ho4, hr4, hg4⟩
            clear cx
            have HU4 : Hid (IntsAt w4 u4 (Al.dueOf L x2)) := IntsAt.of_own ho4
            have HU34 : Hid (IntsAt w4 u3 (Al.dueOf L x2)) := HU3.out.kept hg4 (by
              intro j hj
              cases hj
              have hz := HR.out.lt
              rcases HO3.out.2 with ⟨rfl, _⟩ | ⟨g, cap, cur, rfl, hge, _⟩
              · simp [Value.ownBlock]
              · rw [World.size_alloc] at hge
                simp [Value.ownBlock]; omega)
            have HK4 : Hid (ClockAt w4 s bm (Al.dueTo L x2)) := HK3.out.kept hg4 (by simp; omega) (by simp; omega)
            have HR4 : Hid (RefAt w4 r v4 (Al.dueTo L x2)) := hr4
            have HB3 : Hid (Below w.heap.size w w3) := HBb.out.trans (below_clock HG3.out s2 HBb.out.size)
            have HB4 : Hid (Below w.heap.size w w4) := HB3.out.trans (below_clock hg4 s5 HB3.out.size)
            have HX4 : Hid (w4.cell? ⟨wr.heap.size, 1, none⟩ = some (.int .i64 x1)) := hg4.cell (HG3.out.cell HSS.out.1 (by simp; omega)) (by simp; omega)
            clear hr4 hg4 ho4
            generalize Al.dueErr x2 = se
            go_wp2_with fail
            refine (ints_same u3 u4 _ _ HU34.out HU4.out).mono ?_
            rintro e w5 ⟨rfl, hg5⟩
            have HK5 : Hid (ClockAt w5 s bm (Al.dueTo L x2)) := HK4.out.kept hg5 (by simp) (by simp)
            have HR5 : Hid (RefAt w5 r v4 (Al.dueTo L x2)) := HR4.out.still hg5
            have HB5 : Hid (Below w.heap.size w w5) := HB4.out.trans (below_none hg5 HB4.out.size)
            have HX5 : Hid (w5.cell? ⟨wr.heap.size, 1, none⟩ = some (.int .i64 x1)) := hg5.cell HX4.out (by simp)
            clear hg5
            go_wp2
            go_meet
            case rel => exact ⟨_, _, HK5, HR5, HB5, HX5⟩
        as_aux_lemma =>
          have HX4 : Hid ((wr.alloc (.cells #[.int .i64 x0, .int .i64 x1, .int .i64 x2] 31)).cell? ⟨wr.heap.size, 1, none⟩ = some (.int .i64 x1)) := (three_of HBX.out).2.1
          go_wp2
          go_meet
          case rel => exact ⟨_, _, HKb, HRb, HBb, HX4⟩

      case rest =>
        clear HKb HRb HBb HBX HK HR HB HG c0 c1 c2 HXX
        generalize wr.heap.size = X at hcut hne1 hne3 hAw ⊢
        obtain ⟨L, v, HKt, HRt, HBt, HXt⟩ := hcut
        have cx := HXt.out
        go_wp2_with fail
        refine (at_any _ HKt.out HI.out).mono ?_
        rintro e w8 ⟨rfl, rfl⟩
        clear cx
        go_wp2_with fail
        refine (next_any _ HKt.out).mono ?_
        rintro e w9 ⟨rfl, hg9⟩
        have HK9 : Hid (ClockAt w9 s bm L) := HKt.out.kept hg9 (by simp) (by simp)
        have HR9' : Hid (RefAt w9 r v L) := HRt.out.still hg9
        have HX9 : Hid (w9.cell? ⟨X, 1, none⟩ = some (.int .i64 x1)) := hg9.cell HXt.out (by simp)
        have HB9 : Hid (Below w.heap.size w w9) := HBt.out.trans (below_none hg9 HBt.out.size)
        have HLN : Hid (L.length ≤ 257) := Nat.le_trans HK9.out.2.1.len (by decide)
        obtain ⟨ao, cp, rfl⟩ := row_slice HR9'.out.row
        have HR9 : Hid (RefAt w9 r (.slice ao L.length cp) L) := HR9'
        have hx : ∀ p : Grw w9, p.out.cell? ⟨X, 1, none⟩ = some (.int .i64 x1) := fun p => p.grown.cell HX9.out (by simp)
        have hr9 : ∀ p : Grw w9, p.out.cell? ⟨r, 0, none⟩ = some (.slice ao L.length cp) := fun p => p.grown.cell HR9.out.cell.1 (by simp)
        have hne9 : Nonempty (Grw w9) := grw_some w9
        clear hg9 HKt HRt HBt HXt HR9'
        by_cases hm0 : L = []
        · subst hm0
          have HFD : Hid (Al.find [] x1 = none) := rfl
          have ef : Al.find [] x1 = none := rfl
          have en : Al.next [] = 0 := rfl
          have el : decide (0 < ([] : List (Int × Int)).length) = false := rfl
          rw [ef, en, el]
          simp only [Option.getD_none, Option.isSome_none]
          clear ef en el
          as_aux_lemma =>
            rw [show ([] : List (Int × Int)).length = 0 from rfl] at hr9
            go_wp2_with fail
            simp only [List.cons_append, List.nil_append, List.append_eq]
            refine wp_region_grw (by kernel_rfl) (by kernel_rfl) ?_
            repeat (go_big_quiet_step (first | (go_at_call 20; refine calls_grw (Grw.grown _) (rfind_none x1 _ (HR9.out.still (Grw.grown _)) HLN.out HFD.out)) | (go_at_call 21; refine calls_grw (Grw.grown _) (len_grw _ (HK9.out.kept (Grw.grown _) (by simp) (by simp))))))
            refine wpQuiet_nil ?_
            intro wq hwq
            have hgq : w9.grownBy wq none := by
              obtain ⟨p, rfl⟩ := hwq
              exact p.grown
            have HKq : Hid (ClockAt wq s bm []) := HK9.out.kept hgq (by simp) (by simp)
            have HRq : Hid (RefAt wq r _ []) := HR9.out.still hgq
            have HBq : Hid (Below w.heap.size w wq) := HB9.out.trans (below_none hgq HB9.out.size)
            clear hgq hx hr9 hwq
            go_wp2
            go_roundw
            case rel => exact ⟨k + 1, [], _, by omega, by go_num, HKq, HRq, HBq⟩
            case measure => simp [intOf]; omega

        · have hpos : 0 < L.length := List.length_pos_iff.2 hm0
          have hgx : ∃ g : Nat, ao = some ⟨g, 0, none⟩ ∧ w9.cell? ⟨g, 1, none⟩ = some (.int .i64 (Al.next L)) := by
            rcases HR9.out.row.2 with ⟨e, h0⟩ | ⟨g, cp', cur, e, _⟩
            · omega
            injection e with e1 e2 e3
            subst e1
            refine ⟨g, rfl, ?_⟩
            have hq := (row2_at HR9.out.row hpos).2
            rw [show (L.getD 0 (0, 0)).2 = Al.next L from by cases L <;> rfl] at hq
            simpa using hq
          obtain ⟨g, rfl, hgc9⟩ := hgx
          have hgc : ∀ p : Grw w9, p.out.cell? ⟨g, 1, none⟩ = some (.int .i64 (Al.next L)) := fun p => p.grown.cell hgc9 (by simp)
          rw [decide_eq_true hpos]
          have HLE : Hid (∀ W, w9.grownBy W none → Calls Try.prog 21 #[.pointer (some ⟨s, 0, none⟩)] W fun e w' => e = .returned (.int .i64 L.length) ∧ W.grownBy w' none) := fun W hW => len_grw _ (HK9.out.kept hW (by simp) (by simp))
          obtain ⟨m, hm⟩ : ∃ m, L.length = m := ⟨_, rfl⟩
          rw [hm] at HLE hr9 hpos
          have hpi : (0 : Int) < (m : Int) := by omega
          have hpd : decide ((0 : Int) < (m : Int)) = true := decide_eq_true hpi
          generalize Al.next L = nx at hgc ⊢
          clear hgc9 hm hm0
          cases hfd : Al.find L x1 with
          | none =>
            have HFD : Hid (Al.find L x1 = none) := hfd
            simp only [Option.getD_none, Option.isSome_none]
            clear hfd
            as_aux_lemma =>
              go_wp2_with fail
              simp only [List.cons_append, List.nil_append, List.append_eq]
              refine wp_region_grw (by kernel_rfl) (by kernel_rfl) ?_
              repeat (go_big_quiet_step (first | (go_at_call 20; refine calls_grw (Grw.grown _) (rfind_none x1 _ (HR9.out.still (Grw.grown _)) HLN.out HFD.out)) | (go_at_call 21; refine calls_grw (Grw.grown _) (HLE.out _ (Grw.grown _)))))
              refine wpQuiet_nil ?_
              intro wq hwq
              have hgq : w9.grownBy wq none := by
                obtain ⟨p, rfl⟩ := hwq
                exact p.grown
              have HKq : Hid (ClockAt wq s bm L) := HK9.out.kept hgq (by simp) (by simp)
              have HRq : Hid (RefAt wq r _ L) := HR9.out.still hgq
              have HBq : Hid (Below w.heap.size w wq) := HB9.out.trans (below_none hgq HB9.out.size)
              clear hgq hx hr9 hwq hgc
              go_wp2
              go_roundw
              case rel => exact ⟨k + 1, L, _, by omega, by go_num, HKq, HRq, HBq⟩
              case measure => simp [intOf]; omega
          | some a =>
            have HFD : Hid (Al.find L x1 = some a) := hfd
            simp only [Option.getD_some, Option.isSome_some]
            have ha : (0 : Int) ≤ a := (HK9.out.2.1.inside _ (Al.mem_of_find hfd)).2.1
            have had : decide ((0 : Int) ≤ a) = true := decide_eq_true ha
            clear hfd
            as_aux_lemma =>
              go_wp2_with fail
              simp only [List.cons_append, List.nil_append, List.append_eq]
              refine wp_region_grw (by kernel_rfl) (by kernel_rfl) ?_
              repeat (go_big_quiet_step (first | (go_at_call 20; refine calls_grw (Grw.grown _) (rfind_some x1 _ (HR9.out.still (Grw.grown _)) HLN.out HFD.out)) | (go_at_call 21; refine calls_grw (Grw.grown _) (HLE.out _ (Grw.grown _)))))
              refine wpQuiet_nil ?_
              intro wq hwq
              have hgq : w9.grownBy wq none := by
                obtain ⟨p, rfl⟩ := hwq
                exact p.grown
              have HKq : Hid (ClockAt wq s bm L) := HK9.out.kept hgq (by simp) (by simp)
              have HRq : Hid (RefAt wq r _ L) := HR9.out.still hgq
              have HBq : Hid (Below w.heap.size w wq) := HB9.out.trans (below_none hgq HB9.out.size)
              clear hgq hx hr9 hwq hgc
              go_wp2
              go_roundw
              case rel => exact ⟨k + 1, L, _, by omega, by go_num, HKq, HRq, HBq⟩
              case measure => simp [intOf]; omega

    · obtain rfl : k = n := by omega
      go_wp2_with fail
      refine (three_any _).mono ?_
      rintro e w9 ⟨rfl, hg9⟩
      have HB9 : Hid (Below w.heap.size w w9) := HB.out.trans (below_none hg9 HB.out.size)
      clear hg9
      go_wp2
      go_ret
      exact ⟨rfl, HB9.out⟩

set_option maxHeartbeats 1000000 in
set_option maxRecDepth 100000 in
theorem steps_none (ao : Option Addr) (cap : Nat) (w : World) : Calls Try.prog 3 #[.slice ao 0 cap] w fun e w' => e = .returned (.bool true) ∧ Below w.heap.size w w' := by
  go_enter Try.func3, Try.ntmps3
  go_wp2_with fail
  refine (new_ex _).mono ?_
  rintro e w1 ⟨s, bm, rfl, hs, hbm, hk, hg⟩
  have HB1 : Hid (Below w.heap.size w w1) := below_none hg (Nat.le_refl _)
  clear hs hbm hk hg
  go_wp2
  have ga := World.grownBy_alloc w1 (.cells #[.slice none 0 0] 29) none
  have HB2 : Hid (Below w.heap.size w (w1.alloc (.cells #[.slice none 0 0] 29))) := HB1.out.trans (below_none ga HB1.out.size)
  clear ga HB1
  generalize w1.alloc (.cells #[.slice none 0 0] 29) = w2 at HB2 ⊢
  refine wp_loop_rounds 1 ?_
  rw [rounds_succ]
  go_wp2_with fail
  refine (three_any _).mono ?_
  rintro e w9 ⟨rfl, hg9⟩
  have HB9 : Hid (Below w.heap.size w w9) := HB2.out.trans (below_none hg9 HB2.out.size)
  clear hg9
  go_wp2
  go_ret
  exact ⟨rfl, HB9.out⟩
set_option maxHeartbeats 1000000 in
set_option maxRecDepth 100000 in
theorem steps_long (p : Option Addr) (n cap : Nat) (w : World) (h : 600 < n) : Calls Try.prog 3 #[.slice p n cap] w fun e w' => e = .returned (.bool true) ∧ Below w.heap.size w w' := by
  have h' : (600 : Int) < (n : Int) := by omega
  go_enter Try.func3, Try.ntmps3
  go_wp2_with fail
  refine (new_ex _).mono ?_
  rintro e w1 ⟨s, bm, rfl, hs, hbm, hk, hg⟩
  have HB1 : Hid (Below w.heap.size w w1) := below_none hg (Nat.le_refl _)
  clear hs hbm hk hg
  go_wp2_with fail
  refine (three_any _).mono ?_
  rintro e w9 ⟨rfl, hg9⟩
  have HB9 : Hid (Below w.heap.size w w9) := HB1.out.trans (below_none hg9 HB1.out.size)
  clear hg9
  go_wp2
  go_ret
  exact ⟨rfl, HB9.out⟩

theorem steps_any (v : Value) (l : List (Int × Int × Int)) (w : World) (hok : okSteps l) (hv : StepsAt w v l) : Calls Try.prog 3 #[v] w fun e w' => e = .returned (.bool true) ∧ Below w.heap.size w w' := by
  rcases hv with ⟨ao, cap, rfl, rfl⟩ | ⟨b, off, cap, rfl, hB, hp, hc, hm, hx⟩
  · exact steps_none ao cap w
  · by_cases h : l.length ≤ 600
    · exact steps_some b off cap l w hok hB hp hc hm h hx
    · exact steps_long _ _ _ w (by omega)

set_option maxRecDepth 100000 in
theorem alarmSteps_lifted (os : Os) (started : os.Started) (H : Type) (enc : TypeId × Value → H) :
    ReturnsInHanded {} Try.checked os 3 .any (Rows.alarmStepsSpec.pre6 enc Try.prog Try.f3 Rows.alarmStepsRow.domain false) (Rows.alarmStepsSpec.post enc Try.prog Try.f3 false true false false) := by
  refine returnsInHanded_of_change (C := Try.checked) own started (by kernel_rfl) Try.func3
    (ChangeSpec.witness6 (enc := enc) (C := Try.checked) false ⟨#[], #[.slice none 0 0], []⟩ 8 (by kernel_rfl) (by kernel_rfl) (by kernel_rfl) (by kernel_rfl)) ?_
  intro W base args ds gs before hval0 hW hcnd _
  have hval : ∀ (j : Nat) t v, Try.f3.params[j]? = some t → args[j]? = some v → Value.okWide Try.prog W .any base t v := hval0
  have hW' := hW
  obtain ⟨p, q, hA0, hV, rfl, hfz, hnd⟩ := hW
  have hA : DataW.TrodAll enc Try.prog W 0 (fun _ => true) true Try.f3.params.toList args.toList ds p := hA0
  rw [Try.params3] at hA hval
  obtain ⟨v0, d0, rfl, rfl, h0⟩ := trodAll_one hA
  obtain ⟨rfl, rfl⟩ := trodVars_none hV
  obtain ⟨l, hl, hok⟩ := open_steps Try.underlying22 Try.underlying31 (by kernel_rfl) (by kernel_rfl) Try.underlying3 Try.underlying3 Try.underlying3 (okWide_slice Try.underlying22 (hval 0 22 v0 rfl rfl)) h0
  refine (steps_any v0 l W hok hl).mono fun e W' ⟨he, hg⟩ => ⟨_, he, ?_⟩
  exact Law.post laidOut (by kernel_rfl) rfl Try.underlying4 hW' rfl rfl hg

theorem alarmSteps_holds : Rows.AlarmStepsSaid :=
  OpenClaim.holds_of_wide 3 Try.f3 rfl rfl rfl rfl rfl rfl rfl ⟨rfl, rfl, rfl, rfl, rfl⟩ rfl rfl rfl rfl rfl (by kernel_rfl) Try.func3 (by kernel_rfl)
    (of_decide_eq_true (by kernel_rfl)) (by unfold Func.isWrapper; first | (rw [if_pos (by decide +kernel)]; kernel_rfl) | (rw [if_neg (by decide +kernel)]; exact ⟨rfl, rfl⟩))
    (fun os started H enc _ => alarmSteps_lifted os started H enc)
#print axioms alarmSteps_holds
end Go.Proofs.Ytlhobncpifklkaa
