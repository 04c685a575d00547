/-
  TallySteps: for every number of nodes and every list of steps the call answers true, and the arguments read as before. No condition.
-/
import Derived.Test.YtdcknokggjbebaaYSS
import Derived.Test.YtdcknokggjbebaaLaw
import Derived.Deep.Cut
namespace Go.Proofs.Ytdcknokggjbebaa
open Go.ChangeShapes Go.WideShapes Go.ChangeAt Go.RowKit Go.Deep

set_option maxRecDepth 100000 in
set_option maxHeartbeats 64000000 in
theorem steps_any (m : Int) (v : Value) (l : List (Int × Bd)) (w : World) (hv : AtW ES w v l) : Calls Try.prog 3 #[.int .i64 m, v] w fun e w' => e = .returned (.bool true) ∧ Below w.heap.size w w' := by
  obtain ⟨ao, cap, rfl, hm, hx⟩ := hv.open
  unfold maxLen at hm
  obtain ⟨n, hn⟩ : ∃ n, l.length = n := ⟨_, rfl⟩
  have HN : Hid (l.length = n) := hn
  rw [hn] at hm ⊢
  have HX : Hid (OverS w ao l) := hx
  obtain ⟨i0, hi, hz0, hz1, hz2⟩ := info_parts info3
  clear hn hx hv
  rcases Pn.either m with hno | ⟨f, his⟩
  · have HNO : Hid (Pn.No m) := hno
    clear hno
    go_enter Try.func3, Try.ntmps3
    go_wp2_with fail
    refine (tnew_no _ HNO.out).mono ?_
    rintro e w1 ⟨rfl, rfl⟩
    go_wp2_with fail
    refine (rnew_no _ HNO.out).mono ?_
    rintro e w1 ⟨rfl, rfl⟩
    go_wp2_with fail
    refine (two_any _).mono ?_
    rintro e wz ⟨rfl, hb⟩
    have HBZ : Hid (Below w1.heap.size w1 wz) := (Below.refl w1.heap.size w1).trans (hb.mono (Below.refl w1.heap.size w1).size)
    clear hb
    go_wp2
    go_ret
    exact ⟨rfl, HBZ.out⟩
  · have HIS : Hid (Pn.Is m f) := his
    clear his
    go_enter Try.func3, Try.ntmps3
    go_wp2_with fail
    refine (tnew_yes _ HIS.out).mono ?_
    rintro e w1 ⟨rfl, ht1, hg1⟩
    have HT1 : Hid (TA w1 (w.heap.size + 1) w.heap.size m f []) := ht1
    have HG1 : Hid (w.grownBy w1 none) := hg1
    clear ht1 hg1
    go_wp2_with fail
    refine (rnew_yes _ HIS.out).mono ?_
    rintro e w2 ⟨rfl, hw2⟩
    obtain ⟨s1, hs1⟩ : ∃ s1, w.heap.size + 1 = s1 := ⟨_, rfl⟩
    obtain ⟨b1, hb1⟩ : ∃ b1, w.heap.size = b1 := ⟨_, rfl⟩
    obtain ⟨s2, hs2⟩ : ∃ s2, w1.heap.size = s2 := ⟨_, rfl⟩
    obtain ⟨B0, hB0⟩ : ∃ B0, w1.heap.size + 1 = B0 := ⟨_, rfl⟩
    have HSS0 : Hid (SS w w2 s1 b1 s2 B0 m f []) := by
      have h1 := HT1.out
      have h2 := ra_new w1 m
      have hg : w1.grownBy w2 none := by rw [hw2]; exact World.grownBy_alloc _ _ none
      rw [← hw2] at h2
      have hl := h1.lt
      rw [hs1, hb1] at h1 hl
      rw [hB0, hs2] at h2
      refine ⟨h1.still hg, h2, ⟨by omega, by omega⟩, ⟨by omega, by have := HG1.out.size; omega⟩, (below_none HG1.out (Nat.le_refl _)).trans ((below_none hg (Nat.le_refl _)).mono HG1.out.size)⟩
    rw [hs1, hs2]
    clear hw2 hs1 hb1 hs2 hB0 HT1 HG1
    by_cases hbig : 400 < n
    · have hbig' : (400 : Int) < (n : Int) := by omega
      go_wp2_with fail
      refine (two_any _).mono ?_
      rintro e wz ⟨rfl, hb⟩
      have HBZ : Hid (Below w.heap.size w wz) := HSS0.out.bel.trans (hb.mono HSS0.out.bel.size)
      clear hb
      go_wp2
      go_ret
      exact ⟨rfl, HBZ.out⟩
    · have hbig' : ¬ (400 : Int) < (n : Int) := by omega
      have hn400 : n ≤ 400 := by omega
      clear hm hbig
      go_wp2
      go_loopw [56] (fun i wr => ∃ (k : Nat) (L : List Bd), k ≤ n ∧ i = .int .i64 k ∧ Hid (SS w wr s1 b1 s2 B0 m f L)) (fun i _ => n - (intOf i).toNat)
      case atStart => exact ⟨0, [], Nat.zero_le _, rfl, HSS0.out⟩
      case round =>
      obtain ⟨k, L, hk, rfl, HSK⟩ := hrel
      have HL : Hid (L.length ≤ 7) := HSK.out.len
      by_cases hlt : k < n
      · obtain ⟨x, hxk⟩ : ∃ x, l[k]? = some x := ⟨_, List.getElem?_eq_getElem (by rw [HN.out]; exact hlt)⟩
        obtain ⟨bb, off, rfl, -, hB, hc⟩ := HX.out k x hxk
        obtain ⟨c0, c1, c2, c3⟩ := st_cells HSK.out.bel hB hc
        have hlt' : (k : Int) < (n : Int) := by omega
        obtain ⟨V, hV⟩ : ∃ V, wr.alloc (BT x) = V := ⟨_, rfl⟩
        have HV : Hid (wr.alloc (BT x) = V) := hV
        have hbV : Below wr.heap.size wr V := by rw [← hV]; exact (Below.refl _ _).alloc (Nat.le_refl _) _
        have HSV : Hid (SS w V s1 b1 s2 B0 m f L) := HSK.out.up hbV
        obtain ⟨A, hA⟩ : ∃ A, wr.heap.size = A := ⟨_, rfl⟩
        have HA : Hid (wr.heap.size = A) := hA
        have HAV : Hid (V.heap[A]? = some (BT x)) := by rw [← hV, ← hA]; exact heap_alloc_new _ _
        clear hc hxk hB hbV hV hA
        by_cases h0 : x.1 = 0
        · have hw0 : (x.1 == 0) = true := by simp [h0]
          clear h0
          as_aux_lemma =>
            go_wp2_with fail
            rw [HV.out, HA.out]
            refine (tadd_any _ _ HSV.out.ta).mono ?_
            rintro e w3 ⟨rfl, ht3, hg3⟩
            obtain ⟨q1, hq1⟩ : ∃ q1, Ty.addB m L x.2 = q1 := ⟨_, rfl⟩
            obtain ⟨q2, hq2⟩ : ∃ q2, Ty.addE m x.2 = q2 := ⟨_, rfl⟩
            have HQ : Hid (Ty.addB m L x.2 = q1 ∧ Ty.addE m x.2 = q2) := ⟨hq1, hq2⟩
            rw [hq1, hq2]
            have q11 : (q1 != q1) = false := by simp
            have q22 : (q2 != q2) = false := by simp
            have HT3 : Hid (TA w3 s1 b1 m f (Ty.addL m L x.2)) := ht3
            have HG3 : Hid (V.grownBy w3 (some b1)) := hg3
            have HR3 : Hid (RA w3 B0 s2 m L) := HSV.out.ra.map HSV.out.ta.ma hg3
            obtain ⟨f0, f1, f2, f3⟩ := st_of ((hg3.block A (Array.getElem?_eq_some_iff.1 HAV.out).1 (fun e => HSV.out.ta.ma.no_cell (st_of HAV.out).1 (Option.some.inj e))).trans HAV.out)
            clear ht3 hg3 hq1 hq2
            go_wp2_with fail
            refine (lref_any _ _).mono ?_
            rintro e w4 ⟨rfl, hg4⟩
            have HR4 : Hid (RA w4 B0 s2 m L) := HR3.out.still hg4
            have HT4 : Hid (TA w4 s1 b1 m f (Ty.addL m L x.2)) := HT3.out.still hg4
            have HG4 : Hid (V.grownBy w4 (some b1)) := grown_trans HG3.out (grown_any hg4 _)
            clear hg4 f0 f1 f2 f3
            go_wp2_with fail
            refine (radd_any _ _ HR4.out HL.out).mono ?_
            rintro e w5 ⟨rfl, hr5, hg5⟩
            rw [HQ.out.1, HQ.out.2]
            have HSS : Hid (SS w w5 s1 b1 s2 B0 m f (Ty.addL m L x.2)) := HSV.out.both HT4.out HG4.out hr5 hg5
            clear hr5 hg5
            obtain ⟨La, hLa⟩ : ∃ La, Ty.addL m L x.2 = La := ⟨_, rfl⟩
            rw [hLa] at HSS
            clear hLa
            have HL7 : Hid (La.length ≤ 7) := HSS.out.len
            obtain ⟨p, n2, cap2, hs2, hr2⟩ := HSS.out.ra.out
            obtain ⟨⟨-, r1⟩, -⟩ := ra_cells hs2
            obtain ⟨ao2, cap2', hv2, -, hx2⟩ := hr2.at.wide.open
            simp only [Value.slice.injEq] at hv2
            obtain ⟨rfl, hn2, rfl⟩ := hv2
            have HN2 : Hid (n2 = La.length) := hn2
            have hn27 : n2 ≤ 7 := by rw [hn2]; exact HL7.out
            have HX2 : Hid (OverB w5 p La) := hx2
            clear hs2 hr2 hx2 hn2
            go_wp2
            clear r1
            go_loopw [19, 126] (fun u i wq => ∃ (j : Nat) (pp : Option Addr) (jj q : Nat), j ≤ n2 ∧ i = .int .i64 j ∧ u = .slice pp jj q ∧ Hid (Row EI wq w5.heap.size 3 (.slice pp jj q) ((La.take j).map (·.1))) ∧ Hid (Below w5.heap.size w5 wq)) (fun _ i _ => n2 - (intOf i).toNat)
            case atStart => exact ⟨0, none, 0, 0, Nat.zero_le _, rfl, rfl, Row.nil _ _ _ _, Below.refl _ _⟩
            case round =>
              obtain ⟨j, pp, jj, q, hj, rfl, rfl, HRJ, HBJ⟩ := hrel
              have hsj := HBJ.out.size
              by_cases hlj : j < n2
              · obtain ⟨y, hyj⟩ : ∃ y, La[j]? = some y := ⟨_, List.getElem?_eq_getElem (by rw [← HN2.out]; exact hlj)⟩
                obtain ⟨b2, off2, rfl, -, hB, hc⟩ := HX2.out j y hyj
                obtain ⟨d0, d1, d2⟩ := bid_cells HBJ.out hB hc
                have hlj' : (j : Int) < (n2 : Int) := by omega
                have HMA : Hid ((La.take (j + 1)).map (·.1) = (La.take j).map (·.1) ++ [y.1]) := by show _ = _; rw [Ty.take_at hyj, List.map_append]; rfl
                have HUP : Hid (Below wr.heap.size wr ((wr.alloc (BR y)).alloc (.cells #[.int .i64 y.1] 3))) := ((Below.refl _ _).alloc (Nat.le_refl _) _).alloc (by simp) _
                have HR3 : Hid (Row EI ((wr.alloc (BR y)).alloc (.cells #[.int .i64 y.1] 3)) w5.heap.size 3 (.slice pp jj q) ((La.take j).map (·.1))) := HRJ.out.up HUP.out
                have HB3 : Hid (Below w5.heap.size w5 ((wr.alloc (BR y)).alloc (.cells #[.int .i64 y.1] 3))) := (HBJ.out.alloc hsj _).alloc (by simp; omega) _
                have HO : Hid (AtW EI ((wr.alloc (BR y)).alloc (.cells #[.int .i64 y.1] 3)) (.slice (some ⟨wr.heap.size + 1, 0, none⟩) 1 1) [y.1]) := by
                  have h2 := heap_alloc_new (wr.alloc (BR y)) (.cells #[.int .i64 y.1] 3)
                  rw [show (wr.alloc (BR y)).heap.size = wr.heap.size + 1 by simp] at h2
                  exact at_oneI h2
                have HLEN : Hid (((La.take j).map (·.1)).length ≤ j) := by show _ ≤ _; rw [List.length_map, List.length_take]; omega
                clear hyj hc hB
                go_wp2_with (at_builtin; refine wpList_row _ rfl _ _ 46 rfl EI (fun _ => True) w5.heap.size 3 i0 _ 8 Try.underlying46 hi hz0 hz1 hz2 rfl (.slice pp jj q) ((La.take j).map (·.1)) (by rfl) HR3.out (.slice (some ⟨wr.heap.size + 1, 0, none⟩) 1 1) [y.1] (by rfl) HO.out (by have := HLEN.out; unfold maxLen; simp only [List.length_cons, List.length_nil]; omega) (by have := HLEN.out; simp only [List.length_cons, List.length_nil]; omega) (by simp; omega) ?_; intro v7 w7 hrow7 hg7 hloc7)
                have HEND : Hid (Row EI w7 w5.heap.size 3 v7 ((La.take (j + 1)).map (·.1)) ∧ Below w5.heap.size w5 w7) := ⟨by rw [HMA.out]; exact hrow7, HB3.out.grown hg7 (by simp; omega) (fun k hk => (HR3.out.lt k hk).1)⟩
                clear hrow7 hg7 hloc7
                obtain ⟨p7, n7, c7, rfl⟩ := HEND.out.1.slice3
                go_wp2
                go_roundw
                case rel => exact ⟨j + 1, p7, n7, c7, by omega, by go_num, rfl, HEND.out.1, HEND.out.2⟩
                case measure => simp [intOf]; omega
              · obtain rfl : n2 = j := by omega
                have HSQ : Hid (SS w wr s1 b1 s2 B0 m f La) := HSS.out.up HBJ.out
                have HRQ : Hid (AtW EI wr (.slice pp jj q) (La.map (·.1))) := by have h := HRJ.out.at.wide; rwa [HN2.out, List.take_length] at h
                have hjj : jj = n2 := by
                  obtain ⟨p9, c9, h9⟩ := HRJ.out.slice
                  simp only [Value.slice.injEq] at h9
                  rw [h9.2.1, List.length_map, HN2.out, List.take_length]
                subst hjj
                obtain ⟨be, hbe⟩ : ∃ be, Ty.best La = be := ⟨_, rfl⟩
                obtain ⟨ee, hee⟩ : ∃ ee, Ty.bestE La = ee := ⟨_, rfl⟩
                have HBE : Hid (Ty.best La = be ∧ Ty.bestE La = ee) := ⟨hbe, hee⟩
                clear hbe hee HRJ HBJ
                go_wp2_with fail
                refine (tbest_any _ HSQ.out.ta).mono ?_
                rintro e w6 ⟨rfl, hb6⟩
                rw [HBE.out.1, HBE.out.2]
                obtain ⟨W6, hW6⟩ : ∃ W6, w6.alloc (BB be) = W6 := ⟨_, rfl⟩
                have hb6' : Below wr.heap.size wr W6 := by rw [← hW6]; exact hb6.alloc hb6.size _
                obtain ⟨x6, hx6⟩ : ∃ x6, w6.heap.size = x6 := ⟨_, rfl⟩
                have HW6 : Hid (w6.alloc (BB be) = W6) := hW6
                have HX6 : Hid (w6.heap.size = x6) := hx6
                have HS6 : Hid (SS w W6 s1 b1 s2 B0 m f La) := HSQ.out.up hb6'
                have HR6 : Hid (AtW EI W6 (.slice pp jj q) (La.map (·.1))) := HRQ.out.up hb6'
                have HXX6 : Hid (W6.heap[x6]? = some (BB be)) := by rw [← hW6, ← hx6]; exact heap_alloc_new _ _
                clear hb6 hb6' hW6 hx6 HSQ HRQ
                go_wp2_with fail
                rw [HW6.out, HX6.out]
                refine (rbest_any _ HS6.out.ra HL7.out).mono ?_
                rintro e w7 ⟨rfl, hb7⟩
                rw [HBE.out.1, HBE.out.2]
                obtain ⟨W7, hW7⟩ : ∃ W7, w7.alloc (BR be) = W7 := ⟨_, rfl⟩
                have HW7 : Hid (w7.alloc (BR be) = W7) := hW7
                have hb7' : Below W6.heap.size W6 W7 := by rw [← hW7]; exact hb7.alloc hb7.size _
                obtain ⟨x7, hx7⟩ : ∃ x7, w7.heap.size = x7 := ⟨_, rfl⟩
                have HX7 : Hid (w7.heap.size = x7) := hx7
                have HS7 : Hid (SS w W7 s1 b1 s2 B0 m f La) := HS6.out.up hb7'
                have HR7 : Hid (AtW EI W7 (.slice pp jj q) (La.map (·.1))) := HR6.out.up hb7'
                have HXX7 : Hid (W7.heap[x6]? = some (BB be)) := (hb7'.block x6 (Array.getElem?_eq_some_iff.1 HXX6.out).1).trans HXX6.out
                have HYY7 : Hid (W7.heap[x7]? = some (BR be)) := by rw [← hW7, ← hx7]; exact heap_alloc_new _ _
                have HUP : Hid (∀ U, W7.grownBy U none → SS w U s1 b1 s2 B0 m f La ∧ AtW EI U (.slice pp jj q) (La.map (·.1))) := fun U hU => ⟨HS7.out.up (below_none hU (Nat.le_refl _)), HR7.out.up (below_none hU (Nat.le_refl _))⟩
                have HST : Hid (∀ U, W7.grownBy U none → U.cell? ⟨x6, 0, none⟩ = some (.int .i64 be.1) ∧ U.cell? ⟨x6, 1, none⟩ = some (.int .i64 be.2.1) ∧ U.cell? ⟨x6, 2, none⟩ = some (.int .i64 be.2.2) ∧ U.cell? ⟨x7, 0, none⟩ = some (.int .i64 be.1) ∧ U.cell? ⟨x7, 1, none⟩ = some (.int .i64 be.2.1) ∧ U.cell? ⟨x7, 2, none⟩ = some (.int .i64 be.2.2)) := fun U hU => by
                  obtain ⟨⟨d0, d1, d2⟩, -⟩ := bid_of HXX7.out
                  obtain ⟨⟨e0, e1, e2⟩, -⟩ := bid_of HYY7.out
                  exact ⟨hU.cell d0 (by simp), hU.cell d1 (by simp), hU.cell d2 (by simp), hU.cell e0 (by simp), hU.cell e1 (by simp), hU.cell e2 (by simp)⟩
                have hq : ∀ V, (binOp .neq 39 (VB be) (VB be)).run Try.prog V = .ok (.bool false) V := fun V => by have := neq_rbid V be be; rwa [decide_eq_true rfl] at this
                have hee2 : (ee != ee) = false := by simp
                have hjj2 : ((jj : Int) != (jj : Int)) = false := by simp
                obtain ⟨en, hen⟩ : ∃ en, decide (f < (jj : Int)) = en := ⟨_, rfl⟩
                have hen2 : (en != en) = false := by simp
                have HC : Hid (∀ U, W7.grownBy U none → Calls Try.prog 20 #[.pointer (some ⟨s1, 0, none⟩)] U fun e w' => e = .returned (.int .i64 jj) ∧ Below U.heap.size U w') := fun U hU => by have := tCount_any U (HUP.out U hU).1.ta; rwa [← HN2.out] at this
                have HE : Hid (∀ U, W7.grownBy U none → Calls Try.prog 21 #[.pointer (some ⟨s1, 0, none⟩)] U fun e w' => e = .returned (.bool en) ∧ Below U.heap.size U w') := fun U hU => by have := tEnough_any U (HUP.out U hU).1.ta; rwa [← HN2.out, hen] at this
                clear hb7 hb7' hW7 hx7
                go_wp2_with fail
                rw [HW7.out, HX7.out]
                go_region_held3 (fun U => U.cell? ⟨x6, 0, none⟩ = some (.int .i64 be.1) ∧ U.cell? ⟨x6, 1, none⟩ = some (.int .i64 be.2.1) ∧ U.cell? ⟨x6, 2, none⟩ = some (.int .i64 be.2.2) ∧ U.cell? ⟨x7, 0, none⟩ = some (.int .i64 be.1) ∧ U.cell? ⟨x7, 1, none⟩ = some (.int .i64 be.2.1) ∧ U.cell? ⟨x7, 2, none⟩ = some (.int .i64 be.2.2)) (first | exact HST.out _ (by assumption) | exact HST.out _ (grown_drew1 _)) (first
                  | (go_at_call 19; refine (tNodes_any _ (HUP.out _ (grown_drew1 _)).1.ta).mono ?_; rintro e u2 ⟨n8, rfl, hr8, hb8⟩; have hg2 : W7.grownBy u2 none := grown_trans (grown_drew1 _) (grown_of_below hb8 none); have HR8 : Hid (AtW EI u2 n8 (La.map (·.1))) := hr8.at.wide; clear hr8 hb8)
                  | (go_at_call 18; refine (ints_same _ _ _ _ HR8.out (HUP.out _ hg2).2).mono ?_; rintro e u3 ⟨rfl, hb3⟩; have hg3 : W7.grownBy u3 none := grown_trans hg2 (grown_of_below hb3 none); clear hb3)
                  | (go_at_call 20; refine (HC.out _ hg3).mono ?_; rintro e u4 ⟨rfl, hb4⟩; have hg4 : W7.grownBy u4 none := grown_trans hg3 (grown_of_below hb4 none); clear hb4)
                  | (go_at_call 21; refine (HE.out _ hg4).mono ?_; rintro e u5 ⟨rfl, hb5⟩; have hg5 : W7.grownBy u5 none := grown_trans hg4 (grown_of_below hb5 none); clear hb5)
                  | (go_at_call 22; refine (refFaults_yes _ HIS.out).mono ?_; rintro e u6 ⟨rfl, rfl⟩)
                  | (go_at_call 12; refine (lref_any _ _).mono ?_; rintro e u7 ⟨rfl, hb7⟩; have hg7 : W7.grownBy u7 none := grown_trans hg5 hb7; clear hb7))
                all_goals
                  have HFIN : Hid (SS w u7 s1 b1 s2 B0 m f La) := (HUP.out _ hg7).1
                  clear hg2 hg3 hg4 hg5 hg7
                  go_wp2
                  go_roundw
                  case rel => exact ⟨k + 1, La, by omega, by go_num, HFIN.out⟩
                  case measure => simp [intOf]; omega
        · have hw0 : (x.1 == 0) = false := by simp [h0]
          by_cases h1 : x.1 = 1
          · have hw1 : (x.1 == 1) = true := by simp [h1]
            clear h1
            as_aux_lemma =>
              go_wp2_with fail
              rw [HV.out, HA.out]
              refine (tadd_any _ _ HSV.out.ta).mono ?_
              rintro e w3 ⟨rfl, ht3, hg3⟩
              obtain ⟨q1, hq1⟩ : ∃ q1, Ty.addB m L x.2 = q1 := ⟨_, rfl⟩
              obtain ⟨q2, hq2⟩ : ∃ q2, Ty.addE m x.2 = q2 := ⟨_, rfl⟩
              have HQ : Hid (Ty.addB m L x.2 = q1 ∧ Ty.addE m x.2 = q2) := ⟨hq1, hq2⟩
              rw [hq1, hq2]
              have q11 : (q1 != q1) = false := by simp
              have q22 : (q2 != q2) = false := by simp
              have HT3 : Hid (TA w3 s1 b1 m f (Ty.addL m L x.2)) := ht3
              have HG3 : Hid (V.grownBy w3 (some b1)) := hg3
              have HR3 : Hid (RA w3 B0 s2 m L) := HSV.out.ra.map HSV.out.ta.ma hg3
              obtain ⟨f0, f1, f2, f3⟩ := st_of ((hg3.block A (Array.getElem?_eq_some_iff.1 HAV.out).1 (fun e => HSV.out.ta.ma.no_cell (st_of HAV.out).1 (Option.some.inj e))).trans HAV.out)
              clear ht3 hg3 hq1 hq2
              go_wp2_with fail
              refine (lref_any _ _).mono ?_
              rintro e w4 ⟨rfl, hg4⟩
              have HR4 : Hid (RA w4 B0 s2 m L) := HR3.out.still hg4
              have HT4 : Hid (TA w4 s1 b1 m f (Ty.addL m L x.2)) := HT3.out.still hg4
              have HG4 : Hid (V.grownBy w4 (some b1)) := grown_trans HG3.out (grown_any hg4 _)
              clear hg4 f0 f1 f2 f3
              go_wp2_with fail
              refine (radd_any _ _ HR4.out HL.out).mono ?_
              rintro e w5 ⟨rfl, hr5, hg5⟩
              rw [HQ.out.1, HQ.out.2]
              have HSS : Hid (SS w w5 s1 b1 s2 B0 m f (Ty.addL m L x.2)) := HSV.out.both HT4.out HG4.out hr5 hg5
              clear hr5 hg5
              obtain ⟨La, hLa⟩ : ∃ La, Ty.addL m L x.2 = La := ⟨_, rfl⟩
              rw [hLa] at HSS
              clear hLa
              have HL7 : Hid (La.length ≤ 7) := HSS.out.len
              obtain ⟨p, n2, cap2, hs2, hr2⟩ := HSS.out.ra.out
              obtain ⟨⟨-, r1⟩, -⟩ := ra_cells hs2
              obtain ⟨ao2, cap2', hv2, -, hx2⟩ := hr2.at.wide.open
              simp only [Value.slice.injEq] at hv2
              obtain ⟨rfl, hn2, rfl⟩ := hv2
              have HN2 : Hid (n2 = La.length) := hn2
              have hn27 : n2 ≤ 7 := by rw [hn2]; exact HL7.out
              have HX2 : Hid (OverB w5 p La) := hx2
              clear hs2 hr2 hx2 hn2
              go_wp2
              clear r1
              go_loopw [19, 126] (fun u i wq => ∃ (j : Nat) (pp : Option Addr) (jj q : Nat), j ≤ n2 ∧ i = .int .i64 j ∧ u = .slice pp jj q ∧ Hid (Row EI wq w5.heap.size 3 (.slice pp jj q) ((La.take j).map (·.1))) ∧ Hid (Below w5.heap.size w5 wq)) (fun _ i _ => n2 - (intOf i).toNat)
              case atStart => exact ⟨0, none, 0, 0, Nat.zero_le _, rfl, rfl, Row.nil _ _ _ _, Below.refl _ _⟩
              case round =>
                obtain ⟨j, pp, jj, q, hj, rfl, rfl, HRJ, HBJ⟩ := hrel
                have hsj := HBJ.out.size
                by_cases hlj : j < n2
                · obtain ⟨y, hyj⟩ : ∃ y, La[j]? = some y := ⟨_, List.getElem?_eq_getElem (by rw [← HN2.out]; exact hlj)⟩
                  obtain ⟨b2, off2, rfl, -, hB, hc⟩ := HX2.out j y hyj
                  obtain ⟨d0, d1, d2⟩ := bid_cells HBJ.out hB hc
                  have hlj' : (j : Int) < (n2 : Int) := by omega
                  have HMA : Hid ((La.take (j + 1)).map (·.1) = (La.take j).map (·.1) ++ [y.1]) := by show _ = _; rw [Ty.take_at hyj, List.map_append]; rfl
                  have HUP : Hid (Below wr.heap.size wr ((wr.alloc (BR y)).alloc (.cells #[.int .i64 y.1] 3))) := ((Below.refl _ _).alloc (Nat.le_refl _) _).alloc (by simp) _
                  have HR3 : Hid (Row EI ((wr.alloc (BR y)).alloc (.cells #[.int .i64 y.1] 3)) w5.heap.size 3 (.slice pp jj q) ((La.take j).map (·.1))) := HRJ.out.up HUP.out
                  have HB3 : Hid (Below w5.heap.size w5 ((wr.alloc (BR y)).alloc (.cells #[.int .i64 y.1] 3))) := (HBJ.out.alloc hsj _).alloc (by simp; omega) _
                  have HO : Hid (AtW EI ((wr.alloc (BR y)).alloc (.cells #[.int .i64 y.1] 3)) (.slice (some ⟨wr.heap.size + 1, 0, none⟩) 1 1) [y.1]) := by
                    have h2 := heap_alloc_new (wr.alloc (BR y)) (.cells #[.int .i64 y.1] 3)
                    rw [show (wr.alloc (BR y)).heap.size = wr.heap.size + 1 by simp] at h2
                    exact at_oneI h2
                  have HLEN : Hid (((La.take j).map (·.1)).length ≤ j) := by show _ ≤ _; rw [List.length_map, List.length_take]; omega
                  clear hyj hc hB
                  go_wp2_with (at_builtin; refine wpList_row _ rfl _ _ 46 rfl EI (fun _ => True) w5.heap.size 3 i0 _ 8 Try.underlying46 hi hz0 hz1 hz2 rfl (.slice pp jj q) ((La.take j).map (·.1)) (by rfl) HR3.out (.slice (some ⟨wr.heap.size + 1, 0, none⟩) 1 1) [y.1] (by rfl) HO.out (by have := HLEN.out; unfold maxLen; simp only [List.length_cons, List.length_nil]; omega) (by have := HLEN.out; simp only [List.length_cons, List.length_nil]; omega) (by simp; omega) ?_; intro v7 w7 hrow7 hg7 hloc7)
                  have HEND : Hid (Row EI w7 w5.heap.size 3 v7 ((La.take (j + 1)).map (·.1)) ∧ Below w5.heap.size w5 w7) := ⟨by rw [HMA.out]; exact hrow7, HB3.out.grown hg7 (by simp; omega) (fun k hk => (HR3.out.lt k hk).1)⟩
                  clear hrow7 hg7 hloc7
                  obtain ⟨p7, n7, c7, rfl⟩ := HEND.out.1.slice3
                  go_wp2
                  go_roundw
                  case rel => exact ⟨j + 1, p7, n7, c7, by omega, by go_num, rfl, HEND.out.1, HEND.out.2⟩
                  case measure => simp [intOf]; omega
                · obtain rfl : n2 = j := by omega
                  have HSQ : Hid (SS w wr s1 b1 s2 B0 m f La) := HSS.out.up HBJ.out
                  have HRQ : Hid (AtW EI wr (.slice pp jj q) (La.map (·.1))) := by have h := HRJ.out.at.wide; rwa [HN2.out, List.take_length] at h
                  have hjj : jj = n2 := by
                    obtain ⟨p9, c9, h9⟩ := HRJ.out.slice
                    simp only [Value.slice.injEq] at h9
                    rw [h9.2.1, List.length_map, HN2.out, List.take_length]
                  subst hjj
                  obtain ⟨be, hbe⟩ : ∃ be, Ty.best La = be := ⟨_, rfl⟩
                  obtain ⟨ee, hee⟩ : ∃ ee, Ty.bestE La = ee := ⟨_, rfl⟩
                  have HBE : Hid (Ty.best La = be ∧ Ty.bestE La = ee) := ⟨hbe, hee⟩
                  clear hbe hee HRJ HBJ
                  go_wp2_with fail
                  refine (tbest_any _ HSQ.out.ta).mono ?_
                  rintro e w6 ⟨rfl, hb6⟩
                  rw [HBE.out.1, HBE.out.2]
                  obtain ⟨W6, hW6⟩ : ∃ W6, w6.alloc (BB be) = W6 := ⟨_, rfl⟩
                  have hb6' : Below wr.heap.size wr W6 := by rw [← hW6]; exact hb6.alloc hb6.size _
                  obtain ⟨x6, hx6⟩ : ∃ x6, w6.heap.size = x6 := ⟨_, rfl⟩
                  have HW6 : Hid (w6.alloc (BB be) = W6) := hW6
                  have HX6 : Hid (w6.heap.size = x6) := hx6
                  have HS6 : Hid (SS w W6 s1 b1 s2 B0 m f La) := HSQ.out.up hb6'
                  have HR6 : Hid (AtW EI W6 (.slice pp jj q) (La.map (·.1))) := HRQ.out.up hb6'
                  have HXX6 : Hid (W6.heap[x6]? = some (BB be)) := by rw [← hW6, ← hx6]; exact heap_alloc_new _ _
                  clear hb6 hb6' hW6 hx6 HSQ HRQ
                  go_wp2_with fail
                  rw [HW6.out, HX6.out]
                  refine (rbest_any _ HS6.out.ra HL7.out).mono ?_
                  rintro e w7 ⟨rfl, hb7⟩
                  rw [HBE.out.1, HBE.out.2]
                  obtain ⟨W7, hW7⟩ : ∃ W7, w7.alloc (BR be) = W7 := ⟨_, rfl⟩
                  have HW7 : Hid (w7.alloc (BR be) = W7) := hW7
                  have hb7' : Below W6.heap.size W6 W7 := by rw [← hW7]; exact hb7.alloc hb7.size _
                  obtain ⟨x7, hx7⟩ : ∃ x7, w7.heap.size = x7 := ⟨_, rfl⟩
                  have HX7 : Hid (w7.heap.size = x7) := hx7
                  have HS7 : Hid (SS w W7 s1 b1 s2 B0 m f La) := HS6.out.up hb7'
                  have HR7 : Hid (AtW EI W7 (.slice pp jj q) (La.map (·.1))) := HR6.out.up hb7'
                  have HXX7 : Hid (W7.heap[x6]? = some (BB be)) := (hb7'.block x6 (Array.getElem?_eq_some_iff.1 HXX6.out).1).trans HXX6.out
                  have HYY7 : Hid (W7.heap[x7]? = some (BR be)) := by rw [← hW7, ← hx7]; exact heap_alloc_new _ _
                  have HUP : Hid (∀ U, W7.grownBy U none → SS w U s1 b1 s2 B0 m f La ∧ AtW EI U (.slice pp jj q) (La.map (·.1))) := fun U hU => ⟨HS7.out.up (below_none hU (Nat.le_refl _)), HR7.out.up (below_none hU (Nat.le_refl _))⟩
                  have HST : Hid (∀ U, W7.grownBy U none → U.cell? ⟨x6, 0, none⟩ = some (.int .i64 be.1) ∧ U.cell? ⟨x6, 1, none⟩ = some (.int .i64 be.2.1) ∧ U.cell? ⟨x6, 2, none⟩ = some (.int .i64 be.2.2) ∧ U.cell? ⟨x7, 0, none⟩ = some (.int .i64 be.1) ∧ U.cell? ⟨x7, 1, none⟩ = some (.int .i64 be.2.1) ∧ U.cell? ⟨x7, 2, none⟩ = some (.int .i64 be.2.2)) := fun U hU => by
                    obtain ⟨⟨d0, d1, d2⟩, -⟩ := bid_of HXX7.out
                    obtain ⟨⟨e0, e1, e2⟩, -⟩ := bid_of HYY7.out
                    exact ⟨hU.cell d0 (by simp), hU.cell d1 (by simp), hU.cell d2 (by simp), hU.cell e0 (by simp), hU.cell e1 (by simp), hU.cell e2 (by simp)⟩
                  have hq : ∀ V, (binOp .neq 39 (VB be) (VB be)).run Try.prog V = .ok (.bool false) V := fun V => by have := neq_rbid V be be; rwa [decide_eq_true rfl] at this
                  have hee2 : (ee != ee) = false := by simp
                  have hjj2 : ((jj : Int) != (jj : Int)) = false := by simp
                  obtain ⟨en, hen⟩ : ∃ en, decide (f < (jj : Int)) = en := ⟨_, rfl⟩
                  have hen2 : (en != en) = false := by simp
                  have HC : Hid (∀ U, W7.grownBy U none → Calls Try.prog 20 #[.pointer (some ⟨s1, 0, none⟩)] U fun e w' => e = .returned (.int .i64 jj) ∧ Below U.heap.size U w') := fun U hU => by have := tCount_any U (HUP.out U hU).1.ta; rwa [← HN2.out] at this
                  have HE : Hid (∀ U, W7.grownBy U none → Calls Try.prog 21 #[.pointer (some ⟨s1, 0, none⟩)] U fun e w' => e = .returned (.bool en) ∧ Below U.heap.size U w') := fun U hU => by have := tEnough_any U (HUP.out U hU).1.ta; rwa [← HN2.out, hen] at this
                  clear hb7 hb7' hW7 hx7
                  go_wp2_with fail
                  rw [HW7.out, HX7.out]
                  go_region_held3 (fun U => U.cell? ⟨x6, 0, none⟩ = some (.int .i64 be.1) ∧ U.cell? ⟨x6, 1, none⟩ = some (.int .i64 be.2.1) ∧ U.cell? ⟨x6, 2, none⟩ = some (.int .i64 be.2.2) ∧ U.cell? ⟨x7, 0, none⟩ = some (.int .i64 be.1) ∧ U.cell? ⟨x7, 1, none⟩ = some (.int .i64 be.2.1) ∧ U.cell? ⟨x7, 2, none⟩ = some (.int .i64 be.2.2)) (first | exact HST.out _ (by assumption) | exact HST.out _ (grown_drew1 _)) (first
                    | (go_at_call 19; refine (tNodes_any _ (HUP.out _ (grown_drew1 _)).1.ta).mono ?_; rintro e u2 ⟨n8, rfl, hr8, hb8⟩; have hg2 : W7.grownBy u2 none := grown_trans (grown_drew1 _) (grown_of_below hb8 none); have HR8 : Hid (AtW EI u2 n8 (La.map (·.1))) := hr8.at.wide; clear hr8 hb8)
                    | (go_at_call 18; refine (ints_same _ _ _ _ HR8.out (HUP.out _ hg2).2).mono ?_; rintro e u3 ⟨rfl, hb3⟩; have hg3 : W7.grownBy u3 none := grown_trans hg2 (grown_of_below hb3 none); clear hb3)
                    | (go_at_call 20; refine (HC.out _ hg3).mono ?_; rintro e u4 ⟨rfl, hb4⟩; have hg4 : W7.grownBy u4 none := grown_trans hg3 (grown_of_below hb4 none); clear hb4)
                    | (go_at_call 21; refine (HE.out _ hg4).mono ?_; rintro e u5 ⟨rfl, hb5⟩; have hg5 : W7.grownBy u5 none := grown_trans hg4 (grown_of_below hb5 none); clear hb5)
                    | (go_at_call 22; refine (refFaults_yes _ HIS.out).mono ?_; rintro e u6 ⟨rfl, rfl⟩)
                    | (go_at_call 12; refine (lref_any _ _).mono ?_; rintro e u7 ⟨rfl, hb7⟩; have hg7 : W7.grownBy u7 none := grown_trans hg5 hb7; clear hb7))
                  all_goals
                    have HFIN : Hid (SS w u7 s1 b1 s2 B0 m f La) := (HUP.out _ hg7).1
                    clear hg2 hg3 hg4 hg5 hg7
                    go_wp2
                    go_roundw
                    case rel => exact ⟨k + 1, La, by omega, by go_num, HFIN.out⟩
                    case measure => simp [intOf]; omega
          · have hw1 : (x.1 == 1) = false := by simp [h1]
            by_cases h2 : x.1 = 2
            · have hw2 : (x.1 == 2) = true := by simp [h2]
              clear h2
              as_aux_lemma =>
                go_wp2_with fail
                rw [HV.out, HA.out]
                refine (tforget_any _ _ HSV.out.ta).mono ?_
                rintro e w3 ⟨rfl, ht3, hg3⟩
                obtain ⟨q1, hq1⟩ : ∃ q1, Ty.fogB m L x.2.1 = q1 := ⟨_, rfl⟩
                obtain ⟨q2, hq2⟩ : ∃ q2, Ty.fogE m x.2.1 = q2 := ⟨_, rfl⟩
                have HQ : Hid (Ty.fogB m L x.2.1 = q1 ∧ Ty.fogE m x.2.1 = q2) := ⟨hq1, hq2⟩
                rw [hq1, hq2]
                have q11 : (q1 != q1) = false := by simp
                have q22 : (q2 != q2) = false := by simp
                have HT3 : Hid (TA w3 s1 b1 m f (Ty.fogL m L x.2.1)) := ht3
                have HG3 : Hid (V.grownBy w3 (some b1)) := hg3
                have HR3 : Hid (RA w3 B0 s2 m L) := HSV.out.ra.map HSV.out.ta.ma hg3
                obtain ⟨f0, f1, f2, f3⟩ := st_of ((hg3.block A (Array.getElem?_eq_some_iff.1 HAV.out).1 (fun e => HSV.out.ta.ma.no_cell (st_of HAV.out).1 (Option.some.inj e))).trans HAV.out)
                clear ht3 hg3 hq1 hq2
                go_wp2_with fail
                refine (rforget_any _ _ HR3.out HL.out).mono ?_
                rintro e w5 ⟨rfl, hr5, hg5⟩
                rw [HQ.out.1, HQ.out.2]
                have HSS : Hid (SS w w5 s1 b1 s2 B0 m f (Ty.fogL m L x.2.1)) := HSV.out.both HT3.out HG3.out hr5 hg5
                clear hr5 hg5 f0 f1 f2 f3
                obtain ⟨La, hLa⟩ : ∃ La, Ty.fogL m L x.2.1 = La := ⟨_, rfl⟩
                rw [hLa] at HSS
                clear hLa
                have HL7 : Hid (La.length ≤ 7) := HSS.out.len
                obtain ⟨p, n2, cap2, hs2, hr2⟩ := HSS.out.ra.out
                obtain ⟨⟨-, r1⟩, -⟩ := ra_cells hs2
                obtain ⟨ao2, cap2', hv2, -, hx2⟩ := hr2.at.wide.open
                simp only [Value.slice.injEq] at hv2
                obtain ⟨rfl, hn2, rfl⟩ := hv2
                have HN2 : Hid (n2 = La.length) := hn2
                have hn27 : n2 ≤ 7 := by rw [hn2]; exact HL7.out
                have HX2 : Hid (OverB w5 p La) := hx2
                clear hs2 hr2 hx2 hn2
                go_wp2
                clear r1
                go_loopw [19, 126] (fun u i wq => ∃ (j : Nat) (pp : Option Addr) (jj q : Nat), j ≤ n2 ∧ i = .int .i64 j ∧ u = .slice pp jj q ∧ Hid (Row EI wq w5.heap.size 3 (.slice pp jj q) ((La.take j).map (·.1))) ∧ Hid (Below w5.heap.size w5 wq)) (fun _ i _ => n2 - (intOf i).toNat)
                case atStart => exact ⟨0, none, 0, 0, Nat.zero_le _, rfl, rfl, Row.nil _ _ _ _, Below.refl _ _⟩
                case round =>
                  obtain ⟨j, pp, jj, q, hj, rfl, rfl, HRJ, HBJ⟩ := hrel
                  have hsj := HBJ.out.size
                  by_cases hlj : j < n2
                  · obtain ⟨y, hyj⟩ : ∃ y, La[j]? = some y := ⟨_, List.getElem?_eq_getElem (by rw [← HN2.out]; exact hlj)⟩
                    obtain ⟨b2, off2, rfl, -, hB, hc⟩ := HX2.out j y hyj
                    obtain ⟨d0, d1, d2⟩ := bid_cells HBJ.out hB hc
                    have hlj' : (j : Int) < (n2 : Int) := by omega
                    have HMA : Hid ((La.take (j + 1)).map (·.1) = (La.take j).map (·.1) ++ [y.1]) := by show _ = _; rw [Ty.take_at hyj, List.map_append]; rfl
                    have HUP : Hid (Below wr.heap.size wr ((wr.alloc (BR y)).alloc (.cells #[.int .i64 y.1] 3))) := ((Below.refl _ _).alloc (Nat.le_refl _) _).alloc (by simp) _
                    have HR3 : Hid (Row EI ((wr.alloc (BR y)).alloc (.cells #[.int .i64 y.1] 3)) w5.heap.size 3 (.slice pp jj q) ((La.take j).map (·.1))) := HRJ.out.up HUP.out
                    have HB3 : Hid (Below w5.heap.size w5 ((wr.alloc (BR y)).alloc (.cells #[.int .i64 y.1] 3))) := (HBJ.out.alloc hsj _).alloc (by simp; omega) _
                    have HO : Hid (AtW EI ((wr.alloc (BR y)).alloc (.cells #[.int .i64 y.1] 3)) (.slice (some ⟨wr.heap.size + 1, 0, none⟩) 1 1) [y.1]) := by
                      have h2 := heap_alloc_new (wr.alloc (BR y)) (.cells #[.int .i64 y.1] 3)
                      rw [show (wr.alloc (BR y)).heap.size = wr.heap.size + 1 by simp] at h2
                      exact at_oneI h2
                    have HLEN : Hid (((La.take j).map (·.1)).length ≤ j) := by show _ ≤ _; rw [List.length_map, List.length_take]; omega
                    clear hyj hc hB
                    go_wp2_with (at_builtin; refine wpList_row _ rfl _ _ 46 rfl EI (fun _ => True) w5.heap.size 3 i0 _ 8 Try.underlying46 hi hz0 hz1 hz2 rfl (.slice pp jj q) ((La.take j).map (·.1)) (by rfl) HR3.out (.slice (some ⟨wr.heap.size + 1, 0, none⟩) 1 1) [y.1] (by rfl) HO.out (by have := HLEN.out; unfold maxLen; simp only [List.length_cons, List.length_nil]; omega) (by have := HLEN.out; simp only [List.length_cons, List.length_nil]; omega) (by simp; omega) ?_; intro v7 w7 hrow7 hg7 hloc7)
                    have HEND : Hid (Row EI w7 w5.heap.size 3 v7 ((La.take (j + 1)).map (·.1)) ∧ Below w5.heap.size w5 w7) := ⟨by rw [HMA.out]; exact hrow7, HB3.out.grown hg7 (by simp; omega) (fun k hk => (HR3.out.lt k hk).1)⟩
                    clear hrow7 hg7 hloc7
                    obtain ⟨p7, n7, c7, rfl⟩ := HEND.out.1.slice3
                    go_wp2
                    go_roundw
                    case rel => exact ⟨j + 1, p7, n7, c7, by omega, by go_num, rfl, HEND.out.1, HEND.out.2⟩
                    case measure => simp [intOf]; omega
                  · obtain rfl : n2 = j := by omega
                    have HSQ : Hid (SS w wr s1 b1 s2 B0 m f La) := HSS.out.up HBJ.out
                    have HRQ : Hid (AtW EI wr (.slice pp jj q) (La.map (·.1))) := by have h := HRJ.out.at.wide; rwa [HN2.out, List.take_length] at h
                    have hjj : jj = n2 := by
                      obtain ⟨p9, c9, h9⟩ := HRJ.out.slice
                      simp only [Value.slice.injEq] at h9
                      rw [h9.2.1, List.length_map, HN2.out, List.take_length]
                    subst hjj
                    obtain ⟨be, hbe⟩ : ∃ be, Ty.best La = be := ⟨_, rfl⟩
                    obtain ⟨ee, hee⟩ : ∃ ee, Ty.bestE La = ee := ⟨_, rfl⟩
                    have HBE : Hid (Ty.best La = be ∧ Ty.bestE La = ee) := ⟨hbe, hee⟩
                    clear hbe hee HRJ HBJ
                    go_wp2_with fail
                    refine (tbest_any _ HSQ.out.ta).mono ?_
                    rintro e w6 ⟨rfl, hb6⟩
                    rw [HBE.out.1, HBE.out.2]
                    obtain ⟨W6, hW6⟩ : ∃ W6, w6.alloc (BB be) = W6 := ⟨_, rfl⟩
                    have hb6' : Below wr.heap.size wr W6 := by rw [← hW6]; exact hb6.alloc hb6.size _
                    obtain ⟨x6, hx6⟩ : ∃ x6, w6.heap.size = x6 := ⟨_, rfl⟩
                    have HW6 : Hid (w6.alloc (BB be) = W6) := hW6
                    have HX6 : Hid (w6.heap.size = x6) := hx6
                    have HS6 : Hid (SS w W6 s1 b1 s2 B0 m f La) := HSQ.out.up hb6'
                    have HR6 : Hid (AtW EI W6 (.slice pp jj q) (La.map (·.1))) := HRQ.out.up hb6'
                    have HXX6 : Hid (W6.heap[x6]? = some (BB be)) := by rw [← hW6, ← hx6]; exact heap_alloc_new _ _
                    clear hb6 hb6' hW6 hx6 HSQ HRQ
                    go_wp2_with fail
                    rw [HW6.out, HX6.out]
                    refine (rbest_any _ HS6.out.ra HL7.out).mono ?_
                    rintro e w7 ⟨rfl, hb7⟩
                    rw [HBE.out.1, HBE.out.2]
                    obtain ⟨W7, hW7⟩ : ∃ W7, w7.alloc (BR be) = W7 := ⟨_, rfl⟩
                    have HW7 : Hid (w7.alloc (BR be) = W7) := hW7
                    have hb7' : Below W6.heap.size W6 W7 := by rw [← hW7]; exact hb7.alloc hb7.size _
                    obtain ⟨x7, hx7⟩ : ∃ x7, w7.heap.size = x7 := ⟨_, rfl⟩
                    have HX7 : Hid (w7.heap.size = x7) := hx7
                    have HS7 : Hid (SS w W7 s1 b1 s2 B0 m f La) := HS6.out.up hb7'
                    have HR7 : Hid (AtW EI W7 (.slice pp jj q) (La.map (·.1))) := HR6.out.up hb7'
                    have HXX7 : Hid (W7.heap[x6]? = some (BB be)) := (hb7'.block x6 (Array.getElem?_eq_some_iff.1 HXX6.out).1).trans HXX6.out
                    have HYY7 : Hid (W7.heap[x7]? = some (BR be)) := by rw [← hW7, ← hx7]; exact heap_alloc_new _ _
                    have HUP : Hid (∀ U, W7.grownBy U none → SS w U s1 b1 s2 B0 m f La ∧ AtW EI U (.slice pp jj q) (La.map (·.1))) := fun U hU => ⟨HS7.out.up (below_none hU (Nat.le_refl _)), HR7.out.up (below_none hU (Nat.le_refl _))⟩
                    have HST : Hid (∀ U, W7.grownBy U none → U.cell? ⟨x6, 0, none⟩ = some (.int .i64 be.1) ∧ U.cell? ⟨x6, 1, none⟩ = some (.int .i64 be.2.1) ∧ U.cell? ⟨x6, 2, none⟩ = some (.int .i64 be.2.2) ∧ U.cell? ⟨x7, 0, none⟩ = some (.int .i64 be.1) ∧ U.cell? ⟨x7, 1, none⟩ = some (.int .i64 be.2.1) ∧ U.cell? ⟨x7, 2, none⟩ = some (.int .i64 be.2.2)) := fun U hU => by
                      obtain ⟨⟨d0, d1, d2⟩, -⟩ := bid_of HXX7.out
                      obtain ⟨⟨e0, e1, e2⟩, -⟩ := bid_of HYY7.out
                      exact ⟨hU.cell d0 (by simp), hU.cell d1 (by simp), hU.cell d2 (by simp), hU.cell e0 (by simp), hU.cell e1 (by simp), hU.cell e2 (by simp)⟩
                    have hq : ∀ V, (binOp .neq 39 (VB be) (VB be)).run Try.prog V = .ok (.bool false) V := fun V => by have := neq_rbid V be be; rwa [decide_eq_true rfl] at this
                    have hee2 : (ee != ee) = false := by simp
                    have hjj2 : ((jj : Int) != (jj : Int)) = false := by simp
                    obtain ⟨en, hen⟩ : ∃ en, decide (f < (jj : Int)) = en := ⟨_, rfl⟩
                    have hen2 : (en != en) = false := by simp
                    have HC : Hid (∀ U, W7.grownBy U none → Calls Try.prog 20 #[.pointer (some ⟨s1, 0, none⟩)] U fun e w' => e = .returned (.int .i64 jj) ∧ Below U.heap.size U w') := fun U hU => by have := tCount_any U (HUP.out U hU).1.ta; rwa [← HN2.out] at this
                    have HE : Hid (∀ U, W7.grownBy U none → Calls Try.prog 21 #[.pointer (some ⟨s1, 0, none⟩)] U fun e w' => e = .returned (.bool en) ∧ Below U.heap.size U w') := fun U hU => by have := tEnough_any U (HUP.out U hU).1.ta; rwa [← HN2.out, hen] at this
                    clear hb7 hb7' hW7 hx7
                    go_wp2_with fail
                    rw [HW7.out, HX7.out]
                    go_region_held3 (fun U => U.cell? ⟨x6, 0, none⟩ = some (.int .i64 be.1) ∧ U.cell? ⟨x6, 1, none⟩ = some (.int .i64 be.2.1) ∧ U.cell? ⟨x6, 2, none⟩ = some (.int .i64 be.2.2) ∧ U.cell? ⟨x7, 0, none⟩ = some (.int .i64 be.1) ∧ U.cell? ⟨x7, 1, none⟩ = some (.int .i64 be.2.1) ∧ U.cell? ⟨x7, 2, none⟩ = some (.int .i64 be.2.2)) (first | exact HST.out _ (by assumption) | exact HST.out _ (grown_drew1 _)) (first
                      | (go_at_call 19; refine (tNodes_any _ (HUP.out _ (grown_drew1 _)).1.ta).mono ?_; rintro e u2 ⟨n8, rfl, hr8, hb8⟩; have hg2 : W7.grownBy u2 none := grown_trans (grown_drew1 _) (grown_of_below hb8 none); have HR8 : Hid (AtW EI u2 n8 (La.map (·.1))) := hr8.at.wide; clear hr8 hb8)
                      | (go_at_call 18; refine (ints_same _ _ _ _ HR8.out (HUP.out _ hg2).2).mono ?_; rintro e u3 ⟨rfl, hb3⟩; have hg3 : W7.grownBy u3 none := grown_trans hg2 (grown_of_below hb3 none); clear hb3)
                      | (go_at_call 20; refine (HC.out _ hg3).mono ?_; rintro e u4 ⟨rfl, hb4⟩; have hg4 : W7.grownBy u4 none := grown_trans hg3 (grown_of_below hb4 none); clear hb4)
                      | (go_at_call 21; refine (HE.out _ hg4).mono ?_; rintro e u5 ⟨rfl, hb5⟩; have hg5 : W7.grownBy u5 none := grown_trans hg4 (grown_of_below hb5 none); clear hb5)
                      | (go_at_call 22; refine (refFaults_yes _ HIS.out).mono ?_; rintro e u6 ⟨rfl, rfl⟩)
                      | (go_at_call 12; refine (lref_any _ _).mono ?_; rintro e u7 ⟨rfl, hb7⟩; have hg7 : W7.grownBy u7 none := grown_trans hg5 hb7; clear hb7))
                    all_goals
                      have HFIN : Hid (SS w u7 s1 b1 s2 B0 m f La) := (HUP.out _ hg7).1
                      clear hg2 hg3 hg4 hg5 hg7
                      go_wp2
                      go_roundw
                      case rel => exact ⟨k + 1, La, by omega, by go_num, HFIN.out⟩
                      case measure => simp [intOf]; omega
            · have hw2 : (x.1 == 2) = false := by simp [h2]
              by_cases h3 : x.1 = 3
              · have hw3 : (x.1 == 3) = true := by simp [h3]
                clear h3
                as_aux_lemma =>
                  go_wp2_with fail
                  rw [HV.out, HA.out]
                  refine (tclear_any _ HSV.out.ta).mono ?_
                  rintro e w3 ⟨rfl, ht3, hg3⟩
                  have HR3 : Hid (RA w3 B0 s2 m L) := HSV.out.ra.map HSV.out.ta.ma hg3
                  obtain ⟨pz, nz, cz, hsz3, -⟩ := HR3.out.out
                  obtain ⟨⟨f0, f1⟩, hfz⟩ := ra_cells hsz3
                  obtain ⟨hrc, hgc⟩ := ra_clear HR3.out
                  obtain ⟨w5, hw5⟩ : ∃ w5, w3.setCell ⟨s2, 1, none⟩ (.slice none 0 0) = w5 := ⟨_, rfl⟩
                  have HW5 : Hid (w3.setCell ⟨s2, 1, none⟩ (.slice none 0 0) = w5) := hw5
                  rw [hw5] at hrc hgc
                  have HSS : Hid (SS w w5 s1 b1 s2 B0 m f []) := HSV.out.both ht3 hg3 hrc hgc
                  clear ht3 hg3 hrc hgc hw5 hsz3
                  go_upto_region 25 with fail
                  rw [HW5.out]
                  clear f0 f1 hfz
                  obtain ⟨La, hLa⟩ : ∃ La, ([] : List Bd) = La := ⟨_, rfl⟩
                  rw [hLa] at HSS
                  clear hLa
                  have HL7 : Hid (La.length ≤ 7) := HSS.out.len
                  obtain ⟨p, n2, cap2, hs2, hr2⟩ := HSS.out.ra.out
                  obtain ⟨⟨-, r1⟩, -⟩ := ra_cells hs2
                  obtain ⟨ao2, cap2', hv2, -, hx2⟩ := hr2.at.wide.open
                  simp only [Value.slice.injEq] at hv2
                  obtain ⟨rfl, hn2, rfl⟩ := hv2
                  have HN2 : Hid (n2 = La.length) := hn2
                  have hn27 : n2 ≤ 7 := by rw [hn2]; exact HL7.out
                  have HX2 : Hid (OverB w5 p La) := hx2
                  clear hs2 hr2 hx2 hn2
                  go_wp2
                  clear r1
                  go_loopw [19, 126] (fun u i wq => ∃ (j : Nat) (pp : Option Addr) (jj q : Nat), j ≤ n2 ∧ i = .int .i64 j ∧ u = .slice pp jj q ∧ Hid (Row EI wq w5.heap.size 3 (.slice pp jj q) ((La.take j).map (·.1))) ∧ Hid (Below w5.heap.size w5 wq)) (fun _ i _ => n2 - (intOf i).toNat)
                  case atStart => exact ⟨0, none, 0, 0, Nat.zero_le _, rfl, rfl, Row.nil _ _ _ _, Below.refl _ _⟩
                  case round =>
                    obtain ⟨j, pp, jj, q, hj, rfl, rfl, HRJ, HBJ⟩ := hrel
                    have hsj := HBJ.out.size
                    by_cases hlj : j < n2
                    · obtain ⟨y, hyj⟩ : ∃ y, La[j]? = some y := ⟨_, List.getElem?_eq_getElem (by rw [← HN2.out]; exact hlj)⟩
                      obtain ⟨b2, off2, rfl, -, hB, hc⟩ := HX2.out j y hyj
                      obtain ⟨d0, d1, d2⟩ := bid_cells HBJ.out hB hc
                      have hlj' : (j : Int) < (n2 : Int) := by omega
                      have HMA : Hid ((La.take (j + 1)).map (·.1) = (La.take j).map (·.1) ++ [y.1]) := by show _ = _; rw [Ty.take_at hyj, List.map_append]; rfl
                      have HUP : Hid (Below wr.heap.size wr ((wr.alloc (BR y)).alloc (.cells #[.int .i64 y.1] 3))) := ((Below.refl _ _).alloc (Nat.le_refl _) _).alloc (by simp) _
                      have HR3 : Hid (Row EI ((wr.alloc (BR y)).alloc (.cells #[.int .i64 y.1] 3)) w5.heap.size 3 (.slice pp jj q) ((La.take j).map (·.1))) := HRJ.out.up HUP.out
                      have HB3 : Hid (Below w5.heap.size w5 ((wr.alloc (BR y)).alloc (.cells #[.int .i64 y.1] 3))) := (HBJ.out.alloc hsj _).alloc (by simp; omega) _
                      have HO : Hid (AtW EI ((wr.alloc (BR y)).alloc (.cells #[.int .i64 y.1] 3)) (.slice (some ⟨wr.heap.size + 1, 0, none⟩) 1 1) [y.1]) := by
                        have h2 := heap_alloc_new (wr.alloc (BR y)) (.cells #[.int .i64 y.1] 3)
                        rw [show (wr.alloc (BR y)).heap.size = wr.heap.size + 1 by simp] at h2
                        exact at_oneI h2
                      have HLEN : Hid (((La.take j).map (·.1)).length ≤ j) := by show _ ≤ _; rw [List.length_map, List.length_take]; omega
                      clear hyj hc hB
                      go_wp2_with (at_builtin; refine wpList_row _ rfl _ _ 46 rfl EI (fun _ => True) w5.heap.size 3 i0 _ 8 Try.underlying46 hi hz0 hz1 hz2 rfl (.slice pp jj q) ((La.take j).map (·.1)) (by rfl) HR3.out (.slice (some ⟨wr.heap.size + 1, 0, none⟩) 1 1) [y.1] (by rfl) HO.out (by have := HLEN.out; unfold maxLen; simp only [List.length_cons, List.length_nil]; omega) (by have := HLEN.out; simp only [List.length_cons, List.length_nil]; omega) (by simp; omega) ?_; intro v7 w7 hrow7 hg7 hloc7)
                      have HEND : Hid (Row EI w7 w5.heap.size 3 v7 ((La.take (j + 1)).map (·.1)) ∧ Below w5.heap.size w5 w7) := ⟨by rw [HMA.out]; exact hrow7, HB3.out.grown hg7 (by simp; omega) (fun k hk => (HR3.out.lt k hk).1)⟩
                      clear hrow7 hg7 hloc7
                      obtain ⟨p7, n7, c7, rfl⟩ := HEND.out.1.slice3
                      go_wp2
                      go_roundw
                      case rel => exact ⟨j + 1, p7, n7, c7, by omega, by go_num, rfl, HEND.out.1, HEND.out.2⟩
                      case measure => simp [intOf]; omega
                    · obtain rfl : n2 = j := by omega
                      have HSQ : Hid (SS w wr s1 b1 s2 B0 m f La) := HSS.out.up HBJ.out
                      have HRQ : Hid (AtW EI wr (.slice pp jj q) (La.map (·.1))) := by have h := HRJ.out.at.wide; rwa [HN2.out, List.take_length] at h
                      have hjj : jj = n2 := by
                        obtain ⟨p9, c9, h9⟩ := HRJ.out.slice
                        simp only [Value.slice.injEq] at h9
                        rw [h9.2.1, List.length_map, HN2.out, List.take_length]
                      subst hjj
                      obtain ⟨be, hbe⟩ : ∃ be, Ty.best La = be := ⟨_, rfl⟩
                      obtain ⟨ee, hee⟩ : ∃ ee, Ty.bestE La = ee := ⟨_, rfl⟩
                      have HBE : Hid (Ty.best La = be ∧ Ty.bestE La = ee) := ⟨hbe, hee⟩
                      clear hbe hee HRJ HBJ
                      go_wp2_with fail
                      refine (tbest_any _ HSQ.out.ta).mono ?_
                      rintro e w6 ⟨rfl, hb6⟩
                      rw [HBE.out.1, HBE.out.2]
                      obtain ⟨W6, hW6⟩ : ∃ W6, w6.alloc (BB be) = W6 := ⟨_, rfl⟩
                      have hb6' : Below wr.heap.size wr W6 := by rw [← hW6]; exact hb6.alloc hb6.size _
                      obtain ⟨x6, hx6⟩ : ∃ x6, w6.heap.size = x6 := ⟨_, rfl⟩
                      have HW6 : Hid (w6.alloc (BB be) = W6) := hW6
                      have HX6 : Hid (w6.heap.size = x6) := hx6
                      have HS6 : Hid (SS w W6 s1 b1 s2 B0 m f La) := HSQ.out.up hb6'
                      have HR6 : Hid (AtW EI W6 (.slice pp jj q) (La.map (·.1))) := HRQ.out.up hb6'
                      have HXX6 : Hid (W6.heap[x6]? = some (BB be)) := by rw [← hW6, ← hx6]; exact heap_alloc_new _ _
                      clear hb6 hb6' hW6 hx6 HSQ HRQ
                      go_wp2_with fail
                      rw [HW6.out, HX6.out]
                      refine (rbest_any _ HS6.out.ra HL7.out).mono ?_
                      rintro e w7 ⟨rfl, hb7⟩
                      rw [HBE.out.1, HBE.out.2]
                      obtain ⟨W7, hW7⟩ : ∃ W7, w7.alloc (BR be) = W7 := ⟨_, rfl⟩
                      have HW7 : Hid (w7.alloc (BR be) = W7) := hW7
                      have hb7' : Below W6.heap.size W6 W7 := by rw [← hW7]; exact hb7.alloc hb7.size _
                      obtain ⟨x7, hx7⟩ : ∃ x7, w7.heap.size = x7 := ⟨_, rfl⟩
                      have HX7 : Hid (w7.heap.size = x7) := hx7
                      have HS7 : Hid (SS w W7 s1 b1 s2 B0 m f La) := HS6.out.up hb7'
                      have HR7 : Hid (AtW EI W7 (.slice pp jj q) (La.map (·.1))) := HR6.out.up hb7'
                      have HXX7 : Hid (W7.heap[x6]? = some (BB be)) := (hb7'.block x6 (Array.getElem?_eq_some_iff.1 HXX6.out).1).trans HXX6.out
                      have HYY7 : Hid (W7.heap[x7]? = some (BR be)) := by rw [← hW7, ← hx7]; exact heap_alloc_new _ _
                      have HUP : Hid (∀ U, W7.grownBy U none → SS w U s1 b1 s2 B0 m f La ∧ AtW EI U (.slice pp jj q) (La.map (·.1))) := fun U hU => ⟨HS7.out.up (below_none hU (Nat.le_refl _)), HR7.out.up (below_none hU (Nat.le_refl _))⟩
                      have HST : Hid (∀ U, W7.grownBy U none → U.cell? ⟨x6, 0, none⟩ = some (.int .i64 be.1) ∧ U.cell? ⟨x6, 1, none⟩ = some (.int .i64 be.2.1) ∧ U.cell? ⟨x6, 2, none⟩ = some (.int .i64 be.2.2) ∧ U.cell? ⟨x7, 0, none⟩ = some (.int .i64 be.1) ∧ U.cell? ⟨x7, 1, none⟩ = some (.int .i64 be.2.1) ∧ U.cell? ⟨x7, 2, none⟩ = some (.int .i64 be.2.2)) := fun U hU => by
                        obtain ⟨⟨d0, d1, d2⟩, -⟩ := bid_of HXX7.out
                        obtain ⟨⟨e0, e1, e2⟩, -⟩ := bid_of HYY7.out
                        exact ⟨hU.cell d0 (by simp), hU.cell d1 (by simp), hU.cell d2 (by simp), hU.cell e0 (by simp), hU.cell e1 (by simp), hU.cell e2 (by simp)⟩
                      have hq : ∀ V, (binOp .neq 39 (VB be) (VB be)).run Try.prog V = .ok (.bool false) V := fun V => by have := neq_rbid V be be; rwa [decide_eq_true rfl] at this
                      have hee2 : (ee != ee) = false := by simp
                      have hjj2 : ((jj : Int) != (jj : Int)) = false := by simp
                      obtain ⟨en, hen⟩ : ∃ en, decide (f < (jj : Int)) = en := ⟨_, rfl⟩
                      have hen2 : (en != en) = false := by simp
                      have HC : Hid (∀ U, W7.grownBy U none → Calls Try.prog 20 #[.pointer (some ⟨s1, 0, none⟩)] U fun e w' => e = .returned (.int .i64 jj) ∧ Below U.heap.size U w') := fun U hU => by have := tCount_any U (HUP.out U hU).1.ta; rwa [← HN2.out] at this
                      have HE : Hid (∀ U, W7.grownBy U none → Calls Try.prog 21 #[.pointer (some ⟨s1, 0, none⟩)] U fun e w' => e = .returned (.bool en) ∧ Below U.heap.size U w') := fun U hU => by have := tEnough_any U (HUP.out U hU).1.ta; rwa [← HN2.out, hen] at this
                      clear hb7 hb7' hW7 hx7
                      go_wp2_with fail
                      rw [HW7.out, HX7.out]
                      go_region_held3 (fun U => U.cell? ⟨x6, 0, none⟩ = some (.int .i64 be.1) ∧ U.cell? ⟨x6, 1, none⟩ = some (.int .i64 be.2.1) ∧ U.cell? ⟨x6, 2, none⟩ = some (.int .i64 be.2.2) ∧ U.cell? ⟨x7, 0, none⟩ = some (.int .i64 be.1) ∧ U.cell? ⟨x7, 1, none⟩ = some (.int .i64 be.2.1) ∧ U.cell? ⟨x7, 2, none⟩ = some (.int .i64 be.2.2)) (first | exact HST.out _ (by assumption) | exact HST.out _ (grown_drew1 _)) (first
                        | (go_at_call 19; refine (tNodes_any _ (HUP.out _ (grown_drew1 _)).1.ta).mono ?_; rintro e u2 ⟨n8, rfl, hr8, hb8⟩; have hg2 : W7.grownBy u2 none := grown_trans (grown_drew1 _) (grown_of_below hb8 none); have HR8 : Hid (AtW EI u2 n8 (La.map (·.1))) := hr8.at.wide; clear hr8 hb8)
                        | (go_at_call 18; refine (ints_same _ _ _ _ HR8.out (HUP.out _ hg2).2).mono ?_; rintro e u3 ⟨rfl, hb3⟩; have hg3 : W7.grownBy u3 none := grown_trans hg2 (grown_of_below hb3 none); clear hb3)
                        | (go_at_call 20; refine (HC.out _ hg3).mono ?_; rintro e u4 ⟨rfl, hb4⟩; have hg4 : W7.grownBy u4 none := grown_trans hg3 (grown_of_below hb4 none); clear hb4)
                        | (go_at_call 21; refine (HE.out _ hg4).mono ?_; rintro e u5 ⟨rfl, hb5⟩; have hg5 : W7.grownBy u5 none := grown_trans hg4 (grown_of_below hb5 none); clear hb5)
                        | (go_at_call 22; refine (refFaults_yes _ HIS.out).mono ?_; rintro e u6 ⟨rfl, rfl⟩)
                        | (go_at_call 12; refine (lref_any _ _).mono ?_; rintro e u7 ⟨rfl, hb7⟩; have hg7 : W7.grownBy u7 none := grown_trans hg5 hb7; clear hb7))
                      all_goals
                        have HFIN : Hid (SS w u7 s1 b1 s2 B0 m f La) := (HUP.out _ hg7).1
                        clear hg2 hg3 hg4 hg5 hg7
                        go_wp2
                        go_roundw
                        case rel => exact ⟨k + 1, La, by omega, by go_num, HFIN.out⟩
                        case measure => simp [intOf]; omega
              · have hw3 : (x.1 == 3) = false := by simp [h3]
                clear h3
                as_aux_lemma =>
                  have HSS : Hid (SS w V s1 b1 s2 B0 m f L) := HSV.out
                  go_upto_region 25 with fail
                  rw [HV.out, HA.out]
                  obtain ⟨La, hLa⟩ : ∃ La, L = La := ⟨_, rfl⟩
                  rw [hLa] at HSS
                  clear hLa
                  have HL7 : Hid (La.length ≤ 7) := HSS.out.len
                  obtain ⟨p, n2, cap2, hs2, hr2⟩ := HSS.out.ra.out
                  obtain ⟨⟨-, r1⟩, -⟩ := ra_cells hs2
                  obtain ⟨ao2, cap2', hv2, -, hx2⟩ := hr2.at.wide.open
                  simp only [Value.slice.injEq] at hv2
                  obtain ⟨rfl, hn2, rfl⟩ := hv2
                  have HN2 : Hid (n2 = La.length) := hn2
                  have hn27 : n2 ≤ 7 := by rw [hn2]; exact HL7.out
                  have HX2 : Hid (OverB V p La) := hx2
                  clear hs2 hr2 hx2 hn2
                  go_wp2
                  clear r1
                  go_loopw [19, 126] (fun u i wq => ∃ (j : Nat) (pp : Option Addr) (jj q : Nat), j ≤ n2 ∧ i = .int .i64 j ∧ u = .slice pp jj q ∧ Hid (Row EI wq V.heap.size 3 (.slice pp jj q) ((La.take j).map (·.1))) ∧ Hid (Below V.heap.size V wq)) (fun _ i _ => n2 - (intOf i).toNat)
                  case atStart => exact ⟨0, none, 0, 0, Nat.zero_le _, rfl, rfl, Row.nil _ _ _ _, Below.refl _ _⟩
                  case round =>
                    obtain ⟨j, pp, jj, q, hj, rfl, rfl, HRJ, HBJ⟩ := hrel
                    have hsj := HBJ.out.size
                    by_cases hlj : j < n2
                    · obtain ⟨y, hyj⟩ : ∃ y, La[j]? = some y := ⟨_, List.getElem?_eq_getElem (by rw [← HN2.out]; exact hlj)⟩
                      obtain ⟨b2, off2, rfl, -, hB, hc⟩ := HX2.out j y hyj
                      obtain ⟨d0, d1, d2⟩ := bid_cells HBJ.out hB hc
                      have hlj' : (j : Int) < (n2 : Int) := by omega
                      have HMA : Hid ((La.take (j + 1)).map (·.1) = (La.take j).map (·.1) ++ [y.1]) := by show _ = _; rw [Ty.take_at hyj, List.map_append]; rfl
                      have HUP : Hid (Below wr.heap.size wr ((wr.alloc (BR y)).alloc (.cells #[.int .i64 y.1] 3))) := ((Below.refl _ _).alloc (Nat.le_refl _) _).alloc (by simp) _
                      have HR3 : Hid (Row EI ((wr.alloc (BR y)).alloc (.cells #[.int .i64 y.1] 3)) V.heap.size 3 (.slice pp jj q) ((La.take j).map (·.1))) := HRJ.out.up HUP.out
                      have HB3 : Hid (Below V.heap.size V ((wr.alloc (BR y)).alloc (.cells #[.int .i64 y.1] 3))) := (HBJ.out.alloc hsj _).alloc (by simp; omega) _
                      have HO : Hid (AtW EI ((wr.alloc (BR y)).alloc (.cells #[.int .i64 y.1] 3)) (.slice (some ⟨wr.heap.size + 1, 0, none⟩) 1 1) [y.1]) := by
                        have h2 := heap_alloc_new (wr.alloc (BR y)) (.cells #[.int .i64 y.1] 3)
                        rw [show (wr.alloc (BR y)).heap.size = wr.heap.size + 1 by simp] at h2
                        exact at_oneI h2
                      have HLEN : Hid (((La.take j).map (·.1)).length ≤ j) := by show _ ≤ _; rw [List.length_map, List.length_take]; omega
                      clear hyj hc hB
                      go_wp2_with (at_builtin; refine wpList_row _ rfl _ _ 46 rfl EI (fun _ => True) V.heap.size 3 i0 _ 8 Try.underlying46 hi hz0 hz1 hz2 rfl (.slice pp jj q) ((La.take j).map (·.1)) (by rfl) HR3.out (.slice (some ⟨wr.heap.size + 1, 0, none⟩) 1 1) [y.1] (by rfl) HO.out (by have := HLEN.out; unfold maxLen; simp only [List.length_cons, List.length_nil]; omega) (by have := HLEN.out; simp only [List.length_cons, List.length_nil]; omega) (by simp; omega) ?_; intro v7 w7 hrow7 hg7 hloc7)
                      have HEND : Hid (Row EI w7 V.heap.size 3 v7 ((La.take (j + 1)).map (·.1)) ∧ Below V.heap.size V w7) := ⟨by rw [HMA.out]; exact hrow7, HB3.out.grown hg7 (by simp; omega) (fun k hk => (HR3.out.lt k hk).1)⟩
                      clear hrow7 hg7 hloc7
                      obtain ⟨p7, n7, c7, rfl⟩ := HEND.out.1.slice3
                      go_wp2
                      go_roundw
                      case rel => exact ⟨j + 1, p7, n7, c7, by omega, by go_num, rfl, HEND.out.1, HEND.out.2⟩
                      case measure => simp [intOf]; omega
                    · obtain rfl : n2 = j := by omega
                      have HSQ : Hid (SS w wr s1 b1 s2 B0 m f La) := HSS.out.up HBJ.out
                      have HRQ : Hid (AtW EI wr (.slice pp jj q) (La.map (·.1))) := by have h := HRJ.out.at.wide; rwa [HN2.out, List.take_length] at h
                      have hjj : jj = n2 := by
                        obtain ⟨p9, c9, h9⟩ := HRJ.out.slice
                        simp only [Value.slice.injEq] at h9
                        rw [h9.2.1, List.length_map, HN2.out, List.take_length]
                      subst hjj
                      obtain ⟨be, hbe⟩ : ∃ be, Ty.best La = be := ⟨_, rfl⟩
                      obtain ⟨ee, hee⟩ : ∃ ee, Ty.bestE La = ee := ⟨_, rfl⟩
                      have HBE : Hid (Ty.best La = be ∧ Ty.bestE La = ee) := ⟨hbe, hee⟩
                      clear hbe hee HRJ HBJ
                      go_wp2_with fail
                      refine (tbest_any _ HSQ.out.ta).mono ?_
                      rintro e w6 ⟨rfl, hb6⟩
                      rw [HBE.out.1, HBE.out.2]
                      obtain ⟨W6, hW6⟩ : ∃ W6, w6.alloc (BB be) = W6 := ⟨_, rfl⟩
                      have hb6' : Below wr.heap.size wr W6 := by rw [← hW6]; exact hb6.alloc hb6.size _
                      obtain ⟨x6, hx6⟩ : ∃ x6, w6.heap.size = x6 := ⟨_, rfl⟩
                      have HW6 : Hid (w6.alloc (BB be) = W6) := hW6
                      have HX6 : Hid (w6.heap.size = x6) := hx6
                      have HS6 : Hid (SS w W6 s1 b1 s2 B0 m f La) := HSQ.out.up hb6'
                      have HR6 : Hid (AtW EI W6 (.slice pp jj q) (La.map (·.1))) := HRQ.out.up hb6'
                      have HXX6 : Hid (W6.heap[x6]? = some (BB be)) := by rw [← hW6, ← hx6]; exact heap_alloc_new _ _
                      clear hb6 hb6' hW6 hx6 HSQ HRQ
                      go_wp2_with fail
                      rw [HW6.out, HX6.out]
                      refine (rbest_any _ HS6.out.ra HL7.out).mono ?_
                      rintro e w7 ⟨rfl, hb7⟩
                      rw [HBE.out.1, HBE.out.2]
                      obtain ⟨W7, hW7⟩ : ∃ W7, w7.alloc (BR be) = W7 := ⟨_, rfl⟩
                      have HW7 : Hid (w7.alloc (BR be) = W7) := hW7
                      have hb7' : Below W6.heap.size W6 W7 := by rw [← hW7]; exact hb7.alloc hb7.size _
                      obtain ⟨x7, hx7⟩ : ∃ x7, w7.heap.size = x7 := ⟨_, rfl⟩
                      have HX7 : Hid (w7.heap.size = x7) := hx7
                      have HS7 : Hid (SS w W7 s1 b1 s2 B0 m f La) := HS6.out.up hb7'
                      have HR7 : Hid (AtW EI W7 (.slice pp jj q) (La.map (·.1))) := HR6.out.up hb7'
                      have HXX7 : Hid (W7.heap[x6]? = some (BB be)) := (hb7'.block x6 (Array.getElem?_eq_some_iff.1 HXX6.out).1).trans HXX6.out
                      have HYY7 : Hid (W7.heap[x7]? = some (BR be)) := by rw [← hW7, ← hx7]; exact heap_alloc_new _ _
                      have HUP : Hid (∀ U, W7.grownBy U none → SS w U s1 b1 s2 B0 m f La ∧ AtW EI U (.slice pp jj q) (La.map (·.1))) := fun U hU => ⟨HS7.out.up (below_none hU (Nat.le_refl _)), HR7.out.up (below_none hU (Nat.le_refl _))⟩
                      have HST : Hid (∀ U, W7.grownBy U none → U.cell? ⟨x6, 0, none⟩ = some (.int .i64 be.1) ∧ U.cell? ⟨x6, 1, none⟩ = some (.int .i64 be.2.1) ∧ U.cell? ⟨x6, 2, none⟩ = some (.int .i64 be.2.2) ∧ U.cell? ⟨x7, 0, none⟩ = some (.int .i64 be.1) ∧ U.cell? ⟨x7, 1, none⟩ = some (.int .i64 be.2.1) ∧ U.cell? ⟨x7, 2, none⟩ = some (.int .i64 be.2.2)) := fun U hU => by
                        obtain ⟨⟨d0, d1, d2⟩, -⟩ := bid_of HXX7.out
                        obtain ⟨⟨e0, e1, e2⟩, -⟩ := bid_of HYY7.out
                        exact ⟨hU.cell d0 (by simp), hU.cell d1 (by simp), hU.cell d2 (by simp), hU.cell e0 (by simp), hU.cell e1 (by simp), hU.cell e2 (by simp)⟩
                      have hq : ∀ V, (binOp .neq 39 (VB be) (VB be)).run Try.prog V = .ok (.bool false) V := fun V => by have := neq_rbid V be be; rwa [decide_eq_true rfl] at this
                      have hee2 : (ee != ee) = false := by simp
                      have hjj2 : ((jj : Int) != (jj : Int)) = false := by simp
                      obtain ⟨en, hen⟩ : ∃ en, decide (f < (jj : Int)) = en := ⟨_, rfl⟩
                      have hen2 : (en != en) = false := by simp
                      have HC : Hid (∀ U, W7.grownBy U none → Calls Try.prog 20 #[.pointer (some ⟨s1, 0, none⟩)] U fun e w' => e = .returned (.int .i64 jj) ∧ Below U.heap.size U w') := fun U hU => by have := tCount_any U (HUP.out U hU).1.ta; rwa [← HN2.out] at this
                      have HE : Hid (∀ U, W7.grownBy U none → Calls Try.prog 21 #[.pointer (some ⟨s1, 0, none⟩)] U fun e w' => e = .returned (.bool en) ∧ Below U.heap.size U w') := fun U hU => by have := tEnough_any U (HUP.out U hU).1.ta; rwa [← HN2.out, hen] at this
                      clear hb7 hb7' hW7 hx7
                      go_wp2_with fail
                      rw [HW7.out, HX7.out]
                      go_region_held3 (fun U => U.cell? ⟨x6, 0, none⟩ = some (.int .i64 be.1) ∧ U.cell? ⟨x6, 1, none⟩ = some (.int .i64 be.2.1) ∧ U.cell? ⟨x6, 2, none⟩ = some (.int .i64 be.2.2) ∧ U.cell? ⟨x7, 0, none⟩ = some (.int .i64 be.1) ∧ U.cell? ⟨x7, 1, none⟩ = some (.int .i64 be.2.1) ∧ U.cell? ⟨x7, 2, none⟩ = some (.int .i64 be.2.2)) (first | exact HST.out _ (by assumption) | exact HST.out _ (grown_drew1 _)) (first
                        | (go_at_call 19; refine (tNodes_any _ (HUP.out _ (grown_drew1 _)).1.ta).mono ?_; rintro e u2 ⟨n8, rfl, hr8, hb8⟩; have hg2 : W7.grownBy u2 none := grown_trans (grown_drew1 _) (grown_of_below hb8 none); have HR8 : Hid (AtW EI u2 n8 (La.map (·.1))) := hr8.at.wide; clear hr8 hb8)
                        | (go_at_call 18; refine (ints_same _ _ _ _ HR8.out (HUP.out _ hg2).2).mono ?_; rintro e u3 ⟨rfl, hb3⟩; have hg3 : W7.grownBy u3 none := grown_trans hg2 (grown_of_below hb3 none); clear hb3)
                        | (go_at_call 20; refine (HC.out _ hg3).mono ?_; rintro e u4 ⟨rfl, hb4⟩; have hg4 : W7.grownBy u4 none := grown_trans hg3 (grown_of_below hb4 none); clear hb4)
                        | (go_at_call 21; refine (HE.out _ hg4).mono ?_; rintro e u5 ⟨rfl, hb5⟩; have hg5 : W7.grownBy u5 none := grown_trans hg4 (grown_of_below hb5 none); clear hb5)
                        | (go_at_call 22; refine (refFaults_yes _ HIS.out).mono ?_; rintro e u6 ⟨rfl, rfl⟩)
                        | (go_at_call 12; refine (lref_any _ _).mono ?_; rintro e u7 ⟨rfl, hb7⟩; have hg7 : W7.grownBy u7 none := grown_trans hg5 hb7; clear hb7))
                      all_goals
                        have HFIN : Hid (SS w u7 s1 b1 s2 B0 m f La) := (HUP.out _ hg7).1
                        clear hg2 hg3 hg4 hg5 hg7
                        go_wp2
                        go_roundw
                        case rel => exact ⟨k + 1, La, by omega, by go_num, HFIN.out⟩
                        case measure => simp [intOf]; omega
      · obtain rfl : n = k := by omega
        go_wp2_with fail
        refine (two_any _).mono ?_
        rintro e wz ⟨rfl, hb⟩
        have HBZ : Hid (Below w.heap.size w wz) := HSK.out.bel.trans (hb.mono HSK.out.bel.size)
        clear hb
        go_wp2
        go_ret
        exact ⟨rfl, HBZ.out⟩

set_option maxRecDepth 100000 in
theorem tallySteps_lifted (os : Os) (started : os.Started) (H : Type) (enc : TypeId × Value → H) :
    ReturnsInHanded {} Try.checked os 3 .any (Rows.tallyStepsSpec.pre6 enc Try.prog Try.f3 Rows.tallyStepsRow.domain false) (Rows.tallyStepsSpec.post enc Try.prog Try.f3 false true false false) := by
  refine returnsInHanded_of_change (C := Try.checked) own started (by kernel_rfl) Try.func3
    (ChangeSpec.witness6 (enc := enc) (C := Try.checked) false ⟨#[], #[.int .i64 0, .slice none 0 0], []⟩ 8 (by kernel_rfl) (by kernel_rfl) (by kernel_rfl) (by kernel_rfl)) ?_
  intro W base args ds gs before hval0 hW hcnd _
  have hval : ∀ (j : Nat) t v, Try.f3.params[j]? = some t → args[j]? = some v → Value.okWide Try.prog W .any base t v := hval0
  have hW' := hW
  obtain ⟨p, q, hA0, hV, rfl, hfz, hnd⟩ := hW
  have hA : DataW.TrodAll enc Try.prog W 0 (fun _ => true) true Try.f3.params.toList args.toList ds p := hA0
  rw [Try.params3] at hA hval
  obtain ⟨v0, v1, d0, d1, p0, p1, rfl, rfl, rfl, h0, h1⟩ := trodAll_two hA
  obtain ⟨rfl, rfl⟩ := trodVars_none hV
  obtain ⟨x0, rfl, -, -, -⟩ := open_int Try.underlying3 (hval 0 3 v0 rfl rfl) h0
  obtain ⟨x1, hl1⟩ := open_steps (hval 1 22 v1 rfl rfl) h1
  refine (steps_any x0 _ x1 W hl1).mono fun e W' ⟨he, hg⟩ => ⟨_, he, ?_⟩
  exact Law.post laidOut (by kernel_rfl) rfl Try.underlying4 hW' rfl rfl hg

theorem tallySteps_holds : Rows.TallyStepsSaid :=
  OpenClaim.holds_of_wide 3 Try.f3 rfl rfl rfl rfl rfl rfl rfl ⟨rfl, rfl, rfl, rfl, rfl⟩ rfl rfl rfl rfl rfl (by kernel_rfl) Try.func3 (by kernel_rfl)
    (of_decide_eq_true (by kernel_rfl)) (by unfold Func.isWrapper; first | (rw [if_pos (by decide +kernel)]; kernel_rfl) | (rw [if_neg (by decide +kernel)]; exact ⟨rfl, rfl⟩))
    (fun os started H enc _ => tallySteps_lifted os started H enc)
#print axioms tallySteps_holds
end Go.Proofs.Ytdcknokggjbebaa
