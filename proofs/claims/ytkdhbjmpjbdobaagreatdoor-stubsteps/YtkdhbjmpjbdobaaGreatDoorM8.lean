/-
  The texts WRight, as one.
-/
import Derived.Test.YtkdhbjmpjbdobaaGreatDoorM7
/- WRight -/
namespace Go.Proofs.YtkdhbjmpjbdobaaGreatDoor
open Go.ChangeShapes Go.WideShapes Go.ChangeAt Go.RowKit Go.Deep Me
set_option maxRecDepth 100000
theorem big_cell {w : World} {A : Nat} {m : Mm} {u z : Value} {k : Nat} {y : Int} (h : w.heap[A]? = some (BMr m u z)) (hk : (bigs m)[k]? = some y) : w.cell? ⟨A, 1 + k, none⟩ = some (.int .i64 y) := by
  obtain ⟨c0, c1, c2, c3, c4, c5, c6, c7, c8, c9, c10, c11, c12, c13, c14⟩ := mr_of h
  match k, hk with
  | 0, hk => simp [bigs] at hk; subst hk; exact c1
  | 1, hk => simp [bigs] at hk; subst hk; exact c2
  | 2, hk => simp [bigs] at hk; subst hk; exact c3
  | 3, hk => simp [bigs] at hk; subst hk; exact c4
  | 4, hk => simp [bigs] at hk; subst hk; exact c5
  | 5, hk => simp [bigs] at hk; subst hk; exact c6
  | 6, hk => simp [bigs] at hk; subst hk; exact c7
theorem Me.right_alt (m : Mm) : right m = ((bigs m).all bigB && (m.items.all okIt && ((decide (m.lives.length = 0) || vecB m.lives) && ((manZ m.mo m.ms m.mm || manR m.mo m.ms m.mm) && (decide (1 ≤ m.k) && (decide (m.k ≤ 12) && (decide (m.items.length ≤ 256) && (decide (0 ≤ m.nu) && (decide (m.nu < 65536) && decide (m.d.size ≤ 8192)))))))))) := by
  unfold right kB nB
  rw [liv_vec]
  unfold manB
  rw [Bool.eq_iff_iff]
  simp only [Bool.and_eq_true, decide_eq_true_eq]
  constructor
  · rintro ⟨h1, h2, h3, h4, h5, h6, h7, h8⟩
    exact ⟨h2, h5, h3, h6, h1.1, h1.2, h4, h7.1, by omega, h8⟩
  · rintro ⟨h2, h5, h3, h6, h1, h1', h4, h7, h7', h8⟩
    exact ⟨⟨h1, h1'⟩, h2, h3, h4, h5, h6, ⟨h7, by omega⟩, h8⟩
set_option maxRecDepth 100000 in
set_option maxRecDepth 100000 in
set_option maxHeartbeats 16000000 in
theorem rright_any (m : Mm) (u z : Value) (w : World) (hv : MAt w m u z) : Calls Tryz.prog 93 #[VM m u z] w fun e w' => e = .returned (.bool (right m)) ∧ Below w.heap.size w w' := by
  have HV : Hid (MAt w m u z) := hv
  obtain ⟨ao1, cap1, rfl, hm1, -⟩ := hv.lives.open
  obtain ⟨ao2, cap2, rfl, hm2, hx2⟩ := hv.items.open
  unfold maxLen at hm1 hm2
  obtain ⟨n1, hn1⟩ : ∃ n1, m.lives.length = n1 := ⟨_, rfl⟩
  obtain ⟨n2, hn2⟩ : ∃ n2, m.items.length = n2 := ⟨_, rfl⟩
  have HN2 : Hid (m.items.length = n2) := hn2
  have HX2 : Hid (∀ i x, m.items[i]? = some x → ∃ b off, ao2 = some ⟨b, off, none⟩ ∧ True ∧ b < w.heap.size ∧ ∀ k u, (EM.cells x)[k]? = some u → w.cell? ⟨b, off + (i * EM.sz + k), none⟩ = some u) := hx2
  obtain ⟨t1, h1⟩ : ∃ t, (bigs m).all bigB = t := ⟨_, rfl⟩
  obtain ⟨t2, h2⟩ : ∃ t, m.items.all okIt = t := ⟨_, rfl⟩
  obtain ⟨t3, h3⟩ : ∃ t, vecB m.lives = t := ⟨_, rfl⟩
  obtain ⟨t4, h4⟩ : ∃ t, manZ m.mo m.ms m.mm = t := ⟨_, rfl⟩
  obtain ⟨t5, h5⟩ : ∃ t, manR m.mo m.ms m.mm = t := ⟨_, rfl⟩
  obtain ⟨t6, h6⟩ : ∃ t, decide (1 ≤ m.k) = t := ⟨_, rfl⟩
  obtain ⟨t7, h7⟩ : ∃ t, decide (m.k ≤ 12) = t := ⟨_, rfl⟩
  obtain ⟨t8, h8⟩ : ∃ t, decide (m.items.length ≤ 256) = t := ⟨_, rfl⟩
  obtain ⟨t9, h9⟩ : ∃ t, decide (0 ≤ m.nu) = t := ⟨_, rfl⟩
  obtain ⟨t10, h10⟩ : ∃ t, decide (m.nu < 65536) = t := ⟨_, rfl⟩
  obtain ⟨t11, h11⟩ : ∃ t, decide (m.d.size ≤ 8192) = t := ⟨_, rfl⟩
  obtain ⟨tz, hz⟩ : ∃ t, decide (0 < (n1 : Int)) = t := ⟨_, rfl⟩
  have hzz : decide (m.lives.length = 0) = !tz := by rw [← hz, hn1, Bool.eq_iff_iff]; simp
  have HE : Hid (right m = (t1 && (t2 && ((!tz || t3) && ((t4 || t5) && (t6 && (t7 && (t8 && (t9 && (t10 && t11)))))))))) := by show _ = _; rw [right_alt, h1, h2, h3, h4, h5, h6, h7, h8, h9, h10, h11, hzz]
  have h8' : decide ((n2 : Int) ≤ 256) = t8 := by rw [← h8, hn2]; simp; omega
  have h11' : decide ((m.d.size : Int) ≤ 8192) = t11 := by rw [← h11]; simp; omega
  have hz' : decide (0 < n1) = tz := by rw [← hz]; simp
  have H1 : Hid ((bigs m).all bigB = t1) := h1
  have H2 : Hid (m.items.all okIt = t2) := h2
  have H3 : Hid (vecB m.lives = t3) := h3
  have H4 : Hid (manZ m.mo m.ms m.mm = t4) := h4
  have H5 : Hid (manR m.mo m.ms m.mm = t5) := h5
  rw [hn1, hn2] at HV ⊢
  rw [hn2] at hm2
  rw [hn1] at hm1
  obtain ⟨W, hW⟩ : ∃ W, w.alloc (BMr m (.slice ao1 n1 cap1) (.slice ao2 n2 cap2)) = W := ⟨_, rfl⟩
  have HW : Hid (w.alloc (BMr m (.slice ao1 n1 cap1) (.slice ao2 n2 cap2)) = W) := hW
  have HBW : Hid (Below w.heap.size w W) := by rw [← hW]; exact below_alloc _ _
  obtain ⟨A, hA⟩ : ∃ A, w.heap.size = A := ⟨_, rfl⟩
  have HA : Hid (w.heap.size = A) := hA
  have HX : Hid (W.heap[A]? = some (BMr m (.slice ao1 n1 cap1) (.slice ao2 n2 cap2))) := by rw [← hW, ← hA]; exact heap_alloc_new _ _
  obtain ⟨ans, hans⟩ : ∃ ans, right m = ans := ⟨_, rfl⟩
  rw [hans] at HE ⊢
  clear hv h1 h2 h3 h4 h5 h8 h11 hW hA hn1 hn2 hx2 hans hzz
  go_enter Tryz.func93, Tryz.ntmps93
  go_wp2
  rw [HW.out, HA.out]
  go_loopw [3] (fun i wr => ∃ k : Nat, k ≤ 7 ∧ i = .int .i64 k ∧ Hid (((bigs m).take k).all bigB = true) ∧ Hid (wr = W)) (fun i _ => 7 - (intOf i).toNat)
  case atStart => exact ⟨0, Nat.zero_le _, rfl, rfl, Eq.refl W⟩
  case round =>
    obtain ⟨k, hk, rfl, HP, HWR⟩ := hrel
    rw [HWR.out]
    clear HWR
    by_cases hlt : k < 7
    · obtain ⟨y, hyk⟩ : ∃ y, (bigs m)[k]? = some y := ⟨_, List.getElem?_eq_getElem (by simp [bigs]; exact hlt)⟩
      have d0 := big_cell HX.out hyk
      have hlt' : (k : Int) < 7 := by omega
      have HYM : Hid (y ∈ bigs m) := List.mem_of_getElem? hyk
      have HTA : Hid (((bigs m).take (k + 1)).all bigB = (((bigs m).take k).all bigB && bigB y)) := by show _ = _; rw [List.take_add_one, hyk]; simp
      clear hyk
      by_cases b1 : y < 0
      · have HAN : Hid (ans = false) := by
          have : (bigs m).all bigB = false := List.all_eq_false.2 ⟨y, HYM.out, by simp [bigB]; omega⟩
          show ans = false
          rw [HE.out, ← H1.out, this, Bool.false_and]
        have b1' : decide (y < 0) = true := decide_eq_true b1
        go_wp2
        go_ret
        exact ⟨by rw [HAN.out]; rfl, HBW.out⟩
      · have b1' : decide (y < 0) = false := decide_eq_false b1
        by_cases b2 : 1099511627776 < y
        · have HAN : Hid (ans = false) := by
            have : (bigs m).all bigB = false := List.all_eq_false.2 ⟨y, HYM.out, by simp [bigB]; omega⟩
            show ans = false
            rw [HE.out, ← H1.out, this, Bool.false_and]
          have b2' : decide (1099511627776 < y) = true := decide_eq_true b2
          go_wp2
          go_ret
          exact ⟨by rw [HAN.out]; rfl, HBW.out⟩
        · have b2' : decide (1099511627776 < y) = false := decide_eq_false b2
          have HP2 : Hid (((bigs m).take (k + 1)).all bigB = true) := by
            show _ = _
            rw [HTA.out, HP.out]
            simp [bigB]
            omega
          go_wp2
          go_roundw
          case rel => exact ⟨k + 1, by omega, by go_num, HP2.out, (by first | exact Eq.refl W | exact trivial)⟩
          case measure => simp [intOf]; omega
    · have hk7 : k = 7 := by omega
      have hkn : ¬ (k : Int) < 7 := by omega
      have HT1 : Hid (t1 = true) := by
        show t1 = true
        rw [← H1.out]
        have h := HP.out
        rwa [List.take_of_length_le (by simp [bigs]; omega)] at h
      have hk0 : (k : Int) ≤ 7 := by omega
      clear hk7 hlt hk
      obtain ⟨k0, hk0'⟩ : ∃ k0, k = k0 := ⟨_, rfl⟩
      subst hk0'
      obtain ⟨c0, c1, c2, c3, c4, c5, c6, c7, c8, c9, c10, c11, c12, c13, c14⟩ := mr_of HX.out
      go_wp2
      clear c0 c1 c2 c3 c4 c5 c6 c7 c8 c9 c10 c11 c12 c13 c14
      go_loopw [25] (fun i wq => ∃ kk : Nat, kk ≤ n2 ∧ i = .int .i64 kk ∧ Hid ((m.items.take kk).all okIt = true) ∧ Hid (Below W.heap.size W wq)) (fun i _ => n2 - (intOf i).toNat)
      case atStart => exact ⟨0, Nat.zero_le _, rfl, rfl, Below.refl _ _⟩
      case round =>
        obtain ⟨kk, hk2, rfl, HP2, HB⟩ := hrel
        have hsz := HB.out.size
        have HBB : Hid (Below w.heap.size w wr) := bup HBW.out HB.out
        by_cases hlt : kk < n2
        · obtain ⟨y, hyk⟩ : ∃ y, m.items[kk]? = some y := ⟨_, List.getElem?_eq_getElem (by rw [HN2.out]; exact hlt)⟩
          obtain ⟨b2, off, rfl, -, hB, hc⟩ := HX2.out kk y hyk
          have aa := fun j u hj => (HBB.out.cell (p := ⟨b2, off + (kk * EM.sz + j), none⟩) hB).trans (hc j u hj)
          have d0 : wr.cell? ⟨b2, off + kk * 4, none⟩ = some (.int .i64 y.v) := aa 0 _ rfl
          have d1 : wr.cell? ⟨b2, off + kk * 4 + 1, none⟩ = some (.int .i64 y.c) := aa 1 _ rfl
          have d2 : wr.cell? ⟨b2, off + kk * 4 + 2, none⟩ = some (.int .i64 y.r) := aa 2 _ rfl
          have d3 : wr.cell? ⟨b2, off + kk * 4 + 3, none⟩ = some (.string y.b) := aa 3 _ rfl
          have hlt' : (kk : Int) < (n2 : Int) := by omega
          have HYM : Hid (y ∈ m.items) := List.mem_of_getElem? hyk
          have HTA : Hid ((m.items.take (kk + 1)).all okIt = ((m.items.take kk).all okIt && okIt y)) := by show _ = _; rw [List.take_add_one, hyk]; simp
          have HB3 : Hid (Below W.heap.size W (wr.alloc (BI y))) := bup HB.out (below_alloc _ _)
          clear hc hyk hB aa
          go_wp2_with fail
          refine (r5_any _ _).mono ?_
          rintro e w4 ⟨rfl, hb4⟩
          have HB4 : Hid (Below W.heap.size W w4) := bup HB3.out hb4
          clear hb4 d0 d1 d2 d3
          cases hok : okIt y with
          | false =>
            have HAN : Hid (ans = false) := by
              have : m.items.all okIt = false := List.all_eq_false.2 ⟨y, HYM.out, by rw [hok]; simp⟩
              show ans = false
              rw [HE.out, ← H2.out, this]
              simp
            go_wp2
            go_ret
            exact ⟨by rw [HAN.out]; rfl, bup HBW.out HB4.out⟩
          | true =>
            have HP3 : Hid ((m.items.take (kk + 1)).all okIt = true) := by show _ = _; rw [HTA.out, HP2.out, hok]; rfl
            go_wp2
            go_roundw
            case rel => exact ⟨kk + 1, by omega, by go_num, HP3.out, HB4.out⟩
            case measure => simp [intOf]; omega
        · obtain rfl : n2 = kk := by omega
          have HT2 : Hid (t2 = true) := by
            show t2 = true
            rw [← H2.out]
            have h := HP2.out
            rwa [← HN2.out, List.take_length] at h
          have HE2 : Hid (ans = ((!tz || t3) && ((t4 || t5) && (t6 && (t7 && (t8 && (t9 && (t10 && t11)))))))) := by show _ = _; rw [HE.out, HT1.out, HT2.out]; rfl
          clear HP2 HP HT1 HT2 HE
          cases tz with
          | false =>
            obtain ⟨c0, c1, c2, c3, c4, c5, c6, c7, c8, c9, c10, c11, c12, c13, c14⟩ := mr_of (blk HX.out HB.out)
            have HE4 : Hid (ans = ((t4 || t5) && (t6 && (t7 && (t8 && (t9 && (t10 && t11))))))) := by show _ = _; rw [HE2.out]; rfl
            go_wp2_with fail
            refine (rnone_any _ _ _ _).mono ?_
            rintro e w6 ⟨rfl, hb6⟩
            rw [H4.out]
            have HB6 : Hid (Below W.heap.size W w6) := bup HB.out hb6
            clear hb6 c0 c1 c2 c3 c4 c5 c6 c7 c8 c9 c10 c11 c12 c13 c14
            obtain ⟨c0, c1, c2, c3, c4, c5, c6, c7, c8, c9, c10, c11, c12, c13, c14⟩ := mr_of (blk HX.out HB6.out)
            cases t4 with
            | true =>
              have HE3 : Hid (ans = (t6 && (t7 && (t8 && (t9 && (t10 && t11)))))) := by show _ = _; rw [HE4.out]; rfl
              cases t6 with
              | false =>
                have HAN : Hid (ans = false) := by show ans = false; rw [HE3.out]; simp
                go_wp2
                go_ret
                exact ⟨by rw [HAN.out]; rfl, bup HBW.out HB6.out⟩
              | true =>
                cases t7 with
                | false =>
                  have HAN : Hid (ans = false) := by show ans = false; rw [HE3.out]; simp
                  go_wp2
                  go_ret
                  exact ⟨by rw [HAN.out]; rfl, bup HBW.out HB6.out⟩
                | true =>
                  cases t8 with
                  | false =>
                    have HAN : Hid (ans = false) := by show ans = false; rw [HE3.out]; simp
                    go_wp2
                    go_ret
                    exact ⟨by rw [HAN.out]; rfl, bup HBW.out HB6.out⟩
                  | true =>
                    cases t9 with
                    | false =>
                      have HAN : Hid (ans = false) := by show ans = false; rw [HE3.out]; simp
                      go_wp2
                      go_ret
                      exact ⟨by rw [HAN.out]; rfl, bup HBW.out HB6.out⟩
                    | true =>
                      cases t10 with
                      | false =>
                        have HAN : Hid (ans = false) := by show ans = false; rw [HE3.out]; simp
                        go_wp2
                        go_ret
                        exact ⟨by rw [HAN.out]; rfl, bup HBW.out HB6.out⟩
                      | true =>
                        cases t11 with
                        | false =>
                          have HAN : Hid (ans = false) := by show ans = false; rw [HE3.out]; simp
                          go_wp2
                          go_ret
                          exact ⟨by rw [HAN.out]; rfl, bup HBW.out HB6.out⟩
                        | true =>
                          have HAN : Hid (ans = true) := by show ans = true; rw [HE3.out]; rfl
                          go_wp2
                          go_ret
                          exact ⟨by rw [HAN.out]; rfl, bup HBW.out HB6.out⟩
            | false =>
              go_wp2_with fail
              refine (r19_any _ _ _ _).mono ?_
              rintro e w7 ⟨rfl, hb7⟩
              rw [H5.out]
              have HB7 : Hid (Below W.heap.size W w7) := bup HB6.out hb7
              clear hb7 c0 c1 c2 c3 c4 c5 c6 c7 c8 c9 c10 c11 c12 c13 c14
              obtain ⟨c0, c1, c2, c3, c4, c5, c6, c7, c8, c9, c10, c11, c12, c13, c14⟩ := mr_of (blk HX.out HB7.out)
              cases t5 with
              | true =>
                have HE3 : Hid (ans = (t6 && (t7 && (t8 && (t9 && (t10 && t11)))))) := by show _ = _; rw [HE4.out]; rfl
                cases t6 with
                | false =>
                  have HAN : Hid (ans = false) := by show ans = false; rw [HE3.out]; simp
                  go_wp2
                  go_ret
                  exact ⟨by rw [HAN.out]; rfl, bup HBW.out HB7.out⟩
                | true =>
                  cases t7 with
                  | false =>
                    have HAN : Hid (ans = false) := by show ans = false; rw [HE3.out]; simp
                    go_wp2
                    go_ret
                    exact ⟨by rw [HAN.out]; rfl, bup HBW.out HB7.out⟩
                  | true =>
                    cases t8 with
                    | false =>
                      have HAN : Hid (ans = false) := by show ans = false; rw [HE3.out]; simp
                      go_wp2
                      go_ret
                      exact ⟨by rw [HAN.out]; rfl, bup HBW.out HB7.out⟩
                    | true =>
                      cases t9 with
                      | false =>
                        have HAN : Hid (ans = false) := by show ans = false; rw [HE3.out]; simp
                        go_wp2
                        go_ret
                        exact ⟨by rw [HAN.out]; rfl, bup HBW.out HB7.out⟩
                      | true =>
                        cases t10 with
                        | false =>
                          have HAN : Hid (ans = false) := by show ans = false; rw [HE3.out]; simp
                          go_wp2
                          go_ret
                          exact ⟨by rw [HAN.out]; rfl, bup HBW.out HB7.out⟩
                        | true =>
                          cases t11 with
                          | false =>
                            have HAN : Hid (ans = false) := by show ans = false; rw [HE3.out]; simp
                            go_wp2
                            go_ret
                            exact ⟨by rw [HAN.out]; rfl, bup HBW.out HB7.out⟩
                          | true =>
                            have HAN : Hid (ans = true) := by show ans = true; rw [HE3.out]; rfl
                            go_wp2
                            go_ret
                            exact ⟨by rw [HAN.out]; rfl, bup HBW.out HB7.out⟩
              | false =>
                have HAN : Hid (ans = false) := by show ans = false; rw [HE4.out]; rfl
                go_wp2
                go_ret
                exact ⟨by rw [HAN.out]; rfl, bup HBW.out HB7.out⟩
          | true =>
            obtain ⟨c0, c1, c2, c3, c4, c5, c6, c7, c8, c9, c10, c11, c12, c13, c14⟩ := mr_of (blk HX.out HB.out)
            go_wp2_with fail
            refine (r20_any _ _ _ (HV.out.lives.up HBB.out)).mono ?_
            rintro e w5 ⟨rfl, rfl⟩
            rw [H3.out]
            have HB5 : Hid (Below W.heap.size W w5) := HB.out
            cases t3 with
            | false =>
              have HAN : Hid (ans = false) := by show ans = false; rw [HE2.out]; rfl
              go_wp2
              go_ret
              exact ⟨by rw [HAN.out]; rfl, bup HBW.out HB5.out⟩
            | true =>
              have HE4 : Hid (ans = ((t4 || t5) && (t6 && (t7 && (t8 && (t9 && (t10 && t11))))))) := by show _ = _; rw [HE2.out]; rfl
              go_wp2_with fail
              refine (rnone_any _ _ _ _).mono ?_
              rintro e w6 ⟨rfl, hb6⟩
              rw [H4.out]
              have HB6 : Hid (Below W.heap.size W w6) := bup HB5.out hb6
              clear hb6 c0 c1 c2 c3 c4 c5 c6 c7 c8 c9 c10 c11 c12 c13 c14
              obtain ⟨c0, c1, c2, c3, c4, c5, c6, c7, c8, c9, c10, c11, c12, c13, c14⟩ := mr_of (blk HX.out HB6.out)
              cases t4 with
              | true =>
                have HE3 : Hid (ans = (t6 && (t7 && (t8 && (t9 && (t10 && t11)))))) := by show _ = _; rw [HE4.out]; rfl
                cases t6 with
                | false =>
                  have HAN : Hid (ans = false) := by show ans = false; rw [HE3.out]; simp
                  go_wp2
                  go_ret
                  exact ⟨by rw [HAN.out]; rfl, bup HBW.out HB6.out⟩
                | true =>
                  cases t7 with
                  | false =>
                    have HAN : Hid (ans = false) := by show ans = false; rw [HE3.out]; simp
                    go_wp2
                    go_ret
                    exact ⟨by rw [HAN.out]; rfl, bup HBW.out HB6.out⟩
                  | true =>
                    cases t8 with
                    | false =>
                      have HAN : Hid (ans = false) := by show ans = false; rw [HE3.out]; simp
                      go_wp2
                      go_ret
                      exact ⟨by rw [HAN.out]; rfl, bup HBW.out HB6.out⟩
                    | true =>
                      cases t9 with
                      | false =>
                        have HAN : Hid (ans = false) := by show ans = false; rw [HE3.out]; simp
                        go_wp2
                        go_ret
                        exact ⟨by rw [HAN.out]; rfl, bup HBW.out HB6.out⟩
                      | true =>
                        cases t10 with
                        | false =>
                          have HAN : Hid (ans = false) := by show ans = false; rw [HE3.out]; simp
                          go_wp2
                          go_ret
                          exact ⟨by rw [HAN.out]; rfl, bup HBW.out HB6.out⟩
                        | true =>
                          cases t11 with
                          | false =>
                            have HAN : Hid (ans = false) := by show ans = false; rw [HE3.out]; simp
                            go_wp2
                            go_ret
                            exact ⟨by rw [HAN.out]; rfl, bup HBW.out HB6.out⟩
                          | true =>
                            have HAN : Hid (ans = true) := by show ans = true; rw [HE3.out]; rfl
                            go_wp2
                            go_ret
                            exact ⟨by rw [HAN.out]; rfl, bup HBW.out HB6.out⟩
              | false =>
                go_wp2_with fail
                refine (r19_any _ _ _ _).mono ?_
                rintro e w7 ⟨rfl, hb7⟩
                rw [H5.out]
                have HB7 : Hid (Below W.heap.size W w7) := bup HB6.out hb7
                clear hb7 c0 c1 c2 c3 c4 c5 c6 c7 c8 c9 c10 c11 c12 c13 c14
                obtain ⟨c0, c1, c2, c3, c4, c5, c6, c7, c8, c9, c10, c11, c12, c13, c14⟩ := mr_of (blk HX.out HB7.out)
                cases t5 with
                | true =>
                  have HE3 : Hid (ans = (t6 && (t7 && (t8 && (t9 && (t10 && t11)))))) := by show _ = _; rw [HE4.out]; rfl
                  cases t6 with
                  | false =>
                    have HAN : Hid (ans = false) := by show ans = false; rw [HE3.out]; simp
                    go_wp2
                    go_ret
                    exact ⟨by rw [HAN.out]; rfl, bup HBW.out HB7.out⟩
                  | true =>
                    cases t7 with
                    | false =>
                      have HAN : Hid (ans = false) := by show ans = false; rw [HE3.out]; simp
                      go_wp2
                      go_ret
                      exact ⟨by rw [HAN.out]; rfl, bup HBW.out HB7.out⟩
                    | true =>
                      cases t8 with
                      | false =>
                        have HAN : Hid (ans = false) := by show ans = false; rw [HE3.out]; simp
                        go_wp2
                        go_ret
                        exact ⟨by rw [HAN.out]; rfl, bup HBW.out HB7.out⟩
                      | true =>
                        cases t9 with
                        | false =>
                          have HAN : Hid (ans = false) := by show ans = false; rw [HE3.out]; simp
                          go_wp2
                          go_ret
                          exact ⟨by rw [HAN.out]; rfl, bup HBW.out HB7.out⟩
                        | true =>
                          cases t10 with
                          | false =>
                            have HAN : Hid (ans = false) := by show ans = false; rw [HE3.out]; simp
                            go_wp2
                            go_ret
                            exact ⟨by rw [HAN.out]; rfl, bup HBW.out HB7.out⟩
                          | true =>
                            cases t11 with
                            | false =>
                              have HAN : Hid (ans = false) := by show ans = false; rw [HE3.out]; simp
                              go_wp2
                              go_ret
                              exact ⟨by rw [HAN.out]; rfl, bup HBW.out HB7.out⟩
                            | true =>
                              have HAN : Hid (ans = true) := by show ans = true; rw [HE3.out]; rfl
                              go_wp2
                              go_ret
                              exact ⟨by rw [HAN.out]; rfl, bup HBW.out HB7.out⟩
                | false =>
                  have HAN : Hid (ans = false) := by show ans = false; rw [HE4.out]; rfl
                  go_wp2
                  go_ret
                  exact ⟨by rw [HAN.out]; rfl, bup HBW.out HB7.out⟩
end Go.Proofs.YtkdhbjmpjbdobaaGreatDoor
