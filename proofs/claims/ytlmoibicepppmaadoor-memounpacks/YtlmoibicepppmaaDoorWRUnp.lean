/-
  The document's Unpack of memos: its loop; the whole.
-/
import Derived.Test.YtlmoibicepppmaaDoorWPut
namespace Go.Proofs.YtlmoibicepppmaaDoor
open Go.ChangeShapes Go.WideShapes Go.ChangeAt Go.RowKit Go.Deep Me
set_option maxRecDepth 100000
set_option linter.unusedSimpArgs false in
set_option maxRecDepth 100000 in
set_option maxRecDepth 100000 in
set_option maxHeartbeats 80000000 in
theorem rUnp_loop (ss : ByteArray) (w : World) (hs : ss.size ≤ 60000) (hgood : Po.Pl.ungErr ss = 0 ∧ Pl.unpErr (Po.Pl.ungOut ss).data.toList = 0) : Calls Tryd.prog 14 #[.string ss] w (Ra w ss) := by
  have hs' : ¬ (60000 : Int) < (ss.size : Int) := by omega
  have HS : Hid (ss.size ≤ 60000) := by show _ ≤ _; omega
  have HUS : Hid ((Po.Pl.ungOut ss).size ≤ 60000) := Nat.le_trans (ung_le ss) HS.out
  obtain ⟨tx, htx⟩ : ∃ tx, Po.Pl.ungOut ss = tx := ⟨_, rfl⟩
  have HTX : Hid (Po.Pl.ungOut ss = tx) := htx
  obtain ⟨l, hl⟩ : ∃ l, Pl.unpOut tx.data.toList = l := ⟨_, rfl⟩
  have HL0 : Hid (Pl.unpOut tx.data.toList = l) := hl
  have HL : Hid (Pl.unpOut (Po.Pl.ungOut ss).data.toList = l) := by show _ = _; rw [htx, hl]
  have hlen : l.length ≤ 60000 := by
    have h1 := parse_len tx.data.toList
    have h2 : tx.data.toList.length = tx.size := by simp
    have h3 := HUS.out
    rw [htx] at h3
    rw [hl] at h1
    omega
  obtain ⟨e1, he1⟩ : ∃ e, Po.Pl.ungErr ss = e := ⟨_, rfl⟩
  have HE1 : Hid (Po.Pl.ungErr ss = e1) := he1
  obtain ⟨e2, he2⟩ : ∃ e, Pl.unpErr tx.data.toList = e := ⟨_, rfl⟩
  have HE2 : Hid (Pl.unpErr tx.data.toList = e2) := he2
  have HPW : Hid (¬ (e1 = 0 ∧ e2 = 0) → unpM ss = Me.zero ∧ unpE ss = 4) := fun h => ref_none HS.out (by unfold pWhole; rw [htx, he1, he2, if_neg h])
  obtain ⟨n, hn⟩ : ∃ n, l.length = n := ⟨_, rfl⟩
  have HN : Hid (l.length = n) := hn
  rw [hn] at hlen
  have h0 : e1 = 0 ∧ e2 = 0 := by rw [← he1, ← he2, ← htx]; exact hgood
  clear hs hl htx he1 he2 hn hgood
  go_enter Tryd.func14, Tryd.ntmps14
  go_wp2_with fail
  refine (Po.refUnguard_any ss _ (by have := HS.out; omega)).mono ?_
  rintro e w1 ⟨rfl, hb1⟩
  rw [HTX.out, HE1.out]
  have HB1 : Hid (Below (w.alloc (BMr Me.zero NS NS)).heap.size (w.alloc (BMr Me.zero NS NS)) w1) := hb1
  clear hb1
  go_wp2_with fail
  refine (refUnpack_any tx _ (by have := HUS.out; rw [HTX.out] at this; omega)).mono ?_
  rintro e w2 ⟨r0, rfl, ho2, hb2⟩
  rw [HE2.out]
  rw [HL0.out] at ho2
  have hf2 := FieldsAt.of_own ho2
  obtain ⟨pa, ca, rfl, -, -⟩ := hf2.open
  rw [HN.out] at hf2 ⊢
  have HF2 : Hid (FieldsAt w2.heap.size w2 (.slice pa n ca) l) := hf2
  have HB2 : Hid (Below (w.alloc (BMr Me.zero NS NS)).heap.size (w.alloc (BMr Me.zero NS NS)) w2) := bup HB1.out hb2
  clear hb2 ho2 hf2
  have h1' : (e1 != 0) = false := by simp; omega
  have h2' : (e2 != 0) = false := by simp; omega
  have H0 : Hid (Ru w w2.heap.size (.slice pa n ca) l 0 Me.zero NS NS (w2.alloc (BMr Me.zero NS NS))) := Ru.start HB2.out HF2.out
  clear h0
  go_wp2
  go_loopw [38] (fun i wr => ∃ (k : Nat) (m : Mm) (p1 : Option Addr) (n1 d1 : Nat) (p2 : Option Addr) (n2 d2 : Nat), i = .int .i64 k ∧ k ≤ n ∧ Hid (Ru w w2.heap.size (.slice pa n ca) l k m (.slice p1 n1 d1) (.slice p2 n2 d2) wr)) (fun i _ => n - (intOf i).toNat)
  case atStart => exact ⟨0, Me.zero, none, 0, 0, none, 0, 0, rfl, Nat.zero_le _, H0.out⟩
  case round =>
    obtain ⟨k, m, p1, n1, d1, p2, n2, d2, rfl, hk, HR⟩ := hrel
    clear H0
    obtain ⟨M, hM⟩ : ∃ M, w2.heap.size = M := ⟨_, rfl⟩
    rw [hM] at HR ⊢
    by_cases hlt : k < n
    · obtain ⟨t, s, hts⟩ : ∃ t s, l.getD k (0, .empty) = (t, s) := ⟨_, _, rfl⟩
      have HDR : Hid (l.drop k = (t, s) :: l.drop (k + 1)) := drop_at (by rw [HN.out]; exact hlt) hts
      obtain ⟨pa', ca', hpa, -, hx⟩ := HR.out.fl.open
      simp only [Value.slice.injEq] at hpa
      obtain ⟨rfl, -, -⟩ := hpa
      obtain ⟨b, off, rfl, hB, f0, f1⟩ := hx k (by rw [HN.out]; exact hlt)
      rw [hts] at f0 f1
      simp only at f0 f1
      have HU : Hid (Ru w M (.slice (some ⟨b, off, none⟩) n ca) l k m (.slice p1 n1 d1) (.slice p2 n2 d2) (wr.alloc (BF t s))) := HR.out.up (below_alloc _ _)
      have hbx := HU.out.bx
      have g0 := fr_at hbx 0
      have g1 := fr_at hbx 1
      have g2 := fr_at hbx 2
      have g3 := fr_at hbx 3
      have g4 := fr_at hbx 4
      have g5 := fr_at hbx 5
      have g6 := fr_at hbx 6
      have g7 := fr_at hbx 7
      have g8 := fr_at hbx 8
      have g9 := fr_at hbx 9
      have g10 := fr_at hbx 10
      have g11 := fr_at hbx 11
      have g12 := fr_at hbx 12
      have g13 := fr_at hbx 13
      have g14 := fr_at hbx 14
      obtain ⟨c0, c1, c2, c3, c4, c5, c6, c7, c8, c9, c10, c11, c12, c13, c14⟩ := mr_of hbx
      have hnw := heap_alloc_new wr (BF t s)
      obtain ⟨x0, x1⟩ := bf_of hnw
      have hlt' : (k : Int) < (n : Int) := by omega
      clear hx hts hbx hnw hlt
      by_cases ht1 : t = 1
      · as_aux_lemma =>
          subst ht1
          have HE : Hid (rFold m (l.drop k) = rFold { m with k := nm s 0 1 } (l.drop (k + 1))) := rstep HDR.out rfl
          clear c1 g1 c2 g2 c3 g3 c4 g4 c5 g5 c6 g6 c7 g7 c8 g8 c9 g9 c10 g10 c11 g11 c12 g12 c13 g13 c14 g14
          go_wp2_with fail
          refine (rnum_any s 0 1 _ (by omega) (by omega)).mono ?_
          rintro e w' ⟨rfl, rfl⟩
          go_wp2
          go_roundw
          case rel => exact ⟨k + 1, { m with k := nm s 0 1 }, _, _, _, _, _, _, by go_num, by omega, HU.out.put (m' := { m with k := nm s 0 1 }) 0 _ rfl rfl rfl (k + 1) (by omega) HE.out⟩
          case measure => simp [intOf]; omega
      by_cases ht2 : t = 2
      · as_aux_lemma =>
          subst ht2
          have HE : Hid (rFold m (l.drop k) = rFold { m with v := nm s 0 6 } (l.drop (k + 1))) := rstep HDR.out rfl
          clear c0 g0 c2 g2 c3 g3 c4 g4 c5 g5 c6 g6 c7 g7 c8 g8 c9 g9 c10 g10 c11 g11 c12 g12 c13 g13 c14 g14
          go_wp2
          go_region_with (first
            | (refine (rnum_any s 0 6 _ (by omega) (by omega)).mono ?_; rintro e w' ⟨rfl, rfl⟩))
          all_goals
            go_wp2
            go_roundw
            case rel => exact ⟨k + 1, { m with v := nm s 0 6 }, _, _, _, _, _, _, by go_num, by omega, (HU.out.put (m' := { m with v := nm s 0 6 }) 1 _ rfl rfl rfl (k + 1) (by omega) HE.out).eqv rfl rfl rfl rfl⟩
            case measure => simp [intOf]; omega
      by_cases ht3 : t = 3
      · as_aux_lemma =>
          subst ht3
          have HE : Hid (rFold m (l.drop k) = rFold { m with n := nm s 0 6 } (l.drop (k + 1))) := rstep HDR.out rfl
          clear c0 g0 c1 g1 c3 g3 c4 g4 c5 g5 c6 g6 c7 g7 c8 g8 c9 g9 c10 g10 c11 g11 c12 g12 c13 g13 c14 g14
          go_wp2
          go_region_with (first
            | (refine (rnum_any s 0 6 _ (by omega) (by omega)).mono ?_; rintro e w' ⟨rfl, rfl⟩))
          all_goals
            go_wp2
            go_roundw
            case rel => exact ⟨k + 1, { m with n := nm s 0 6 }, _, _, _, _, _, _, by go_num, by omega, (HU.out.put (m' := { m with n := nm s 0 6 }) 2 _ rfl rfl rfl (k + 1) (by omega) HE.out).eqv rfl rfl rfl rfl⟩
            case measure => simp [intOf]; omega
      by_cases ht4 : t = 4
      · as_aux_lemma =>
          subst ht4
          have HE : Hid (rFold m (l.drop k) = rFold { m with o := nm s 0 6 } (l.drop (k + 1))) := rstep HDR.out rfl
          clear c0 g0 c1 g1 c2 g2 c4 g4 c5 g5 c6 g6 c7 g7 c8 g8 c9 g9 c10 g10 c11 g11 c12 g12 c13 g13 c14 g14
          go_wp2
          go_region_with (first
            | (refine (rnum_any s 0 6 _ (by omega) (by omega)).mono ?_; rintro e w' ⟨rfl, rfl⟩))
          all_goals
            go_wp2
            go_roundw
            case rel => exact ⟨k + 1, { m with o := nm s 0 6 }, _, _, _, _, _, _, by go_num, by omega, (HU.out.put (m' := { m with o := nm s 0 6 }) 3 _ rfl rfl rfl (k + 1) (by omega) HE.out).eqv rfl rfl rfl rfl⟩
            case measure => simp [intOf]; omega
      by_cases ht5 : t = 5
      · as_aux_lemma =>
          subst ht5
          have HE : Hid (rFold m (l.drop k) = rFold { m with c := nm s 0 6 } (l.drop (k + 1))) := rstep HDR.out rfl
          clear c0 g0 c1 g1 c2 g2 c3 g3 c5 g5 c6 g6 c7 g7 c8 g8 c9 g9 c10 g10 c11 g11 c12 g12 c13 g13 c14 g14
          go_wp2
          go_region_with (first
            | (refine (rnum_any s 0 6 _ (by omega) (by omega)).mono ?_; rintro e w' ⟨rfl, rfl⟩))
          all_goals
            go_wp2
            go_roundw
            case rel => exact ⟨k + 1, { m with c := nm s 0 6 }, _, _, _, _, _, _, by go_num, by omega, (HU.out.put (m' := { m with c := nm s 0 6 }) 4 _ rfl rfl rfl (k + 1) (by omega) HE.out).eqv rfl rfl rfl rfl⟩
            case measure => simp [intOf]; omega
      by_cases ht6 : t = 6
      · as_aux_lemma =>
          subst ht6
          have HE : Hid (rFold m (l.drop k) = rFold { m with b := nm s 0 6 } (l.drop (k + 1))) := rstep HDR.out rfl
          clear c0 g0 c1 g1 c2 g2 c3 g3 c4 g4 c6 g6 c7 g7 c8 g8 c9 g9 c10 g10 c11 g11 c12 g12 c13 g13 c14 g14
          go_wp2
          go_region_with (first
            | (refine (rnum_any s 0 6 _ (by omega) (by omega)).mono ?_; rintro e w' ⟨rfl, rfl⟩))
          all_goals
            go_wp2
            go_roundw
            case rel => exact ⟨k + 1, { m with b := nm s 0 6 }, _, _, _, _, _, _, by go_num, by omega, (HU.out.put (m' := { m with b := nm s 0 6 }) 5 _ rfl rfl rfl (k + 1) (by omega) HE.out).eqv rfl rfl rfl rfl⟩
            case measure => simp [intOf]; omega
      by_cases ht7 : t = 7
      · as_aux_lemma =>
          subst ht7
          have HE : Hid (rFold m (l.drop k) = rFold { m with l := nm s 0 6 } (l.drop (k + 1))) := rstep HDR.out rfl
          clear c0 g0 c1 g1 c2 g2 c3 g3 c4 g4 c5 g5 c7 g7 c8 g8 c9 g9 c10 g10 c11 g11 c12 g12 c13 g13 c14 g14
          go_wp2
          go_region_with (first
            | (refine (rnum_any s 0 6 _ (by omega) (by omega)).mono ?_; rintro e w' ⟨rfl, rfl⟩))
          all_goals
            go_wp2
            go_roundw
            case rel => exact ⟨k + 1, { m with l := nm s 0 6 }, _, _, _, _, _, _, by go_num, by omega, (HU.out.put (m' := { m with l := nm s 0 6 }) 6 _ rfl rfl rfl (k + 1) (by omega) HE.out).eqv rfl rfl rfl rfl⟩
            case measure => simp [intOf]; omega
      by_cases ht8 : t = 8
      · as_aux_lemma =>
          subst ht8
          have HE : Hid (rFold m (l.drop k) = rFold { m with cl := nm s 0 6 } (l.drop (k + 1))) := rstep HDR.out rfl
          clear c0 g0 c1 g1 c2 g2 c3 g3 c4 g4 c5 g5 c6 g6 c8 g8 c9 g9 c10 g10 c11 g11 c12 g12 c13 g13 c14 g14
          go_wp2
          go_region_with (first
            | (refine (rnum_any s 0 6 _ (by omega) (by omega)).mono ?_; rintro e w' ⟨rfl, rfl⟩))
          all_goals
            go_wp2
            go_roundw
            case rel => exact ⟨k + 1, { m with cl := nm s 0 6 }, _, _, _, _, _, _, by go_num, by omega, (HU.out.put (m' := { m with cl := nm s 0 6 }) 7 _ rfl rfl rfl (k + 1) (by omega) HE.out).eqv rfl rfl rfl rfl⟩
            case measure => simp [intOf]; omega
      by_cases ht9 : t = 9
      · as_aux_lemma =>
          subst ht9
          obtain ⟨q0, hq0⟩ : ∃ q, nm s 0 6 = q := ⟨_, rfl⟩
          have HE : Hid (rFold m (l.drop k) = rFold { m with lives := m.lives ++ [q0] } (l.drop (k + 1))) := rstep HDR.out (by rw [← hq0]; rfl)
          have HC0 : Hid (∀ x : World, Calls Tryd.prog 37 #[.string s, .int .i64 0, .int .i64 6] x fun e w' => e = .returned (.int .i64 q0) ∧ w' = x) := fun x => by rw [← hq0]; exact rnum_any s 0 6 x (by omega) (by omega)
          have HLV : Hid (m.lives.length ≤ 60000) := by have := HU.out.lv; show _ ≤ _; omega
          obtain ⟨i0, hi, hz0, hz1, hz2⟩ := info_parts infoI
          have HY : Hid (Ru w M (.slice (some ⟨b, off, none⟩) n ca) l k m (.slice p1 n1 d1) (.slice p2 n2 d2) (((wr.alloc (BF 9 s)).alloc (.cells #[.int .i64 q0] 3)).drew)) := Ru.eqv (Ru.up HU.out (below_alloc _ _)) rfl rfl rfl rfl
          have hc8y : ((wr.alloc (BF 9 s)).alloc (.cells #[.int .i64 q0] 3)).cell? ⟨M, 8, none⟩ = some (.slice p1 n1 d1) := (mr_of HY.out.bx).2.2.2.2.2.2.2.2.1
          have HAT : Hid (AtW EI (((wr.alloc (BF 9 s)).alloc (.cells #[.int .i64 q0] 3)).drew) (.slice (some ⟨wr.heap.size + 1, 0, none⟩) 1 1) [q0]) := at_newI _ _ _
          clear hq0
          clear c0 g0 c1 g1 c2 g2 c3 g3 c4 g4 c5 g5 c6 g6 c7 g7 c9 g9 c10 g10 c11 g11 c12 g12 c13 g13 c14 g14
          go_wp2
          go_region_law (first
            | (go_simp; go_at_call 37; refine (HC0.out _).mono ?_; rintro e w' ⟨rfl, rfl⟩)
            | (refine step_row (by rfl) _ _ 22 (by rfl) EI (fun _ => True) (M + 1) 3 i0 _ 8 Tryd.underlying22 hi hz0 hz1 hz2 rfl _ m.lives (by rfl) HY.out.ru _ [q0] (by rfl) HAT.out (by have := HLV.out; unfold maxLen; simp only [List.length_cons, List.length_nil]; omega) (by have := HLV.out; simp only [List.length_cons, List.length_nil]; omega) HY.out.base ?_
               intro v9 w9 hr9 hg9
               obtain ⟨pp9, nn9, cc9, rfl⟩ := Row.slice3 hr9
               have hbm := Ru.lifeM HY.out hg9
               have hc8 := (mr_of hbm).2.2.2.2.2.2.2.2.1
               have hg8 := fr_at hbm 8
               have HE9 := Ru.life HY.out hr9 hg9 HE.out
               have HF9 : Hid _ := HE9
               clear hr9 hg9 hbm HE9))
          all_goals
            go_wp2
            go_roundw
            case rel => exact ⟨k + 1, { m with lives := m.lives ++ [q0] }, _, _, _, _, _, _, by go_num, by omega, HF9.out⟩
            case measure => simp [intOf]; omega
      by_cases ht10 : t = 10
      · subst ht10
        by_cases h18 : s.size < 18
        · clear c0 g0 c1 g1 c2 g2 c3 g3 c4 g4 c5 g5 c6 g6 c7 g7 c8 g8 c9 g9 c10 g10 c11 g11 c12 g12 c13 g13 c14 g14
          have HN : Hid (unpM ss = Me.zero ∧ unpE ss = 4) := ref_fold_none HS.out (by
            rw [HL.out, HU.out.eq, HDR.out, rFold_cons]
            have : rStep m 10 s = none := by simp [rStep, h18]
            rw [this]; rfl)
          have h18' : (s.size : Int) < 18 := by omega
          have HRS : Hid ((wr.alloc (BF 10 s)).heap[w.heap.size]? = some (BMr Me.zero NS NS)) := HU.out.rs
          clear h18
          go_wp2_with (refine wpList_put15 (by rfl) _ _ (by rfl) w.heap.size Me.zero none 0 0 none 0 0 (by rfl) (by rfl) HRS.out ?_; intro W9 hg9 hh9; have HG9 : Hid (World.grownBy (wr.alloc (BF 10 s)) W9 (some w.heap.size)) := hg9; obtain ⟨k0, k1, k2, k3, k4, k5, k6, k7, k8, k9, k10, k11, k12, k13, k14⟩ := mr_of hh9; clear hg9 hh9)
          (try simp only [Exit.inBlock, Exit.then])
          refine bodyPost_ret (v := .tuple #[VM Me.zero NS NS, .int .i64 4]) ?_ rfl (ra_no HN.out (HU.out.fin HG9.out).2)
          rw [results_cell_tmp rfl]
          unfold Me.zero at k0 k1 k2 k3 k4 k5 k6 k7 k10 k11 k12 k13 k14
          dsimp only at k0 k1 k2 k3 k4 k5 k6 k7 k10 k11 k12 k13 k14
          go_simp
          try exact ⟨rfl, rfl, rfl, rfl, rfl, rfl, rfl, rfl, rfl, rfl, rfl, rfl, rfl⟩
        · obtain ⟨q0, hq0⟩ : ∃ q, nm s 0 6 = q := ⟨_, rfl⟩
          obtain ⟨q1, hq1⟩ : ∃ q, nm s 6 6 = q := ⟨_, rfl⟩
          obtain ⟨q2, hq2⟩ : ∃ q, nm s 12 6 = q := ⟨_, rfl⟩
          have HE : Hid (rFold m (l.drop k) = rFold { m with items := m.items ++ [⟨q0, q1, q2, s.extract 18 s.size⟩] } (l.drop (k + 1))) := rstep HDR.out (by
            have : itR s = ⟨q0, q1, q2, s.extract 18 s.size⟩ := by unfold itR; rw [hq0, hq1, hq2]
            simp [rStep, h18, this])
          have HC0 : Hid (∀ x : World, Calls Tryd.prog 37 #[.string s, .int .i64 0, .int .i64 6] x fun e w' => e = .returned (.int .i64 q0) ∧ w' = x) := fun x => by rw [← hq0]; exact rnum_any s 0 6 x (by omega) (by omega)
          have HC1 : Hid (∀ x : World, Calls Tryd.prog 37 #[.string s, .int .i64 6, .int .i64 6] x fun e w' => e = .returned (.int .i64 q1) ∧ w' = x) := fun x => by rw [← hq1]; exact rnum_any s 6 6 x (by omega) (by omega)
          have HC2 : Hid (∀ x : World, Calls Tryd.prog 37 #[.string s, .int .i64 12, .int .i64 6] x fun e w' => e = .returned (.int .i64 q2) ∧ w' = x) := fun x => by rw [← hq2]; exact rnum_any s 12 6 x (by omega) (by omega)
          have HLV : Hid (m.items.length ≤ 60000) := by have := HU.out.li; show _ ≤ _; omega
          obtain ⟨i0, hi, hz0, hz1, hz2⟩ := info_parts infoM
          have h18' : ¬ (s.size : Int) < 18 := by omega
          have HY : Hid (Ru w M (.slice (some ⟨b, off, none⟩) n ca) l k m (.slice p1 n1 d1) (.slice p2 n2 d2) (((wr.alloc (BF 10 s)).alloc (BI ⟨q0, q1, q2, s.extract 18 s.size⟩)).drew)) := Ru.eqv (Ru.up HU.out (below_alloc _ _)) rfl rfl rfl rfl
          have hc9y : ((wr.alloc (BF 10 s)).alloc (BI ⟨q0, q1, q2, s.extract 18 s.size⟩)).cell? ⟨M, 9, none⟩ = some (.slice p2 n2 d2) := (mr_of HY.out.bx).2.2.2.2.2.2.2.2.2.1
          have HAT : Hid (AtW EM (((wr.alloc (BF 10 s)).alloc (BI ⟨q0, q1, q2, s.extract 18 s.size⟩)).drew) (.slice (some ⟨wr.heap.size + 1, 0, none⟩) 1 1) [⟨q0, q1, q2, s.extract 18 s.size⟩]) := at_newM _ _ _
          clear hq0 hq1 hq2
          clear c0 g0 c1 g1 c2 g2 c3 g3 c4 g4 c5 g5 c6 g6 c7 g7 c8 g8 c10 g10 c11 g11 c12 g12 c13 g13 c14 g14
          go_wp2
          refine wp_region_any (by kernel_rfl) ?_
          change wpAny _ _ _ _ _ _ _ (World.drew _)
          refine wpAny_take (i := 0) (v := ?v0) rfl (by kernel_rfl) (by kernel_rfl) (by kernel_rfl) (fun _ _ _ h => h) (Or.inl ⟨by rfl, ?h0⟩) ?r0
          case h0 => (intro w; go_simp; try with_reducible rfl)
          try simp only [Act.put, List.setIfInBounds_toArray, List.set_cons_zero, List.set_cons_succ]
          refine wpAny_take (i := 2) (v := ?v2) rfl (by kernel_rfl) (by kernel_rfl) (by kernel_rfl) (fun _ _ _ h => h) (Or.inl ⟨by rfl, ?h2⟩) ?r2
          case h2 => (intro w; go_simp; try with_reducible rfl)
          try simp only [Act.put, List.setIfInBounds_toArray, List.set_cons_zero, List.set_cons_succ]
          refine wpAny_take (i := 4) (v := ?v4) rfl (by kernel_rfl) (by kernel_rfl) (by kernel_rfl) (fun _ _ _ h => h) (Or.inl ⟨by rfl, ?h4⟩) ?r4
          case h4 => (intro w; go_simp; try with_reducible rfl)
          try simp only [Act.put, List.setIfInBounds_toArray, List.set_cons_zero, List.set_cons_succ]
          refine wpAny_take (i := 6) (v := ?v6) rfl (by kernel_rfl) (by kernel_rfl) (by kernel_rfl) (fun _ _ _ h => h) (Or.inl ⟨by rfl, ?h6⟩) ?r6
          case h6 => (intro w; go_simp; try with_reducible rfl)
          try simp only [Act.put, List.setIfInBounds_toArray, List.set_cons_zero, List.set_cons_succ]
          refine wpAny_take (i := 8) (v := ?v8) rfl (by kernel_rfl) (by kernel_rfl) (by kernel_rfl) (fun _ _ _ h => h) (Or.inl ⟨by rfl, ?h8⟩) ?r8
          case h8 => (intro w; go_simp; try with_reducible rfl)
          try simp only [Act.put, List.setIfInBounds_toArray, List.set_cons_zero, List.set_cons_succ]
          refine wpAny_take (i := 9) (v := ?v9) rfl (by kernel_rfl) (by kernel_rfl) (by kernel_rfl) (fun _ _ _ h => h) (Or.inl ⟨by rfl, ?h9⟩) ?r9
          case h9 => (intro w; go_simp; try with_reducible rfl)
          try simp only [Act.put, List.setIfInBounds_toArray, List.set_cons_zero, List.set_cons_succ]
          refine Pc.take (i := 3) (v := .int .i64 q0) rfl (by kernel_rfl) (by kernel_rfl) (by kernel_rfl) (fun _ _ _ h => h) (Pc.Ys.call (f := 37) (args := #[.string s, .int .i64 0, .int .i64 6]) (by rfl) ?h203 HC0.out) ?_
          case h203 => (intro w; go_simp; try with_reducible rfl)
          try simp only [Act.put, List.setIfInBounds_toArray, List.set_cons_zero, List.set_cons_succ]
          refine Pc.take (i := 5) (v := .int .i64 q1) rfl (by kernel_rfl) (by kernel_rfl) (by kernel_rfl) (fun _ _ _ h => h) (Pc.Ys.call (f := 37) (args := #[.string s, .int .i64 6, .int .i64 6]) (by rfl) ?h205 HC1.out) ?_
          case h205 => (intro w; go_simp; try with_reducible rfl)
          try simp only [Act.put, List.setIfInBounds_toArray, List.set_cons_zero, List.set_cons_succ]
          refine Pc.take (i := 7) (v := .int .i64 q2) rfl (by kernel_rfl) (by kernel_rfl) (by kernel_rfl) (fun _ _ _ h => h) (Pc.Ys.call (f := 37) (args := #[.string s, .int .i64 12, .int .i64 6]) (by rfl) ?h207 HC2.out) ?_
          case h207 => (intro w; go_simp; try with_reducible rfl)
          try simp only [Act.put, List.setIfInBounds_toArray, List.set_cons_zero, List.set_cons_succ]
          refine wpAny_take (i := 10) (v := ?v10) rfl (by kernel_rfl) (by kernel_rfl) (by kernel_rfl) (fun _ _ _ h => h) (Or.inl ⟨by rfl, ?h10⟩) ?r10
          case h10 => (intro w; go_simp; try with_reducible rfl)
          try simp only [Act.put, List.setIfInBounds_toArray, List.set_cons_zero, List.set_cons_succ]
          refine (fun (HLF : ?lfX) => ?lfM) ?lfP
          case lfM =>
            refine wpAny_ready (rs := [1, 11]) (by kernel_rfl) (by simp) ?_
            refine AllReady.cons rfl (fun K hK => ?_) (AllReady.cons rfl (fun K hK => ?_) AllReady.nil)
            · skip
              go_simp
              (try go_wp2_with fail)
              first | (refine hK _ _ ?_; clear hK K) | skip
              try simp only [Act.put, List.setIfInBounds_toArray, List.set_cons_zero, List.set_cons_succ]
              refine wpAny_ready (rs := [11]) (by kernel_rfl) (by simp) ?_
              refine AllReady.cons rfl (fun K hK => ?_) AllReady.nil
              go_simp
              (try go_wp2_with fail)
              first | (refine hK _ _ ?_; clear hK K) | skip
              try simp only [Act.put, List.setIfInBounds_toArray, List.set_cons_zero, List.set_cons_succ]
              exact HLF
            · skip
              go_simp
              (try go_wp2_with fail)
              first | (refine hK _ _ ?_; clear hK K) | skip
              try simp only [Act.put, List.setIfInBounds_toArray, List.set_cons_zero, List.set_cons_succ]
              refine wpAny_ready (rs := [1]) (by kernel_rfl) (by simp) ?_
              refine AllReady.cons rfl (fun K hK => ?_) AllReady.nil
              go_simp
              (try go_wp2_with fail)
              first | (refine hK _ _ ?_; clear hK K) | skip
              try simp only [Act.put, List.setIfInBounds_toArray, List.set_cons_zero, List.set_cons_succ]
              exact HLF
          case lfP =>
            refine wpAny_ready (rs := [12]) (by kernel_rfl) (by simp) ?_
            refine AllReady.cons rfl (fun K hK => ?_) AllReady.nil
            refine step_row (by rfl) _ _ 23 (by rfl) EM (fun _ => True) (M + 1) 50 i0 _ 40 Tryd.underlying23 hi hz0 hz1 hz2 rfl _ m.items (by rfl) HY.out.rz _ [⟨q0, q1, q2, s.extract 18 s.size⟩] (by rfl) HAT.out (by have := HLV.out; unfold maxLen; simp only [List.length_cons, List.length_nil]; omega) (by have := HLV.out; simp only [List.length_cons, List.length_nil]; omega) HY.out.base ?_
            intro v9 w9 hr9 hg9
            obtain ⟨pp9, nn9, cc9, rfl⟩ := Row.slice3 hr9
            have hbm := Ru.itemM HY.out hg9
            have hc9 := (mr_of hbm).2.2.2.2.2.2.2.2.2.1
            have hg9' := fr_at hbm 9
            have HE9 := Ru.item HY.out hr9 hg9 HE.out
            have HF9 : Hid _ := HE9
            clear hr9 hg9 hbm HE9
            refine hK _ _ ?_
            clear hK K
            refine wpAny_take (i := 13) (v := ?v13a) rfl (by kernel_rfl) (by kernel_rfl) (by kernel_rfl) (fun _ _ _ h => h) (Or.inl ⟨by rfl, ?h13a⟩) ?r13a
            case h13a => (intro w; go_simp; try with_reducible rfl)
            try simp only [Act.put, List.setIfInBounds_toArray, List.set_cons_zero, List.set_cons_succ]
            refine wpAny_ready (rs := [14]) (by kernel_rfl) (by simp) ?_
            refine AllReady.cons rfl (fun K hK => ?_) AllReady.nil
            go_simp
            (try go_wp2_with fail)
            first | (refine hK _ _ ?_; clear hK K) | skip
            try simp only [Act.put, List.setIfInBounds_toArray, List.set_cons_zero, List.set_cons_succ]
            refine wpAny_done (by kernel_rfl) ?_ _
            go_wp2
            go_roundw
            case rel => exact ⟨k + 1, { m with items := m.items ++ [⟨q0, q1, q2, s.extract 18 s.size⟩] }, _, _, _, _, _, _, by go_num, by omega, HF9.out⟩
            case measure => simp [intOf]; omega
      by_cases ht11 : t = 11
      · as_aux_lemma =>
          subst ht11
          clear c0 g0 c1 g1 c2 g2 c3 g3 c4 g4 c5 g5 c6 g6 c7 g7 c8 g8 c9 g9 c13 g13 c14 g14
          have HE : Hid (rFold m (l.drop k) = rFold { m with mo := nm s 0 6, ms := nm s 6 2, mm := nm s 8 4 } (l.drop (k + 1))) := rstep HDR.out rfl
          go_wp2_with fail
          refine (rnum_any s 0 6 _ (by omega) (by omega)).mono ?_
          rintro e w' ⟨rfl, rfl⟩
          go_wp2_with fail
          refine (rnum_any s 6 2 _ (by omega) (by omega)).mono ?_
          rintro e w' ⟨rfl, rfl⟩
          go_wp2_with fail
          refine (rnum_any s 8 4 _ (by omega) (by omega)).mono ?_
          rintro e w' ⟨rfl, rfl⟩
          go_wp2
          go_roundw
          case rel => exact ⟨k + 1, { m with mo := nm s 0 6, ms := nm s 6 2, mm := nm s 8 4 }, _, _, _, _, _, _, by go_num, by omega, HU.out.man _ _ _ HE.out⟩
          case measure => simp [intOf]; omega
      by_cases ht12 : t = 12
      · as_aux_lemma =>
          subst ht12
          have HE : Hid (rFold m (l.drop k) = rFold { m with nu := nm s 0 2 } (l.drop (k + 1))) := rstep HDR.out rfl
          clear c0 g0 c1 g1 c2 g2 c3 g3 c4 g4 c5 g5 c6 g6 c7 g7 c8 g8 c9 g9 c10 g10 c11 g11 c12 g12 c14 g14
          go_wp2_with fail
          refine (rnum_any s 0 2 _ (by omega) (by omega)).mono ?_
          rintro e w' ⟨rfl, rfl⟩
          go_wp2
          go_roundw
          case rel => exact ⟨k + 1, { m with nu := nm s 0 2 }, _, _, _, _, _, _, by go_num, by omega, HU.out.put (m' := { m with nu := nm s 0 2 }) 13 _ rfl rfl rfl (k + 1) (by omega) HE.out⟩
          case measure => simp [intOf]; omega
      by_cases ht13 : t = 13
      · as_aux_lemma =>
          subst ht13
          clear c0 g0 c1 g1 c2 g2 c3 g3 c4 g4 c5 g5 c6 g6 c7 g7 c8 g8 c9 g9 c10 g10 c11 g11 c12 g12 c13 g13
          have HE : Hid (rFold m (l.drop k) = rFold { m with d := s } (l.drop (k + 1))) := rstep HDR.out rfl
          go_wp2
          go_roundw
          case rel => exact ⟨k + 1, { m with d := s }, _, _, _, _, _, _, by go_num, by omega, HU.out.put (m' := { m with d := s }) 14 _ rfl rfl rfl (k + 1) (by omega) HE.out⟩
          case measure => simp [intOf]; omega
      as_aux_lemma =>
        clear c0 g0 c1 g1 c2 g2 c3 g3 c4 g4 c5 g5 c6 g6 c7 g7 c8 g8 c9 g9 c10 g10 c11 g11 c12 g12 c13 g13 c14 g14
        have HE : Hid (rFold m (l.drop k) = rFold m (l.drop (k + 1))) := rstep HDR.out (by unfold rStep; rw [if_neg ht1, if_neg ht2, if_neg ht3, if_neg ht4, if_neg ht5, if_neg ht6, if_neg ht7, if_neg ht8, if_neg ht9, if_neg ht10, if_neg ht11, if_neg ht12, if_neg ht13])
        have hf1 : (t == 1) = false := by simpa using ht1
        have hf2 : (t == 2) = false := by simpa using ht2
        have hf3 : (t == 3) = false := by simpa using ht3
        have hf4 : (t == 4) = false := by simpa using ht4
        have hf5 : (t == 5) = false := by simpa using ht5
        have hf6 : (t == 6) = false := by simpa using ht6
        have hf7 : (t == 7) = false := by simpa using ht7
        have hf8 : (t == 8) = false := by simpa using ht8
        have hf9 : (t == 9) = false := by simpa using ht9
        have hf10 : (t == 10) = false := by simpa using ht10
        have hf11 : (t == 11) = false := by simpa using ht11
        have hf12 : (t == 12) = false := by simpa using ht12
        have hf13 : (t == 13) = false := by simpa using ht13
        clear ht1 ht2 ht3 ht4 ht5 ht6 ht7 ht8 ht9 ht10 ht11 ht12 ht13
        go_wp2
        go_roundw
        case rel => exact ⟨k + 1, m, _, _, _, _, _, _, by go_num, by omega, HU.out.skip HE.out⟩
        case measure => simp [intOf]; omega
    · obtain rfl : k = n := by omega
      have HF : Hid (rFold Me.zero l = some m) := by
        show _ = _
        rw [HR.out.eq, List.drop_of_length_le (by rw [HN.out]; exact Nat.le_refl _)]
        rfl
      have HMA : Hid (MAt wr m (.slice p1 n1 d1) (.slice p2 n2 d2)) := ⟨atw HR.out.ru.at, atw HR.out.rz.at⟩
      obtain ⟨c0, c1, c2, c3, c4, c5, c6, c7, c8, c9, c10, c11, c12, c13, c14⟩ := mr_of HR.out.bx
      go_wp2_with fail
      refine (rPack_any m _ _ _ HMA.out).mono ?_
      rintro e w3 ⟨rfl, hb3⟩
      have HR3 : Hid (Ru w M (.slice pa k ca) l k m (.slice p1 n1 d1) (.slice p2 n2 d2) w3) := HR.out.up hb3
      clear c0 c1 c2 c3 c4 c5 c6 c7 c8 c9 c10 c11 c12 c13 c14 hb3
      have HRS : Hid (w3.heap[w.heap.size]? = some (BMr Me.zero NS NS)) := HR3.out.rs
      have hRM : ¬ w.heap.size = M := by have := HR3.out.hR; omega
      have hRM2 : ¬ M = w.heap.size := by have := HR3.out.hR; omega
      by_cases hp : packErr m = 0
      · by_cases hq : packOut m = ss
        · have HE : Hid (unpM ss = m ∧ unpE ss = 0) := ref_fold_yes ⟨hp, hq⟩
          rw [hp, hq]
          have t1 : (ss.toList == ss.toList) = true := beq_self_eq_true _
          obtain ⟨c0, c1, c2, c3, c4, c5, c6, c7, c8, c9, c10, c11, c12, c13, c14⟩ := mr_of HR3.out.bx
          clear hp hq HMA HF
          go_wp2_with (refine wpList_put15 (by rfl) _ _ (by rfl) w.heap.size m p1 n1 d1 p2 n2 d2 (by rfl) (by rfl) HRS.out ?_; intro W9 hg9 hh9; have HG9 : Hid (World.grownBy w3 W9 (some w.heap.size)) := hg9; obtain ⟨k0, k1, k2, k3, k4, k5, k6, k7, k8, k9, k10, k11, k12, k13, k14⟩ := mr_of hh9; clear hg9 hh9)
          (try simp only [Exit.inBlock, Exit.then])
          refine bodyPost_ret (v := .tuple #[VM m (.slice p1 n1 d1) (.slice p2 n2 d2), .int .i64 0]) ?_ rfl (ra_yes HE.out (HR3.out.fin HG9.out).1 (HR3.out.fin HG9.out).2)
          rw [results_cell_tmp rfl]
          go_simp
        · have HE : Hid (unpM ss = Me.zero ∧ unpE ss = 4) := ref_fold_no HS.out (by rw [HL.out]; exact HF.out) (fun h => hq h.2)
          rw [hp]
          have t1 := str_ne hq
          clear hp hq HMA HF
          generalize packOut m = po at *
          go_wp2_with (refine wpList_put15 (by rfl) _ _ (by rfl) w.heap.size Me.zero none 0 0 none 0 0 (by rfl) (by rfl) HRS.out ?_; intro W9 hg9 hh9; have HG9 : Hid (World.grownBy w3 W9 (some w.heap.size)) := hg9; obtain ⟨k0, k1, k2, k3, k4, k5, k6, k7, k8, k9, k10, k11, k12, k13, k14⟩ := mr_of hh9; clear hg9 hh9)
          (try simp only [Exit.inBlock, Exit.then])
          refine bodyPost_ret (v := .tuple #[VM Me.zero NS NS, .int .i64 4]) ?_ rfl (ra_no HE.out (HR3.out.fin HG9.out).2)
          rw [results_cell_tmp rfl]
          unfold Me.zero at k0 k1 k2 k3 k4 k5 k6 k7 k10 k11 k12 k13 k14
          dsimp only at k0 k1 k2 k3 k4 k5 k6 k7 k10 k11 k12 k13 k14
          go_simp
          try exact ⟨rfl, rfl, rfl, rfl, rfl, rfl, rfl, rfl, rfl, rfl, rfl, rfl, rfl⟩
      · have HE : Hid (unpM ss = Me.zero ∧ unpE ss = 4) := ref_fold_no HS.out (by rw [HL.out]; exact HF.out) (fun h => hp h.1)
        have hp' : (packErr m != 0) = true := by simpa using hp
        clear hp HMA HF
        generalize packErr m = pe at *
        generalize packOut m = po at *
        go_wp2_with (refine wpList_put15 (by rfl) _ _ (by rfl) w.heap.size Me.zero none 0 0 none 0 0 (by rfl) (by rfl) HRS.out ?_; intro W9 hg9 hh9; have HG9 : Hid (World.grownBy w3 W9 (some w.heap.size)) := hg9; obtain ⟨k0, k1, k2, k3, k4, k5, k6, k7, k8, k9, k10, k11, k12, k13, k14⟩ := mr_of hh9; clear hg9 hh9)
        (try simp only [Exit.inBlock, Exit.then])
        refine bodyPost_ret (v := .tuple #[VM Me.zero NS NS, .int .i64 4]) ?_ rfl (ra_no HE.out (HR3.out.fin HG9.out).2)
        rw [results_cell_tmp rfl]
        unfold Me.zero at k0 k1 k2 k3 k4 k5 k6 k7 k10 k11 k12 k13 k14
        dsimp only at k0 k1 k2 k3 k4 k5 k6 k7 k10 k11 k12 k13 k14
        go_simp
        try exact ⟨rfl, rfl, rfl, rfl, rfl, rfl, rfl, rfl, rfl, rfl, rfl, rfl, rfl⟩
/-- The document's Unpack. -/
theorem rUnpack_any (ss : ByteArray) (w : World) : Calls Tryd.prog 14 #[.string ss] w (Ra w ss) := by
  by_cases hs : 60000 < ss.size
  · exact rUnp_large ss w hs
  · by_cases h : Po.Pl.ungErr ss = 0 ∧ Pl.unpErr (Po.Pl.ungOut ss).data.toList = 0
    · exact rUnp_loop ss w (by omega) h
    · exact rUnp_bad ss w (by omega) h
end Go.Proofs.YtlmoibicepppmaaDoor
