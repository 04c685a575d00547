/-
  For any memo and any string sextonlaw22.MemoBack returns true, whatever the memory that holds the table halves as the text of the program lays it: what was packed is unpacked, and what is unpacked is packed so. No other condition.
-/
import Derived.Test.YtlmoibicepppmaaDoorCards
import Derived.Test.YtlmoibicepppmaaDoorTie
import Derived.Test.YtlmoibicepppmaaDoorWLaw
namespace Go.Proofs.YtlmoibicepppmaaDoor
open Go.ChangeShapes Go.WideShapes Go.ChangeAt Go.RowKit Go.Deep Me
set_option maxRecDepth 100000
open Go.ChangeMaps (open_string)

theorem pack_ok {m : Mm} (h : packErr m = 0) : right m = true ∧ packOut m = packed m ∧ (packed m).size ≤ 60000 := by
  unfold packErr at h
  split at h
  · rename_i hr
    split at h
    · cases h
    · rename_i hl
      unfold packOut
      rw [if_pos hr, if_neg hl]
      exact ⟨hr, rfl, by omega⟩
  · cases h
theorem unp_pack {s : ByteArray} (h : unpE s = 0) : packOut (unpM s) = s ∧ packErr (unpM s) = 0 := by
  obtain ⟨hr, hp, hs⟩ := unp_ok h
  unfold packOut packErr
  rw [if_pos hr, if_pos hr, hp, if_neg (by omega), if_neg (by omega)]
  exact ⟨rfl, rfl⟩
set_option maxRecDepth 100000 in
set_option maxRecDepth 100000 in
set_option maxHeartbeats 4000000 in
theorem back_law (m : Mm) (u z : Value) (s : ByteArray) (w : World) (hv : MAt w m u z) (ht : Po.Tab w) : Calls Tryd.prog 5 #[VM m u z, .string s] w fun e w' => e = .returned (.bool true) ∧ Below w.heap.size w w' := by
  obtain ⟨p1, d1, rfl, -, -⟩ := hv.lives.open
  obtain ⟨p2, d2, rfl, -, -⟩ := hv.items.open
  obtain ⟨n1, hn1⟩ : ∃ n, m.lives.length = n := ⟨_, rfl⟩
  obtain ⟨n2, hn2⟩ : ∃ n, m.items.length = n := ⟨_, rfl⟩
  rw [hn1, hn2] at hv ⊢
  have HV : Hid (MAt w m (.slice p1 n1 d1) (.slice p2 n2 d2)) := hv
  have HT : Hid (Po.Tab w) := ht
  obtain ⟨W, hW⟩ : ∃ W, w.alloc (BM m (.slice p1 n1 d1) (.slice p2 n2 d2)) = W := ⟨_, rfl⟩
  have HW : Hid (w.alloc (BM m (.slice p1 n1 d1) (.slice p2 n2 d2)) = W) := hW
  have HBW : Hid (Below w.heap.size w W) := by rw [← hW]; exact below_alloc _ _
  have HX : Hid (W.heap[w.heap.size]? = some (BM m (.slice p1 n1 d1) (.slice p2 n2 d2))) := by rw [← hW]; exact heap_alloc_new _ _
  clear hv ht hn1 hn2
  obtain ⟨c0, c1, c2, c3, c4, c5, c6, c7, c8, c9, c10, c11, c12, c13, c14⟩ := mm_of (heap_alloc_new w (BM m (.slice p1 n1 d1) (.slice p2 n2 d2)))
  rw [hW] at c0 c1 c2 c3 c4 c5 c6 c7 c8 c9 c10 c11 c12 c13 c14
  clear hW
  go_enter Tryd.func5, Tryd.ntmps5
  go_wp2_with fail
  rw [HW.out]
  refine (large_any m _ _ _ (HV.out.up HBW.out)).mono ?_
  rintro e w1 ⟨⟨lb, rfl⟩, hb1⟩
  have HB1 : Hid (Below w.heap.size w w1) := bup HBW.out hb1
  have HX1 : Hid (w1.heap[w.heap.size]? = some (BM m (.slice p1 n1 d1) (.slice p2 n2 d2))) := blk HX.out hb1
  clear hb1 c0 c1 c2 c3 c4 c5 c6 c7 c8 c9 c10 c11 c12 c13 c14
  cases lb with
  | true =>
    go_wp2_with fail
    refine (change_any _ (tab_up HT.out HB1.out)).mono ?_
    rintro e w2 ⟨rfl, hb2⟩
    have HB2 : Hid (Below w.heap.size w w2) := bup HB1.out hb2
    clear hb2
    go_wp2
    go_ret
    exact ⟨rfl, HB2.out⟩
  | false =>
    obtain ⟨c0, c1, c2, c3, c4, c5, c6, c7, c8, c9, c10, c11, c12, c13, c14⟩ := mm_of HX1.out
    go_wp2_with fail
    refine (mPack_any m _ _ _ (HV.out.up HB1.out) (tab_up HT.out HB1.out)).mono ?_
    rintro e w2 ⟨rfl, hb2⟩
    have HB2 : Hid (Below w.heap.size w w2) := bup HB1.out hb2
    have HX2 : Hid (w2.heap[w.heap.size]? = some (BM m (.slice p1 n1 d1) (.slice p2 n2 d2))) := blk HX1.out hb2
    clear hb2 c0 c1 c2 c3 c4 c5 c6 c7 c8 c9 c10 c11 c12 c13 c14
    by_cases he : packErr m = 0
    · obtain ⟨hr, hpo, hsz⟩ := pack_ok he
      have hu := unp_packed hr hsz
      rw [he, hpo]
      obtain ⟨po, hpp⟩ : ∃ po, packed m = po := ⟨_, rfl⟩
      rw [hpp] at hu ⊢
      have HU : Hid (unpM po = m ∧ unpE po = 0) := hu
      clear he hr hpo hsz hu hpp
      go_wp2_with fail
      refine (munpack_any po _ (tab_up HT.out HB2.out)).mono ?_
      rintro e w3 ⟨⟨u', z', rfl, hm3⟩, hb3⟩
      rw [HU.out.1] at hm3 ⊢
      rw [HU.out.2]
      obtain ⟨p3, d3, rfl, -, -⟩ := hm3.lives.open
      obtain ⟨p4, d4, rfl, -, -⟩ := hm3.items.open
      generalize m.lives.length = n3 at *
      generalize m.items.length = n4 at *
      obtain ⟨W3, hW3⟩ : ∃ W3, w3.alloc (BM m (.slice p3 n3 d3) (.slice p4 n4 d4)) = W3 := ⟨_, rfl⟩
      have HW3 : Hid (w3.alloc (BM m (.slice p3 n3 d3) (.slice p4 n4 d4)) = W3) := hW3
      have HB3 : Hid (Below w.heap.size w W3) := by rw [← hW3]; exact bup (bup HB2.out hb3) (below_alloc _ _)
      have HM3 : Hid (MAt W3 m (.slice p3 n3 d3) (.slice p4 n4 d4)) := by rw [← hW3]; exact hm3.up (below_alloc _ _)
      have hx3 : W3.heap[w.heap.size]? = some (BM m (.slice p1 n1 d1) (.slice p2 n2 d2)) := by rw [← hW3]; exact blk (blk HX2.out hb3) (below_alloc _ _)
      have hy3 : W3.heap[w3.heap.size]? = some (BM m (.slice p3 n3 d3) (.slice p4 n4 d4)) := by rw [← hW3]; exact heap_alloc_new _ _
      obtain ⟨c0, c1, c2, c3, c4, c5, c6, c7, c8, c9, c10, c11, c12, c13, c14⟩ := mm_of hx3
      obtain ⟨y0, y1, y2, y3, y4, y5, y6, y7, y8, y9, y10, y11, y12, y13, y14⟩ := mm_of hy3
      have X0 := fun p : Grw W3 => p.cell c0
      have Y0 := fun p : Grw W3 => p.cell y0
      have X1 := fun p : Grw W3 => p.cell c1
      have Y1 := fun p : Grw W3 => p.cell y1
      have X2 := fun p : Grw W3 => p.cell c2
      have Y2 := fun p : Grw W3 => p.cell y2
      have X3 := fun p : Grw W3 => p.cell c3
      have Y3 := fun p : Grw W3 => p.cell y3
      have X4 := fun p : Grw W3 => p.cell c4
      have Y4 := fun p : Grw W3 => p.cell y4
      have X5 := fun p : Grw W3 => p.cell c5
      have Y5 := fun p : Grw W3 => p.cell y5
      have X6 := fun p : Grw W3 => p.cell c6
      have Y6 := fun p : Grw W3 => p.cell y6
      have X7 := fun p : Grw W3 => p.cell c7
      have Y7 := fun p : Grw W3 => p.cell y7
      have X8 := fun p : Grw W3 => p.cell c8
      have Y8 := fun p : Grw W3 => p.cell y8
      have X9 := fun p : Grw W3 => p.cell c9
      have Y9 := fun p : Grw W3 => p.cell y9
      have X10 := fun p : Grw W3 => p.cell c10
      have Y10 := fun p : Grw W3 => p.cell y10
      have X11 := fun p : Grw W3 => p.cell c11
      have Y11 := fun p : Grw W3 => p.cell y11
      have X12 := fun p : Grw W3 => p.cell c12
      have Y12 := fun p : Grw W3 => p.cell y12
      have X13 := fun p : Grw W3 => p.cell c13
      have Y13 := fun p : Grw W3 => p.cell y13
      have X14 := fun p : Grw W3 => p.cell c14
      have Y14 := fun p : Grw W3 => p.cell y14
      have HRF : Hid (∀ v : World, Calls Tryd.prog 10 #[VM m (.slice p1 n1 d1) (.slice p2 n2 d2)] v fun e w' => e = .returned (VM m (.slice p1 n1 d1) (.slice p2 n2 d2)) ∧ Below v.heap.size v w') := fun v => mref_any m _ _ ⟨_, _, _, rfl⟩ ⟨_, _, _, rfl⟩ v
      have HSA : Hid (∀ p : Grw W3, Calls Tryd.prog 15 #[VM m (.slice p3 n3 d3) (.slice p4 n4 d4), VM m (.slice p1 n1 d1) (.slice p2 n2 d2)] p.out fun e w' => e = .returned (.bool true) ∧ Below p.out.heap.size p.out w') := fun p => same_any m _ _ _ _ _ (HM3.out.up p.below) (HV.out.up (bup HB3.out p.below))
      have hne9 : Nonempty (Grw W3) := grw_some W3
      clear hm3 hb3 hx3 hy3 hW3 c0 c1 c2 c3 c4 c5 c6 c7 c8 c9 c10 c11 c12 c13 c14 y0 y1 y2 y3 y4 y5 y6 y7 y8 y9 y10 y11 y12 y13 y14
      go_wp2_with fail
      rw [HW3.out]
      refine wp_region_grw (by kernel_rfl) (by kernel_rfl) ?_
      repeat (go_big_quiet_step (first
        | (go_at_call 10; with_reducible refine calls_grw (Grw.grown _) (HRF.out _))
        | (go_at_call 15; with_reducible refine calls_grw (Grw.grown _) (HSA.out _))))
      rintro w6 ⟨p6, rfl⟩
      have HB6 : Hid (Below w.heap.size w p6.out) := bup HB3.out p6.below
      clear X0 Y0 X1 Y1 X2 Y2 X3 Y3 X4 Y4 X5 Y5 X6 Y6 X7 Y7 X8 Y8 X9 Y9 X10 Y10 X11 Y11 X12 Y12 X13 Y13 X14 Y14
      generalize p6.out = w6 at *
      clear p6
      go_wp2_with fail
      refine (munpack_any s _ (tab_up HT.out HB6.out)).mono ?_
      rintro e w7 ⟨⟨u, z, rfl, hm7⟩, hb7⟩
      by_cases hg : unpE s = 0
      · as_aux_lemma =>
          have HP : Hid (packOut (unpM s) = s ∧ packErr (unpM s) = 0) := unp_pack hg
          rw [hg]
          obtain ⟨M, hM⟩ : ∃ M, unpM s = M := ⟨_, rfl⟩
          rw [hM] at hm7 HP ⊢
          obtain ⟨p5, d5, rfl, -, -⟩ := hm7.lives.open
          obtain ⟨p6, d6, rfl, -, -⟩ := hm7.items.open
          generalize M.lives.length = n5 at *
          generalize M.items.length = n6 at *
          have HM7 : Hid (MAt (w7.alloc (BM M (.slice p5 n5 d5) (.slice p6 n6 d6))) M (.slice p5 n5 d5) (.slice p6 n6 d6)) := hm7.up (below_alloc _ _)
          have HB7 : Hid (Below w.heap.size w (w7.alloc (BM M (.slice p5 n5 d5) (.slice p6 n6 d6)))) := bup (bup HB6.out hb7) (below_alloc _ _)
          obtain ⟨y0, y1, y2, y3, y4, y5, y6, y7, y8, y9, y10, y11, y12, y13, y14⟩ := mm_of (heap_alloc_new w7 (BM M (.slice p5 n5 d5) (.slice p6 n6 d6)))
          clear hm7 hb7 hg hM
          go_wp2_with fail
          refine (mPack_any M _ _ _ HM7.out (tab_up HT.out HB7.out)).mono ?_
          rintro e w8 ⟨rfl, hb8⟩
          rw [HP.out.1, HP.out.2]
          have HB8 : Hid (Below w.heap.size w w8) := bup HB7.out hb8
          have hss : (s.toList == s.toList) = true := beq_self_eq_true _
          clear hb8 y0 y1 y2 y3 y4 y5 y6 y7 y8 y9 y10 y11 y12 y13 y14
          go_wp2_with fail
          refine (change_any _ (tab_up HT.out HB8.out)).mono ?_
          rintro e w9 ⟨rfl, hb9⟩
          have HB9 : Hid (Below w.heap.size w w9) := bup HB8.out hb9
          clear hb9
          go_wp2
          go_ret
          exact ⟨rfl, HB9.out⟩
      · as_aux_lemma =>
          have hM : unpM s = Me.zero := unp_bad hg
          rw [hM] at hm7 ⊢
          have hg' : (unpE s != 0) = true := by simpa using hg
          obtain ⟨p5, d5, rfl, -, -⟩ := hm7.lives.open
          obtain ⟨p6, d6, rfl, -, -⟩ := hm7.items.open
          have HM7 : Hid (MAt (w7.alloc (BM Me.zero (.slice p5 0 d5) (.slice p6 0 d6))) Me.zero (.slice p5 0 d5) (.slice p6 0 d6)) := hm7.up (below_alloc _ _)
          have HSM : Hid (∀ x : World, MAt x Me.zero (.slice p5 0 d5) (.slice p6 0 d6) → Calls Tryd.prog 15 #[.agg #[.int .i64 0, .int .i64 0, .int .i64 0, .int .i64 0, .int .i64 0, .int .i64 0, .int .i64 0, .int .i64 0, .slice p5 0 d5, .slice p6 0 d6, .int .i64 0, .int .i64 0, .int .i64 0, .int .i64 0, .string ⟨#[]⟩], .agg #[.int .i64 0, .int .i64 0, .int .i64 0, .int .i64 0, .int .i64 0, .int .i64 0, .int .i64 0, .int .i64 0, .slice none 0 0, .slice none 0 0, .int .i64 0, .int .i64 0, .int .i64 0, .int .i64 0, .string ⟨#[]⟩]] x fun e w' => e = .returned (.bool true) ∧ Below x.heap.size x w') := fun x hx => same_any Me.zero _ _ NS NS x hx (mat_zero _)
          have HB7 : Hid (Below w.heap.size w (w7.alloc (BM Me.zero (.slice p5 0 d5) (.slice p6 0 d6)))) := bup (bup HB6.out hb7) (below_alloc _ _)
          obtain ⟨y0, y1, y2, y3, y4, y5, y6, y7, y8, y9, y10, y11, y12, y13, y14⟩ := mm_of (heap_alloc_new w7 (BM Me.zero (.slice p5 0 d5) (.slice p6 0 d6)))
          generalize unpE s = g at *
          clear hm7 hb7 hg hM
          simp only [Me.zero, List.length_nil] at *
          go_wp2_with fail
          refine (HSM.out _ HM7.out).mono ?_
          rintro e w8 ⟨rfl, hb8⟩
          have HB8 : Hid (Below w.heap.size w w8) := bup HB7.out hb8
          clear hb8 y0 y1 y2 y3 y4 y5 y6 y7 y8 y9 y10 y11 y12 y13 y14
          go_wp2_with fail
          refine (change_any _ (tab_up HT.out HB8.out)).mono ?_
          rintro e w9 ⟨rfl, hb9⟩
          have HB9 : Hid (Below w.heap.size w w9) := bup HB8.out hb9
          clear hb9
          go_wp2
          go_ret
          exact ⟨rfl, HB9.out⟩
    · have he' : (packErr m == 0) = false := by simpa using he
      clear he
      generalize packErr m = pe at *
      generalize packOut m = po at *
      go_wp2_with fail
      refine (munpack_any s _ (tab_up HT.out HB2.out)).mono ?_
      rintro e w7 ⟨⟨u, z, rfl, hm7⟩, hb7⟩
      by_cases hg : unpE s = 0
      · as_aux_lemma =>
          have HP : Hid (packOut (unpM s) = s ∧ packErr (unpM s) = 0) := unp_pack hg
          rw [hg]
          obtain ⟨M, hM⟩ : ∃ M, unpM s = M := ⟨_, rfl⟩
          rw [hM] at hm7 HP ⊢
          obtain ⟨p5, d5, rfl, -, -⟩ := hm7.lives.open
          obtain ⟨p6, d6, rfl, -, -⟩ := hm7.items.open
          generalize M.lives.length = n5 at *
          generalize M.items.length = n6 at *
          have HM7 : Hid (MAt (w7.alloc (BM M (.slice p5 n5 d5) (.slice p6 n6 d6))) M (.slice p5 n5 d5) (.slice p6 n6 d6)) := hm7.up (below_alloc _ _)
          have HB7 : Hid (Below w.heap.size w (w7.alloc (BM M (.slice p5 n5 d5) (.slice p6 n6 d6)))) := bup (bup HB2.out hb7) (below_alloc _ _)
          obtain ⟨y0, y1, y2, y3, y4, y5, y6, y7, y8, y9, y10, y11, y12, y13, y14⟩ := mm_of (heap_alloc_new w7 (BM M (.slice p5 n5 d5) (.slice p6 n6 d6)))
          clear hm7 hb7 hg hM
          go_wp2_with fail
          refine (mPack_any M _ _ _ HM7.out (tab_up HT.out HB7.out)).mono ?_
          rintro e w8 ⟨rfl, hb8⟩
          rw [HP.out.1, HP.out.2]
          have HB8 : Hid (Below w.heap.size w w8) := bup HB7.out hb8
          have hss : (s.toList == s.toList) = true := beq_self_eq_true _
          clear hb8 y0 y1 y2 y3 y4 y5 y6 y7 y8 y9 y10 y11 y12 y13 y14
          go_wp2_with fail
          refine (change_any _ (tab_up HT.out HB8.out)).mono ?_
          rintro e w9 ⟨rfl, hb9⟩
          have HB9 : Hid (Below w.heap.size w w9) := bup HB8.out hb9
          clear hb9
          go_wp2
          go_ret
          exact ⟨rfl, HB9.out⟩
      · as_aux_lemma =>
          have hM : unpM s = Me.zero := unp_bad hg
          rw [hM] at hm7 ⊢
          have hg' : (unpE s != 0) = true := by simpa using hg
          obtain ⟨p5, d5, rfl, -, -⟩ := hm7.lives.open
          obtain ⟨p6, d6, rfl, -, -⟩ := hm7.items.open
          have HM7 : Hid (MAt (w7.alloc (BM Me.zero (.slice p5 0 d5) (.slice p6 0 d6))) Me.zero (.slice p5 0 d5) (.slice p6 0 d6)) := hm7.up (below_alloc _ _)
          have HSM : Hid (∀ x : World, MAt x Me.zero (.slice p5 0 d5) (.slice p6 0 d6) → Calls Tryd.prog 15 #[.agg #[.int .i64 0, .int .i64 0, .int .i64 0, .int .i64 0, .int .i64 0, .int .i64 0, .int .i64 0, .int .i64 0, .slice p5 0 d5, .slice p6 0 d6, .int .i64 0, .int .i64 0, .int .i64 0, .int .i64 0, .string ⟨#[]⟩], .agg #[.int .i64 0, .int .i64 0, .int .i64 0, .int .i64 0, .int .i64 0, .int .i64 0, .int .i64 0, .int .i64 0, .slice none 0 0, .slice none 0 0, .int .i64 0, .int .i64 0, .int .i64 0, .int .i64 0, .string ⟨#[]⟩]] x fun e w' => e = .returned (.bool true) ∧ Below x.heap.size x w') := fun x hx => same_any Me.zero _ _ NS NS x hx (mat_zero _)
          have HB7 : Hid (Below w.heap.size w (w7.alloc (BM Me.zero (.slice p5 0 d5) (.slice p6 0 d6)))) := bup (bup HB2.out hb7) (below_alloc _ _)
          obtain ⟨y0, y1, y2, y3, y4, y5, y6, y7, y8, y9, y10, y11, y12, y13, y14⟩ := mm_of (heap_alloc_new w7 (BM Me.zero (.slice p5 0 d5) (.slice p6 0 d6)))
          generalize unpE s = g at *
          clear hm7 hb7 hg hM
          simp only [Me.zero, List.length_nil] at *
          go_wp2_with fail
          refine (HSM.out _ HM7.out).mono ?_
          rintro e w8 ⟨rfl, hb8⟩
          have HB8 : Hid (Below w.heap.size w w8) := bup HB7.out hb8
          clear hb8 y0 y1 y2 y3 y4 y5 y6 y7 y8 y9 y10 y11 y12 y13 y14
          go_wp2_with fail
          refine (change_any _ (tab_up HT.out HB8.out)).mono ?_
          rintro e w9 ⟨rfl, hb9⟩
          have HB9 : Hid (Below w.heap.size w w9) := bup HB8.out hb9
          clear hb9
          go_wp2
          go_ret
          exact ⟨rfl, HB9.out⟩

theorem memoBack_contract (H : Type) (enc : TypeId × Value → H) (W : World) (base : Nat) (args : Array Value) (ds gs : List (DataW H)) (before : List MemPlace)
    (hval : ∀ (j : Nat) t v, Tryd.f5.params[j]? = some t → args[j]? = some v → Value.okWide Tryd.prog W .any base t v)
    (hW : DataW.Whole enc Tryd.prog Tryd.f5.params.toList Rows.memoBackSpec.vars false W args.toList ds gs before) (hL : laidMetH Tryd.prog Rows.memoBackRow.laid W) :
    Calls Tryd.prog 5 args W fun e W' => ∃ v, e = .returned v ∧ Rows.memoBackSpec.post enc Tryd.prog Tryd.f5 false true false false W args v W' := by
  have hW' := hW
  obtain ⟨p, q, hA0, hV, rfl, hfz, hnd⟩ := hW
  have hA : DataW.TrodAll enc Tryd.prog W 0 (fun _ => true) true Tryd.f5.params.toList args.toList ds p := hA0
  rw [Tryd.params5] at hA hval
  obtain ⟨v0, v1, d0, d1, p0, p1, rfl, rfl, rfl, h0, h1⟩ := trodAll_two hA
  obtain ⟨rfl, rfl⟩ := trodVars_none hV
  obtain ⟨a0, u0, z0, rfl, w0⟩ := open_memo (hval 0 27 v0 rfl rfl) h0
  obtain ⟨a1, rfl, rfl, rfl, w1⟩ := open_string Tryd.underlying9 (hval 1 9 v1 rfl rfl) h1
  refine (back_law a0 u0 z0 a1 W w0 (table hL)).mono fun e W' ⟨he, hg⟩ => ⟨_, he, ?_⟩
  exact Law.post laidOut (by kernel_rfl) rfl Tryd.underlying4 hW' rfl rfl hg
theorem memoBack_laid_met (os : Os) : laidMet Tryd.prog Rows.memoBackRow.laid ((laidWorld Tryd.prog os).forCall (fun _ _ => 0) ⟨#[], #[.agg #[.int .i64 0, .int .i64 0, .int .i64 0, .int .i64 0, .int .i64 0, .int .i64 0, .int .i64 0, .int .i64 0, .slice none 0 0, .slice none 0 0, .int .i64 0, .int .i64 0, .int .i64 0, .int .i64 0, .string .empty], .string .empty], []⟩).memory :=
  laidMet_of_run' 8 (by kernel_rfl) (by kernel_rfl)
theorem memoBack_reads (os : Os) {H : Type} (enc : TypeId × Value → H) : ∃ places, DataW.whole enc Tryd.prog ((laidWorld Tryd.prog os).forCall (fun _ _ => 0) ⟨#[], #[.agg #[.int .i64 0, .int .i64 0, .int .i64 0, .int .i64 0, .int .i64 0, .int .i64 0, .int .i64 0, .int .i64 0, .slice none 0 0, .slice none 0 0, .int .i64 0, .int .i64 0, .int .i64 0, .int .i64 0, .string .empty], .string .empty], []⟩).memory Tryd.f5.params.toList Rows.memoBackSpec.vars false (#[.agg #[.int .i64 0, .int .i64 0, .int .i64 0, .int .i64 0, .int .i64 0, .int .i64 0, .int .i64 0, .int .i64 0, .slice none 0 0, .slice none 0 0, .int .i64 0, .int .i64 0, .int .i64 0, .int .i64 0, .string .empty], .string .empty] : Array Value).toList 8 = some ([.agg [.lit (.int .i64 0), .lit (.int .i64 0), .lit (.int .i64 0), .lit (.int .i64 0), .lit (.int .i64 0), .lit (.int .i64 0), .lit (.int .i64 0), .lit (.int .i64 0), .nil, .nil, .agg [.lit (.int .i64 0), .lit (.int .i64 0), .lit (.int .i64 0)], .lit (.int .i64 0), .lit (.string [])], .lit (.string [])], [], places) :=
  ⟨[], by kernel_rfl⟩

set_option maxRecDepth 100000 in
theorem memoBack_lifted (os : Os) (started : os.Started) (H : Type) (enc : TypeId × Value → H) (F : Stop.Interp) :
    ReturnsInHanded {} Tryd.checked os 5 .any ((OpenSpec.ofChange Rows.memoBackSpec).preRow enc Tryd.prog Tryd.f5 Rows.memoBackRow.domain false Rows.memoBackRow.laid) (((OpenSpec.ofChange Rows.memoBackSpec).at F).post enc Tryd.prog Tryd.f5 false true false false) := by
  obtain ⟨places, hx⟩ := memoBack_reads os enc
  refine returnsInHanded_of_row (C := Tryd.checked) (s := OpenSpec.ofChange Rows.memoBackSpec) own started (by kernel_rfl) Tryd.func5
    (witness_row_at (enc := enc) (C := Tryd.checked) false (laidWorld Tryd.prog os) #[.agg #[.int .i64 0, .int .i64 0, .int .i64 0, .int .i64 0, .int .i64 0, .int .i64 0, .int .i64 0, .int .i64 0, .slice none 0 0, .slice none 0 0, .int .i64 0, .int .i64 0, .int .i64 0, .int .i64 0, .string .empty], .string .empty] rfl (by kernel_rfl) (by kernel_rfl) (by kernel_rfl)
      (OpenSpec.preRow_of_cond 8 hx (by kernel_rfl) (fun k hk => by cases hk) (by kernel_rfl) (memoBack_laid_met os))) ?_
  intro W base args ds gs before hval hW _ _ _ hL _ _
  exact memoBack_contract H enc W base args ds gs before hval hW hL

theorem memoBack_said : Rows.MemoBackSaid :=
  OpenClaim.holds_of_cond 5 Tryd.f5 rfl rfl rfl rfl rfl rfl rfl ⟨rfl, rfl, rfl, rfl, rfl⟩ rfl rfl rfl rfl rfl (by kernel_rfl) Tryd.func5 (by kernel_rfl)
    (of_decide_eq_true (by kernel_rfl)) (by unfold Func.isWrapper; first | (rw [if_pos (by decide +kernel)]; kernel_rfl) | (rw [if_neg (by decide +kernel)]; exact ⟨rfl, rfl⟩))
    (fun os started H enc _ F => by rw [OpenClaim.pre_eq_preRow]; exact memoBack_lifted os started H enc F)

theorem memoBack_plain (f : FuncId) (fn : Func) (hf : Tryd.pinned.checked.prog.funcNamed "sexton/sextonlaw22.MemoBack" = some f) (hfn : Tryd.pinned.checked.prog.funcs[f]? = some fn) :
    true = Tryd.pinned.checked.prog.looks [] ∧ ∀ (j : Nat) t, fn.params[j]? = some t → Tryd.pinned.checked.prog.wantsStandIn t = false := by
  obtain rfl : f = 5 := Option.some.inj ((show Tryd.prog.funcNamed "sexton/sextonlaw22.MemoBack" = some 5 by kernel_rfl).symm.trans hf) |>.symm
  obtain rfl : fn = Tryd.f5 := (Option.some.inj (Tryd.func5.symm.trans hfn)).symm
  refine ⟨by kernel_rfl, fun j t ht => ?_⟩
  rw [Tryd.params5] at ht
  have hm : t = 27 ∨ t = 9 := by simpa using Array.mem_of_getElem? ht
  rcases hm with rfl | rfl
  · exact (show Tryd.prog.wantsStandIn 27 = false by kernel_rfl)
  · exact (show Tryd.prog.wantsStandIn 9 = false by kernel_rfl)

theorem memoBack_card : Rows.MemoBackCardSaid :=
  Claim7.holds_tied_plain_at .later [] _ _ _ _ memoBack_said (fun _ h => by cases h) (by kernel_rfl) (fun _ h => by cases h) memoBack_row_tie rfl ⟨rfl, rfl⟩ (by kernel_rfl) rfl memoBack_plain (by kernel_rfl)
#print axioms memoBack_card
end Go.Proofs.YtlmoibicepppmaaDoor
