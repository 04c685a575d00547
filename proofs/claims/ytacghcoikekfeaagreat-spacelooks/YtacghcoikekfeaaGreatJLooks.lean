/-
  SpaceLooks.
-/
import Derived.Test.YtacghcoikekfeaaGreatM16
namespace Go.Proofs.YtacghcoikekfeaaGreat
open Go.ChangeShapes Go.WideShapes Go.ChangeAt Go.RowKit Go.Deep It
set_option maxRecDepth 100000
set_option maxHeartbeats 8000000 in
theorem spaceLooks_any (v : Value) (L : List Rw) (a b c d : Int) (s s2 : ByteArray) (k st : Int) (w : World) (hv : TabW w v L) (hok : Sp.okN L) (hs : s.size ≤ maxLen) (hs2 : s2.size ≤ maxLen) :
    Calls Tryz.prog 4 #[v, VC a b c d s s2 k st] w fun e w' => e = .returned (.bool true) ∧ Below w.heap.size w w' := by
  have HV : Hid (TabW w v L) := hv
  have HOK : Hid (Sp.okN L) := hok
  have HSM : Hid (s.size ≤ maxLen ∧ s2.size ≤ maxLen) := ⟨hs, hs2⟩
  obtain ⟨ao, cap, rfl, -, -⟩ := hv.open
  obtain ⟨n, hn⟩ : ∃ n, L.length = n := ⟨_, rfl⟩
  rw [hn] at HV ⊢
  clear hv hok hn hs hs2
  obtain ⟨W0, hW0⟩ : ∃ W0, W0 = w.alloc (BC a b c d s s2 k st) := ⟨_, rfl⟩
  have HB0 : Hid (Below w.heap.size w W0) := by show Below _ _ _; rw [hW0]; exact (Below.refl _ _).alloc (Nat.le_refl _) _
  have HX0_0 : Hid (W0.heap[w.heap.size]? = some (BC a b c d s s2 k st)) := by show W0.heap[w.heap.size]? = _; rw [hW0]; exact heap_alloc_new _ _
  go_enter Tryz.func4, Tryz.ntmps4
  go_wp2_with fail
  rw [← hW0]
  clear hW0
  refine (large_any _ L _ (HV.out.up HB0.out)).mono ?_
  rintro e w1 ⟨big, rfl, hb1⟩
  have HB1 : Hid (Below w.heap.size w w1) := HB0.out.trans (hb1.mono HB0.out.size)
  have HX0_1 : Hid (w1.heap[w.heap.size]? = some (BC a b c d s s2 k st)) := (hb1.block _ (Array.getElem?_eq_some_iff.1 HX0_0.out).1).trans HX0_0.out
  have hlx0_1 := (Array.getElem?_eq_some_iff.1 HX0_1.out).1
  clear hb1
  cases big
  · skip
    obtain ⟨⟨qa0, qb0⟩, hq0⟩ : ∃ q, Sp.atH (Sp.chk Sp.isSp) (pl L) a b s = q := ⟨_, rfl⟩
    obtain ⟨e0, he0⟩ : ∃ e, Sp.atErr (Sp.chk Sp.isSp) (pl L) a b s = e := ⟨_, rfl⟩
    have HQ0 : Hid (Sp.atH (Sp.chk Sp.isSp) (pl L) a b s = (qa0, qb0) ∧ Sp.atErr (Sp.chk Sp.isSp) (pl L) a b s = e0) := ⟨hq0, he0⟩
    have hm0 : ∀ w', (binOp .eql 31 (.agg #[.int .i64 qa0, .int .i64 qb0]) (.agg #[.int .i64 qa0, .int .i64 qb0])).run Tryz.prog w' = .ok (.bool true) w' := fun w' => hand_same qa0 qb0 w'
    clear hq0 he0
    obtain ⟨⟨qa1, qb1⟩, hq1⟩ : ∃ q, Sp.mkH (Sp.chk Sp.isSp) (pl L) a b s k st = q := ⟨_, rfl⟩
    obtain ⟨e1, he1⟩ : ∃ e, Sp.mkE (Sp.chk Sp.isSp) (pl L) a b s k st = e := ⟨_, rfl⟩
    have HQ1 : Hid (Sp.mkH (Sp.chk Sp.isSp) (pl L) a b s k st = (qa1, qb1) ∧ Sp.mkE (Sp.chk Sp.isSp) (pl L) a b s k st = e1) := ⟨hq1, he1⟩
    have hm1 : ∀ w', (binOp .eql 31 (.agg #[.int .i64 qa1, .int .i64 qb1]) (.agg #[.int .i64 qa1, .int .i64 qb1])).run Tryz.prog w' = .ok (.bool true) w' := fun w' => hand_same qa1 qb1 w'
    clear hq1 he1
    obtain ⟨f0, f1, f2, f3, f4, f5, f6, f7⟩ := case_of HX0_1.out
    go_wp2_with fail
    clear f0 f1 f2 f3 f4 f5 f6 f7
    refine (look_any scheck_any _ L a b s _ (HV.out.up HB1.out) HOK.out HSM.out.1).mono ?_
    rintro e w2 ⟨rfl, hb2⟩
    rw [HQ0.out.1, HQ0.out.2]
    obtain ⟨W2, hW2⟩ : ∃ W, W = w2.alloc (BH qa0 qb0) := ⟨_, rfl⟩
    have bw2 : Below w2.heap.size w2 W2 := by rw [hW2]; exact (Below.refl _ _).alloc (Nat.le_refl _) _
    have bn2 : Below w1.heap.size w1 W2 := hb2.trans (bw2.mono hb2.size)
    have HB2 : Hid (Below w.heap.size w W2) := HB1.out.trans (bn2.mono HB1.out.size)
    have HX0_2 : Hid (W2.heap[w.heap.size]? = some (BC a b c d s s2 k st)) := (bn2.block _ (Array.getElem?_eq_some_iff.1 HX0_1.out).1).trans HX0_1.out
    have hlx0_2 := (Array.getElem?_eq_some_iff.1 HX0_2.out).1
    have HY0_2 : Hid (w2.heap[w.heap.size]? = some (BC a b c d s s2 k st)) := (hb2.block _ (Array.getElem?_eq_some_iff.1 HX0_1.out).1).trans HX0_1.out
    have hly0_2 := (Array.getElem?_eq_some_iff.1 HY0_2.out).1
    clear hb2 bn2 bw2
    have HX1_2 : Hid (W2.heap[w2.heap.size]? = some (BH qa0 qb0)) := by show W2.heap[w2.heap.size]? = _; rw [hW2]; exact heap_alloc_new _ _
    have hlx1_2 := (Array.getElem?_eq_some_iff.1 HX1_2.out).1
    obtain ⟨f0, f1, f2, f3, f4, f5, f6, f7⟩ := case_of HY0_2.out
    go_wp2_with fail
    rw [← hW2]
    clear f0 f1 f2 f3 f4 f5 f6 f7
    clear hW2
    refine (rlooks_any rspace_any rtMeans _ L a b s _ (HV.out.up HB2.out) HOK.out HSM.out.1).mono ?_
    rintro e w3 ⟨rfl, hb3⟩
    rw [HQ0.out.1, HQ0.out.2]
    obtain ⟨W3, hW3⟩ : ∃ W, W = w3.alloc (BH qa0 qb0) := ⟨_, rfl⟩
    have bw3 : Below w3.heap.size w3 W3 := by rw [hW3]; exact (Below.refl _ _).alloc (Nat.le_refl _) _
    have bn3 : Below W2.heap.size W2 W3 := hb3.trans (bw3.mono hb3.size)
    have HB3 : Hid (Below w.heap.size w W3) := HB2.out.trans (bn3.mono HB2.out.size)
    have HX0_3 : Hid (W3.heap[w.heap.size]? = some (BC a b c d s s2 k st)) := (bn3.block _ (Array.getElem?_eq_some_iff.1 HX0_2.out).1).trans HX0_2.out
    have hlx0_3 := (Array.getElem?_eq_some_iff.1 HX0_3.out).1
    have HY0_3 : Hid (w3.heap[w.heap.size]? = some (BC a b c d s s2 k st)) := (hb3.block _ (Array.getElem?_eq_some_iff.1 HX0_2.out).1).trans HX0_2.out
    have hly0_3 := (Array.getElem?_eq_some_iff.1 HY0_3.out).1
    have HX1_3 : Hid (W3.heap[w2.heap.size]? = some (BH qa0 qb0)) := (bn3.block _ (Array.getElem?_eq_some_iff.1 HX1_2.out).1).trans HX1_2.out
    have hlx1_3 := (Array.getElem?_eq_some_iff.1 HX1_3.out).1
    have HY1_3 : Hid (w3.heap[w2.heap.size]? = some (BH qa0 qb0)) := (hb3.block _ (Array.getElem?_eq_some_iff.1 HX1_2.out).1).trans HX1_2.out
    have hly1_3 := (Array.getElem?_eq_some_iff.1 HY1_3.out).1
    clear hb3 bn3 bw3
    have HX2_3 : Hid (W3.heap[w3.heap.size]? = some (BH qa0 qb0)) := by show W3.heap[w3.heap.size]? = _; rw [hW3]; exact heap_alloc_new _ _
    have hlx2_3 := (Array.getElem?_eq_some_iff.1 HX2_3.out).1
    obtain ⟨f0, f1, f2, f3, f4, f5, f6, f7⟩ := case_of HY0_3.out
    obtain ⟨⟨g10, g11⟩, -⟩ := two_of HY1_3.out
    go_wp2_with fail
    rw [← hW3]
    clear f0 f1 f2 f3 f4 f5 f6 f7 g10 g11
    clear hW3
    refine (smake_any scheck_any isSp_means _ L a b s k st _ (HV.out.up HB3.out) HOK.out HSM.out.1).mono ?_
    rintro e w4 ⟨u4, L4, rfl, ht4, hp4, hb4⟩
    rw [HQ1.out.1, HQ1.out.2]
    obtain ⟨W4, hW4⟩ : ∃ W, W = w4.alloc (BH qa1 qb1) := ⟨_, rfl⟩
    have bw4 : Below w4.heap.size w4 W4 := by rw [hW4]; exact (Below.refl _ _).alloc (Nat.le_refl _) _
    have bn4 : Below W3.heap.size W3 W4 := hb4.trans (bw4.mono hb4.size)
    have HB4 : Hid (Below w.heap.size w W4) := HB3.out.trans (bn4.mono HB3.out.size)
    have HX0_4 : Hid (W4.heap[w.heap.size]? = some (BC a b c d s s2 k st)) := (bn4.block _ (Array.getElem?_eq_some_iff.1 HX0_3.out).1).trans HX0_3.out
    have hlx0_4 := (Array.getElem?_eq_some_iff.1 HX0_4.out).1
    have HY0_4 : Hid (w4.heap[w.heap.size]? = some (BC a b c d s s2 k st)) := (hb4.block _ (Array.getElem?_eq_some_iff.1 HX0_3.out).1).trans HX0_3.out
    have hly0_4 := (Array.getElem?_eq_some_iff.1 HY0_4.out).1
    have HX1_4 : Hid (W4.heap[w2.heap.size]? = some (BH qa0 qb0)) := (bn4.block _ (Array.getElem?_eq_some_iff.1 HX1_3.out).1).trans HX1_3.out
    have hlx1_4 := (Array.getElem?_eq_some_iff.1 HX1_4.out).1
    have HY1_4 : Hid (w4.heap[w2.heap.size]? = some (BH qa0 qb0)) := (hb4.block _ (Array.getElem?_eq_some_iff.1 HX1_3.out).1).trans HX1_3.out
    have hly1_4 := (Array.getElem?_eq_some_iff.1 HY1_4.out).1
    have HX2_4 : Hid (W4.heap[w3.heap.size]? = some (BH qa0 qb0)) := (bn4.block _ (Array.getElem?_eq_some_iff.1 HX2_3.out).1).trans HX2_3.out
    have hlx2_4 := (Array.getElem?_eq_some_iff.1 HX2_4.out).1
    have HY2_4 : Hid (w4.heap[w3.heap.size]? = some (BH qa0 qb0)) := (hb4.block _ (Array.getElem?_eq_some_iff.1 HX2_3.out).1).trans HX2_3.out
    have hly2_4 := (Array.getElem?_eq_some_iff.1 HY2_4.out).1
    obtain ⟨p4, z4, hu4, -, -⟩ := ht4.open
    obtain ⟨m4, hm4'⟩ : ∃ m, L4.length = m := ⟨_, rfl⟩
    rw [hm4'] at hu4
    subst hu4
    have HTL4_4 : Hid (TabW W4 (.slice p4 m4 z4) L4 ∧ pl L4 = Sp.mkT (Sp.chk Sp.isSp) (pl L) a b s k st) := ⟨(tab_wide ht4).up bw4, hp4⟩
    clear ht4 hp4 hm4'
    clear hb4 bn4 bw4
    have HX3_4 : Hid (W4.heap[w4.heap.size]? = some (BH qa1 qb1)) := by show W4.heap[w4.heap.size]? = _; rw [hW4]; exact heap_alloc_new _ _
    have hlx3_4 := (Array.getElem?_eq_some_iff.1 HX3_4.out).1
    obtain ⟨f0, f1, f2, f3, f4, f5, f6, f7⟩ := case_of HY0_4.out
    obtain ⟨⟨g10, g11⟩, -⟩ := two_of HY1_4.out
    obtain ⟨⟨g20, g21⟩, -⟩ := two_of HY2_4.out
    go_wp2_with fail
    rw [← hW4]
    clear f0 f1 f2 f3 f4 f5 f6 f7 g10 g11 g20 g21
    clear hW4
    refine (rmakes_any rspace_any isSp_means _ L a b s k st _ (HV.out.up HB4.out) HOK.out HSM.out.1).mono ?_
    rintro e w5 ⟨u5, L5, rfl, ht5, hp5, hb5⟩
    rw [HQ1.out.1, HQ1.out.2]
    obtain ⟨W5, hW5⟩ : ∃ W, W = w5.alloc (BH qa1 qb1) := ⟨_, rfl⟩
    have bw5 : Below w5.heap.size w5 W5 := by rw [hW5]; exact (Below.refl _ _).alloc (Nat.le_refl _) _
    have bn5 : Below W4.heap.size W4 W5 := hb5.trans (bw5.mono hb5.size)
    have HB5 : Hid (Below w.heap.size w W5) := HB4.out.trans (bn5.mono HB4.out.size)
    have HX0_5 : Hid (W5.heap[w.heap.size]? = some (BC a b c d s s2 k st)) := (bn5.block _ (Array.getElem?_eq_some_iff.1 HX0_4.out).1).trans HX0_4.out
    have hlx0_5 := (Array.getElem?_eq_some_iff.1 HX0_5.out).1
    have HY0_5 : Hid (w5.heap[w.heap.size]? = some (BC a b c d s s2 k st)) := (hb5.block _ (Array.getElem?_eq_some_iff.1 HX0_4.out).1).trans HX0_4.out
    have hly0_5 := (Array.getElem?_eq_some_iff.1 HY0_5.out).1
    have HX1_5 : Hid (W5.heap[w2.heap.size]? = some (BH qa0 qb0)) := (bn5.block _ (Array.getElem?_eq_some_iff.1 HX1_4.out).1).trans HX1_4.out
    have hlx1_5 := (Array.getElem?_eq_some_iff.1 HX1_5.out).1
    have HY1_5 : Hid (w5.heap[w2.heap.size]? = some (BH qa0 qb0)) := (hb5.block _ (Array.getElem?_eq_some_iff.1 HX1_4.out).1).trans HX1_4.out
    have hly1_5 := (Array.getElem?_eq_some_iff.1 HY1_5.out).1
    have HX2_5 : Hid (W5.heap[w3.heap.size]? = some (BH qa0 qb0)) := (bn5.block _ (Array.getElem?_eq_some_iff.1 HX2_4.out).1).trans HX2_4.out
    have hlx2_5 := (Array.getElem?_eq_some_iff.1 HX2_5.out).1
    have HY2_5 : Hid (w5.heap[w3.heap.size]? = some (BH qa0 qb0)) := (hb5.block _ (Array.getElem?_eq_some_iff.1 HX2_4.out).1).trans HX2_4.out
    have hly2_5 := (Array.getElem?_eq_some_iff.1 HY2_5.out).1
    have HX3_5 : Hid (W5.heap[w4.heap.size]? = some (BH qa1 qb1)) := (bn5.block _ (Array.getElem?_eq_some_iff.1 HX3_4.out).1).trans HX3_4.out
    have hlx3_5 := (Array.getElem?_eq_some_iff.1 HX3_5.out).1
    have HY3_5 : Hid (w5.heap[w4.heap.size]? = some (BH qa1 qb1)) := (hb5.block _ (Array.getElem?_eq_some_iff.1 HX3_4.out).1).trans HX3_4.out
    have hly3_5 := (Array.getElem?_eq_some_iff.1 HY3_5.out).1
    have HTL4_5 : Hid (TabW W5 (.slice p4 m4 z4) L4 ∧ pl L4 = Sp.mkT (Sp.chk Sp.isSp) (pl L) a b s k st) := ⟨HTL4_4.out.1.up bn5, HTL4_4.out.2⟩
    obtain ⟨p5, z5, hu5, -, -⟩ := ht5.open
    obtain ⟨m5, hm5'⟩ : ∃ m, L5.length = m := ⟨_, rfl⟩
    rw [hm5'] at hu5
    subst hu5
    have HTL5_5 : Hid (TabW W5 (.slice p5 m5 z5) L5 ∧ pl L5 = Sp.mkT (Sp.chk Sp.isSp) (pl L) a b s k st) := ⟨(tab_wide ht5).up bw5, hp5⟩
    clear ht5 hp5 hm5'
    clear hb5 bn5 bw5
    have HX4_5 : Hid (W5.heap[w5.heap.size]? = some (BH qa1 qb1)) := by show W5.heap[w5.heap.size]? = _; rw [hW5]; exact heap_alloc_new _ _
    have hlx4_5 := (Array.getElem?_eq_some_iff.1 HX4_5.out).1
    obtain ⟨f0, f1, f2, f3, f4, f5, f6, f7⟩ := case_of HY0_5.out
    obtain ⟨⟨g10, g11⟩, -⟩ := two_of HY1_5.out
    obtain ⟨⟨g20, g21⟩, -⟩ := two_of HY2_5.out
    obtain ⟨⟨g30, g31⟩, -⟩ := two_of HY3_5.out
    go_wp2_with fail
    rw [← hW5]
    clear f0 f1 f2 f3 f4 f5 f6 f7 g10 g11 g20 g21 g30 g31
    clear hW5
    refine (inodes_same _ _ L4 L5 _ HTL4_5.out.1 HTL5_5.out.1 (by rw [HTL4_5.out.2, HTL5_5.out.2])).mono ?_
    rintro e w6 ⟨rfl, hb6⟩
    have HB6 : Hid (Below w.heap.size w w6) := HB5.out.trans (hb6.mono HB5.out.size)
    have HX0_6 : Hid (w6.heap[w.heap.size]? = some (BC a b c d s s2 k st)) := (hb6.block _ (Array.getElem?_eq_some_iff.1 HX0_5.out).1).trans HX0_5.out
    have HX1_6 : Hid (w6.heap[w2.heap.size]? = some (BH qa0 qb0)) := (hb6.block _ (Array.getElem?_eq_some_iff.1 HX1_5.out).1).trans HX1_5.out
    have HX2_6 : Hid (w6.heap[w3.heap.size]? = some (BH qa0 qb0)) := (hb6.block _ (Array.getElem?_eq_some_iff.1 HX2_5.out).1).trans HX2_5.out
    have HX3_6 : Hid (w6.heap[w4.heap.size]? = some (BH qa1 qb1)) := (hb6.block _ (Array.getElem?_eq_some_iff.1 HX3_5.out).1).trans HX3_5.out
    have HX4_6 : Hid (w6.heap[w5.heap.size]? = some (BH qa1 qb1)) := (hb6.block _ (Array.getElem?_eq_some_iff.1 HX4_5.out).1).trans HX4_5.out
    have HTL4_6 : Hid (TabW w6 (.slice p4 m4 z4) L4 ∧ pl L4 = Sp.mkT (Sp.chk Sp.isSp) (pl L) a b s k st) := ⟨HTL4_5.out.1.up hb6, HTL4_5.out.2⟩
    have HTL5_6 : Hid (TabW w6 (.slice p5 m5 z5) L5 ∧ pl L5 = Sp.mkT (Sp.chk Sp.isSp) (pl L) a b s k st) := ⟨HTL5_5.out.1.up hb6, HTL5_5.out.2⟩
    clear hb6
    obtain ⟨f0, f1, f2, f3, f4, f5, f6, f7⟩ := case_of HX0_6.out
    obtain ⟨⟨g10, g11⟩, -⟩ := two_of HX1_6.out
    obtain ⟨⟨g20, g21⟩, -⟩ := two_of HX2_6.out
    obtain ⟨⟨g30, g31⟩, -⟩ := two_of HX3_6.out
    obtain ⟨⟨g40, g41⟩, -⟩ := two_of HX4_6.out
    go_wp2_with fail
    clear f0 f1 f2 f3 f4 f5 f6 f7 g10 g11 g20 g21 g30 g31 g40 g41
    refine (little_any _).mono ?_
    rintro e wZ ⟨rfl, hbZ⟩
    have HBZ : Hid (Below w.heap.size w wZ) := HB6.out.trans (hbZ.mono HB6.out.size)
    clear hbZ
    go_wp2
    go_ret
    exact ⟨rfl, HBZ.out⟩
  · go_wp2_with fail
    refine (little_any _).mono ?_
    rintro e w7 ⟨rfl, hb7⟩
    have HB7 : Hid (Below w.heap.size w w7) := HB1.out.trans (hb7.mono HB1.out.size)
    clear hb7
    go_wp2
    go_ret
    exact ⟨rfl, HB7.out⟩

set_option maxRecDepth 100000 in
theorem spaceLooks_lifted (os : Os) (started : os.Started) (H : Type) (enc : TypeId × Value → H) :
    ReturnsInHanded {} Tryz.checked os 4 .any (Rows.spaceLooksSpec.pre6 enc Tryz.prog Tryz.f4 Rows.spaceLooksRow.domain false) (Rows.spaceLooksSpec.post enc Tryz.prog Tryz.f4 false true false false) := by
  refine returnsInHanded_of_change_sized (C := Tryz.checked) own started (by kernel_rfl) Tryz.func4
    (ChangeSpec.witness6 (enc := enc) (C := Tryz.checked) false ⟨#[], #[.slice none 0 0, VC 0 0 0 0 ⟨#[]⟩ ⟨#[]⟩ 0 0], []⟩ 8 (by kernel_rfl) (by kernel_rfl) (by kernel_rfl) (by kernel_rfl)) ?_
  intro W base args ds gs before hval0 hW hcnd hsized _
  have hval : ∀ (j : Nat) t v, Tryz.f4.params[j]? = some t → args[j]? = some v → Value.okWide Tryz.prog W .any base t v := hval0
  have hW' := hW
  have hlt : ∀ x ∈ before, x.block < W.heap.size := fun x hx => by simpa using hW'.lt x hx
  obtain ⟨p, q, hA0, hV, rfl, hfz, hnd⟩ := hW
  have hA : DataW.TrodAll enc Tryz.prog W 0 (fun _ => true) true Tryz.f4.params.toList args.toList ds p := hA0
  rw [Tryz.params4] at hA hval
  obtain ⟨v0, v1, d0, d1, p0, p1, rfl, rfl, rfl, h0, h1⟩ := trodAll_two hA
  obtain ⟨rfl, rfl⟩ := trodVars_none hV
  have hwt0 : ∀ n ∈ d0.weights Tryz.prog 22, n ≤ reachBytes := fun n hn => by
    have := List.all_eq_true.1 hsized n (DataW.weights_mem_each (j := 0) (t := 22) (d := d0) rfl rfl n hn)
    simpa using this
  obtain ⟨L, hL, hLn⟩ := sopen_tab (okWide_slice Tryz.underlying22 (hval 0 22 v0 rfl rfl)) h0 hwt0
  obtain ⟨a, b, c, d, s, s2, k, st, rfl, hs, hs2⟩ := open_case (hval 1 33 v1 rfl rfl) h1
  refine (spaceLooks_any v0 L a b c d s s2 k st W hL hLn hs hs2).mono fun e W' ⟨he, hg⟩ => ⟨_, he, ?_⟩
  exact Law.post laidOut (by kernel_rfl) rfl Tryz.underlying4 hW' rfl rfl hg

theorem spaceLooks_holds : Rows.SpaceLooksSaid :=
  OpenClaim.holds_of_wide 4 Tryz.f4 rfl rfl rfl rfl rfl rfl rfl ⟨rfl, rfl, rfl, rfl, rfl⟩ rfl rfl rfl rfl rfl (by kernel_rfl) Tryz.func4 (by kernel_rfl)
    (of_decide_eq_true (by kernel_rfl)) (by unfold Func.isWrapper; first | (rw [if_pos (by decide +kernel)]; kernel_rfl) | (rw [if_neg (by decide +kernel)]; exact ⟨rfl, rfl⟩))
    (fun os started H enc _ => spaceLooks_lifted os started H enc)
#print axioms spaceLooks_holds
end Go.Proofs.YtacghcoikekfeaaGreat
