/-
  SpaceMoves.
-/
import Derived.Test.YtacghcoikekfeaaGreatM16
namespace Go.Proofs.YtacghcoikekfeaaGreat
open Go.ChangeShapes Go.WideShapes Go.ChangeAt Go.RowKit Go.Deep It
set_option maxRecDepth 100000
set_option maxHeartbeats 8000000 in
theorem spaceMoves_any (v : Value) (L : List Rw) (a b c d : Int) (s s2 : ByteArray) (k st : Int) (w : World) (hv : TabW w v L) (hok : Sp.okN L) (hs : s.size ≤ maxLen) (hs2 : s2.size ≤ maxLen) :
    Calls Tryz.prog 6 #[v, VC a b c d s s2 k st] w fun e w' => e = .returned (.bool true) ∧ Below w.heap.size w w' := by
  have HV : Hid (TabW w v L) := hv
  have HOK : Hid (Sp.okN L) := hok
  have HSM : Hid (s.size ≤ maxLen ∧ s2.size ≤ maxLen) := ⟨hs, hs2⟩
  obtain ⟨ao, cap, rfl, -, -⟩ := hv.open
  obtain ⟨n, hn⟩ : ∃ n, L.length = n := ⟨_, rfl⟩
  rw [hn] at HV ⊢
  clear hv hok hn hs hs2
  obtain ⟨W0, hW0⟩ : ∃ W0, W0 = w.alloc (BC a b c d s s2 k st) := ⟨_, rfl⟩
  have HB0 : Hid (Below w.heap.size w W0) := by show Below _ _ _; rw [hW0]; exact (Below.refl _ _).alloc (Nat.le_refl _) _
  have HX0_0 : Hid (W0.heap[w.heap.size]? = some (BC a b c d s s2 k st)) := by show W0.heap[w.heap.size]? = _; rw [hW0]; exact heap_alloc_new _ _
  go_enter Tryz.func6, Tryz.ntmps6
  go_wp2_with fail
  rw [← hW0]
  clear hW0
  refine (large_any _ L _ (HV.out.up HB0.out)).mono ?_
  rintro e w1 ⟨big, rfl, hb1⟩
  have HB1 : Hid (Below w.heap.size w w1) := HB0.out.trans (hb1.mono HB0.out.size)
  have HX0_1 : Hid (w1.heap[w.heap.size]? = some (BC a b c d s s2 k st)) := (hb1.block _ (Array.getElem?_eq_some_iff.1 HX0_0.out).1).trans HX0_0.out
  have hlx0_1 := (Array.getElem?_eq_some_iff.1 HX0_1.out).1
  clear hb1
  cases big
  · skip
    obtain ⟨e0, he0⟩ : ∃ e, Sp.rmE (Sp.chk Sp.isSp) (pl L) a b s st = e := ⟨_, rfl⟩
    have HQ0 : Hid (Sp.rmE (Sp.chk Sp.isSp) (pl L) a b s st = e0) := he0
    clear he0
    obtain ⟨e1, he1⟩ : ∃ e, Sp.rnE (Sp.chk Sp.isSp) Sp.insB (pl L) a b s c d s2 st = e := ⟨_, rfl⟩
    have HQ1 : Hid (Sp.rnE (Sp.chk Sp.isSp) Sp.insB (pl L) a b s c d s2 st = e1) := he1
    clear he1
    obtain ⟨f0, f1, f2, f3, f4, f5, f6, f7⟩ := case_of HX0_1.out
    go_wp2_with fail
    clear f0 f1 f2 f3 f4 f5 f6 f7
    refine (srmdir_any scheck_any isSp_means _ L a b s st _ (HV.out.up HB1.out) HOK.out HSM.out.1).mono ?_
    rintro e w2 ⟨u2, L2, rfl, ht2, hp2, hb2⟩
    rw [HQ0.out]
    have bn2 := hb2
    have HB2 : Hid (Below w.heap.size w w2) := HB1.out.trans (bn2.mono HB1.out.size)
    have HX0_2 : Hid (w2.heap[w.heap.size]? = some (BC a b c d s s2 k st)) := (bn2.block _ (Array.getElem?_eq_some_iff.1 HX0_1.out).1).trans HX0_1.out
    have hlx0_2 := (Array.getElem?_eq_some_iff.1 HX0_2.out).1
    obtain ⟨p2, z2, hu2, -, -⟩ := ht2.open
    obtain ⟨m2, hm2'⟩ : ∃ m, L2.length = m := ⟨_, rfl⟩
    rw [hm2'] at hu2
    subst hu2
    have HTL2_2 : Hid (TabW w2 (.slice p2 m2 z2) L2 ∧ pl L2 = Sp.rmT (Sp.chk Sp.isSp) (pl L) a b s st) := ⟨tab_wide ht2, hp2⟩
    clear ht2 hp2 hm2'
    clear hb2 bn2
    obtain ⟨f0, f1, f2, f3, f4, f5, f6, f7⟩ := case_of HX0_2.out
    go_wp2_with fail
    clear f0 f1 f2 f3 f4 f5 f6 f7
    refine (rrmdir_any rspace_any isSp_means _ L a b s st _ (HV.out.up HB2.out) HOK.out HSM.out.1).mono ?_
    rintro e w3 ⟨u3, L3, rfl, ht3, hp3, hb3⟩
    rw [HQ0.out]
    have bn3 := hb3
    have HB3 : Hid (Below w.heap.size w w3) := HB2.out.trans (bn3.mono HB2.out.size)
    have HX0_3 : Hid (w3.heap[w.heap.size]? = some (BC a b c d s s2 k st)) := (bn3.block _ (Array.getElem?_eq_some_iff.1 HX0_2.out).1).trans HX0_2.out
    have hlx0_3 := (Array.getElem?_eq_some_iff.1 HX0_3.out).1
    have HTL2_3 : Hid (TabW w3 (.slice p2 m2 z2) L2 ∧ pl L2 = Sp.rmT (Sp.chk Sp.isSp) (pl L) a b s st) := ⟨HTL2_2.out.1.up bn3, HTL2_2.out.2⟩
    obtain ⟨p3, z3, hu3, -, -⟩ := ht3.open
    obtain ⟨m3, hm3'⟩ : ∃ m, L3.length = m := ⟨_, rfl⟩
    rw [hm3'] at hu3
    subst hu3
    have HTL3_3 : Hid (TabW w3 (.slice p3 m3 z3) L3 ∧ pl L3 = Sp.rmT (Sp.chk Sp.isSp) (pl L) a b s st) := ⟨tab_wide ht3, hp3⟩
    clear ht3 hp3 hm3'
    clear hb3 bn3
    obtain ⟨f0, f1, f2, f3, f4, f5, f6, f7⟩ := case_of HX0_3.out
    go_wp2_with fail
    clear f0 f1 f2 f3 f4 f5 f6 f7
    refine (srename_any scheck_any isSp_means ins_said _ L a b s c d s2 st _ (HV.out.up HB3.out) HOK.out HSM.out.1 HSM.out.2).mono ?_
    rintro e w4 ⟨u4, L4, rfl, ht4, hp4, hb4⟩
    rw [HQ1.out]
    have bn4 := hb4
    have HB4 : Hid (Below w.heap.size w w4) := HB3.out.trans (bn4.mono HB3.out.size)
    have HX0_4 : Hid (w4.heap[w.heap.size]? = some (BC a b c d s s2 k st)) := (bn4.block _ (Array.getElem?_eq_some_iff.1 HX0_3.out).1).trans HX0_3.out
    have hlx0_4 := (Array.getElem?_eq_some_iff.1 HX0_4.out).1
    have HTL2_4 : Hid (TabW w4 (.slice p2 m2 z2) L2 ∧ pl L2 = Sp.rmT (Sp.chk Sp.isSp) (pl L) a b s st) := ⟨HTL2_3.out.1.up bn4, HTL2_3.out.2⟩
    have HTL3_4 : Hid (TabW w4 (.slice p3 m3 z3) L3 ∧ pl L3 = Sp.rmT (Sp.chk Sp.isSp) (pl L) a b s st) := ⟨HTL3_3.out.1.up bn4, HTL3_3.out.2⟩
    obtain ⟨p4, z4, hu4, -, -⟩ := ht4.open
    obtain ⟨m4, hm4'⟩ : ∃ m, L4.length = m := ⟨_, rfl⟩
    rw [hm4'] at hu4
    subst hu4
    have HTL4_4 : Hid (TabW w4 (.slice p4 m4 z4) L4 ∧ pl L4 = Sp.rnT (Sp.chk Sp.isSp) Sp.insB (pl L) a b s c d s2 st) := ⟨tab_wide ht4, hp4⟩
    clear ht4 hp4 hm4'
    clear hb4 bn4
    obtain ⟨f0, f1, f2, f3, f4, f5, f6, f7⟩ := case_of HX0_4.out
    go_wp2_with fail
    clear f0 f1 f2 f3 f4 f5 f6 f7
    refine (rrename_any rspace_any isSp_means ins_means _ L a b s c d s2 st _ (HV.out.up HB4.out) HOK.out HSM.out.1 HSM.out.2).mono ?_
    rintro e w5 ⟨u5, L5, rfl, ht5, hp5, hb5⟩
    rw [HQ1.out]
    have bn5 := hb5
    have HB5 : Hid (Below w.heap.size w w5) := HB4.out.trans (bn5.mono HB4.out.size)
    have HX0_5 : Hid (w5.heap[w.heap.size]? = some (BC a b c d s s2 k st)) := (bn5.block _ (Array.getElem?_eq_some_iff.1 HX0_4.out).1).trans HX0_4.out
    have hlx0_5 := (Array.getElem?_eq_some_iff.1 HX0_5.out).1
    have HTL2_5 : Hid (TabW w5 (.slice p2 m2 z2) L2 ∧ pl L2 = Sp.rmT (Sp.chk Sp.isSp) (pl L) a b s st) := ⟨HTL2_4.out.1.up bn5, HTL2_4.out.2⟩
    have HTL3_5 : Hid (TabW w5 (.slice p3 m3 z3) L3 ∧ pl L3 = Sp.rmT (Sp.chk Sp.isSp) (pl L) a b s st) := ⟨HTL3_4.out.1.up bn5, HTL3_4.out.2⟩
    have HTL4_5 : Hid (TabW w5 (.slice p4 m4 z4) L4 ∧ pl L4 = Sp.rnT (Sp.chk Sp.isSp) Sp.insB (pl L) a b s c d s2 st) := ⟨HTL4_4.out.1.up bn5, HTL4_4.out.2⟩
    obtain ⟨p5, z5, hu5, -, -⟩ := ht5.open
    obtain ⟨m5, hm5'⟩ : ∃ m, L5.length = m := ⟨_, rfl⟩
    rw [hm5'] at hu5
    subst hu5
    have HTL5_5 : Hid (TabW w5 (.slice p5 m5 z5) L5 ∧ pl L5 = Sp.rnT (Sp.chk Sp.isSp) Sp.insB (pl L) a b s c d s2 st) := ⟨tab_wide ht5, hp5⟩
    clear ht5 hp5 hm5'
    clear hb5 bn5
    obtain ⟨f0, f1, f2, f3, f4, f5, f6, f7⟩ := case_of HX0_5.out
    go_wp2_with fail
    clear f0 f1 f2 f3 f4 f5 f6 f7
    refine (inodes_same _ _ L2 L3 _ HTL2_5.out.1 HTL3_5.out.1 (by rw [HTL2_5.out.2, HTL3_5.out.2])).mono ?_
    rintro e w6 ⟨rfl, hb6⟩
    have HB6 : Hid (Below w.heap.size w w6) := HB5.out.trans (hb6.mono HB5.out.size)
    have HX0_6 : Hid (w6.heap[w.heap.size]? = some (BC a b c d s s2 k st)) := (hb6.block _ (Array.getElem?_eq_some_iff.1 HX0_5.out).1).trans HX0_5.out
    have HTL2_6 : Hid (TabW w6 (.slice p2 m2 z2) L2 ∧ pl L2 = Sp.rmT (Sp.chk Sp.isSp) (pl L) a b s st) := ⟨HTL2_5.out.1.up hb6, HTL2_5.out.2⟩
    have HTL3_6 : Hid (TabW w6 (.slice p3 m3 z3) L3 ∧ pl L3 = Sp.rmT (Sp.chk Sp.isSp) (pl L) a b s st) := ⟨HTL3_5.out.1.up hb6, HTL3_5.out.2⟩
    have HTL4_6 : Hid (TabW w6 (.slice p4 m4 z4) L4 ∧ pl L4 = Sp.rnT (Sp.chk Sp.isSp) Sp.insB (pl L) a b s c d s2 st) := ⟨HTL4_5.out.1.up hb6, HTL4_5.out.2⟩
    have HTL5_6 : Hid (TabW w6 (.slice p5 m5 z5) L5 ∧ pl L5 = Sp.rnT (Sp.chk Sp.isSp) Sp.insB (pl L) a b s c d s2 st) := ⟨HTL5_5.out.1.up hb6, HTL5_5.out.2⟩
    clear hb6
    obtain ⟨f0, f1, f2, f3, f4, f5, f6, f7⟩ := case_of HX0_6.out
    go_wp2_with fail
    clear f0 f1 f2 f3 f4 f5 f6 f7
    refine (inodes_same _ _ L4 L5 _ HTL4_6.out.1 HTL5_6.out.1 (by rw [HTL4_6.out.2, HTL5_6.out.2])).mono ?_
    rintro e w7 ⟨rfl, hb7⟩
    have HB7 : Hid (Below w.heap.size w w7) := HB6.out.trans (hb7.mono HB6.out.size)
    have HX0_7 : Hid (w7.heap[w.heap.size]? = some (BC a b c d s s2 k st)) := (hb7.block _ (Array.getElem?_eq_some_iff.1 HX0_6.out).1).trans HX0_6.out
    have HTL2_7 : Hid (TabW w7 (.slice p2 m2 z2) L2 ∧ pl L2 = Sp.rmT (Sp.chk Sp.isSp) (pl L) a b s st) := ⟨HTL2_6.out.1.up hb7, HTL2_6.out.2⟩
    have HTL3_7 : Hid (TabW w7 (.slice p3 m3 z3) L3 ∧ pl L3 = Sp.rmT (Sp.chk Sp.isSp) (pl L) a b s st) := ⟨HTL3_6.out.1.up hb7, HTL3_6.out.2⟩
    have HTL4_7 : Hid (TabW w7 (.slice p4 m4 z4) L4 ∧ pl L4 = Sp.rnT (Sp.chk Sp.isSp) Sp.insB (pl L) a b s c d s2 st) := ⟨HTL4_6.out.1.up hb7, HTL4_6.out.2⟩
    have HTL5_7 : Hid (TabW w7 (.slice p5 m5 z5) L5 ∧ pl L5 = Sp.rnT (Sp.chk Sp.isSp) Sp.insB (pl L) a b s c d s2 st) := ⟨HTL5_6.out.1.up hb7, HTL5_6.out.2⟩
    clear hb7
    obtain ⟨f0, f1, f2, f3, f4, f5, f6, f7⟩ := case_of HX0_7.out
    go_wp2_with fail
    clear f0 f1 f2 f3 f4 f5 f6 f7
    refine (little_any _).mono ?_
    rintro e wZ ⟨rfl, hbZ⟩
    have HBZ : Hid (Below w.heap.size w wZ) := HB7.out.trans (hbZ.mono HB7.out.size)
    clear hbZ
    go_wp2
    go_ret
    exact ⟨rfl, HBZ.out⟩
  · go_wp2_with fail
    refine (little_any _).mono ?_
    rintro e w7 ⟨rfl, hb7⟩
    have HB7 : Hid (Below w.heap.size w w7) := HB1.out.trans (hb7.mono HB1.out.size)
    clear hb7
    go_wp2
    go_ret
    exact ⟨rfl, HB7.out⟩

set_option maxRecDepth 100000 in
theorem spaceMoves_lifted (os : Os) (started : os.Started) (H : Type) (enc : TypeId × Value → H) :
    ReturnsInHanded {} Tryz.checked os 6 .any (Rows.spaceMovesSpec.pre6 enc Tryz.prog Tryz.f6 Rows.spaceMovesRow.domain false) (Rows.spaceMovesSpec.post enc Tryz.prog Tryz.f6 false true false false) := by
  refine returnsInHanded_of_change_sized (C := Tryz.checked) own started (by kernel_rfl) Tryz.func6
    (ChangeSpec.witness6 (enc := enc) (C := Tryz.checked) false ⟨#[], #[.slice none 0 0, VC 0 0 0 0 ⟨#[]⟩ ⟨#[]⟩ 0 0], []⟩ 8 (by kernel_rfl) (by kernel_rfl) (by kernel_rfl) (by kernel_rfl)) ?_
  intro W base args ds gs before hval0 hW hcnd hsized _
  have hval : ∀ (j : Nat) t v, Tryz.f6.params[j]? = some t → args[j]? = some v → Value.okWide Tryz.prog W .any base t v := hval0
  have hW' := hW
  have hlt : ∀ x ∈ before, x.block < W.heap.size := fun x hx => by simpa using hW'.lt x hx
  obtain ⟨p, q, hA0, hV, rfl, hfz, hnd⟩ := hW
  have hA : DataW.TrodAll enc Tryz.prog W 0 (fun _ => true) true Tryz.f6.params.toList args.toList ds p := hA0
  rw [Tryz.params6] at hA hval
  obtain ⟨v0, v1, d0, d1, p0, p1, rfl, rfl, rfl, h0, h1⟩ := trodAll_two hA
  obtain ⟨rfl, rfl⟩ := trodVars_none hV
  have hwt0 : ∀ n ∈ d0.weights Tryz.prog 22, n ≤ reachBytes := fun n hn => by
    have := List.all_eq_true.1 hsized n (DataW.weights_mem_each (j := 0) (t := 22) (d := d0) rfl rfl n hn)
    simpa using this
  obtain ⟨L, hL, hLn⟩ := sopen_tab (okWide_slice Tryz.underlying22 (hval 0 22 v0 rfl rfl)) h0 hwt0
  obtain ⟨a, b, c, d, s, s2, k, st, rfl, hs, hs2⟩ := open_case (hval 1 33 v1 rfl rfl) h1
  refine (spaceMoves_any v0 L a b c d s s2 k st W hL hLn hs hs2).mono fun e W' ⟨he, hg⟩ => ⟨_, he, ?_⟩
  exact Law.post laidOut (by kernel_rfl) rfl Tryz.underlying4 hW' rfl rfl hg

theorem spaceMoves_holds : Rows.SpaceMovesSaid :=
  OpenClaim.holds_of_wide 6 Tryz.f6 rfl rfl rfl rfl rfl rfl rfl ⟨rfl, rfl, rfl, rfl, rfl⟩ rfl rfl rfl rfl rfl (by kernel_rfl) Tryz.func6 (by kernel_rfl)
    (of_decide_eq_true (by kernel_rfl)) (by unfold Func.isWrapper; first | (rw [if_pos (by decide +kernel)]; kernel_rfl) | (rw [if_neg (by decide +kernel)]; exact ⟨rfl, rfl⟩))
    (fun os started H enc _ => spaceMoves_lifted os started H enc)
#print axioms spaceMoves_holds
end Go.Proofs.YtacghcoikekfeaaGreat
