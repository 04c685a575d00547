/-
  space.refuseLink, over what Check answers.
-/
import Derived.Test.YtacghcoikekfeaaGreatSp10
namespace Go.Proofs.YtacghcoikekfeaaGreat
open Go.ChangeShapes Go.WideShapes Go.ChangeAt Go.RowKit Go.Deep It
set_option maxRecDepth 100000
noncomputable def Sp.linkErr (C : List Ino → Int) (L : List Ino) (a b c d : Int) (s : ByteArray) (st : Int) : Int :=
  if stErr C L st = 0 then (if findErr L a b = 0 then (if (findI L a b).kind = 2 then 405 else if nameErr L c d s = 0 then (if (findI L a b).links = 64 then 407 else 0) else nameErr L c d s) else findErr L a b) else stErr C L st
set_option maxHeartbeats 4000000 in
theorem refuseLink_any {C : List Ino → Int} (hC : ChkSaid C) {S : Nat → Prop} (v : Value) (L : List Rw) (a b c d : Int) (s : ByteArray) (st : Int) (w : World) (hv : TabAt S w v L) (hok : Sp.okN L) (hs : s.size ≤ maxLen) :
    Calls Tryz.prog 54 #[v, .agg #[.int .i64 a, .int .i64 b], .agg #[.int .i64 c, .int .i64 d], .string s, .int .i64 st] w fun e w' => e = .returned (.int .i64 (Sp.linkErr C (pl L) a b c d s st)) ∧ Below w.heap.size w w' := by
  obtain ⟨W, hW⟩ : ∃ W, W = (w.alloc (BH a b)).alloc (BH c d) := ⟨_, rfl⟩
  have HB0 : Hid (Below w.heap.size w W) := by show Below w.heap.size w W; rw [hW]; exact ((Below.refl _ w).alloc (Nat.le_refl _) _).alloc (by simp) _
  have HA0 : Hid (W.heap[w.heap.size]? = some (BH a b) ∧ W.heap[w.heap.size + 1]? = some (BH c d)) := by
    rw [hW]
    refine ⟨(Below.heap_alloc _ _ _ (by simp)).trans (heap_alloc_new _ _), ?_⟩
    have := heap_alloc_new (w.alloc (BH a b)) (BH c d)
    rwa [show (w.alloc (BH a b)).heap.size = w.heap.size + 1 by simp] at this
  have hws : w.heap.size + 1 < W.heap.size := by rw [hW]; simp
  have HV : Hid (TabAt S W v L) := hv.up HB0.out
  obtain ⟨ao, cap, rfl, _, _⟩ := hv.open
  have HOK : Hid (Sp.okN L) := hok
  have HSM : Hid (s.size ≤ maxLen) := hs
  have HCC : Hid (ChkSaid C) := hC
  clear hv hok hs hC
  obtain ⟨r, hr⟩ : ∃ r, Sp.linkErr C (pl L) a b c d s st = r := ⟨_, rfl⟩
  rw [hr]
  unfold Sp.linkErr at hr
  obtain ⟨ce, hce⟩ : ∃ ce, Sp.stErr C (pl L) st = ce := ⟨_, rfl⟩
  have HCE : Hid (Sp.stErr C (pl L) st = ce) := hce
  obtain ⟨fe, hfe⟩ : ∃ fe, findErr (pl L) a b = fe := ⟨_, rfl⟩
  have HFE : Hid (findErr (pl L) a b = fe) := hfe
  obtain ⟨ne, hne⟩ : ∃ ne, Sp.nameErr (pl L) c d s = ne := ⟨_, rfl⟩
  have HNE : Hid (Sp.nameErr (pl L) c d s = ne) := hne
  rw [hce, hfe, hne] at hr
  clear hce hfe hne
  by_cases hz : ce = 0
  · rw [if_pos hz] at hr
    subst hz
    by_cases hf : fe = 0
    · rw [if_pos hf] at hr
      subst hf
      by_cases hk : (findI (pl L) a b).kind = 2
      · rw [if_pos hk] at hr
        subst hr
        have hk2 : ((findI (pl L) a b).kind == 2) = true := by simp [hk]
        clear hk
        go_enter Tryz.func54, Tryz.ntmps54
        go_wp2_with fail
        rw [← hW]
        refine (srefuse_any HCC.out _ L st _ HV.out HOK.out).mono ?_
        rintro e w1 ⟨rfl, hb1⟩
        rw [HCE.out]
        have HB1 : Hid (Below w.heap.size w w1) := HB0.out.trans (hb1.mono HB0.out.size)
        have HA1 : Hid (w1.heap[w.heap.size]? = some (BH a b) ∧ w1.heap[w.heap.size + 1]? = some (BH c d)) := ⟨(hb1.block _ (by omega)).trans HA0.out.1, (hb1.block _ (by omega)).trans HA0.out.2⟩
        have hws1 : w.heap.size + 1 < w1.heap.size := by have := hb1.size; omega
        have HV1 : Hid (TabAt S w1 (.slice ao L.length cap) L) := HV.out.up hb1
        obtain ⟨⟨a0, a1⟩, _⟩ := two_of HA1.out.1
        clear hb1 hW HV HA0
        go_wp2_with fail
        refine (find_any _ L a b _ HV1.out).mono ?_
        rintro e w2 ⟨x, rfl, hxi, -, hb2⟩
        rw [HFE.out]
        have HB2 : Hid (Below w.heap.size w w2) := HB1.out.trans (hb2.mono HB1.out.size)
        have HA2 : Hid (w2.heap[w.heap.size + 1]? = some (BH c d)) := (hb2.block _ hws1).trans HA1.out.2
        have hws2 : w.heap.size + 1 < w2.heap.size := by have := hb2.size; omega
        have HV2 : Hid (TabAt S w2 (.slice ao L.length cap) L) := HV1.out.up hb2
        have HK : Hid (x.i.kind = (findI (pl L) a b).kind ∧ x.i.links = (findI (pl L) a b).links) := by rw [hxi]; exact ⟨rfl, rfl⟩
        have hkk : (x.i.kind == 2) = true := by rw [HK.out.1]; exact hk2
        obtain ⟨⟨q0, q1, q2, q3, q4, q5, q6, q7⟩, -⟩ := eight_of (heap_alloc_new w2 (BIx x))
        clear hb2 a0 a1 hxi
        go_wp2_with fail
        refine (isDir_any x _).mono ?_
        rintro e w3 ⟨rfl, hw3⟩
        rw [hkk]
        have hb3 : Below w2.heap.size w2 w3 := by rw [hw3]; exact ((Below.refl _ _).alloc (Nat.le_refl _) _).alloc (by simp) _
        have hb3' : Below (w2.alloc (BIx x)).heap.size (w2.alloc (BIx x)) w3 := by rw [hw3]; exact (Below.refl _ _).alloc (Nat.le_refl _) _
        have HB3 : Hid (Below w.heap.size w w3) := HB2.out.trans (hb3.mono HB2.out.size)
        clear hb3 hb3' hw3 q0 q1 q2 q3 q4 q5 q6 q7
        go_wp2
        go_ret
        exact ⟨rfl, HB3.out⟩
      · rw [if_neg hk] at hr
        have hk2 : ((findI (pl L) a b).kind == 2) = false := beq_eq_false_iff_ne.2 hk
        clear hk
        by_cases hn : ne = 0
        · rw [if_pos hn] at hr
          subst hn
          by_cases hl : (findI (pl L) a b).links = 64
          · rw [if_pos hl] at hr
            subst hr
            have hl2 : ((findI (pl L) a b).links == 64) = true := by simp [hl]
            clear hl
            go_enter Tryz.func54, Tryz.ntmps54
            go_wp2_with fail
            rw [← hW]
            refine (srefuse_any HCC.out _ L st _ HV.out HOK.out).mono ?_
            rintro e w1 ⟨rfl, hb1⟩
            rw [HCE.out]
            have HB1 : Hid (Below w.heap.size w w1) := HB0.out.trans (hb1.mono HB0.out.size)
            have HA1 : Hid (w1.heap[w.heap.size]? = some (BH a b) ∧ w1.heap[w.heap.size + 1]? = some (BH c d)) := ⟨(hb1.block _ (by omega)).trans HA0.out.1, (hb1.block _ (by omega)).trans HA0.out.2⟩
            have hws1 : w.heap.size + 1 < w1.heap.size := by have := hb1.size; omega
            have HV1 : Hid (TabAt S w1 (.slice ao L.length cap) L) := HV.out.up hb1
            obtain ⟨⟨a0, a1⟩, _⟩ := two_of HA1.out.1
            clear hb1 hW HV HA0
            go_wp2_with fail
            refine (find_any _ L a b _ HV1.out).mono ?_
            rintro e w2 ⟨x, rfl, hxi, -, hb2⟩
            rw [HFE.out]
            have HB2 : Hid (Below w.heap.size w w2) := HB1.out.trans (hb2.mono HB1.out.size)
            have HA2 : Hid (w2.heap[w.heap.size + 1]? = some (BH c d)) := (hb2.block _ hws1).trans HA1.out.2
            have hws2 : w.heap.size + 1 < w2.heap.size := by have := hb2.size; omega
            have HV2 : Hid (TabAt S w2 (.slice ao L.length cap) L) := HV1.out.up hb2
            have HK : Hid (x.i.kind = (findI (pl L) a b).kind ∧ x.i.links = (findI (pl L) a b).links) := by rw [hxi]; exact ⟨rfl, rfl⟩
            have hkk : (x.i.kind == 2) = false := by rw [HK.out.1]; exact hk2
            obtain ⟨⟨q0, q1, q2, q3, q4, q5, q6, q7⟩, -⟩ := eight_of (heap_alloc_new w2 (BIx x))
            clear hb2 a0 a1 hxi
            go_wp2_with fail
            refine (isDir_any x _).mono ?_
            rintro e w3 ⟨rfl, hw3⟩
            rw [hkk]
            have hb3 : Below w2.heap.size w2 w3 := by rw [hw3]; exact ((Below.refl _ _).alloc (Nat.le_refl _) _).alloc (by simp) _
            have hb3' : Below (w2.alloc (BIx x)).heap.size (w2.alloc (BIx x)) w3 := by rw [hw3]; exact (Below.refl _ _).alloc (Nat.le_refl _) _
            have HB3 : Hid (Below w.heap.size w w3) := HB2.out.trans (hb3.mono HB2.out.size)
            have HX3 : Hid (w3.heap[w2.heap.size]? = some (BIx x)) := (hb3'.block _ (by simp)).trans (heap_alloc_new w2 (BIx x))
            have hws3 : w2.heap.size < w3.heap.size := (Array.getElem?_eq_some_iff.1 HX3.out).1
            have HV3 : Hid (TabAt S w3 (.slice ao L.length cap) L) := HV2.out.up hb3
            obtain ⟨⟨a0, a1⟩, _⟩ := two_of ((hb3.block _ hws2).trans HA2.out)
            clear hb3 hb3' hw3 q0 q1 q2 q3 q4 q5 q6 q7
            go_wp2_with fail
            refine (refuseName_any _ L c d s _ HV3.out HOK.out HSM.out).mono ?_
            rintro e w4 ⟨rfl, hb4⟩
            rw [HNE.out]
            have HB4 : Hid (Below w.heap.size w w4) := HB3.out.trans (hb4.mono HB3.out.size)
            have hll : (x.i.links == 64) = true := by rw [HK.out.2]; exact hl2
            obtain ⟨⟨q0, q1, q2, q3, q4, q5, q6, q7⟩, -⟩ := eight_of ((hb4.block _ hws3).trans HX3.out)
            clear hb4 a0 a1
            go_wp2
            go_ret
            exact ⟨rfl, HB4.out⟩
          · rw [if_neg hl] at hr
            subst hr
            have hl2 : ((findI (pl L) a b).links == 64) = false := beq_eq_false_iff_ne.2 hl
            clear hl
            go_enter Tryz.func54, Tryz.ntmps54
            go_wp2_with fail
            rw [← hW]
            refine (srefuse_any HCC.out _ L st _ HV.out HOK.out).mono ?_
            rintro e w1 ⟨rfl, hb1⟩
            rw [HCE.out]
            have HB1 : Hid (Below w.heap.size w w1) := HB0.out.trans (hb1.mono HB0.out.size)
            have HA1 : Hid (w1.heap[w.heap.size]? = some (BH a b) ∧ w1.heap[w.heap.size + 1]? = some (BH c d)) := ⟨(hb1.block _ (by omega)).trans HA0.out.1, (hb1.block _ (by omega)).trans HA0.out.2⟩
            have hws1 : w.heap.size + 1 < w1.heap.size := by have := hb1.size; omega
            have HV1 : Hid (TabAt S w1 (.slice ao L.length cap) L) := HV.out.up hb1
            obtain ⟨⟨a0, a1⟩, _⟩ := two_of HA1.out.1
            clear hb1 hW HV HA0
            go_wp2_with fail
            refine (find_any _ L a b _ HV1.out).mono ?_
            rintro e w2 ⟨x, rfl, hxi, -, hb2⟩
            rw [HFE.out]
            have HB2 : Hid (Below w.heap.size w w2) := HB1.out.trans (hb2.mono HB1.out.size)
            have HA2 : Hid (w2.heap[w.heap.size + 1]? = some (BH c d)) := (hb2.block _ hws1).trans HA1.out.2
            have hws2 : w.heap.size + 1 < w2.heap.size := by have := hb2.size; omega
            have HV2 : Hid (TabAt S w2 (.slice ao L.length cap) L) := HV1.out.up hb2
            have HK : Hid (x.i.kind = (findI (pl L) a b).kind ∧ x.i.links = (findI (pl L) a b).links) := by rw [hxi]; exact ⟨rfl, rfl⟩
            have hkk : (x.i.kind == 2) = false := by rw [HK.out.1]; exact hk2
            obtain ⟨⟨q0, q1, q2, q3, q4, q5, q6, q7⟩, -⟩ := eight_of (heap_alloc_new w2 (BIx x))
            clear hb2 a0 a1 hxi
            go_wp2_with fail
            refine (isDir_any x _).mono ?_
            rintro e w3 ⟨rfl, hw3⟩
            rw [hkk]
            have hb3 : Below w2.heap.size w2 w3 := by rw [hw3]; exact ((Below.refl _ _).alloc (Nat.le_refl _) _).alloc (by simp) _
            have hb3' : Below (w2.alloc (BIx x)).heap.size (w2.alloc (BIx x)) w3 := by rw [hw3]; exact (Below.refl _ _).alloc (Nat.le_refl _) _
            have HB3 : Hid (Below w.heap.size w w3) := HB2.out.trans (hb3.mono HB2.out.size)
            have HX3 : Hid (w3.heap[w2.heap.size]? = some (BIx x)) := (hb3'.block _ (by simp)).trans (heap_alloc_new w2 (BIx x))
            have hws3 : w2.heap.size < w3.heap.size := (Array.getElem?_eq_some_iff.1 HX3.out).1
            have HV3 : Hid (TabAt S w3 (.slice ao L.length cap) L) := HV2.out.up hb3
            obtain ⟨⟨a0, a1⟩, _⟩ := two_of ((hb3.block _ hws2).trans HA2.out)
            clear hb3 hb3' hw3 q0 q1 q2 q3 q4 q5 q6 q7
            go_wp2_with fail
            refine (refuseName_any _ L c d s _ HV3.out HOK.out HSM.out).mono ?_
            rintro e w4 ⟨rfl, hb4⟩
            rw [HNE.out]
            have HB4 : Hid (Below w.heap.size w w4) := HB3.out.trans (hb4.mono HB3.out.size)
            have hll : (x.i.links == 64) = false := by rw [HK.out.2]; exact hl2
            obtain ⟨⟨q0, q1, q2, q3, q4, q5, q6, q7⟩, -⟩ := eight_of ((hb4.block _ hws3).trans HX3.out)
            clear hb4 a0 a1
            go_wp2
            go_ret
            exact ⟨rfl, HB4.out⟩
        · rw [if_neg hn] at hr
          subst hr
          have hn' : (ne != 0) = true := by simpa using hn
          clear hn
          go_enter Tryz.func54, Tryz.ntmps54
          go_wp2_with fail
          rw [← hW]
          refine (srefuse_any HCC.out _ L st _ HV.out HOK.out).mono ?_
          rintro e w1 ⟨rfl, hb1⟩
          rw [HCE.out]
          have HB1 : Hid (Below w.heap.size w w1) := HB0.out.trans (hb1.mono HB0.out.size)
          have HA1 : Hid (w1.heap[w.heap.size]? = some (BH a b) ∧ w1.heap[w.heap.size + 1]? = some (BH c d)) := ⟨(hb1.block _ (by omega)).trans HA0.out.1, (hb1.block _ (by omega)).trans HA0.out.2⟩
          have hws1 : w.heap.size + 1 < w1.heap.size := by have := hb1.size; omega
          have HV1 : Hid (TabAt S w1 (.slice ao L.length cap) L) := HV.out.up hb1
          obtain ⟨⟨a0, a1⟩, _⟩ := two_of HA1.out.1
          clear hb1 hW HV HA0
          go_wp2_with fail
          refine (find_any _ L a b _ HV1.out).mono ?_
          rintro e w2 ⟨x, rfl, hxi, -, hb2⟩
          rw [HFE.out]
          have HB2 : Hid (Below w.heap.size w w2) := HB1.out.trans (hb2.mono HB1.out.size)
          have HA2 : Hid (w2.heap[w.heap.size + 1]? = some (BH c d)) := (hb2.block _ hws1).trans HA1.out.2
          have hws2 : w.heap.size + 1 < w2.heap.size := by have := hb2.size; omega
          have HV2 : Hid (TabAt S w2 (.slice ao L.length cap) L) := HV1.out.up hb2
          have HK : Hid (x.i.kind = (findI (pl L) a b).kind ∧ x.i.links = (findI (pl L) a b).links) := by rw [hxi]; exact ⟨rfl, rfl⟩
          have hkk : (x.i.kind == 2) = false := by rw [HK.out.1]; exact hk2
          obtain ⟨⟨q0, q1, q2, q3, q4, q5, q6, q7⟩, -⟩ := eight_of (heap_alloc_new w2 (BIx x))
          clear hb2 a0 a1 hxi
          go_wp2_with fail
          refine (isDir_any x _).mono ?_
          rintro e w3 ⟨rfl, hw3⟩
          rw [hkk]
          have hb3 : Below w2.heap.size w2 w3 := by rw [hw3]; exact ((Below.refl _ _).alloc (Nat.le_refl _) _).alloc (by simp) _
          have hb3' : Below (w2.alloc (BIx x)).heap.size (w2.alloc (BIx x)) w3 := by rw [hw3]; exact (Below.refl _ _).alloc (Nat.le_refl _) _
          have HB3 : Hid (Below w.heap.size w w3) := HB2.out.trans (hb3.mono HB2.out.size)
          have HX3 : Hid (w3.heap[w2.heap.size]? = some (BIx x)) := (hb3'.block _ (by simp)).trans (heap_alloc_new w2 (BIx x))
          have hws3 : w2.heap.size < w3.heap.size := (Array.getElem?_eq_some_iff.1 HX3.out).1
          have HV3 : Hid (TabAt S w3 (.slice ao L.length cap) L) := HV2.out.up hb3
          obtain ⟨⟨a0, a1⟩, _⟩ := two_of ((hb3.block _ hws2).trans HA2.out)
          clear hb3 hb3' hw3 q0 q1 q2 q3 q4 q5 q6 q7
          go_wp2_with fail
          refine (refuseName_any _ L c d s _ HV3.out HOK.out HSM.out).mono ?_
          rintro e w4 ⟨rfl, hb4⟩
          rw [HNE.out]
          have HB4 : Hid (Below w.heap.size w w4) := HB3.out.trans (hb4.mono HB3.out.size)
          clear hb4 a0 a1
          go_wp2
          go_ret
          exact ⟨rfl, HB4.out⟩
    · rw [if_neg hf] at hr
      subst hr
      have hf' : (fe != 0) = true := by simpa using hf
      clear hf
      go_enter Tryz.func54, Tryz.ntmps54
      go_wp2_with fail
      rw [← hW]
      refine (srefuse_any HCC.out _ L st _ HV.out HOK.out).mono ?_
      rintro e w1 ⟨rfl, hb1⟩
      rw [HCE.out]
      have HB1 : Hid (Below w.heap.size w w1) := HB0.out.trans (hb1.mono HB0.out.size)
      have HA1 : Hid (w1.heap[w.heap.size]? = some (BH a b) ∧ w1.heap[w.heap.size + 1]? = some (BH c d)) := ⟨(hb1.block _ (by omega)).trans HA0.out.1, (hb1.block _ (by omega)).trans HA0.out.2⟩
      have hws1 : w.heap.size + 1 < w1.heap.size := by have := hb1.size; omega
      have HV1 : Hid (TabAt S w1 (.slice ao L.length cap) L) := HV.out.up hb1
      obtain ⟨⟨a0, a1⟩, _⟩ := two_of HA1.out.1
      clear hb1 hW HV HA0
      go_wp2_with fail
      refine (find_any _ L a b _ HV1.out).mono ?_
      rintro e w2 ⟨x, rfl, hxi, -, hb2⟩
      rw [HFE.out]
      have HB2 : Hid (Below w.heap.size w w2) := HB1.out.trans (hb2.mono HB1.out.size)
      have HA2 : Hid (w2.heap[w.heap.size + 1]? = some (BH c d)) := (hb2.block _ hws1).trans HA1.out.2
      have hws2 : w.heap.size + 1 < w2.heap.size := by have := hb2.size; omega
      have HV2 : Hid (TabAt S w2 (.slice ao L.length cap) L) := HV1.out.up hb2
      clear hb2 a0 a1 hxi
      go_wp2
      go_ret
      exact ⟨rfl, HB2.out.alloc HB2.out.size _⟩
  · rw [if_neg hz] at hr
    subst hr
    have hz' : (ce != 0) = true := by simpa using hz
    clear hz
    go_enter Tryz.func54, Tryz.ntmps54
    go_wp2_with fail
    rw [← hW]
    refine (srefuse_any HCC.out _ L st _ HV.out HOK.out).mono ?_
    rintro e w1 ⟨rfl, hb1⟩
    rw [HCE.out]
    have HB1 : Hid (Below w.heap.size w w1) := HB0.out.trans (hb1.mono HB0.out.size)
    clear hb1 hW HV HA0
    go_wp2
    go_ret
    exact ⟨rfl, HB1.out⟩
end Go.Proofs.YtacghcoikekfeaaGreat
