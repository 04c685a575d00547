/-
  sextonref11.Right: is a table a space?
-/
import Derived.Test.YtacghcoikekfeaaGreatRRt0
import Derived.Test.YtacghcoikekfeaaGreatRefA
import Derived.Test.YtacghcoikekfeaaGreatFRefB
namespace Go.Proofs.YtacghcoikekfeaaGreat
open Go.ChangeShapes Go.WideShapes Go.ChangeAt Go.RowKit Go.Deep It
set_option maxRecDepth 100000
set_option maxHeartbeats 8000000 in
theorem rspace_any : RtSaid Sp.isSp := by
  intro S v L w hv hok
  obtain ⟨ao, cap, rfl, -, -⟩ := hv.open
  obtain ⟨n, hn⟩ : ∃ n, L.length = n := ⟨_, rfl⟩
  rw [hn] at hv ⊢
  have HN : Hid (L.length = n) := hn
  have HPL : Hid ((pl L).length = n) := by show _ = _; rw [List.length_map]; exact hn
  have HV : Hid (TabAt S w (.slice ao n cap) L) := hv
  have HOK : Hid (Sp.okN L) := hok
  obtain ⟨r, hr⟩ : ∃ r, Sp.isSp (pl L) = r := ⟨_, rfl⟩
  have HR : Hid (Sp.isSp (pl L) = r) := hr
  rw [hr]
  obtain ⟨i0, hi0⟩ : ∃ i0, It.right (pl L) = i0 := ⟨_, rfl⟩
  have HI : Hid (It.right (pl L) = i0) := hi0
  clear hr hn hv hok hi0
  cases i0
  · have HH : Hid (r = false) := by
      show r = false
      rw [← HR.out]
      cases hs : Sp.isSp (pl L) with
      | false => rfl
      | true => have := (Sp.isSp_iff.1 hs).1; rw [HI.out] at this; cases this
    go_enter Tryz.func11, Tryz.ntmps11
    go_wp2_with fail
    refine (rright_any _ L _ HV.out).mono ?_
    rintro e w1 ⟨rfl, hb1⟩
    rw [HI.out]
    have HB8 : Hid (Below w.heap.size w w1) := hb1
    clear hb1
    go_wp2
    go_ret
    rw [HH.out]
    exact ⟨rfl, HB8.out⟩
  · have hL : L.length ≤ 24 := by have := (Sp.right_len HI.out).2; rw [List.length_map] at this; exact this
    have hL2 : n ≤ 24 := by rw [← HN.out]; exact hL
    have hn1 : 0 < n := by have := (Sp.right_len HI.out).1; rw [HPL.out] at this; exact this
    go_enter Tryz.func11, Tryz.ntmps11
    go_wp2_with fail
    refine (rright_any _ L _ HV.out).mono ?_
    rintro e w1 ⟨rfl, hb1⟩
    rw [HI.out]
    have HB1' : Hid (Below w.heap.size w w1) := hb1
    clear hb1
    go_wp2
    go_loopw [16] (fun i wr => ∃ k : Nat, k ≤ n ∧ i = .int .i64 k ∧ Hid (∀ j y, j < k → (pl L)[j]? = some y → Sp.okAt (pl L) j y) ∧ Hid (Below w.heap.size w wr)) (fun i _ => n - (intOf i).toNat)
    case atStart => exact ⟨0, Nat.zero_le _, rfl, fun j y hj => by omega, HB1'.out⟩
    case round =>
      obtain ⟨k, hk, rfl, HP, HB⟩ := hrel
      have hsz := HB.out.size
      by_cases hlt : k < n
      · obtain ⟨x, hxk⟩ : ∃ x, L[k]? = some x := ⟨_, List.getElem?_eq_getElem (by rw [HN.out]; exact hlt)⟩
        have HPK : Hid ((pl L)[k]? = some x.i) := by show _ = _; simp [hxk]
        obtain ⟨⟨b, off, rfl, hB, hc⟩, hen, hel, hes⟩ := tab_eight HV.out hxk
        have HES : Hid (∀ j e, x.i.ents[j]? = some e → ∃ b off, x.ep = some ⟨b, off, none⟩ ∧ b < w.heap.size ∧ ent4 w b (off + j * 4) e) := hes
        have hgood := HV.out.2 x (List.mem_of_getElem? hxk)
        obtain ⟨c0, c1, c2, c3, c4, c5, c6, c7⟩ := hc.below HB.out hB
        have hlt' : (k : Int) < (n : Int) := by omega
        obtain ⟨m, hm⟩ : ∃ m, x.en = m := ⟨_, rfl⟩
        obtain ⟨ep, hep⟩ : ∃ ep, x.ep = ep := ⟨_, rfl⟩
        have HM : Hid (x.i.ents.length = m) := hen.symm.trans hm
        have hmb : m ≤ 3518437208883 := by rw [← HM.out]; exact hel
        have HEP : Hid (x.ep = ep) := hep
        rw [hm, hep] at c6
        have HGD : Hid (∀ {V : World}, Below w.heap.size w V → AtW EE V (.slice ep m x.ec) x.i.ents) := fun {V} h => by rw [← hm, ← hep]; exact (hgood.2.1.up h).wide
        have HSM : Hid (∀ e ∈ x.i.ents, e.1.size ≤ maxLen) := HOK.out x (List.mem_of_getElem? hxk)
        have HSUC : Hid (Sp.okAt (pl L) k x.i → ∀ j y, j < k + 1 → (pl L)[j]? = some y → Sp.okAt (pl L) j y) := fun h j y hj hy => by
          by_cases hjk : j = k
          · subst hjk
            rw [HPK.out] at hy
            cases hy
            exact h
          · exact HP.out j y (by omega) hy
        have HBAD : Hid (¬ Sp.okAt (pl L) k x.i → r = false) := fun h => by
          rw [← HR.out]
          exact Sp.isSp_not fun ho => h (ho k x.i HPK.out)
        have hk012 : x.i.kind = 0 ∨ x.i.kind = 1 ∨ x.i.kind = 2 := by
          have hone := (It.right_iff.1 HI.out).2.2 x.i (List.mem_of_getElem? HPK.out)
          unfold one at hone
          simp only [Bool.and_eq_true] at hone
          rcases At.right_iff.1 hone.2.1 with ⟨h3, _⟩ | ⟨_, _, ⟨h3, _⟩ | ⟨h3, _⟩⟩
          · exact .inl h3
          · exact .inr (.inl h3)
          · exact .inr (.inr h3)
        have HROOT : Hid (k = 0 → x.i.kind = 2) := fun h0 => by subst h0; exact Sp.root_kind HI.out HPK.out
        clear hc hxk hes hen hel hm hep hgood
        rcases hk012 with hkd | hkd | hkd
        · rw [hkd] at c1
          have hkn : ¬ k = 0 := fun h => by have := HROOT.out h; omega
          have hkz : ¬ (k : Int) = 0 := by omega
          have HB1 : Hid (Below w.heap.size w (wr.alloc (B8 x.i.gen 0 x.i.links x.i.size x.i.stamp (.slice x.rp x.rn x.rc) (.slice ep m x.ec) x.i.next))) := HB.out.alloc hsz _
          have HX1 : Hid ((wr.alloc (B8 x.i.gen 0 x.i.links x.i.size x.i.stamp (.slice x.rp x.rn x.rc) (.slice ep m x.ec) x.i.next)).heap[wr.heap.size]? = some (B8 x.i.gen 0 x.i.links x.i.size x.i.stamp (.slice x.rp x.rn x.rc) (.slice ep m x.ec) x.i.next)) := heap_alloc_new wr _
          go_wp2_with fail
          refine (rnum_any _ L (k : Int) _ (HV.out.up HB1.out) hL).mono ?_
          rintro e w8 ⟨rfl, hb8⟩
          obtain ⟨g, hg⟩ : ∃ g, Sp.nmv (pl L) (k : Int) = g := ⟨_, rfl⟩
          have HG : Hid (Sp.nmv (pl L) (k : Int) = g) := hg
          rw [hg]
          have HB8 : Hid (Below w.heap.size w w8) := HB1.out.trans (hb8.mono HB1.out.size)
          obtain ⟨⟨q0, q1, q2, q3, q4, q5, q6, q7⟩, -⟩ := eight_of ((hb8.block _ (Array.getElem?_eq_some_iff.1 HX1.out).1).trans HX1.out)
          clear hb8 hg
          have HY : Hid (∀ j y, j < k + 1 → (pl L)[j]? = some y → Sp.okAt (pl L) j y) := HSUC.out ⟨fun h => by omega, fun h => by omega, fun h => by omega, fun h => by omega, fun h => by omega⟩
          clear hkd
          go_wp2
          go_roundw
          case rel => exact ⟨k + 1, by omega, by go_num, HY.out, HB8.out⟩
          case measure => simp [intOf]; omega
        · rw [hkd] at c1
          have hkn : ¬ k = 0 := fun h => by have := HROOT.out h; omega
          have hkz : ¬ (k : Int) = 0 := by omega
          have HB1 : Hid (Below w.heap.size w (wr.alloc (B8 x.i.gen 1 x.i.links x.i.size x.i.stamp (.slice x.rp x.rn x.rc) (.slice ep m x.ec) x.i.next))) := HB.out.alloc hsz _
          have HX1 : Hid ((wr.alloc (B8 x.i.gen 1 x.i.links x.i.size x.i.stamp (.slice x.rp x.rn x.rc) (.slice ep m x.ec) x.i.next)).heap[wr.heap.size]? = some (B8 x.i.gen 1 x.i.links x.i.size x.i.stamp (.slice x.rp x.rn x.rc) (.slice ep m x.ec) x.i.next)) := heap_alloc_new wr _
          go_wp2_with fail
          refine (rnum_any _ L (k : Int) _ (HV.out.up HB1.out) hL).mono ?_
          rintro e w8 ⟨rfl, hb8⟩
          obtain ⟨g, hg⟩ : ∃ g, Sp.nmv (pl L) (k : Int) = g := ⟨_, rfl⟩
          have HG : Hid (Sp.nmv (pl L) (k : Int) = g) := hg
          rw [hg]
          have HB8 : Hid (Below w.heap.size w w8) := HB1.out.trans (hb8.mono HB1.out.size)
          obtain ⟨⟨q0, q1, q2, q3, q4, q5, q6, q7⟩, -⟩ := eight_of ((hb8.block _ (Array.getElem?_eq_some_iff.1 HX1.out).1).trans HX1.out)
          clear hb8 hg
          by_cases hn : (g : Int) = x.i.links
          · have HY : Hid (∀ j y, j < k + 1 → (pl L)[j]? = some y → Sp.okAt (pl L) j y) := HSUC.out ⟨fun h => by omega, fun h => by omega, fun h => by rw [HG.out]; exact hn, fun h => by omega, fun h => by omega⟩
            have h1 : ((g : Int) != x.i.links) = false := by simp [hn]
            clear hkd hn
            go_wp2
            go_roundw
            case rel => exact ⟨k + 1, by omega, by go_num, HY.out, HB8.out⟩
            case measure => simp [intOf]; omega
          · have HH : Hid (r = false) := HBAD.out fun h => hn (by rw [← HG.out]; exact h.2.2.1 hkd)
            have h1 : ((g : Int) != x.i.links) = true := by simp [hn]
            clear hkd hn
            go_wp2
            go_ret
            rw [HH.out]
            exact ⟨rfl, HB8.out⟩
        · rw [hkd] at c1
          have HB1 : Hid (Below w.heap.size w (wr.alloc (B8 x.i.gen 2 x.i.links x.i.size x.i.stamp (.slice x.rp x.rn x.rc) (.slice ep m x.ec) x.i.next))) := HB.out.alloc hsz _
          have HX1 : Hid ((wr.alloc (B8 x.i.gen 2 x.i.links x.i.size x.i.stamp (.slice x.rp x.rn x.rc) (.slice ep m x.ec) x.i.next)).heap[wr.heap.size]? = some (B8 x.i.gen 2 x.i.links x.i.size x.i.stamp (.slice x.rp x.rn x.rc) (.slice ep m x.ec) x.i.next)) := heap_alloc_new wr _
          have HBX : Hid (∀ V, Below w.heap.size w V → Below w.heap.size w V) := fun _ h => h
          rcases Fo.err_or x.i.ents x.i.next with ⟨he, hrt⟩ | ⟨he, hrt⟩
          · have HE : Hid (decide (Fo.err x.i.ents x.i.next = 0) = true) := decide_eq_true he
            clear he
            go_wp2_with fail
            refine (frright_any _ x.i.ents x.i.next _ (HGD.out HB1.out) HSM.out).mono ?_
            rintro e w4 ⟨rfl, hb4⟩
            rw [HE.out]
            have HB4 : Hid (Below w.heap.size w w4) := HB1.out.trans (hb4.mono HB1.out.size)
            have HX4 : Hid (w4.heap[wr.heap.size]? = some (B8 x.i.gen 2 x.i.links x.i.size x.i.stamp (.slice x.rp x.rn x.rc) (.slice ep m x.ec) x.i.next)) := (hb4.block _ (Array.getElem?_eq_some_iff.1 HX1.out).1).trans HX1.out
            obtain ⟨⟨q0, q1, q2, q3, q4, q5, q6, q7⟩, -⟩ := eight_of HX4.out
            clear hb4
            by_cases hs : x.i.size = (m : Int)
            · have HFO : Hid (Sp.fold x.i) := fun _ => ⟨hrt, by rw [hs, HM.out]⟩
              have hs1 : (x.i.size != (m : Int)) = false := by simp [hs]
              have HKD : Hid (x.i.kind = 2) := hkd
              clear hrt hs hkd
              go_wp2
              clear q0 q1 q2 q3 q4 q5 q6 q7 c0 c1 c2 c3 c4 c5 c6 c7 hs1
              obtain ⟨wo, rfl⟩ : ∃ wo : World, wo = wr := ⟨_, rfl⟩
              go_loopw [43] (fun i V => ∃ j : Nat, j ≤ m ∧ i = .int .i64 j ∧ Hid (∀ e ∈ x.i.ents.take j, names (pl L) e.2.2.1 e.2.2.2 = true) ∧ Hid (V.heap[wo.heap.size]? = some (B8 x.i.gen 2 x.i.links x.i.size x.i.stamp (.slice x.rp x.rn x.rc) (.slice ep m x.ec) x.i.next)) ∧ Hid (Below w.heap.size w V)) (fun i _ => m - (intOf i).toNat)
              case atStart => exact ⟨0, Nat.zero_le _, rfl, fun e he => (by simp at he), HX4.out, HB4.out⟩
              case round =>
                obtain ⟨j, hj, rfl, HE5, HX5, HB5⟩ := hrel
                by_cases hjm : j < m
                · obtain ⟨⟨s, ck, no2, gn⟩, hej⟩ : ∃ e, x.i.ents[j]? = some e := ⟨_, List.getElem?_eq_getElem (by rw [HM.out]; exact hjm)⟩
                  obtain ⟨b2, off2, hep, hb2, h4⟩ := HES.out j _ hej
                  obtain rfl : ep = some ⟨b2, off2, none⟩ := HEP.out.symm.trans hep
                  obtain ⟨d0, d1, d2, d3⟩ := h4.below HB5.out hb2
                  simp only at d0 d1 d2 d3
                  have hjm' : (j : Int) < (m : Int) := by omega
                  have HEJ : Hid (x.i.ents[j]? = some (s, ck, no2, gn)) := hej
                  obtain ⟨hx5, -⟩ := Array.getElem?_eq_some_iff.1 HX5.out
                  have HB6 : Hid (Below w.heap.size w (wr.alloc (BEn (s, ck, no2, gn)))) := HB5.out.alloc HB5.out.size _
                  have HX6 : Hid ((wr.alloc (BEn (s, ck, no2, gn))).heap[wo.heap.size]? = some (B8 x.i.gen 2 x.i.links x.i.size x.i.stamp (.slice x.rp x.rn x.rc) (.slice (some ⟨b2, off2, none⟩) m x.ec) x.i.next)) := (Below.heap_alloc wr _ _ hx5).trans HX5.out
                  clear hej hep h4
                  cases hnm : names (pl L) no2 gn with
                  | true =>
                    have HNN : Hid (names (pl L) no2 gn = true) := hnm
                    have HE6 : Hid (∀ e ∈ x.i.ents.take (j + 1), names (pl L) e.2.2.1 e.2.2.2 = true) := fun e he => by
                      rw [List.take_add_one, HEJ.out] at he
                      rcases List.mem_append.1 he with he | he
                      · exact HE5.out e he
                      · simp at he
                        subst he
                        exact HNN.out
                    clear hnm
                    go_wp2_with fail
                    refine (rnames_any _ L no2 gn _ (HV.out.up HB6.out)).mono ?_
                    rintro e w7 ⟨rfl, hb7⟩
                    rw [HNN.out]
                    have HB7 : Hid (Below w.heap.size w w7) := HB6.out.trans (hb7.mono HB6.out.size)
                    have HX7 : Hid (w7.heap[wo.heap.size]? = some (B8 x.i.gen 2 x.i.links x.i.size x.i.stamp (.slice x.rp x.rn x.rc) (.slice (some ⟨b2, off2, none⟩) m x.ec) x.i.next)) := (hb7.block _ (Array.getElem?_eq_some_iff.1 HX6.out).1).trans HX6.out
                    clear hb7
                    go_wp2
                    go_roundw
                    case rel => exact ⟨j + 1, by omega, by go_num, HE6.out, HX7.out, HB7.out⟩
                    case measure => simp [intOf]; omega
                  | false =>
                    have HNN : Hid (names (pl L) no2 gn = false) := hnm
                    have HH : Hid (r = false) := HBAD.out fun h => by
                      have := h.2.1 HKD.out _ (List.mem_of_getElem? HEJ.out)
                      rw [show names (pl L) no2 gn = false from HNN.out] at this
                      cases this
                    clear hnm
                    go_wp2_with fail
                    refine (rnames_any _ L no2 gn _ (HV.out.up HB6.out)).mono ?_
                    rintro e w7 ⟨rfl, hb7⟩
                    rw [HNN.out]
                    have HB8 : Hid (Below w.heap.size w w7) := HB6.out.trans (hb7.mono HB6.out.size)
                    clear hb7
                    go_wp2
                    go_ret
                    rw [HH.out]
                    exact ⟨rfl, HB8.out⟩
                · obtain rfl : m = j := by omega
                  have HNM : Hid (x.i.kind = 2 → ∀ e ∈ x.i.ents, names (pl L) e.2.2.1 e.2.2.2 = true) := fun _ => by
                    have := HE5.out
                    rw [List.take_of_length_le (by rw [HM.out]; exact Nat.le_refl _)] at this
                    exact this
                  have hkd : x.i.kind = 2 := HKD.out
                  go_wp2_with fail
                  refine (rnum_any _ L (k : Int) _ (HV.out.up HB5.out) hL).mono ?_
                  rintro e w8 ⟨rfl, hb8⟩
                  obtain ⟨g, hg⟩ : ∃ g, Sp.nmv (pl L) (k : Int) = g := ⟨_, rfl⟩
                  have HG : Hid (Sp.nmv (pl L) (k : Int) = g) := hg
                  rw [hg]
                  have HB8 : Hid (Below w.heap.size w w8) := HB5.out.trans (hb8.mono HB5.out.size)
                  obtain ⟨⟨q0, q1, q2, q3, q4, q5, q6, q7⟩, -⟩ := eight_of ((hb8.block _ (Array.getElem?_eq_some_iff.1 HX5.out).1).trans HX5.out)
                  clear hb8 hg
                  by_cases hk0 : k = 0
                  · by_cases hn : g = 0
                    · have HY : Hid (∀ j y, j < k + 1 → (pl L)[j]? = some y → Sp.okAt (pl L) j y) := HSUC.out ⟨HFO.out, HNM.out, fun h => by omega, fun h h' => by omega, fun h => by rw [HG.out, hn]; rfl⟩
                      subst hk0 hn
                      clear hkd
                      go_wp2
                      go_roundw
                      case rel => exact ⟨0 + 1, by omega, by go_num, HY.out, HB8.out⟩
                      case measure => simp [intOf]; omega
                    · have HH : Hid (r = false) := HBAD.out fun h => hn (by have := h.2.2.2.2 hk0; rw [HG.out] at this; omega)
                      have h1 : ((g : Int) != 0) = true := by simp; omega
                      subst hk0
                      clear hkd hn
                      go_wp2
                      go_ret
                      rw [HH.out]
                      exact ⟨rfl, HB8.out⟩
                  · have hk1 : 0 < (k : Int) := by omega
                    have hk2 : ¬ (k : Int) = 0 := by omega
                    by_cases hn : g = 1
                    · have HY : Hid (∀ j y, j < k + 1 → (pl L)[j]? = some y → Sp.okAt (pl L) j y) := HSUC.out ⟨HFO.out, HNM.out, fun h => by omega, fun h h' => by rw [HG.out, hn]; rfl, fun h => by omega⟩
                      subst hn
                      clear hkd
                      go_wp2
                      go_roundw
                      case rel => exact ⟨k + 1, by omega, by go_num, HY.out, HB8.out⟩
                      case measure => simp [intOf]; omega
                    · have HH : Hid (r = false) := HBAD.out fun h => hn (by have := h.2.2.2.1 hkd (by omega); rw [HG.out] at this; omega)
                      have h1 : ((g : Int) != 1) = true := by simp; omega
                      clear hkd hn
                      go_wp2
                      go_ret
                      rw [HH.out]
                      exact ⟨rfl, HB8.out⟩
            · have HH : Hid (r = false) := HBAD.out fun h => hs (by rw [(h.1 hkd).2, HM.out])
              have hs1 : (x.i.size != (m : Int)) = true := by simp [hs]
              have HB8 := HB4
              clear hrt hs hkd
              go_wp2
              go_ret
              rw [HH.out]
              exact ⟨rfl, HB8.out⟩
          · have HE : Hid (decide (Fo.err x.i.ents x.i.next = 0) = false) := decide_eq_false (by rw [he]; decide)
            have HH : Hid (r = false) := HBAD.out fun h => hrt (h.1 hkd).1
            clear he hrt hkd
            go_wp2_with fail
            refine (frright_any _ x.i.ents x.i.next _ (HGD.out HB1.out) HSM.out).mono ?_
            rintro e w4 ⟨rfl, hb4⟩
            rw [HE.out]
            have HB8 : Hid (Below w.heap.size w w4) := HB1.out.trans (hb4.mono HB1.out.size)
            clear hb4
            go_wp2
            go_ret
            rw [HH.out]
            exact ⟨rfl, HB8.out⟩
      · obtain rfl : n = k := by omega
        have HALL : Hid (Sp.okAll (pl L)) := fun i x hx => HP.out i x (by rw [← HPL.out]; exact (List.getElem?_eq_some_iff.1 hx).1) hx
        go_wp2_with fail
        refine (reach_any _ L 0 _ (HV.out.up HB.out) (by omega) (by rw [HN.out]; exact hn1)).mono ?_
        rintro e w2 ⟨rfl, hb2, f, hrow, hsd, hfl⟩
        rw [HN.out] at hrow hfl ⊢
        obtain ⟨b9, hb9⟩ : ∃ b9, wr.heap.size = b9 := ⟨_, rfl⟩
        rw [hb9] at hrow ⊢
        have HB2 : Hid (Below w.heap.size w w2) := HB.out.trans (hb2.mono HB.out.size)
        have HROW : Hid (w2.rowIs b9 4 n (fun i => .bool (f i))) := hrow
        have HISP : Hid (Sp.isSp (pl L) = true ↔ ∀ c, Sp.dirAt (pl L) c = true → f c = true) := Sp.isSp_of HI.out HALL.out hsd (by rw [HPL.out]; exact hfl)
        clear hb2 hrow hsd hfl hb9
        go_wp2
        obtain ⟨wo, rfl⟩ : ∃ wo : World, wo = wr := ⟨_, rfl⟩
        go_loopw [94] (fun i V => ∃ k : Nat, k ≤ n ∧ i = .int .i64 k ∧ Hid (∀ c, c < k → Sp.dirAt (pl L) c = true → f c = true) ∧ Hid (Below w2.heap.size w2 V)) (fun i _ => n - (intOf i).toNat)
        case atStart => exact ⟨0, Nat.zero_le _, rfl, fun c hc => by omega, Below.refl _ _⟩
        case round =>
          obtain ⟨k, hk, rfl, HF, HBV⟩ := hrel
          have hszv := HBV.out.size
          have HB8 : Hid (Below w.heap.size w wr) := HB2.out.trans (HBV.out.mono HB2.out.size)
          by_cases hlt : k < n
          · obtain ⟨x, hxk⟩ : ∃ x, L[k]? = some x := ⟨_, List.getElem?_eq_getElem (by rw [HN.out]; exact hlt)⟩
            obtain ⟨⟨b, off, rfl, hB, hc⟩, -, -, -⟩ := tab_eight HV.out hxk
            obtain ⟨c0, c1, c2, c3, c4, c5, c6, c7⟩ := hc.below HB8.out hB
            have hlt' : (k : Int) < (n : Int) := by omega
            have HDIR : Hid (Sp.dirAt (pl L) k = (x.i.kind == 2)) := (ents_at hxk).2
            have hrv := HROW.out.of_block (HBV.out.block _ HROW.out.lt)
            have q1 := hrv.cell hlt
            have hlv := hrv.lt
            clear hc hxk hrv
            by_cases hkd : x.i.kind = 2
            · rw [hkd] at c1
              cases hfk : f k with
              | true =>
                rw [hfk] at q1
                have HF2 : Hid (∀ c, c < k + 1 → Sp.dirAt (pl L) c = true → f c = true) := fun c hc hd => by
                  by_cases hck : c = k
                  · rw [hck]; exact hfk
                  · exact HF.out c (by omega) hd
                clear hfk hkd
                go_wp2
                go_roundw
                case rel => exact ⟨k + 1, by omega, by go_num, HF2.out, HBV.out.alloc hszv _⟩
                case measure => simp [intOf]; omega
              | false =>
                rw [hfk] at q1
                have HH : Hid (r = false) := by
                  show r = false
                  rw [← HR.out]
                  cases hs : Sp.isSp (pl L) with
                  | false => rfl
                  | true =>
                    have := HISP.out.1 hs k (by rw [HDIR.out, hkd]; rfl)
                    rw [hfk] at this
                    cases this
                clear hfk hkd
                go_wp2
                go_ret
                rw [HH.out]
                exact ⟨rfl, HB8.out.alloc HB8.out.size _⟩
            · have HF2 : Hid (∀ c, c < k + 1 → Sp.dirAt (pl L) c = true → f c = true) := fun c hc hd => by
                by_cases hck : c = k
                · rw [hck, HDIR.out] at hd
                  exact (hkd (by simpa using hd)).elim
                · exact HF.out c (by omega) hd
              go_wp2
              go_roundw
              case rel => exact ⟨k + 1, by omega, by go_num, HF2.out, HBV.out.alloc hszv _⟩
              case measure => simp [intOf]; omega
          · obtain rfl : n = k := by omega
            have HH : Hid (r = true) := by
              show r = true
              rw [← HR.out]
              exact HISP.out.2 fun c hd => HF.out c (by rw [← HPL.out]; exact Sp.dirAt_lt hd) hd
            go_wp2
            go_ret
            rw [HH.out]
            exact ⟨rfl, HB8.out⟩
end Go.Proofs.YtacghcoikekfeaaGreat
