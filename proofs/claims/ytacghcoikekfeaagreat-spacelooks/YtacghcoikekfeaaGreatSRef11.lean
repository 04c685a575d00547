/-
  sextonref11.Link, over what its Right answers.
-/
import Derived.Test.YtacghcoikekfeaaGreatSRef10
import Derived.Test.YtacghcoikekfeaaGreatSp14
namespace Go.Proofs.YtacghcoikekfeaaGreat
open Go.ChangeShapes Go.WideShapes Go.ChangeAt Go.RowKit Go.Deep It
set_option maxRecDepth 100000
theorem Sp.linkE_no {C : List Ino → Int} {L : List Ino} {a b c d st e : Int} {s : ByteArray} (h : Sp.linkErr C L a b c d s st = e) (h0 : e ≠ 0) : Sp.linkE C L a b c d s st = e ∧ Sp.linkT C L a b c d s st = [] := by
  have h1 : Sp.linkE C L a b c d s st = e := by unfold Sp.linkE; rw [if_neg (by rw [h]; exact h0), h]
  exact ⟨h1, by unfold Sp.linkT; rw [if_neg (by rw [h1]; exact h0)]⟩
theorem find_names {L : List Ino} (hr : It.right L = true) (a b : Int) : (names L a b = true ∧ findErr L a b = 0) ∨ (names L a b = false ∧ findErr L a b = 401) := by
  unfold findErr
  rw [if_pos hr]
  cases h : names L a b with
  | true => exact .inl ⟨rfl, by simp⟩
  | false => exact .inr ⟨rfl, by simp⟩
set_option maxHeartbeats 4000000 in
theorem rlink_any {R : List Ino → Bool} (hR : RtSaid R) (hM : Sp.ChkMeans (Sp.chk R)) {S : Nat → Prop} (v : Value) (L : List Rw) (a b c d : Int) (s : ByteArray) (st : Int) (w : World) (hv : TabAt S w v L) (hok : Sp.okN L) (hs : s.size ≤ maxLen) :
    Calls Tryz.prog 21 #[v, .agg #[.int .i64 a, .int .i64 b], .agg #[.int .i64 c, .int .i64 d], .string s, .int .i64 st] w fun e w' =>
      ∃ u L', e = .returned (.tuple #[u, .int .i64 (Sp.linkE (Sp.chk R) (pl L) a b c d s st)]) ∧ TabW w' u L' ∧ pl L' = Sp.linkT (Sp.chk R) (pl L) a b c d s st ∧ Below w.heap.size w w' := by
  obtain ⟨W, hW⟩ : ∃ W, W = (w.alloc (BH a b)).alloc (BH c d) := ⟨_, rfl⟩
  have HB0 : Hid (Below w.heap.size w W) := by show Below w.heap.size w W; rw [hW]; exact ((Below.refl _ w).alloc (Nat.le_refl _) _).alloc (by simp) _
  have HA0 : Hid (W.heap[w.heap.size]? = some (BH a b) ∧ W.heap[w.heap.size + 1]? = some (BH c d)) := by
    rw [hW]
    refine ⟨(Below.heap_alloc _ _ _ (by simp)).trans (heap_alloc_new _ _), ?_⟩
    have := heap_alloc_new (w.alloc (BH a b)) (BH c d)
    rwa [show (w.alloc (BH a b)).heap.size = w.heap.size + 1 by simp] at this
  have hws0 : w.heap.size + 1 < W.heap.size := by rw [hW]; simp
  have HV : Hid (TabAt S W v L) := hv.up HB0.out
  have HVW : Hid (∀ V, Below w.heap.size w V → TabAt S V v L) := fun V h => hv.up h
  obtain ⟨ao, cap, rfl, hm, hx⟩ := hv.open
  have HOK : Hid (Sp.okN L) := hok
  have HSM : Hid (s.size ≤ maxLen) := hs
  have HRR : Hid (RtSaid R) := hR
  clear hv hok hs hR
  by_cases hse : Sp.stErr (Sp.chk R) (pl L) st = 0
  · have HSE : Hid (Sp.stErr (Sp.chk R) (pl L) st = 0) := hse
    obtain ⟨hc0, hst1, hst2⟩ := Sp.stErr_zero hse
    obtain ⟨hr, -, hlen, -⟩ := hM _ hc0
    have HRT : Hid (It.right (pl L) = true) := hr
    rcases find_names hr a b with ⟨hnm, hf⟩ | ⟨hnm, hf⟩
    · have HNM : Hid (names (pl L) a b = true) := hnm
      obtain ⟨ka, xa, rfl, hxa, hga, hka, hia, -⟩ := Sp.find_get hf
      obtain ⟨ya, hya, rfl⟩ := Sp.pl_some hxa
      obtain ⟨⟨bb, off, rfl, hB, hc8⟩, hgd⟩ := hx ka ya hya
      have HX8 : Hid (∀ V, Below w.heap.size w V → eight V bb (off + ka * 8) ya) := fun V h => hc8.below h hB
      have hkl : (ka : Int) < (L.length : Int) := by have := (List.getElem?_eq_some_iff.1 hya).1; omega
      have hL24 : L.length ≤ 24 := by have := (Sp.right_len hr).2; rw [List.length_map] at this; exact this
      by_cases hk2 : ya.i.kind = 2
      · obtain ⟨hE, hT⟩ := Sp.linkE_no (e := 405) (show Sp.linkErr (Sp.chk R) (pl L) ka b c d s st = 405 by unfold Sp.linkErr; rw [if_pos hse, if_pos hf, hia, if_pos hk2]) (by decide)
        rw [hE, hT]
        have HK2 : Hid (ya.i.kind = 2) := hk2
        clear hE hT hM hse hc0 hst1 hst2 hlen hr hf hnm hxa hga hka hia hya hc8 hgd hk2 hx
        go_enter Tryz.func21, Tryz.ntmps21
        go_wp2_with fail
        rw [← hW]
        refine (rasked_any HRR.out _ L st _ HV.out HOK.out).mono ?_
        rintro e w1 ⟨rfl, hb1⟩
        rw [HSE.out]
        have HB1 : Hid (Below w.heap.size w w1) := HB0.out.trans (hb1.mono HB0.out.size)
        have HA1 : Hid (w1.heap[w.heap.size]? = some (BH ka b) ∧ w1.heap[w.heap.size + 1]? = some (BH c d)) := ⟨(hb1.block _ (by omega)).trans HA0.out.1, (hb1.block _ hws0).trans HA0.out.2⟩
        have hws1 : w.heap.size + 1 < w1.heap.size := (Array.getElem?_eq_some_iff.1 HA1.out.2).1
        clear hb1
        clear hW
        obtain ⟨⟨a0, a1⟩, _⟩ := two_of HA1.out.1
        go_wp2_with fail
        clear a0 a1
        refine (rnames_any _ L ka b _ (HVW.out _ HB1.out)).mono ?_
        rintro e w2 ⟨rfl, hb2⟩
        rw [HNM.out]
        have HB2 : Hid (Below w.heap.size w w2) := HB1.out.trans (hb2.mono HB1.out.size)
        have HA2 : Hid (w2.heap[w.heap.size]? = some (BH ka b) ∧ w2.heap[w.heap.size + 1]? = some (BH c d)) := ⟨(hb2.block _ (by omega)).trans HA1.out.1, (hb2.block _ hws1).trans HA1.out.2⟩
        have hws2 : w.heap.size + 1 < w2.heap.size := (Array.getElem?_eq_some_iff.1 HA2.out.2).1
        clear hb2
        obtain ⟨⟨a0, a1⟩, _⟩ := two_of HA2.out.1
        obtain ⟨r0, r1, r2, r3, r4, r5, r6, r7⟩ := HX8.out _ HB2.out
        rw [HK2.out] at r1
        go_wp2
        (try simp only [Exit.inBlock, Exit.then])
        refine bodyPost_ret (v := .tuple #[.slice none 0 0, .int .i64 405]) (by simp [results, Tryz.results21, go_sem]) rfl ?_
        first
          | exact ⟨_, rfl, [], tab_nil _ _, rfl, HB2.out⟩
          | exact ⟨_, [], rfl, tab_nil _ _, rfl, HB2.out⟩
      · have hap := At.right_iff.1 (Sp.attr_of hr (List.mem_of_getElem? hxa))
        unfold At.rightP at hap
        have hka1 : ya.i.kind = 1 := by omega
        have HK1 : Hid (ya.i.kind = 1) := hka1
        obtain ⟨ne, hne⟩ : ∃ ne, Sp.nameErr (pl L) c d s = ne := ⟨_, rfl⟩
        have HNE : Hid (Sp.nameErr (pl L) c d s = ne) := hne
        by_cases hn0 : ne = 0
        · subst hn0
          by_cases hl64 : ya.i.links = 64
          · obtain ⟨hE, hT⟩ := Sp.linkE_no (e := 407) (show Sp.linkErr (Sp.chk R) (pl L) ka b c d s st = 407 by unfold Sp.linkErr; rw [if_pos hse, if_pos hf, hia, if_neg hk2, if_pos hne, if_pos hl64]) (by decide)
            rw [hE, hT]
            have HL64 : Hid (ya.i.links = 64) := hl64
            clear hE hT hM hse hc0 hst1 hst2 hlen hr hf hnm hxa hga hka hia hya hc8 hgd hk2 hx hap hka1 hne hl64
            go_enter Tryz.func21, Tryz.ntmps21
            go_wp2_with fail
            rw [← hW]
            refine (rasked_any HRR.out _ L st _ HV.out HOK.out).mono ?_
            rintro e w1 ⟨rfl, hb1⟩
            rw [HSE.out]
            have HB1 : Hid (Below w.heap.size w w1) := HB0.out.trans (hb1.mono HB0.out.size)
            have HA1 : Hid (w1.heap[w.heap.size]? = some (BH ka b) ∧ w1.heap[w.heap.size + 1]? = some (BH c d)) := ⟨(hb1.block _ (by omega)).trans HA0.out.1, (hb1.block _ hws0).trans HA0.out.2⟩
            have hws1 : w.heap.size + 1 < w1.heap.size := (Array.getElem?_eq_some_iff.1 HA1.out.2).1
            clear hb1
            clear hW
            obtain ⟨⟨a0, a1⟩, _⟩ := two_of HA1.out.1
            go_wp2_with fail
            clear a0 a1
            refine (rnames_any _ L ka b _ (HVW.out _ HB1.out)).mono ?_
            rintro e w2 ⟨rfl, hb2⟩
            rw [HNM.out]
            have HB2 : Hid (Below w.heap.size w w2) := HB1.out.trans (hb2.mono HB1.out.size)
            have HA2 : Hid (w2.heap[w.heap.size]? = some (BH ka b) ∧ w2.heap[w.heap.size + 1]? = some (BH c d)) := ⟨(hb2.block _ (by omega)).trans HA1.out.1, (hb2.block _ hws1).trans HA1.out.2⟩
            have hws2 : w.heap.size + 1 < w2.heap.size := (Array.getElem?_eq_some_iff.1 HA2.out.2).1
            clear hb2
            obtain ⟨⟨a0, a1⟩, _⟩ := two_of HA2.out.1
            obtain ⟨r0, r1, r2, r3, r4, r5, r6, r7⟩ := HX8.out _ HB2.out
            rw [HK1.out] at r1
            obtain ⟨⟨g0, g1⟩, _⟩ := two_of HA2.out.2
            go_wp2_with fail
            clear g0 g1 a0 a1 r0 r1 r2 r3 r4 r5 r6 r7
            refine (rfree_any _ L c d s _ (HVW.out _ HB2.out) HOK.out HSM.out HRT.out).mono ?_
            rintro e w3 ⟨rfl, hb3⟩
            rw [HNE.out]
            have HB3 : Hid (Below w.heap.size w w3) := HB2.out.trans (hb3.mono HB2.out.size)
            have HA3 : Hid (w3.heap[w.heap.size]? = some (BH ka b) ∧ w3.heap[w.heap.size + 1]? = some (BH c d)) := ⟨(hb3.block _ (by omega)).trans HA2.out.1, (hb3.block _ hws2).trans HA2.out.2⟩
            have hws3 : w.heap.size + 1 < w3.heap.size := (Array.getElem?_eq_some_iff.1 HA3.out.2).1
            clear hb3
            obtain ⟨⟨a0, a1⟩, _⟩ := two_of HA3.out.1
            obtain ⟨r0, r1, r2, r3, r4, r5, r6, r7⟩ := HX8.out _ HB3.out
            rw [HL64.out] at r2
            go_wp2
            (try simp only [Exit.inBlock, Exit.then])
            refine bodyPost_ret (v := .tuple #[.slice none 0 0, .int .i64 407]) (by simp [results, Tryz.results21, go_sem]) rfl ?_
            first
              | exact ⟨_, rfl, [], tab_nil _ _, rfl, HB3.out⟩
              | exact ⟨_, [], rfl, tab_nil _ _, rfl, HB3.out⟩
          · obtain ⟨kc, xc, rfl, hxc, hgc, hkc, hde, hdn, hfc, -⟩ := Sp.dir_get (Sp.nameErr_zero hne).1
            obtain ⟨yc, hyc, rfl⟩ := Sp.pl_some hxc
            have hLE : Sp.linkErr (Sp.chk R) (pl L) ka b kc d s st = 0 := by unfold Sp.linkErr; rw [if_pos hse, if_pos hf, hia, if_neg hk2, if_pos hne, if_neg hl64]
            have hE : Sp.linkE (Sp.chk R) (pl L) ka b kc d s st = Fo.addErr yc.i.ents yc.i.next s ka b := by unfold Sp.linkE; rw [if_pos hLE, hde, hdn]
            have hicd : findI (pl L) kc d = yc.i := by
              obtain ⟨k', x', h1, h2, -, -, h3, -⟩ := Sp.find_get hfc
              obtain rfl : kc = k' := by omega
              rw [hxc] at h2
              rw [h3]
              exact (Option.some.inj h2).symm
            have hlenc := hlen yc.i (List.mem_of_getElem? hxc)
            have hnk : kc ≠ ka := by
              intro h
              subst h
              rw [hxa] at hxc
              have := Option.some.inj hxc
              rw [this] at hka1
              omega
            have HYC : Hid (L[kc]? = some yc ∧ (∀ e ∈ yc.i.ents, e.1.size ≤ maxLen) ∧ (pl L)[ka]? = some ya.i ∧ kc ≠ ka) := ⟨hyc, HOK.out yc (List.mem_of_getElem? hyc), hxa, hnk⟩
            have hlk : 0 ≤ ya.i.links ∧ ya.i.links ≤ 64 := by omega
            by_cases hae : Fo.addErr yc.i.ents yc.i.next s ka b = 0
            · have hT : Sp.linkT (Sp.chk R) (pl L) ka b kc d s st = ((pl L).set kc (Sp.filled yc.i (yc.i.ents ++ [(s, yc.i.next + 1, (ka : Int), b)]) (yc.i.next + 1) st)).set ka (Sp.linked ya.i 1 st) := by
                unfold Sp.linkT
                rw [hE, if_pos hae, hicd, hia]
                rfl
              rw [hE, hT, hae]
              have HAE : Hid (Fo.addErr yc.i.ents yc.i.next s ka b = 0) := hae
              clear hE hT hM hse hc0 hst1 hst2 hlen hr hf hnm hxa hga hka hia hya hc8 hgd hk2 hx hap hka1 hne hxc hgc hkc hde hdn hfc hyc hLE hicd hnk hae
              go_enter Tryz.func21, Tryz.ntmps21
              go_wp2_with fail
              rw [← hW]
              refine (rasked_any HRR.out _ L st _ HV.out HOK.out).mono ?_
              rintro e w1 ⟨rfl, hb1⟩
              rw [HSE.out]
              have HB1 : Hid (Below w.heap.size w w1) := HB0.out.trans (hb1.mono HB0.out.size)
              have HA1 : Hid (w1.heap[w.heap.size]? = some (BH ka b) ∧ w1.heap[w.heap.size + 1]? = some (BH kc d)) := ⟨(hb1.block _ (by omega)).trans HA0.out.1, (hb1.block _ hws0).trans HA0.out.2⟩
              have hws1 : w.heap.size + 1 < w1.heap.size := (Array.getElem?_eq_some_iff.1 HA1.out.2).1
              clear hb1
              clear hW
              obtain ⟨⟨a0, a1⟩, _⟩ := two_of HA1.out.1
              go_wp2_with fail
              clear a0 a1
              refine (rnames_any _ L ka b _ (HVW.out _ HB1.out)).mono ?_
              rintro e w2 ⟨rfl, hb2⟩
              rw [HNM.out]
              have HB2 : Hid (Below w.heap.size w w2) := HB1.out.trans (hb2.mono HB1.out.size)
              have HA2 : Hid (w2.heap[w.heap.size]? = some (BH ka b) ∧ w2.heap[w.heap.size + 1]? = some (BH kc d)) := ⟨(hb2.block _ (by omega)).trans HA1.out.1, (hb2.block _ hws1).trans HA1.out.2⟩
              have hws2 : w.heap.size + 1 < w2.heap.size := (Array.getElem?_eq_some_iff.1 HA2.out.2).1
              clear hb2
              obtain ⟨⟨a0, a1⟩, _⟩ := two_of HA2.out.1
              obtain ⟨r0, r1, r2, r3, r4, r5, r6, r7⟩ := HX8.out _ HB2.out
              rw [HK1.out] at r1
              obtain ⟨⟨g0, g1⟩, _⟩ := two_of HA2.out.2
              go_wp2_with fail
              clear g0 g1 a0 a1 r0 r1 r2 r3 r4 r5 r6 r7
              refine (rfree_any _ L kc d s _ (HVW.out _ HB2.out) HOK.out HSM.out HRT.out).mono ?_
              rintro e w3 ⟨rfl, hb3⟩
              rw [HNE.out]
              have HB3 : Hid (Below w.heap.size w w3) := HB2.out.trans (hb3.mono HB2.out.size)
              have HA3 : Hid (w3.heap[w.heap.size]? = some (BH ka b) ∧ w3.heap[w.heap.size + 1]? = some (BH kc d)) := ⟨(hb3.block _ (by omega)).trans HA2.out.1, (hb3.block _ hws2).trans HA2.out.2⟩
              have hws3 : w.heap.size + 1 < w3.heap.size := (Array.getElem?_eq_some_iff.1 HA3.out.2).1
              clear hb3
              obtain ⟨⟨a0, a1⟩, _⟩ := two_of HA3.out.1
              obtain ⟨r0, r1, r2, r3, r4, r5, r6, r7⟩ := HX8.out _ HB3.out
              obtain ⟨⟨g0, g1⟩, _⟩ := two_of HA3.out.2
              go_wp2_with fail
              clear a0 a1 g0 g1 r0 r1 r2 r3 r4 r5 r6 r7
              refine (rmore_any _ L kc ka b st s yc _ (HVW.out _ HB3.out) HYC.out.1 HYC.out.2.1 HSM.out HAE.out (by omega) (by omega)).mono ?_
              rintro e w5 ⟨g5, cap5, L5, rfl, hcp, hp5, hb5⟩
              have HB5 : Hid (Below w.heap.size w w5) := HB3.out.trans (hb5.mono HB3.out.size)
              have HA5 : Hid (w5.heap[w.heap.size]? = some (BH ka b)) := (hb5.block _ (by omega)).trans HA3.out.1
              obtain ⟨y5, hy5, hyi⟩ := Sp.pl_some (L := L5) (k := ka) (x := ya.i) (by rw [hp5, List.getElem?_set_ne HYC.out.2.2.2]; exact HYC.out.2.2.1)
              obtain ⟨⟨t0, t1, t2, t3, t4, t5, t6, t7⟩, tf, tl, -, hBg⟩ := hcp.cells hy5
              rw [hyi] at t2 t4
              obtain ⟨⟨e0, e1⟩, _⟩ := two_of HA5.out
              have hgn : w.heap.size ≠ g5 := by omega
              have HC5 : Hid (Cp (fun b => S b ∨ w3.heap.size ≤ b) w3.heap.size w5 g5 L.length cap5 L5) := hcp
              have HP5 : Hid (pl L5 = (pl L).set kc (Sp.filled yc.i (yc.i.ents ++ [(s, yc.i.next + 1, (ka : Int), b)]) (yc.i.next + 1) st)) := hp5
              have HY5 : Hid (L5[ka]? = some y5 ∧ y5.i = ya.i) := ⟨hy5, hyi⟩
              have hwg : w.heap.size ≤ g5 := by omega
              clear hb5 hcp hp5 hy5 hyi t0 t1 t3 t5 t6 t7
              go_wp2_with fail
              go_region
              all_goals
                go_wp2
                obtain ⟨L', hL', hp'⟩ := HC5.out.two HY5.out.1 (ya.i.links + 1) st
                rw [HP5.out, HY5.out.2] at hp'
                have hbe := HB5.out
                have hbl : Below w.heap.size w ((w5.setCell ⟨g5, ka * 8 + 1 + 1, none⟩ (.int .i64 (ya.i.links + 1))).setCell ⟨g5, ka * 8 + 1 + 3, none⟩ (.int .i64 st)) := by
                  (repeat (with_reducible refine Below.setCell ?_ (by exact hwg) _)); exact hbe
                (try simp only [Exit.inBlock, Exit.then])
                refine bodyPost_ret (v := .tuple #[.slice (some ⟨g5, 0, none⟩) L.length cap5, .int .i64 0]) (by simp [results, Tryz.results21, go_sem]) rfl ?_
                first
                  | exact ⟨_, rfl, L', tab_drew hL'.tab, hp', bel_drew hbl⟩
                  | exact ⟨_, L', rfl, tab_drew hL'.tab, hp', bel_drew hbl⟩
            · have hT : Sp.linkT (Sp.chk R) (pl L) ka b kc d s st = [] := by unfold Sp.linkT; rw [hE, if_neg hae]
              obtain ⟨ae, hae2⟩ : ∃ ae, Fo.addErr yc.i.ents yc.i.next s ka b = ae := ⟨_, rfl⟩
              have HAE : Hid (Fo.addErr yc.i.ents yc.i.next s ka b = ae ∧ ¬ Fo.addErr yc.i.ents yc.i.next s ka b = 0) := ⟨hae2, hae⟩
              rw [hE, hT, hae2]
              rw [hae2] at hae
              have hz' : (ae != 0) = true := by simpa using hae
              clear hE hT hM hse hc0 hst1 hst2 hlen hr hf hnm hxa hga hka hia hya hc8 hgd hk2 hx hap hka1 hne hxc hgc hkc hde hdn hfc hyc hLE hicd hnk hae hae2
              go_enter Tryz.func21, Tryz.ntmps21
              go_wp2_with fail
              rw [← hW]
              refine (rasked_any HRR.out _ L st _ HV.out HOK.out).mono ?_
              rintro e w1 ⟨rfl, hb1⟩
              rw [HSE.out]
              have HB1 : Hid (Below w.heap.size w w1) := HB0.out.trans (hb1.mono HB0.out.size)
              have HA1 : Hid (w1.heap[w.heap.size]? = some (BH ka b) ∧ w1.heap[w.heap.size + 1]? = some (BH kc d)) := ⟨(hb1.block _ (by omega)).trans HA0.out.1, (hb1.block _ hws0).trans HA0.out.2⟩
              have hws1 : w.heap.size + 1 < w1.heap.size := (Array.getElem?_eq_some_iff.1 HA1.out.2).1
              clear hb1
              clear hW
              obtain ⟨⟨a0, a1⟩, _⟩ := two_of HA1.out.1
              go_wp2_with fail
              clear a0 a1
              refine (rnames_any _ L ka b _ (HVW.out _ HB1.out)).mono ?_
              rintro e w2 ⟨rfl, hb2⟩
              rw [HNM.out]
              have HB2 : Hid (Below w.heap.size w w2) := HB1.out.trans (hb2.mono HB1.out.size)
              have HA2 : Hid (w2.heap[w.heap.size]? = some (BH ka b) ∧ w2.heap[w.heap.size + 1]? = some (BH kc d)) := ⟨(hb2.block _ (by omega)).trans HA1.out.1, (hb2.block _ hws1).trans HA1.out.2⟩
              have hws2 : w.heap.size + 1 < w2.heap.size := (Array.getElem?_eq_some_iff.1 HA2.out.2).1
              clear hb2
              obtain ⟨⟨a0, a1⟩, _⟩ := two_of HA2.out.1
              obtain ⟨r0, r1, r2, r3, r4, r5, r6, r7⟩ := HX8.out _ HB2.out
              rw [HK1.out] at r1
              obtain ⟨⟨g0, g1⟩, _⟩ := two_of HA2.out.2
              go_wp2_with fail
              clear g0 g1 a0 a1 r0 r1 r2 r3 r4 r5 r6 r7
              refine (rfree_any _ L kc d s _ (HVW.out _ HB2.out) HOK.out HSM.out HRT.out).mono ?_
              rintro e w3 ⟨rfl, hb3⟩
              rw [HNE.out]
              have HB3 : Hid (Below w.heap.size w w3) := HB2.out.trans (hb3.mono HB2.out.size)
              have HA3 : Hid (w3.heap[w.heap.size]? = some (BH ka b) ∧ w3.heap[w.heap.size + 1]? = some (BH kc d)) := ⟨(hb3.block _ (by omega)).trans HA2.out.1, (hb3.block _ hws2).trans HA2.out.2⟩
              have hws3 : w.heap.size + 1 < w3.heap.size := (Array.getElem?_eq_some_iff.1 HA3.out.2).1
              clear hb3
              obtain ⟨⟨a0, a1⟩, _⟩ := two_of HA3.out.1
              obtain ⟨r0, r1, r2, r3, r4, r5, r6, r7⟩ := HX8.out _ HB3.out
              obtain ⟨⟨g0, g1⟩, _⟩ := two_of HA3.out.2
              go_wp2_with fail
              clear a0 a1 g0 g1 r0 r1 r2 r3 r4 r5 r6 r7
              refine (rmore_no _ L kc ka b st s yc _ (HVW.out _ HB3.out) HYC.out.1 HYC.out.2.1 HSM.out HAE.out.2).mono ?_
              rintro e w5 ⟨rfl, hb5⟩
              rw [HAE.out.1]
              have HB5 : Hid (Below w.heap.size w w5) := HB3.out.trans (hb5.mono HB3.out.size)
              clear hb5
              go_wp2
              (try simp only [Exit.inBlock, Exit.then])
              refine bodyPost_ret (v := .tuple #[.slice none 0 0, .int .i64 ae]) (by simp [results, Tryz.results21, go_sem]) rfl ?_
              first
                | exact ⟨_, rfl, [], tab_nil _ _, rfl, HB5.out⟩
                | exact ⟨_, [], rfl, tab_nil _ _, rfl, HB5.out⟩
        · obtain ⟨hE, hT⟩ := Sp.linkE_no (e := ne) (show Sp.linkErr (Sp.chk R) (pl L) ka b c d s st = ne by unfold Sp.linkErr; rw [if_pos hse, if_pos hf, hia, if_neg hk2, if_neg (by rw [hne]; exact hn0), hne]) hn0
          rw [hE, hT]
          have hz' : (ne != 0) = true := by simpa using hn0
          clear hE hT hM hse hc0 hst1 hst2 hlen hr hf hnm hxa hga hka hia hya hc8 hgd hk2 hx hap hka1 hne hn0
          go_enter Tryz.func21, Tryz.ntmps21
          go_wp2_with fail
          rw [← hW]
          refine (rasked_any HRR.out _ L st _ HV.out HOK.out).mono ?_
          rintro e w1 ⟨rfl, hb1⟩
          rw [HSE.out]
          have HB1 : Hid (Below w.heap.size w w1) := HB0.out.trans (hb1.mono HB0.out.size)
          have HA1 : Hid (w1.heap[w.heap.size]? = some (BH ka b) ∧ w1.heap[w.heap.size + 1]? = some (BH c d)) := ⟨(hb1.block _ (by omega)).trans HA0.out.1, (hb1.block _ hws0).trans HA0.out.2⟩
          have hws1 : w.heap.size + 1 < w1.heap.size := (Array.getElem?_eq_some_iff.1 HA1.out.2).1
          clear hb1
          clear hW
          obtain ⟨⟨a0, a1⟩, _⟩ := two_of HA1.out.1
          go_wp2_with fail
          clear a0 a1
          refine (rnames_any _ L ka b _ (HVW.out _ HB1.out)).mono ?_
          rintro e w2 ⟨rfl, hb2⟩
          rw [HNM.out]
          have HB2 : Hid (Below w.heap.size w w2) := HB1.out.trans (hb2.mono HB1.out.size)
          have HA2 : Hid (w2.heap[w.heap.size]? = some (BH ka b) ∧ w2.heap[w.heap.size + 1]? = some (BH c d)) := ⟨(hb2.block _ (by omega)).trans HA1.out.1, (hb2.block _ hws1).trans HA1.out.2⟩
          have hws2 : w.heap.size + 1 < w2.heap.size := (Array.getElem?_eq_some_iff.1 HA2.out.2).1
          clear hb2
          obtain ⟨⟨a0, a1⟩, _⟩ := two_of HA2.out.1
          obtain ⟨r0, r1, r2, r3, r4, r5, r6, r7⟩ := HX8.out _ HB2.out
          rw [HK1.out] at r1
          obtain ⟨⟨g0, g1⟩, _⟩ := two_of HA2.out.2
          go_wp2_with fail
          clear g0 g1 a0 a1 r0 r1 r2 r3 r4 r5 r6 r7
          refine (rfree_any _ L c d s _ (HVW.out _ HB2.out) HOK.out HSM.out HRT.out).mono ?_
          rintro e w3 ⟨rfl, hb3⟩
          rw [HNE.out]
          have HB3 : Hid (Below w.heap.size w w3) := HB2.out.trans (hb3.mono HB2.out.size)
          have HA3 : Hid (w3.heap[w.heap.size]? = some (BH ka b) ∧ w3.heap[w.heap.size + 1]? = some (BH c d)) := ⟨(hb3.block _ (by omega)).trans HA2.out.1, (hb3.block _ hws2).trans HA2.out.2⟩
          have hws3 : w.heap.size + 1 < w3.heap.size := (Array.getElem?_eq_some_iff.1 HA3.out.2).1
          clear hb3
          obtain ⟨⟨a0, a1⟩, _⟩ := two_of HA3.out.1
          obtain ⟨r0, r1, r2, r3, r4, r5, r6, r7⟩ := HX8.out _ HB3.out
          go_wp2
          (try simp only [Exit.inBlock, Exit.then])
          refine bodyPost_ret (v := .tuple #[.slice none 0 0, .int .i64 ne]) (by simp [results, Tryz.results21, go_sem]) rfl ?_
          first
            | exact ⟨_, rfl, [], tab_nil _ _, rfl, HB3.out⟩
            | exact ⟨_, [], rfl, tab_nil _ _, rfl, HB3.out⟩
    · obtain ⟨hE, hT⟩ := Sp.linkE_no (e := 401) (show Sp.linkErr (Sp.chk R) (pl L) a b c d s st = 401 by unfold Sp.linkErr; rw [if_pos hse, if_neg (by rw [hf]; decide), hf]) (by decide)
      rw [hE, hT]
      have HNM : Hid (names (pl L) a b = false) := hnm
      clear hE hT hM hse hc0 hst1 hst2 hlen hr hf hnm hx
      go_enter Tryz.func21, Tryz.ntmps21
      go_wp2_with fail
      rw [← hW]
      refine (rasked_any HRR.out _ L st _ HV.out HOK.out).mono ?_
      rintro e w1 ⟨rfl, hb1⟩
      rw [HSE.out]
      have HB1 : Hid (Below w.heap.size w w1) := HB0.out.trans (hb1.mono HB0.out.size)
      have HA1 : Hid (w1.heap[w.heap.size]? = some (BH a b) ∧ w1.heap[w.heap.size + 1]? = some (BH c d)) := ⟨(hb1.block _ (by omega)).trans HA0.out.1, (hb1.block _ hws0).trans HA0.out.2⟩
      have hws1 : w.heap.size + 1 < w1.heap.size := (Array.getElem?_eq_some_iff.1 HA1.out.2).1
      clear hb1
      clear hW
      obtain ⟨⟨a0, a1⟩, _⟩ := two_of HA1.out.1
      go_wp2_with fail
      clear a0 a1
      refine (rnames_any _ L a b _ (HVW.out _ HB1.out)).mono ?_
      rintro e w2 ⟨rfl, hb2⟩
      rw [HNM.out]
      have HB2 : Hid (Below w.heap.size w w2) := HB1.out.trans (hb2.mono HB1.out.size)
      have HA2 : Hid (w2.heap[w.heap.size]? = some (BH a b) ∧ w2.heap[w.heap.size + 1]? = some (BH c d)) := ⟨(hb2.block _ (by omega)).trans HA1.out.1, (hb2.block _ hws1).trans HA1.out.2⟩
      have hws2 : w.heap.size + 1 < w2.heap.size := (Array.getElem?_eq_some_iff.1 HA2.out.2).1
      clear hb2
      obtain ⟨⟨a0, a1⟩, _⟩ := two_of HA2.out.1
      go_wp2
      (try simp only [Exit.inBlock, Exit.then])
      refine bodyPost_ret (v := .tuple #[.slice none 0 0, .int .i64 401]) (by simp [results, Tryz.results21, go_sem]) rfl ?_
      first
        | exact ⟨_, rfl, [], tab_nil _ _, rfl, HB2.out⟩
        | exact ⟨_, [], rfl, tab_nil _ _, rfl, HB2.out⟩
  · obtain ⟨se, hse'⟩ : ∃ se, Sp.stErr (Sp.chk R) (pl L) st = se := ⟨_, rfl⟩
    have HSE : Hid (Sp.stErr (Sp.chk R) (pl L) st = se) := hse'
    obtain ⟨hE, hT⟩ := Sp.linkE_no (e := se) (show Sp.linkErr (Sp.chk R) (pl L) a b c d s st = se by unfold Sp.linkErr; rw [if_neg hse, hse']) (by rw [← hse']; exact hse)
    rw [hE, hT]
    rw [hse'] at hse
    have hz' : (se != 0) = true := by simpa using hse
    clear hE hT hM hx hse hse'
    go_enter Tryz.func21, Tryz.ntmps21
    go_wp2_with fail
    rw [← hW]
    refine (rasked_any HRR.out _ L st _ HV.out HOK.out).mono ?_
    rintro e w1 ⟨rfl, hb1⟩
    rw [HSE.out]
    have HB1 : Hid (Below w.heap.size w w1) := HB0.out.trans (hb1.mono HB0.out.size)
    have HA1 : Hid (w1.heap[w.heap.size]? = some (BH a b) ∧ w1.heap[w.heap.size + 1]? = some (BH c d)) := ⟨(hb1.block _ (by omega)).trans HA0.out.1, (hb1.block _ hws0).trans HA0.out.2⟩
    have hws1 : w.heap.size + 1 < w1.heap.size := (Array.getElem?_eq_some_iff.1 HA1.out.2).1
    clear hb1
    clear hW
    go_wp2
    (try simp only [Exit.inBlock, Exit.then])
    refine bodyPost_ret (v := .tuple #[.slice none 0 0, .int .i64 se]) (by simp [results, Tryz.results21, go_sem]) rfl ?_
    first
      | exact ⟨_, rfl, [], tab_nil _ _, rfl, HB1.out⟩
      | exact ⟨_, [], rfl, tab_nil _ _, rfl, HB1.out⟩
end Go.Proofs.YtacghcoikekfeaaGreat
