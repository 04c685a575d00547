/-
  The texts SRef11, Sp18, Sp19, RefB, RefM, as one.
-/
import Derived.Test.YtacghcoikekfeaaGreatM10
/- SRef11 -/
namespace Go.Proofs.YtacghcoikekfeaaGreat
open Go.ChangeShapes Go.WideShapes Go.ChangeAt Go.RowKit Go.Deep It
set_option maxRecDepth 100000
theorem Sp.linkE_no {C : List Ino → Int} {L : List Ino} {a b c d st e : Int} {s : ByteArray} (h : Sp.linkErr C L a b c d s st = e) (h0 : e ≠ 0) : Sp.linkE C L a b c d s st = e ∧ Sp.linkT C L a b c d s st = [] := by
  have h1 : Sp.linkE C L a b c d s st = e := by unfold Sp.linkE; rw [if_neg (by rw [h]; exact h0), h]
  exact ⟨h1, by unfold Sp.linkT; rw [if_neg (by rw [h1]; exact h0)]⟩
theorem find_names {L : List Ino} (hr : It.right L = true) (a b : Int) : (names L a b = true ∧ findErr L a b = 0) ∨ (names L a b = false ∧ findErr L a b = 401) := by
  unfold findErr
  rw [if_pos hr]
  cases h : names L a b with
  | true => exact .inl ⟨rfl, by simp⟩
  | false => exact .inr ⟨rfl, by simp⟩
set_option maxHeartbeats 4000000 in
theorem rlink_any {R : List Ino → Bool} (hR : RtSaid R) (hM : Sp.ChkMeans (Sp.chk R)) {S : Nat → Prop} (v : Value) (L : List Rw) (a b c d : Int) (s : ByteArray) (st : Int) (w : World) (hv : TabAt S w v L) (hok : Sp.okN L) (hs : s.size ≤ maxLen) :
    Calls Tryz.prog 21 #[v, .agg #[.int .i64 a, .int .i64 b], .agg #[.int .i64 c, .int .i64 d], .string s, .int .i64 st] w fun e w' =>
      ∃ u L', e = .returned (.tuple #[u, .int .i64 (Sp.linkE (Sp.chk R) (pl L) a b c d s st)]) ∧ TabW w' u L' ∧ pl L' = Sp.linkT (Sp.chk R) (pl L) a b c d s st ∧ Below w.heap.size w w' := by
  obtain ⟨W, hW⟩ : ∃ W, W = (w.alloc (BH a b)).alloc (BH c d) := ⟨_, rfl⟩
  have HB0 : Hid (Below w.heap.size w W) := by show Below w.heap.size w W; rw [hW]; exact ((Below.refl _ w).alloc (Nat.le_refl _) _).alloc (by simp) _
  have HA0 : Hid (W.heap[w.heap.size]? = some (BH a b) ∧ W.heap[w.heap.size + 1]? = some (BH c d)) := by
    rw [hW]
    refine ⟨(Below.heap_alloc _ _ _ (by simp)).trans (heap_alloc_new _ _), ?_⟩
    have := heap_alloc_new (w.alloc (BH a b)) (BH c d)
    rwa [show (w.alloc (BH a b)).heap.size = w.heap.size + 1 by simp] at this
  have hws0 : w.heap.size + 1 < W.heap.size := by rw [hW]; simp
  have HV : Hid (TabAt S W v L) := hv.up HB0.out
  have HVW : Hid (∀ V, Below w.heap.size w V → TabAt S V v L) := fun V h => hv.up h
  obtain ⟨ao, cap, rfl, hm, hx⟩ := hv.open
  have HOK : Hid (Sp.okN L) := hok
  have HSM : Hid (s.size ≤ maxLen) := hs
  have HRR : Hid (RtSaid R) := hR
  clear hv hok hs hR
  by_cases hse : Sp.stErr (Sp.chk R) (pl L) st = 0
  · have HSE : Hid (Sp.stErr (Sp.chk R) (pl L) st = 0) := hse
    obtain ⟨hc0, hst1, hst2⟩ := Sp.stErr_zero hse
    obtain ⟨hr, -, hlen, -⟩ := hM _ hc0
    have HRT : Hid (It.right (pl L) = true) := hr
    rcases find_names hr a b with ⟨hnm, hf⟩ | ⟨hnm, hf⟩
    · have HNM : Hid (names (pl L) a b = true) := hnm
      obtain ⟨ka, xa, rfl, hxa, hga, hka, hia, -⟩ := Sp.find_get hf
      obtain ⟨ya, hya, rfl⟩ := Sp.pl_some hxa
      obtain ⟨⟨bb, off, rfl, hB, hc8⟩, hgd⟩ := hx ka ya hya
      have HX8 : Hid (∀ V, Below w.heap.size w V → eight V bb (off + ka * 8) ya) := fun V h => hc8.below h hB
      have hkl : (ka : Int) < (L.length : Int) := by have := (List.getElem?_eq_some_iff.1 hya).1; omega
      have hL24 : L.length ≤ 24 := by have := (Sp.right_len hr).2; rw [List.length_map] at this; exact this
      by_cases hk2 : ya.i.kind = 2
      · obtain ⟨hE, hT⟩ := Sp.linkE_no (e := 405) (show Sp.linkErr (Sp.chk R) (pl L) ka b c d s st = 405 by unfold Sp.linkErr; rw [if_pos hse, if_pos hf, hia, if_pos hk2]) (by decide)
        rw [hE, hT]
        have HK2 : Hid (ya.i.kind = 2) := hk2
        clear hE hT hM hse hc0 hst1 hst2 hlen hr hf hnm hxa hga hka hia hya hc8 hgd hk2 hx
        go_enter Tryz.func21, Tryz.ntmps21
        go_wp2_with fail
        rw [← hW]
        refine (rasked_any HRR.out _ L st _ HV.out HOK.out).mono ?_
        rintro e w1 ⟨rfl, hb1⟩
        rw [HSE.out]
        have HB1 : Hid (Below w.heap.size w w1) := HB0.out.trans (hb1.mono HB0.out.size)
        have HA1 : Hid (w1.heap[w.heap.size]? = some (BH ka b) ∧ w1.heap[w.heap.size + 1]? = some (BH c d)) := ⟨(hb1.block _ (by omega)).trans HA0.out.1, (hb1.block _ hws0).trans HA0.out.2⟩
        have hws1 : w.heap.size + 1 < w1.heap.size := (Array.getElem?_eq_some_iff.1 HA1.out.2).1
        clear hb1
        clear hW
        obtain ⟨⟨a0, a1⟩, _⟩ := two_of HA1.out.1
        go_wp2_with fail
        clear a0 a1
        refine (rnames_any _ L ka b _ (HVW.out _ HB1.out)).mono ?_
        rintro e w2 ⟨rfl, hb2⟩
        rw [HNM.out]
        have HB2 : Hid (Below w.heap.size w w2) := HB1.out.trans (hb2.mono HB1.out.size)
        have HA2 : Hid (w2.heap[w.heap.size]? = some (BH ka b) ∧ w2.heap[w.heap.size + 1]? = some (BH c d)) := ⟨(hb2.block _ (by omega)).trans HA1.out.1, (hb2.block _ hws1).trans HA1.out.2⟩
        have hws2 : w.heap.size + 1 < w2.heap.size := (Array.getElem?_eq_some_iff.1 HA2.out.2).1
        clear hb2
        obtain ⟨⟨a0, a1⟩, _⟩ := two_of HA2.out.1
        obtain ⟨r0, r1, r2, r3, r4, r5, r6, r7⟩ := HX8.out _ HB2.out
        rw [HK2.out] at r1
        go_wp2
        (try simp only [Exit.inBlock, Exit.then])
        refine bodyPost_ret (v := .tuple #[.slice none 0 0, .int .i64 405]) (by simp [results, Tryz.results21, go_sem]) rfl ?_
        first
          | exact ⟨_, rfl, [], tab_nil _ _, rfl, HB2.out⟩
          | exact ⟨_, [], rfl, tab_nil _ _, rfl, HB2.out⟩
      · have hap := At.right_iff.1 (Sp.attr_of hr (List.mem_of_getElem? hxa))
        unfold At.rightP at hap
        have hka1 : ya.i.kind = 1 := by omega
        have HK1 : Hid (ya.i.kind = 1) := hka1
        obtain ⟨ne, hne⟩ : ∃ ne, Sp.nameErr (pl L) c d s = ne := ⟨_, rfl⟩
        have HNE : Hid (Sp.nameErr (pl L) c d s = ne) := hne
        by_cases hn0 : ne = 0
        · subst hn0
          by_cases hl64 : ya.i.links = 64
          · obtain ⟨hE, hT⟩ := Sp.linkE_no (e := 407) (show Sp.linkErr (Sp.chk R) (pl L) ka b c d s st = 407 by unfold Sp.linkErr; rw [if_pos hse, if_pos hf, hia, if_neg hk2, if_pos hne, if_pos hl64]) (by decide)
            rw [hE, hT]
            have HL64 : Hid (ya.i.links = 64) := hl64
            clear hE hT hM hse hc0 hst1 hst2 hlen hr hf hnm hxa hga hka hia hya hc8 hgd hk2 hx hap hka1 hne hl64
            go_enter Tryz.func21, Tryz.ntmps21
            go_wp2_with fail
            rw [← hW]
            refine (rasked_any HRR.out _ L st _ HV.out HOK.out).mono ?_
            rintro e w1 ⟨rfl, hb1⟩
            rw [HSE.out]
            have HB1 : Hid (Below w.heap.size w w1) := HB0.out.trans (hb1.mono HB0.out.size)
            have HA1 : Hid (w1.heap[w.heap.size]? = some (BH ka b) ∧ w1.heap[w.heap.size + 1]? = some (BH c d)) := ⟨(hb1.block _ (by omega)).trans HA0.out.1, (hb1.block _ hws0).trans HA0.out.2⟩
            have hws1 : w.heap.size + 1 < w1.heap.size := (Array.getElem?_eq_some_iff.1 HA1.out.2).1
            clear hb1
            clear hW
            obtain ⟨⟨a0, a1⟩, _⟩ := two_of HA1.out.1
            go_wp2_with fail
            clear a0 a1
            refine (rnames_any _ L ka b _ (HVW.out _ HB1.out)).mono ?_
            rintro e w2 ⟨rfl, hb2⟩
            rw [HNM.out]
            have HB2 : Hid (Below w.heap.size w w2) := HB1.out.trans (hb2.mono HB1.out.size)
            have HA2 : Hid (w2.heap[w.heap.size]? = some (BH ka b) ∧ w2.heap[w.heap.size + 1]? = some (BH c d)) := ⟨(hb2.block _ (by omega)).trans HA1.out.1, (hb2.block _ hws1).trans HA1.out.2⟩
            have hws2 : w.heap.size + 1 < w2.heap.size := (Array.getElem?_eq_some_iff.1 HA2.out.2).1
            clear hb2
            obtain ⟨⟨a0, a1⟩, _⟩ := two_of HA2.out.1
            obtain ⟨r0, r1, r2, r3, r4, r5, r6, r7⟩ := HX8.out _ HB2.out
            rw [HK1.out] at r1
            obtain ⟨⟨g0, g1⟩, _⟩ := two_of HA2.out.2
            go_wp2_with fail
            clear g0 g1 a0 a1 r0 r1 r2 r3 r4 r5 r6 r7
            refine (rfree_any _ L c d s _ (HVW.out _ HB2.out) HOK.out HSM.out HRT.out).mono ?_
            rintro e w3 ⟨rfl, hb3⟩
            rw [HNE.out]
            have HB3 : Hid (Below w.heap.size w w3) := HB2.out.trans (hb3.mono HB2.out.size)
            have HA3 : Hid (w3.heap[w.heap.size]? = some (BH ka b) ∧ w3.heap[w.heap.size + 1]? = some (BH c d)) := ⟨(hb3.block _ (by omega)).trans HA2.out.1, (hb3.block _ hws2).trans HA2.out.2⟩
            have hws3 : w.heap.size + 1 < w3.heap.size := (Array.getElem?_eq_some_iff.1 HA3.out.2).1
            clear hb3
            obtain ⟨⟨a0, a1⟩, _⟩ := two_of HA3.out.1
            obtain ⟨r0, r1, r2, r3, r4, r5, r6, r7⟩ := HX8.out _ HB3.out
            rw [HL64.out] at r2
            go_wp2
            (try simp only [Exit.inBlock, Exit.then])
            refine bodyPost_ret (v := .tuple #[.slice none 0 0, .int .i64 407]) (by simp [results, Tryz.results21, go_sem]) rfl ?_
            first
              | exact ⟨_, rfl, [], tab_nil _ _, rfl, HB3.out⟩
              | exact ⟨_, [], rfl, tab_nil _ _, rfl, HB3.out⟩
          · obtain ⟨kc, xc, rfl, hxc, hgc, hkc, hde, hdn, hfc, -⟩ := Sp.dir_get (Sp.nameErr_zero hne).1
            obtain ⟨yc, hyc, rfl⟩ := Sp.pl_some hxc
            have hLE : Sp.linkErr (Sp.chk R) (pl L) ka b kc d s st = 0 := by unfold Sp.linkErr; rw [if_pos hse, if_pos hf, hia, if_neg hk2, if_pos hne, if_neg hl64]
            have hE : Sp.linkE (Sp.chk R) (pl L) ka b kc d s st = Fo.addErr yc.i.ents yc.i.next s ka b := by unfold Sp.linkE; rw [if_pos hLE, hde, hdn]
            have hicd : findI (pl L) kc d = yc.i := by
              obtain ⟨k', x', h1, h2, -, -, h3, -⟩ := Sp.find_get hfc
              obtain rfl : kc = k' := by omega
              rw [hxc] at h2
              rw [h3]
              exact (Option.some.inj h2).symm
            have hlenc := hlen yc.i (List.mem_of_getElem? hxc)
            have hnk : kc ≠ ka := by
              intro h
              subst h
              rw [hxa] at hxc
              have := Option.some.inj hxc
              rw [this] at hka1
              omega
            have HYC : Hid (L[kc]? = some yc ∧ (∀ e ∈ yc.i.ents, e.1.size ≤ maxLen) ∧ (pl L)[ka]? = some ya.i ∧ kc ≠ ka) := ⟨hyc, HOK.out yc (List.mem_of_getElem? hyc), hxa, hnk⟩
            have hlk : 0 ≤ ya.i.links ∧ ya.i.links ≤ 64 := by omega
            by_cases hae : Fo.addErr yc.i.ents yc.i.next s ka b = 0
            · have hT : Sp.linkT (Sp.chk R) (pl L) ka b kc d s st = ((pl L).set kc (Sp.filled yc.i (yc.i.ents ++ [(s, yc.i.next + 1, (ka : Int), b)]) (yc.i.next + 1) st)).set ka (Sp.linked ya.i 1 st) := by
                unfold Sp.linkT
                rw [hE, if_pos hae, hicd, hia]
                rfl
              rw [hE, hT, hae]
              have HAE : Hid (Fo.addErr yc.i.ents yc.i.next s ka b = 0) := hae
              clear hE hT hM hse hc0 hst1 hst2 hlen hr hf hnm hxa hga hka hia hya hc8 hgd hk2 hx hap hka1 hne hxc hgc hkc hde hdn hfc hyc hLE hicd hnk hae
              go_enter Tryz.func21, Tryz.ntmps21
              go_wp2_with fail
              rw [← hW]
              refine (rasked_any HRR.out _ L st _ HV.out HOK.out).mono ?_
              rintro e w1 ⟨rfl, hb1⟩
              rw [HSE.out]
              have HB1 : Hid (Below w.heap.size w w1) := HB0.out.trans (hb1.mono HB0.out.size)
              have HA1 : Hid (w1.heap[w.heap.size]? = some (BH ka b) ∧ w1.heap[w.heap.size + 1]? = some (BH kc d)) := ⟨(hb1.block _ (by omega)).trans HA0.out.1, (hb1.block _ hws0).trans HA0.out.2⟩
              have hws1 : w.heap.size + 1 < w1.heap.size := (Array.getElem?_eq_some_iff.1 HA1.out.2).1
              clear hb1
              clear hW
              obtain ⟨⟨a0, a1⟩, _⟩ := two_of HA1.out.1
              go_wp2_with fail
              clear a0 a1
              refine (rnames_any _ L ka b _ (HVW.out _ HB1.out)).mono ?_
              rintro e w2 ⟨rfl, hb2⟩
              rw [HNM.out]
              have HB2 : Hid (Below w.heap.size w w2) := HB1.out.trans (hb2.mono HB1.out.size)
              have HA2 : Hid (w2.heap[w.heap.size]? = some (BH ka b) ∧ w2.heap[w.heap.size + 1]? = some (BH kc d)) := ⟨(hb2.block _ (by omega)).trans HA1.out.1, (hb2.block _ hws1).trans HA1.out.2⟩
              have hws2 : w.heap.size + 1 < w2.heap.size := (Array.getElem?_eq_some_iff.1 HA2.out.2).1
              clear hb2
              obtain ⟨⟨a0, a1⟩, _⟩ := two_of HA2.out.1
              obtain ⟨r0, r1, r2, r3, r4, r5, r6, r7⟩ := HX8.out _ HB2.out
              rw [HK1.out] at r1
              obtain ⟨⟨g0, g1⟩, _⟩ := two_of HA2.out.2
              go_wp2_with fail
              clear g0 g1 a0 a1 r0 r1 r2 r3 r4 r5 r6 r7
              refine (rfree_any _ L kc d s _ (HVW.out _ HB2.out) HOK.out HSM.out HRT.out).mono ?_
              rintro e w3 ⟨rfl, hb3⟩
              rw [HNE.out]
              have HB3 : Hid (Below w.heap.size w w3) := HB2.out.trans (hb3.mono HB2.out.size)
              have HA3 : Hid (w3.heap[w.heap.size]? = some (BH ka b) ∧ w3.heap[w.heap.size + 1]? = some (BH kc d)) := ⟨(hb3.block _ (by omega)).trans HA2.out.1, (hb3.block _ hws2).trans HA2.out.2⟩
              have hws3 : w.heap.size + 1 < w3.heap.size := (Array.getElem?_eq_some_iff.1 HA3.out.2).1
              clear hb3
              obtain ⟨⟨a0, a1⟩, _⟩ := two_of HA3.out.1
              obtain ⟨r0, r1, r2, r3, r4, r5, r6, r7⟩ := HX8.out _ HB3.out
              obtain ⟨⟨g0, g1⟩, _⟩ := two_of HA3.out.2
              go_wp2_with fail
              clear a0 a1 g0 g1 r0 r1 r2 r3 r4 r5 r6 r7
              refine (rmore_any _ L kc ka b st s yc _ (HVW.out _ HB3.out) HYC.out.1 HYC.out.2.1 HSM.out HAE.out (by omega) (by omega)).mono ?_
              rintro e w5 ⟨g5, cap5, L5, rfl, hcp, hp5, hb5⟩
              have HB5 : Hid (Below w.heap.size w w5) := HB3.out.trans (hb5.mono HB3.out.size)
              have HA5 : Hid (w5.heap[w.heap.size]? = some (BH ka b)) := (hb5.block _ (by omega)).trans HA3.out.1
              obtain ⟨y5, hy5, hyi⟩ := Sp.pl_some (L := L5) (k := ka) (x := ya.i) (by rw [hp5, List.getElem?_set_ne HYC.out.2.2.2]; exact HYC.out.2.2.1)
              obtain ⟨⟨t0, t1, t2, t3, t4, t5, t6, t7⟩, tf, tl, -, hBg⟩ := hcp.cells hy5
              rw [hyi] at t2 t4
              obtain ⟨⟨e0, e1⟩, _⟩ := two_of HA5.out
              have hgn : w.heap.size ≠ g5 := by omega
              have HC5 : Hid (Cp (fun b => S b ∨ w3.heap.size ≤ b) w3.heap.size w5 g5 L.length cap5 L5) := hcp
              have HP5 : Hid (pl L5 = (pl L).set kc (Sp.filled yc.i (yc.i.ents ++ [(s, yc.i.next + 1, (ka : Int), b)]) (yc.i.next + 1) st)) := hp5
              have HY5 : Hid (L5[ka]? = some y5 ∧ y5.i = ya.i) := ⟨hy5, hyi⟩
              have hwg : w.heap.size ≤ g5 := by omega
              clear hb5 hcp hp5 hy5 hyi t0 t1 t3 t5 t6 t7
              go_wp2_with fail
              go_region
              all_goals
                go_wp2
                obtain ⟨L', hL', hp'⟩ := HC5.out.two HY5.out.1 (ya.i.links + 1) st
                rw [HP5.out, HY5.out.2] at hp'
                have hbe := HB5.out
                have hbl : Below w.heap.size w ((w5.setCell ⟨g5, ka * 8 + 1 + 1, none⟩ (.int .i64 (ya.i.links + 1))).setCell ⟨g5, ka * 8 + 1 + 3, none⟩ (.int .i64 st)) := by
                  (repeat (with_reducible refine Below.setCell ?_ (by exact hwg) _)); exact hbe
                (try simp only [Exit.inBlock, Exit.then])
                refine bodyPost_ret (v := .tuple #[.slice (some ⟨g5, 0, none⟩) L.length cap5, .int .i64 0]) (by simp [results, Tryz.results21, go_sem]) rfl ?_
                first
                  | exact ⟨_, rfl, L', tab_drew hL'.tab, hp', bel_drew hbl⟩
                  | exact ⟨_, L', rfl, tab_drew hL'.tab, hp', bel_drew hbl⟩
            · have hT : Sp.linkT (Sp.chk R) (pl L) ka b kc d s st = [] := by unfold Sp.linkT; rw [hE, if_neg hae]
              obtain ⟨ae, hae2⟩ : ∃ ae, Fo.addErr yc.i.ents yc.i.next s ka b = ae := ⟨_, rfl⟩
              have HAE : Hid (Fo.addErr yc.i.ents yc.i.next s ka b = ae ∧ ¬ Fo.addErr yc.i.ents yc.i.next s ka b = 0) := ⟨hae2, hae⟩
              rw [hE, hT, hae2]
              rw [hae2] at hae
              have hz' : (ae != 0) = true := by simpa using hae
              clear hE hT hM hse hc0 hst1 hst2 hlen hr hf hnm hxa hga hka hia hya hc8 hgd hk2 hx hap hka1 hne hxc hgc hkc hde hdn hfc hyc hLE hicd hnk hae hae2
              go_enter Tryz.func21, Tryz.ntmps21
              go_wp2_with fail
              rw [← hW]
              refine (rasked_any HRR.out _ L st _ HV.out HOK.out).mono ?_
              rintro e w1 ⟨rfl, hb1⟩
              rw [HSE.out]
              have HB1 : Hid (Below w.heap.size w w1) := HB0.out.trans (hb1.mono HB0.out.size)
              have HA1 : Hid (w1.heap[w.heap.size]? = some (BH ka b) ∧ w1.heap[w.heap.size + 1]? = some (BH kc d)) := ⟨(hb1.block _ (by omega)).trans HA0.out.1, (hb1.block _ hws0).trans HA0.out.2⟩
              have hws1 : w.heap.size + 1 < w1.heap.size := (Array.getElem?_eq_some_iff.1 HA1.out.2).1
              clear hb1
              clear hW
              obtain ⟨⟨a0, a1⟩, _⟩ := two_of HA1.out.1
              go_wp2_with fail
              clear a0 a1
              refine (rnames_any _ L ka b _ (HVW.out _ HB1.out)).mono ?_
              rintro e w2 ⟨rfl, hb2⟩
              rw [HNM.out]
              have HB2 : Hid (Below w.heap.size w w2) := HB1.out.trans (hb2.mono HB1.out.size)
              have HA2 : Hid (w2.heap[w.heap.size]? = some (BH ka b) ∧ w2.heap[w.heap.size + 1]? = some (BH kc d)) := ⟨(hb2.block _ (by omega)).trans HA1.out.1, (hb2.block _ hws1).trans HA1.out.2⟩
              have hws2 : w.heap.size + 1 < w2.heap.size := (Array.getElem?_eq_some_iff.1 HA2.out.2).1
              clear hb2
              obtain ⟨⟨a0, a1⟩, _⟩ := two_of HA2.out.1
              obtain ⟨r0, r1, r2, r3, r4, r5, r6, r7⟩ := HX8.out _ HB2.out
              rw [HK1.out] at r1
              obtain ⟨⟨g0, g1⟩, _⟩ := two_of HA2.out.2
              go_wp2_with fail
              clear g0 g1 a0 a1 r0 r1 r2 r3 r4 r5 r6 r7
              refine (rfree_any _ L kc d s _ (HVW.out _ HB2.out) HOK.out HSM.out HRT.out).mono ?_
              rintro e w3 ⟨rfl, hb3⟩
              rw [HNE.out]
              have HB3 : Hid (Below w.heap.size w w3) := HB2.out.trans (hb3.mono HB2.out.size)
              have HA3 : Hid (w3.heap[w.heap.size]? = some (BH ka b) ∧ w3.heap[w.heap.size + 1]? = some (BH kc d)) := ⟨(hb3.block _ (by omega)).trans HA2.out.1, (hb3.block _ hws2).trans HA2.out.2⟩
              have hws3 : w.heap.size + 1 < w3.heap.size := (Array.getElem?_eq_some_iff.1 HA3.out.2).1
              clear hb3
              obtain ⟨⟨a0, a1⟩, _⟩ := two_of HA3.out.1
              obtain ⟨r0, r1, r2, r3, r4, r5, r6, r7⟩ := HX8.out _ HB3.out
              obtain ⟨⟨g0, g1⟩, _⟩ := two_of HA3.out.2
              go_wp2_with fail
              clear a0 a1 g0 g1 r0 r1 r2 r3 r4 r5 r6 r7
              refine (rmore_no _ L kc ka b st s yc _ (HVW.out _ HB3.out) HYC.out.1 HYC.out.2.1 HSM.out HAE.out.2).mono ?_
              rintro e w5 ⟨rfl, hb5⟩
              rw [HAE.out.1]
              have HB5 : Hid (Below w.heap.size w w5) := HB3.out.trans (hb5.mono HB3.out.size)
              clear hb5
              go_wp2
              (try simp only [Exit.inBlock, Exit.then])
              refine bodyPost_ret (v := .tuple #[.slice none 0 0, .int .i64 ae]) (by simp [results, Tryz.results21, go_sem]) rfl ?_
              first
                | exact ⟨_, rfl, [], tab_nil _ _, rfl, HB5.out⟩
                | exact ⟨_, [], rfl, tab_nil _ _, rfl, HB5.out⟩
        · obtain ⟨hE, hT⟩ := Sp.linkE_no (e := ne) (show Sp.linkErr (Sp.chk R) (pl L) ka b c d s st = ne by unfold Sp.linkErr; rw [if_pos hse, if_pos hf, hia, if_neg hk2, if_neg (by rw [hne]; exact hn0), hne]) hn0
          rw [hE, hT]
          have hz' : (ne != 0) = true := by simpa using hn0
          clear hE hT hM hse hc0 hst1 hst2 hlen hr hf hnm hxa hga hka hia hya hc8 hgd hk2 hx hap hka1 hne hn0
          go_enter Tryz.func21, Tryz.ntmps21
          go_wp2_with fail
          rw [← hW]
          refine (rasked_any HRR.out _ L st _ HV.out HOK.out).mono ?_
          rintro e w1 ⟨rfl, hb1⟩
          rw [HSE.out]
          have HB1 : Hid (Below w.heap.size w w1) := HB0.out.trans (hb1.mono HB0.out.size)
          have HA1 : Hid (w1.heap[w.heap.size]? = some (BH ka b) ∧ w1.heap[w.heap.size + 1]? = some (BH c d)) := ⟨(hb1.block _ (by omega)).trans HA0.out.1, (hb1.block _ hws0).trans HA0.out.2⟩
          have hws1 : w.heap.size + 1 < w1.heap.size := (Array.getElem?_eq_some_iff.1 HA1.out.2).1
          clear hb1
          clear hW
          obtain ⟨⟨a0, a1⟩, _⟩ := two_of HA1.out.1
          go_wp2_with fail
          clear a0 a1
          refine (rnames_any _ L ka b _ (HVW.out _ HB1.out)).mono ?_
          rintro e w2 ⟨rfl, hb2⟩
          rw [HNM.out]
          have HB2 : Hid (Below w.heap.size w w2) := HB1.out.trans (hb2.mono HB1.out.size)
          have HA2 : Hid (w2.heap[w.heap.size]? = some (BH ka b) ∧ w2.heap[w.heap.size + 1]? = some (BH c d)) := ⟨(hb2.block _ (by omega)).trans HA1.out.1, (hb2.block _ hws1).trans HA1.out.2⟩
          have hws2 : w.heap.size + 1 < w2.heap.size := (Array.getElem?_eq_some_iff.1 HA2.out.2).1
          clear hb2
          obtain ⟨⟨a0, a1⟩, _⟩ := two_of HA2.out.1
          obtain ⟨r0, r1, r2, r3, r4, r5, r6, r7⟩ := HX8.out _ HB2.out
          rw [HK1.out] at r1
          obtain ⟨⟨g0, g1⟩, _⟩ := two_of HA2.out.2
          go_wp2_with fail
          clear g0 g1 a0 a1 r0 r1 r2 r3 r4 r5 r6 r7
          refine (rfree_any _ L c d s _ (HVW.out _ HB2.out) HOK.out HSM.out HRT.out).mono ?_
          rintro e w3 ⟨rfl, hb3⟩
          rw [HNE.out]
          have HB3 : Hid (Below w.heap.size w w3) := HB2.out.trans (hb3.mono HB2.out.size)
          have HA3 : Hid (w3.heap[w.heap.size]? = some (BH ka b) ∧ w3.heap[w.heap.size + 1]? = some (BH c d)) := ⟨(hb3.block _ (by omega)).trans HA2.out.1, (hb3.block _ hws2).trans HA2.out.2⟩
          have hws3 : w.heap.size + 1 < w3.heap.size := (Array.getElem?_eq_some_iff.1 HA3.out.2).1
          clear hb3
          obtain ⟨⟨a0, a1⟩, _⟩ := two_of HA3.out.1
          obtain ⟨r0, r1, r2, r3, r4, r5, r6, r7⟩ := HX8.out _ HB3.out
          go_wp2
          (try simp only [Exit.inBlock, Exit.then])
          refine bodyPost_ret (v := .tuple #[.slice none 0 0, .int .i64 ne]) (by simp [results, Tryz.results21, go_sem]) rfl ?_
          first
            | exact ⟨_, rfl, [], tab_nil _ _, rfl, HB3.out⟩
            | exact ⟨_, [], rfl, tab_nil _ _, rfl, HB3.out⟩
    · obtain ⟨hE, hT⟩ := Sp.linkE_no (e := 401) (show Sp.linkErr (Sp.chk R) (pl L) a b c d s st = 401 by unfold Sp.linkErr; rw [if_pos hse, if_neg (by rw [hf]; decide), hf]) (by decide)
      rw [hE, hT]
      have HNM : Hid (names (pl L) a b = false) := hnm
      clear hE hT hM hse hc0 hst1 hst2 hlen hr hf hnm hx
      go_enter Tryz.func21, Tryz.ntmps21
      go_wp2_with fail
      rw [← hW]
      refine (rasked_any HRR.out _ L st _ HV.out HOK.out).mono ?_
      rintro e w1 ⟨rfl, hb1⟩
      rw [HSE.out]
      have HB1 : Hid (Below w.heap.size w w1) := HB0.out.trans (hb1.mono HB0.out.size)
      have HA1 : Hid (w1.heap[w.heap.size]? = some (BH a b) ∧ w1.heap[w.heap.size + 1]? = some (BH c d)) := ⟨(hb1.block _ (by omega)).trans HA0.out.1, (hb1.block _ hws0).trans HA0.out.2⟩
      have hws1 : w.heap.size + 1 < w1.heap.size := (Array.getElem?_eq_some_iff.1 HA1.out.2).1
      clear hb1
      clear hW
      obtain ⟨⟨a0, a1⟩, _⟩ := two_of HA1.out.1
      go_wp2_with fail
      clear a0 a1
      refine (rnames_any _ L a b _ (HVW.out _ HB1.out)).mono ?_
      rintro e w2 ⟨rfl, hb2⟩
      rw [HNM.out]
      have HB2 : Hid (Below w.heap.size w w2) := HB1.out.trans (hb2.mono HB1.out.size)
      have HA2 : Hid (w2.heap[w.heap.size]? = some (BH a b) ∧ w2.heap[w.heap.size + 1]? = some (BH c d)) := ⟨(hb2.block _ (by omega)).trans HA1.out.1, (hb2.block _ hws1).trans HA1.out.2⟩
      have hws2 : w.heap.size + 1 < w2.heap.size := (Array.getElem?_eq_some_iff.1 HA2.out.2).1
      clear hb2
      obtain ⟨⟨a0, a1⟩, _⟩ := two_of HA2.out.1
      go_wp2
      (try simp only [Exit.inBlock, Exit.then])
      refine bodyPost_ret (v := .tuple #[.slice none 0 0, .int .i64 401]) (by simp [results, Tryz.results21, go_sem]) rfl ?_
      first
        | exact ⟨_, rfl, [], tab_nil _ _, rfl, HB2.out⟩
        | exact ⟨_, [], rfl, tab_nil _ _, rfl, HB2.out⟩
  · obtain ⟨se, hse'⟩ : ∃ se, Sp.stErr (Sp.chk R) (pl L) st = se := ⟨_, rfl⟩
    have HSE : Hid (Sp.stErr (Sp.chk R) (pl L) st = se) := hse'
    obtain ⟨hE, hT⟩ := Sp.linkE_no (e := se) (show Sp.linkErr (Sp.chk R) (pl L) a b c d s st = se by unfold Sp.linkErr; rw [if_neg hse, hse']) (by rw [← hse']; exact hse)
    rw [hE, hT]
    rw [hse'] at hse
    have hz' : (se != 0) = true := by simpa using hse
    clear hE hT hM hx hse hse'
    go_enter Tryz.func21, Tryz.ntmps21
    go_wp2_with fail
    rw [← hW]
    refine (rasked_any HRR.out _ L st _ HV.out HOK.out).mono ?_
    rintro e w1 ⟨rfl, hb1⟩
    rw [HSE.out]
    have HB1 : Hid (Below w.heap.size w w1) := HB0.out.trans (hb1.mono HB0.out.size)
    have HA1 : Hid (w1.heap[w.heap.size]? = some (BH a b) ∧ w1.heap[w.heap.size + 1]? = some (BH c d)) := ⟨(hb1.block _ (by omega)).trans HA0.out.1, (hb1.block _ hws0).trans HA0.out.2⟩
    have hws1 : w.heap.size + 1 < w1.heap.size := (Array.getElem?_eq_some_iff.1 HA1.out.2).1
    clear hb1
    clear hW
    go_wp2
    (try simp only [Exit.inBlock, Exit.then])
    refine bodyPost_ret (v := .tuple #[.slice none 0 0, .int .i64 se]) (by simp [results, Tryz.results21, go_sem]) rfl ?_
    first
      | exact ⟨_, rfl, [], tab_nil _ _, rfl, HB1.out⟩
      | exact ⟨_, [], rfl, tab_nil _ _, rfl, HB1.out⟩
end Go.Proofs.YtacghcoikekfeaaGreat
/- Sp18 -/
namespace Go.Proofs.YtacghcoikekfeaaGreat
open Go.ChangeShapes Go.WideShapes Go.ChangeAt Go.RowKit Go.Deep It
set_option maxRecDepth 100000
namespace Sp
theorem make_keep {L : List Ino} {kind st : Int} (hm : It.makeErr L kind st = 0) : It.right (makeTab L kind st) = true ∧ ∀ (k : Nat) (x : Ino), L[k]? = some x → x.kind ≠ 0 → (makeTab L kind st)[k]? = some x := by
  obtain ⟨hr, ha, hn, e1, -⟩ := make_next hm
  have hk : kind = 1 ∨ kind = 2 := by unfold argOk at ha; simp only [Bool.and_eq_true, decide_eq_true_eq] at ha; exact ha.1
  have hs0 : 0 ≤ st ∧ st ≤ 1099511627776 := by unfold argOk at ha; simp only [Bool.and_eq_true, decide_eq_true_eq] at ha; exact ha.2
  obtain ⟨hn1, hng⟩ := next_good hr
  obtain ⟨hb0, hb1⟩ := next_bd L
  have hlen := right_len24 hr
  rw [e1]
  refine ⟨right_put hr (by omega) (by omega) (by omega) (one_fresh hng hk hs0), fun k x hx hxk => ?_⟩
  have hput := put_at (x := fresh (next L).2 kind st) (show (next L).1.toNat ≤ L.length by omega) k
  have hne : k ≠ (next L).1.toNat := by
    intro h
    have hkl : k < L.length := (List.getElem?_eq_some_iff.1 hx).1
    rcases next_cases L with ⟨j, y, hy, hyk, -, e⟩ | e
    · rw [e] at h
      have hj : k = j := by simpa using h
      subst hj
      rw [hx] at hy
      cases hy
      exact hxk hyk
    · rw [e] at h
      simp at h
      omega
  rw [if_neg hne] at hput
  rw [hput]
  exact hx
theorem makeErr_zero {C : List Ino → Int} {L : List Ino} {a b : Int} {s : ByteArray} {kind st : Int} (h : makeErr C L a b s kind st = 0) : (C L = 0 ∧ top L ≤ st ∧ st ≤ 1099511627776) ∧ (kind = 1 ∨ kind = 2) ∧ dirErr L a b = 0 := by
  unfold makeErr at h
  by_cases hs : stErr C L st = 0
  · rw [if_pos hs] at h
    by_cases hk : kind = 1 ∨ kind = 2
    · rw [if_pos hk] at h
      exact ⟨stErr_zero hs, hk, (nameErr_zero h).1⟩
    · rw [if_neg hk] at h
      exact absurd h (by decide)
  · rw [if_neg hs] at h
    exact absurd h hs
/-- What Make tells. -/
noncomputable def mkE (C : List Ino → Int) (L : List Ino) (a b : Int) (s : ByteArray) (kind st : Int) : Int :=
  if makeErr C L a b s kind st = 0 then (if It.makeErr L kind st = 0 then Fo.addErr (dirEnts L a b) (dirNext L a b) s (makeH L kind st).1 (makeH L kind st).2 else It.makeErr L kind st) else makeErr C L a b s kind st
noncomputable def mkT (C : List Ino → Int) (L : List Ino) (a b : Int) (s : ByteArray) (kind st : Int) : List Ino :=
  if mkE C L a b s kind st = 0 then
    (makeTab L kind st).set a.toNat (filled (findI L a b) ((findI L a b).ents ++ [(s, (findI L a b).next + 1, (makeH L kind st).1, (makeH L kind st).2)]) ((findI L a b).next + 1) st)
  else []
noncomputable def mkH (C : List Ino → Int) (L : List Ino) (a b : Int) (s : ByteArray) (kind st : Int) : Int × Int :=
  if mkE C L a b s kind st = 0 then makeH L kind st else (0, 0)
end Sp
end Go.Proofs.YtacghcoikekfeaaGreat
/- Sp19 -/
namespace Go.Proofs.YtacghcoikekfeaaGreat
open Go.ChangeShapes Go.WideShapes Go.ChangeAt Go.RowKit Go.Deep It
set_option maxRecDepth 100000
set_option maxHeartbeats 4000000 in
theorem smake_any {C : List Ino → Int} (hC : ChkSaid C) (hM : Sp.ChkMeans C) {S : Nat → Prop} (v : Value) (L : List Rw) (a b : Int) (s : ByteArray) (kind st : Int) (w : World) (hv : TabAt S w v L) (hok : Sp.okN L) (hs : s.size ≤ maxLen) :
    Calls Tryz.prog 17 #[v, .agg #[.int .i64 a, .int .i64 b], .string s, .int .i64 kind, .int .i64 st] w fun e w' =>
      ∃ u L', e = .returned (.tuple #[u, .agg #[.int .i64 (Sp.mkH C (pl L) a b s kind st).1, .int .i64 (Sp.mkH C (pl L) a b s kind st).2], .int .i64 (Sp.mkE C (pl L) a b s kind st)]) ∧ TabAt (fun b => w.heap.size ≤ b) w' u L' ∧ pl L' = Sp.mkT C (pl L) a b s kind st ∧ Below w.heap.size w w' := by
  obtain ⟨W, hW⟩ : ∃ W, W = (w.alloc (BH a b)).alloc (BH 0 0) := ⟨_, rfl⟩
  have HB0 : Hid (Below w.heap.size w W) := by show Below w.heap.size w W; rw [hW]; exact ((Below.refl _ w).alloc (Nat.le_refl _) _).alloc (by simp) _
  have HA0 : Hid (W.heap[w.heap.size]? = some (BH a b)) := by show W.heap[w.heap.size]? = _; rw [hW]; exact (Below.heap_alloc _ _ _ (by simp)).trans (heap_alloc_new _ _)
  have HZ0 : Hid (W.heap[w.heap.size + 1]? = some (BH 0 0)) := by
    show W.heap[w.heap.size + 1]? = _
    rw [hW]
    have := heap_alloc_new (w.alloc (BH a b)) (BH 0 0)
    rwa [show (w.alloc (BH a b)).heap.size = w.heap.size + 1 by simp] at this
  have hwz : w.heap.size + 1 < W.heap.size := by rw [hW]; simp
  have hws : w.heap.size < W.heap.size := by omega
  have HV : Hid (TabAt S W v L) := hv.up HB0.out
  obtain ⟨ao, cap, rfl, _, _⟩ := hv.open
  have HOK : Hid (Sp.okN L) := hok
  have HSM : Hid (s.size ≤ maxLen) := hs
  have HCC : Hid (ChkSaid C) := hC
  clear hv hok hs hC
  obtain ⟨le, hle⟩ : ∃ le, Sp.makeErr C (pl L) a b s kind st = le := ⟨_, rfl⟩
  have HLE : Hid (Sp.makeErr C (pl L) a b s kind st = le) := hle
  obtain ⟨me, hme⟩ : ∃ me, It.makeErr (pl L) kind st = me := ⟨_, rfl⟩
  obtain ⟨q1, q2, hq⟩ : ∃ q1 q2, makeH (pl L) kind st = (q1, q2) := ⟨_, _, rfl⟩
  have HMH : Hid (It.makeErr (pl L) kind st = me ∧ makeH (pl L) kind st = (q1, q2)) := ⟨hme, hq⟩
  by_cases hz : le = 0
  · subst hz
    obtain ⟨⟨hc0, hs1, hs2⟩, hkk, hd⟩ := Sp.makeErr_zero hle
    obtain ⟨hr, hfo, hlen, -⟩ := hM _ hc0
    obtain ⟨kc, xc, rfl, hxc, hgc, hkc, hde, hdn, hfc, -⟩ := Sp.dir_get hd
    obtain ⟨yc, hyc, rfl⟩ := Sp.pl_some hxc
    by_cases hm0 : me = 0
    · subst hm0
      obtain ⟨ae, hae⟩ : ∃ ae, Fo.addErr yc.i.ents yc.i.next s q1 q2 = ae := ⟨_, rfl⟩
      have hE : Sp.mkE C (pl L) kc b s kind st = ae := by unfold Sp.mkE; rw [if_pos hle, if_pos hme, hde, hdn, hq, hae]
      have HAE : Hid (Fo.addErr yc.i.ents yc.i.next s q1 q2 = ae) := hae
      have hicd : findI (pl L) kc b = yc.i := by
        obtain ⟨k', x', h1, h2, -, -, h3, -⟩ := Sp.find_get hfc
        obtain rfl : kc = k' := by omega
        rw [hxc] at h2
        rw [h3]
        exact (Option.some.inj h2).symm
      obtain ⟨hr1, hkeep⟩ := Sp.make_keep hme
      have hx1 := hkeep kc yc.i hxc (by omega)
      obtain ⟨T1, hT1⟩ : ∃ T1, makeTab (pl L) kind st = T1 := ⟨_, rfl⟩
      rw [hT1] at hr1 hx1
      have hlenc := hlen yc.i (List.mem_of_getElem? hxc)
      have hone := (It.right_iff.1 hr).2.2 yc.i (List.mem_of_getElem? hxc)
      have hst0 : 0 ≤ st := Int.le_trans (Sp.top_nonneg _) hs1
      have hf1 : findErr T1 kc b = 0 := by
        unfold findErr
        rw [if_pos hr1, if_pos ?_]
        unfold names
        rw [show ((kc : Int)).toNat = kc by omega, hx1]
        simp [hgc, hkc]
      have hp1 := (Sp.putTab_set (y := Sp.filled yc.i (yc.i.ents ++ [(s, yc.i.next + 1, q1, q2)]) (yc.i.next + 1) st) hf1 hx1 hgc (by show yc.i.kind ≠ 0; omega) (Sp.one_filled hone hkc ⟨hst0, hs2⟩ (by simp; omega)) rfl).2
      obtain ⟨T2, hT2⟩ : ∃ T2, T1.set kc (Sp.filled yc.i (yc.i.ents ++ [(s, yc.i.next + 1, q1, q2)]) (yc.i.next + 1) st) = T2 := ⟨_, rfl⟩
      have HP : Hid (putTab T1 kc b (Sp.filled yc.i (yc.i.ents ++ [(s, yc.i.next + 1, q1, q2)]) (yc.i.next + 1) st) = T2) := hp1.trans hT2
      have hT : Sp.mkT C (pl L) kc b s kind st = if ae = 0 then T2 else [] := by
        unfold Sp.mkT
        rw [hE, hicd, hq, hT1, ← hT2]
        rfl
      have hH : Sp.mkH C (pl L) kc b s kind st = if ae = 0 then (q1, q2) else (0, 0) := by unfold Sp.mkH; rw [hE, hq]
      have HADD : Hid (Fo.addErr yc.i.ents yc.i.next s q1 q2 = 0 → yc.i.ents.length + 1 ≤ 3518437208883 ∧ At.growErr yc.i.kind yc.i.links yc.i.size yc.i.stamp (yc.i.ents.length + 1) st = 0) := fun _ => ⟨by omega, Sp.grow_ok hr hxc (by omega) ⟨hs1, hs2⟩ ⟨by omega, by omega⟩⟩
      have HYC : Hid (∀ e ∈ yc.i.ents, e.1.size ≤ maxLen) := HOK.out yc (List.mem_of_getElem? hyc)
      have HX1 : Hid (T1[kc]? = some yc.i) := hx1
      have HTT : Hid (makeTab (pl L) kind st = T1) := hT1
      rw [hE, hT, hH]
      clear hle hc0 hs1 hs2 hkk hd hr hfo hlen hxc hgc hkc hde hdn hfc hyc hae hE hicd hr1 hkeep hx1 hT1 hlenc hone hst0 hf1 hp1 hT2 hT hH hme hq hM
      by_cases hz : ae = 0
      · subst hz
        rw [if_pos rfl, if_pos rfl]
        go_enter Tryz.func17, Tryz.ntmps17
        obtain ⟨⟨a0, a1⟩, _⟩ := two_of HA0.out
        go_wp2_with fail
        rw [← hW]
        refine (refuseMake_any HCC.out _ L kc b s kind st _ HV.out HOK.out HSM.out).mono ?_
        rintro e w1 ⟨rfl, hb1⟩
        rw [HLE.out]
        have HB1 : Hid (Below w.heap.size w w1) := HB0.out.trans (hb1.mono HB0.out.size)
        have HA1 : Hid (w1.heap[w.heap.size]? = some (BH kc b)) := (hb1.block _ hws).trans HA0.out
        have HZ1 : Hid (w1.heap[w.heap.size + 1]? = some (BH 0 0)) := (hb1.block _ hwz).trans HZ0.out
        have hwz1 : w.heap.size + 1 < w1.heap.size := (Array.getElem?_eq_some_iff.1 HZ1.out).1
        have hwa1 : w.heap.size < w1.heap.size := by omega
        have HV1 : Hid (TabAt S w1 (.slice ao L.length cap) L) := HV.out.up hb1
        clear hb1 hW HV HA0 HZ0 a0 a1
        go_wp2_with fail
        refine (make_any _ L kind st _ HV1.out).mono ?_
        rintro e w2 ⟨u, L1, rfl, ht, hp, hb2⟩
        rw [HMH.out.1, HMH.out.2]
        have HB2 : Hid (Below w.heap.size w w2) := HB1.out.trans (hb2.mono HB1.out.size)
        have HA2 : Hid (w2.heap[w.heap.size]? = some (BH kc b)) := (hb2.block _ (by omega)).trans HA1.out
        have HZ2 : Hid (w2.heap[w.heap.size + 1]? = some (BH 0 0)) := (hb2.block _ hwz1).trans HZ1.out
        have hwz2 : w.heap.size + 1 < w2.heap.size := (Array.getElem?_eq_some_iff.1 HZ2.out).1
        have hwa2 : w.heap.size < w2.heap.size := by omega
        have HT1 : Hid (TabAt (fun b => w1.heap.size ≤ b) w2 u L1) := ht
        have HPL : Hid (pl L1 = T1) := hp.trans HTT.out
        obtain ⟨y1, hy1, hyi⟩ := Sp.pl_some (L := L1) (k := kc) (x := yc.i) (by rw [HPL.out]; exact HX1.out)
        have HY1 : Hid (L1[kc]? = some y1 ∧ y1.i = yc.i) := ⟨hy1, hyi⟩
        obtain ⟨W2, hW2⟩ : ∃ W2, W2 = w2.alloc (BH q1 q2) := ⟨_, rfl⟩
        have bb2 : Below w2.heap.size w2 W2 := by rw [hW2]; exact (Below.refl _ _).alloc (Nat.le_refl _) _
        have HBW : Hid (Below w.heap.size w W2) := HB2.out.trans (bb2.mono HB2.out.size)
        have HAW : Hid (W2.heap[w.heap.size]? = some (BH kc b) ∧ W2.heap[w2.heap.size]? = some (BH q1 q2) ∧ W2.heap[w.heap.size + 1]? = some (BH 0 0)) := ⟨(bb2.block _ (by omega)).trans HA2.out, by rw [hW2]; exact heap_alloc_new _ _, (bb2.block _ hwz2).trans HZ2.out⟩
        have HTW : Hid (TabAt (fun b => w1.heap.size ≤ b) W2 u L1) := HT1.out.up bb2
        have hws2 : w2.heap.size < W2.heap.size := (Array.getElem?_eq_some_iff.1 HAW.out.2.1).1
        have hwz3 : w.heap.size + 1 < W2.heap.size := (Array.getElem?_eq_some_iff.1 HAW.out.2.2).1
        obtain ⟨⟨a0, a1⟩, _⟩ := two_of HA2.out
        clear hb2 ht hp hy1 hyi bb2
        go_wp2_with fail
        rw [← hW2]
        refine (sadd_any _ L1 kc b q1 q2 st s y1 _ HTW.out HY1.out.1 (by rw [HY1.out.2]; exact HYC.out) HSM.out (by rw [HY1.out.2]; exact HADD.out)).mono ?_
        rintro e w3 ⟨u3, L3, rfl, ht3, hp3, hb3⟩
        rw [HY1.out.2] at hp3 ⊢
        rw [HAE.out] at hp3 ⊢
        have HB3 : Hid (Below w.heap.size w w3) := HBW.out.trans (hb3.mono HBW.out.size)
        have HZ3 : Hid (w3.heap[w.heap.size + 1]? = some (BH 0 0)) := (hb3.block _ hwz3).trans HAW.out.2.2
        have HQ3 : Hid (w3.heap[w2.heap.size]? = some (BH q1 q2)) := (hb3.block _ hws2).trans HAW.out.2.1
        have hwz4 : w.heap.size + 1 < w3.heap.size := (Array.getElem?_eq_some_iff.1 HZ3.out).1
        obtain ⟨⟨z0, z1⟩, zf⟩ := two_of HZ3.out
        obtain ⟨⟨p0, p1⟩, pf⟩ := two_of HQ3.out
        rw [if_pos rfl, HPL.out, HP.out] at hp3
        have HT3 : Hid (TabAt (fun b => W2.heap.size ≤ b) w3 u3 L3) := ht3
        have HP3 : Hid (pl L3 = T2) := hp3
        clear hb3 ht3 hp3 a0 a1 hW2
        go_wp2_with fail
        go_region
        all_goals
          go_wp2
          (try simp only [Exit.inBlock, Exit.then])
        refine bodyPost_ret (v := .tuple #[u3, .agg #[.int .i64 q1, .int .i64 q2], .int .i64 0]) ?_ rfl ?_
        · rw [results_tct rfl]
          go_simp
        · have hbe := HB3.out
          have hfin : TabAt (fun b => w.heap.size ≤ b) ((w3.setCell ⟨w.heap.size + 1, 0, none⟩ (.int .i64 q1)).setCell ⟨w.heap.size + 1, 1, none⟩ (.int .i64 q2)) u3 L3 := by
            refine ⟨?_, fun y hy => ?_⟩
            · refine At.imp (S := fun b => W2.heap.size ≤ b) ?_ (fun b hb _ => by omega)
              repeat (refine At.setCell ?_ (by simp; omega) _)
              exact HT3.out.1
            · refine Good.imp (S := fun b => W2.heap.size ≤ b) ?_ (fun b hb _ => by omega)
              repeat (refine Good.setCell ?_ (by simp; omega) _)
              exact HT3.out.2 y hy
          have hbf : Below w.heap.size w ((w3.setCell ⟨w.heap.size + 1, 0, none⟩ (.int .i64 q1)).setCell ⟨w.heap.size + 1, 1, none⟩ (.int .i64 q2)) := by
            repeat (first | exact hbe | refine Below.setCell ?_ (by simp) _)
          first
            | exact ⟨u3, rfl, L3, hfin, HP3.out, bel_drew hbf⟩
            | exact ⟨u3, L3, rfl, hfin, HP3.out, bel_drew hbf⟩
      · rw [if_neg hz, if_neg hz]
        have hz' : (ae != 0) = true := by simpa using hz
        go_enter Tryz.func17, Tryz.ntmps17
        obtain ⟨⟨a0, a1⟩, _⟩ := two_of HA0.out
        go_wp2_with fail
        rw [← hW]
        refine (refuseMake_any HCC.out _ L kc b s kind st _ HV.out HOK.out HSM.out).mono ?_
        rintro e w1 ⟨rfl, hb1⟩
        rw [HLE.out]
        have HB1 : Hid (Below w.heap.size w w1) := HB0.out.trans (hb1.mono HB0.out.size)
        have HA1 : Hid (w1.heap[w.heap.size]? = some (BH kc b)) := (hb1.block _ hws).trans HA0.out
        have HZ1 : Hid (w1.heap[w.heap.size + 1]? = some (BH 0 0)) := (hb1.block _ hwz).trans HZ0.out
        have hwz1 : w.heap.size + 1 < w1.heap.size := (Array.getElem?_eq_some_iff.1 HZ1.out).1
        have hwa1 : w.heap.size < w1.heap.size := by omega
        have HV1 : Hid (TabAt S w1 (.slice ao L.length cap) L) := HV.out.up hb1
        clear hb1 hW HV HA0 HZ0 a0 a1
        go_wp2_with fail
        refine (make_any _ L kind st _ HV1.out).mono ?_
        rintro e w2 ⟨u, L1, rfl, ht, hp, hb2⟩
        rw [HMH.out.1, HMH.out.2]
        have HB2 : Hid (Below w.heap.size w w2) := HB1.out.trans (hb2.mono HB1.out.size)
        have HA2 : Hid (w2.heap[w.heap.size]? = some (BH kc b)) := (hb2.block _ (by omega)).trans HA1.out
        have HZ2 : Hid (w2.heap[w.heap.size + 1]? = some (BH 0 0)) := (hb2.block _ hwz1).trans HZ1.out
        have hwz2 : w.heap.size + 1 < w2.heap.size := (Array.getElem?_eq_some_iff.1 HZ2.out).1
        have hwa2 : w.heap.size < w2.heap.size := by omega
        have HT1 : Hid (TabAt (fun b => w1.heap.size ≤ b) w2 u L1) := ht
        have HPL : Hid (pl L1 = T1) := hp.trans HTT.out
        obtain ⟨y1, hy1, hyi⟩ := Sp.pl_some (L := L1) (k := kc) (x := yc.i) (by rw [HPL.out]; exact HX1.out)
        have HY1 : Hid (L1[kc]? = some y1 ∧ y1.i = yc.i) := ⟨hy1, hyi⟩
        obtain ⟨W2, hW2⟩ : ∃ W2, W2 = w2.alloc (BH q1 q2) := ⟨_, rfl⟩
        have bb2 : Below w2.heap.size w2 W2 := by rw [hW2]; exact (Below.refl _ _).alloc (Nat.le_refl _) _
        have HBW : Hid (Below w.heap.size w W2) := HB2.out.trans (bb2.mono HB2.out.size)
        have HAW : Hid (W2.heap[w.heap.size]? = some (BH kc b) ∧ W2.heap[w2.heap.size]? = some (BH q1 q2) ∧ W2.heap[w.heap.size + 1]? = some (BH 0 0)) := ⟨(bb2.block _ (by omega)).trans HA2.out, by rw [hW2]; exact heap_alloc_new _ _, (bb2.block _ hwz2).trans HZ2.out⟩
        have HTW : Hid (TabAt (fun b => w1.heap.size ≤ b) W2 u L1) := HT1.out.up bb2
        have hws2 : w2.heap.size < W2.heap.size := (Array.getElem?_eq_some_iff.1 HAW.out.2.1).1
        have hwz3 : w.heap.size + 1 < W2.heap.size := (Array.getElem?_eq_some_iff.1 HAW.out.2.2).1
        obtain ⟨⟨a0, a1⟩, _⟩ := two_of HA2.out
        clear hb2 ht hp hy1 hyi bb2
        go_wp2_with fail
        rw [← hW2]
        refine (sadd_any _ L1 kc b q1 q2 st s y1 _ HTW.out HY1.out.1 (by rw [HY1.out.2]; exact HYC.out) HSM.out (by rw [HY1.out.2]; exact HADD.out)).mono ?_
        rintro e w3 ⟨u3, L3, rfl, ht3, hp3, hb3⟩
        rw [HY1.out.2] at hp3 ⊢
        rw [HAE.out] at hp3 ⊢
        have HB3 : Hid (Below w.heap.size w w3) := HBW.out.trans (hb3.mono HBW.out.size)
        have HZ3 : Hid (w3.heap[w.heap.size + 1]? = some (BH 0 0)) := (hb3.block _ hwz3).trans HAW.out.2.2
        have HQ3 : Hid (w3.heap[w2.heap.size]? = some (BH q1 q2)) := (hb3.block _ hws2).trans HAW.out.2.1
        have hwz4 : w.heap.size + 1 < w3.heap.size := (Array.getElem?_eq_some_iff.1 HZ3.out).1
        obtain ⟨⟨z0, z1⟩, zf⟩ := two_of HZ3.out
        obtain ⟨⟨p0, p1⟩, pf⟩ := two_of HQ3.out
        clear hb3 ht3 hp3 a0 a1 hW2 hz
        go_wp2
        (try simp only [Exit.inBlock, Exit.then])
        refine bodyPost_ret (v := .tuple #[.slice none 0 0, .agg #[.int .i64 0, .int .i64 0], .int .i64 ae]) ?_ rfl ?_
        · rw [results_tct rfl]
          go_simp
        · have hbe := HB3.out
          have hbs := hbe.size
          first
            | exact ⟨_, rfl, [], tab_nil _ _, rfl, by repeat (first | exact hbe | refine Below.setCell ?_ (by simp) _ | refine Below.alloc ?_ (by simp; omega) _)⟩
            | exact ⟨_, [], rfl, tab_nil _ _, rfl, by repeat (first | exact hbe | refine Below.setCell ?_ (by simp) _ | refine Below.alloc ?_ (by simp; omega) _)⟩
    · have hE : Sp.mkE C (pl L) kc b s kind st = me := by unfold Sp.mkE; rw [if_pos hle, if_neg (by rw [hme]; exact hm0), hme]
      have hT : Sp.mkT C (pl L) kc b s kind st = [] := by unfold Sp.mkT; rw [if_neg (by rw [hE]; exact hm0)]
      have hH : Sp.mkH C (pl L) kc b s kind st = (0, 0) := by unfold Sp.mkH; rw [if_neg (by rw [hE]; exact hm0)]
      rw [hE, hT, hH]
      have hz' : (me != 0) = true := by simpa using hm0
      clear hle hc0 hs1 hs2 hkk hd hr hfo hlen hxc hgc hkc hde hdn hfc hyc hE hT hH hme hq hM hm0
      go_enter Tryz.func17, Tryz.ntmps17
      obtain ⟨⟨a0, a1⟩, _⟩ := two_of HA0.out
      go_wp2_with fail
      rw [← hW]
      refine (refuseMake_any HCC.out _ L kc b s kind st _ HV.out HOK.out HSM.out).mono ?_
      rintro e w1 ⟨rfl, hb1⟩
      rw [HLE.out]
      have HB1 : Hid (Below w.heap.size w w1) := HB0.out.trans (hb1.mono HB0.out.size)
      have HA1 : Hid (w1.heap[w.heap.size]? = some (BH kc b)) := (hb1.block _ hws).trans HA0.out
      have HZ1 : Hid (w1.heap[w.heap.size + 1]? = some (BH 0 0)) := (hb1.block _ hwz).trans HZ0.out
      have hwz1 : w.heap.size + 1 < w1.heap.size := (Array.getElem?_eq_some_iff.1 HZ1.out).1
      have hwa1 : w.heap.size < w1.heap.size := by omega
      have HV1 : Hid (TabAt S w1 (.slice ao L.length cap) L) := HV.out.up hb1
      clear hb1 hW HV HA0 HZ0 a0 a1
      go_wp2_with fail
      refine (make_any _ L kind st _ HV1.out).mono ?_
      rintro e w2 ⟨u, L1, rfl, ht, hp, hb2⟩
      rw [HMH.out.1, HMH.out.2]
      have HB2 : Hid (Below w.heap.size w w2) := HB1.out.trans (hb2.mono HB1.out.size)
      have HA2 : Hid (w2.heap[w.heap.size]? = some (BH kc b)) := (hb2.block _ (by omega)).trans HA1.out
      have HZ2 : Hid (w2.heap[w.heap.size + 1]? = some (BH 0 0)) := (hb2.block _ hwz1).trans HZ1.out
      have hwz2 : w.heap.size + 1 < w2.heap.size := (Array.getElem?_eq_some_iff.1 HZ2.out).1
      have hwa2 : w.heap.size < w2.heap.size := by omega
      obtain ⟨⟨z0, z1⟩, zf⟩ := two_of HZ2.out
      clear hb2 ht hp
      go_wp2
      (try simp only [Exit.inBlock, Exit.then])
      refine bodyPost_ret (v := .tuple #[.slice none 0 0, .agg #[.int .i64 0, .int .i64 0], .int .i64 me]) ?_ rfl ?_
      · rw [results_tct rfl]
        go_simp
      · have hbe := HB2.out
        have hbs := hbe.size
        first
          | exact ⟨_, rfl, [], tab_nil _ _, rfl, by repeat (first | exact hbe | refine Below.setCell ?_ (by simp) _ | refine Below.alloc ?_ (by simp; omega) _)⟩
          | exact ⟨_, [], rfl, tab_nil _ _, rfl, by repeat (first | exact hbe | refine Below.setCell ?_ (by simp) _ | refine Below.alloc ?_ (by simp; omega) _)⟩
  · have hE : Sp.mkE C (pl L) a b s kind st = le := by unfold Sp.mkE; rw [if_neg (by rw [hle]; exact hz), hle]
    have hT : Sp.mkT C (pl L) a b s kind st = [] := by unfold Sp.mkT; rw [if_neg (by rw [hE]; exact hz)]
    have hH : Sp.mkH C (pl L) a b s kind st = (0, 0) := by unfold Sp.mkH; rw [if_neg (by rw [hE]; exact hz)]
    rw [hE, hT, hH]
    have hz' : (le != 0) = true := by simpa using hz
    clear hz hE hT hH hle hme hq hM
    go_enter Tryz.func17, Tryz.ntmps17
    obtain ⟨⟨a0, a1⟩, _⟩ := two_of HA0.out
    go_wp2_with fail
    rw [← hW]
    refine (refuseMake_any HCC.out _ L a b s kind st _ HV.out HOK.out HSM.out).mono ?_
    rintro e w1 ⟨rfl, hb1⟩
    rw [HLE.out]
    have HB1 : Hid (Below w.heap.size w w1) := HB0.out.trans (hb1.mono HB0.out.size)
    have HA1 : Hid (w1.heap[w.heap.size]? = some (BH a b)) := (hb1.block _ hws).trans HA0.out
    have HZ1 : Hid (w1.heap[w.heap.size + 1]? = some (BH 0 0)) := (hb1.block _ hwz).trans HZ0.out
    have hwz1 : w.heap.size + 1 < w1.heap.size := (Array.getElem?_eq_some_iff.1 HZ1.out).1
    have hwa1 : w.heap.size < w1.heap.size := by omega
    have HV1 : Hid (TabAt S w1 (.slice ao L.length cap) L) := HV.out.up hb1
    clear hb1 hW HV HA0 HZ0 a0 a1
    obtain ⟨⟨z0, z1⟩, zf⟩ := two_of HZ1.out
    go_wp2
    (try simp only [Exit.inBlock, Exit.then])
    refine bodyPost_ret (v := .tuple #[.slice none 0 0, .agg #[.int .i64 0, .int .i64 0], .int .i64 le]) ?_ rfl ?_
    · rw [results_tct rfl]
      go_simp
    · have hbe := HB1.out
      have hbs := hbe.size
      first
        | exact ⟨_, rfl, [], tab_nil _ _, rfl, by repeat (first | exact hbe | refine Below.setCell ?_ (by simp) _ | refine Below.alloc ?_ (by simp; omega) _)⟩
        | exact ⟨_, [], rfl, tab_nil _ _, rfl, by repeat (first | exact hbe | refine Below.setCell ?_ (by simp) _ | refine Below.alloc ?_ (by simp; omega) _)⟩
end Go.Proofs.YtacghcoikekfeaaGreat
/- RefB -/
namespace Go.Proofs.YtacghcoikekfeaaGreat
open Go.ChangeShapes Go.WideShapes Go.ChangeAt Go.RowKit Go.Deep It
set_option maxRecDepth 100000

theorem It.put_rw {L : List Rw} {no : Nat} {x : Rw} (h : no ≤ L.length) : pl (if no = L.length then L ++ [x] else L.set no x) = put (pl L) no x.i := by
  unfold put
  simp only [pl, List.length_map]
  by_cases hlt : no < L.length
  · rw [if_neg (by omega), if_pos hlt, List.map_set]
  · rw [if_pos (by omega), if_neg hlt]
    simp
set_option maxHeartbeats 4000000 in
set_option maxRecDepth 100000 in
theorem rwith_any {S T : Nat → Prop} (v : Value) (L : List Rw) (no : Nat) (x : Rw) (w : World) (hv : TabAt S w v L) (hx : Good T w x) (hL : L.length ≤ 24) (hno : no ≤ L.length) :
    Calls Tryz.prog 87 #[v, .int .i64 no, VI x] w fun e w' => ∃ u L', e = .returned u ∧ TabAt (fun b => S b ∨ T b ∨ w.heap.size ≤ b) w' u L' ∧ pl L' = put (pl L) no x.i ∧ Below w.heap.size w w' := by
  obtain ⟨i0, hi, hz0, hz1, hz2⟩ := info_parts infoI
  have HP := It.put_rw (x := x) hno
  have HGALL : Hid (∀ y, y = x ∨ y ∈ L → ∀ w', Below w.heap.size w w' → Good (fun b => S b ∨ T b ∨ w.heap.size ≤ b) w' y) := fun y hy w' hb => by
    rcases hy with rfl | hy
    · exact hx.keep hb.size fun b hS hl => ⟨hb.block b hl, .inr (.inl hS)⟩
    · exact (hv.2 y hy).keep hb.size fun b hS hl => ⟨hb.block b hl, .inl hS⟩
  obtain ⟨ao, cap, rfl, hm, hxx⟩ := hv.open
  clear hv hx hm
  obtain ⟨n, hn⟩ : ∃ n, L.length = n := ⟨_, rfl⟩
  rw [hn] at hL hno HP ⊢
  have HN : Hid (L.length = n) := hn
  have HX : Hid (∀ i x, L[i]? = some x → (∃ b off, ao = some ⟨b, off, none⟩ ∧ b < w.heap.size ∧ eight w b (off + i * 8) x) ∧ Good S w x) := hxx
  have HPP : Hid (pl (if no = n then L ++ [x] else L.set no x) = put (pl L) no x.i) := HP
  clear hn hxx HP
  obtain ⟨X, hX⟩ : ∃ X, X = x := ⟨_, rfl⟩
  rw [← hX] at HGALL HPP
  rw [← hX]
  obtain ⟨⟨g, k, l, s, t, rs, es, nx⟩, rp, rn, rc, ep, en, ec⟩ := x
  have HVI : Hid (VI X = .agg #[.int .i64 g, .int .i64 k, .int .i64 l, .int .i64 s, .int .i64 t, .slice rp rn rc, .slice ep en ec, .int .i64 nx]) := by show VI X = _; rw [hX]
  have HXC : Hid (Obj.cells (EI.cells X).toArray 65 (0, 0) = B8 g k l s t (.slice rp rn rc) (.slice ep en ec) nx) := by show _ = _; rw [hX]; rfl
  rw [HVI.out]
  clear hX
  obtain ⟨W, hW⟩ : ∃ W, W = w.alloc (B8 g k l s t (.slice rp rn rc) (.slice ep en ec) nx) := ⟨_, rfl⟩
  have HB0 : Hid (Below w.heap.size w W) := by show Below w.heap.size w W; rw [hW]; exact (Below.refl _ w).alloc (Nat.le_refl _) _
  have HA0 : Hid (W.heap[w.heap.size]? = some (B8 g k l s t (.slice rp rn rc) (.slice ep en ec) nx)) := by show W.heap[w.heap.size]? = _; rw [hW]; exact heap_alloc_new _ _
  have hws : w.heap.size < W.heap.size := by rw [hW]; simp
  go_enter Tryz.func87, Tryz.ntmps87
  go_wp2
  rw [← hW]
  clear hW
  go_loopw [7, 12] (fun u i wr => ∃ j : Nat, j ≤ n ∧ i = .int .i64 j ∧ Row EI wr W.heap.size 65 u ((L.set no X).take j) ∧ Hid (Below W.heap.size W wr)) (fun _ i _ => n - (intOf i).toNat)
  case atStart => exact ⟨0, Nat.zero_le _, rfl, Row.nil _ _ _ _, Below.refl _ _⟩
  case round =>
    obtain ⟨j, hj, rfl, hrow, HB⟩ := hrel
    have HA1 : Hid (wr.heap[w.heap.size]? = some (B8 g k l s t (.slice rp rn rc) (.slice ep en ec) nx)) := (HB.out.block _ hws).trans HA0.out
    have hbs := HB.out.size
    obtain ⟨pu, cu, hu⟩ := hrow.slice
    obtain ⟨q, hq⟩ : ∃ q, ((L.set no X).take j).length = q := ⟨_, rfl⟩
    have hqj : q = j := by rw [← hq]; simp [HN.out]; omega
    rw [hq] at hu
    have HQ : Hid (((L.set no X).take j).length = q) := hq
    have hq24 : q ≤ 24 := by omega
    subst hu
    by_cases hlt : j < n
    · obtain ⟨y, hyk⟩ : ∃ y, L[j]? = some y := ⟨_, List.getElem?_eq_getElem (by rw [HN.out]; exact hlt)⟩
      obtain ⟨⟨b, off, rfl, hB, hc⟩, _⟩ := HX.out j y hyk
      obtain ⟨d0, d1, d2, d3, d4, d5, d6, d7⟩ := hc.below (HB0.out.trans (HB.out.mono HB0.out.size)) hB
      have hlt' : (j : Int) < (n : Int) := by omega
      have HR : Hid (Row EI wr W.heap.size 65 (.slice pu q cu) ((L.set no X).take j)) := hrow
      obtain ⟨Y, hY⟩ : ∃ Y, Y = y := ⟨_, rfl⟩
      rw [← hY] at hyk
      obtain ⟨⟨yg, yk, yl, ys, yt, yrs, yes, ynx⟩, yrp, yrn, yrc, yep, yen, yec⟩ := y
      simp only at d0 d1 d2 d3 d4 d5 d6 d7
      have HYC : Hid (Obj.cells (EI.cells Y).toArray 65 (0, 0) = B8 yg yk yl ys yt (.slice yrp yrn yrc) (.slice yep yen yec) ynx) := by show _ = _; rw [hY]; rfl
      have HYK : Hid (L[j]? = some Y) := hyk
      clear hrow hyk hc hB hY
      by_cases hjn : j = no
      · have HT : Hid ((L.set no X).take (j + 1) = (L.set no X).take j ++ [X]) := It.take_succ (by rw [hjn, List.getElem?_set_self (by rw [HN.out]; omega)])
        have hjn' : ((j : Int) == (no : Int)) = true := by simp [hjn]
        have HA2 : Hid ((wr.alloc (B8 yg yk yl ys yt (.slice yrp yrn yrc) (.slice yep yen yec) ynx)).heap[w.heap.size]? = some (B8 g k l s t (.slice rp rn rc) (.slice ep en ec) nx)) := (Below.heap_alloc _ _ _ (by omega)).trans HA1.out
        obtain ⟨q0, q1, q2, q3, q4, q5, q6, q7⟩ := (eight_of HA2.out).1
        have HI : Hid (AtW EI ((wr.alloc (B8 yg yk yl ys yt (.slice yrp yrn yrc) (.slice yep yen yec) ynx)).alloc (B8 g k l s t (.slice rp rn rc) (.slice ep en ec) nx)) (.slice (some ⟨wr.heap.size + 1, 0, none⟩) 1 1) [X]) := by
          refine one_tab _ _ _ _ trivial ?_
          rw [HXC.out]
          have := heap_alloc_new (wr.alloc (B8 yg yk yl ys yt (.slice yrp yrn yrc) (.slice yep yen yec) ynx)) (B8 g k l s t (.slice rp rn rc) (.slice ep en ec) nx)
          rwa [show (wr.alloc (B8 yg yk yl ys yt (.slice yrp yrn yrc) (.slice yep yen yec) ynx)).heap.size = wr.heap.size + 1 by simp] at this
        clear hjn
        go_wp2_with (at_builtin; refine wpList_row _ rfl _ _ 22 rfl EI (fun _ => True) W.heap.size 65 i0 (.agg #[.int .i64 0, .int .i64 0, .int .i64 0, .int .i64 0, .int .i64 0, .slice none 0 0, .slice none 0 0, .int .i64 0]) 96 Tryz.underlying22 hi hz0 hz1 hz2 rfl (.slice pu q cu) ((L.set no X).take j) rfl ((HR.out.still (World.grownBy_alloc _ _ _)).still (World.grownBy_alloc _ _ _)) _ [X] rfl HI.out (by rw [HQ.out]; unfold maxLen; simp; omega) (by rw [HQ.out]; simp; omega) (by simp; omega) ?_; intro v7 w7 hrow7 hg7 hmv7)
        have HB7 : Hid (Below W.heap.size W w7) := ((HB.out.alloc hbs _).alloc (by simp; omega) _).grown hg7 (by simp; omega) (fun i hi => (HR.out.lt i hi).1)
        have HR7 : Hid (Row EI w7 W.heap.size 65 v7 ((L.set no X).take j ++ [X])) := hrow7
        clear hrow7 hg7 hmv7
        go_wp2
        go_roundw
        case rel => exact ⟨j + 1, by omega, by go_num, by rw [HT.out]; exact HR7.out, HB7⟩
        case measure => simp [intOf]; omega
      · have HT : Hid ((L.set no X).take (j + 1) = (L.set no X).take j ++ [Y]) := It.take_succ (by rw [List.getElem?_set_ne (fun e => hjn e.symm)]; exact HYK.out)
        have hjn' : ((j : Int) == (no : Int)) = false := by simp; omega
        have HI : Hid (AtW EI ((wr.alloc (B8 yg yk yl ys yt (.slice yrp yrn yrc) (.slice yep yen yec) ynx)).alloc (B8 yg yk yl ys yt (.slice yrp yrn yrc) (.slice yep yen yec) ynx)) (.slice (some ⟨wr.heap.size + 1, 0, none⟩) 1 1) [Y]) := by
          refine one_tab _ _ _ _ trivial ?_
          rw [HYC.out]
          have := heap_alloc_new (wr.alloc (B8 yg yk yl ys yt (.slice yrp yrn yrc) (.slice yep yen yec) ynx)) (B8 yg yk yl ys yt (.slice yrp yrn yrc) (.slice yep yen yec) ynx)
          rwa [show (wr.alloc (B8 yg yk yl ys yt (.slice yrp yrn yrc) (.slice yep yen yec) ynx)).heap.size = wr.heap.size + 1 by simp] at this
        clear hjn
        go_wp2_with (at_builtin; refine wpList_row _ rfl _ _ 22 rfl EI (fun _ => True) W.heap.size 65 i0 (.agg #[.int .i64 0, .int .i64 0, .int .i64 0, .int .i64 0, .int .i64 0, .slice none 0 0, .slice none 0 0, .int .i64 0]) 96 Tryz.underlying22 hi hz0 hz1 hz2 rfl (.slice pu q cu) ((L.set no X).take j) rfl ((HR.out.still (World.grownBy_alloc _ _ _)).still (World.grownBy_alloc _ _ _)) _ [Y] rfl HI.out (by rw [HQ.out]; unfold maxLen; simp; omega) (by rw [HQ.out]; simp; omega) (by simp; omega) ?_; intro v7 w7 hrow7 hg7 hmv7)
        have HB7 : Hid (Below W.heap.size W w7) := ((HB.out.alloc hbs _).alloc (by simp; omega) _).grown hg7 (by simp; omega) (fun i hi => (HR.out.lt i hi).1)
        have HR7 : Hid (Row EI w7 W.heap.size 65 v7 ((L.set no X).take j ++ [Y])) := hrow7
        clear hrow7 hg7 hmv7
        go_wp2
        go_roundw
        case rel => exact ⟨j + 1, by omega, by go_num, by rw [HT.out]; exact HR7.out, HB7⟩
        case measure => simp [intOf]; omega
    · obtain rfl : j = n := by omega
      have HR : Hid (Row EI wr W.heap.size 65 (.slice pu q cu) (L.set no X)) := by
        rw [List.take_of_length_le (by simp [HN.out])] at hrow
        exact hrow
      have HLS : Hid ((L.set no X).length = j) := by show (L.set no X).length = j; simp [HN.out]
      have HBW : Hid (Below w.heap.size w wr) := HB0.out.trans (HB.out.mono HB0.out.size)
      clear hrow hq HQ
      subst hqj
      by_cases hno2 : no = q
      · have hno' : ((no : Int) == (q : Int)) = true := by simp [hno2]
        obtain ⟨q0, q1, q2, q3, q4, q5, q6, q7⟩ := (eight_of HA1.out).1
        have HLX : Hid (L.set no X = L) := by show L.set no X = L; rw [List.set_eq_of_length_le (by rw [HN.out]; omega)]
        have HEND : Hid ((if no = q then L ++ [X] else L.set no X) = L.set no X ++ [X]) := by show (if no = q then L ++ [X] else L.set no X) = L.set no X ++ [X]; rw [if_pos hno2, HLX.out]
        have HI : Hid (AtW EI (wr.alloc (B8 g k l s t (.slice rp rn rc) (.slice ep en ec) nx)) (.slice (some ⟨wr.heap.size, 0, none⟩) 1 1) [X]) := by
          refine one_tab _ _ _ _ trivial ?_
          rw [HXC.out]
          exact heap_alloc_new _ _
        clear hno2
        go_wp2_with (at_builtin; refine wpList_row _ rfl _ _ 22 rfl EI (fun _ => True) W.heap.size 65 i0 (.agg #[.int .i64 0, .int .i64 0, .int .i64 0, .int .i64 0, .int .i64 0, .slice none 0 0, .slice none 0 0, .int .i64 0]) 96 Tryz.underlying22 hi hz0 hz1 hz2 rfl (.slice pu q cu) (L.set no X) rfl (HR.out.still (World.grownBy_alloc _ _ _)) _ [X] rfl HI.out (by rw [HLS.out]; unfold maxLen; simp; omega) (by rw [HLS.out]; simp; omega) (by simp; omega) ?_; intro v7 w7 hrow7 hg7 hmv7)
        have hbw7 : Below w.heap.size w w7 := (HBW.out.alloc HBW.out.size _).grown hg7 (by simp; have := HBW.out.size; omega) (fun i hi => by have := (HR.out.lt i hi).1; omega)
        have HB7 : Hid (Below w.heap.size w w7) := hbw7
        have HR7 : Hid (Row EI w7 W.heap.size 65 v7 (L.set no X ++ [X])) := hrow7
        obtain ⟨p7, c7, hv7⟩ := hrow7.slice
        generalize (L.set no X ++ [X]).length = m7 at hv7
        subst hv7
        clear hrow7 hg7 hmv7 hbw7
        go_wp2
        go_ret
        refine ⟨_, L.set no X ++ [X], rfl, ⟨HR7.out.at.imp fun b hb _ => .inr (.inr (by omega)), fun z hz => ?_⟩, by rw [← HEND.out]; exact HPP.out, HB7.out⟩
        refine HGALL.out z ?_ _ HB7.out
        rcases List.mem_append.1 hz with hz | hz
        · rw [HLX.out] at hz
          exact .inr hz
        · simp at hz
          exact .inl hz
      · have hno' : ((no : Int) == (q : Int)) = false := by simp; omega
        have HEND : Hid ((if no = q then L ++ [X] else L.set no X) = L.set no X) := if_neg hno2
        clear hno2
        go_wp2
        go_ret
        refine ⟨_, L.set no X, rfl, ⟨HR.out.at.imp fun b hb _ => .inr (.inr (by omega)), fun z hz => ?_⟩, by rw [← HEND.out]; exact HPP.out, HBW.out⟩
        refine HGALL.out z ?_ _ HBW.out
        rcases List.mem_or_eq_of_mem_set hz with hz | hz
        · exact .inr hz
        · exact .inl hz
end Go.Proofs.YtacghcoikekfeaaGreat
/- RefM -/
namespace Go.Proofs.YtacghcoikekfeaaGreat
open Go.ChangeShapes Go.WideShapes Go.ChangeAt Go.RowKit Go.Deep It
set_option maxRecDepth 100000

namespace It
/-- The least free place from k on; -1: there is none. -/
def noOf (L : List Ino) (k : Nat) : Int := if (nextFrom k (L.drop k)).1 = L.length then -1 else (nextFrom k (L.drop k)).1
def genOf (L : List Ino) (k : Nat) : Int := (nextFrom k (L.drop k)).2
theorem down_end (L : List Ino) : noOf L L.length = -1 ∧ genOf L L.length = 1 := by
  unfold noOf genOf
  simp [nextFrom]
theorem down_step {L : List Ino} {k : Nat} {x : Ino} (hx : L[k]? = some x) : (noOf L k = if x.kind = 0 ∧ x.gen < 1099511627776 then (k : Int) else noOf L (k + 1)) ∧ (genOf L k = if x.kind = 0 ∧ x.gen < 1099511627776 then x.gen + 1 else genOf L (k + 1)) := by
  have hk : k < L.length := (List.getElem?_eq_some_iff.1 hx).1
  have hxe : L[k] = x := (List.getElem?_eq_some_iff.1 hx).2
  unfold noOf genOf
  rw [List.drop_eq_getElem_cons hk, hxe]
  by_cases h : x.kind = 0 ∧ x.gen < 1099511627776
  · have e : nextFrom k (x :: L.drop (k + 1)) = ((k : Int), x.gen + 1) := by simp only [nextFrom]; rw [if_pos h]
    rw [if_pos h, if_pos h, e]
    exact ⟨if_neg (by show ¬ ((k : Int) = (L.length : Int)); omega), rfl⟩
  · have e : nextFrom k (x :: L.drop (k + 1)) = nextFrom (k + 1) (L.drop (k + 1)) := by simp only [nextFrom]; rw [if_neg h]
    rw [if_neg h, if_neg h, e]
    exact ⟨rfl, rfl⟩
theorem down_zero (L : List Ino) : (noOf L 0 = if (next L).1 = L.length then -1 else (next L).1) ∧ genOf L 0 = (next L).2 := ⟨rfl, rfl⟩
end It
def RMakeSaid (w : World) (L : List Ino) (kind stamp : Int) (e : Ending) (w' : World) : Prop :=
  ∃ u L', e = .returned (.tuple #[u, VH (makeH L kind stamp), .int .i64 (makeErr L kind stamp)]) ∧ TabW w' u L' ∧ pl L' = makeTab L kind stamp ∧ Below w.heap.size w w'
theorem rmake_said {w w' : World} {L : List Ino} {kind stamp : Int} {e : Ending} {er : Int} (h : makeErr L kind stamp = er) (hz : er ≠ 0) (he : e = .returned (.tuple #[.slice none 0 0, .agg #[.int .i64 0, .int .i64 0], .int .i64 er])) (hb : Below w.heap.size w w') : RMakeSaid w L kind stamp e w' := by
  refine ⟨_, [], ?_, tab_nil _ _, ?_, hb⟩
  · rw [he]
    unfold makeH
    rw [h, if_neg hz]
  · unfold makeTab
    rw [h, if_neg hz]
    rfl
set_option maxHeartbeats 2000000 in
theorem rmake_form {S : Nat → Prop} (v : Value) (L : List Rw) (kind stamp : Int) (w : World) (hv : TabAt S w v L) (hr : It.right (pl L) = false) :
    Calls Tryz.prog 50 #[v, .int .i64 kind, .int .i64 stamp] w fun e w' => RMakeSaid w (pl L) kind stamp e w' := by
  obtain ⟨W, hW⟩ : ∃ W, W = w.alloc (BH 0 0) := ⟨_, rfl⟩
  have HB0 : Hid (Below w.heap.size w W) := by show Below w.heap.size w W; rw [hW]; exact (Below.refl _ w).alloc (Nat.le_refl _) _
  have HA0 : Hid (W.heap[w.heap.size]? = some (BH 0 0)) := by show W.heap[w.heap.size]? = _; rw [hW]; exact heap_alloc_new _ _
  have hws : w.heap.size < W.heap.size := by rw [hW]; simp
  have HV : Hid (TabAt S W v L) := hv.up HB0.out
  have HR : Hid (It.right (pl L) = false) := hr
  have HE : Hid (makeErr (pl L) kind stamp = 4) := by show makeErr (pl L) kind stamp = 4; unfold makeErr; rw [hr]; rfl
  obtain ⟨ao, cap, rfl, _, _⟩ := hv.open
  clear hv hr
  go_enter Tryz.func50, Tryz.ntmps50
  go_wp2_with fail
  rw [← hW]
  refine (rright_any _ L _ HV.out).mono ?_
  rintro e w1 ⟨rfl, hb1⟩
  rw [HR.out]
  have HB1 : Hid (Below w.heap.size w w1) := HB0.out.trans (hb1.mono HB0.out.size)
  have HA1 : Hid (w1.heap[w.heap.size]? = some (BH 0 0)) := (hb1.block _ hws).trans HA0.out
  obtain ⟨⟨e0, e1⟩, ef⟩ := two_of HA1.out
  clear hb1 hW
  go_wp2
  (try simp only [Exit.inBlock, Exit.then])
  refine bodyPost_ret (v := .tuple #[.slice none 0 0, .agg #[.int .i64 0, .int .i64 0], .int .i64 4]) ?_ rfl (rmake_said HE.out (by decide) rfl ?_)
  · rw [results_tct rfl]
    go_simp
  · repeat (refine Below.setCell ?_ (by simp) _)
    exact HB1.out
set_option maxHeartbeats 2000000 in
theorem rmake_arg {S : Nat → Prop} (v : Value) (L : List Rw) (kind stamp : Int) (w : World) (hv : TabAt S w v L) (hr : It.right (pl L) = true) (ha : ¬ ((kind = 1 ∨ kind = 2) ∧ (0 ≤ stamp ∧ stamp ≤ 1099511627776))) :
    Calls Tryz.prog 50 #[v, .int .i64 kind, .int .i64 stamp] w fun e w' => RMakeSaid w (pl L) kind stamp e w' := by
  obtain ⟨W, hW⟩ : ∃ W, W = w.alloc (BH 0 0) := ⟨_, rfl⟩
  have HB0 : Hid (Below w.heap.size w W) := by show Below w.heap.size w W; rw [hW]; exact (Below.refl _ w).alloc (Nat.le_refl _) _
  have HA0 : Hid (W.heap[w.heap.size]? = some (BH 0 0)) := by show W.heap[w.heap.size]? = _; rw [hW]; exact heap_alloc_new _ _
  have hws : w.heap.size < W.heap.size := by rw [hW]; simp
  have HV : Hid (TabAt S W v L) := hv.up HB0.out
  have HR : Hid (It.right (pl L) = true) := hr
  have HE : Hid (makeErr (pl L) kind stamp = 1) := by show makeErr (pl L) kind stamp = 1; unfold makeErr; rw [if_pos hr, if_neg (by rw [It.arg_not ha]; decide)]
  obtain ⟨ao, cap, rfl, _, _⟩ := hv.open
  have hor : kind < 1 ∨ (¬ kind < 1 ∧ 2 < kind) ∨ (¬ kind < 1 ∧ ¬ 2 < kind ∧ stamp < 0) ∨ (¬ kind < 1 ∧ ¬ 2 < kind ∧ ¬ stamp < 0 ∧ 1099511627776 < stamp) := by omega
  clear hv hr ha
  rcases hor with h1 | ⟨h1, h2⟩ | ⟨h1, h2, h3⟩ | ⟨h1, h2, h3, h4⟩
  all_goals
    go_enter Tryz.func50, Tryz.ntmps50
    go_wp2_with fail
    rw [← hW]
    refine (rright_any _ L _ HV.out).mono ?_
    rintro e w1 ⟨rfl, hb1⟩
    rw [HR.out]
    have HB1 : Hid (Below w.heap.size w w1) := HB0.out.trans (hb1.mono HB0.out.size)
    have HA1 : Hid (w1.heap[w.heap.size]? = some (BH 0 0)) := (hb1.block _ hws).trans HA0.out
    obtain ⟨⟨e0, e1⟩, ef⟩ := two_of HA1.out
    clear hb1 hW
    go_wp2
    (try simp only [Exit.inBlock, Exit.then])
    refine bodyPost_ret (v := .tuple #[.slice none 0 0, .agg #[.int .i64 0, .int .i64 0], .int .i64 1]) ?_ rfl (rmake_said HE.out (by decide) rfl ?_)
    · rw [results_tct rfl]
      go_simp
    · repeat (refine Below.setCell ?_ (by simp) _)
      exact HB1.out
set_option maxHeartbeats 4000000 in
set_option maxRecDepth 100000 in
theorem rmake_ok {S : Nat → Prop} (v : Value) (L : List Rw) (kind stamp : Int) (w : World) (hv : TabAt S w v L) (hr : It.right (pl L) = true) (ha : (kind = 1 ∨ kind = 2) ∧ (0 ≤ stamp ∧ stamp ≤ 1099511627776)) :
    Calls Tryz.prog 50 #[v, .int .i64 kind, .int .i64 stamp] w fun e w' => RMakeSaid w (pl L) kind stamp e w' := by
  replace hv : TabAt (fun b => b < w.heap.size) w v L := hv.imp fun _ _ h => h
  obtain ⟨W, hW⟩ : ∃ W, W = w.alloc (BH 0 0) := ⟨_, rfl⟩
  have HB0 : Hid (Below w.heap.size w W) := by show Below w.heap.size w W; rw [hW]; exact (Below.refl _ w).alloc (Nat.le_refl _) _
  have HA0 : Hid (W.heap[w.heap.size]? = some (BH 0 0)) := by show W.heap[w.heap.size]? = _; rw [hW]; exact heap_alloc_new _ _
  have hws : w.heap.size < W.heap.size := by rw [hW]; simp
  have HV : Hid (TabAt (fun b => b < w.heap.size) W v L) := hv.up HB0.out
  have HR : Hid (It.right (pl L) = true) := hr
  have hao : argOk kind stamp = true := by unfold argOk; rw [decide_eq_true ha.1, decide_eq_true ha.2]; rfl
  have HME : Hid (makeErr (pl L) kind stamp = if (next (pl L)).1 = 24 then 407 else 0) := by show makeErr (pl L) kind stamp = _; unfold makeErr; rw [if_pos hr, if_pos hao]
  obtain ⟨ao, cap, rfl, _, _⟩ := hv.open
  obtain ⟨n, hn⟩ : ∃ n, L.length = n := ⟨_, rfl⟩
  rw [hn] at HV ⊢
  have HN : Hid (L.length = n) := hn
  have hn24 : n ≤ 24 := by rw [← hn]; exact It.right_len hr
  have hn1 : 1 ≤ n := by have := (It.right_iff.1 hr).1; simp only [pl, List.length_map] at this; omega
  have HPN : Hid ((pl L).length = n) := by show (pl L).length = n; simp [pl, hn]
  have HONE : Hid (∀ x ∈ L, one x.i = true) := fun x hx => (It.right_iff.1 hr).2.2 x.i (List.mem_map.2 ⟨x, hx, rfl⟩)
  have h1 : ¬ kind < 1 := by omega
  have h2 : ¬ 2 < kind := by omega
  have h3 : ¬ stamp < 0 := by omega
  have h4 : ¬ 1099511627776 < stamp := by omega
  clear hv hr ha hao hn
  go_enter Tryz.func50, Tryz.ntmps50
  go_wp2_with fail
  rw [← hW]
  refine (rright_any _ L _ HV.out).mono ?_
  rintro e w1 ⟨rfl, hb1⟩
  rw [HR.out]
  have HB1 : Hid (Below w.heap.size w w1) := HB0.out.trans (hb1.mono HB0.out.size)
  have HA1 : Hid (w1.heap[w.heap.size]? = some (BH 0 0)) := (hb1.block _ hws).trans HA0.out
  have HV1 : Hid (TabAt (fun b => b < w.heap.size) w1 (.slice ao n cap) L) := HV.out.up hb1
  obtain ⟨ao', cap', hv', _, hx⟩ := HV1.out.open
  simp only [Value.slice.injEq] at hv'
  obtain ⟨rfl, -, rfl⟩ := hv'
  have HX : Hid (∀ i x, L[i]? = some x → (∃ b off, ao = some ⟨b, off, none⟩ ∧ b < w1.heap.size ∧ eight w1 b (off + i * 8) x) ∧ Good (fun b => b < w.heap.size) w1 x) := hx
  clear hb1 hW hx
  go_wp2
  go_loopw [9, 10, 11] (fun a b i wr => ∃ k : Nat, k ≤ n ∧ i = .int .i64 ((k : Int) - 1) ∧ a = .int .i64 (noOf (pl L) k) ∧ b = .int .i64 (genOf (pl L) k) ∧ wr = w1) (fun _ _ i _ => (intOf i + 1).toNat)
  case atStart => exact ⟨n, Nat.le_refl _, by go_num, by rw [show noOf (pl L) n = -1 from by rw [← HPN.out]; exact (down_end _).1], by rw [show genOf (pl L) n = 1 from by rw [← HPN.out]; exact (down_end _).2], rfl⟩
  case round =>
    obtain ⟨k, hk, rfl, rfl, rfl, rfl⟩ := hrel
    by_cases hk0 : k = 0
    · subst hk0
      have hdz := down_zero (pl L)
      rw [HPN.out] at hdz
      obtain ⟨nx, hnx⟩ : ∃ nx, next (pl L) = nx := ⟨_, rfl⟩
      obtain ⟨hb0, hb1⟩ := It.next_bd (pl L)
      rw [hnx] at hdz hb0 hb1
      rw [HPN.out] at hb1
      obtain ⟨na, gen⟩ := nx
      obtain ⟨no, rfl⟩ := Int.eq_ofNat_of_zero_le hb0
      simp only at hdz hb1
      have HNX : Hid (next (pl L) = ((no : Int), gen)) := hnx
      have HNO : Hid (no ≤ n) := by show no ≤ n; omega
      rw [hdz.2]
      rw [show (((0 : Nat) : Int) - 1) = -1 from rfl]
      by_cases hnn : no = n
      · rw [show noOf (pl L) 0 = -1 from by rw [hdz.1, if_pos (by omega)]]
        have hm1 : ((-1 : Int) < 0) := by decide
        clear hdz hnx hb0 hb1
        by_cases h24 : n = 24
        · have HE2 : Hid (makeErr (pl L) kind stamp = 407) := by show makeErr (pl L) kind stamp = 407; rw [HME.out, HNX.out]; simp only; rw [if_pos (by omega)]
          have h24' : ((n : Int) == 24) = true := by simp [h24]
          obtain ⟨⟨e0, e1⟩, ef⟩ := two_of HA1.out
          clear h24 hnn
          go_wp2
          (try simp only [Exit.inBlock, Exit.then])
          refine bodyPost_ret (v := .tuple #[.slice none 0 0, .agg #[.int .i64 0, .int .i64 0], .int .i64 407]) ?_ rfl (rmake_said HE2.out (by decide) rfl ?_)
          · rw [results_tct rfl]
            go_simp
          · repeat (refine Below.setCell ?_ (by simp) _)
            exact HB1.out
        · have HE2 : Hid (makeErr (pl L) kind stamp = 0) := by show makeErr (pl L) kind stamp = 0; rw [HME.out, HNX.out]; simp only; rw [if_neg (by omega)]
          have h24' : ((n : Int) == 24) = false := by simp; omega
          subst hnn
          clear h24
          have HBF : Hid (Below w.heap.size w (wr.alloc (B8 gen kind 1 0 stamp (.slice none 0 0) (.slice none 0 0) 0))) := HB1.out.alloc HB1.out.size _
          have HVF : Hid (TabAt (fun b => b < w.heap.size) (wr.alloc (B8 gen kind 1 0 stamp (.slice none 0 0) (.slice none 0 0) 0)) (.slice ao no cap) L) := HV1.out.up ((Below.refl _ _).alloc (Nat.le_refl _) _)
          have HAF : Hid ((wr.alloc (B8 gen kind 1 0 stamp (.slice none 0 0) (.slice none 0 0) 0)).heap[w.heap.size]? = some (BH 0 0)) := (Below.heap_alloc _ _ _ (Array.getElem?_eq_some_iff.1 HA1.out).1).trans HA1.out
          go_wp2_with fail
          refine (rwith_any _ L no (It.bare (fresh gen kind stamp)) _ HVF.out (good_bare (fun _ => False) _ rfl rfl) (by rw [HN.out]; exact hn24) (by rw [HN.out]; exact HNO.out)).mono ?_
          rintro e w4 ⟨tb, L4, rfl, ht4, hp4, hb4⟩
          have HA4 : Hid (w4.heap[w.heap.size]? = some (BH 0 0)) := (hb4.block _ (Array.getElem?_eq_some_iff.1 HAF.out).1).trans HAF.out
          have HNE : Hid (TabAt (fun b => b ≠ w.heap.size) w4 tb L4 ∧ pl L4 = put (pl L) no (fresh gen kind stamp) ∧ Below w.heap.size w w4) := ⟨ht4.imp fun b hb _ => by
            have h5 : w.heap.size < (wr.alloc (B8 gen kind 1 0 stamp (.slice none 0 0) (.slice none 0 0) 0)).heap.size := (Array.getElem?_eq_some_iff.1 HAF.out).1
            rcases hb with hb | hb | hb
            · omega
            · exact hb.elim
            · omega, hp4, HBF.out.trans (hb4.mono HBF.out.size)⟩
          obtain ⟨⟨r0, r1⟩, rf⟩ := two_of HA4.out
          clear ht4 hp4 hb4
          go_wp2
          (try simp only [Exit.inBlock, Exit.then])
          refine bodyPost_ret (v := .tuple #[tb, .agg #[.int .i64 no, .int .i64 gen], .int .i64 0]) ?_ rfl ⟨tb, L4, ?_, ?_, ?_, ?_⟩
          · rw [results_tct rfl]
            go_simp
          · unfold makeH
            rw [HE2.out, if_pos rfl, HNX.out]
          · refine ⟨?_, fun y hy => ?_⟩
            · refine At.imp (S := fun b => b ≠ w.heap.size) ?_ (fun _ _ _ => trivial)
              repeat (refine At.setCell ?_ (by simp) _)
              exact HNE.out.1.1
            · refine Good.imp (S := fun b => b ≠ w.heap.size) ?_ (fun _ _ _ => trivial)
              repeat (refine Good.setCell ?_ (by simp) _)
              exact HNE.out.1.2 y hy
          · unfold makeTab
            rw [HE2.out, if_pos rfl, HNX.out]
            exact HNE.out.2.1
          · repeat (refine Below.setCell ?_ (by simp) _)
            exact HNE.out.2.2
      · rw [show noOf (pl L) 0 = (no : Int) from by rw [hdz.1, if_neg (by omega)]]
        have HE2 : Hid (makeErr (pl L) kind stamp = 0) := by show makeErr (pl L) kind stamp = 0; rw [HME.out, HNX.out]; simp only; rw [if_neg (by omega)]
        have hno0 : ¬ ((no : Int) < 0) := by omega
        clear hdz hnx hb0 hb1 hnn
        have HBF : Hid (Below w.heap.size w (wr.alloc (B8 gen kind 1 0 stamp (.slice none 0 0) (.slice none 0 0) 0))) := HB1.out.alloc HB1.out.size _
        have HVF : Hid (TabAt (fun b => b < w.heap.size) (wr.alloc (B8 gen kind 1 0 stamp (.slice none 0 0) (.slice none 0 0) 0)) (.slice ao n cap) L) := HV1.out.up ((Below.refl _ _).alloc (Nat.le_refl _) _)
        have HAF : Hid ((wr.alloc (B8 gen kind 1 0 stamp (.slice none 0 0) (.slice none 0 0) 0)).heap[w.heap.size]? = some (BH 0 0)) := (Below.heap_alloc _ _ _ (Array.getElem?_eq_some_iff.1 HA1.out).1).trans HA1.out
        go_wp2_with fail
        refine (rwith_any _ L no (It.bare (fresh gen kind stamp)) _ HVF.out (good_bare (fun _ => False) _ rfl rfl) (by rw [HN.out]; exact hn24) (by rw [HN.out]; exact HNO.out)).mono ?_
        rintro e w4 ⟨tb, L4, rfl, ht4, hp4, hb4⟩
        have HA4 : Hid (w4.heap[w.heap.size]? = some (BH 0 0)) := (hb4.block _ (Array.getElem?_eq_some_iff.1 HAF.out).1).trans HAF.out
        have HNE : Hid (TabAt (fun b => b ≠ w.heap.size) w4 tb L4 ∧ pl L4 = put (pl L) no (fresh gen kind stamp) ∧ Below w.heap.size w w4) := ⟨ht4.imp fun b hb _ => by
          have h5 : w.heap.size < (wr.alloc (B8 gen kind 1 0 stamp (.slice none 0 0) (.slice none 0 0) 0)).heap.size := (Array.getElem?_eq_some_iff.1 HAF.out).1
          rcases hb with hb | hb | hb
          · omega
          · exact hb.elim
          · omega, hp4, HBF.out.trans (hb4.mono HBF.out.size)⟩
        obtain ⟨⟨r0, r1⟩, rf⟩ := two_of HA4.out
        clear ht4 hp4 hb4
        go_wp2
        (try simp only [Exit.inBlock, Exit.then])
        refine bodyPost_ret (v := .tuple #[tb, .agg #[.int .i64 no, .int .i64 gen], .int .i64 0]) ?_ rfl ⟨tb, L4, ?_, ?_, ?_, ?_⟩
        · rw [results_tct rfl]
          go_simp
        · unfold makeH
          rw [HE2.out, if_pos rfl, HNX.out]
        · refine ⟨?_, fun y hy => ?_⟩
          · refine At.imp (S := fun b => b ≠ w.heap.size) ?_ (fun _ _ _ => trivial)
            repeat (refine At.setCell ?_ (by simp) _)
            exact HNE.out.1.1
          · refine Good.imp (S := fun b => b ≠ w.heap.size) ?_ (fun _ _ _ => trivial)
            repeat (refine Good.setCell ?_ (by simp) _)
            exact HNE.out.1.2 y hy
        · unfold makeTab
          rw [HE2.out, if_pos rfl, HNX.out]
          exact HNE.out.2.1
        · repeat (refine Below.setCell ?_ (by simp) _)
          exact HNE.out.2.2
    · obtain ⟨j, rfl⟩ : ∃ j, k = j + 1 := ⟨k - 1, by omega⟩
      obtain ⟨y, hyk⟩ : ∃ y, L[j]? = some y := ⟨_, List.getElem?_eq_getElem (by rw [HN.out]; omega)⟩
      obtain ⟨⟨b, off, rfl, hB, hc⟩, _⟩ := HX.out j y hyk
      obtain ⟨c0, c1, _⟩ := hc
      obtain ⟨hs1, hs2⟩ := down_step (It.pl_get hyk)
      have hbd := It.one_bd (HONE.out y (List.mem_of_getElem? hyk))
      rw [show (((j + 1 : Nat) : Int) - 1) = (j : Int) from by omega]
      have hjI : (j : Int) < (n : Int) := by omega
      have hj0 : (0 : Int) ≤ (j : Int) := by omega
      obtain ⟨A, hA⟩ : ∃ A, noOf (pl L) (j + 1) = A := ⟨_, rfl⟩
      obtain ⟨G, hG⟩ : ∃ G, genOf (pl L) (j + 1) = G := ⟨_, rfl⟩
      rw [hA] at hs1 ⊢
      rw [hG] at hs2 ⊢
      obtain ⟨⟨g, kk, l, s, t, rs, es, nx⟩, rp, rn, rc, ep, en, ec⟩ := y
      simp only at c0 c1 hs1 hs2 hbd
      obtain ⟨hg1, hg2⟩ := hbd
      clear hyk hA hG hB hk0
      by_cases hkd : kk = 0
      · have hkd' : (kk == 0) = true := by simp [hkd]
        by_cases hge : g < 1099511627776
        · have HS : Hid (noOf (pl L) j = (j : Int) ∧ genOf (pl L) j = g + 1) := by rw [hs1, hs2, if_pos ⟨hkd, hge⟩, if_pos ⟨hkd, hge⟩]; exact ⟨rfl, rfl⟩
          clear hkd hs1 hs2
          go_wp2
          go_roundw
          case rel => exact ⟨j, by omega, by go_num, by rw [HS.out.1], by rw [HS.out.2], trivial⟩
          case measure => simp [intOf]
        · have HS : Hid (noOf (pl L) j = A ∧ genOf (pl L) j = G) := by rw [hs1, hs2, if_neg (fun h => hge h.2), if_neg (fun h => hge h.2)]; exact ⟨rfl, rfl⟩
          clear hkd hs1 hs2
          go_wp2
          go_roundw
          case rel => exact ⟨j, by omega, by go_num, by rw [HS.out.1], by rw [HS.out.2], trivial⟩
          case measure => simp [intOf]
      · have hkd' : (kk == 0) = false := by simp [hkd]
        have HS : Hid (noOf (pl L) j = A ∧ genOf (pl L) j = G) := by rw [hs1, hs2, if_neg (fun h => hkd h.1), if_neg (fun h => hkd h.1)]; exact ⟨rfl, rfl⟩
        clear hkd hs1 hs2
        go_wp2
        go_roundw
        case rel => exact ⟨j, by omega, by go_num, by rw [HS.out.1], by rw [HS.out.2], trivial⟩
        case measure => simp [intOf]
theorem rmake_any {S : Nat → Prop} (v : Value) (L : List Rw) (kind stamp : Int) (w : World) (hv : TabAt S w v L) :
    Calls Tryz.prog 50 #[v, .int .i64 kind, .int .i64 stamp] w fun e w' => RMakeSaid w (pl L) kind stamp e w' := by
  cases hr : It.right (pl L) with
  | true =>
    by_cases ha : (kind = 1 ∨ kind = 2) ∧ (0 ≤ stamp ∧ stamp ≤ 1099511627776)
    · exact rmake_ok v L kind stamp w hv hr ha
    · exact rmake_arg v L kind stamp w hv hr ha
  | false => exact rmake_form v L kind stamp w hv hr
end Go.Proofs.YtacghcoikekfeaaGreat
