/-
  The texts SRef13, RSo, RRt0, RRt, as one.
-/
import Derived.Test.YtacghcoikekfeaaGreatM12
/- SRef13 -/
namespace Go.Proofs.YtacghcoikekfeaaGreat
open Go.ChangeShapes Go.WideShapes Go.ChangeAt Go.RowKit Go.Deep It
set_option maxRecDepth 100000
/-- What is reached from a folder is what is inside it; nothing is inside a file. -/
def Sp.InsMeans (C : List Ino → Int) (I : List Ino → Int → Int → Bool) : Prop := ∀ (L : List Ino) (no c : Nat), C L = 0 → Sp.dirAt L c = true → no < L.length →
  (Sp.dirAt L no = true → ∀ f, Sp.Sound L no f → Sp.Full L no L.length f → f c = I L no c) ∧ (Sp.dirAt L no = false → I L no c = false)
theorem Sp.nameErr_dir {L : List Ino} {a b : Int} {s : ByteArray} (h : Sp.nameErr L a b s = 0 ∨ Sp.nameErr L a b s = 403) : Sp.dirErr L a b = 0 := by
  by_cases hd : Sp.dirErr L a b = 0
  · exact hd
  · have h1 : Sp.lookErr L a b s = Sp.dirErr L a b := by unfold Sp.lookErr; rw [if_neg hd]
    have h2 := Sp.dirErr_four L a b
    unfold Sp.nameErr at h
    rw [h1, if_neg hd, if_neg (by omega)] at h
    omega
set_option maxHeartbeats 8000000 in
theorem rrename_any {R : List Ino → Bool} {I : List Ino → Int → Int → Bool} (hR : RtSaid R) (hM : Sp.ChkMeans (Sp.chk R)) (hI : Sp.InsMeans (Sp.chk R) I) {S : Nat → Prop} (v : Value) (L : List Rw) (a b : Int) (s : ByteArray) (c d : Int) (s2 : ByteArray) (st : Int) (w : World) (hv : TabAt S w v L) (hok : Sp.okN L) (hs : s.size ≤ maxLen) (hs2 : s2.size ≤ maxLen) :
    Calls Tryz.prog 27 #[v, .agg #[.int .i64 a, .int .i64 b], .string s, .agg #[.int .i64 c, .int .i64 d], .string s2, .int .i64 st] w fun e w' =>
      ∃ u L', e = .returned (.tuple #[u, .int .i64 (Sp.rnE (Sp.chk R) I (pl L) a b s c d s2 st)]) ∧ TabW w' u L' ∧ pl L' = Sp.rnT (Sp.chk R) I (pl L) a b s c d s2 st ∧ Below w.heap.size w w' := by
  obtain ⟨W, hW⟩ : ∃ W, W = (w.alloc (BH a b)).alloc (BH c d) := ⟨_, rfl⟩
  have HB0 : Hid (Below w.heap.size w W) := by show Below w.heap.size w W; rw [hW]; exact ((Below.refl _ w).alloc (Nat.le_refl _) _).alloc (by simp) _
  have HA0 : Hid (W.heap[w.heap.size]? = some (BH a b) ∧ W.heap[w.heap.size + 1]? = some (BH c d)) := by
    rw [hW]
    refine ⟨(Below.heap_alloc _ _ _ (by simp)).trans (heap_alloc_new _ _), ?_⟩
    have := heap_alloc_new (w.alloc (BH a b)) (BH c d)
    rwa [show (w.alloc (BH a b)).heap.size = w.heap.size + 1 by simp] at this
  have hws0 : w.heap.size + 1 < W.heap.size := by rw [hW]; simp
  have HV : Hid (TabAt S W v L) := hv.up HB0.out
  have HVW : Hid (∀ V, Below w.heap.size w V → TabAt S V v L) := fun V h => hv.up h
  obtain ⟨ao, cap, rfl, hm, hx⟩ := hv.open
  have HOK : Hid (Sp.okN L) := hok
  have HSM : Hid (s.size ≤ maxLen ∧ s2.size ≤ maxLen) := ⟨hs, hs2⟩
  have HRR : Hid (RtSaid R) := hR
  have hno : ∀ e, Sp.rnE (Sp.chk R) I (pl L) a b s c d s2 st = e → e ≠ 0 → Sp.rnT (Sp.chk R) I (pl L) a b s c d s2 st = [] := fun e h h0 => by unfold Sp.rnT; rw [if_neg (by rw [h]; exact h0)]
  clear hv hok hs hs2 hR hm
  by_cases hse : Sp.stErr (Sp.chk R) (pl L) st = 0
  · have HSE : Hid (Sp.stErr (Sp.chk R) (pl L) st = 0) := hse
    have hc0 := (Sp.stErr_zero hse).1
    obtain ⟨hr0, -, hlen, -⟩ := hM _ hc0
    have HRT : Hid (It.right (pl L) = true) := hr0
    obtain ⟨q, hq⟩ : ∃ q, Sp.lookH (pl L) a b s = q := ⟨_, rfl⟩
    obtain ⟨te, hte⟩ : ∃ te, Sp.lookErr (pl L) a b s = te := ⟨_, rfl⟩
    have HLK2 : Hid (Sp.lookH (pl L) a b s = q ∧ Sp.lookErr (pl L) a b s = te) := ⟨hq, hte⟩
    have hto : Sp.toErr (Sp.chk R) (pl L) st a b s = te := by unfold Sp.toErr; rw [if_pos hse, hte]
    have htoH : Sp.toH (Sp.chk R) (pl L) st a b s = q := by unfold Sp.toH; rw [if_pos hse, hq]
    clear hr0
    by_cases hz : te = 0
    · subst hz
      obtain ⟨kc, xc, j, en, kt, xt, rfl, hxc, hgc, hkc, hfc, hff, hpl, hj, hqe, hkt, hkt0, hxt, hgt, hkt2, hlk, hft, hit, hic, hr, hst, hlenc⟩ := Sp.to_zero hM hto
      rw [htoH] at hqe
      subst hqe
      obtain ⟨yc, hyc, rfl⟩ := Sp.pl_some hxc
      obtain ⟨yt, hyt, rfl⟩ := Sp.pl_some hxt
      obtain ⟨⟨bb, off, rfl, hB, hc8⟩, hgd0⟩ := hx kt yt hyt
      have HX8 : Hid (∀ V, Below w.heap.size w V → eight V bb (off + kt * 8) yt) := fun V h => hc8.below h hB
      have HKT : Hid (kt < L.length) := (List.getElem?_eq_some_iff.1 hyt).1
      have hkl : (kt : Int) < (L.length : Int) := by have := HKT.out; omega
      have hL24 : L.length ≤ 24 := by have := (Sp.right_len hr).2; rw [List.length_map] at this; exact this
      obtain ⟨en1, en2, en3, g⟩ := en
      simp only at htoH hq hkt hgt hft hit HLK2
      subst hkt
      clear hx
      obtain ⟨ne, hne⟩ : ∃ ne, Sp.nameErr (pl L) c d s2 = ne := ⟨_, rfl⟩
      have HNE : Hid (Sp.nameErr (pl L) c d s2 = ne) := hne
      have hEm : ∀ m, Sp.moveErr I (pl L) kt c d s2 = m → m ≠ 0 → Sp.rnE (Sp.chk R) I (pl L) kc b s c d s2 st = m := fun m h h0 => by
        unfold Sp.rnE
        rw [hto, if_pos rfl, htoH, h, if_neg h0]
      by_cases hn : ne = 0 ∨ ne = 403
      · obtain ⟨kd, xd, rfl, hxd, hgd, hkd, -, -, -, -⟩ := Sp.dir_get (Sp.nameErr_dir (by rw [hne]; exact hn))
        obtain ⟨yd, hyd, rfl⟩ := Sp.pl_some hxd
        have HKD : Hid (kd < L.length) := (List.getElem?_eq_some_iff.1 hyd).1
        have hkdl : (kd : Int) < (L.length : Int) := by have := HKD.out; omega
        have hdc : Sp.dirAt (pl L) kd = true := by unfold Sp.dirAt; rw [hxd]; simp [hkd]
        obtain ⟨iv, hiv⟩ : ∃ iv, I (pl L) kt kd = iv := ⟨_, rfl⟩
        have HIV : Hid (I (pl L) kt kd = iv) := hiv
        have hI2 := hI (pl L) kt kd hc0 hdc (by rw [List.length_map]; exact HKT.out)
        have hdt : Sp.dirAt (pl L) kt = (yt.i.kind == 2) := by unfold Sp.dirAt; rw [hxt]
        -- the case that goes on
        have hlend := (hM _ hc0).2.2.1 yd.i (List.mem_of_getElem? hxd)
        have hst0 : 0 ≤ st := Int.le_trans (Sp.top_nonneg _) hst.1
        obtain ⟨-, hr1⟩ := Sp.less_right (s := s) hr hxc hgc hkc hfc ⟨hst0, hst.2⟩ hlenc
        obtain ⟨x1, hx1, -, -, hl1, hsub, -, -⟩ := Sp.mid (es := yc.i.ents.eraseIdx (Fo.plc yc.i.ents yc.i.next s).toNat) (st := st) hxc hkc (Nat.le_trans (List.length_eraseIdx_le ..) hlenc) (fun e he => List.mem_of_mem_eraseIdx he) hst hxd hkd hlend hr1
        have hld : Sp.lessDir (pl L) kc b s st = (pl L).set kc (Sp.filled yc.i (yc.i.ents.eraseIdx (Fo.plc yc.i.ents yc.i.next s).toNat) yc.i.next st) := by
          unfold Sp.lessDir
          rw [hic]
          rfl
        obtain ⟨T1, hT1⟩ : ∃ T1, (pl L).set kc (Sp.filled yc.i (yc.i.ents.eraseIdx (Fo.plc yc.i.ents yc.i.next s).toNat) yc.i.next st) = T1 := ⟨_, rfl⟩
        have HT1 : Hid ((pl L).set kc (Sp.filled yc.i (yc.i.ents.eraseIdx (Fo.plc yc.i.ents yc.i.next s).toNat) yc.i.next st) = T1) := hT1
        rw [hT1] at hx1 hld
        have hmid : Sp.midI (pl L) kc b s st kd = x1 := by
          unfold Sp.midI
          rw [hld, show ((kd : Int)).toNat = kd by omega, hx1]
          rfl
        obtain ⟨ae, hae⟩ : ∃ ae, Fo.addErr x1.ents x1.next s2 kt g = ae := ⟨_, rfl⟩
        have HAE : Hid (Fo.addErr x1.ents x1.next s2 kt g = ae) := hae
        have HX1 : Hid (T1[kd]? = some x1 ∧ (∀ e ∈ x1.ents, e.1.size ≤ maxLen) ∧ x1.ents.length ≤ 1000000) := ⟨hx1, fun e he => HOK.out yd (List.mem_of_getElem? hyd) e (hsub e he), by omega⟩
        have HYC : Hid (L[kc]? = some yc ∧ (∀ e ∈ yc.i.ents, e.1.size ≤ maxLen) ∧ Fo.findErr yc.i.ents yc.i.next s = 0) := ⟨hyc, HOK.out yc (List.mem_of_getElem? hyc), hff⟩
        have hEa : Sp.moveErr I (pl L) kt kd d s2 = 0 → Sp.rnE (Sp.chk R) I (pl L) kc b s kd d s2 st = ae := fun h => by
          unfold Sp.rnE
          rw [hto, if_pos rfl, htoH, h, if_pos rfl, hmid, hae]
        obtain ⟨RT, hRT⟩ : ∃ RT, Sp.rnT (Sp.chk R) I (pl L) kc b s kd d s2 st = RT := ⟨_, rfl⟩
        have HRT2 : Sp.moveErr I (pl L) kt kd d s2 = 0 → Hid ((ae = 0 → RT = T1.set kd (Sp.filled x1 (x1.ents ++ [(s2, x1.next + 1, (kt : Int), g)]) (x1.next + 1) st)) ∧ (ae ≠ 0 → RT = [])) := fun h => by
          have hE := hEa h
          refine ⟨fun h0 => ?_, fun h0 => ?_⟩
          · rw [← hRT]
            unfold Sp.rnT
            rw [hE, if_pos h0, htoH, hmid, hld, show ((kd : Int)).toNat = kd by omega]
          · rw [← hRT]
            unfold Sp.rnT
            rw [hE, if_neg h0]
        clear hx1 hld hmid hae hl1 hsub hr1 hlend hst0 hT1 hyd
        by_cases hk2 : yt.i.kind = 2
        · have HK2 : Hid (yt.i.kind = 2) := hk2
          have HII : Hid (∀ f, Sp.Sound (pl L) kt f → Sp.Full (pl L) kt (pl L).length f → f kd = I (pl L) kt kd) := hI2.1 (by rw [hdt, hk2]; rfl)
          cases iv
          · have hmv : Sp.moveErr I (pl L) kt kd d s2 = ne := by unfold Sp.moveErr; rw [hiv, if_neg (by simp), hne]
            rcases hn with rfl | rfl
            · have HRT3 := HRT2 hmv
              rw [hEa hmv, hRT]
              clear HRT2
              have HRT2 := HRT3
              clear hno hse hc0 hr hlen hq hte hto htoH hxc hgc hkc hfc hff hpl hj hkt0 hxt hgt hkt2 hlk hft hit hic hst hlenc hyc hyt hc8 hgd0 hM hI hmv hRT hEa hEm hdc hdt hI2 hiv hk2 hxd hgd hkd hne HRT3
              go_enter Tryz.func27, Tryz.ntmps27
              go_wp2_with fail
              rw [← hW]
              refine (rasked_any HRR.out _ L st _ HV.out HOK.out).mono ?_
              rintro e w1 ⟨rfl, hb1⟩
              rw [HSE.out]
              have HB1 : Hid (Below w.heap.size w w1) := HB0.out.trans (hb1.mono HB0.out.size)
              have HA1 : Hid (w1.heap[w.heap.size]? = some (BH kc b) ∧ w1.heap[w.heap.size + 1]? = some (BH kd d)) := ⟨(hb1.block _ (by omega)).trans HA0.out.1, (hb1.block _ hws0).trans HA0.out.2⟩
              have hws1 : w.heap.size + 1 < w1.heap.size := (Array.getElem?_eq_some_iff.1 HA1.out.2).1
              clear hb1 hW
              obtain ⟨⟨a0, a1⟩, _⟩ := two_of HA1.out.1
              go_wp2_with fail
              clear a0 a1
              refine (rlook_any _ L kc b s _ (HVW.out _ HB1.out) HOK.out HSM.out.1 HRT.out).mono ?_
              rintro e w2 ⟨rfl, hb2⟩
              rw [HLK2.out.1, HLK2.out.2]
              have HB2 : Hid (Below w.heap.size w w2) := HB1.out.trans (hb2.mono HB1.out.size)
              have HA2 : Hid (w2.heap[w.heap.size]? = some (BH kc b) ∧ w2.heap[w.heap.size + 1]? = some (BH kd d)) := ⟨(hb2.block _ (by omega)).trans HA1.out.1, (hb2.block _ hws1).trans HA1.out.2⟩
              have hws2 : w.heap.size + 1 < w2.heap.size := (Array.getElem?_eq_some_iff.1 HA2.out.2).1
              clear hb2
              obtain ⟨W2, hW2⟩ : ∃ W2, W2 = w2.alloc (BH kt g) := ⟨_, rfl⟩
              have bb2 : Below w2.heap.size w2 W2 := by rw [hW2]; exact (Below.refl _ _).alloc (Nat.le_refl _) _
              have HBW : Hid (Below w.heap.size w W2) := HB2.out.trans (bb2.mono HB2.out.size)
              have HAW : Hid (W2.heap[w.heap.size]? = some (BH kc b) ∧ W2.heap[w2.heap.size]? = some (BH kt g) ∧ W2.heap[w.heap.size + 1]? = some (BH kd d)) := ⟨(bb2.block _ (by omega)).trans HA2.out.1, by rw [hW2]; exact heap_alloc_new _ _, (bb2.block _ hws2).trans HA2.out.2⟩
              have hwt2 : w2.heap.size < W2.heap.size := (Array.getElem?_eq_some_iff.1 HAW.out.2.1).1
              obtain ⟨⟨g0, g1⟩, _⟩ := two_of HA2.out.2
              clear bb2
              go_wp2_with fail
              rw [← hW2]
              clear g0 g1 hW2
              refine (rfree_any _ L kd d s2 _ (HVW.out _ HBW.out) HOK.out HSM.out.2 HRT.out).mono ?_
              rintro e w3 ⟨rfl, hb3⟩
              rw [HNE.out]
              have HB3 : Hid (Below w.heap.size w w3) := HBW.out.trans (hb3.mono HBW.out.size)
              have HA3 : Hid (w3.heap[w.heap.size]? = some (BH kc b) ∧ w3.heap[w2.heap.size]? = some (BH kt g) ∧ w3.heap[w.heap.size + 1]? = some (BH kd d)) := ⟨(hb3.block _ (by omega)).trans HAW.out.1, (hb3.block _ hwt2).trans HAW.out.2.1, (hb3.block _ (by omega)).trans HAW.out.2.2⟩
              have hwt3 : w2.heap.size < w3.heap.size := (Array.getElem?_eq_some_iff.1 HA3.out.2.1).1
              have hws3 : w.heap.size + 1 < w3.heap.size := (Array.getElem?_eq_some_iff.1 HA3.out.2.2).1
              clear hb3
              obtain ⟨⟨t0, t1⟩, _⟩ := two_of HA3.out.2.1
              obtain ⟨r0, r1, r2, r3, r4, r5, r6, r7⟩ := HX8.out _ HB3.out
              rw [HK2.out] at r1
              go_wp2_with fail
              clear r0 r1 r2 r3 r4 r5 r6 r7 t0 t1
              refine (reach_any _ L kt _ (HVW.out _ HB3.out) (by omega) HKT.out).mono ?_
              rintro e w4 ⟨rfl, hb4, f, hrow, hsd, hfl⟩
              have hfi : f kd = I (pl L) kt kd := HII.out f hsd (by rw [List.length_map]; exact hfl)
              obtain ⟨b9, hb9⟩ : ∃ b9, w3.heap.size = b9 := ⟨_, rfl⟩
              rw [hb9] at hrow ⊢
              have q1 := hrow.cell HKD.out
              rw [hfi, HIV.out] at q1
              have HB4 : Hid (Below w.heap.size w w4) := HB3.out.trans (hb4.mono HB3.out.size)
              have HA4 : Hid (w4.heap[w.heap.size]? = some (BH kc b) ∧ w4.heap[w2.heap.size]? = some (BH kt g) ∧ w4.heap[w.heap.size + 1]? = some (BH kd d)) := ⟨(hb4.block _ (by omega)).trans HA3.out.1, (hb4.block _ hwt3).trans HA3.out.2.1, (hb4.block _ hws3).trans HA3.out.2.2⟩
              have hwt4 : w2.heap.size < w4.heap.size := (Array.getElem?_eq_some_iff.1 HA4.out.2.1).1
              have hws4 : w.heap.size + 1 < w4.heap.size := (Array.getElem?_eq_some_iff.1 HA4.out.2.2).1
              clear hb4 hrow hsd hfl hfi hb9
              obtain ⟨⟨g0, g1⟩, _⟩ := two_of HA4.out.2.2
              have HSG : Hid (∀ w' : World, Below w4.heap.size w4 w' → w'.cell? ⟨w.heap.size, 0, none⟩ = some (.int .i64 kc) ∧ w'.cell? ⟨w2.heap.size, 0, none⟩ = some (.int .i64 kt) ∧ w'.cell? ⟨w2.heap.size, 1, none⟩ = some (.int .i64 g) ∧ w'.cell? ⟨w.heap.size + 1, 0, none⟩ = some (.int .i64 kd)) := fun V h => by
                obtain ⟨⟨a0, a1⟩, _⟩ := two_of HA4.out.1
                obtain ⟨⟨t0, t1⟩, _⟩ := two_of HA4.out.2.1
                obtain ⟨⟨g0, g1⟩, _⟩ := two_of HA4.out.2.2
                exact ⟨cell_step a0 h, cell_step t0 h, cell_step t1 h, cell_step g0 h⟩
              have HREM : Hid (∀ V, Below w4.heap.size w4 V → Calls Tryz.prog 59 #[.slice (some ⟨bb, off, none⟩) L.length cap, .int .i64 kc, .string s, .int .i64 st] V fun e w' => ∃ u L', e = .returned u ∧ TabW w' u L' ∧ pl L' = T1 ∧ Below V.heap.size V w') := fun V h => (rless_any _ L kc st s yc V (HVW.out _ (HB4.out.trans (h.mono HB4.out.size))) HYC.out.1 HYC.out.2.1 HSM.out.1 HYC.out.2.2 (by omega)).mono fun e w' ⟨g, cap, L', h1, h2, h3, h4⟩ => ⟨_, L', h1, h2.tab, by rw [h3]; exact HT1.out, h4⟩
              have HADD : Hid (∀ V u L1, TabW V u L1 → pl L1 = T1 → Calls Tryz.prog 51 #[u, .int .i64 kd, .string s2, .agg #[.int .i64 kt, .int .i64 g], .int .i64 st] V fun e w' => ∃ u L', e = .returned (.tuple #[u, .int .i64 ae]) ∧ TabW w' u L' ∧ pl L' = RT ∧ Below V.heap.size V w') := fun V u L1 h hp => by
                obtain ⟨y1, hy1, hyi⟩ := Sp.pl_some (L := L1) (k := kd) (x := x1) (by rw [hp]; exact HX1.out.1)
                have hl1 : L1.length ≤ 24 := by have := congrArg List.length hp; rw [← HT1.out] at this; simp at this; omega
                by_cases hz : ae = 0
                · have hR := HRT2.out.1 hz
                  refine (rmore_any u L1 kd kt g st s2 y1 V h hy1 (by rw [hyi]; exact HX1.out.2.1) HSM.out.2 (by rw [hyi, HAE.out]; exact hz) (by omega) (by rw [hyi]; exact HX1.out.2.2)).mono ?_
                  rintro e w' ⟨g, cap, L', h1, h2, h3, h4⟩
                  exact ⟨_, L', by rw [h1, hz], h2.tab, by rw [h3, hyi, hp, hR], h4⟩
                · have hR := HRT2.out.2 hz
                  refine (rmore_no u L1 kd kt g st s2 y1 V h hy1 (by rw [hyi]; exact HX1.out.2.1) HSM.out.2 (by rw [hyi, HAE.out]; exact hz)).mono ?_
                  rintro e w' ⟨h1, h4⟩
                  exact ⟨_, [], by rw [h1, hyi, HAE.out], tab_nil _ _, by rw [hR]; rfl, h4⟩
              go_wp2_with fail
              clear q1 g0 g1
              go_region_held3 (fun w' => w'.cell? ⟨w.heap.size, 0, none⟩ = some (.int .i64 kc) ∧ w'.cell? ⟨w2.heap.size, 0, none⟩ = some (.int .i64 kt) ∧ w'.cell? ⟨w2.heap.size, 1, none⟩ = some (.int .i64 g) ∧ w'.cell? ⟨w.heap.size + 1, 0, none⟩ = some (.int .i64 kd)) (first | exact HSG.out _ (by (repeat (first | with_reducible assumption | exact Below.refl _ _ | refine bel_drew ?_ | refine Below.setCell ?_ (by first | exact Nat.le_refl _ | assumption) _ | refine Below.alloc ?_ (by first | exact Nat.le_refl _ | assumption) _)))) (first
                | (go_at_call 59; refine (HREM.out _ (by (repeat (first | with_reducible assumption | exact Below.refl _ _ | refine bel_drew ?_ | refine Below.setCell ?_ (by first | exact Nat.le_refl _ | assumption) _ | refine Below.alloc ?_ (by first | exact Nat.le_refl _ | assumption) _)))).mono ?_; rintro e w5 ⟨u5, L5, rfl, ht5, hp5, hb5⟩; have hb55 : Below w4.heap.size w4 w5 := undrew hb5; clear hb5)
                | (go_at_call 51; refine (HADD.out _ _ L5 ht5 hp5).mono ?_; rintro e w6 ⟨u6, L6, rfl, ht6, hp6, hb6⟩; have hb66 : Below w4.heap.size w4 w6 := hb55.trans (hb6.mono hb55.size)))
              all_goals
                have HB6 : Hid (Below w.heap.size w w6) := HB4.out.trans (hb66.mono HB4.out.size)
                have HT6 : Hid (TabW w6 u6 L6) := ht6
                have HP6 : Hid (pl L6 = RT) := hp6
                clear ht6 hp6 hb6 ht5 hp5
                go_wp2
                (try simp only [Exit.inBlock, Exit.then])
                refine bodyPost_ret (v := .tuple #[u6, .int .i64 ae]) (by simp [results, Tryz.results27, go_sem]) rfl ?_
                first
                  | exact ⟨u6, rfl, L6, HT6.out, HP6.out, HB6.out⟩
                  | exact ⟨u6, L6, rfl, HT6.out, HP6.out, HB6.out⟩
            · have hE := hEm 403 hmv (by decide)
              rw [hE, hno _ hE (by decide)]
              clear hno hse hc0 hr hlen hq hte hto htoH hxc hgc hkc hfc hff hpl hj hkt0 hxt hgt hkt2 hlk hft hit hic hst hlenc hyc hyt hc8 hgd0 hM hI hmv hRT hEa hEm hdc hdt hI2 hiv hk2 hxd hgd hkd hne HRT2 hE
              go_enter Tryz.func27, Tryz.ntmps27
              go_wp2_with fail
              rw [← hW]
              refine (rasked_any HRR.out _ L st _ HV.out HOK.out).mono ?_
              rintro e w1 ⟨rfl, hb1⟩
              rw [HSE.out]
              have HB1 : Hid (Below w.heap.size w w1) := HB0.out.trans (hb1.mono HB0.out.size)
              have HA1 : Hid (w1.heap[w.heap.size]? = some (BH kc b) ∧ w1.heap[w.heap.size + 1]? = some (BH kd d)) := ⟨(hb1.block _ (by omega)).trans HA0.out.1, (hb1.block _ hws0).trans HA0.out.2⟩
              have hws1 : w.heap.size + 1 < w1.heap.size := (Array.getElem?_eq_some_iff.1 HA1.out.2).1
              clear hb1 hW
              obtain ⟨⟨a0, a1⟩, _⟩ := two_of HA1.out.1
              go_wp2_with fail
              clear a0 a1
              refine (rlook_any _ L kc b s _ (HVW.out _ HB1.out) HOK.out HSM.out.1 HRT.out).mono ?_
              rintro e w2 ⟨rfl, hb2⟩
              rw [HLK2.out.1, HLK2.out.2]
              have HB2 : Hid (Below w.heap.size w w2) := HB1.out.trans (hb2.mono HB1.out.size)
              have HA2 : Hid (w2.heap[w.heap.size]? = some (BH kc b) ∧ w2.heap[w.heap.size + 1]? = some (BH kd d)) := ⟨(hb2.block _ (by omega)).trans HA1.out.1, (hb2.block _ hws1).trans HA1.out.2⟩
              have hws2 : w.heap.size + 1 < w2.heap.size := (Array.getElem?_eq_some_iff.1 HA2.out.2).1
              clear hb2
              obtain ⟨W2, hW2⟩ : ∃ W2, W2 = w2.alloc (BH kt g) := ⟨_, rfl⟩
              have bb2 : Below w2.heap.size w2 W2 := by rw [hW2]; exact (Below.refl _ _).alloc (Nat.le_refl _) _
              have HBW : Hid (Below w.heap.size w W2) := HB2.out.trans (bb2.mono HB2.out.size)
              have HAW : Hid (W2.heap[w.heap.size]? = some (BH kc b) ∧ W2.heap[w2.heap.size]? = some (BH kt g) ∧ W2.heap[w.heap.size + 1]? = some (BH kd d)) := ⟨(bb2.block _ (by omega)).trans HA2.out.1, by rw [hW2]; exact heap_alloc_new _ _, (bb2.block _ hws2).trans HA2.out.2⟩
              have hwt2 : w2.heap.size < W2.heap.size := (Array.getElem?_eq_some_iff.1 HAW.out.2.1).1
              obtain ⟨⟨g0, g1⟩, _⟩ := two_of HA2.out.2
              clear bb2
              go_wp2_with fail
              rw [← hW2]
              clear g0 g1 hW2
              refine (rfree_any _ L kd d s2 _ (HVW.out _ HBW.out) HOK.out HSM.out.2 HRT.out).mono ?_
              rintro e w3 ⟨rfl, hb3⟩
              rw [HNE.out]
              have HB3 : Hid (Below w.heap.size w w3) := HBW.out.trans (hb3.mono HBW.out.size)
              have HA3 : Hid (w3.heap[w.heap.size]? = some (BH kc b) ∧ w3.heap[w2.heap.size]? = some (BH kt g) ∧ w3.heap[w.heap.size + 1]? = some (BH kd d)) := ⟨(hb3.block _ (by omega)).trans HAW.out.1, (hb3.block _ hwt2).trans HAW.out.2.1, (hb3.block _ (by omega)).trans HAW.out.2.2⟩
              have hwt3 : w2.heap.size < w3.heap.size := (Array.getElem?_eq_some_iff.1 HA3.out.2.1).1
              have hws3 : w.heap.size + 1 < w3.heap.size := (Array.getElem?_eq_some_iff.1 HA3.out.2.2).1
              clear hb3
              obtain ⟨⟨t0, t1⟩, _⟩ := two_of HA3.out.2.1
              obtain ⟨r0, r1, r2, r3, r4, r5, r6, r7⟩ := HX8.out _ HB3.out
              rw [HK2.out] at r1
              go_wp2_with fail
              clear r0 r1 r2 r3 r4 r5 r6 r7 t0 t1
              refine (reach_any _ L kt _ (HVW.out _ HB3.out) (by omega) HKT.out).mono ?_
              rintro e w4 ⟨rfl, hb4, f, hrow, hsd, hfl⟩
              have hfi : f kd = I (pl L) kt kd := HII.out f hsd (by rw [List.length_map]; exact hfl)
              obtain ⟨b9, hb9⟩ : ∃ b9, w3.heap.size = b9 := ⟨_, rfl⟩
              rw [hb9] at hrow ⊢
              have q1 := hrow.cell HKD.out
              rw [hfi, HIV.out] at q1
              have HB4 : Hid (Below w.heap.size w w4) := HB3.out.trans (hb4.mono HB3.out.size)
              have HA4 : Hid (w4.heap[w.heap.size]? = some (BH kc b) ∧ w4.heap[w2.heap.size]? = some (BH kt g) ∧ w4.heap[w.heap.size + 1]? = some (BH kd d)) := ⟨(hb4.block _ (by omega)).trans HA3.out.1, (hb4.block _ hwt3).trans HA3.out.2.1, (hb4.block _ hws3).trans HA3.out.2.2⟩
              have hwt4 : w2.heap.size < w4.heap.size := (Array.getElem?_eq_some_iff.1 HA4.out.2.1).1
              have hws4 : w.heap.size + 1 < w4.heap.size := (Array.getElem?_eq_some_iff.1 HA4.out.2.2).1
              clear hb4 hrow hsd hfl hfi hb9
              obtain ⟨⟨g0, g1⟩, _⟩ := two_of HA4.out.2.2
              go_wp2
              (try simp only [Exit.inBlock, Exit.then])
              refine bodyPost_ret (v := .tuple #[.slice none 0 0, .int .i64 403]) (by simp [results, Tryz.results27, go_sem]) rfl ?_
              first
                | exact ⟨_, rfl, [], tab_nil _ _, rfl, HB4.out⟩
                | exact ⟨_, [], rfl, tab_nil _ _, rfl, HB4.out⟩
          · have hmv : Sp.moveErr I (pl L) kt kd d s2 = 410 := by unfold Sp.moveErr; rw [hiv, hne, if_pos ⟨hn, rfl⟩]
            have hE := hEm 410 hmv (by decide)
            rw [hE, hno _ hE (by decide)]
            clear hno hse hc0 hr hlen hq hte hto htoH hxc hgc hkc hfc hff hpl hj hkt0 hxt hgt hkt2 hlk hft hit hic hst hlenc hyc hyt hc8 hgd0 hM hI hmv hRT hEa hEm hdc hdt hI2 hiv hk2 hxd hgd hkd hne HRT2 hE
            rcases hn with rfl | rfl
            all_goals
              go_enter Tryz.func27, Tryz.ntmps27
              go_wp2_with fail
              rw [← hW]
              refine (rasked_any HRR.out _ L st _ HV.out HOK.out).mono ?_
              rintro e w1 ⟨rfl, hb1⟩
              rw [HSE.out]
              have HB1 : Hid (Below w.heap.size w w1) := HB0.out.trans (hb1.mono HB0.out.size)
              have HA1 : Hid (w1.heap[w.heap.size]? = some (BH kc b) ∧ w1.heap[w.heap.size + 1]? = some (BH kd d)) := ⟨(hb1.block _ (by omega)).trans HA0.out.1, (hb1.block _ hws0).trans HA0.out.2⟩
              have hws1 : w.heap.size + 1 < w1.heap.size := (Array.getElem?_eq_some_iff.1 HA1.out.2).1
              clear hb1 hW
              obtain ⟨⟨a0, a1⟩, _⟩ := two_of HA1.out.1
              go_wp2_with fail
              clear a0 a1
              refine (rlook_any _ L kc b s _ (HVW.out _ HB1.out) HOK.out HSM.out.1 HRT.out).mono ?_
              rintro e w2 ⟨rfl, hb2⟩
              rw [HLK2.out.1, HLK2.out.2]
              have HB2 : Hid (Below w.heap.size w w2) := HB1.out.trans (hb2.mono HB1.out.size)
              have HA2 : Hid (w2.heap[w.heap.size]? = some (BH kc b) ∧ w2.heap[w.heap.size + 1]? = some (BH kd d)) := ⟨(hb2.block _ (by omega)).trans HA1.out.1, (hb2.block _ hws1).trans HA1.out.2⟩
              have hws2 : w.heap.size + 1 < w2.heap.size := (Array.getElem?_eq_some_iff.1 HA2.out.2).1
              clear hb2
              obtain ⟨W2, hW2⟩ : ∃ W2, W2 = w2.alloc (BH kt g) := ⟨_, rfl⟩
              have bb2 : Below w2.heap.size w2 W2 := by rw [hW2]; exact (Below.refl _ _).alloc (Nat.le_refl _) _
              have HBW : Hid (Below w.heap.size w W2) := HB2.out.trans (bb2.mono HB2.out.size)
              have HAW : Hid (W2.heap[w.heap.size]? = some (BH kc b) ∧ W2.heap[w2.heap.size]? = some (BH kt g) ∧ W2.heap[w.heap.size + 1]? = some (BH kd d)) := ⟨(bb2.block _ (by omega)).trans HA2.out.1, by rw [hW2]; exact heap_alloc_new _ _, (bb2.block _ hws2).trans HA2.out.2⟩
              have hwt2 : w2.heap.size < W2.heap.size := (Array.getElem?_eq_some_iff.1 HAW.out.2.1).1
              obtain ⟨⟨g0, g1⟩, _⟩ := two_of HA2.out.2
              clear bb2
              go_wp2_with fail
              rw [← hW2]
              clear g0 g1 hW2
              refine (rfree_any _ L kd d s2 _ (HVW.out _ HBW.out) HOK.out HSM.out.2 HRT.out).mono ?_
              rintro e w3 ⟨rfl, hb3⟩
              rw [HNE.out]
              have HB3 : Hid (Below w.heap.size w w3) := HBW.out.trans (hb3.mono HBW.out.size)
              have HA3 : Hid (w3.heap[w.heap.size]? = some (BH kc b) ∧ w3.heap[w2.heap.size]? = some (BH kt g) ∧ w3.heap[w.heap.size + 1]? = some (BH kd d)) := ⟨(hb3.block _ (by omega)).trans HAW.out.1, (hb3.block _ hwt2).trans HAW.out.2.1, (hb3.block _ (by omega)).trans HAW.out.2.2⟩
              have hwt3 : w2.heap.size < w3.heap.size := (Array.getElem?_eq_some_iff.1 HA3.out.2.1).1
              have hws3 : w.heap.size + 1 < w3.heap.size := (Array.getElem?_eq_some_iff.1 HA3.out.2.2).1
              clear hb3
              obtain ⟨⟨t0, t1⟩, _⟩ := two_of HA3.out.2.1
              obtain ⟨r0, r1, r2, r3, r4, r5, r6, r7⟩ := HX8.out _ HB3.out
              rw [HK2.out] at r1
              go_wp2_with fail
              clear r0 r1 r2 r3 r4 r5 r6 r7 t0 t1
              refine (reach_any _ L kt _ (HVW.out _ HB3.out) (by omega) HKT.out).mono ?_
              rintro e w4 ⟨rfl, hb4, f, hrow, hsd, hfl⟩
              have hfi : f kd = I (pl L) kt kd := HII.out f hsd (by rw [List.length_map]; exact hfl)
              obtain ⟨b9, hb9⟩ : ∃ b9, w3.heap.size = b9 := ⟨_, rfl⟩
              rw [hb9] at hrow ⊢
              have q1 := hrow.cell HKD.out
              rw [hfi, HIV.out] at q1
              have HB4 : Hid (Below w.heap.size w w4) := HB3.out.trans (hb4.mono HB3.out.size)
              have HA4 : Hid (w4.heap[w.heap.size]? = some (BH kc b) ∧ w4.heap[w2.heap.size]? = some (BH kt g) ∧ w4.heap[w.heap.size + 1]? = some (BH kd d)) := ⟨(hb4.block _ (by omega)).trans HA3.out.1, (hb4.block _ hwt3).trans HA3.out.2.1, (hb4.block _ hws3).trans HA3.out.2.2⟩
              have hwt4 : w2.heap.size < w4.heap.size := (Array.getElem?_eq_some_iff.1 HA4.out.2.1).1
              have hws4 : w.heap.size + 1 < w4.heap.size := (Array.getElem?_eq_some_iff.1 HA4.out.2.2).1
              clear hb4 hrow hsd hfl hfi hb9
              obtain ⟨⟨g0, g1⟩, _⟩ := two_of HA4.out.2.2
              go_wp2
              (try simp only [Exit.inBlock, Exit.then])
              refine bodyPost_ret (v := .tuple #[.slice none 0 0, .int .i64 410]) (by simp [results, Tryz.results27, go_sem]) rfl ?_
              first
                | exact ⟨_, rfl, [], tab_nil _ _, rfl, HB4.out⟩
                | exact ⟨_, [], rfl, tab_nil _ _, rfl, HB4.out⟩
        · have hi0 := hI2.2 (by rw [hdt]; exact beq_eq_false_iff_ne.2 hk2)
          have hmv : Sp.moveErr I (pl L) kt kd d s2 = ne := by unfold Sp.moveErr; rw [hi0, if_neg (by simp), hne]
          rcases hn with rfl | rfl
          · have HRT3 := HRT2 hmv
            rw [hEa hmv, hRT]
            clear HRT2
            have HRT2 := HRT3
            clear hno hse hc0 hr hlen hq hte hto htoH hxc hgc hkc hfc hff hpl hj hkt0 hxt hgt hkt2 hlk hft hit hic hst hlenc hyc hyt hc8 hgd0 hM hI hmv hRT hEa hEm hdc hdt hI2 hiv hi0 hxd hgd hkd hne HRT3
            go_enter Tryz.func27, Tryz.ntmps27
            go_wp2_with fail
            rw [← hW]
            refine (rasked_any HRR.out _ L st _ HV.out HOK.out).mono ?_
            rintro e w1 ⟨rfl, hb1⟩
            rw [HSE.out]
            have HB1 : Hid (Below w.heap.size w w1) := HB0.out.trans (hb1.mono HB0.out.size)
            have HA1 : Hid (w1.heap[w.heap.size]? = some (BH kc b) ∧ w1.heap[w.heap.size + 1]? = some (BH kd d)) := ⟨(hb1.block _ (by omega)).trans HA0.out.1, (hb1.block _ hws0).trans HA0.out.2⟩
            have hws1 : w.heap.size + 1 < w1.heap.size := (Array.getElem?_eq_some_iff.1 HA1.out.2).1
            clear hb1 hW
            obtain ⟨⟨a0, a1⟩, _⟩ := two_of HA1.out.1
            go_wp2_with fail
            clear a0 a1
            refine (rlook_any _ L kc b s _ (HVW.out _ HB1.out) HOK.out HSM.out.1 HRT.out).mono ?_
            rintro e w2 ⟨rfl, hb2⟩
            rw [HLK2.out.1, HLK2.out.2]
            have HB2 : Hid (Below w.heap.size w w2) := HB1.out.trans (hb2.mono HB1.out.size)
            have HA2 : Hid (w2.heap[w.heap.size]? = some (BH kc b) ∧ w2.heap[w.heap.size + 1]? = some (BH kd d)) := ⟨(hb2.block _ (by omega)).trans HA1.out.1, (hb2.block _ hws1).trans HA1.out.2⟩
            have hws2 : w.heap.size + 1 < w2.heap.size := (Array.getElem?_eq_some_iff.1 HA2.out.2).1
            clear hb2
            obtain ⟨W2, hW2⟩ : ∃ W2, W2 = w2.alloc (BH kt g) := ⟨_, rfl⟩
            have bb2 : Below w2.heap.size w2 W2 := by rw [hW2]; exact (Below.refl _ _).alloc (Nat.le_refl _) _
            have HBW : Hid (Below w.heap.size w W2) := HB2.out.trans (bb2.mono HB2.out.size)
            have HAW : Hid (W2.heap[w.heap.size]? = some (BH kc b) ∧ W2.heap[w2.heap.size]? = some (BH kt g) ∧ W2.heap[w.heap.size + 1]? = some (BH kd d)) := ⟨(bb2.block _ (by omega)).trans HA2.out.1, by rw [hW2]; exact heap_alloc_new _ _, (bb2.block _ hws2).trans HA2.out.2⟩
            have hwt2 : w2.heap.size < W2.heap.size := (Array.getElem?_eq_some_iff.1 HAW.out.2.1).1
            obtain ⟨⟨g0, g1⟩, _⟩ := two_of HA2.out.2
            clear bb2
            go_wp2_with fail
            rw [← hW2]
            clear g0 g1 hW2
            refine (rfree_any _ L kd d s2 _ (HVW.out _ HBW.out) HOK.out HSM.out.2 HRT.out).mono ?_
            rintro e w3 ⟨rfl, hb3⟩
            rw [HNE.out]
            have HB3 : Hid (Below w.heap.size w w3) := HBW.out.trans (hb3.mono HBW.out.size)
            have HA3 : Hid (w3.heap[w.heap.size]? = some (BH kc b) ∧ w3.heap[w2.heap.size]? = some (BH kt g) ∧ w3.heap[w.heap.size + 1]? = some (BH kd d)) := ⟨(hb3.block _ (by omega)).trans HAW.out.1, (hb3.block _ hwt2).trans HAW.out.2.1, (hb3.block _ (by omega)).trans HAW.out.2.2⟩
            have hwt3 : w2.heap.size < w3.heap.size := (Array.getElem?_eq_some_iff.1 HA3.out.2.1).1
            have hws3 : w.heap.size + 1 < w3.heap.size := (Array.getElem?_eq_some_iff.1 HA3.out.2.2).1
            clear hb3
            obtain ⟨⟨t0, t1⟩, _⟩ := two_of HA3.out.2.1
            obtain ⟨r0, r1, r2, r3, r4, r5, r6, r7⟩ := HX8.out _ HB3.out
            have HSG : Hid (∀ w' : World, Below w3.heap.size w3 w' → w'.cell? ⟨w.heap.size, 0, none⟩ = some (.int .i64 kc) ∧ w'.cell? ⟨w2.heap.size, 0, none⟩ = some (.int .i64 kt) ∧ w'.cell? ⟨w2.heap.size, 1, none⟩ = some (.int .i64 g) ∧ w'.cell? ⟨w.heap.size + 1, 0, none⟩ = some (.int .i64 kd)) := fun V h => by
              obtain ⟨⟨a0, a1⟩, _⟩ := two_of HA3.out.1
              obtain ⟨⟨t0, t1⟩, _⟩ := two_of HA3.out.2.1
              obtain ⟨⟨g0, g1⟩, _⟩ := two_of HA3.out.2.2
              exact ⟨cell_step a0 h, cell_step t0 h, cell_step t1 h, cell_step g0 h⟩
            have HREM : Hid (∀ V, Below w3.heap.size w3 V → Calls Tryz.prog 59 #[.slice (some ⟨bb, off, none⟩) L.length cap, .int .i64 kc, .string s, .int .i64 st] V fun e w' => ∃ u L', e = .returned u ∧ TabW w' u L' ∧ pl L' = T1 ∧ Below V.heap.size V w') := fun V h => (rless_any _ L kc st s yc V (HVW.out _ (HB3.out.trans (h.mono HB3.out.size))) HYC.out.1 HYC.out.2.1 HSM.out.1 HYC.out.2.2 (by omega)).mono fun e w' ⟨g, cap, L', h1, h2, h3, h4⟩ => ⟨_, L', h1, h2.tab, by rw [h3]; exact HT1.out, h4⟩
            have HADD : Hid (∀ V u L1, TabW V u L1 → pl L1 = T1 → Calls Tryz.prog 51 #[u, .int .i64 kd, .string s2, .agg #[.int .i64 kt, .int .i64 g], .int .i64 st] V fun e w' => ∃ u L', e = .returned (.tuple #[u, .int .i64 ae]) ∧ TabW w' u L' ∧ pl L' = RT ∧ Below V.heap.size V w') := fun V u L1 h hp => by
              obtain ⟨y1, hy1, hyi⟩ := Sp.pl_some (L := L1) (k := kd) (x := x1) (by rw [hp]; exact HX1.out.1)
              have hl1 : L1.length ≤ 24 := by have := congrArg List.length hp; rw [← HT1.out] at this; simp at this; omega
              by_cases hz : ae = 0
              · have hR := HRT2.out.1 hz
                refine (rmore_any u L1 kd kt g st s2 y1 V h hy1 (by rw [hyi]; exact HX1.out.2.1) HSM.out.2 (by rw [hyi, HAE.out]; exact hz) (by omega) (by rw [hyi]; exact HX1.out.2.2)).mono ?_
                rintro e w' ⟨g, cap, L', h1, h2, h3, h4⟩
                exact ⟨_, L', by rw [h1, hz], h2.tab, by rw [h3, hyi, hp, hR], h4⟩
              · have hR := HRT2.out.2 hz
                refine (rmore_no u L1 kd kt g st s2 y1 V h hy1 (by rw [hyi]; exact HX1.out.2.1) HSM.out.2 (by rw [hyi, HAE.out]; exact hz)).mono ?_
                rintro e w' ⟨h1, h4⟩
                exact ⟨_, [], by rw [h1, hyi, HAE.out], tab_nil _ _, by rw [hR]; rfl, h4⟩
            go_wp2_with fail
            clear r0 r1 r2 r3 r4 r5 r6 r7 t0 t1
            go_region_held3 (fun w' => w'.cell? ⟨w.heap.size, 0, none⟩ = some (.int .i64 kc) ∧ w'.cell? ⟨w2.heap.size, 0, none⟩ = some (.int .i64 kt) ∧ w'.cell? ⟨w2.heap.size, 1, none⟩ = some (.int .i64 g) ∧ w'.cell? ⟨w.heap.size + 1, 0, none⟩ = some (.int .i64 kd)) (first | exact HSG.out _ (by (repeat (first | with_reducible assumption | exact Below.refl _ _ | refine bel_drew ?_ | refine Below.setCell ?_ (by first | exact Nat.le_refl _ | assumption) _ | refine Below.alloc ?_ (by first | exact Nat.le_refl _ | assumption) _)))) (first
              | (go_at_call 59; refine (HREM.out _ (by (repeat (first | with_reducible assumption | exact Below.refl _ _ | refine bel_drew ?_ | refine Below.setCell ?_ (by first | exact Nat.le_refl _ | assumption) _ | refine Below.alloc ?_ (by first | exact Nat.le_refl _ | assumption) _)))).mono ?_; rintro e w5 ⟨u5, L5, rfl, ht5, hp5, hb5⟩; have hb55 : Below w3.heap.size w3 w5 := undrew hb5; clear hb5)
              | (go_at_call 51; refine (HADD.out _ _ L5 ht5 hp5).mono ?_; rintro e w6 ⟨u6, L6, rfl, ht6, hp6, hb6⟩; have hb66 : Below w3.heap.size w3 w6 := hb55.trans (hb6.mono hb55.size)))
            all_goals
              have HB6 : Hid (Below w.heap.size w w6) := HB3.out.trans (hb66.mono HB3.out.size)
              have HT6 : Hid (TabW w6 u6 L6) := ht6
              have HP6 : Hid (pl L6 = RT) := hp6
              clear ht6 hp6 hb6 ht5 hp5
              go_wp2
              (try simp only [Exit.inBlock, Exit.then])
              refine bodyPost_ret (v := .tuple #[u6, .int .i64 ae]) (by simp [results, Tryz.results27, go_sem]) rfl ?_
              first
                | exact ⟨u6, rfl, L6, HT6.out, HP6.out, HB6.out⟩
                | exact ⟨u6, L6, rfl, HT6.out, HP6.out, HB6.out⟩
          · have hE := hEm 403 hmv (by decide)
            rw [hE, hno _ hE (by decide)]
            clear hno hse hc0 hr hlen hq hte hto htoH hxc hgc hkc hfc hff hpl hj hkt0 hxt hgt hkt2 hlk hft hit hic hst hlenc hyc hyt hc8 hgd0 hM hI hmv hRT hEa hEm hdc hdt hI2 hiv hi0 hxd hgd hkd hne HRT2 hE
            go_enter Tryz.func27, Tryz.ntmps27
            go_wp2_with fail
            rw [← hW]
            refine (rasked_any HRR.out _ L st _ HV.out HOK.out).mono ?_
            rintro e w1 ⟨rfl, hb1⟩
            rw [HSE.out]
            have HB1 : Hid (Below w.heap.size w w1) := HB0.out.trans (hb1.mono HB0.out.size)
            have HA1 : Hid (w1.heap[w.heap.size]? = some (BH kc b) ∧ w1.heap[w.heap.size + 1]? = some (BH kd d)) := ⟨(hb1.block _ (by omega)).trans HA0.out.1, (hb1.block _ hws0).trans HA0.out.2⟩
            have hws1 : w.heap.size + 1 < w1.heap.size := (Array.getElem?_eq_some_iff.1 HA1.out.2).1
            clear hb1 hW
            obtain ⟨⟨a0, a1⟩, _⟩ := two_of HA1.out.1
            go_wp2_with fail
            clear a0 a1
            refine (rlook_any _ L kc b s _ (HVW.out _ HB1.out) HOK.out HSM.out.1 HRT.out).mono ?_
            rintro e w2 ⟨rfl, hb2⟩
            rw [HLK2.out.1, HLK2.out.2]
            have HB2 : Hid (Below w.heap.size w w2) := HB1.out.trans (hb2.mono HB1.out.size)
            have HA2 : Hid (w2.heap[w.heap.size]? = some (BH kc b) ∧ w2.heap[w.heap.size + 1]? = some (BH kd d)) := ⟨(hb2.block _ (by omega)).trans HA1.out.1, (hb2.block _ hws1).trans HA1.out.2⟩
            have hws2 : w.heap.size + 1 < w2.heap.size := (Array.getElem?_eq_some_iff.1 HA2.out.2).1
            clear hb2
            obtain ⟨W2, hW2⟩ : ∃ W2, W2 = w2.alloc (BH kt g) := ⟨_, rfl⟩
            have bb2 : Below w2.heap.size w2 W2 := by rw [hW2]; exact (Below.refl _ _).alloc (Nat.le_refl _) _
            have HBW : Hid (Below w.heap.size w W2) := HB2.out.trans (bb2.mono HB2.out.size)
            have HAW : Hid (W2.heap[w.heap.size]? = some (BH kc b) ∧ W2.heap[w2.heap.size]? = some (BH kt g) ∧ W2.heap[w.heap.size + 1]? = some (BH kd d)) := ⟨(bb2.block _ (by omega)).trans HA2.out.1, by rw [hW2]; exact heap_alloc_new _ _, (bb2.block _ hws2).trans HA2.out.2⟩
            have hwt2 : w2.heap.size < W2.heap.size := (Array.getElem?_eq_some_iff.1 HAW.out.2.1).1
            obtain ⟨⟨g0, g1⟩, _⟩ := two_of HA2.out.2
            clear bb2
            go_wp2_with fail
            rw [← hW2]
            clear g0 g1 hW2
            refine (rfree_any _ L kd d s2 _ (HVW.out _ HBW.out) HOK.out HSM.out.2 HRT.out).mono ?_
            rintro e w3 ⟨rfl, hb3⟩
            rw [HNE.out]
            have HB3 : Hid (Below w.heap.size w w3) := HBW.out.trans (hb3.mono HBW.out.size)
            have HA3 : Hid (w3.heap[w.heap.size]? = some (BH kc b) ∧ w3.heap[w2.heap.size]? = some (BH kt g) ∧ w3.heap[w.heap.size + 1]? = some (BH kd d)) := ⟨(hb3.block _ (by omega)).trans HAW.out.1, (hb3.block _ hwt2).trans HAW.out.2.1, (hb3.block _ (by omega)).trans HAW.out.2.2⟩
            have hwt3 : w2.heap.size < w3.heap.size := (Array.getElem?_eq_some_iff.1 HA3.out.2.1).1
            have hws3 : w.heap.size + 1 < w3.heap.size := (Array.getElem?_eq_some_iff.1 HA3.out.2.2).1
            clear hb3
            obtain ⟨⟨t0, t1⟩, _⟩ := two_of HA3.out.2.1
            obtain ⟨r0, r1, r2, r3, r4, r5, r6, r7⟩ := HX8.out _ HB3.out
            go_wp2
            (try simp only [Exit.inBlock, Exit.then])
            refine bodyPost_ret (v := .tuple #[.slice none 0 0, .int .i64 403]) (by simp [results, Tryz.results27, go_sem]) rfl ?_
            first
              | exact ⟨_, rfl, [], tab_nil _ _, rfl, HB3.out⟩
              | exact ⟨_, [], rfl, tab_nil _ _, rfl, HB3.out⟩
      · have hmv : Sp.moveErr I (pl L) kt c d s2 = ne := by unfold Sp.moveErr; rw [if_neg (fun h => hn (by rw [← hne]; exact h.1)), hne]
        have hE := hEm ne hmv (by omega)
        rw [hE, hno _ hE (by omega)]
        have hz1 : (ne != 0) = true := by simp; omega
        have hz2 : (ne != 403) = true := by simp; omega
        clear hno hse hc0 hr hlen hq hte hto htoH hxc hgc hkc hfc hff hpl hj hkt0 hxt hgt hkt2 hlk hft hit hic hst hlenc hyc hyt hc8 hgd0 hM hI hmv hEm hne hn hE
        go_enter Tryz.func27, Tryz.ntmps27
        go_wp2_with fail
        rw [← hW]
        refine (rasked_any HRR.out _ L st _ HV.out HOK.out).mono ?_
        rintro e w1 ⟨rfl, hb1⟩
        rw [HSE.out]
        have HB1 : Hid (Below w.heap.size w w1) := HB0.out.trans (hb1.mono HB0.out.size)
        have HA1 : Hid (w1.heap[w.heap.size]? = some (BH kc b) ∧ w1.heap[w.heap.size + 1]? = some (BH c d)) := ⟨(hb1.block _ (by omega)).trans HA0.out.1, (hb1.block _ hws0).trans HA0.out.2⟩
        have hws1 : w.heap.size + 1 < w1.heap.size := (Array.getElem?_eq_some_iff.1 HA1.out.2).1
        clear hb1 hW
        obtain ⟨⟨a0, a1⟩, _⟩ := two_of HA1.out.1
        go_wp2_with fail
        clear a0 a1
        refine (rlook_any _ L kc b s _ (HVW.out _ HB1.out) HOK.out HSM.out.1 HRT.out).mono ?_
        rintro e w2 ⟨rfl, hb2⟩
        rw [HLK2.out.1, HLK2.out.2]
        have HB2 : Hid (Below w.heap.size w w2) := HB1.out.trans (hb2.mono HB1.out.size)
        have HA2 : Hid (w2.heap[w.heap.size]? = some (BH kc b) ∧ w2.heap[w.heap.size + 1]? = some (BH c d)) := ⟨(hb2.block _ (by omega)).trans HA1.out.1, (hb2.block _ hws1).trans HA1.out.2⟩
        have hws2 : w.heap.size + 1 < w2.heap.size := (Array.getElem?_eq_some_iff.1 HA2.out.2).1
        clear hb2
        obtain ⟨W2, hW2⟩ : ∃ W2, W2 = w2.alloc (BH kt g) := ⟨_, rfl⟩
        have bb2 : Below w2.heap.size w2 W2 := by rw [hW2]; exact (Below.refl _ _).alloc (Nat.le_refl _) _
        have HBW : Hid (Below w.heap.size w W2) := HB2.out.trans (bb2.mono HB2.out.size)
        have HAW : Hid (W2.heap[w.heap.size]? = some (BH kc b) ∧ W2.heap[w2.heap.size]? = some (BH kt g) ∧ W2.heap[w.heap.size + 1]? = some (BH c d)) := ⟨(bb2.block _ (by omega)).trans HA2.out.1, by rw [hW2]; exact heap_alloc_new _ _, (bb2.block _ hws2).trans HA2.out.2⟩
        have hwt2 : w2.heap.size < W2.heap.size := (Array.getElem?_eq_some_iff.1 HAW.out.2.1).1
        obtain ⟨⟨g0, g1⟩, _⟩ := two_of HA2.out.2
        clear bb2
        go_wp2_with fail
        rw [← hW2]
        clear g0 g1 hW2
        refine (rfree_any _ L c d s2 _ (HVW.out _ HBW.out) HOK.out HSM.out.2 HRT.out).mono ?_
        rintro e w3 ⟨rfl, hb3⟩
        rw [HNE.out]
        have HB3 : Hid (Below w.heap.size w w3) := HBW.out.trans (hb3.mono HBW.out.size)
        have HA3 : Hid (w3.heap[w.heap.size]? = some (BH kc b) ∧ w3.heap[w2.heap.size]? = some (BH kt g) ∧ w3.heap[w.heap.size + 1]? = some (BH c d)) := ⟨(hb3.block _ (by omega)).trans HAW.out.1, (hb3.block _ hwt2).trans HAW.out.2.1, (hb3.block _ (by omega)).trans HAW.out.2.2⟩
        have hwt3 : w2.heap.size < w3.heap.size := (Array.getElem?_eq_some_iff.1 HA3.out.2.1).1
        have hws3 : w.heap.size + 1 < w3.heap.size := (Array.getElem?_eq_some_iff.1 HA3.out.2.2).1
        clear hb3
        obtain ⟨⟨t0, t1⟩, _⟩ := two_of HA3.out.2.1
        go_wp2
        (try simp only [Exit.inBlock, Exit.then])
        refine bodyPost_ret (v := .tuple #[.slice none 0 0, .int .i64 ne]) (by simp [results, Tryz.results27, go_sem]) rfl ?_
        first
          | exact ⟨_, rfl, [], tab_nil _ _, rfl, HB3.out⟩
          | exact ⟨_, [], rfl, tab_nil _ _, rfl, HB3.out⟩
    · have hE : Sp.rnE (Sp.chk R) I (pl L) a b s c d s2 st = te := by unfold Sp.rnE; rw [if_neg (by rw [hto]; exact hz), hto]
      rw [hE, hno _ hE hz]
      have hz' : (te != 0) = true := by simpa using hz
      clear hz hE hte hM hI hx hto htoH hq hse hno hc0 hlen
      go_enter Tryz.func27, Tryz.ntmps27
      go_wp2_with fail
      rw [← hW]
      refine (rasked_any HRR.out _ L st _ HV.out HOK.out).mono ?_
      rintro e w1 ⟨rfl, hb1⟩
      rw [HSE.out]
      have HB1 : Hid (Below w.heap.size w w1) := HB0.out.trans (hb1.mono HB0.out.size)
      have HA1 : Hid (w1.heap[w.heap.size]? = some (BH a b) ∧ w1.heap[w.heap.size + 1]? = some (BH c d)) := ⟨(hb1.block _ (by omega)).trans HA0.out.1, (hb1.block _ hws0).trans HA0.out.2⟩
      have hws1 : w.heap.size + 1 < w1.heap.size := (Array.getElem?_eq_some_iff.1 HA1.out.2).1
      clear hb1 hW
      obtain ⟨⟨a0, a1⟩, _⟩ := two_of HA1.out.1
      go_wp2_with fail
      clear a0 a1
      refine (rlook_any _ L a b s _ (HVW.out _ HB1.out) HOK.out HSM.out.1 HRT.out).mono ?_
      rintro e w2 ⟨rfl, hb2⟩
      rw [HLK2.out.1, HLK2.out.2]
      have HB2 : Hid (Below w.heap.size w w2) := HB1.out.trans (hb2.mono HB1.out.size)
      have HA2 : Hid (w2.heap[w.heap.size]? = some (BH a b) ∧ w2.heap[w.heap.size + 1]? = some (BH c d)) := ⟨(hb2.block _ (by omega)).trans HA1.out.1, (hb2.block _ hws1).trans HA1.out.2⟩
      have hws2 : w.heap.size + 1 < w2.heap.size := (Array.getElem?_eq_some_iff.1 HA2.out.2).1
      clear hb2
      go_wp2
      (try simp only [Exit.inBlock, Exit.then])
      refine bodyPost_ret (v := .tuple #[.slice none 0 0, .int .i64 te]) (by simp [results, Tryz.results27, go_sem]) rfl ?_
      first
        | exact ⟨_, rfl, [], tab_nil _ _, rfl, HB2.out.alloc HB2.out.size _⟩
        | exact ⟨_, [], rfl, tab_nil _ _, rfl, HB2.out.alloc HB2.out.size _⟩
  · obtain ⟨se, hse'⟩ : ∃ se, Sp.stErr (Sp.chk R) (pl L) st = se := ⟨_, rfl⟩
    have HSE : Hid (Sp.stErr (Sp.chk R) (pl L) st = se) := hse'
    have hto : Sp.toErr (Sp.chk R) (pl L) st a b s = se := by unfold Sp.toErr; rw [if_neg hse, hse']
    rw [hse'] at hse
    have hE : Sp.rnE (Sp.chk R) I (pl L) a b s c d s2 st = se := by unfold Sp.rnE; rw [if_neg (by rw [hto]; exact hse), hto]
    rw [hE, hno _ hE hse]
    have hz' : (se != 0) = true := by simpa using hse
    clear hE hM hI hx hto hse hse' hno
    go_enter Tryz.func27, Tryz.ntmps27
    go_wp2_with fail
    rw [← hW]
    refine (rasked_any HRR.out _ L st _ HV.out HOK.out).mono ?_
    rintro e w1 ⟨rfl, hb1⟩
    rw [HSE.out]
    have HB1 : Hid (Below w.heap.size w w1) := HB0.out.trans (hb1.mono HB0.out.size)
    have HA1 : Hid (w1.heap[w.heap.size]? = some (BH a b) ∧ w1.heap[w.heap.size + 1]? = some (BH c d)) := ⟨(hb1.block _ (by omega)).trans HA0.out.1, (hb1.block _ hws0).trans HA0.out.2⟩
    have hws1 : w.heap.size + 1 < w1.heap.size := (Array.getElem?_eq_some_iff.1 HA1.out.2).1
    clear hb1 hW
    go_wp2
    (try simp only [Exit.inBlock, Exit.then])
    refine bodyPost_ret (v := .tuple #[.slice none 0 0, .int .i64 se]) (by simp [results, Tryz.results27, go_sem]) rfl ?_
    first
      | exact ⟨_, rfl, [], tab_nil _ _, rfl, HB1.out⟩
      | exact ⟨_, [], rfl, tab_nil _ _, rfl, HB1.out⟩
end Go.Proofs.YtacghcoikekfeaaGreat
/- RSo -/
namespace Go.Proofs.YtacghcoikekfeaaGreat
open Go.ChangeShapes Go.WideShapes Go.ChangeAt Go.RowKit Go.Deep It
set_option maxRecDepth 100000
/-- Texts in a row. -/
def ETx : Enc ByteArray := ⟨1, fun s => [.string s], fun _ => rfl, fun x u hu => by
  simp at hu
  rcases hu with rfl
  rfl⟩
theorem infoT : (Tryz.prog.info? 9).map (fun i => (i.zero, i.size, i.bytes)) = some (some (.string ⟨#[]⟩), 1, 16) := by kernel_rfl
def Sp.ltT (a b : ByteArray) : Bool := Go.Op.bytesLess a.toList b.toList
/-- A text among others. -/
def Sp.insT (s : ByteArray) : List ByteArray → List ByteArray
  | [] => [s]
  | x :: l => if Sp.ltT s x = true then s :: x :: l else x :: Sp.insT s l
theorem at_oneT {w : World} {A : Nat} {s : ByteArray} (h : w.heap[A]? = some (.cells #[.string s] 9)) : AtW ETx w (.slice (some ⟨A, 0, none⟩) 1 1) [s] := by
  refine .inr ⟨A, 0, 1, rfl, trivial, (Array.getElem?_eq_some_iff.1 h).1, by simp, by simp, by unfold maxLen; omega, fun j u hj => ?_⟩
  have e : ETx.flat [s] = [.string s] := rfl
  rw [e] at hj
  rcases j with _ | j
  · simp at hj
    subst hj
    simp [World.cell?, h]
  · simp at hj
set_option maxHeartbeats 4000000 in
theorem rsorted_any (v : Value) (l : List ByteArray) (s : ByteArray) (w : World) (hv : AtW ETx w v l) (hl : l.length ≤ 100000) :
    Calls Tryz.prog 76 #[v, .string s] w fun e w' => ∃ u, e = .returned u ∧ Row ETx w' w.heap.size 9 u (Sp.insT s l) ∧ Below w.heap.size w w' := by
  obtain ⟨j0, hj, hy0, hy1, hy2⟩ := info_parts infoT
  have HV : Hid (AtW ETx w v l) := hv
  obtain ⟨ao, cap, rfl, -, hx⟩ := hv.open
  obtain ⟨n, hn⟩ : ∃ n, l.length = n := ⟨_, rfl⟩
  have HN : Hid (l.length = n) := hn
  have HX : Hid (∀ i x, l[i]? = some x → ∃ b off, ao = some ⟨b, off, none⟩ ∧ b < w.heap.size ∧ w.cell? ⟨b, off + i, none⟩ = some (.string x)) := fun i x hi => by
    obtain ⟨b, off, h1, -, h3, h4⟩ := hx i x hi
    have := h4 0 _ rfl
    exact ⟨b, off, h1, h3, by simpa [ETx] using this⟩
  rw [hn] at hl ⊢
  clear hv hx hn
  go_enter Tryz.func76, Tryz.ntmps76
  go_wp2
  go_loopw [5, 6, 11] (fun o p i wr => ∃ (k : Nat) (put : Bool) (pp : Option Addr) (jj q : Nat) (os : List ByteArray), k ≤ n ∧ i = .int .i64 k ∧ p = .bool put ∧ o = .slice pp jj q ∧ Hid (os ++ (if put = true then l.drop k else Sp.insT s (l.drop k)) = Sp.insT s l ∧ os.length ≤ k + 1 ∧ (put = false → os.length ≤ k)) ∧ Hid (Row ETx wr w.heap.size 9 (.slice pp jj q) os) ∧ Hid (Below w.heap.size w wr)) (fun _ _ i _ => n - (intOf i).toNat)
  case atStart => exact ⟨0, false, none, 0, 0, [], Nat.zero_le _, rfl, rfl, rfl, ⟨by simp, by simp, fun _ => by simp⟩, Row.nil _ _ _ _, Below.refl _ _⟩
  case round =>
    obtain ⟨k, put, pp, jj, q, os, hk, rfl, rfl, rfl, HO, HR, HB⟩ := hrel
    have hsz := HB.out.size
    by_cases hlt : k < n
    · obtain ⟨x, hxk⟩ : ∃ x, l[k]? = some x := ⟨_, List.getElem?_eq_getElem (by rw [HN.out]; exact hlt)⟩
      obtain ⟨b, off, rfl, hB, hc⟩ := HX.out k x hxk
      have c0 := (HB.out.cell (p := ⟨b, off + k, none⟩) hB).trans hc
      have hlt' : (k : Int) < (n : Int) := by omega
      clear hc
      have HD : Hid (l.drop k = x :: l.drop (k + 1)) := by
        show l.drop k = _
        rw [List.drop_eq_getElem_cons (by rw [HN.out]; exact hlt)]
        rw [List.getElem?_eq_getElem (by rw [HN.out]; exact hlt)] at hxk
        rw [Option.some.inj hxk]
      clear hxk
      cases put
      · cases hc : Sp.ltT s x with
        | true =>
          have HC : Hid (Sp.ltT s x = true) := hc
          have hcb : Go.Op.bytesLess s.toList x.toList = true := hc
          clear hc
          go_wp2_with (first | (at_builtin; have HO2 : Hid (AtW ETx (w7.alloc (.cells #[.string x] 9)) (.slice (some ⟨w7.heap.size, 0, none⟩) 1 1) [x]) := at_oneT (heap_alloc_new w7 _); have HR2 : Hid (Row ETx (w7.alloc (.cells #[.string x] 9)) w.heap.size 9 (.slice p7 n7 c7) (os ++ [s])) := (HEND1.out.1).up ((Below.refl _ _).alloc (Nat.le_refl _) _); have HB2 : Hid (Below w.heap.size w (w7.alloc (.cells #[.string x] 9))) := (HEND1.out.2).alloc HEND1.out.2.size _; refine wpList_row _ rfl _ _ 28 rfl ETx (fun _ => True) w.heap.size 9 j0 _ 16 Tryz.underlying28 hj hy0 hy1 hy2 rfl _ (os ++ [s]) rfl HR2.out _ [x] rfl HO2.out (by have := HO.out.2.1; unfold maxLen; simp only [List.length_cons, List.length_nil, List.length_append]; omega) (by have := HO.out.2.1; simp only [List.length_cons, List.length_nil, List.length_append]; omega) (by have := HEND1.out.2.size; simp; omega) ?_; intro v8 w8 hrow8 hg8 hloc8; have HEND2 : Hid (Row ETx w8 w.heap.size 9 v8 (os ++ [s] ++ [x]) ∧ Below w.heap.size w w8) := ⟨hrow8, HB2.out.grown hg8 (by have := HEND1.out.2.size; simp; omega) (fun k hk => (HR2.out.lt k hk).1)⟩; clear hrow8 hg8 hloc8; obtain ⟨p8, n8, c8, rfl⟩ := HEND2.out.1.slice3) | (at_builtin; have HO1 : Hid (AtW ETx (wr.alloc (.cells #[.string s] 9)) (.slice (some ⟨wr.heap.size, 0, none⟩) 1 1) [s]) := at_oneT (heap_alloc_new wr _); have HR1 : Hid (Row ETx (wr.alloc (.cells #[.string s] 9)) w.heap.size 9 (.slice pp jj q) (os)) := (HR.out).up ((Below.refl _ _).alloc (Nat.le_refl _) _); have HB1 : Hid (Below w.heap.size w (wr.alloc (.cells #[.string s] 9))) := (HB.out).alloc hsz _; refine wpList_row _ rfl _ _ 28 rfl ETx (fun _ => True) w.heap.size 9 j0 _ 16 Tryz.underlying28 hj hy0 hy1 hy2 rfl _ (os) rfl HR1.out _ [s] rfl HO1.out (by have := HO.out.2.1; unfold maxLen; simp only [List.length_cons, List.length_nil]; omega) (by have := HO.out.2.1; simp only [List.length_cons, List.length_nil]; omega) (by have := hsz; simp; omega) ?_; intro v7 w7 hrow7 hg7 hloc7; have HEND1 : Hid (Row ETx w7 w.heap.size 9 v7 (os ++ [s]) ∧ Below w.heap.size w w7) := ⟨hrow7, HB1.out.grown hg7 (by have := hsz; simp; omega) (fun k hk => (HR1.out.lt k hk).1)⟩; clear hrow7 hg7 hloc7; obtain ⟨p7, n7, c7, rfl⟩ := HEND1.out.1.slice3))
          go_roundw
          case rel => exact ⟨k + 1, true, p8, n8, c8, os ++ [s] ++ [x], by omega, by go_num, rfl, rfl, ⟨by have h := HO.out.1; rw [HD.out] at h; simp only [Sp.insT, HC.out] at h; simpa using h, by have := HO.out.2.2 rfl; simp; omega, fun h => by cases h⟩, HEND2.out.1, HEND2.out.2⟩
          case measure => simp [intOf]; omega
        | false =>
          have HC : Hid (Sp.ltT s x = false) := hc
          have hcb : Go.Op.bytesLess s.toList x.toList = false := hc
          clear hc
          go_wp2_with (at_builtin; have HO1 : Hid (AtW ETx (wr.alloc (.cells #[.string x] 9)) (.slice (some ⟨wr.heap.size, 0, none⟩) 1 1) [x]) := at_oneT (heap_alloc_new wr _); have HR1 : Hid (Row ETx (wr.alloc (.cells #[.string x] 9)) w.heap.size 9 (.slice pp jj q) (os)) := (HR.out).up ((Below.refl _ _).alloc (Nat.le_refl _) _); have HB1 : Hid (Below w.heap.size w (wr.alloc (.cells #[.string x] 9))) := (HB.out).alloc hsz _; refine wpList_row _ rfl _ _ 28 rfl ETx (fun _ => True) w.heap.size 9 j0 _ 16 Tryz.underlying28 hj hy0 hy1 hy2 rfl _ (os) rfl HR1.out _ [x] rfl HO1.out (by have := HO.out.2.1; unfold maxLen; simp only [List.length_cons, List.length_nil]; omega) (by have := HO.out.2.1; simp only [List.length_cons, List.length_nil]; omega) (by have := hsz; simp; omega) ?_; intro v7 w7 hrow7 hg7 hloc7; have HEND1 : Hid (Row ETx w7 w.heap.size 9 v7 (os ++ [x]) ∧ Below w.heap.size w w7) := ⟨hrow7, HB1.out.grown hg7 (by have := hsz; simp; omega) (fun k hk => (HR1.out.lt k hk).1)⟩; clear hrow7 hg7 hloc7; obtain ⟨p7, n7, c7, rfl⟩ := HEND1.out.1.slice3)
          go_roundw
          case rel => exact ⟨k + 1, false, p7, n7, c7, os ++ [x], by omega, by go_num, rfl, rfl, ⟨by have h := HO.out.1; rw [HD.out] at h; simp only [Sp.insT, HC.out] at h; simpa using h, by have := HO.out.2.1; simp; omega, fun _ => by have := HO.out.2.2 rfl; simp; omega⟩, HEND1.out.1, HEND1.out.2⟩
          case measure => simp [intOf]; omega
      · go_wp2_with (at_builtin; have HO1 : Hid (AtW ETx (wr.alloc (.cells #[.string x] 9)) (.slice (some ⟨wr.heap.size, 0, none⟩) 1 1) [x]) := at_oneT (heap_alloc_new wr _); have HR1 : Hid (Row ETx (wr.alloc (.cells #[.string x] 9)) w.heap.size 9 (.slice pp jj q) (os)) := (HR.out).up ((Below.refl _ _).alloc (Nat.le_refl _) _); have HB1 : Hid (Below w.heap.size w (wr.alloc (.cells #[.string x] 9))) := (HB.out).alloc hsz _; refine wpList_row _ rfl _ _ 28 rfl ETx (fun _ => True) w.heap.size 9 j0 _ 16 Tryz.underlying28 hj hy0 hy1 hy2 rfl _ (os) rfl HR1.out _ [x] rfl HO1.out (by have := HO.out.2.1; unfold maxLen; simp only [List.length_cons, List.length_nil]; omega) (by have := HO.out.2.1; simp only [List.length_cons, List.length_nil]; omega) (by have := hsz; simp; omega) ?_; intro v7 w7 hrow7 hg7 hloc7; have HEND1 : Hid (Row ETx w7 w.heap.size 9 v7 (os ++ [x]) ∧ Below w.heap.size w w7) := ⟨hrow7, HB1.out.grown hg7 (by have := hsz; simp; omega) (fun k hk => (HR1.out.lt k hk).1)⟩; clear hrow7 hg7 hloc7; obtain ⟨p7, n7, c7, rfl⟩ := HEND1.out.1.slice3)
        go_roundw
        case rel => exact ⟨k + 1, true, p7, n7, c7, os ++ [x], by omega, by go_num, rfl, rfl, ⟨by have h := HO.out.1; rw [HD.out] at h; simpa using h, by have := HO.out.2.1; simp; omega, fun h => by cases h⟩, HEND1.out.1, HEND1.out.2⟩
        case measure => simp [intOf]; omega
    · have HD : Hid (l.drop k = []) := List.drop_of_length_le (by rw [HN.out]; omega)
      cases put
      · clear HX
        go_wp2_with (at_builtin; have HO1 : Hid (AtW ETx (wr.alloc (.cells #[.string s] 9)) (.slice (some ⟨wr.heap.size, 0, none⟩) 1 1) [s]) := at_oneT (heap_alloc_new wr _); have HR1 : Hid (Row ETx (wr.alloc (.cells #[.string s] 9)) w.heap.size 9 (.slice pp jj q) (os)) := (HR.out).up ((Below.refl _ _).alloc (Nat.le_refl _) _); have HB1 : Hid (Below w.heap.size w (wr.alloc (.cells #[.string s] 9))) := (HB.out).alloc hsz _; refine wpList_row _ rfl _ _ 28 rfl ETx (fun _ => True) w.heap.size 9 j0 _ 16 Tryz.underlying28 hj hy0 hy1 hy2 rfl _ (os) rfl HR1.out _ [s] rfl HO1.out (by have := HO.out.2.1; unfold maxLen; simp only [List.length_cons, List.length_nil]; omega) (by have := HO.out.2.1; simp only [List.length_cons, List.length_nil]; omega) (by have := hsz; simp; omega) ?_; intro v7 w7 hrow7 hg7 hloc7; have HEND1 : Hid (Row ETx w7 w.heap.size 9 v7 (os ++ [s]) ∧ Below w.heap.size w w7) := ⟨hrow7, HB1.out.grown hg7 (by have := hsz; simp; omega) (fun k hk => (HR1.out.lt k hk).1)⟩; clear hrow7 hg7 hloc7; obtain ⟨p7, n7, c7, rfl⟩ := HEND1.out.1.slice3)
        go_ret
        have h := HO.out.1
        rw [HD.out] at h
        exact ⟨_, rfl, by rw [← h]; exact HEND1.out.1, HEND1.out.2⟩
      · go_wp2
        go_ret
        have h := HO.out.1
        rw [HD.out] at h
        exact ⟨_, rfl, by rw [← h]; simpa using HR.out, HB.out⟩
end Go.Proofs.YtacghcoikekfeaaGreat
/- RRt0 -/
namespace Go.Proofs.YtacghcoikekfeaaGreat
open It
set_option maxRecDepth 100000
namespace Sp
/-- As many entries name an inode as should. -/
def num (L : List Ino) (i : Nat) (x : Ino) : Prop := (x.kind = 1 → (nmv L i : Int) = x.links) ∧ (x.kind = 2 → 0 < i → (nmv L i : Int) = 1) ∧ (i = 0 → (nmv L i : Int) = 0)
def okAt (L : List Ino) (i : Nat) (x : Ino) : Prop := fold x ∧ (x.kind = 2 → ∀ e ∈ x.ents, names L e.2.2.1 e.2.2.2 = true) ∧ num L i x
def okAll (L : List Ino) : Prop := ∀ i x, L[i]? = some x → okAt L i x
/-- Where each entry names an inode, its number says which. -/
theorem nmv_cnt {L : List Ino} (hn : ∀ e ∈ allEnts L, names L e.2.2.1 e.2.2.2 = true) {i : Nat} {x : Ino} (hx : L[i]? = some x) : nmv L i = cnt L ((i : Int), x.gen) := by
  unfold nmv cnt
  refine List.countP_congr fun e he => ?_
  obtain ⟨j, y, hy, hno, hg, _⟩ := names_iff.1 (hn e he)
  simp only [toI, beq_iff_eq]
  constructor
  · intro h2
    have : j = i := by omega
    subst this
    rw [hx] at hy
    cases hy
    exact Prod.ext h2 hg.symm
  · intro h2
    rw [h2]
theorem root_kind {L : List Ino} (h : It.right L = true) {x : Ino} (hx : L[0]? = some x) : x.kind = 2 := by
  have hr := (It.right_iff.1 h).2.1
  unfold rootB at hr
  cases L with
  | nil => cases hr
  | cons y l =>
    simp at hx
    subst hx
    simp at hr
    exact hr
theorem isSp_ok {L : List Ino} (h : isSp L = true) : okAll L := by
  obtain ⟨h1, h2, h3, _⟩ := isSp_iff.1 h
  have hn : ∀ e ∈ allEnts L, names L e.2.2.1 e.2.2.2 = true := fun e he => (ent_named h1 h3 he).1
  intro i x hx
  have hv := (cntB_iff h1).1 h3 ((i : Int), x.gen)
  rw [← nmv_cnt hn hx, start_val h1] at hv
  have hl : lkOf L (i : Int) = x.links := by
    unfold lkOf
    rw [show ((i : Int)).toNat = i by omega, hx, Option.getD_some]
  have hg0 : i = 0 → x.gen = gen0 L := fun h0 => by
    subst h0
    unfold gen0
    rw [hx, Option.getD_some]
  refine ⟨h2 x (List.mem_of_getElem? hx), fun hk e he => hn e (List.mem_flatMap.2 ⟨x, List.mem_of_getElem? hx, he⟩), fun hk => ?_, fun hk h0 => ?_, fun h0 => ?_⟩
  · rw [if_neg (fun he => by
      have : (i : Int) = 0 := congrArg Prod.fst he
      have hi : i = 0 := by omega
      subst hi
      have := root_kind h1 hx
      omega), if_pos (names_iff.2 ⟨i, x, hx, rfl, rfl, by omega⟩), hl] at hv
    exact hv
  · rw [if_neg (fun he => by
      have : (i : Int) = 0 := congrArg Prod.fst he
      omega), if_pos (names_iff.2 ⟨i, x, hx, rfl, rfl, by omega⟩), hl, dir_links h1 hx hk] at hv
    exact hv
  · rw [if_pos (by rw [hg0 h0, h0]; rfl)] at hv
    exact hv
theorem ok_named {L : List Ino} (h : It.right L = true) (ho : okAll L) : ∀ e ∈ allEnts L, names L e.2.2.1 e.2.2.2 = true := fun e he => by
  obtain ⟨p, x, hx, hex⟩ := all_mem he
  exact (ho p x hx).2.1 (ents_dir h hx hex) e hex
theorem ok_folds {L : List Ino} (ho : okAll L) : folds L := fun x hx => by
  obtain ⟨p, hp⟩ := List.mem_iff_getElem?.1 hx
  exact (ho p x hp).1
theorem ok_cntB {L : List Ino} (h : It.right L = true) (ho : okAll L) : cntB L = true := by
  have hn := ok_named h ho
  refine (cntB_iff h).2 fun g => ?_
  rw [start_val h]
  have hlen := right_len h
  have h0x : L[0]? = some L[0] := List.getElem?_eq_getElem (by omega)
  by_cases h0 : g = (0, gen0 L)
  · rw [if_pos h0]
    have h1 := (ho 0 _ h0x).2.2.2.2 rfl
    rw [nmv_cnt hn h0x] at h1
    have e : gen0 L = L[0].gen := by unfold gen0; rw [h0x, Option.getD_some]
    rw [h0, e]
    exact h1
  · rw [if_neg h0]
    by_cases h1 : names L g.1 g.2 = true
    · rw [if_pos h1]
      obtain ⟨i, x, hx, hno, hg, hk⟩ := names_iff.1 h1
      have eg : g = ((i : Int), x.gen) := Prod.ext hno hg.symm
      have hl : lkOf L g.1 = x.links := by
        unfold lkOf
        rw [hno, show ((i : Int)).toNat = i by omega, hx, Option.getD_some]
      rw [hl, eg, ← nmv_cnt hn hx]
      have hnum := (ho i x hx).2.2
      have hone := (It.right_iff.1 h).2.2 x (List.mem_of_getElem? hx)
      unfold one at hone
      simp only [Bool.and_eq_true] at hone
      by_cases hk2 : x.kind = 2
      · rw [dir_links h hx hk2]
        refine hnum.2.1 hk2 ?_
        by_cases hi : i = 0
        · exfalso
          subst hi
          refine h0 (eg.trans ?_)
          unfold gen0
          rw [hx, Option.getD_some]
          rfl
        · omega
      · refine hnum.1 ?_
        rcases At.right_iff.1 hone.2.1 with ⟨h3, _⟩ | ⟨_, _, ⟨h3, _⟩ | ⟨h3, _⟩⟩
        · exact (hk h3).elim
        · exact h3
        · exact (hk2 h3).elim
    · rw [if_neg h1]
      have : cnt L g = 0 := List.countP_eq_zero.2 fun e he hc => h1 (by
        have e2 : e.2.2 = g := by simpa using hc
        rw [← e2]
        exact hn e he)
      rw [this]
      rfl
theorem rch_anc {L : List Ino} (h : It.right L = true) {a : Nat} : ∀ (d c : Nat), Rch L d a c → dirAt L c = true → Anc L d a c
  | 0, c, hr, _ => hr
  | d + 1, c, hr, hd => by
    obtain ⟨p, hp, hpl, e, he, hec⟩ := hr
    have hx : L[p]? = some L[p] := List.getElem?_eq_getElem hpl
    have hem : e ∈ L[p].ents := by
      unfold entsAt at he
      rw [hx] at he
      exact he
    have hdp : dirAt L p = true := by
      unfold dirAt
      rw [hx]
      simp [ents_dir h hx hem]
    exact ⟨p, rch_anc h d p hp hdp, ⟨e, he, by simp [toNo, hec]⟩, hd⟩
theorem ents_lt {L : List Ino} {p : Nat} {e : En} (he : e ∈ entsAt L p) : p < L.length := by
  unfold entsAt at he
  split at he
  · rename_i x hx
    exact (List.getElem?_eq_some_iff.1 hx).1
  · cases he
theorem anc_rch {L : List Ino} {a : Nat} : ∀ (d c : Nat), Anc L d a c → Rch L d a c
  | 0, c, h => h
  | d + 1, c, h => by
    obtain ⟨p, hp, ⟨e, he, hc⟩, _⟩ := h
    exact ⟨p, anc_rch d p hp, ents_lt he, e, he, by simpa [toNo] using hc⟩
/-- All folders that are reached are below, and the other way round. -/
theorem full_reach {L : List Ino} (h : It.right L = true) (ht : Tree L) {f : Nat → Bool} (hs : Sound L 0 f) (hf : Full L 0 L.length f) : reachB L = true ↔ ∀ c, dirAt L c = true → f c = true := by
  rw [reachB_iff ht (right_len h).2]
  constructor
  · intro hr c hd
    obtain ⟨d, ha⟩ := hr c hd
    exact hf d (Nat.le_of_lt (anc_lt ht ha)) c (dirAt_lt hd) (anc_rch d c ha)
  · intro hr c hd
    obtain ⟨d, ha⟩ := hs c (dirAt_lt hd) (hr c hd)
    exact ⟨d, rch_anc h d c ha hd⟩
theorem isSp_of {L : List Ino} (h : It.right L = true) (ho : okAll L) {f : Nat → Bool} (hs : Sound L 0 f) (hf : Full L 0 L.length f) : isSp L = true ↔ ∀ c, dirAt L c = true → f c = true := by
  rw [isSp_iff, ← full_reach h (tree_of h (ok_folds ho) (ok_cntB h ho)) hs hf]
  exact ⟨fun h => h.2.2.2, fun hr => ⟨h, ok_folds ho, ok_cntB h ho, hr⟩⟩
theorem isSp_not {L : List Ino} (h : ¬ okAll L) : isSp L = false := by
  cases hs : isSp L with
  | false => rfl
  | true => exact (h (isSp_ok hs)).elim
end Sp
end Go.Proofs.YtacghcoikekfeaaGreat
/- RRt -/
namespace Go.Proofs.YtacghcoikekfeaaGreat
open Go.ChangeShapes Go.WideShapes Go.ChangeAt Go.RowKit Go.Deep It
set_option maxRecDepth 100000
set_option maxHeartbeats 8000000 in
theorem rspace_any : RtSaid Sp.isSp := by
  intro S v L w hv hok
  obtain ⟨ao, cap, rfl, -, -⟩ := hv.open
  obtain ⟨n, hn⟩ : ∃ n, L.length = n := ⟨_, rfl⟩
  rw [hn] at hv ⊢
  have HN : Hid (L.length = n) := hn
  have HPL : Hid ((pl L).length = n) := by show _ = _; rw [List.length_map]; exact hn
  have HV : Hid (TabAt S w (.slice ao n cap) L) := hv
  have HOK : Hid (Sp.okN L) := hok
  obtain ⟨r, hr⟩ : ∃ r, Sp.isSp (pl L) = r := ⟨_, rfl⟩
  have HR : Hid (Sp.isSp (pl L) = r) := hr
  rw [hr]
  obtain ⟨i0, hi0⟩ : ∃ i0, It.right (pl L) = i0 := ⟨_, rfl⟩
  have HI : Hid (It.right (pl L) = i0) := hi0
  clear hr hn hv hok hi0
  cases i0
  · have HH : Hid (r = false) := by
      show r = false
      rw [← HR.out]
      cases hs : Sp.isSp (pl L) with
      | false => rfl
      | true => have := (Sp.isSp_iff.1 hs).1; rw [HI.out] at this; cases this
    go_enter Tryz.func11, Tryz.ntmps11
    go_wp2_with fail
    refine (rright_any _ L _ HV.out).mono ?_
    rintro e w1 ⟨rfl, hb1⟩
    rw [HI.out]
    have HB8 : Hid (Below w.heap.size w w1) := hb1
    clear hb1
    go_wp2
    go_ret
    rw [HH.out]
    exact ⟨rfl, HB8.out⟩
  · have hL : L.length ≤ 24 := by have := (Sp.right_len HI.out).2; rw [List.length_map] at this; exact this
    have hL2 : n ≤ 24 := by rw [← HN.out]; exact hL
    have hn1 : 0 < n := by have := (Sp.right_len HI.out).1; rw [HPL.out] at this; exact this
    go_enter Tryz.func11, Tryz.ntmps11
    go_wp2_with fail
    refine (rright_any _ L _ HV.out).mono ?_
    rintro e w1 ⟨rfl, hb1⟩
    rw [HI.out]
    have HB1' : Hid (Below w.heap.size w w1) := hb1
    clear hb1
    go_wp2
    go_loopw [16] (fun i wr => ∃ k : Nat, k ≤ n ∧ i = .int .i64 k ∧ Hid (∀ j y, j < k → (pl L)[j]? = some y → Sp.okAt (pl L) j y) ∧ Hid (Below w.heap.size w wr)) (fun i _ => n - (intOf i).toNat)
    case atStart => exact ⟨0, Nat.zero_le _, rfl, fun j y hj => by omega, HB1'.out⟩
    case round =>
      obtain ⟨k, hk, rfl, HP, HB⟩ := hrel
      have hsz := HB.out.size
      by_cases hlt : k < n
      · obtain ⟨x, hxk⟩ : ∃ x, L[k]? = some x := ⟨_, List.getElem?_eq_getElem (by rw [HN.out]; exact hlt)⟩
        have HPK : Hid ((pl L)[k]? = some x.i) := by show _ = _; simp [hxk]
        obtain ⟨⟨b, off, rfl, hB, hc⟩, hen, hel, hes⟩ := tab_eight HV.out hxk
        have HES : Hid (∀ j e, x.i.ents[j]? = some e → ∃ b off, x.ep = some ⟨b, off, none⟩ ∧ b < w.heap.size ∧ ent4 w b (off + j * 4) e) := hes
        have hgood := HV.out.2 x (List.mem_of_getElem? hxk)
        obtain ⟨c0, c1, c2, c3, c4, c5, c6, c7⟩ := hc.below HB.out hB
        have hlt' : (k : Int) < (n : Int) := by omega
        obtain ⟨m, hm⟩ : ∃ m, x.en = m := ⟨_, rfl⟩
        obtain ⟨ep, hep⟩ : ∃ ep, x.ep = ep := ⟨_, rfl⟩
        have HM : Hid (x.i.ents.length = m) := hen.symm.trans hm
        have hmb : m ≤ 3518437208883 := by rw [← HM.out]; exact hel
        have HEP : Hid (x.ep = ep) := hep
        rw [hm, hep] at c6
        have HGD : Hid (∀ {V : World}, Below w.heap.size w V → AtW EE V (.slice ep m x.ec) x.i.ents) := fun {V} h => by rw [← hm, ← hep]; exact (hgood.2.1.up h).wide
        have HSM : Hid (∀ e ∈ x.i.ents, e.1.size ≤ maxLen) := HOK.out x (List.mem_of_getElem? hxk)
        have HSUC : Hid (Sp.okAt (pl L) k x.i → ∀ j y, j < k + 1 → (pl L)[j]? = some y → Sp.okAt (pl L) j y) := fun h j y hj hy => by
          by_cases hjk : j = k
          · subst hjk
            rw [HPK.out] at hy
            cases hy
            exact h
          · exact HP.out j y (by omega) hy
        have HBAD : Hid (¬ Sp.okAt (pl L) k x.i → r = false) := fun h => by
          rw [← HR.out]
          exact Sp.isSp_not fun ho => h (ho k x.i HPK.out)
        have hk012 : x.i.kind = 0 ∨ x.i.kind = 1 ∨ x.i.kind = 2 := by
          have hone := (It.right_iff.1 HI.out).2.2 x.i (List.mem_of_getElem? HPK.out)
          unfold one at hone
          simp only [Bool.and_eq_true] at hone
          rcases At.right_iff.1 hone.2.1 with ⟨h3, _⟩ | ⟨_, _, ⟨h3, _⟩ | ⟨h3, _⟩⟩
          · exact .inl h3
          · exact .inr (.inl h3)
          · exact .inr (.inr h3)
        have HROOT : Hid (k = 0 → x.i.kind = 2) := fun h0 => by subst h0; exact Sp.root_kind HI.out HPK.out
        clear hc hxk hes hen hel hm hep hgood
        rcases hk012 with hkd | hkd | hkd
        · rw [hkd] at c1
          have hkn : ¬ k = 0 := fun h => by have := HROOT.out h; omega
          have hkz : ¬ (k : Int) = 0 := by omega
          have HB1 : Hid (Below w.heap.size w (wr.alloc (B8 x.i.gen 0 x.i.links x.i.size x.i.stamp (.slice x.rp x.rn x.rc) (.slice ep m x.ec) x.i.next))) := HB.out.alloc hsz _
          have HX1 : Hid ((wr.alloc (B8 x.i.gen 0 x.i.links x.i.size x.i.stamp (.slice x.rp x.rn x.rc) (.slice ep m x.ec) x.i.next)).heap[wr.heap.size]? = some (B8 x.i.gen 0 x.i.links x.i.size x.i.stamp (.slice x.rp x.rn x.rc) (.slice ep m x.ec) x.i.next)) := heap_alloc_new wr _
          go_wp2_with fail
          refine (rnum_any _ L (k : Int) _ (HV.out.up HB1.out) hL).mono ?_
          rintro e w8 ⟨rfl, hb8⟩
          obtain ⟨g, hg⟩ : ∃ g, Sp.nmv (pl L) (k : Int) = g := ⟨_, rfl⟩
          have HG : Hid (Sp.nmv (pl L) (k : Int) = g) := hg
          rw [hg]
          have HB8 : Hid (Below w.heap.size w w8) := HB1.out.trans (hb8.mono HB1.out.size)
          obtain ⟨⟨q0, q1, q2, q3, q4, q5, q6, q7⟩, -⟩ := eight_of ((hb8.block _ (Array.getElem?_eq_some_iff.1 HX1.out).1).trans HX1.out)
          clear hb8 hg
          have HY : Hid (∀ j y, j < k + 1 → (pl L)[j]? = some y → Sp.okAt (pl L) j y) := HSUC.out ⟨fun h => by omega, fun h => by omega, fun h => by omega, fun h => by omega, fun h => by omega⟩
          clear hkd
          go_wp2
          go_roundw
          case rel => exact ⟨k + 1, by omega, by go_num, HY.out, HB8.out⟩
          case measure => simp [intOf]; omega
        · rw [hkd] at c1
          have hkn : ¬ k = 0 := fun h => by have := HROOT.out h; omega
          have hkz : ¬ (k : Int) = 0 := by omega
          have HB1 : Hid (Below w.heap.size w (wr.alloc (B8 x.i.gen 1 x.i.links x.i.size x.i.stamp (.slice x.rp x.rn x.rc) (.slice ep m x.ec) x.i.next))) := HB.out.alloc hsz _
          have HX1 : Hid ((wr.alloc (B8 x.i.gen 1 x.i.links x.i.size x.i.stamp (.slice x.rp x.rn x.rc) (.slice ep m x.ec) x.i.next)).heap[wr.heap.size]? = some (B8 x.i.gen 1 x.i.links x.i.size x.i.stamp (.slice x.rp x.rn x.rc) (.slice ep m x.ec) x.i.next)) := heap_alloc_new wr _
          go_wp2_with fail
          refine (rnum_any _ L (k : Int) _ (HV.out.up HB1.out) hL).mono ?_
          rintro e w8 ⟨rfl, hb8⟩
          obtain ⟨g, hg⟩ : ∃ g, Sp.nmv (pl L) (k : Int) = g := ⟨_, rfl⟩
          have HG : Hid (Sp.nmv (pl L) (k : Int) = g) := hg
          rw [hg]
          have HB8 : Hid (Below w.heap.size w w8) := HB1.out.trans (hb8.mono HB1.out.size)
          obtain ⟨⟨q0, q1, q2, q3, q4, q5, q6, q7⟩, -⟩ := eight_of ((hb8.block _ (Array.getElem?_eq_some_iff.1 HX1.out).1).trans HX1.out)
          clear hb8 hg
          by_cases hn : (g : Int) = x.i.links
          · have HY : Hid (∀ j y, j < k + 1 → (pl L)[j]? = some y → Sp.okAt (pl L) j y) := HSUC.out ⟨fun h => by omega, fun h => by omega, fun h => by rw [HG.out]; exact hn, fun h => by omega, fun h => by omega⟩
            have h1 : ((g : Int) != x.i.links) = false := by simp [hn]
            clear hkd hn
            go_wp2
            go_roundw
            case rel => exact ⟨k + 1, by omega, by go_num, HY.out, HB8.out⟩
            case measure => simp [intOf]; omega
          · have HH : Hid (r = false) := HBAD.out fun h => hn (by rw [← HG.out]; exact h.2.2.1 hkd)
            have h1 : ((g : Int) != x.i.links) = true := by simp [hn]
            clear hkd hn
            go_wp2
            go_ret
            rw [HH.out]
            exact ⟨rfl, HB8.out⟩
        · rw [hkd] at c1
          have HB1 : Hid (Below w.heap.size w (wr.alloc (B8 x.i.gen 2 x.i.links x.i.size x.i.stamp (.slice x.rp x.rn x.rc) (.slice ep m x.ec) x.i.next))) := HB.out.alloc hsz _
          have HX1 : Hid ((wr.alloc (B8 x.i.gen 2 x.i.links x.i.size x.i.stamp (.slice x.rp x.rn x.rc) (.slice ep m x.ec) x.i.next)).heap[wr.heap.size]? = some (B8 x.i.gen 2 x.i.links x.i.size x.i.stamp (.slice x.rp x.rn x.rc) (.slice ep m x.ec) x.i.next)) := heap_alloc_new wr _
          have HBX : Hid (∀ V, Below w.heap.size w V → Below w.heap.size w V) := fun _ h => h
          rcases Fo.err_or x.i.ents x.i.next with ⟨he, hrt⟩ | ⟨he, hrt⟩
          · have HE : Hid (decide (Fo.err x.i.ents x.i.next = 0) = true) := decide_eq_true he
            clear he
            go_wp2_with fail
            refine (frright_any _ x.i.ents x.i.next _ (HGD.out HB1.out) HSM.out).mono ?_
            rintro e w4 ⟨rfl, hb4⟩
            rw [HE.out]
            have HB4 : Hid (Below w.heap.size w w4) := HB1.out.trans (hb4.mono HB1.out.size)
            have HX4 : Hid (w4.heap[wr.heap.size]? = some (B8 x.i.gen 2 x.i.links x.i.size x.i.stamp (.slice x.rp x.rn x.rc) (.slice ep m x.ec) x.i.next)) := (hb4.block _ (Array.getElem?_eq_some_iff.1 HX1.out).1).trans HX1.out
            obtain ⟨⟨q0, q1, q2, q3, q4, q5, q6, q7⟩, -⟩ := eight_of HX4.out
            clear hb4
            by_cases hs : x.i.size = (m : Int)
            · have HFO : Hid (Sp.fold x.i) := fun _ => ⟨hrt, by rw [hs, HM.out]⟩
              have hs1 : (x.i.size != (m : Int)) = false := by simp [hs]
              have HKD : Hid (x.i.kind = 2) := hkd
              clear hrt hs hkd
              go_wp2
              clear q0 q1 q2 q3 q4 q5 q6 q7 c0 c1 c2 c3 c4 c5 c6 c7 hs1
              obtain ⟨wo, rfl⟩ : ∃ wo : World, wo = wr := ⟨_, rfl⟩
              go_loopw [43] (fun i V => ∃ j : Nat, j ≤ m ∧ i = .int .i64 j ∧ Hid (∀ e ∈ x.i.ents.take j, names (pl L) e.2.2.1 e.2.2.2 = true) ∧ Hid (V.heap[wo.heap.size]? = some (B8 x.i.gen 2 x.i.links x.i.size x.i.stamp (.slice x.rp x.rn x.rc) (.slice ep m x.ec) x.i.next)) ∧ Hid (Below w.heap.size w V)) (fun i _ => m - (intOf i).toNat)
              case atStart => exact ⟨0, Nat.zero_le _, rfl, fun e he => (by simp at he), HX4.out, HB4.out⟩
              case round =>
                obtain ⟨j, hj, rfl, HE5, HX5, HB5⟩ := hrel
                by_cases hjm : j < m
                · obtain ⟨⟨s, ck, no2, gn⟩, hej⟩ : ∃ e, x.i.ents[j]? = some e := ⟨_, List.getElem?_eq_getElem (by rw [HM.out]; exact hjm)⟩
                  obtain ⟨b2, off2, hep, hb2, h4⟩ := HES.out j _ hej
                  obtain rfl : ep = some ⟨b2, off2, none⟩ := HEP.out.symm.trans hep
                  obtain ⟨d0, d1, d2, d3⟩ := h4.below HB5.out hb2
                  simp only at d0 d1 d2 d3
                  have hjm' : (j : Int) < (m : Int) := by omega
                  have HEJ : Hid (x.i.ents[j]? = some (s, ck, no2, gn)) := hej
                  obtain ⟨hx5, -⟩ := Array.getElem?_eq_some_iff.1 HX5.out
                  have HB6 : Hid (Below w.heap.size w (wr.alloc (BEn (s, ck, no2, gn)))) := HB5.out.alloc HB5.out.size _
                  have HX6 : Hid ((wr.alloc (BEn (s, ck, no2, gn))).heap[wo.heap.size]? = some (B8 x.i.gen 2 x.i.links x.i.size x.i.stamp (.slice x.rp x.rn x.rc) (.slice (some ⟨b2, off2, none⟩) m x.ec) x.i.next)) := (Below.heap_alloc wr _ _ hx5).trans HX5.out
                  clear hej hep h4
                  cases hnm : names (pl L) no2 gn with
                  | true =>
                    have HNN : Hid (names (pl L) no2 gn = true) := hnm
                    have HE6 : Hid (∀ e ∈ x.i.ents.take (j + 1), names (pl L) e.2.2.1 e.2.2.2 = true) := fun e he => by
                      rw [List.take_add_one, HEJ.out] at he
                      rcases List.mem_append.1 he with he | he
                      · exact HE5.out e he
                      · simp at he
                        subst he
                        exact HNN.out
                    clear hnm
                    go_wp2_with fail
                    refine (rnames_any _ L no2 gn _ (HV.out.up HB6.out)).mono ?_
                    rintro e w7 ⟨rfl, hb7⟩
                    rw [HNN.out]
                    have HB7 : Hid (Below w.heap.size w w7) := HB6.out.trans (hb7.mono HB6.out.size)
                    have HX7 : Hid (w7.heap[wo.heap.size]? = some (B8 x.i.gen 2 x.i.links x.i.size x.i.stamp (.slice x.rp x.rn x.rc) (.slice (some ⟨b2, off2, none⟩) m x.ec) x.i.next)) := (hb7.block _ (Array.getElem?_eq_some_iff.1 HX6.out).1).trans HX6.out
                    clear hb7
                    go_wp2
                    go_roundw
                    case rel => exact ⟨j + 1, by omega, by go_num, HE6.out, HX7.out, HB7.out⟩
                    case measure => simp [intOf]; omega
                  | false =>
                    have HNN : Hid (names (pl L) no2 gn = false) := hnm
                    have HH : Hid (r = false) := HBAD.out fun h => by
                      have := h.2.1 HKD.out _ (List.mem_of_getElem? HEJ.out)
                      rw [show names (pl L) no2 gn = false from HNN.out] at this
                      cases this
                    clear hnm
                    go_wp2_with fail
                    refine (rnames_any _ L no2 gn _ (HV.out.up HB6.out)).mono ?_
                    rintro e w7 ⟨rfl, hb7⟩
                    rw [HNN.out]
                    have HB8 : Hid (Below w.heap.size w w7) := HB6.out.trans (hb7.mono HB6.out.size)
                    clear hb7
                    go_wp2
                    go_ret
                    rw [HH.out]
                    exact ⟨rfl, HB8.out⟩
                · obtain rfl : m = j := by omega
                  have HNM : Hid (x.i.kind = 2 → ∀ e ∈ x.i.ents, names (pl L) e.2.2.1 e.2.2.2 = true) := fun _ => by
                    have := HE5.out
                    rw [List.take_of_length_le (by rw [HM.out]; exact Nat.le_refl _)] at this
                    exact this
                  have hkd : x.i.kind = 2 := HKD.out
                  go_wp2_with fail
                  refine (rnum_any _ L (k : Int) _ (HV.out.up HB5.out) hL).mono ?_
                  rintro e w8 ⟨rfl, hb8⟩
                  obtain ⟨g, hg⟩ : ∃ g, Sp.nmv (pl L) (k : Int) = g := ⟨_, rfl⟩
                  have HG : Hid (Sp.nmv (pl L) (k : Int) = g) := hg
                  rw [hg]
                  have HB8 : Hid (Below w.heap.size w w8) := HB5.out.trans (hb8.mono HB5.out.size)
                  obtain ⟨⟨q0, q1, q2, q3, q4, q5, q6, q7⟩, -⟩ := eight_of ((hb8.block _ (Array.getElem?_eq_some_iff.1 HX5.out).1).trans HX5.out)
                  clear hb8 hg
                  by_cases hk0 : k = 0
                  · by_cases hn : g = 0
                    · have HY : Hid (∀ j y, j < k + 1 → (pl L)[j]? = some y → Sp.okAt (pl L) j y) := HSUC.out ⟨HFO.out, HNM.out, fun h => by omega, fun h h' => by omega, fun h => by rw [HG.out, hn]; rfl⟩
                      subst hk0 hn
                      clear hkd
                      go_wp2
                      go_roundw
                      case rel => exact ⟨0 + 1, by omega, by go_num, HY.out, HB8.out⟩
                      case measure => simp [intOf]; omega
                    · have HH : Hid (r = false) := HBAD.out fun h => hn (by have := h.2.2.2.2 hk0; rw [HG.out] at this; omega)
                      have h1 : ((g : Int) != 0) = true := by simp; omega
                      subst hk0
                      clear hkd hn
                      go_wp2
                      go_ret
                      rw [HH.out]
                      exact ⟨rfl, HB8.out⟩
                  · have hk1 : 0 < (k : Int) := by omega
                    have hk2 : ¬ (k : Int) = 0 := by omega
                    by_cases hn : g = 1
                    · have HY : Hid (∀ j y, j < k + 1 → (pl L)[j]? = some y → Sp.okAt (pl L) j y) := HSUC.out ⟨HFO.out, HNM.out, fun h => by omega, fun h h' => by rw [HG.out, hn]; rfl, fun h => by omega⟩
                      subst hn
                      clear hkd
                      go_wp2
                      go_roundw
                      case rel => exact ⟨k + 1, by omega, by go_num, HY.out, HB8.out⟩
                      case measure => simp [intOf]; omega
                    · have HH : Hid (r = false) := HBAD.out fun h => hn (by have := h.2.2.2.1 hkd (by omega); rw [HG.out] at this; omega)
                      have h1 : ((g : Int) != 1) = true := by simp; omega
                      clear hkd hn
                      go_wp2
                      go_ret
                      rw [HH.out]
                      exact ⟨rfl, HB8.out⟩
            · have HH : Hid (r = false) := HBAD.out fun h => hs (by rw [(h.1 hkd).2, HM.out])
              have hs1 : (x.i.size != (m : Int)) = true := by simp [hs]
              have HB8 := HB4
              clear hrt hs hkd
              go_wp2
              go_ret
              rw [HH.out]
              exact ⟨rfl, HB8.out⟩
          · have HE : Hid (decide (Fo.err x.i.ents x.i.next = 0) = false) := decide_eq_false (by rw [he]; decide)
            have HH : Hid (r = false) := HBAD.out fun h => hrt (h.1 hkd).1
            clear he hrt hkd
            go_wp2_with fail
            refine (frright_any _ x.i.ents x.i.next _ (HGD.out HB1.out) HSM.out).mono ?_
            rintro e w4 ⟨rfl, hb4⟩
            rw [HE.out]
            have HB8 : Hid (Below w.heap.size w w4) := HB1.out.trans (hb4.mono HB1.out.size)
            clear hb4
            go_wp2
            go_ret
            rw [HH.out]
            exact ⟨rfl, HB8.out⟩
      · obtain rfl : n = k := by omega
        have HALL : Hid (Sp.okAll (pl L)) := fun i x hx => HP.out i x (by rw [← HPL.out]; exact (List.getElem?_eq_some_iff.1 hx).1) hx
        go_wp2_with fail
        refine (reach_any _ L 0 _ (HV.out.up HB.out) (by omega) (by rw [HN.out]; exact hn1)).mono ?_
        rintro e w2 ⟨rfl, hb2, f, hrow, hsd, hfl⟩
        rw [HN.out] at hrow hfl ⊢
        obtain ⟨b9, hb9⟩ : ∃ b9, wr.heap.size = b9 := ⟨_, rfl⟩
        rw [hb9] at hrow ⊢
        have HB2 : Hid (Below w.heap.size w w2) := HB.out.trans (hb2.mono HB.out.size)
        have HROW : Hid (w2.rowIs b9 4 n (fun i => .bool (f i))) := hrow
        have HISP : Hid (Sp.isSp (pl L) = true ↔ ∀ c, Sp.dirAt (pl L) c = true → f c = true) := Sp.isSp_of HI.out HALL.out hsd (by rw [HPL.out]; exact hfl)
        clear hb2 hrow hsd hfl hb9
        go_wp2
        obtain ⟨wo, rfl⟩ : ∃ wo : World, wo = wr := ⟨_, rfl⟩
        go_loopw [94] (fun i V => ∃ k : Nat, k ≤ n ∧ i = .int .i64 k ∧ Hid (∀ c, c < k → Sp.dirAt (pl L) c = true → f c = true) ∧ Hid (Below w2.heap.size w2 V)) (fun i _ => n - (intOf i).toNat)
        case atStart => exact ⟨0, Nat.zero_le _, rfl, fun c hc => by omega, Below.refl _ _⟩
        case round =>
          obtain ⟨k, hk, rfl, HF, HBV⟩ := hrel
          have hszv := HBV.out.size
          have HB8 : Hid (Below w.heap.size w wr) := HB2.out.trans (HBV.out.mono HB2.out.size)
          by_cases hlt : k < n
          · obtain ⟨x, hxk⟩ : ∃ x, L[k]? = some x := ⟨_, List.getElem?_eq_getElem (by rw [HN.out]; exact hlt)⟩
            obtain ⟨⟨b, off, rfl, hB, hc⟩, -, -, -⟩ := tab_eight HV.out hxk
            obtain ⟨c0, c1, c2, c3, c4, c5, c6, c7⟩ := hc.below HB8.out hB
            have hlt' : (k : Int) < (n : Int) := by omega
            have HDIR : Hid (Sp.dirAt (pl L) k = (x.i.kind == 2)) := (ents_at hxk).2
            have hrv := HROW.out.of_block (HBV.out.block _ HROW.out.lt)
            have q1 := hrv.cell hlt
            have hlv := hrv.lt
            clear hc hxk hrv
            by_cases hkd : x.i.kind = 2
            · rw [hkd] at c1
              cases hfk : f k with
              | true =>
                rw [hfk] at q1
                have HF2 : Hid (∀ c, c < k + 1 → Sp.dirAt (pl L) c = true → f c = true) := fun c hc hd => by
                  by_cases hck : c = k
                  · rw [hck]; exact hfk
                  · exact HF.out c (by omega) hd
                clear hfk hkd
                go_wp2
                go_roundw
                case rel => exact ⟨k + 1, by omega, by go_num, HF2.out, HBV.out.alloc hszv _⟩
                case measure => simp [intOf]; omega
              | false =>
                rw [hfk] at q1
                have HH : Hid (r = false) := by
                  show r = false
                  rw [← HR.out]
                  cases hs : Sp.isSp (pl L) with
                  | false => rfl
                  | true =>
                    have := HISP.out.1 hs k (by rw [HDIR.out, hkd]; rfl)
                    rw [hfk] at this
                    cases this
                clear hfk hkd
                go_wp2
                go_ret
                rw [HH.out]
                exact ⟨rfl, HB8.out.alloc HB8.out.size _⟩
            · have HF2 : Hid (∀ c, c < k + 1 → Sp.dirAt (pl L) c = true → f c = true) := fun c hc hd => by
                by_cases hck : c = k
                · rw [hck, HDIR.out] at hd
                  exact (hkd (by simpa using hd)).elim
                · exact HF.out c (by omega) hd
              go_wp2
              go_roundw
              case rel => exact ⟨k + 1, by omega, by go_num, HF2.out, HBV.out.alloc hszv _⟩
              case measure => simp [intOf]; omega
          · obtain rfl : n = k := by omega
            have HH : Hid (r = true) := by
              show r = true
              rw [← HR.out]
              exact HISP.out.2 fun c hd => HF.out c (by rw [← HPL.out]; exact Sp.dirAt_lt hd) hd
            go_wp2
            go_ret
            rw [HH.out]
            exact ⟨rfl, HB8.out⟩
end Go.Proofs.YtacghcoikekfeaaGreat
