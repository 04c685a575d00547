/-
  sextonref11.Rename, over what its Right answers.
-/
import Derived.Test.YtacghcoikekfeaaGreatSRef12
import Derived.Test.YtacghcoikekfeaaGreatSp22
import Derived.Test.YtacghcoikekfeaaGreatRRe
namespace Go.Proofs.YtacghcoikekfeaaGreat
open Go.ChangeShapes Go.WideShapes Go.ChangeAt Go.RowKit Go.Deep It
set_option maxRecDepth 100000
/-- What is reached from a folder is what is inside it; nothing is inside a file. -/
def Sp.InsMeans (C : List Ino → Int) (I : List Ino → Int → Int → Bool) : Prop := ∀ (L : List Ino) (no c : Nat), C L = 0 → Sp.dirAt L c = true → no < L.length →
  (Sp.dirAt L no = true → ∀ f, Sp.Sound L no f → Sp.Full L no L.length f → f c = I L no c) ∧ (Sp.dirAt L no = false → I L no c = false)
theorem Sp.nameErr_dir {L : List Ino} {a b : Int} {s : ByteArray} (h : Sp.nameErr L a b s = 0 ∨ Sp.nameErr L a b s = 403) : Sp.dirErr L a b = 0 := by
  by_cases hd : Sp.dirErr L a b = 0
  · exact hd
  · have h1 : Sp.lookErr L a b s = Sp.dirErr L a b := by unfold Sp.lookErr; rw [if_neg hd]
    have h2 := Sp.dirErr_four L a b
    unfold Sp.nameErr at h
    rw [h1, if_neg hd, if_neg (by omega)] at h
    omega
set_option maxHeartbeats 8000000 in
theorem rrename_any {R : List Ino → Bool} {I : List Ino → Int → Int → Bool} (hR : RtSaid R) (hM : Sp.ChkMeans (Sp.chk R)) (hI : Sp.InsMeans (Sp.chk R) I) {S : Nat → Prop} (v : Value) (L : List Rw) (a b : Int) (s : ByteArray) (c d : Int) (s2 : ByteArray) (st : Int) (w : World) (hv : TabAt S w v L) (hok : Sp.okN L) (hs : s.size ≤ maxLen) (hs2 : s2.size ≤ maxLen) :
    Calls Tryz.prog 27 #[v, .agg #[.int .i64 a, .int .i64 b], .string s, .agg #[.int .i64 c, .int .i64 d], .string s2, .int .i64 st] w fun e w' =>
      ∃ u L', e = .returned (.tuple #[u, .int .i64 (Sp.rnE (Sp.chk R) I (pl L) a b s c d s2 st)]) ∧ TabW w' u L' ∧ pl L' = Sp.rnT (Sp.chk R) I (pl L) a b s c d s2 st ∧ Below w.heap.size w w' := by
  obtain ⟨W, hW⟩ : ∃ W, W = (w.alloc (BH a b)).alloc (BH c d) := ⟨_, rfl⟩
  have HB0 : Hid (Below w.heap.size w W) := by show Below w.heap.size w W; rw [hW]; exact ((Below.refl _ w).alloc (Nat.le_refl _) _).alloc (by simp) _
  have HA0 : Hid (W.heap[w.heap.size]? = some (BH a b) ∧ W.heap[w.heap.size + 1]? = some (BH c d)) := by
    rw [hW]
    refine ⟨(Below.heap_alloc _ _ _ (by simp)).trans (heap_alloc_new _ _), ?_⟩
    have := heap_alloc_new (w.alloc (BH a b)) (BH c d)
    rwa [show (w.alloc (BH a b)).heap.size = w.heap.size + 1 by simp] at this
  have hws0 : w.heap.size + 1 < W.heap.size := by rw [hW]; simp
  have HV : Hid (TabAt S W v L) := hv.up HB0.out
  have HVW : Hid (∀ V, Below w.heap.size w V → TabAt S V v L) := fun V h => hv.up h
  obtain ⟨ao, cap, rfl, hm, hx⟩ := hv.open
  have HOK : Hid (Sp.okN L) := hok
  have HSM : Hid (s.size ≤ maxLen ∧ s2.size ≤ maxLen) := ⟨hs, hs2⟩
  have HRR : Hid (RtSaid R) := hR
  have hno : ∀ e, Sp.rnE (Sp.chk R) I (pl L) a b s c d s2 st = e → e ≠ 0 → Sp.rnT (Sp.chk R) I (pl L) a b s c d s2 st = [] := fun e h h0 => by unfold Sp.rnT; rw [if_neg (by rw [h]; exact h0)]
  clear hv hok hs hs2 hR hm
  by_cases hse : Sp.stErr (Sp.chk R) (pl L) st = 0
  · have HSE : Hid (Sp.stErr (Sp.chk R) (pl L) st = 0) := hse
    have hc0 := (Sp.stErr_zero hse).1
    obtain ⟨hr0, -, hlen, -⟩ := hM _ hc0
    have HRT : Hid (It.right (pl L) = true) := hr0
    obtain ⟨q, hq⟩ : ∃ q, Sp.lookH (pl L) a b s = q := ⟨_, rfl⟩
    obtain ⟨te, hte⟩ : ∃ te, Sp.lookErr (pl L) a b s = te := ⟨_, rfl⟩
    have HLK2 : Hid (Sp.lookH (pl L) a b s = q ∧ Sp.lookErr (pl L) a b s = te) := ⟨hq, hte⟩
    have hto : Sp.toErr (Sp.chk R) (pl L) st a b s = te := by unfold Sp.toErr; rw [if_pos hse, hte]
    have htoH : Sp.toH (Sp.chk R) (pl L) st a b s = q := by unfold Sp.toH; rw [if_pos hse, hq]
    clear hr0
    by_cases hz : te = 0
    · subst hz
      obtain ⟨kc, xc, j, en, kt, xt, rfl, hxc, hgc, hkc, hfc, hff, hpl, hj, hqe, hkt, hkt0, hxt, hgt, hkt2, hlk, hft, hit, hic, hr, hst, hlenc⟩ := Sp.to_zero hM hto
      rw [htoH] at hqe
      subst hqe
      obtain ⟨yc, hyc, rfl⟩ := Sp.pl_some hxc
      obtain ⟨yt, hyt, rfl⟩ := Sp.pl_some hxt
      obtain ⟨⟨bb, off, rfl, hB, hc8⟩, hgd0⟩ := hx kt yt hyt
      have HX8 : Hid (∀ V, Below w.heap.size w V → eight V bb (off + kt * 8) yt) := fun V h => hc8.below h hB
      have HKT : Hid (kt < L.length) := (List.getElem?_eq_some_iff.1 hyt).1
      have hkl : (kt : Int) < (L.length : Int) := by have := HKT.out; omega
      have hL24 : L.length ≤ 24 := by have := (Sp.right_len hr).2; rw [List.length_map] at this; exact this
      obtain ⟨en1, en2, en3, g⟩ := en
      simp only at htoH hq hkt hgt hft hit HLK2
      subst hkt
      clear hx
      obtain ⟨ne, hne⟩ : ∃ ne, Sp.nameErr (pl L) c d s2 = ne := ⟨_, rfl⟩
      have HNE : Hid (Sp.nameErr (pl L) c d s2 = ne) := hne
      have hEm : ∀ m, Sp.moveErr I (pl L) kt c d s2 = m → m ≠ 0 → Sp.rnE (Sp.chk R) I (pl L) kc b s c d s2 st = m := fun m h h0 => by
        unfold Sp.rnE
        rw [hto, if_pos rfl, htoH, h, if_neg h0]
      by_cases hn : ne = 0 ∨ ne = 403
      · obtain ⟨kd, xd, rfl, hxd, hgd, hkd, -, -, -, -⟩ := Sp.dir_get (Sp.nameErr_dir (by rw [hne]; exact hn))
        obtain ⟨yd, hyd, rfl⟩ := Sp.pl_some hxd
        have HKD : Hid (kd < L.length) := (List.getElem?_eq_some_iff.1 hyd).1
        have hkdl : (kd : Int) < (L.length : Int) := by have := HKD.out; omega
        have hdc : Sp.dirAt (pl L) kd = true := by unfold Sp.dirAt; rw [hxd]; simp [hkd]
        obtain ⟨iv, hiv⟩ : ∃ iv, I (pl L) kt kd = iv := ⟨_, rfl⟩
        have HIV : Hid (I (pl L) kt kd = iv) := hiv
        have hI2 := hI (pl L) kt kd hc0 hdc (by rw [List.length_map]; exact HKT.out)
        have hdt : Sp.dirAt (pl L) kt = (yt.i.kind == 2) := by unfold Sp.dirAt; rw [hxt]
        -- the case that goes on
        have hlend := (hM _ hc0).2.2.1 yd.i (List.mem_of_getElem? hxd)
        have hst0 : 0 ≤ st := Int.le_trans (Sp.top_nonneg _) hst.1
        obtain ⟨-, hr1⟩ := Sp.less_right (s := s) hr hxc hgc hkc hfc ⟨hst0, hst.2⟩ hlenc
        obtain ⟨x1, hx1, -, -, hl1, hsub, -, -⟩ := Sp.mid (es := yc.i.ents.eraseIdx (Fo.plc yc.i.ents yc.i.next s).toNat) (st := st) hxc hkc (Nat.le_trans (List.length_eraseIdx_le ..) hlenc) (fun e he => List.mem_of_mem_eraseIdx he) hst hxd hkd hlend hr1
        have hld : Sp.lessDir (pl L) kc b s st = (pl L).set kc (Sp.filled yc.i (yc.i.ents.eraseIdx (Fo.plc yc.i.ents yc.i.next s).toNat) yc.i.next st) := by
          unfold Sp.lessDir
          rw [hic]
          rfl
        obtain ⟨T1, hT1⟩ : ∃ T1, (pl L).set kc (Sp.filled yc.i (yc.i.ents.eraseIdx (Fo.plc yc.i.ents yc.i.next s).toNat) yc.i.next st) = T1 := ⟨_, rfl⟩
        have HT1 : Hid ((pl L).set kc (Sp.filled yc.i (yc.i.ents.eraseIdx (Fo.plc yc.i.ents yc.i.next s).toNat) yc.i.next st) = T1) := hT1
        rw [hT1] at hx1 hld
        have hmid : Sp.midI (pl L) kc b s st kd = x1 := by
          unfold Sp.midI
          rw [hld, show ((kd : Int)).toNat = kd by omega, hx1]
          rfl
        obtain ⟨ae, hae⟩ : ∃ ae, Fo.addErr x1.ents x1.next s2 kt g = ae := ⟨_, rfl⟩
        have HAE : Hid (Fo.addErr x1.ents x1.next s2 kt g = ae) := hae
        have HX1 : Hid (T1[kd]? = some x1 ∧ (∀ e ∈ x1.ents, e.1.size ≤ maxLen) ∧ x1.ents.length ≤ 1000000) := ⟨hx1, fun e he => HOK.out yd (List.mem_of_getElem? hyd) e (hsub e he), by omega⟩
        have HYC : Hid (L[kc]? = some yc ∧ (∀ e ∈ yc.i.ents, e.1.size ≤ maxLen) ∧ Fo.findErr yc.i.ents yc.i.next s = 0) := ⟨hyc, HOK.out yc (List.mem_of_getElem? hyc), hff⟩
        have hEa : Sp.moveErr I (pl L) kt kd d s2 = 0 → Sp.rnE (Sp.chk R) I (pl L) kc b s kd d s2 st = ae := fun h => by
          unfold Sp.rnE
          rw [hto, if_pos rfl, htoH, h, if_pos rfl, hmid, hae]
        obtain ⟨RT, hRT⟩ : ∃ RT, Sp.rnT (Sp.chk R) I (pl L) kc b s kd d s2 st = RT := ⟨_, rfl⟩
        have HRT2 : Sp.moveErr I (pl L) kt kd d s2 = 0 → Hid ((ae = 0 → RT = T1.set kd (Sp.filled x1 (x1.ents ++ [(s2, x1.next + 1, (kt : Int), g)]) (x1.next + 1) st)) ∧ (ae ≠ 0 → RT = [])) := fun h => by
          have hE := hEa h
          refine ⟨fun h0 => ?_, fun h0 => ?_⟩
          · rw [← hRT]
            unfold Sp.rnT
            rw [hE, if_pos h0, htoH, hmid, hld, show ((kd : Int)).toNat = kd by omega]
          · rw [← hRT]
            unfold Sp.rnT
            rw [hE, if_neg h0]
        clear hx1 hld hmid hae hl1 hsub hr1 hlend hst0 hT1 hyd
        by_cases hk2 : yt.i.kind = 2
        · have HK2 : Hid (yt.i.kind = 2) := hk2
          have HII : Hid (∀ f, Sp.Sound (pl L) kt f → Sp.Full (pl L) kt (pl L).length f → f kd = I (pl L) kt kd) := hI2.1 (by rw [hdt, hk2]; rfl)
          cases iv
          · have hmv : Sp.moveErr I (pl L) kt kd d s2 = ne := by unfold Sp.moveErr; rw [hiv, if_neg (by simp), hne]
            rcases hn with rfl | rfl
            · have HRT3 := HRT2 hmv
              rw [hEa hmv, hRT]
              clear HRT2
              have HRT2 := HRT3
              clear hno hse hc0 hr hlen hq hte hto htoH hxc hgc hkc hfc hff hpl hj hkt0 hxt hgt hkt2 hlk hft hit hic hst hlenc hyc hyt hc8 hgd0 hM hI hmv hRT hEa hEm hdc hdt hI2 hiv hk2 hxd hgd hkd hne HRT3
              go_enter Tryz.func27, Tryz.ntmps27
              go_wp2_with fail
              rw [← hW]
              refine (rasked_any HRR.out _ L st _ HV.out HOK.out).mono ?_
              rintro e w1 ⟨rfl, hb1⟩
              rw [HSE.out]
              have HB1 : Hid (Below w.heap.size w w1) := HB0.out.trans (hb1.mono HB0.out.size)
              have HA1 : Hid (w1.heap[w.heap.size]? = some (BH kc b) ∧ w1.heap[w.heap.size + 1]? = some (BH kd d)) := ⟨(hb1.block _ (by omega)).trans HA0.out.1, (hb1.block _ hws0).trans HA0.out.2⟩
              have hws1 : w.heap.size + 1 < w1.heap.size := (Array.getElem?_eq_some_iff.1 HA1.out.2).1
              clear hb1 hW
              obtain ⟨⟨a0, a1⟩, _⟩ := two_of HA1.out.1
              go_wp2_with fail
              clear a0 a1
              refine (rlook_any _ L kc b s _ (HVW.out _ HB1.out) HOK.out HSM.out.1 HRT.out).mono ?_
              rintro e w2 ⟨rfl, hb2⟩
              rw [HLK2.out.1, HLK2.out.2]
              have HB2 : Hid (Below w.heap.size w w2) := HB1.out.trans (hb2.mono HB1.out.size)
              have HA2 : Hid (w2.heap[w.heap.size]? = some (BH kc b) ∧ w2.heap[w.heap.size + 1]? = some (BH kd d)) := ⟨(hb2.block _ (by omega)).trans HA1.out.1, (hb2.block _ hws1).trans HA1.out.2⟩
              have hws2 : w.heap.size + 1 < w2.heap.size := (Array.getElem?_eq_some_iff.1 HA2.out.2).1
              clear hb2
              obtain ⟨W2, hW2⟩ : ∃ W2, W2 = w2.alloc (BH kt g) := ⟨_, rfl⟩
              have bb2 : Below w2.heap.size w2 W2 := by rw [hW2]; exact (Below.refl _ _).alloc (Nat.le_refl _) _
              have HBW : Hid (Below w.heap.size w W2) := HB2.out.trans (bb2.mono HB2.out.size)
              have HAW : Hid (W2.heap[w.heap.size]? = some (BH kc b) ∧ W2.heap[w2.heap.size]? = some (BH kt g) ∧ W2.heap[w.heap.size + 1]? = some (BH kd d)) := ⟨(bb2.block _ (by omega)).trans HA2.out.1, by rw [hW2]; exact heap_alloc_new _ _, (bb2.block _ hws2).trans HA2.out.2⟩
              have hwt2 : w2.heap.size < W2.heap.size := (Array.getElem?_eq_some_iff.1 HAW.out.2.1).1
              obtain ⟨⟨g0, g1⟩, _⟩ := two_of HA2.out.2
              clear bb2
              go_wp2_with fail
              rw [← hW2]
              clear g0 g1 hW2
              refine (rfree_any _ L kd d s2 _ (HVW.out _ HBW.out) HOK.out HSM.out.2 HRT.out).mono ?_
              rintro e w3 ⟨rfl, hb3⟩
              rw [HNE.out]
              have HB3 : Hid (Below w.heap.size w w3) := HBW.out.trans (hb3.mono HBW.out.size)
              have HA3 : Hid (w3.heap[w.heap.size]? = some (BH kc b) ∧ w3.heap[w2.heap.size]? = some (BH kt g) ∧ w3.heap[w.heap.size + 1]? = some (BH kd d)) := ⟨(hb3.block _ (by omega)).trans HAW.out.1, (hb3.block _ hwt2).trans HAW.out.2.1, (hb3.block _ (by omega)).trans HAW.out.2.2⟩
              have hwt3 : w2.heap.size < w3.heap.size := (Array.getElem?_eq_some_iff.1 HA3.out.2.1).1
              have hws3 : w.heap.size + 1 < w3.heap.size := (Array.getElem?_eq_some_iff.1 HA3.out.2.2).1
              clear hb3
              obtain ⟨⟨t0, t1⟩, _⟩ := two_of HA3.out.2.1
              obtain ⟨r0, r1, r2, r3, r4, r5, r6, r7⟩ := HX8.out _ HB3.out
              rw [HK2.out] at r1
              go_wp2_with fail
              clear r0 r1 r2 r3 r4 r5 r6 r7 t0 t1
              refine (reach_any _ L kt _ (HVW.out _ HB3.out) (by omega) HKT.out).mono ?_
              rintro e w4 ⟨rfl, hb4, f, hrow, hsd, hfl⟩
              have hfi : f kd = I (pl L) kt kd := HII.out f hsd (by rw [List.length_map]; exact hfl)
              obtain ⟨b9, hb9⟩ : ∃ b9, w3.heap.size = b9 := ⟨_, rfl⟩
              rw [hb9] at hrow ⊢
              have q1 := hrow.cell HKD.out
              rw [hfi, HIV.out] at q1
              have HB4 : Hid (Below w.heap.size w w4) := HB3.out.trans (hb4.mono HB3.out.size)
              have HA4 : Hid (w4.heap[w.heap.size]? = some (BH kc b) ∧ w4.heap[w2.heap.size]? = some (BH kt g) ∧ w4.heap[w.heap.size + 1]? = some (BH kd d)) := ⟨(hb4.block _ (by omega)).trans HA3.out.1, (hb4.block _ hwt3).trans HA3.out.2.1, (hb4.block _ hws3).trans HA3.out.2.2⟩
              have hwt4 : w2.heap.size < w4.heap.size := (Array.getElem?_eq_some_iff.1 HA4.out.2.1).1
              have hws4 : w.heap.size + 1 < w4.heap.size := (Array.getElem?_eq_some_iff.1 HA4.out.2.2).1
              clear hb4 hrow hsd hfl hfi hb9
              obtain ⟨⟨g0, g1⟩, _⟩ := two_of HA4.out.2.2
              have HSG : Hid (∀ w' : World, Below w4.heap.size w4 w' → w'.cell? ⟨w.heap.size, 0, none⟩ = some (.int .i64 kc) ∧ w'.cell? ⟨w2.heap.size, 0, none⟩ = some (.int .i64 kt) ∧ w'.cell? ⟨w2.heap.size, 1, none⟩ = some (.int .i64 g) ∧ w'.cell? ⟨w.heap.size + 1, 0, none⟩ = some (.int .i64 kd)) := fun V h => by
                obtain ⟨⟨a0, a1⟩, _⟩ := two_of HA4.out.1
                obtain ⟨⟨t0, t1⟩, _⟩ := two_of HA4.out.2.1
                obtain ⟨⟨g0, g1⟩, _⟩ := two_of HA4.out.2.2
                exact ⟨cell_step a0 h, cell_step t0 h, cell_step t1 h, cell_step g0 h⟩
              have HREM : Hid (∀ V, Below w4.heap.size w4 V → Calls Tryz.prog 59 #[.slice (some ⟨bb, off, none⟩) L.length cap, .int .i64 kc, .string s, .int .i64 st] V fun e w' => ∃ u L', e = .returned u ∧ TabW w' u L' ∧ pl L' = T1 ∧ Below V.heap.size V w') := fun V h => (rless_any _ L kc st s yc V (HVW.out _ (HB4.out.trans (h.mono HB4.out.size))) HYC.out.1 HYC.out.2.1 HSM.out.1 HYC.out.2.2 (by omega)).mono fun e w' ⟨g, cap, L', h1, h2, h3, h4⟩ => ⟨_, L', h1, h2.tab, by rw [h3]; exact HT1.out, h4⟩
              have HADD : Hid (∀ V u L1, TabW V u L1 → pl L1 = T1 → Calls Tryz.prog 51 #[u, .int .i64 kd, .string s2, .agg #[.int .i64 kt, .int .i64 g], .int .i64 st] V fun e w' => ∃ u L', e = .returned (.tuple #[u, .int .i64 ae]) ∧ TabW w' u L' ∧ pl L' = RT ∧ Below V.heap.size V w') := fun V u L1 h hp => by
                obtain ⟨y1, hy1, hyi⟩ := Sp.pl_some (L := L1) (k := kd) (x := x1) (by rw [hp]; exact HX1.out.1)
                have hl1 : L1.length ≤ 24 := by have := congrArg List.length hp; rw [← HT1.out] at this; simp at this; omega
                by_cases hz : ae = 0
                · have hR := HRT2.out.1 hz
                  refine (rmore_any u L1 kd kt g st s2 y1 V h hy1 (by rw [hyi]; exact HX1.out.2.1) HSM.out.2 (by rw [hyi, HAE.out]; exact hz) (by omega) (by rw [hyi]; exact HX1.out.2.2)).mono ?_
                  rintro e w' ⟨g, cap, L', h1, h2, h3, h4⟩
                  exact ⟨_, L', by rw [h1, hz], h2.tab, by rw [h3, hyi, hp, hR], h4⟩
                · have hR := HRT2.out.2 hz
                  refine (rmore_no u L1 kd kt g st s2 y1 V h hy1 (by rw [hyi]; exact HX1.out.2.1) HSM.out.2 (by rw [hyi, HAE.out]; exact hz)).mono ?_
                  rintro e w' ⟨h1, h4⟩
                  exact ⟨_, [], by rw [h1, hyi, HAE.out], tab_nil _ _, by rw [hR]; rfl, h4⟩
              go_wp2_with fail
              clear q1 g0 g1
              go_region_held3 (fun w' => w'.cell? ⟨w.heap.size, 0, none⟩ = some (.int .i64 kc) ∧ w'.cell? ⟨w2.heap.size, 0, none⟩ = some (.int .i64 kt) ∧ w'.cell? ⟨w2.heap.size, 1, none⟩ = some (.int .i64 g) ∧ w'.cell? ⟨w.heap.size + 1, 0, none⟩ = some (.int .i64 kd)) (first | exact HSG.out _ (by (repeat (first | with_reducible assumption | exact Below.refl _ _ | refine bel_drew ?_ | refine Below.setCell ?_ (by first | exact Nat.le_refl _ | assumption) _ | refine Below.alloc ?_ (by first | exact Nat.le_refl _ | assumption) _)))) (first
                | (go_at_call 59; refine (HREM.out _ (by (repeat (first | with_reducible assumption | exact Below.refl _ _ | refine bel_drew ?_ | refine Below.setCell ?_ (by first | exact Nat.le_refl _ | assumption) _ | refine Below.alloc ?_ (by first | exact Nat.le_refl _ | assumption) _)))).mono ?_; rintro e w5 ⟨u5, L5, rfl, ht5, hp5, hb5⟩; have hb55 : Below w4.heap.size w4 w5 := undrew hb5; clear hb5)
                | (go_at_call 51; refine (HADD.out _ _ L5 ht5 hp5).mono ?_; rintro e w6 ⟨u6, L6, rfl, ht6, hp6, hb6⟩; have hb66 : Below w4.heap.size w4 w6 := hb55.trans (hb6.mono hb55.size)))
              all_goals
                have HB6 : Hid (Below w.heap.size w w6) := HB4.out.trans (hb66.mono HB4.out.size)
                have HT6 : Hid (TabW w6 u6 L6) := ht6
                have HP6 : Hid (pl L6 = RT) := hp6
                clear ht6 hp6 hb6 ht5 hp5
                go_wp2
                (try simp only [Exit.inBlock, Exit.then])
                refine bodyPost_ret (v := .tuple #[u6, .int .i64 ae]) (by simp [results, Tryz.results27, go_sem]) rfl ?_
                first
                  | exact ⟨u6, rfl, L6, HT6.out, HP6.out, HB6.out⟩
                  | exact ⟨u6, L6, rfl, HT6.out, HP6.out, HB6.out⟩
            · have hE := hEm 403 hmv (by decide)
              rw [hE, hno _ hE (by decide)]
              clear hno hse hc0 hr hlen hq hte hto htoH hxc hgc hkc hfc hff hpl hj hkt0 hxt hgt hkt2 hlk hft hit hic hst hlenc hyc hyt hc8 hgd0 hM hI hmv hRT hEa hEm hdc hdt hI2 hiv hk2 hxd hgd hkd hne HRT2 hE
              go_enter Tryz.func27, Tryz.ntmps27
              go_wp2_with fail
              rw [← hW]
              refine (rasked_any HRR.out _ L st _ HV.out HOK.out).mono ?_
              rintro e w1 ⟨rfl, hb1⟩
              rw [HSE.out]
              have HB1 : Hid (Below w.heap.size w w1) := HB0.out.trans (hb1.mono HB0.out.size)
              have HA1 : Hid (w1.heap[w.heap.size]? = some (BH kc b) ∧ w1.heap[w.heap.size + 1]? = some (BH kd d)) := ⟨(hb1.block _ (by omega)).trans HA0.out.1, (hb1.block _ hws0).trans HA0.out.2⟩
              have hws1 : w.heap.size + 1 < w1.heap.size := (Array.getElem?_eq_some_iff.1 HA1.out.2).1
              clear hb1 hW
              obtain ⟨⟨a0, a1⟩, _⟩ := two_of HA1.out.1
              go_wp2_with fail
              clear a0 a1
              refine (rlook_any _ L kc b s _ (HVW.out _ HB1.out) HOK.out HSM.out.1 HRT.out).mono ?_
              rintro e w2 ⟨rfl, hb2⟩
              rw [HLK2.out.1, HLK2.out.2]
              have HB2 : Hid (Below w.heap.size w w2) := HB1.out.trans (hb2.mono HB1.out.size)
              have HA2 : Hid (w2.heap[w.heap.size]? = some (BH kc b) ∧ w2.heap[w.heap.size + 1]? = some (BH kd d)) := ⟨(hb2.block _ (by omega)).trans HA1.out.1, (hb2.block _ hws1).trans HA1.out.2⟩
              have hws2 : w.heap.size + 1 < w2.heap.size := (Array.getElem?_eq_some_iff.1 HA2.out.2).1
              clear hb2
              obtain ⟨W2, hW2⟩ : ∃ W2, W2 = w2.alloc (BH kt g) := ⟨_, rfl⟩
              have bb2 : Below w2.heap.size w2 W2 := by rw [hW2]; exact (Below.refl _ _).alloc (Nat.le_refl _) _
              have HBW : Hid (Below w.heap.size w W2) := HB2.out.trans (bb2.mono HB2.out.size)
              have HAW : Hid (W2.heap[w.heap.size]? = some (BH kc b) ∧ W2.heap[w2.heap.size]? = some (BH kt g) ∧ W2.heap[w.heap.size + 1]? = some (BH kd d)) := ⟨(bb2.block _ (by omega)).trans HA2.out.1, by rw [hW2]; exact heap_alloc_new _ _, (bb2.block _ hws2).trans HA2.out.2⟩
              have hwt2 : w2.heap.size < W2.heap.size := (Array.getElem?_eq_some_iff.1 HAW.out.2.1).1
              obtain ⟨⟨g0, g1⟩, _⟩ := two_of HA2.out.2
              clear bb2
              go_wp2_with fail
              rw [← hW2]
              clear g0 g1 hW2
              refine (rfree_any _ L kd d s2 _ (HVW.out _ HBW.out) HOK.out HSM.out.2 HRT.out).mono ?_
              rintro e w3 ⟨rfl, hb3⟩
              rw [HNE.out]
              have HB3 : Hid (Below w.heap.size w w3) := HBW.out.trans (hb3.mono HBW.out.size)
              have HA3 : Hid (w3.heap[w.heap.size]? = some (BH kc b) ∧ w3.heap[w2.heap.size]? = some (BH kt g) ∧ w3.heap[w.heap.size + 1]? = some (BH kd d)) := ⟨(hb3.block _ (by omega)).trans HAW.out.1, (hb3.block _ hwt2).trans HAW.out.2.1, (hb3.block _ (by omega)).trans HAW.out.2.2⟩
              have hwt3 : w2.heap.size < w3.heap.size := (Array.getElem?_eq_some_iff.1 HA3.out.2.1).1
              have hws3 : w.heap.size + 1 < w3.heap.size := (Array.getElem?_eq_some_iff.1 HA3.out.2.2).1
              clear hb3
              obtain ⟨⟨t0, t1⟩, _⟩ := two_of HA3.out.2.1
              obtain ⟨r0, r1, r2, r3, r4, r5, r6, r7⟩ := HX8.out _ HB3.out
              rw [HK2.out] at r1
              go_wp2_with fail
              clear r0 r1 r2 r3 r4 r5 r6 r7 t0 t1
              refine (reach_any _ L kt _ (HVW.out _ HB3.out) (by omega) HKT.out).mono ?_
              rintro e w4 ⟨rfl, hb4, f, hrow, hsd, hfl⟩
              have hfi : f kd = I (pl L) kt kd := HII.out f hsd (by rw [List.length_map]; exact hfl)
              obtain ⟨b9, hb9⟩ : ∃ b9, w3.heap.size = b9 := ⟨_, rfl⟩
              rw [hb9] at hrow ⊢
              have q1 := hrow.cell HKD.out
              rw [hfi, HIV.out] at q1
              have HB4 : Hid (Below w.heap.size w w4) := HB3.out.trans (hb4.mono HB3.out.size)
              have HA4 : Hid (w4.heap[w.heap.size]? = some (BH kc b) ∧ w4.heap[w2.heap.size]? = some (BH kt g) ∧ w4.heap[w.heap.size + 1]? = some (BH kd d)) := ⟨(hb4.block _ (by omega)).trans HA3.out.1, (hb4.block _ hwt3).trans HA3.out.2.1, (hb4.block _ hws3).trans HA3.out.2.2⟩
              have hwt4 : w2.heap.size < w4.heap.size := (Array.getElem?_eq_some_iff.1 HA4.out.2.1).1
              have hws4 : w.heap.size + 1 < w4.heap.size := (Array.getElem?_eq_some_iff.1 HA4.out.2.2).1
              clear hb4 hrow hsd hfl hfi hb9
              obtain ⟨⟨g0, g1⟩, _⟩ := two_of HA4.out.2.2
              go_wp2
              (try simp only [Exit.inBlock, Exit.then])
              refine bodyPost_ret (v := .tuple #[.slice none 0 0, .int .i64 403]) (by simp [results, Tryz.results27, go_sem]) rfl ?_
              first
                | exact ⟨_, rfl, [], tab_nil _ _, rfl, HB4.out⟩
                | exact ⟨_, [], rfl, tab_nil _ _, rfl, HB4.out⟩
          · have hmv : Sp.moveErr I (pl L) kt kd d s2 = 410 := by unfold Sp.moveErr; rw [hiv, hne, if_pos ⟨hn, rfl⟩]
            have hE := hEm 410 hmv (by decide)
            rw [hE, hno _ hE (by decide)]
            clear hno hse hc0 hr hlen hq hte hto htoH hxc hgc hkc hfc hff hpl hj hkt0 hxt hgt hkt2 hlk hft hit hic hst hlenc hyc hyt hc8 hgd0 hM hI hmv hRT hEa hEm hdc hdt hI2 hiv hk2 hxd hgd hkd hne HRT2 hE
            rcases hn with rfl | rfl
            all_goals
              go_enter Tryz.func27, Tryz.ntmps27
              go_wp2_with fail
              rw [← hW]
              refine (rasked_any HRR.out _ L st _ HV.out HOK.out).mono ?_
              rintro e w1 ⟨rfl, hb1⟩
              rw [HSE.out]
              have HB1 : Hid (Below w.heap.size w w1) := HB0.out.trans (hb1.mono HB0.out.size)
              have HA1 : Hid (w1.heap[w.heap.size]? = some (BH kc b) ∧ w1.heap[w.heap.size + 1]? = some (BH kd d)) := ⟨(hb1.block _ (by omega)).trans HA0.out.1, (hb1.block _ hws0).trans HA0.out.2⟩
              have hws1 : w.heap.size + 1 < w1.heap.size := (Array.getElem?_eq_some_iff.1 HA1.out.2).1
              clear hb1 hW
              obtain ⟨⟨a0, a1⟩, _⟩ := two_of HA1.out.1
              go_wp2_with fail
              clear a0 a1
              refine (rlook_any _ L kc b s _ (HVW.out _ HB1.out) HOK.out HSM.out.1 HRT.out).mono ?_
              rintro e w2 ⟨rfl, hb2⟩
              rw [HLK2.out.1, HLK2.out.2]
              have HB2 : Hid (Below w.heap.size w w2) := HB1.out.trans (hb2.mono HB1.out.size)
              have HA2 : Hid (w2.heap[w.heap.size]? = some (BH kc b) ∧ w2.heap[w.heap.size + 1]? = some (BH kd d)) := ⟨(hb2.block _ (by omega)).trans HA1.out.1, (hb2.block _ hws1).trans HA1.out.2⟩
              have hws2 : w.heap.size + 1 < w2.heap.size := (Array.getElem?_eq_some_iff.1 HA2.out.2).1
              clear hb2
              obtain ⟨W2, hW2⟩ : ∃ W2, W2 = w2.alloc (BH kt g) := ⟨_, rfl⟩
              have bb2 : Below w2.heap.size w2 W2 := by rw [hW2]; exact (Below.refl _ _).alloc (Nat.le_refl _) _
              have HBW : Hid (Below w.heap.size w W2) := HB2.out.trans (bb2.mono HB2.out.size)
              have HAW : Hid (W2.heap[w.heap.size]? = some (BH kc b) ∧ W2.heap[w2.heap.size]? = some (BH kt g) ∧ W2.heap[w.heap.size + 1]? = some (BH kd d)) := ⟨(bb2.block _ (by omega)).trans HA2.out.1, by rw [hW2]; exact heap_alloc_new _ _, (bb2.block _ hws2).trans HA2.out.2⟩
              have hwt2 : w2.heap.size < W2.heap.size := (Array.getElem?_eq_some_iff.1 HAW.out.2.1).1
              obtain ⟨⟨g0, g1⟩, _⟩ := two_of HA2.out.2
              clear bb2
              go_wp2_with fail
              rw [← hW2]
              clear g0 g1 hW2
              refine (rfree_any _ L kd d s2 _ (HVW.out _ HBW.out) HOK.out HSM.out.2 HRT.out).mono ?_
              rintro e w3 ⟨rfl, hb3⟩
              rw [HNE.out]
              have HB3 : Hid (Below w.heap.size w w3) := HBW.out.trans (hb3.mono HBW.out.size)
              have HA3 : Hid (w3.heap[w.heap.size]? = some (BH kc b) ∧ w3.heap[w2.heap.size]? = some (BH kt g) ∧ w3.heap[w.heap.size + 1]? = some (BH kd d)) := ⟨(hb3.block _ (by omega)).trans HAW.out.1, (hb3.block _ hwt2).trans HAW.out.2.1, (hb3.block _ (by omega)).trans HAW.out.2.2⟩
              have hwt3 : w2.heap.size < w3.heap.size := (Array.getElem?_eq_some_iff.1 HA3.out.2.1).1
              have hws3 : w.heap.size + 1 < w3.heap.size := (Array.getElem?_eq_some_iff.1 HA3.out.2.2).1
              clear hb3
              obtain ⟨⟨t0, t1⟩, _⟩ := two_of HA3.out.2.1
              obtain ⟨r0, r1, r2, r3, r4, r5, r6, r7⟩ := HX8.out _ HB3.out
              rw [HK2.out] at r1
              go_wp2_with fail
              clear r0 r1 r2 r3 r4 r5 r6 r7 t0 t1
              refine (reach_any _ L kt _ (HVW.out _ HB3.out) (by omega) HKT.out).mono ?_
              rintro e w4 ⟨rfl, hb4, f, hrow, hsd, hfl⟩
              have hfi : f kd = I (pl L) kt kd := HII.out f hsd (by rw [List.length_map]; exact hfl)
              obtain ⟨b9, hb9⟩ : ∃ b9, w3.heap.size = b9 := ⟨_, rfl⟩
              rw [hb9] at hrow ⊢
              have q1 := hrow.cell HKD.out
              rw [hfi, HIV.out] at q1
              have HB4 : Hid (Below w.heap.size w w4) := HB3.out.trans (hb4.mono HB3.out.size)
              have HA4 : Hid (w4.heap[w.heap.size]? = some (BH kc b) ∧ w4.heap[w2.heap.size]? = some (BH kt g) ∧ w4.heap[w.heap.size + 1]? = some (BH kd d)) := ⟨(hb4.block _ (by omega)).trans HA3.out.1, (hb4.block _ hwt3).trans HA3.out.2.1, (hb4.block _ hws3).trans HA3.out.2.2⟩
              have hwt4 : w2.heap.size < w4.heap.size := (Array.getElem?_eq_some_iff.1 HA4.out.2.1).1
              have hws4 : w.heap.size + 1 < w4.heap.size := (Array.getElem?_eq_some_iff.1 HA4.out.2.2).1
              clear hb4 hrow hsd hfl hfi hb9
              obtain ⟨⟨g0, g1⟩, _⟩ := two_of HA4.out.2.2
              go_wp2
              (try simp only [Exit.inBlock, Exit.then])
              refine bodyPost_ret (v := .tuple #[.slice none 0 0, .int .i64 410]) (by simp [results, Tryz.results27, go_sem]) rfl ?_
              first
                | exact ⟨_, rfl, [], tab_nil _ _, rfl, HB4.out⟩
                | exact ⟨_, [], rfl, tab_nil _ _, rfl, HB4.out⟩
        · have hi0 := hI2.2 (by rw [hdt]; exact beq_eq_false_iff_ne.2 hk2)
          have hmv : Sp.moveErr I (pl L) kt kd d s2 = ne := by unfold Sp.moveErr; rw [hi0, if_neg (by simp), hne]
          rcases hn with rfl | rfl
          · have HRT3 := HRT2 hmv
            rw [hEa hmv, hRT]
            clear HRT2
            have HRT2 := HRT3
            clear hno hse hc0 hr hlen hq hte hto htoH hxc hgc hkc hfc hff hpl hj hkt0 hxt hgt hkt2 hlk hft hit hic hst hlenc hyc hyt hc8 hgd0 hM hI hmv hRT hEa hEm hdc hdt hI2 hiv hi0 hxd hgd hkd hne HRT3
            go_enter Tryz.func27, Tryz.ntmps27
            go_wp2_with fail
            rw [← hW]
            refine (rasked_any HRR.out _ L st _ HV.out HOK.out).mono ?_
            rintro e w1 ⟨rfl, hb1⟩
            rw [HSE.out]
            have HB1 : Hid (Below w.heap.size w w1) := HB0.out.trans (hb1.mono HB0.out.size)
            have HA1 : Hid (w1.heap[w.heap.size]? = some (BH kc b) ∧ w1.heap[w.heap.size + 1]? = some (BH kd d)) := ⟨(hb1.block _ (by omega)).trans HA0.out.1, (hb1.block _ hws0).trans HA0.out.2⟩
            have hws1 : w.heap.size + 1 < w1.heap.size := (Array.getElem?_eq_some_iff.1 HA1.out.2).1
            clear hb1 hW
            obtain ⟨⟨a0, a1⟩, _⟩ := two_of HA1.out.1
            go_wp2_with fail
            clear a0 a1
            refine (rlook_any _ L kc b s _ (HVW.out _ HB1.out) HOK.out HSM.out.1 HRT.out).mono ?_
            rintro e w2 ⟨rfl, hb2⟩
            rw [HLK2.out.1, HLK2.out.2]
            have HB2 : Hid (Below w.heap.size w w2) := HB1.out.trans (hb2.mono HB1.out.size)
            have HA2 : Hid (w2.heap[w.heap.size]? = some (BH kc b) ∧ w2.heap[w.heap.size + 1]? = some (BH kd d)) := ⟨(hb2.block _ (by omega)).trans HA1.out.1, (hb2.block _ hws1).trans HA1.out.2⟩
            have hws2 : w.heap.size + 1 < w2.heap.size := (Array.getElem?_eq_some_iff.1 HA2.out.2).1
            clear hb2
            obtain ⟨W2, hW2⟩ : ∃ W2, W2 = w2.alloc (BH kt g) := ⟨_, rfl⟩
            have bb2 : Below w2.heap.size w2 W2 := by rw [hW2]; exact (Below.refl _ _).alloc (Nat.le_refl _) _
            have HBW : Hid (Below w.heap.size w W2) := HB2.out.trans (bb2.mono HB2.out.size)
            have HAW : Hid (W2.heap[w.heap.size]? = some (BH kc b) ∧ W2.heap[w2.heap.size]? = some (BH kt g) ∧ W2.heap[w.heap.size + 1]? = some (BH kd d)) := ⟨(bb2.block _ (by omega)).trans HA2.out.1, by rw [hW2]; exact heap_alloc_new _ _, (bb2.block _ hws2).trans HA2.out.2⟩
            have hwt2 : w2.heap.size < W2.heap.size := (Array.getElem?_eq_some_iff.1 HAW.out.2.1).1
            obtain ⟨⟨g0, g1⟩, _⟩ := two_of HA2.out.2
            clear bb2
            go_wp2_with fail
            rw [← hW2]
            clear g0 g1 hW2
            refine (rfree_any _ L kd d s2 _ (HVW.out _ HBW.out) HOK.out HSM.out.2 HRT.out).mono ?_
            rintro e w3 ⟨rfl, hb3⟩
            rw [HNE.out]
            have HB3 : Hid (Below w.heap.size w w3) := HBW.out.trans (hb3.mono HBW.out.size)
            have HA3 : Hid (w3.heap[w.heap.size]? = some (BH kc b) ∧ w3.heap[w2.heap.size]? = some (BH kt g) ∧ w3.heap[w.heap.size + 1]? = some (BH kd d)) := ⟨(hb3.block _ (by omega)).trans HAW.out.1, (hb3.block _ hwt2).trans HAW.out.2.1, (hb3.block _ (by omega)).trans HAW.out.2.2⟩
            have hwt3 : w2.heap.size < w3.heap.size := (Array.getElem?_eq_some_iff.1 HA3.out.2.1).1
            have hws3 : w.heap.size + 1 < w3.heap.size := (Array.getElem?_eq_some_iff.1 HA3.out.2.2).1
            clear hb3
            obtain ⟨⟨t0, t1⟩, _⟩ := two_of HA3.out.2.1
            obtain ⟨r0, r1, r2, r3, r4, r5, r6, r7⟩ := HX8.out _ HB3.out
            have HSG : Hid (∀ w' : World, Below w3.heap.size w3 w' → w'.cell? ⟨w.heap.size, 0, none⟩ = some (.int .i64 kc) ∧ w'.cell? ⟨w2.heap.size, 0, none⟩ = some (.int .i64 kt) ∧ w'.cell? ⟨w2.heap.size, 1, none⟩ = some (.int .i64 g) ∧ w'.cell? ⟨w.heap.size + 1, 0, none⟩ = some (.int .i64 kd)) := fun V h => by
              obtain ⟨⟨a0, a1⟩, _⟩ := two_of HA3.out.1
              obtain ⟨⟨t0, t1⟩, _⟩ := two_of HA3.out.2.1
              obtain ⟨⟨g0, g1⟩, _⟩ := two_of HA3.out.2.2
              exact ⟨cell_step a0 h, cell_step t0 h, cell_step t1 h, cell_step g0 h⟩
            have HREM : Hid (∀ V, Below w3.heap.size w3 V → Calls Tryz.prog 59 #[.slice (some ⟨bb, off, none⟩) L.length cap, .int .i64 kc, .string s, .int .i64 st] V fun e w' => ∃ u L', e = .returned u ∧ TabW w' u L' ∧ pl L' = T1 ∧ Below V.heap.size V w') := fun V h => (rless_any _ L kc st s yc V (HVW.out _ (HB3.out.trans (h.mono HB3.out.size))) HYC.out.1 HYC.out.2.1 HSM.out.1 HYC.out.2.2 (by omega)).mono fun e w' ⟨g, cap, L', h1, h2, h3, h4⟩ => ⟨_, L', h1, h2.tab, by rw [h3]; exact HT1.out, h4⟩
            have HADD : Hid (∀ V u L1, TabW V u L1 → pl L1 = T1 → Calls Tryz.prog 51 #[u, .int .i64 kd, .string s2, .agg #[.int .i64 kt, .int .i64 g], .int .i64 st] V fun e w' => ∃ u L', e = .returned (.tuple #[u, .int .i64 ae]) ∧ TabW w' u L' ∧ pl L' = RT ∧ Below V.heap.size V w') := fun V u L1 h hp => by
              obtain ⟨y1, hy1, hyi⟩ := Sp.pl_some (L := L1) (k := kd) (x := x1) (by rw [hp]; exact HX1.out.1)
              have hl1 : L1.length ≤ 24 := by have := congrArg List.length hp; rw [← HT1.out] at this; simp at this; omega
              by_cases hz : ae = 0
              · have hR := HRT2.out.1 hz
                refine (rmore_any u L1 kd kt g st s2 y1 V h hy1 (by rw [hyi]; exact HX1.out.2.1) HSM.out.2 (by rw [hyi, HAE.out]; exact hz) (by omega) (by rw [hyi]; exact HX1.out.2.2)).mono ?_
                rintro e w' ⟨g, cap, L', h1, h2, h3, h4⟩
                exact ⟨_, L', by rw [h1, hz], h2.tab, by rw [h3, hyi, hp, hR], h4⟩
              · have hR := HRT2.out.2 hz
                refine (rmore_no u L1 kd kt g st s2 y1 V h hy1 (by rw [hyi]; exact HX1.out.2.1) HSM.out.2 (by rw [hyi, HAE.out]; exact hz)).mono ?_
                rintro e w' ⟨h1, h4⟩
                exact ⟨_, [], by rw [h1, hyi, HAE.out], tab_nil _ _, by rw [hR]; rfl, h4⟩
            go_wp2_with fail
            clear r0 r1 r2 r3 r4 r5 r6 r7 t0 t1
            go_region_held3 (fun w' => w'.cell? ⟨w.heap.size, 0, none⟩ = some (.int .i64 kc) ∧ w'.cell? ⟨w2.heap.size, 0, none⟩ = some (.int .i64 kt) ∧ w'.cell? ⟨w2.heap.size, 1, none⟩ = some (.int .i64 g) ∧ w'.cell? ⟨w.heap.size + 1, 0, none⟩ = some (.int .i64 kd)) (first | exact HSG.out _ (by (repeat (first | with_reducible assumption | exact Below.refl _ _ | refine bel_drew ?_ | refine Below.setCell ?_ (by first | exact Nat.le_refl _ | assumption) _ | refine Below.alloc ?_ (by first | exact Nat.le_refl _ | assumption) _)))) (first
              | (go_at_call 59; refine (HREM.out _ (by (repeat (first | with_reducible assumption | exact Below.refl _ _ | refine bel_drew ?_ | refine Below.setCell ?_ (by first | exact Nat.le_refl _ | assumption) _ | refine Below.alloc ?_ (by first | exact Nat.le_refl _ | assumption) _)))).mono ?_; rintro e w5 ⟨u5, L5, rfl, ht5, hp5, hb5⟩; have hb55 : Below w3.heap.size w3 w5 := undrew hb5; clear hb5)
              | (go_at_call 51; refine (HADD.out _ _ L5 ht5 hp5).mono ?_; rintro e w6 ⟨u6, L6, rfl, ht6, hp6, hb6⟩; have hb66 : Below w3.heap.size w3 w6 := hb55.trans (hb6.mono hb55.size)))
            all_goals
              have HB6 : Hid (Below w.heap.size w w6) := HB3.out.trans (hb66.mono HB3.out.size)
              have HT6 : Hid (TabW w6 u6 L6) := ht6
              have HP6 : Hid (pl L6 = RT) := hp6
              clear ht6 hp6 hb6 ht5 hp5
              go_wp2
              (try simp only [Exit.inBlock, Exit.then])
              refine bodyPost_ret (v := .tuple #[u6, .int .i64 ae]) (by simp [results, Tryz.results27, go_sem]) rfl ?_
              first
                | exact ⟨u6, rfl, L6, HT6.out, HP6.out, HB6.out⟩
                | exact ⟨u6, L6, rfl, HT6.out, HP6.out, HB6.out⟩
          · have hE := hEm 403 hmv (by decide)
            rw [hE, hno _ hE (by decide)]
            clear hno hse hc0 hr hlen hq hte hto htoH hxc hgc hkc hfc hff hpl hj hkt0 hxt hgt hkt2 hlk hft hit hic hst hlenc hyc hyt hc8 hgd0 hM hI hmv hRT hEa hEm hdc hdt hI2 hiv hi0 hxd hgd hkd hne HRT2 hE
            go_enter Tryz.func27, Tryz.ntmps27
            go_wp2_with fail
            rw [← hW]
            refine (rasked_any HRR.out _ L st _ HV.out HOK.out).mono ?_
            rintro e w1 ⟨rfl, hb1⟩
            rw [HSE.out]
            have HB1 : Hid (Below w.heap.size w w1) := HB0.out.trans (hb1.mono HB0.out.size)
            have HA1 : Hid (w1.heap[w.heap.size]? = some (BH kc b) ∧ w1.heap[w.heap.size + 1]? = some (BH kd d)) := ⟨(hb1.block _ (by omega)).trans HA0.out.1, (hb1.block _ hws0).trans HA0.out.2⟩
            have hws1 : w.heap.size + 1 < w1.heap.size := (Array.getElem?_eq_some_iff.1 HA1.out.2).1
            clear hb1 hW
            obtain ⟨⟨a0, a1⟩, _⟩ := two_of HA1.out.1
            go_wp2_with fail
            clear a0 a1
            refine (rlook_any _ L kc b s _ (HVW.out _ HB1.out) HOK.out HSM.out.1 HRT.out).mono ?_
            rintro e w2 ⟨rfl, hb2⟩
            rw [HLK2.out.1, HLK2.out.2]
            have HB2 : Hid (Below w.heap.size w w2) := HB1.out.trans (hb2.mono HB1.out.size)
            have HA2 : Hid (w2.heap[w.heap.size]? = some (BH kc b) ∧ w2.heap[w.heap.size + 1]? = some (BH kd d)) := ⟨(hb2.block _ (by omega)).trans HA1.out.1, (hb2.block _ hws1).trans HA1.out.2⟩
            have hws2 : w.heap.size + 1 < w2.heap.size := (Array.getElem?_eq_some_iff.1 HA2.out.2).1
            clear hb2
            obtain ⟨W2, hW2⟩ : ∃ W2, W2 = w2.alloc (BH kt g) := ⟨_, rfl⟩
            have bb2 : Below w2.heap.size w2 W2 := by rw [hW2]; exact (Below.refl _ _).alloc (Nat.le_refl _) _
            have HBW : Hid (Below w.heap.size w W2) := HB2.out.trans (bb2.mono HB2.out.size)
            have HAW : Hid (W2.heap[w.heap.size]? = some (BH kc b) ∧ W2.heap[w2.heap.size]? = some (BH kt g) ∧ W2.heap[w.heap.size + 1]? = some (BH kd d)) := ⟨(bb2.block _ (by omega)).trans HA2.out.1, by rw [hW2]; exact heap_alloc_new _ _, (bb2.block _ hws2).trans HA2.out.2⟩
            have hwt2 : w2.heap.size < W2.heap.size := (Array.getElem?_eq_some_iff.1 HAW.out.2.1).1
            obtain ⟨⟨g0, g1⟩, _⟩ := two_of HA2.out.2
            clear bb2
            go_wp2_with fail
            rw [← hW2]
            clear g0 g1 hW2
            refine (rfree_any _ L kd d s2 _ (HVW.out _ HBW.out) HOK.out HSM.out.2 HRT.out).mono ?_
            rintro e w3 ⟨rfl, hb3⟩
            rw [HNE.out]
            have HB3 : Hid (Below w.heap.size w w3) := HBW.out.trans (hb3.mono HBW.out.size)
            have HA3 : Hid (w3.heap[w.heap.size]? = some (BH kc b) ∧ w3.heap[w2.heap.size]? = some (BH kt g) ∧ w3.heap[w.heap.size + 1]? = some (BH kd d)) := ⟨(hb3.block _ (by omega)).trans HAW.out.1, (hb3.block _ hwt2).trans HAW.out.2.1, (hb3.block _ (by omega)).trans HAW.out.2.2⟩
            have hwt3 : w2.heap.size < w3.heap.size := (Array.getElem?_eq_some_iff.1 HA3.out.2.1).1
            have hws3 : w.heap.size + 1 < w3.heap.size := (Array.getElem?_eq_some_iff.1 HA3.out.2.2).1
            clear hb3
            obtain ⟨⟨t0, t1⟩, _⟩ := two_of HA3.out.2.1
            obtain ⟨r0, r1, r2, r3, r4, r5, r6, r7⟩ := HX8.out _ HB3.out
            go_wp2
            (try simp only [Exit.inBlock, Exit.then])
            refine bodyPost_ret (v := .tuple #[.slice none 0 0, .int .i64 403]) (by simp [results, Tryz.results27, go_sem]) rfl ?_
            first
              | exact ⟨_, rfl, [], tab_nil _ _, rfl, HB3.out⟩
              | exact ⟨_, [], rfl, tab_nil _ _, rfl, HB3.out⟩
      · have hmv : Sp.moveErr I (pl L) kt c d s2 = ne := by unfold Sp.moveErr; rw [if_neg (fun h => hn (by rw [← hne]; exact h.1)), hne]
        have hE := hEm ne hmv (by omega)
        rw [hE, hno _ hE (by omega)]
        have hz1 : (ne != 0) = true := by simp; omega
        have hz2 : (ne != 403) = true := by simp; omega
        clear hno hse hc0 hr hlen hq hte hto htoH hxc hgc hkc hfc hff hpl hj hkt0 hxt hgt hkt2 hlk hft hit hic hst hlenc hyc hyt hc8 hgd0 hM hI hmv hEm hne hn hE
        go_enter Tryz.func27, Tryz.ntmps27
        go_wp2_with fail
        rw [← hW]
        refine (rasked_any HRR.out _ L st _ HV.out HOK.out).mono ?_
        rintro e w1 ⟨rfl, hb1⟩
        rw [HSE.out]
        have HB1 : Hid (Below w.heap.size w w1) := HB0.out.trans (hb1.mono HB0.out.size)
        have HA1 : Hid (w1.heap[w.heap.size]? = some (BH kc b) ∧ w1.heap[w.heap.size + 1]? = some (BH c d)) := ⟨(hb1.block _ (by omega)).trans HA0.out.1, (hb1.block _ hws0).trans HA0.out.2⟩
        have hws1 : w.heap.size + 1 < w1.heap.size := (Array.getElem?_eq_some_iff.1 HA1.out.2).1
        clear hb1 hW
        obtain ⟨⟨a0, a1⟩, _⟩ := two_of HA1.out.1
        go_wp2_with fail
        clear a0 a1
        refine (rlook_any _ L kc b s _ (HVW.out _ HB1.out) HOK.out HSM.out.1 HRT.out).mono ?_
        rintro e w2 ⟨rfl, hb2⟩
        rw [HLK2.out.1, HLK2.out.2]
        have HB2 : Hid (Below w.heap.size w w2) := HB1.out.trans (hb2.mono HB1.out.size)
        have HA2 : Hid (w2.heap[w.heap.size]? = some (BH kc b) ∧ w2.heap[w.heap.size + 1]? = some (BH c d)) := ⟨(hb2.block _ (by omega)).trans HA1.out.1, (hb2.block _ hws1).trans HA1.out.2⟩
        have hws2 : w.heap.size + 1 < w2.heap.size := (Array.getElem?_eq_some_iff.1 HA2.out.2).1
        clear hb2
        obtain ⟨W2, hW2⟩ : ∃ W2, W2 = w2.alloc (BH kt g) := ⟨_, rfl⟩
        have bb2 : Below w2.heap.size w2 W2 := by rw [hW2]; exact (Below.refl _ _).alloc (Nat.le_refl _) _
        have HBW : Hid (Below w.heap.size w W2) := HB2.out.trans (bb2.mono HB2.out.size)
        have HAW : Hid (W2.heap[w.heap.size]? = some (BH kc b) ∧ W2.heap[w2.heap.size]? = some (BH kt g) ∧ W2.heap[w.heap.size + 1]? = some (BH c d)) := ⟨(bb2.block _ (by omega)).trans HA2.out.1, by rw [hW2]; exact heap_alloc_new _ _, (bb2.block _ hws2).trans HA2.out.2⟩
        have hwt2 : w2.heap.size < W2.heap.size := (Array.getElem?_eq_some_iff.1 HAW.out.2.1).1
        obtain ⟨⟨g0, g1⟩, _⟩ := two_of HA2.out.2
        clear bb2
        go_wp2_with fail
        rw [← hW2]
        clear g0 g1 hW2
        refine (rfree_any _ L c d s2 _ (HVW.out _ HBW.out) HOK.out HSM.out.2 HRT.out).mono ?_
        rintro e w3 ⟨rfl, hb3⟩
        rw [HNE.out]
        have HB3 : Hid (Below w.heap.size w w3) := HBW.out.trans (hb3.mono HBW.out.size)
        have HA3 : Hid (w3.heap[w.heap.size]? = some (BH kc b) ∧ w3.heap[w2.heap.size]? = some (BH kt g) ∧ w3.heap[w.heap.size + 1]? = some (BH c d)) := ⟨(hb3.block _ (by omega)).trans HAW.out.1, (hb3.block _ hwt2).trans HAW.out.2.1, (hb3.block _ (by omega)).trans HAW.out.2.2⟩
        have hwt3 : w2.heap.size < w3.heap.size := (Array.getElem?_eq_some_iff.1 HA3.out.2.1).1
        have hws3 : w.heap.size + 1 < w3.heap.size := (Array.getElem?_eq_some_iff.1 HA3.out.2.2).1
        clear hb3
        obtain ⟨⟨t0, t1⟩, _⟩ := two_of HA3.out.2.1
        go_wp2
        (try simp only [Exit.inBlock, Exit.then])
        refine bodyPost_ret (v := .tuple #[.slice none 0 0, .int .i64 ne]) (by simp [results, Tryz.results27, go_sem]) rfl ?_
        first
          | exact ⟨_, rfl, [], tab_nil _ _, rfl, HB3.out⟩
          | exact ⟨_, [], rfl, tab_nil _ _, rfl, HB3.out⟩
    · have hE : Sp.rnE (Sp.chk R) I (pl L) a b s c d s2 st = te := by unfold Sp.rnE; rw [if_neg (by rw [hto]; exact hz), hto]
      rw [hE, hno _ hE hz]
      have hz' : (te != 0) = true := by simpa using hz
      clear hz hE hte hM hI hx hto htoH hq hse hno hc0 hlen
      go_enter Tryz.func27, Tryz.ntmps27
      go_wp2_with fail
      rw [← hW]
      refine (rasked_any HRR.out _ L st _ HV.out HOK.out).mono ?_
      rintro e w1 ⟨rfl, hb1⟩
      rw [HSE.out]
      have HB1 : Hid (Below w.heap.size w w1) := HB0.out.trans (hb1.mono HB0.out.size)
      have HA1 : Hid (w1.heap[w.heap.size]? = some (BH a b) ∧ w1.heap[w.heap.size + 1]? = some (BH c d)) := ⟨(hb1.block _ (by omega)).trans HA0.out.1, (hb1.block _ hws0).trans HA0.out.2⟩
      have hws1 : w.heap.size + 1 < w1.heap.size := (Array.getElem?_eq_some_iff.1 HA1.out.2).1
      clear hb1 hW
      obtain ⟨⟨a0, a1⟩, _⟩ := two_of HA1.out.1
      go_wp2_with fail
      clear a0 a1
      refine (rlook_any _ L a b s _ (HVW.out _ HB1.out) HOK.out HSM.out.1 HRT.out).mono ?_
      rintro e w2 ⟨rfl, hb2⟩
      rw [HLK2.out.1, HLK2.out.2]
      have HB2 : Hid (Below w.heap.size w w2) := HB1.out.trans (hb2.mono HB1.out.size)
      have HA2 : Hid (w2.heap[w.heap.size]? = some (BH a b) ∧ w2.heap[w.heap.size + 1]? = some (BH c d)) := ⟨(hb2.block _ (by omega)).trans HA1.out.1, (hb2.block _ hws1).trans HA1.out.2⟩
      have hws2 : w.heap.size + 1 < w2.heap.size := (Array.getElem?_eq_some_iff.1 HA2.out.2).1
      clear hb2
      go_wp2
      (try simp only [Exit.inBlock, Exit.then])
      refine bodyPost_ret (v := .tuple #[.slice none 0 0, .int .i64 te]) (by simp [results, Tryz.results27, go_sem]) rfl ?_
      first
        | exact ⟨_, rfl, [], tab_nil _ _, rfl, HB2.out.alloc HB2.out.size _⟩
        | exact ⟨_, [], rfl, tab_nil _ _, rfl, HB2.out.alloc HB2.out.size _⟩
  · obtain ⟨se, hse'⟩ : ∃ se, Sp.stErr (Sp.chk R) (pl L) st = se := ⟨_, rfl⟩
    have HSE : Hid (Sp.stErr (Sp.chk R) (pl L) st = se) := hse'
    have hto : Sp.toErr (Sp.chk R) (pl L) st a b s = se := by unfold Sp.toErr; rw [if_neg hse, hse']
    rw [hse'] at hse
    have hE : Sp.rnE (Sp.chk R) I (pl L) a b s c d s2 st = se := by unfold Sp.rnE; rw [if_neg (by rw [hto]; exact hse), hto]
    rw [hE, hno _ hE hse]
    have hz' : (se != 0) = true := by simpa using hse
    clear hE hM hI hx hto hse hse' hno
    go_enter Tryz.func27, Tryz.ntmps27
    go_wp2_with fail
    rw [← hW]
    refine (rasked_any HRR.out _ L st _ HV.out HOK.out).mono ?_
    rintro e w1 ⟨rfl, hb1⟩
    rw [HSE.out]
    have HB1 : Hid (Below w.heap.size w w1) := HB0.out.trans (hb1.mono HB0.out.size)
    have HA1 : Hid (w1.heap[w.heap.size]? = some (BH a b) ∧ w1.heap[w.heap.size + 1]? = some (BH c d)) := ⟨(hb1.block _ (by omega)).trans HA0.out.1, (hb1.block _ hws0).trans HA0.out.2⟩
    have hws1 : w.heap.size + 1 < w1.heap.size := (Array.getElem?_eq_some_iff.1 HA1.out.2).1
    clear hb1 hW
    go_wp2
    (try simp only [Exit.inBlock, Exit.then])
    refine bodyPost_ret (v := .tuple #[.slice none 0 0, .int .i64 se]) (by simp [results, Tryz.results27, go_sem]) rfl ?_
    first
      | exact ⟨_, rfl, [], tab_nil _ _, rfl, HB1.out⟩
      | exact ⟨_, [], rfl, tab_nil _ _, rfl, HB1.out⟩
end Go.Proofs.YtacghcoikekfeaaGreat
