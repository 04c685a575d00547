/-
  space.Rename, over what Check and inside answer.
-/
import Derived.Test.YtacghcoikekfeaaGreatSp21
namespace Go.Proofs.YtacghcoikekfeaaGreat
open Go.ChangeShapes Go.WideShapes Go.ChangeAt Go.RowKit Go.Deep It
set_option maxRecDepth 100000
set_option maxHeartbeats 4000000 in
theorem srename_any {C : List Ino → Int} {I : List Ino → Int → Int → Bool} (hC : ChkSaid C) (hM : Sp.ChkMeans C) (hI : InsSaid C I) {S : Nat → Prop} (v : Value) (L : List Rw) (a b : Int) (s : ByteArray) (c d : Int) (s2 : ByteArray) (st : Int) (w : World) (hv : TabAt S w v L) (hok : Sp.okN L) (hs : s.size ≤ maxLen) (hs2 : s2.size ≤ maxLen) :
    Calls Tryz.prog 26 #[v, .agg #[.int .i64 a, .int .i64 b], .string s, .agg #[.int .i64 c, .int .i64 d], .string s2, .int .i64 st] w fun e w' =>
      ∃ u L', e = .returned (.tuple #[u, .int .i64 (Sp.rnE C I (pl L) a b s c d s2 st)]) ∧ TabAt (fun b => w.heap.size ≤ b) w' u L' ∧ pl L' = Sp.rnT C I (pl L) a b s c d s2 st ∧ Below w.heap.size w w' := by
  obtain ⟨W, hW⟩ : ∃ W, W = (w.alloc (BH a b)).alloc (BH c d) := ⟨_, rfl⟩
  have HB0 : Hid (Below w.heap.size w W) := by show Below w.heap.size w W; rw [hW]; exact ((Below.refl _ w).alloc (Nat.le_refl _) _).alloc (by simp) _
  have HA0 : Hid (W.heap[w.heap.size]? = some (BH a b) ∧ W.heap[w.heap.size + 1]? = some (BH c d)) := by
    rw [hW]
    refine ⟨(Below.heap_alloc _ _ _ (by simp)).trans (heap_alloc_new _ _), ?_⟩
    have := heap_alloc_new (w.alloc (BH a b)) (BH c d)
    rwa [show (w.alloc (BH a b)).heap.size = w.heap.size + 1 by simp] at this
  have hws : w.heap.size + 1 < W.heap.size := by rw [hW]; simp
  have HV : Hid (TabAt S W v L) := hv.up HB0.out
  have HVW : Hid (∀ V, Below w.heap.size w V → TabAt S V v L) := fun V h => hv.up h
  obtain ⟨ao, cap, rfl, _, _⟩ := hv.open
  have HOK : Hid (Sp.okN L) := hok
  have HSM : Hid (s.size ≤ maxLen ∧ s2.size ≤ maxLen) := ⟨hs, hs2⟩
  have HCC : Hid (ChkSaid C ∧ InsSaid C I) := ⟨hC, hI⟩
  obtain ⟨⟨q1, q2⟩, hq⟩ : ∃ q, Sp.toH C (pl L) st a b s = q := ⟨_, rfl⟩
  obtain ⟨te, hte⟩ : ∃ te, Sp.toErr C (pl L) st a b s = te := ⟨_, rfl⟩
  have HTE : Hid (Sp.toH C (pl L) st a b s = (q1, q2) ∧ Sp.toErr C (pl L) st a b s = te) := ⟨hq, hte⟩
  clear hv hok hs hs2 hC hI
  by_cases hz : te = 0
  · subst hz
    have hc0 : C (pl L) = 0 := by
      have h := hte
      unfold Sp.toErr at h
      by_cases hse : Sp.stErr C (pl L) st = 0
      · exact (Sp.stErr_zero hse).1
      · rw [if_neg hse] at h
        exact absurd h hse
    obtain ⟨kc, xc, j, en, kt, xt, rfl, hxc, hgc, hkc, hfc, hff, hpl, hj, hqe, hkt, hkt0, hxt, hgt, hkt2, hlk, hft, hit, hic, hr, hst, hlen⟩ := Sp.to_zero hM hte
    rw [hq] at hqe
    have hq1 : q1 = kt := by rw [← hkt, ← hqe]
    obtain ⟨yc, hyc, rfl⟩ := Sp.pl_some hxc
    have hst0 : 0 ≤ st := Int.le_trans (Sp.top_nonneg _) hst.1
    have HCK : Hid (C (pl L) = 0 ∧ ∃ (k : Nat) (x : Ino), q1 = k ∧ (pl L)[k]? = some x ∧ x.kind ≠ 0) := ⟨hc0, kt, xt, hq1, hxt, hkt2⟩
    obtain ⟨mv, hmv⟩ : ∃ mv, Sp.moveErr I (pl L) q1 c d s2 = mv := ⟨_, rfl⟩
    have HMV : Hid (Sp.moveErr I (pl L) q1 c d s2 = mv) := hmv
    by_cases hm0 : mv = 0
    · subst hm0
      obtain ⟨kd, xd, rfl, hxd, hgd, hkd, -, -, -, -⟩ := Sp.dir_get (Sp.moveErr_zero hmv)
      obtain ⟨yd, hyd, rfl⟩ := Sp.pl_some hxd
      obtain ⟨hp1, hr1⟩ := Sp.less_right (s := s) hr hxc hgc hkc hfc ⟨hst0, hst.2⟩ hlen
      have hlend := (hM _ hc0).2.2.1 yd.i (List.mem_of_getElem? hxd)
      obtain ⟨x1, hx1, hg1, hk1, hl1, hsub, hf1, hgp⟩ := Sp.mid (es := yc.i.ents.eraseIdx (Fo.plc yc.i.ents yc.i.next s).toNat) (st := st) hxc hkc (Nat.le_trans (List.length_eraseIdx_le ..) hlen) (fun e he => List.mem_of_mem_eraseIdx he) hst hxd hkd hlend hr1
      have hld : Sp.lessDir (pl L) kc b s st = (pl L).set kc (Sp.filled yc.i (yc.i.ents.eraseIdx (Fo.plc yc.i.ents yc.i.next s).toNat) yc.i.next st) := by
        unfold Sp.lessDir
        rw [hic]
        rfl
      obtain ⟨T1, hT1⟩ : ∃ T1, (pl L).set kc (Sp.filled yc.i (yc.i.ents.eraseIdx (Fo.plc yc.i.ents yc.i.next s).toNat) yc.i.next st) = T1 := ⟨_, rfl⟩
      rw [hT1] at hp1 hx1 hgp hld
      have hmid : Sp.midI (pl L) kc b s st kd = x1 := by
        unfold Sp.midI
        rw [hld, show ((kd : Int)).toNat = kd by omega, hx1]
        rfl
      obtain ⟨ae, hae⟩ : ∃ ae, Fo.addErr x1.ents x1.next s2 q1 q2 = ae := ⟨_, rfl⟩
      obtain ⟨T2, hT2⟩ : ∃ T2, T1.set kd (Sp.filled x1 (x1.ents ++ [(s2, x1.next + 1, q1, q2)]) (x1.next + 1) st) = T2 := ⟨_, rfl⟩
      have hE : Sp.rnE C I (pl L) kc b s kd d s2 st = ae := by
        unfold Sp.rnE
        rw [hte, if_pos rfl, hq, hmv, if_pos rfl, hmid, hae]
      have hT : Sp.rnT C I (pl L) kc b s kd d s2 st = if ae = 0 then T2 else [] := by
        unfold Sp.rnT
        rw [hE, hq, hmid, hld, show ((kd : Int)).toNat = kd by omega, hT2]
      have HAE : Hid (Fo.addErr x1.ents x1.next s2 q1 q2 = ae) := hae
      have HP : Hid (putTab (pl L) kc b (Sp.filled yc.i (yc.i.ents.eraseIdx (Fo.plc yc.i.ents yc.i.next s).toNat) yc.i.next st) = T1) := hp1
      have HPP : Hid (putTab T1 kd d (Sp.filled x1 (x1.ents ++ [(s2, x1.next + 1, q1, q2)]) (x1.next + 1) st) = T2) := by rw [← hgd, ← hT2]; exact (hgp _ _).2
      have HX1 : Hid (T1[kd]? = some x1 ∧ (∀ e ∈ x1.ents, e.1.size ≤ maxLen) ∧ x1.ents.length + 1 ≤ 3518437208883 ∧ At.growErr x1.kind x1.links x1.size x1.stamp (x1.ents.length + 1) st = 0) := ⟨hx1, fun e he => HOK.out yd (List.mem_of_getElem? hyd) e (hsub e he), by omega, (hgp (s2, 0, 0, 0) 0).1⟩
      have HYC : Hid (L[kc]? = some yc ∧ (∀ e ∈ yc.i.ents, e.1.size ≤ maxLen) ∧ Fo.findErr yc.i.ents yc.i.next s = 0 ∧ At.growErr yc.i.kind yc.i.links yc.i.size yc.i.stamp (yc.i.ents.eraseIdx (Fo.plc yc.i.ents yc.i.next s).toNat).length st = 0) :=
        ⟨hyc, HOK.out yc (List.mem_of_getElem? hyc), hff, Sp.grow_ok hr hxc (by omega) hst ⟨by omega, by have := List.length_eraseIdx_le yc.i.ents (Fo.plc yc.i.ents yc.i.next s).toNat; omega⟩⟩
      obtain ⟨R, hR⟩ : ∃ R, (if ae = 0 then T2 else []) = R := ⟨_, rfl⟩
      have HRR : Hid ((if ae = 0 then T2 else []) = R) := hR
      rw [hE, hT, hR]
      clear hR hc0 hxc hgc hkc hfc hff hpl hj hqe hkt hkt0 hxt hgt hkt2 hlk hft hit hic hr hst hlen hq1 hyc hst0 hmv hxd hgd hkd hyd hp1 hr1 hlend hx1 hg1 hk1 hl1 hsub hf1 hgp hld hT1 hmid hae hT2 hE hT hM hte hq
      go_enter Tryz.func26, Tryz.ntmps26
      obtain ⟨⟨a0, a1⟩, _⟩ := two_of HA0.out.1
      go_wp2_with fail
      rw [← hW]
      refine (toChange_any HCC.out.1 _ L kc b s st _ HV.out HOK.out HSM.out.1).mono ?_
      rintro e w1 ⟨rfl, hb1⟩
      rw [HTE.out.1, HTE.out.2]
      have HB1 : Hid (Below w.heap.size w w1) := HB0.out.trans (hb1.mono HB0.out.size)
      have HA1 : Hid (w1.heap[w.heap.size]? = some (BH kc b) ∧ w1.heap[w.heap.size + 1]? = some (BH kd d)) := ⟨(hb1.block _ (by omega)).trans HA0.out.1, (hb1.block _ hws).trans HA0.out.2⟩
      have hw11 : w.heap.size + 1 < w1.heap.size := (Array.getElem?_eq_some_iff.1 HA1.out.2).1
      have hw10 : w.heap.size < w1.heap.size := by omega
      clear hb1 hW a0 a1
      obtain ⟨W1, hW1⟩ : ∃ W1, W1 = w1.alloc (BH q1 q2) := ⟨_, rfl⟩
      have bb1 : Below w1.heap.size w1 W1 := by rw [hW1]; exact (Below.refl _ _).alloc (Nat.le_refl _) _
      have HBW : Hid (Below w.heap.size w W1) := HB1.out.trans (bb1.mono HB1.out.size)
      have HAW : Hid (W1.heap[w.heap.size]? = some (BH kc b) ∧ W1.heap[w1.heap.size]? = some (BH q1 q2) ∧ W1.heap[w.heap.size + 1]? = some (BH kd d)) := ⟨(bb1.block _ hw10).trans HA1.out.1, by rw [hW1]; exact heap_alloc_new _ _, (bb1.block _ hw11).trans HA1.out.2⟩
      have hwt1 : w1.heap.size < W1.heap.size := (Array.getElem?_eq_some_iff.1 HAW.out.2.1).1
      obtain ⟨⟨g0, g1⟩, _⟩ := two_of HA1.out.2
      clear bb1
      go_wp2_with fail
      rw [← hW1]
      refine (refuseMove_any HCC.out.2 _ L q1 q2 kd d s2 _ (HVW.out _ HBW.out) HOK.out HSM.out.2 HCK.out.1 HCK.out.2).mono ?_
      rintro e w2 ⟨rfl, hb2⟩
      rw [HMV.out]
      have HB2 : Hid (Below w.heap.size w w2) := HBW.out.trans (hb2.mono HBW.out.size)
      have HA2 : Hid (w2.heap[w.heap.size]? = some (BH kc b) ∧ w2.heap[w1.heap.size]? = some (BH q1 q2) ∧ w2.heap[w.heap.size + 1]? = some (BH kd d)) := ⟨(hb2.block _ (by omega)).trans HAW.out.1, (hb2.block _ hwt1).trans HAW.out.2.1, (hb2.block _ (by omega)).trans HAW.out.2.2⟩
      clear hb2 hW1 g0 g1
      have HSG : Hid (∀ w' : World, Below w2.heap.size w2 w' → w'.cell? ⟨w.heap.size, 0, none⟩ = some (.int .i64 kc) ∧ w'.cell? ⟨w.heap.size, 1, none⟩ = some (.int .i64 b) ∧ w'.cell? ⟨w1.heap.size, 0, none⟩ = some (.int .i64 q1) ∧ w'.cell? ⟨w1.heap.size, 1, none⟩ = some (.int .i64 q2) ∧ w'.cell? ⟨w.heap.size + 1, 0, none⟩ = some (.int .i64 kd) ∧ w'.cell? ⟨w.heap.size + 1, 1, none⟩ = some (.int .i64 d)) := fun V h => by
        obtain ⟨⟨a0, a1⟩, _⟩ := two_of HA2.out.1
        obtain ⟨⟨t0, t1⟩, _⟩ := two_of HA2.out.2.1
        obtain ⟨⟨g0, g1⟩, _⟩ := two_of HA2.out.2.2
        exact ⟨cell_step a0 h, cell_step a1 h, cell_step t0 h, cell_step t1 h, cell_step g0 h, cell_step g1 h⟩
      have HREM : Hid (∀ V, Below w2.heap.size w2 V → Calls Tryz.prog 58 #[.slice ao L.length cap, .agg #[.int .i64 kc, .int .i64 b], .string s, .int .i64 st] V fun e w' => ∃ u L', e = .returned u ∧ TabAt (fun b => V.heap.size ≤ b) w' u L' ∧ pl L' = T1 ∧ Below V.heap.size V w') := fun V h => (sremove_any _ L kc b st s yc V (HVW.out _ (HB2.out.trans (h.mono HB2.out.size))) HYC.out.1 HYC.out.2.1 HSM.out.1 HYC.out.2.2.1 HYC.out.2.2.2).mono fun e w' ⟨u, L', h1, h2, h3, h4⟩ => ⟨u, L', h1, h2, by rw [h3]; exact HP.out, h4⟩
      have HADD : Hid (∀ V u L1 (S : Nat → Prop), TabAt S V u L1 → pl L1 = T1 → Calls Tryz.prog 47 #[u, .agg #[.int .i64 kd, .int .i64 d], .string s2, .agg #[.int .i64 q1, .int .i64 q2], .int .i64 st] V fun e w' => ∃ u L', e = .returned (.tuple #[u, .int .i64 ae]) ∧ TabAt (fun b => V.heap.size ≤ b) w' u L' ∧ pl L' = R ∧ Below V.heap.size V w') := fun V u L1 S h hp => by
        obtain ⟨y1, hy1, hyi⟩ := Sp.pl_some (L := L1) (k := kd) (x := x1) (by rw [hp]; exact HX1.out.1)
        refine (sadd_any u L1 kd d q1 q2 st s2 y1 V h hy1 (by rw [hyi]; exact HX1.out.2.1) HSM.out.2 (by rw [hyi]; exact fun _ => HX1.out.2.2)).mono fun e w' ⟨u, L', h1, h2, h3, h4⟩ => ⟨u, L', ?_, h2, ?_, h4⟩
        · rw [h1, hyi, HAE.out]
        · rw [h3, hyi, HAE.out, hp, HPP.out, HRR.out]
      go_wp2_with fail
      go_region_held3 (fun w' => w'.cell? ⟨w.heap.size, 0, none⟩ = some (.int .i64 kc) ∧ w'.cell? ⟨w.heap.size, 1, none⟩ = some (.int .i64 b) ∧ w'.cell? ⟨w1.heap.size, 0, none⟩ = some (.int .i64 q1) ∧ w'.cell? ⟨w1.heap.size, 1, none⟩ = some (.int .i64 q2) ∧ w'.cell? ⟨w.heap.size + 1, 0, none⟩ = some (.int .i64 kd) ∧ w'.cell? ⟨w.heap.size + 1, 1, none⟩ = some (.int .i64 d)) (first | exact HSG.out _ (by (repeat (first | assumption | exact Below.refl _ _ | refine bel_drew ?_ | refine Below.setCell ?_ (by first | exact Nat.le_refl _ | assumption) _ | refine Below.alloc ?_ (by first | exact Nat.le_refl _ | assumption) _)))) (first
        | (go_at_call 58; refine (HREM.out _ (by (repeat (first | assumption | exact Below.refl _ _ | refine bel_drew ?_ | refine Below.setCell ?_ (by first | exact Nat.le_refl _ | assumption) _ | refine Below.alloc ?_ (by first | exact Nat.le_refl _ | assumption) _)))).mono ?_; rintro e w3 ⟨u3, L3, rfl, ht3, hp3, hb3⟩; have hb33 : Below w2.heap.size w2 w3 := undrew hb3; clear hb3)
        | (go_at_call 47; refine (HADD.out _ _ L3 _ ht3 hp3).mono ?_; rintro e w4 ⟨u4, L4, rfl, ht4, hp4, hb4⟩; have hb44 : Below w2.heap.size w2 w4 := hb33.trans (hb4.mono hb33.size)))
      all_goals
        have HB4 : Hid (Below w.heap.size w w4) := HB2.out.trans (hb44.mono HB2.out.size)
        have hw3 : w.heap.size ≤ w3.heap.size := Nat.le_trans HB2.out.size hb33.size
        have HT4 : Hid (TabAt (fun b => w.heap.size ≤ b) w4 u4 L4) := ⟨ht4.1.imp fun _ h _ => Nat.le_trans hw3 h, fun y hy => (ht4.2 y hy).imp fun _ h _ => Nat.le_trans hw3 h⟩
        have HP4 : Hid (pl L4 = R) := hp4
        clear ht4 hp4 hb4 ht3 hp3
        go_wp2
        (try simp only [Exit.inBlock, Exit.then])
        refine bodyPost_ret (v := .tuple #[u4, .int .i64 ae]) (by simp [results, Tryz.results26, go_sem]) rfl ?_
        first
          | exact ⟨u4, rfl, L4, HT4.out, HP4.out, HB4.out⟩
          | exact ⟨u4, L4, rfl, HT4.out, HP4.out, HB4.out⟩
    · have hE : Sp.rnE C I (pl L) kc b s c d s2 st = mv := by unfold Sp.rnE; rw [hte, if_pos rfl, hq, hmv, if_neg hm0]
      have hT : Sp.rnT C I (pl L) kc b s c d s2 st = [] := by unfold Sp.rnT; rw [if_neg (by rw [hE]; exact hm0)]
      rw [hE, hT]
      have hz' : (mv != 0) = true := by simpa using hm0
      clear hc0 hxc hgc hkc hfc hff hpl hj hqe hkt hkt0 hxt hgt hkt2 hlk hft hit hic hr hst hlen hq1 hyc hst0 hmv hm0 hE hT hM hte hq
      go_enter Tryz.func26, Tryz.ntmps26
      obtain ⟨⟨a0, a1⟩, _⟩ := two_of HA0.out.1
      go_wp2_with fail
      rw [← hW]
      refine (toChange_any HCC.out.1 _ L kc b s st _ HV.out HOK.out HSM.out.1).mono ?_
      rintro e w1 ⟨rfl, hb1⟩
      rw [HTE.out.1, HTE.out.2]
      have HB1 : Hid (Below w.heap.size w w1) := HB0.out.trans (hb1.mono HB0.out.size)
      have HA1 : Hid (w1.heap[w.heap.size]? = some (BH kc b) ∧ w1.heap[w.heap.size + 1]? = some (BH c d)) := ⟨(hb1.block _ (by omega)).trans HA0.out.1, (hb1.block _ hws).trans HA0.out.2⟩
      have hw11 : w.heap.size + 1 < w1.heap.size := (Array.getElem?_eq_some_iff.1 HA1.out.2).1
      have hw10 : w.heap.size < w1.heap.size := by omega
      clear hb1 hW a0 a1
      obtain ⟨W1, hW1⟩ : ∃ W1, W1 = w1.alloc (BH q1 q2) := ⟨_, rfl⟩
      have bb1 : Below w1.heap.size w1 W1 := by rw [hW1]; exact (Below.refl _ _).alloc (Nat.le_refl _) _
      have HBW : Hid (Below w.heap.size w W1) := HB1.out.trans (bb1.mono HB1.out.size)
      have HAW : Hid (W1.heap[w.heap.size]? = some (BH kc b) ∧ W1.heap[w1.heap.size]? = some (BH q1 q2) ∧ W1.heap[w.heap.size + 1]? = some (BH c d)) := ⟨(bb1.block _ hw10).trans HA1.out.1, by rw [hW1]; exact heap_alloc_new _ _, (bb1.block _ hw11).trans HA1.out.2⟩
      have hwt1 : w1.heap.size < W1.heap.size := (Array.getElem?_eq_some_iff.1 HAW.out.2.1).1
      obtain ⟨⟨g0, g1⟩, _⟩ := two_of HA1.out.2
      clear bb1
      go_wp2_with fail
      rw [← hW1]
      refine (refuseMove_any HCC.out.2 _ L q1 q2 c d s2 _ (HVW.out _ HBW.out) HOK.out HSM.out.2 HCK.out.1 HCK.out.2).mono ?_
      rintro e w2 ⟨rfl, hb2⟩
      rw [HMV.out]
      have HB2 : Hid (Below w.heap.size w w2) := HBW.out.trans (hb2.mono HBW.out.size)
      have HA2 : Hid (w2.heap[w.heap.size]? = some (BH kc b) ∧ w2.heap[w1.heap.size]? = some (BH q1 q2) ∧ w2.heap[w.heap.size + 1]? = some (BH c d)) := ⟨(hb2.block _ (by omega)).trans HAW.out.1, (hb2.block _ hwt1).trans HAW.out.2.1, (hb2.block _ (by omega)).trans HAW.out.2.2⟩
      clear hb2 hW1 g0 g1
      go_wp2
      (try simp only [Exit.inBlock, Exit.then])
      refine bodyPost_ret (v := .tuple #[.slice none 0 0, .int .i64 mv]) (by simp [results, Tryz.results26, go_sem]) rfl ?_
      have hbe := HB2.out
      have hbs := hbe.size
      first
        | exact ⟨_, rfl, [], tab_nil _ _, rfl, by repeat (first | exact hbe | refine Below.setCell ?_ (by simp) _ | refine Below.alloc ?_ (by first | omega | (simp; omega)) _)⟩
        | exact ⟨_, [], rfl, tab_nil _ _, rfl, by repeat (first | exact hbe | refine Below.setCell ?_ (by simp) _ | refine Below.alloc ?_ (by first | omega | (simp; omega)) _)⟩
  · have hE : Sp.rnE C I (pl L) a b s c d s2 st = te := by unfold Sp.rnE; rw [if_neg (by rw [hte]; exact hz), hte]
    have hT : Sp.rnT C I (pl L) a b s c d s2 st = [] := by unfold Sp.rnT; rw [if_neg (by rw [hE]; exact hz)]
    rw [hE, hT]
    have hz' : (te != 0) = true := by simpa using hz
    clear hz hE hT hte hM hq
    go_enter Tryz.func26, Tryz.ntmps26
    obtain ⟨⟨a0, a1⟩, _⟩ := two_of HA0.out.1
    go_wp2_with fail
    rw [← hW]
    refine (toChange_any HCC.out.1 _ L a b s st _ HV.out HOK.out HSM.out.1).mono ?_
    rintro e w1 ⟨rfl, hb1⟩
    rw [HTE.out.1, HTE.out.2]
    have HB1 : Hid (Below w.heap.size w w1) := HB0.out.trans (hb1.mono HB0.out.size)
    have HA1 : Hid (w1.heap[w.heap.size]? = some (BH a b) ∧ w1.heap[w.heap.size + 1]? = some (BH c d)) := ⟨(hb1.block _ (by omega)).trans HA0.out.1, (hb1.block _ hws).trans HA0.out.2⟩
    have hw11 : w.heap.size + 1 < w1.heap.size := (Array.getElem?_eq_some_iff.1 HA1.out.2).1
    have hw10 : w.heap.size < w1.heap.size := by omega
    clear hb1 hW a0 a1
    go_wp2
    (try simp only [Exit.inBlock, Exit.then])
    refine bodyPost_ret (v := .tuple #[.slice none 0 0, .int .i64 te]) (by simp [results, Tryz.results26, go_sem]) rfl ?_
    have hbe := HB1.out
    have hbs := hbe.size
    first
      | exact ⟨_, rfl, [], tab_nil _ _, rfl, by repeat (first | exact hbe | refine Below.setCell ?_ (by simp) _ | refine Below.alloc ?_ (by first | omega | (simp; omega)) _)⟩
      | exact ⟨_, [], rfl, tab_nil _ _, rfl, by repeat (first | exact hbe | refine Below.setCell ?_ (by simp) _ | refine Below.alloc ?_ (by first | omega | (simp; omega)) _)⟩
end Go.Proofs.YtacghcoikekfeaaGreat
