/-
  space.Make, over what Check answers.
-/
import Derived.Test.YtacghcoikekfeaaGreatSp18
import Derived.Test.YtacghcoikekfeaaGreatMakeB
namespace Go.Proofs.YtacghcoikekfeaaGreat
open Go.ChangeShapes Go.WideShapes Go.ChangeAt Go.RowKit Go.Deep It
set_option maxRecDepth 100000
set_option maxHeartbeats 4000000 in
theorem smake_any {C : List Ino → Int} (hC : ChkSaid C) (hM : Sp.ChkMeans C) {S : Nat → Prop} (v : Value) (L : List Rw) (a b : Int) (s : ByteArray) (kind st : Int) (w : World) (hv : TabAt S w v L) (hok : Sp.okN L) (hs : s.size ≤ maxLen) :
    Calls Tryz.prog 17 #[v, .agg #[.int .i64 a, .int .i64 b], .string s, .int .i64 kind, .int .i64 st] w fun e w' =>
      ∃ u L', e = .returned (.tuple #[u, .agg #[.int .i64 (Sp.mkH C (pl L) a b s kind st).1, .int .i64 (Sp.mkH C (pl L) a b s kind st).2], .int .i64 (Sp.mkE C (pl L) a b s kind st)]) ∧ TabAt (fun b => w.heap.size ≤ b) w' u L' ∧ pl L' = Sp.mkT C (pl L) a b s kind st ∧ Below w.heap.size w w' := by
  obtain ⟨W, hW⟩ : ∃ W, W = (w.alloc (BH a b)).alloc (BH 0 0) := ⟨_, rfl⟩
  have HB0 : Hid (Below w.heap.size w W) := by show Below w.heap.size w W; rw [hW]; exact ((Below.refl _ w).alloc (Nat.le_refl _) _).alloc (by simp) _
  have HA0 : Hid (W.heap[w.heap.size]? = some (BH a b)) := by show W.heap[w.heap.size]? = _; rw [hW]; exact (Below.heap_alloc _ _ _ (by simp)).trans (heap_alloc_new _ _)
  have HZ0 : Hid (W.heap[w.heap.size + 1]? = some (BH 0 0)) := by
    show W.heap[w.heap.size + 1]? = _
    rw [hW]
    have := heap_alloc_new (w.alloc (BH a b)) (BH 0 0)
    rwa [show (w.alloc (BH a b)).heap.size = w.heap.size + 1 by simp] at this
  have hwz : w.heap.size + 1 < W.heap.size := by rw [hW]; simp
  have hws : w.heap.size < W.heap.size := by omega
  have HV : Hid (TabAt S W v L) := hv.up HB0.out
  obtain ⟨ao, cap, rfl, _, _⟩ := hv.open
  have HOK : Hid (Sp.okN L) := hok
  have HSM : Hid (s.size ≤ maxLen) := hs
  have HCC : Hid (ChkSaid C) := hC
  clear hv hok hs hC
  obtain ⟨le, hle⟩ : ∃ le, Sp.makeErr C (pl L) a b s kind st = le := ⟨_, rfl⟩
  have HLE : Hid (Sp.makeErr C (pl L) a b s kind st = le) := hle
  obtain ⟨me, hme⟩ : ∃ me, It.makeErr (pl L) kind st = me := ⟨_, rfl⟩
  obtain ⟨q1, q2, hq⟩ : ∃ q1 q2, makeH (pl L) kind st = (q1, q2) := ⟨_, _, rfl⟩
  have HMH : Hid (It.makeErr (pl L) kind st = me ∧ makeH (pl L) kind st = (q1, q2)) := ⟨hme, hq⟩
  by_cases hz : le = 0
  · subst hz
    obtain ⟨⟨hc0, hs1, hs2⟩, hkk, hd⟩ := Sp.makeErr_zero hle
    obtain ⟨hr, hfo, hlen, -⟩ := hM _ hc0
    obtain ⟨kc, xc, rfl, hxc, hgc, hkc, hde, hdn, hfc, -⟩ := Sp.dir_get hd
    obtain ⟨yc, hyc, rfl⟩ := Sp.pl_some hxc
    by_cases hm0 : me = 0
    · subst hm0
      obtain ⟨ae, hae⟩ : ∃ ae, Fo.addErr yc.i.ents yc.i.next s q1 q2 = ae := ⟨_, rfl⟩
      have hE : Sp.mkE C (pl L) kc b s kind st = ae := by unfold Sp.mkE; rw [if_pos hle, if_pos hme, hde, hdn, hq, hae]
      have HAE : Hid (Fo.addErr yc.i.ents yc.i.next s q1 q2 = ae) := hae
      have hicd : findI (pl L) kc b = yc.i := by
        obtain ⟨k', x', h1, h2, -, -, h3, -⟩ := Sp.find_get hfc
        obtain rfl : kc = k' := by omega
        rw [hxc] at h2
        rw [h3]
        exact (Option.some.inj h2).symm
      obtain ⟨hr1, hkeep⟩ := Sp.make_keep hme
      have hx1 := hkeep kc yc.i hxc (by omega)
      obtain ⟨T1, hT1⟩ : ∃ T1, makeTab (pl L) kind st = T1 := ⟨_, rfl⟩
      rw [hT1] at hr1 hx1
      have hlenc := hlen yc.i (List.mem_of_getElem? hxc)
      have hone := (It.right_iff.1 hr).2.2 yc.i (List.mem_of_getElem? hxc)
      have hst0 : 0 ≤ st := Int.le_trans (Sp.top_nonneg _) hs1
      have hf1 : findErr T1 kc b = 0 := by
        unfold findErr
        rw [if_pos hr1, if_pos ?_]
        unfold names
        rw [show ((kc : Int)).toNat = kc by omega, hx1]
        simp [hgc, hkc]
      have hp1 := (Sp.putTab_set (y := Sp.filled yc.i (yc.i.ents ++ [(s, yc.i.next + 1, q1, q2)]) (yc.i.next + 1) st) hf1 hx1 hgc (by show yc.i.kind ≠ 0; omega) (Sp.one_filled hone hkc ⟨hst0, hs2⟩ (by simp; omega)) rfl).2
      obtain ⟨T2, hT2⟩ : ∃ T2, T1.set kc (Sp.filled yc.i (yc.i.ents ++ [(s, yc.i.next + 1, q1, q2)]) (yc.i.next + 1) st) = T2 := ⟨_, rfl⟩
      have HP : Hid (putTab T1 kc b (Sp.filled yc.i (yc.i.ents ++ [(s, yc.i.next + 1, q1, q2)]) (yc.i.next + 1) st) = T2) := hp1.trans hT2
      have hT : Sp.mkT C (pl L) kc b s kind st = if ae = 0 then T2 else [] := by
        unfold Sp.mkT
        rw [hE, hicd, hq, hT1, ← hT2]
        rfl
      have hH : Sp.mkH C (pl L) kc b s kind st = if ae = 0 then (q1, q2) else (0, 0) := by unfold Sp.mkH; rw [hE, hq]
      have HADD : Hid (Fo.addErr yc.i.ents yc.i.next s q1 q2 = 0 → yc.i.ents.length + 1 ≤ 3518437208883 ∧ At.growErr yc.i.kind yc.i.links yc.i.size yc.i.stamp (yc.i.ents.length + 1) st = 0) := fun _ => ⟨by omega, Sp.grow_ok hr hxc (by omega) ⟨hs1, hs2⟩ ⟨by omega, by omega⟩⟩
      have HYC : Hid (∀ e ∈ yc.i.ents, e.1.size ≤ maxLen) := HOK.out yc (List.mem_of_getElem? hyc)
      have HX1 : Hid (T1[kc]? = some yc.i) := hx1
      have HTT : Hid (makeTab (pl L) kind st = T1) := hT1
      rw [hE, hT, hH]
      clear hle hc0 hs1 hs2 hkk hd hr hfo hlen hxc hgc hkc hde hdn hfc hyc hae hE hicd hr1 hkeep hx1 hT1 hlenc hone hst0 hf1 hp1 hT2 hT hH hme hq hM
      by_cases hz : ae = 0
      · subst hz
        rw [if_pos rfl, if_pos rfl]
        go_enter Tryz.func17, Tryz.ntmps17
        obtain ⟨⟨a0, a1⟩, _⟩ := two_of HA0.out
        go_wp2_with fail
        rw [← hW]
        refine (refuseMake_any HCC.out _ L kc b s kind st _ HV.out HOK.out HSM.out).mono ?_
        rintro e w1 ⟨rfl, hb1⟩
        rw [HLE.out]
        have HB1 : Hid (Below w.heap.size w w1) := HB0.out.trans (hb1.mono HB0.out.size)
        have HA1 : Hid (w1.heap[w.heap.size]? = some (BH kc b)) := (hb1.block _ hws).trans HA0.out
        have HZ1 : Hid (w1.heap[w.heap.size + 1]? = some (BH 0 0)) := (hb1.block _ hwz).trans HZ0.out
        have hwz1 : w.heap.size + 1 < w1.heap.size := (Array.getElem?_eq_some_iff.1 HZ1.out).1
        have hwa1 : w.heap.size < w1.heap.size := by omega
        have HV1 : Hid (TabAt S w1 (.slice ao L.length cap) L) := HV.out.up hb1
        clear hb1 hW HV HA0 HZ0 a0 a1
        go_wp2_with fail
        refine (make_any _ L kind st _ HV1.out).mono ?_
        rintro e w2 ⟨u, L1, rfl, ht, hp, hb2⟩
        rw [HMH.out.1, HMH.out.2]
        have HB2 : Hid (Below w.heap.size w w2) := HB1.out.trans (hb2.mono HB1.out.size)
        have HA2 : Hid (w2.heap[w.heap.size]? = some (BH kc b)) := (hb2.block _ (by omega)).trans HA1.out
        have HZ2 : Hid (w2.heap[w.heap.size + 1]? = some (BH 0 0)) := (hb2.block _ hwz1).trans HZ1.out
        have hwz2 : w.heap.size + 1 < w2.heap.size := (Array.getElem?_eq_some_iff.1 HZ2.out).1
        have hwa2 : w.heap.size < w2.heap.size := by omega
        have HT1 : Hid (TabAt (fun b => w1.heap.size ≤ b) w2 u L1) := ht
        have HPL : Hid (pl L1 = T1) := hp.trans HTT.out
        obtain ⟨y1, hy1, hyi⟩ := Sp.pl_some (L := L1) (k := kc) (x := yc.i) (by rw [HPL.out]; exact HX1.out)
        have HY1 : Hid (L1[kc]? = some y1 ∧ y1.i = yc.i) := ⟨hy1, hyi⟩
        obtain ⟨W2, hW2⟩ : ∃ W2, W2 = w2.alloc (BH q1 q2) := ⟨_, rfl⟩
        have bb2 : Below w2.heap.size w2 W2 := by rw [hW2]; exact (Below.refl _ _).alloc (Nat.le_refl _) _
        have HBW : Hid (Below w.heap.size w W2) := HB2.out.trans (bb2.mono HB2.out.size)
        have HAW : Hid (W2.heap[w.heap.size]? = some (BH kc b) ∧ W2.heap[w2.heap.size]? = some (BH q1 q2) ∧ W2.heap[w.heap.size + 1]? = some (BH 0 0)) := ⟨(bb2.block _ (by omega)).trans HA2.out, by rw [hW2]; exact heap_alloc_new _ _, (bb2.block _ hwz2).trans HZ2.out⟩
        have HTW : Hid (TabAt (fun b => w1.heap.size ≤ b) W2 u L1) := HT1.out.up bb2
        have hws2 : w2.heap.size < W2.heap.size := (Array.getElem?_eq_some_iff.1 HAW.out.2.1).1
        have hwz3 : w.heap.size + 1 < W2.heap.size := (Array.getElem?_eq_some_iff.1 HAW.out.2.2).1
        obtain ⟨⟨a0, a1⟩, _⟩ := two_of HA2.out
        clear hb2 ht hp hy1 hyi bb2
        go_wp2_with fail
        rw [← hW2]
        refine (sadd_any _ L1 kc b q1 q2 st s y1 _ HTW.out HY1.out.1 (by rw [HY1.out.2]; exact HYC.out) HSM.out (by rw [HY1.out.2]; exact HADD.out)).mono ?_
        rintro e w3 ⟨u3, L3, rfl, ht3, hp3, hb3⟩
        rw [HY1.out.2] at hp3 ⊢
        rw [HAE.out] at hp3 ⊢
        have HB3 : Hid (Below w.heap.size w w3) := HBW.out.trans (hb3.mono HBW.out.size)
        have HZ3 : Hid (w3.heap[w.heap.size + 1]? = some (BH 0 0)) := (hb3.block _ hwz3).trans HAW.out.2.2
        have HQ3 : Hid (w3.heap[w2.heap.size]? = some (BH q1 q2)) := (hb3.block _ hws2).trans HAW.out.2.1
        have hwz4 : w.heap.size + 1 < w3.heap.size := (Array.getElem?_eq_some_iff.1 HZ3.out).1
        obtain ⟨⟨z0, z1⟩, zf⟩ := two_of HZ3.out
        obtain ⟨⟨p0, p1⟩, pf⟩ := two_of HQ3.out
        rw [if_pos rfl, HPL.out, HP.out] at hp3
        have HT3 : Hid (TabAt (fun b => W2.heap.size ≤ b) w3 u3 L3) := ht3
        have HP3 : Hid (pl L3 = T2) := hp3
        clear hb3 ht3 hp3 a0 a1 hW2
        go_wp2_with fail
        go_region
        all_goals
          go_wp2
          (try simp only [Exit.inBlock, Exit.then])
        refine bodyPost_ret (v := .tuple #[u3, .agg #[.int .i64 q1, .int .i64 q2], .int .i64 0]) ?_ rfl ?_
        · rw [results_tct rfl]
          go_simp
        · have hbe := HB3.out
          have hfin : TabAt (fun b => w.heap.size ≤ b) ((w3.setCell ⟨w.heap.size + 1, 0, none⟩ (.int .i64 q1)).setCell ⟨w.heap.size + 1, 1, none⟩ (.int .i64 q2)) u3 L3 := by
            refine ⟨?_, fun y hy => ?_⟩
            · refine At.imp (S := fun b => W2.heap.size ≤ b) ?_ (fun b hb _ => by omega)
              repeat (refine At.setCell ?_ (by simp; omega) _)
              exact HT3.out.1
            · refine Good.imp (S := fun b => W2.heap.size ≤ b) ?_ (fun b hb _ => by omega)
              repeat (refine Good.setCell ?_ (by simp; omega) _)
              exact HT3.out.2 y hy
          have hbf : Below w.heap.size w ((w3.setCell ⟨w.heap.size + 1, 0, none⟩ (.int .i64 q1)).setCell ⟨w.heap.size + 1, 1, none⟩ (.int .i64 q2)) := by
            repeat (first | exact hbe | refine Below.setCell ?_ (by simp) _)
          first
            | exact ⟨u3, rfl, L3, hfin, HP3.out, bel_drew hbf⟩
            | exact ⟨u3, L3, rfl, hfin, HP3.out, bel_drew hbf⟩
      · rw [if_neg hz, if_neg hz]
        have hz' : (ae != 0) = true := by simpa using hz
        go_enter Tryz.func17, Tryz.ntmps17
        obtain ⟨⟨a0, a1⟩, _⟩ := two_of HA0.out
        go_wp2_with fail
        rw [← hW]
        refine (refuseMake_any HCC.out _ L kc b s kind st _ HV.out HOK.out HSM.out).mono ?_
        rintro e w1 ⟨rfl, hb1⟩
        rw [HLE.out]
        have HB1 : Hid (Below w.heap.size w w1) := HB0.out.trans (hb1.mono HB0.out.size)
        have HA1 : Hid (w1.heap[w.heap.size]? = some (BH kc b)) := (hb1.block _ hws).trans HA0.out
        have HZ1 : Hid (w1.heap[w.heap.size + 1]? = some (BH 0 0)) := (hb1.block _ hwz).trans HZ0.out
        have hwz1 : w.heap.size + 1 < w1.heap.size := (Array.getElem?_eq_some_iff.1 HZ1.out).1
        have hwa1 : w.heap.size < w1.heap.size := by omega
        have HV1 : Hid (TabAt S w1 (.slice ao L.length cap) L) := HV.out.up hb1
        clear hb1 hW HV HA0 HZ0 a0 a1
        go_wp2_with fail
        refine (make_any _ L kind st _ HV1.out).mono ?_
        rintro e w2 ⟨u, L1, rfl, ht, hp, hb2⟩
        rw [HMH.out.1, HMH.out.2]
        have HB2 : Hid (Below w.heap.size w w2) := HB1.out.trans (hb2.mono HB1.out.size)
        have HA2 : Hid (w2.heap[w.heap.size]? = some (BH kc b)) := (hb2.block _ (by omega)).trans HA1.out
        have HZ2 : Hid (w2.heap[w.heap.size + 1]? = some (BH 0 0)) := (hb2.block _ hwz1).trans HZ1.out
        have hwz2 : w.heap.size + 1 < w2.heap.size := (Array.getElem?_eq_some_iff.1 HZ2.out).1
        have hwa2 : w.heap.size < w2.heap.size := by omega
        have HT1 : Hid (TabAt (fun b => w1.heap.size ≤ b) w2 u L1) := ht
        have HPL : Hid (pl L1 = T1) := hp.trans HTT.out
        obtain ⟨y1, hy1, hyi⟩ := Sp.pl_some (L := L1) (k := kc) (x := yc.i) (by rw [HPL.out]; exact HX1.out)
        have HY1 : Hid (L1[kc]? = some y1 ∧ y1.i = yc.i) := ⟨hy1, hyi⟩
        obtain ⟨W2, hW2⟩ : ∃ W2, W2 = w2.alloc (BH q1 q2) := ⟨_, rfl⟩
        have bb2 : Below w2.heap.size w2 W2 := by rw [hW2]; exact (Below.refl _ _).alloc (Nat.le_refl _) _
        have HBW : Hid (Below w.heap.size w W2) := HB2.out.trans (bb2.mono HB2.out.size)
        have HAW : Hid (W2.heap[w.heap.size]? = some (BH kc b) ∧ W2.heap[w2.heap.size]? = some (BH q1 q2) ∧ W2.heap[w.heap.size + 1]? = some (BH 0 0)) := ⟨(bb2.block _ (by omega)).trans HA2.out, by rw [hW2]; exact heap_alloc_new _ _, (bb2.block _ hwz2).trans HZ2.out⟩
        have HTW : Hid (TabAt (fun b => w1.heap.size ≤ b) W2 u L1) := HT1.out.up bb2
        have hws2 : w2.heap.size < W2.heap.size := (Array.getElem?_eq_some_iff.1 HAW.out.2.1).1
        have hwz3 : w.heap.size + 1 < W2.heap.size := (Array.getElem?_eq_some_iff.1 HAW.out.2.2).1
        obtain ⟨⟨a0, a1⟩, _⟩ := two_of HA2.out
        clear hb2 ht hp hy1 hyi bb2
        go_wp2_with fail
        rw [← hW2]
        refine (sadd_any _ L1 kc b q1 q2 st s y1 _ HTW.out HY1.out.1 (by rw [HY1.out.2]; exact HYC.out) HSM.out (by rw [HY1.out.2]; exact HADD.out)).mono ?_
        rintro e w3 ⟨u3, L3, rfl, ht3, hp3, hb3⟩
        rw [HY1.out.2] at hp3 ⊢
        rw [HAE.out] at hp3 ⊢
        have HB3 : Hid (Below w.heap.size w w3) := HBW.out.trans (hb3.mono HBW.out.size)
        have HZ3 : Hid (w3.heap[w.heap.size + 1]? = some (BH 0 0)) := (hb3.block _ hwz3).trans HAW.out.2.2
        have HQ3 : Hid (w3.heap[w2.heap.size]? = some (BH q1 q2)) := (hb3.block _ hws2).trans HAW.out.2.1
        have hwz4 : w.heap.size + 1 < w3.heap.size := (Array.getElem?_eq_some_iff.1 HZ3.out).1
        obtain ⟨⟨z0, z1⟩, zf⟩ := two_of HZ3.out
        obtain ⟨⟨p0, p1⟩, pf⟩ := two_of HQ3.out
        clear hb3 ht3 hp3 a0 a1 hW2 hz
        go_wp2
        (try simp only [Exit.inBlock, Exit.then])
        refine bodyPost_ret (v := .tuple #[.slice none 0 0, .agg #[.int .i64 0, .int .i64 0], .int .i64 ae]) ?_ rfl ?_
        · rw [results_tct rfl]
          go_simp
        · have hbe := HB3.out
          have hbs := hbe.size
          first
            | exact ⟨_, rfl, [], tab_nil _ _, rfl, by repeat (first | exact hbe | refine Below.setCell ?_ (by simp) _ | refine Below.alloc ?_ (by simp; omega) _)⟩
            | exact ⟨_, [], rfl, tab_nil _ _, rfl, by repeat (first | exact hbe | refine Below.setCell ?_ (by simp) _ | refine Below.alloc ?_ (by simp; omega) _)⟩
    · have hE : Sp.mkE C (pl L) kc b s kind st = me := by unfold Sp.mkE; rw [if_pos hle, if_neg (by rw [hme]; exact hm0), hme]
      have hT : Sp.mkT C (pl L) kc b s kind st = [] := by unfold Sp.mkT; rw [if_neg (by rw [hE]; exact hm0)]
      have hH : Sp.mkH C (pl L) kc b s kind st = (0, 0) := by unfold Sp.mkH; rw [if_neg (by rw [hE]; exact hm0)]
      rw [hE, hT, hH]
      have hz' : (me != 0) = true := by simpa using hm0
      clear hle hc0 hs1 hs2 hkk hd hr hfo hlen hxc hgc hkc hde hdn hfc hyc hE hT hH hme hq hM hm0
      go_enter Tryz.func17, Tryz.ntmps17
      obtain ⟨⟨a0, a1⟩, _⟩ := two_of HA0.out
      go_wp2_with fail
      rw [← hW]
      refine (refuseMake_any HCC.out _ L kc b s kind st _ HV.out HOK.out HSM.out).mono ?_
      rintro e w1 ⟨rfl, hb1⟩
      rw [HLE.out]
      have HB1 : Hid (Below w.heap.size w w1) := HB0.out.trans (hb1.mono HB0.out.size)
      have HA1 : Hid (w1.heap[w.heap.size]? = some (BH kc b)) := (hb1.block _ hws).trans HA0.out
      have HZ1 : Hid (w1.heap[w.heap.size + 1]? = some (BH 0 0)) := (hb1.block _ hwz).trans HZ0.out
      have hwz1 : w.heap.size + 1 < w1.heap.size := (Array.getElem?_eq_some_iff.1 HZ1.out).1
      have hwa1 : w.heap.size < w1.heap.size := by omega
      have HV1 : Hid (TabAt S w1 (.slice ao L.length cap) L) := HV.out.up hb1
      clear hb1 hW HV HA0 HZ0 a0 a1
      go_wp2_with fail
      refine (make_any _ L kind st _ HV1.out).mono ?_
      rintro e w2 ⟨u, L1, rfl, ht, hp, hb2⟩
      rw [HMH.out.1, HMH.out.2]
      have HB2 : Hid (Below w.heap.size w w2) := HB1.out.trans (hb2.mono HB1.out.size)
      have HA2 : Hid (w2.heap[w.heap.size]? = some (BH kc b)) := (hb2.block _ (by omega)).trans HA1.out
      have HZ2 : Hid (w2.heap[w.heap.size + 1]? = some (BH 0 0)) := (hb2.block _ hwz1).trans HZ1.out
      have hwz2 : w.heap.size + 1 < w2.heap.size := (Array.getElem?_eq_some_iff.1 HZ2.out).1
      have hwa2 : w.heap.size < w2.heap.size := by omega
      obtain ⟨⟨z0, z1⟩, zf⟩ := two_of HZ2.out
      clear hb2 ht hp
      go_wp2
      (try simp only [Exit.inBlock, Exit.then])
      refine bodyPost_ret (v := .tuple #[.slice none 0 0, .agg #[.int .i64 0, .int .i64 0], .int .i64 me]) ?_ rfl ?_
      · rw [results_tct rfl]
        go_simp
      · have hbe := HB2.out
        have hbs := hbe.size
        first
          | exact ⟨_, rfl, [], tab_nil _ _, rfl, by repeat (first | exact hbe | refine Below.setCell ?_ (by simp) _ | refine Below.alloc ?_ (by simp; omega) _)⟩
          | exact ⟨_, [], rfl, tab_nil _ _, rfl, by repeat (first | exact hbe | refine Below.setCell ?_ (by simp) _ | refine Below.alloc ?_ (by simp; omega) _)⟩
  · have hE : Sp.mkE C (pl L) a b s kind st = le := by unfold Sp.mkE; rw [if_neg (by rw [hle]; exact hz), hle]
    have hT : Sp.mkT C (pl L) a b s kind st = [] := by unfold Sp.mkT; rw [if_neg (by rw [hE]; exact hz)]
    have hH : Sp.mkH C (pl L) a b s kind st = (0, 0) := by unfold Sp.mkH; rw [if_neg (by rw [hE]; exact hz)]
    rw [hE, hT, hH]
    have hz' : (le != 0) = true := by simpa using hz
    clear hz hE hT hH hle hme hq hM
    go_enter Tryz.func17, Tryz.ntmps17
    obtain ⟨⟨a0, a1⟩, _⟩ := two_of HA0.out
    go_wp2_with fail
    rw [← hW]
    refine (refuseMake_any HCC.out _ L a b s kind st _ HV.out HOK.out HSM.out).mono ?_
    rintro e w1 ⟨rfl, hb1⟩
    rw [HLE.out]
    have HB1 : Hid (Below w.heap.size w w1) := HB0.out.trans (hb1.mono HB0.out.size)
    have HA1 : Hid (w1.heap[w.heap.size]? = some (BH a b)) := (hb1.block _ hws).trans HA0.out
    have HZ1 : Hid (w1.heap[w.heap.size + 1]? = some (BH 0 0)) := (hb1.block _ hwz).trans HZ0.out
    have hwz1 : w.heap.size + 1 < w1.heap.size := (Array.getElem?_eq_some_iff.1 HZ1.out).1
    have hwa1 : w.heap.size < w1.heap.size := by omega
    have HV1 : Hid (TabAt S w1 (.slice ao L.length cap) L) := HV.out.up hb1
    clear hb1 hW HV HA0 HZ0 a0 a1
    obtain ⟨⟨z0, z1⟩, zf⟩ := two_of HZ1.out
    go_wp2
    (try simp only [Exit.inBlock, Exit.then])
    refine bodyPost_ret (v := .tuple #[.slice none 0 0, .agg #[.int .i64 0, .int .i64 0], .int .i64 le]) ?_ rfl ?_
    · rw [results_tct rfl]
      go_simp
    · have hbe := HB1.out
      have hbs := hbe.size
      first
        | exact ⟨_, rfl, [], tab_nil _ _, rfl, by repeat (first | exact hbe | refine Below.setCell ?_ (by simp) _ | refine Below.alloc ?_ (by simp; omega) _)⟩
        | exact ⟨_, [], rfl, tab_nil _ _, rfl, by repeat (first | exact hbe | refine Below.setCell ?_ (by simp) _ | refine Below.alloc ?_ (by simp; omega) _)⟩
end Go.Proofs.YtacghcoikekfeaaGreat
