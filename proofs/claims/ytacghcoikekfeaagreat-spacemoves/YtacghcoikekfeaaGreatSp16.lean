/-
  space.Rmdir, over what Check answers.
-/
import Derived.Test.YtacghcoikekfeaaGreatSp15
import Derived.Deep.RegionHeld3
namespace Go.Proofs.YtacghcoikekfeaaGreat
open Go.ChangeShapes Go.WideShapes Go.ChangeAt Go.RowKit Go.Deep It
set_option maxRecDepth 100000
set_option maxHeartbeats 4000000 in
theorem srmdir_any {C : List Ino → Int} (hC : ChkSaid C) (hM : Sp.ChkMeans C) {S : Nat → Prop} (v : Value) (L : List Rw) (a b : Int) (s : ByteArray) (st : Int) (w : World) (hv : TabAt S w v L) (hok : Sp.okN L) (hs : s.size ≤ maxLen) :
    Calls Tryz.prog 24 #[v, .agg #[.int .i64 a, .int .i64 b], .string s, .int .i64 st] w fun e w' =>
      ∃ u L', e = .returned (.tuple #[u, .int .i64 (Sp.rmE C (pl L) a b s st)]) ∧ TabAt (fun b => w.heap.size ≤ b) w' u L' ∧ pl L' = Sp.rmT C (pl L) a b s st ∧ Below w.heap.size w w' := by
  obtain ⟨W, hW⟩ : ∃ W, W = w.alloc (BH a b) := ⟨_, rfl⟩
  have HB0 : Hid (Below w.heap.size w W) := by show Below w.heap.size w W; rw [hW]; exact (Below.refl _ w).alloc (Nat.le_refl _) _
  have HA0 : Hid (W.heap[w.heap.size]? = some (BH a b)) := by show W.heap[w.heap.size]? = _; rw [hW]; exact heap_alloc_new _ _
  have hws : w.heap.size < W.heap.size := by rw [hW]; simp
  have HV : Hid (TabAt S W v L) := hv.up HB0.out
  have HVW : Hid (∀ V, Below w.heap.size w V → TabAt S V v L) := fun V h => hv.up h
  obtain ⟨ao, cap, rfl, hm, hx⟩ := hv.open
  have HOK : Hid (Sp.okN L) := hok
  have HSM : Hid (s.size ≤ maxLen) := hs
  have HCC : Hid (ChkSaid C) := hC
  obtain ⟨q, hq⟩ : ∃ q, Sp.toH C (pl L) st a b s = q := ⟨_, rfl⟩
  obtain ⟨te, hte⟩ : ∃ te, Sp.toErr C (pl L) st a b s = te := ⟨_, rfl⟩
  have HTE : Hid (Sp.toH C (pl L) st a b s = q ∧ Sp.toErr C (pl L) st a b s = te) := ⟨hq, hte⟩
  clear hv hok hs hC
  by_cases hz : te = 0
  · subst hz
    obtain ⟨kc, xc, j, en, kt, xt, rfl, hxc, hgc, hkc, hfc, hff, hpl, hj, hqe, hkt, hkt0, hxt, hgt, hkt2, hlk, hft, hit, hic, hr, hst, hlen⟩ := Sp.to_zero hM hte
    rw [hq] at hqe
    subst hqe
    obtain ⟨yc, hyc, rfl⟩ := Sp.pl_some hxc
    obtain ⟨yt, hyt, rfl⟩ := Sp.pl_some hxt
    have hst0 : 0 ≤ st := Int.le_trans (Sp.top_nonneg _) hst.1
    obtain ⟨⟨bb, off, rfl, hB, hc8⟩, hgd⟩ := hx kt yt hyt
    have HX8 : Hid (∀ V, Below w.heap.size w V → eight V bb (off + kt * 8) yt) := fun V h => hc8.below h hB
    have HLEN : Hid (yt.en = yt.i.ents.length) := hgd.len.2
    have hkl : (kt : Int) < (L.length : Int) := by have := (List.getElem?_eq_some_iff.1 hyt).1; omega
    have hE : Sp.rmE C (pl L) kc b s st = if yt.i.kind = 2 then (if yt.i.ents = [] then 0 else 406) else 404 := by
      unfold Sp.rmE
      rw [hte, if_pos rfl, hq, hit]
    obtain ⟨en1, en2, en3, g⟩ := en
    simp only at hq hkt hgt hft hit HTE
    subst hkt
    have hTn : ∀ e, Sp.rmE C (pl L) kc b s st = e → e ≠ 0 → Sp.rmT C (pl L) kc b s st = [] := fun e h h0 => by unfold Sp.rmT; rw [if_neg (by rw [h]; exact h0)]
    by_cases hk2 : yt.i.kind = 2
    · rw [if_pos hk2] at hE
      have hkd : (yt.i.kind == 2) = true := by simp [hk2]
      by_cases he0 : yt.i.ents = []
      · rw [if_pos he0] at hE
        obtain ⟨hp1, hr1⟩ := Sp.less_right (s := s) hr hxc hgc hkc hfc ⟨hst0, hst.2⟩ hlen
        have hne : kc ≠ kt := by
          intro h
          subst h
          rw [hxc] at hxt
          rw [Option.some.inj hxt, he0] at hj
          simp at hj
        have hf1 := Sp.find_set hr1 hxt hne hgt hkt2
        have hT : Sp.rmT C (pl L) kc b s st = ((pl L).set kc (Sp.filled yc.i (yc.i.ents.eraseIdx (Fo.plc yc.i.ents yc.i.next s).toNat) yc.i.next st)).set kt (gone g) := by
          unfold Sp.rmT Sp.lessDir
          rw [hE, if_pos rfl, hq, hic]
          rfl
        rw [hE, hT]
        obtain ⟨T1, hT1⟩ : ∃ T1, (pl L).set kc (Sp.filled yc.i (yc.i.ents.eraseIdx (Fo.plc yc.i.ents yc.i.next s).toNat) yc.i.next st) = T1 := ⟨_, rfl⟩
        have HP : Hid (putTab (pl L) kc b (Sp.filled yc.i (yc.i.ents.eraseIdx (Fo.plc yc.i.ents yc.i.next s).toNat) yc.i.next st) = T1) := hp1.trans hT1
        rw [hT1] at hf1 ⊢
        have hlt1 : kt < T1.length := by rw [← hT1]; simpa using (List.getElem?_eq_some_iff.1 hyt).1
        have HDR : Hid (dropErr T1 kt g = 0 ∧ dropTab T1 kt g = T1.set kt (gone g)) := by
          have h : dropErr T1 kt g = 0 := by unfold dropErr; rw [if_pos hf1, if_neg (by omega)]
          refine ⟨h, ?_⟩
          unfold dropTab put
          rw [if_pos h, show ((kt : Int)).toNat = kt by omega, if_pos hlt1]
        have HYC : Hid (L[kc]? = some yc ∧ (∀ e ∈ yc.i.ents, e.1.size ≤ maxLen) ∧ Fo.findErr yc.i.ents yc.i.next s = 0 ∧ At.growErr yc.i.kind yc.i.links yc.i.size yc.i.stamp (yc.i.ents.eraseIdx (Fo.plc yc.i.ents yc.i.next s).toNat).length st = 0) :=
          ⟨hyc, HOK.out yc (List.mem_of_getElem? hyc), hff, Sp.grow_ok hr hxc (by omega) hst ⟨by omega, by have := List.length_eraseIdx_le yc.i.ents (Fo.plc yc.i.ents yc.i.next s).toNat; omega⟩⟩
        have hen : yt.en = 0 := by rw [HLEN.out, he0]; rfl
        have HEN : Hid (yt.en = 0) := hen
        rw [show yt.i.ents.length = 0 by rw [he0]; rfl] at HLEN
        have hen2 : ¬ ((0 : Int) < (yt.en : Int)) := by omega
        clear hE hT hTn hM hte hq hx hc8 hgd hfc hft hr hst hxc hgc hkc hff hpl hj hic hlen hyc hyt hxt hgt hkt2 hlk hit hst0 he0 hp1 hr1 hf1 hT1 hlt1 hne hk2 hkt0 hen
        go_enter Tryz.func24, Tryz.ntmps24
        obtain ⟨⟨a0, a1⟩, _⟩ := two_of HA0.out
        go_wp2_with fail
        rw [← hW]
        refine (toChange_any HCC.out _ L kc b s st _ HV.out HOK.out HSM.out).mono ?_
        rintro e w1 ⟨rfl, hb1⟩
        rw [HTE.out.1, HTE.out.2]
        have HB1 : Hid (Below w.heap.size w w1) := HB0.out.trans (hb1.mono HB0.out.size)
        obtain ⟨W1, hW1⟩ : ∃ W1, W1 = w1.alloc (BH kt g) := ⟨_, rfl⟩
        have HBW : Hid (Below w.heap.size w W1) := by show Below w.heap.size w W1; rw [hW1]; exact HB1.out.alloc HB1.out.size _
        have HAW : Hid (W1.heap[w.heap.size]? = some (BH kc b) ∧ W1.heap[w1.heap.size]? = some (BH kt g)) := by
          rw [hW1]
          exact ⟨(Below.heap_alloc _ _ _ (Nat.lt_of_lt_of_le hws hb1.size)).trans ((hb1.block _ hws).trans HA0.out), heap_alloc_new _ _⟩
        have hws1 : w.heap.size < W1.heap.size := (Array.getElem?_eq_some_iff.1 HAW.out.1).1
        have hwt1 : w1.heap.size < W1.heap.size := (Array.getElem?_eq_some_iff.1 HAW.out.2).1
        clear hb1 hW a0 a1
        have hbw1 : bb < w1.heap.size := Nat.lt_of_lt_of_le hB HB1.out.size
        obtain ⟨r0, r1, r2, r3, r4, r5, r6, r7⟩ := HX8.out _ HB1.out
        go_wp2_with fail
        rw [← hW1]
        refine (isDir_any yt _).mono ?_
        rintro e w2 ⟨rfl, hw2⟩
        rw [hkd]
        have hb2 : Below W1.heap.size W1 w2 := by rw [hw2]; exact (Below.refl _ _).alloc (Nat.le_refl _) _
        have HB2 : Hid (Below w.heap.size w w2) := HBW.out.trans (hb2.mono HBW.out.size)
        have HA2 : Hid (w2.heap[w.heap.size]? = some (BH kc b) ∧ w2.heap[w1.heap.size]? = some (BH kt g)) := ⟨(hb2.block _ hws1).trans HAW.out.1, (hb2.block _ hwt1).trans HAW.out.2⟩
        clear hw2 hb2 r0 r1 r2 r3 r4 r5 r6 r7 hW1
        obtain ⟨⟨t0, t1⟩, _⟩ := two_of HA2.out.2
        obtain ⟨r0, r1, r2, r3, r4, r5, r6, r7⟩ := HX8.out _ HB2.out
        have HSG : Hid (∀ w' : World, Below w2.heap.size w2 w' → w'.cell? ⟨w.heap.size, 0, none⟩ = some (.int .i64 kc) ∧ w'.cell? ⟨w.heap.size, 1, none⟩ = some (.int .i64 b) ∧ w'.cell? ⟨w1.heap.size, 0, none⟩ = some (.int .i64 kt) ∧ w'.cell? ⟨w1.heap.size, 1, none⟩ = some (.int .i64 g)) := fun V h => by
          obtain ⟨⟨a0, a1⟩, _⟩ := two_of HA2.out.1
          obtain ⟨⟨t0, t1⟩, _⟩ := two_of HA2.out.2
          exact ⟨cell_step a0 h, cell_step a1 h, cell_step t0 h, cell_step t1 h⟩
        have HREM : Hid (∀ V, Below w2.heap.size w2 V → Calls Tryz.prog 58 #[.slice (some ⟨bb, off, none⟩) L.length cap, .agg #[.int .i64 kc, .int .i64 b], .string s, .int .i64 st] V fun e w' => ∃ u L', e = .returned u ∧ TabAt (fun b => V.heap.size ≤ b) w' u L' ∧ pl L' = T1 ∧ Below V.heap.size V w') := fun V h => (sremove_any _ L kc b st s yc V (HVW.out _ (HB2.out.trans (h.mono HB2.out.size))) HYC.out.1 HYC.out.2.1 HSM.out HYC.out.2.2.1 HYC.out.2.2.2).mono fun e w' ⟨u, L', h1, h2, h3, h4⟩ => ⟨u, L', h1, h2, by rw [h3]; exact HP.out, h4⟩
        go_wp2_with fail
        clear t0 t1 r0 r1 r2 r3 r4 r5 r6 r7
        go_region_held3 (fun w' => w'.cell? ⟨w.heap.size, 0, none⟩ = some (.int .i64 kc) ∧ w'.cell? ⟨w.heap.size, 1, none⟩ = some (.int .i64 b) ∧ w'.cell? ⟨w1.heap.size, 0, none⟩ = some (.int .i64 kt) ∧ w'.cell? ⟨w1.heap.size, 1, none⟩ = some (.int .i64 g)) (first | exact HSG.out _ (by (repeat (first | assumption | exact Below.refl _ _ | refine bel_drew ?_ | refine Below.setCell ?_ (by first | exact Nat.le_refl _ | assumption) _ | refine Below.alloc ?_ (by first | exact Nat.le_refl _ | assumption) _)))) (first
          | (go_at_call 58; refine (HREM.out _ (by (repeat (first | assumption | exact Below.refl _ _ | refine bel_drew ?_ | refine Below.setCell ?_ (by first | exact Nat.le_refl _ | assumption) _ | refine Below.alloc ?_ (by first | exact Nat.le_refl _ | assumption) _)))).mono ?_; rintro e w3 ⟨u3, L3, rfl, ht3, hp3, hb3⟩; have hb33 : Below w2.heap.size w2 w3 := undrew hb3; clear hb3)
          | (go_at_call 60; refine (drop_any _ L3 kt g _ ht3).mono ?_; rintro e w4 ⟨u4, L4, rfl, ht4, hp4, hb4⟩; have hb44 : Below w2.heap.size w2 w4 := hb33.trans (hb4.mono hb33.size)))
        all_goals
          rw [hp3] at hp4
          rw [HDR.out.1]
          rw [HDR.out.2] at hp4
          have HB4 : Hid (Below w.heap.size w w4) := HB2.out.trans (hb44.mono HB2.out.size)
          have hw3 : w.heap.size ≤ w3.heap.size := Nat.le_trans HB2.out.size hb33.size
          have HT4 : Hid (TabAt (fun b => w.heap.size ≤ b) w4 u4 L4) := ⟨ht4.1.imp fun _ h _ => Nat.le_trans hw3 h, fun y hy => (ht4.2 y hy).imp fun _ h _ => Nat.le_trans hw3 h⟩
          have HP4 : Hid (pl L4 = T1.set kt (gone g)) := hp4
          clear ht4 hp4 hb4 ht3 hp3
          go_wp2
          (try simp only [Exit.inBlock, Exit.then])
          refine bodyPost_ret (v := .tuple #[u4, .int .i64 0]) (by simp [results, Tryz.results24, go_sem]) rfl ?_
          first
            | exact ⟨u4, rfl, L4, HT4.out, HP4.out, HB4.out⟩
            | exact ⟨u4, L4, rfl, HT4.out, HP4.out, HB4.out⟩
      · rw [if_neg he0] at hE
        rw [hE, hTn _ hE (by decide)]
        have hen : 0 < yt.en := by rw [HLEN.out]; exact List.length_pos_iff.2 he0
        have hen2 : ((0 : Int) < (yt.en : Int)) := by omega
        clear hE hTn hM hte hq hx hc8 hgd hfc hft hr hst hxc hgc hkc hff hpl hj hic hlen hyc hyt hxt hgt hkt2 hlk hit hst0 he0 hk2 hkt0
        go_enter Tryz.func24, Tryz.ntmps24
        obtain ⟨⟨a0, a1⟩, _⟩ := two_of HA0.out
        go_wp2_with fail
        rw [← hW]
        refine (toChange_any HCC.out _ L kc b s st _ HV.out HOK.out HSM.out).mono ?_
        rintro e w1 ⟨rfl, hb1⟩
        rw [HTE.out.1, HTE.out.2]
        have HB1 : Hid (Below w.heap.size w w1) := HB0.out.trans (hb1.mono HB0.out.size)
        obtain ⟨W1, hW1⟩ : ∃ W1, W1 = w1.alloc (BH kt g) := ⟨_, rfl⟩
        have HBW : Hid (Below w.heap.size w W1) := by show Below w.heap.size w W1; rw [hW1]; exact HB1.out.alloc HB1.out.size _
        have HAW : Hid (W1.heap[w.heap.size]? = some (BH kc b) ∧ W1.heap[w1.heap.size]? = some (BH kt g)) := by
          rw [hW1]
          exact ⟨(Below.heap_alloc _ _ _ (Nat.lt_of_lt_of_le hws hb1.size)).trans ((hb1.block _ hws).trans HA0.out), heap_alloc_new _ _⟩
        have hws1 : w.heap.size < W1.heap.size := (Array.getElem?_eq_some_iff.1 HAW.out.1).1
        have hwt1 : w1.heap.size < W1.heap.size := (Array.getElem?_eq_some_iff.1 HAW.out.2).1
        clear hb1 hW a0 a1
        have hbw1 : bb < w1.heap.size := Nat.lt_of_lt_of_le hB HB1.out.size
        obtain ⟨r0, r1, r2, r3, r4, r5, r6, r7⟩ := HX8.out _ HB1.out
        go_wp2_with fail
        rw [← hW1]
        refine (isDir_any yt _).mono ?_
        rintro e w2 ⟨rfl, hw2⟩
        rw [hkd]
        have hb2 : Below W1.heap.size W1 w2 := by rw [hw2]; exact (Below.refl _ _).alloc (Nat.le_refl _) _
        have HB2 : Hid (Below w.heap.size w w2) := HBW.out.trans (hb2.mono HBW.out.size)
        have HA2 : Hid (w2.heap[w.heap.size]? = some (BH kc b) ∧ w2.heap[w1.heap.size]? = some (BH kt g)) := ⟨(hb2.block _ hws1).trans HAW.out.1, (hb2.block _ hwt1).trans HAW.out.2⟩
        clear hw2 hb2 r0 r1 r2 r3 r4 r5 r6 r7 hW1
        obtain ⟨⟨t0, t1⟩, _⟩ := two_of HA2.out.2
        obtain ⟨r0, r1, r2, r3, r4, r5, r6, r7⟩ := HX8.out _ HB2.out
        go_wp2
        (try simp only [Exit.inBlock, Exit.then])
        refine bodyPost_ret (v := .tuple #[.slice none 0 0, .int .i64 406]) (by simp [results, Tryz.results24, go_sem]) rfl ?_
        first
          | exact ⟨_, rfl, [], tab_nil _ _, rfl, HB2.out⟩
          | exact ⟨_, [], rfl, tab_nil _ _, rfl, HB2.out⟩
    · rw [if_neg hk2] at hE
      rw [hE, hTn _ hE (by decide)]
      have hkd : (yt.i.kind == 2) = false := beq_eq_false_iff_ne.2 hk2
      clear hE hTn hM hte hq hx hc8 hgd hfc hft hr hst hxc hgc hkc hff hpl hj hic hlen hyc hyt hxt hgt hkt2 hlk hit hst0 hk2 hkt0
      go_enter Tryz.func24, Tryz.ntmps24
      obtain ⟨⟨a0, a1⟩, _⟩ := two_of HA0.out
      go_wp2_with fail
      rw [← hW]
      refine (toChange_any HCC.out _ L kc b s st _ HV.out HOK.out HSM.out).mono ?_
      rintro e w1 ⟨rfl, hb1⟩
      rw [HTE.out.1, HTE.out.2]
      have HB1 : Hid (Below w.heap.size w w1) := HB0.out.trans (hb1.mono HB0.out.size)
      obtain ⟨W1, hW1⟩ : ∃ W1, W1 = w1.alloc (BH kt g) := ⟨_, rfl⟩
      have HBW : Hid (Below w.heap.size w W1) := by show Below w.heap.size w W1; rw [hW1]; exact HB1.out.alloc HB1.out.size _
      have HAW : Hid (W1.heap[w.heap.size]? = some (BH kc b) ∧ W1.heap[w1.heap.size]? = some (BH kt g)) := by
        rw [hW1]
        exact ⟨(Below.heap_alloc _ _ _ (Nat.lt_of_lt_of_le hws hb1.size)).trans ((hb1.block _ hws).trans HA0.out), heap_alloc_new _ _⟩
      have hws1 : w.heap.size < W1.heap.size := (Array.getElem?_eq_some_iff.1 HAW.out.1).1
      have hwt1 : w1.heap.size < W1.heap.size := (Array.getElem?_eq_some_iff.1 HAW.out.2).1
      clear hb1 hW a0 a1
      have hbw1 : bb < w1.heap.size := Nat.lt_of_lt_of_le hB HB1.out.size
      obtain ⟨r0, r1, r2, r3, r4, r5, r6, r7⟩ := HX8.out _ HB1.out
      go_wp2_with fail
      rw [← hW1]
      refine (isDir_any yt _).mono ?_
      rintro e w2 ⟨rfl, hw2⟩
      rw [hkd]
      have hb2 : Below W1.heap.size W1 w2 := by rw [hw2]; exact (Below.refl _ _).alloc (Nat.le_refl _) _
      have HB2 : Hid (Below w.heap.size w w2) := HBW.out.trans (hb2.mono HBW.out.size)
      have HA2 : Hid (w2.heap[w.heap.size]? = some (BH kc b) ∧ w2.heap[w1.heap.size]? = some (BH kt g)) := ⟨(hb2.block _ hws1).trans HAW.out.1, (hb2.block _ hwt1).trans HAW.out.2⟩
      clear hw2 hb2 r0 r1 r2 r3 r4 r5 r6 r7 hW1
      go_wp2
      (try simp only [Exit.inBlock, Exit.then])
      refine bodyPost_ret (v := .tuple #[.slice none 0 0, .int .i64 404]) (by simp [results, Tryz.results24, go_sem]) rfl ?_
      first
        | exact ⟨_, rfl, [], tab_nil _ _, rfl, HB2.out⟩
        | exact ⟨_, [], rfl, tab_nil _ _, rfl, HB2.out⟩
  · have hE : Sp.rmE C (pl L) a b s st = te := by unfold Sp.rmE; rw [if_neg (by rw [hte]; exact hz), hte]
    have hT : Sp.rmT C (pl L) a b s st = [] := by unfold Sp.rmT; rw [if_neg (by rw [hE]; exact hz)]
    rw [hE, hT]
    have hz' : (te != 0) = true := by simpa using hz
    clear hz hE hT hte hM hx
    go_enter Tryz.func24, Tryz.ntmps24
    obtain ⟨⟨a0, a1⟩, _⟩ := two_of HA0.out
    go_wp2_with fail
    rw [← hW]
    refine (toChange_any HCC.out _ L a b s st _ HV.out HOK.out HSM.out).mono ?_
    rintro e w1 ⟨rfl, hb1⟩
    rw [HTE.out.1, HTE.out.2]
    have HB1 : Hid (Below w.heap.size w w1) := HB0.out.trans (hb1.mono HB0.out.size)
    clear hb1 hW a0 a1
    go_wp2
    (try simp only [Exit.inBlock, Exit.then])
    refine bodyPost_ret (v := .tuple #[.slice none 0 0, .int .i64 te]) (by simp [results, Tryz.results24, go_sem]) rfl ?_
    first
      | exact ⟨_, rfl, [], tab_nil _ _, rfl, HB1.out.alloc HB1.out.size _⟩
      | exact ⟨_, [], rfl, tab_nil _ _, rfl, HB1.out.alloc HB1.out.size _⟩
end Go.Proofs.YtacghcoikekfeaaGreat
