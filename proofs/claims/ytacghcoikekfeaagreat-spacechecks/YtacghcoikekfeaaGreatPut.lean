/-
  itab's Put, at any table.
-/
import Derived.Test.YtacghcoikekfeaaGreatAgain
namespace Go.Proofs.YtacghcoikekfeaaGreat
open Go.ChangeShapes Go.WideShapes Go.ChangeAt Go.RowKit Go.Deep It
set_option maxRecDepth 100000

def PutSaid (w : World) (L : List Ino) (a b : Int) (x : Ino) (e : Ending) (w' : World) : Prop :=
  ∃ u L', e = .returned (.tuple #[u, .int .i64 (putErr L a b x)]) ∧ TabAt (fun b => w.heap.size ≤ b) w' u L' ∧ pl L' = putTab L a b x ∧ Below w.heap.size w w'
theorem put_said {w w' : World} {L : List Ino} {a b : Int} {x : Ino} {e : Ending} {er : Int} (h : putErr L a b x = er) (hz : er ≠ 0) (he : e = .returned (.tuple #[.slice none 0 0, .int .i64 er])) (hb : Below w.heap.size w w') : PutSaid w L a b x e w' := by
  refine ⟨_, [], ?_, tab_nil _ _, ?_, hb⟩
  · rw [he, h]
  · unfold putTab
    rw [h, if_neg hz]
    rfl
set_option maxHeartbeats 4000000 in
set_option maxRecDepth 100000 in
theorem put_any {S T : Nat → Prop} (v : Value) (L : List Rw) (a b : Int) (x : Rw) (w : World) (hv : TabAt S w v L) (hx : Good T w x) :
    Calls Tryz.prog 92 #[v, .agg #[.int .i64 a, .int .i64 b], VI x] w fun e w' => PutSaid w (pl L) a b x.i e w' := by
  replace hx : GoodW w x := hx.imp fun _ _ _ => trivial
  replace hv : TabW w v L := hv.wide
  obtain ⟨W, hW⟩ : ∃ W, W = (w.alloc (BH a b)).alloc (B8 x.i.gen x.i.kind x.i.links x.i.size x.i.stamp (.slice x.rp x.rn x.rc) (.slice x.ep x.en x.ec) x.i.next) := ⟨_, rfl⟩
  have HB0 : Hid (Below w.heap.size w W) := by show Below w.heap.size w W; rw [hW]; exact ((Below.refl _ w).alloc (Nat.le_refl _) _).alloc (by simp) _
  have HA0 : Hid (W.heap[w.heap.size]? = some (BH a b) ∧ W.heap[w.heap.size + 1]? = some (B8 x.i.gen x.i.kind x.i.links x.i.size x.i.stamp (.slice x.rp x.rn x.rc) (.slice x.ep x.en x.ec) x.i.next)) := by
    rw [hW]
    refine ⟨(Below.heap_alloc _ _ _ (by simp)).trans (heap_alloc_new _ _), ?_⟩
    have := heap_alloc_new (w.alloc (BH a b)) (B8 x.i.gen x.i.kind x.i.links x.i.size x.i.stamp (.slice x.rp x.rn x.rc) (.slice x.ep x.en x.ec) x.i.next)
    rwa [show (w.alloc (BH a b)).heap.size = w.heap.size + 1 by simp] at this
  have hws : w.heap.size + 1 < W.heap.size := by rw [hW]; simp
  have HV : Hid (TabW W v L) := hv.up HB0.out
  have HGX : Hid (GoodW W x) := hx.up HB0.out
  obtain ⟨⟨a0, a1⟩, _⟩ := two_of HA0.out.1
  obtain ⟨ao, cap, rfl, _, _⟩ := hv.open
  clear hv hx
  obtain ⟨fe, hfe⟩ : ∃ fe, findErr (pl L) a b = fe := ⟨_, rfl⟩
  have HFE : Hid (findErr (pl L) a b = fe) := hfe
  have HI : Hid (x.i = x.i) := rfl
  obtain ⟨X, hX⟩ : ∃ X, X = x := ⟨_, rfl⟩
  rw [← hX]
  rw [← hX] at HGX
  have hXi : X.i = x.i := by rw [hX]
  obtain ⟨⟨g, k, l, s, t, rs, es, nx⟩, rp, rn, rc, ep, en, ec⟩ := x
  simp only at hW HA0 hXi
  have hVI : VI X = .agg #[.int .i64 g, .int .i64 k, .int .i64 l, .int .i64 s, .int .i64 t, .slice rp rn rc, .slice ep en ec, .int .i64 nx] := by rw [hX]
  have HVI : Hid (VI X = .agg #[.int .i64 g, .int .i64 k, .int .i64 l, .int .i64 s, .int .i64 t, .slice rp rn rc, .slice ep en ec, .int .i64 nx]) := hVI
  rw [hVI]
  have HXI : Hid (X.i.gen = g ∧ X.i.kind = k) := by rw [hXi]; exact ⟨rfl, rfl⟩
  clear hX hXi HI hVI
  by_cases hz : fe = 0
  · rw [hz] at hfe HFE
    subst hz
    obtain ⟨hr, hn⟩ := It.right_of_find hfe
    obtain ⟨no, y, rfl, hyk, hyg, hykd, hkl⟩ := It.named hn
    have HK : Hid (no ≤ L.length ∧ L.length ≤ 24) := ⟨by omega, It.right_len hr⟩
    by_cases hc : g = b ∧ k ≠ 0
    · cases hrp : It.right (put (pl L) no X.i) with
      | true =>
        have HE : Hid (putErr (pl L) no b X.i = 0 ∧ It.checkErr (put (pl L) no X.i) = 0) := by
          refine ⟨?_, by unfold It.checkErr; rw [if_pos hrp]⟩
          unfold putErr
          rw [if_pos hfe, if_pos (by rw [HXI.out.1, HXI.out.2]; exact hc), show ((no : Int)).toNat = no from by omega, if_pos hrp]
        have hg1 : (g != b) = false := by simp [hc.1]
        have hk1 : (k == 0) = false := by simp [hc.2]
        clear hfe hr hn hyk hyg hykd hkl hc hrp
        go_enter Tryz.func92, Tryz.ntmps92
        go_wp2_with fail
        rw [← hW]
        refine (refuse_any _ L no b _ HV.out).mono ?_
        rintro e w1 ⟨rfl, hb1⟩
        rw [HFE.out]
        have HB1 : Hid (Below w.heap.size w w1) := HB0.out.trans (hb1.mono HB0.out.size)
        have HA1 : Hid (w1.heap[w.heap.size]? = some (BH no b) ∧ w1.heap[w.heap.size + 1]? = some (B8 g k l s t (.slice rp rn rc) (.slice ep en ec) nx)) := ⟨(hb1.block _ (by omega)).trans HA0.out.1, (hb1.block _ hws).trans HA0.out.2⟩
        have HV1 : Hid (TabW w1 (.slice ao L.length cap) L) := HV.out.up hb1
        have HG1 : Hid (GoodW w1 X) := HGX.out.up hb1
        obtain ⟨⟨e0, e1⟩, _⟩ := two_of HA1.out.1
        obtain ⟨q0, q1, q2, q3, q4, q5, q6, q7⟩ := (eight_of HA1.out.2).1
        clear hb1 hW a0 a1 HV HGX HA0
        go_wp2_with fail
        rw [← HVI.out]
        refine (with_any _ L no X _ HV1.out HG1.out HK.out.2 HK.out.1).mono ?_
        rintro e w2 ⟨tb, L2, rfl, ht2, hp2, hb2⟩
        have HT2 : Hid (TabAt (fun b => w1.heap.size ≤ b) w2 tb L2 ∧ pl L2 = put (pl L) no X.i) := ⟨ht2, hp2⟩
        have HB2 : Hid (Below w.heap.size w w2) := HB1.out.trans (hb2.mono HB1.out.size)
        clear ht2 hp2 hb2
        go_wp2_with fail
        refine (check_any _ L2 _ HT2.out.1).mono ?_
        rintro e w3 ⟨rfl, hb3⟩
        rw [HT2.out.2, HE.out.2]
        have HT3 : Hid (TabAt (fun b => w.heap.size ≤ b) w3 tb L2) := (HT2.out.1.up hb3).more HB1.out.size
        have HB3 : Hid (Below w.heap.size w w3) := HB2.out.trans (hb3.mono HB2.out.size)
        clear hb3
        go_wp2
        go_ret2
        refine ⟨tb, L2, by rw [HE.out.1]; rfl, HT3.out, ?_, HB3.out⟩
        unfold putTab
        rw [if_pos HE.out.1, show ((no : Int)).toNat = no from by omega]
        exact HT2.out.2
      | false =>
        have HE : Hid (putErr (pl L) no b X.i = 4 ∧ It.checkErr (put (pl L) no X.i) = 4) := by
          refine ⟨?_, by unfold It.checkErr; rw [hrp]; rfl⟩
          unfold putErr
          rw [if_pos hfe, if_pos (by rw [HXI.out.1, HXI.out.2]; exact hc), show ((no : Int)).toNat = no from by omega, hrp]
          rfl
        have hg1 : (g != b) = false := by simp [hc.1]
        have hk1 : (k == 0) = false := by simp [hc.2]
        clear hfe hr hn hyk hyg hykd hkl hc hrp
        go_enter Tryz.func92, Tryz.ntmps92
        go_wp2_with fail
        rw [← hW]
        refine (refuse_any _ L no b _ HV.out).mono ?_
        rintro e w1 ⟨rfl, hb1⟩
        rw [HFE.out]
        have HB1 : Hid (Below w.heap.size w w1) := HB0.out.trans (hb1.mono HB0.out.size)
        have HA1 : Hid (w1.heap[w.heap.size]? = some (BH no b) ∧ w1.heap[w.heap.size + 1]? = some (B8 g k l s t (.slice rp rn rc) (.slice ep en ec) nx)) := ⟨(hb1.block _ (by omega)).trans HA0.out.1, (hb1.block _ hws).trans HA0.out.2⟩
        have HV1 : Hid (TabW w1 (.slice ao L.length cap) L) := HV.out.up hb1
        have HG1 : Hid (GoodW w1 X) := HGX.out.up hb1
        obtain ⟨⟨e0, e1⟩, _⟩ := two_of HA1.out.1
        obtain ⟨q0, q1, q2, q3, q4, q5, q6, q7⟩ := (eight_of HA1.out.2).1
        clear hb1 hW a0 a1 HV HGX HA0
        go_wp2_with fail
        rw [← HVI.out]
        refine (with_any _ L no X _ HV1.out HG1.out HK.out.2 HK.out.1).mono ?_
        rintro e w2 ⟨tb, L2, rfl, ht2, hp2, hb2⟩
        have HT2 : Hid (TabAt (fun b => w1.heap.size ≤ b) w2 tb L2 ∧ pl L2 = put (pl L) no X.i) := ⟨ht2, hp2⟩
        have HB2 : Hid (Below w.heap.size w w2) := HB1.out.trans (hb2.mono HB1.out.size)
        clear ht2 hp2 hb2
        go_wp2_with fail
        refine (check_any _ L2 _ HT2.out.1).mono ?_
        rintro e w3 ⟨rfl, hb3⟩
        rw [HT2.out.2, HE.out.2]
        have HB3 : Hid (Below w.heap.size w w3) := HB2.out.trans (hb3.mono HB2.out.size)
        clear hb3
        go_wp2
        go_ret2
        exact put_said HE.out.1 (by decide) rfl HB3.out
    · have HE : Hid (putErr (pl L) no b X.i = 1) := by
        show putErr (pl L) no b X.i = 1
        unfold putErr
        rw [if_pos hfe, if_neg (by rw [HXI.out.1, HXI.out.2]; exact hc)]
      have hor : (g != b) = true ∨ ((g != b) = false ∧ (k == 0) = true) := by
        by_cases hgb : g = b
        · refine .inr ⟨by simp [hgb], ?_⟩
          by_cases hk0 : k = 0
          · simp [hk0]
          · exact absurd ⟨hgb, hk0⟩ hc
        · exact .inl (by simp [hgb])
      clear hfe hr hn hyk hyg hykd hkl hc
      rcases hor with hg1 | ⟨hg1, hk1⟩
      all_goals
        go_enter Tryz.func92, Tryz.ntmps92
        go_wp2_with fail
        rw [← hW]
        refine (refuse_any _ L no b _ HV.out).mono ?_
        rintro e w1 ⟨rfl, hb1⟩
        rw [HFE.out]
        have HB1 : Hid (Below w.heap.size w w1) := HB0.out.trans (hb1.mono HB0.out.size)
        have HA1 : Hid (w1.heap[w.heap.size]? = some (BH no b) ∧ w1.heap[w.heap.size + 1]? = some (B8 g k l s t (.slice rp rn rc) (.slice ep en ec) nx)) := ⟨(hb1.block _ (by omega)).trans HA0.out.1, (hb1.block _ hws).trans HA0.out.2⟩
        obtain ⟨⟨e0, e1⟩, _⟩ := two_of HA1.out.1
        obtain ⟨q0, q1, q2, q3, q4, q5, q6, q7⟩ := (eight_of HA1.out.2).1
        clear hb1 hW a0 a1 HV HGX HA0
        go_wp2
        go_ret2
        exact put_said HE.out (by decide) rfl HB1.out
  · have HE : Hid (putErr (pl L) a b X.i = fe) := by
      show putErr (pl L) a b X.i = fe
      unfold putErr
      rw [hfe, if_neg hz]
    have HZ : Hid (fe ≠ 0) := hz
    have hz' : (fe == 0) = false := by simp [hz]
    clear hz hfe
    go_enter Tryz.func92, Tryz.ntmps92
    go_wp2_with fail
    rw [← hW]
    refine (refuse_any _ L a b _ HV.out).mono ?_
    rintro e w1 ⟨rfl, hb1⟩
    rw [HFE.out]
    have HB1 : Hid (Below w.heap.size w w1) := HB0.out.trans (hb1.mono HB0.out.size)
    clear hb1 hW a0 a1
    go_wp2
    go_ret2
    exact put_said HE.out HZ.out rfl HB1.out
end Go.Proofs.YtacghcoikekfeaaGreat
