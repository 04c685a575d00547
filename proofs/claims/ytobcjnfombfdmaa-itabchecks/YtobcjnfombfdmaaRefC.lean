/-
  The document's answer for tables: New, Drop, Put.
-/
import Derived.Test.YtobcjnfombfdmaaRefB
import Derived.Test.YtobcjnfombfdmaaPut
namespace Go.Proofs.Ytobcjnfombfdmaa
open Go.ChangeShapes Go.WideShapes Go.ChangeAt Go.RowKit Go.Deep It

set_option maxHeartbeats 1000000 in
theorem rnew_any (w : World) : Calls Try.prog 16 #[] w fun e w' => ∃ u L, e = .returned u ∧ TabW w' u L ∧ pl L = It.new ∧ Below w.heap.size w w' := by
  go_enter Try.func16, Try.ntmps16
  go_wp2
  go_ret
  refine ⟨_, [It.bare (fresh 1 2 0)], rfl, ⟨one_tab _ _ _ _ trivial ?_, fun x hx => ?_⟩, rfl, (Below.refl _ w).alloc (Nat.le_refl _) _⟩
  · exact heap_alloc_new w _
  · simp at hx
    subst hx
    exact good_bare _ _ rfl rfl
def RDropSaid (w : World) (L : List Ino) (a b : Int) (e : Ending) (w' : World) : Prop :=
  ∃ u L', e = .returned (.tuple #[u, .int .i64 (dropErr L a b)]) ∧ TabW w' u L' ∧ pl L' = dropTab L a b ∧ Below w.heap.size w w'
theorem rdrop_said {w w' : World} {L : List Ino} {a b : Int} {e : Ending} {er : Int} (h : dropErr L a b = er) (hz : er ≠ 0) (he : e = .returned (.tuple #[.slice none 0 0, .int .i64 er])) (hb : Below w.heap.size w w') : RDropSaid w L a b e w' := by
  refine ⟨_, [], by rw [he, h], tab_nil _ _, ?_, hb⟩
  unfold dropTab
  rw [h, if_neg hz]
  rfl
set_option maxHeartbeats 2000000 in
theorem rdrop_any {S : Nat → Prop} (v : Value) (L : List Rw) (a b : Int) (w : World) (hv : TabAt S w v L) :
    Calls Try.prog 25 #[v, .agg #[.int .i64 a, .int .i64 b]] w fun e w' => RDropSaid w (pl L) a b e w' := by
  replace hv : TabW w v L := hv.wide
  obtain ⟨W, hW⟩ : ∃ W, W = w.alloc (BH a b) := ⟨_, rfl⟩
  have HB0 : Hid (Below w.heap.size w W) := by show Below w.heap.size w W; rw [hW]; exact (Below.refl _ w).alloc (Nat.le_refl _) _
  have HA0 : Hid (W.heap[w.heap.size]? = some (BH a b)) := by show W.heap[w.heap.size]? = _; rw [hW]; exact heap_alloc_new _ _
  have hws : w.heap.size < W.heap.size := by rw [hW]; simp
  have HV : Hid (TabW W v L) := hv.up HB0.out
  obtain ⟨ao, cap, rfl, _, _⟩ := hv.open
  clear hv
  cases hr : It.right (pl L) with
  | false =>
    have HE : Hid (dropErr (pl L) a b = 4) := by
      have h1 : findErr (pl L) a b = 4 := by unfold findErr; rw [hr]; rfl
      show dropErr (pl L) a b = 4
      unfold dropErr
      rw [h1]
      rfl
    have HR : Hid (It.right (pl L) = false) := hr
    clear hr
    go_enter Try.func25, Try.ntmps25
    go_wp2_with fail
    rw [← hW]
    refine (rright_any _ L _ HV.out).mono ?_
    rintro e w1 ⟨rfl, hb1⟩
    rw [HR.out]
    have HB1 : Hid (Below w.heap.size w w1) := HB0.out.trans (hb1.mono HB0.out.size)
    clear hb1 hW
    go_wp2
    go_ret2
    exact rdrop_said HE.out (by decide) rfl HB1.out
  | true =>
    have HR : Hid (It.right (pl L) = true) := hr
    cases hn : names (pl L) a b with
    | false =>
      have HE : Hid (dropErr (pl L) a b = 401) := by
        have h1 : findErr (pl L) a b = 401 := by unfold findErr; rw [if_pos hr, hn]; rfl
        show dropErr (pl L) a b = 401
        unfold dropErr
        rw [h1]
        rfl
      have HNM : Hid (names (pl L) a b = false) := hn
      clear hr hn
      go_enter Try.func25, Try.ntmps25
      go_wp2_with fail
      rw [← hW]
      refine (rright_any _ L _ HV.out).mono ?_
      rintro e w1 ⟨rfl, hb1⟩
      rw [HR.out]
      have HB1 : Hid (Below w.heap.size w w1) := HB0.out.trans (hb1.mono HB0.out.size)
      have HA1 : Hid (w1.heap[w.heap.size]? = some (BH a b)) := (hb1.block _ hws).trans HA0.out
      have HV1 : Hid (TabW w1 (.slice ao L.length cap) L) := HV.out.up hb1
      obtain ⟨⟨e0, e1⟩, _⟩ := two_of HA1.out
      clear hb1 hW
      go_wp2_with fail
      refine (rnames_any _ L a b _ HV1.out).mono ?_
      rintro e w2 ⟨rfl, hb2⟩
      rw [HNM.out]
      have HB2 : Hid (Below w.heap.size w w2) := HB1.out.trans (hb2.mono HB1.out.size)
      clear hb2
      go_wp2
      go_ret2
      exact rdrop_said HE.out (by decide) rfl HB2.out
    | true =>
      obtain ⟨k, x, rfl, hxk, hg, hk, hkl⟩ := It.named hn
      have hf : findErr (pl L) k b = 0 := by unfold findErr; rw [if_pos hr, if_pos hn]
      have HNM : Hid (names (pl L) k b = true) := hn
      have HK : Hid (k ≤ L.length ∧ L.length ≤ 24) := ⟨by omega, It.right_len hr⟩
      by_cases h0 : k = 0
      · have HE : Hid (dropErr (pl L) k b = 1) := by
          show dropErr (pl L) k b = 1
          unfold dropErr
          rw [if_pos hf, if_pos (by omega)]
        have hk0 : ((k : Int) == 0) = true := by simp [h0]
        clear hr hn hxk hg hk hkl hf h0
        go_enter Try.func25, Try.ntmps25
        go_wp2_with fail
        rw [← hW]
        refine (rright_any _ L _ HV.out).mono ?_
        rintro e w1 ⟨rfl, hb1⟩
        rw [HR.out]
        have HB1 : Hid (Below w.heap.size w w1) := HB0.out.trans (hb1.mono HB0.out.size)
        have HA1 : Hid (w1.heap[w.heap.size]? = some (BH k b)) := (hb1.block _ hws).trans HA0.out
        have HV1 : Hid (TabW w1 (.slice ao L.length cap) L) := HV.out.up hb1
        obtain ⟨⟨e0, e1⟩, _⟩ := two_of HA1.out
        have hws1 : w.heap.size < w1.heap.size := by have := hb1.size; omega
        clear hb1 hW
        go_wp2_with fail
        refine (rnames_any _ L k b _ HV1.out).mono ?_
        rintro e w2 ⟨rfl, hb2⟩
        rw [HNM.out]
        have HB2 : Hid (Below w.heap.size w w2) := HB1.out.trans (hb2.mono HB1.out.size)
        have HA2 : Hid (w2.heap[w.heap.size]? = some (BH k b)) := (hb2.block _ hws1).trans HA1.out
        clear e0 e1
        obtain ⟨⟨e0, e1⟩, _⟩ := two_of HA2.out
        clear hb2
        go_wp2
        go_ret2
        exact rdrop_said HE.out (by decide) rfl HB2.out
      · have HE : Hid (dropErr (pl L) k b = 0 ∧ dropTab (pl L) k b = put (pl L) k (gone b)) := by
          have h1 : dropErr (pl L) k b = 0 := by unfold dropErr; rw [if_pos hf, if_neg (by omega)]
          refine ⟨h1, ?_⟩
          unfold dropTab
          rw [if_pos h1]
          rfl
        have hk0 : ((k : Int) == 0) = false := by simp [h0]
        clear hr hn hxk hg hk hkl hf h0
        go_enter Try.func25, Try.ntmps25
        go_wp2_with fail
        rw [← hW]
        refine (rright_any _ L _ HV.out).mono ?_
        rintro e w1 ⟨rfl, hb1⟩
        rw [HR.out]
        have HB1 : Hid (Below w.heap.size w w1) := HB0.out.trans (hb1.mono HB0.out.size)
        have HA1 : Hid (w1.heap[w.heap.size]? = some (BH k b)) := (hb1.block _ hws).trans HA0.out
        have HV1 : Hid (TabW w1 (.slice ao L.length cap) L) := HV.out.up hb1
        obtain ⟨⟨e0, e1⟩, _⟩ := two_of HA1.out
        have hws1 : w.heap.size < w1.heap.size := by have := hb1.size; omega
        clear hb1 hW
        go_wp2_with fail
        refine (rnames_any _ L k b _ HV1.out).mono ?_
        rintro e w2 ⟨rfl, hb2⟩
        rw [HNM.out]
        have HB2 : Hid (Below w.heap.size w w2) := HB1.out.trans (hb2.mono HB1.out.size)
        have HA2 : Hid (w2.heap[w.heap.size]? = some (BH k b)) := (hb2.block _ hws1).trans HA1.out
        have HV2 : Hid (TabW w2 (.slice ao L.length cap) L) := HV1.out.up hb2
        clear e0 e1
        obtain ⟨⟨e0, e1⟩, _⟩ := two_of HA2.out
        clear hb2
        go_wp2_with fail
        refine (rwith_any _ L k (It.bare (gone b)) _ HV2.out (good_bare (fun _ => True) _ rfl rfl) HK.out.2 HK.out.1).mono ?_
        rintro e w3 ⟨tb, L', rfl, ht, hpl, hb3⟩
        have HD : Hid (TabW w3 tb L' ∧ pl L' = put (pl L) k (gone b) ∧ Below w.heap.size w w3) := ⟨ht.wide, hpl, HB2.out.trans (hb3.mono HB2.out.size)⟩
        clear ht hpl hb3
        go_wp2
        go_ret2
        exact ⟨tb, L', by rw [HE.out.1]; rfl, HD.out.1, by rw [HE.out.2]; exact HD.out.2.1, HD.out.2.2⟩

def RPutSaid (w : World) (L : List Ino) (a b : Int) (x : Ino) (e : Ending) (w' : World) : Prop :=
  ∃ u L', e = .returned (.tuple #[u, .int .i64 (putErr L a b x)]) ∧ TabW w' u L' ∧ pl L' = putTab L a b x ∧ Below w.heap.size w w'
theorem rput_said {w w' : World} {L : List Ino} {a b : Int} {x : Ino} {e : Ending} {er : Int} (h : putErr L a b x = er) (hz : er ≠ 0) (he : e = .returned (.tuple #[.slice none 0 0, .int .i64 er])) (hb : Below w.heap.size w w') : RPutSaid w L a b x e w' := by
  refine ⟨_, [], by rw [he, h], tab_nil _ _, ?_, hb⟩
  unfold putTab
  rw [h, if_neg hz]
  rfl
set_option maxHeartbeats 4000000 in
set_option maxRecDepth 100000 in
theorem rput_any {S T : Nat → Prop} (v : Value) (L : List Rw) (a b : Int) (x : Rw) (w : World) (hv : TabAt S w v L) (hx : Good T w x) :
    Calls Try.prog 23 #[v, .agg #[.int .i64 a, .int .i64 b], VI x] w fun e w' => RPutSaid w (pl L) a b x.i e w' := by
  replace hx : GoodW w x := hx.imp fun _ _ _ => trivial
  replace hv : TabW w v L := hv.wide
  obtain ⟨W, hW⟩ : ∃ W, W = (w.alloc (BH a b)).alloc (B8 x.i.gen x.i.kind x.i.links x.i.size x.i.stamp (.slice x.rp x.rn x.rc) (.slice x.ep x.en x.ec) x.i.next) := ⟨_, rfl⟩
  have HB0 : Hid (Below w.heap.size w W) := by show Below w.heap.size w W; rw [hW]; exact ((Below.refl _ w).alloc (Nat.le_refl _) _).alloc (by simp) _
  have HA0 : Hid (W.heap[w.heap.size]? = some (BH a b) ∧ W.heap[w.heap.size + 1]? = some (B8 x.i.gen x.i.kind x.i.links x.i.size x.i.stamp (.slice x.rp x.rn x.rc) (.slice x.ep x.en x.ec) x.i.next)) := by
    rw [hW]
    refine ⟨(Below.heap_alloc _ _ _ (by simp)).trans (heap_alloc_new _ _), ?_⟩
    have := heap_alloc_new (w.alloc (BH a b)) (B8 x.i.gen x.i.kind x.i.links x.i.size x.i.stamp (.slice x.rp x.rn x.rc) (.slice x.ep x.en x.ec) x.i.next)
    rwa [show (w.alloc (BH a b)).heap.size = w.heap.size + 1 by simp] at this
  have hws : w.heap.size + 1 < W.heap.size := by rw [hW]; simp
  have HV : Hid (TabW W v L) := hv.up HB0.out
  have HGX : Hid (GoodW W x) := hx.up HB0.out
  obtain ⟨ao, cap, rfl, _, _⟩ := hv.open
  clear hv hx
  obtain ⟨X, hX⟩ : ∃ X, X = x := ⟨_, rfl⟩
  rw [← hX]
  rw [← hX] at HGX
  have hXi : X.i = x.i := by rw [hX]
  obtain ⟨⟨g, k, l, s, t, rs, es, nx⟩, rp, rn, rc, ep, en, ec⟩ := x
  simp only at hW HA0 hXi
  have HVI : Hid (VI X = .agg #[.int .i64 g, .int .i64 k, .int .i64 l, .int .i64 s, .int .i64 t, .slice rp rn rc, .slice ep en ec, .int .i64 nx]) := by show VI X = _; rw [hX]
  rw [HVI.out]
  have HXI : Hid (X.i.gen = g ∧ X.i.kind = k) := by rw [hXi]; exact ⟨rfl, rfl⟩
  clear hX hXi
  cases hr : It.right (pl L) with
  | false =>
    have HE : Hid (putErr (pl L) a b X.i = 4) := by
      have h1 : findErr (pl L) a b = 4 := by unfold findErr; rw [hr]; rfl
      show putErr (pl L) a b X.i = 4
      unfold putErr
      rw [h1]
      rfl
    have HR : Hid (It.right (pl L) = false) := hr
    clear hr
    go_enter Try.func23, Try.ntmps23
    go_wp2_with fail
    rw [← hW]
    refine (rright_any _ L _ HV.out).mono ?_
    rintro e w1 ⟨rfl, hb1⟩
    rw [HR.out]
    have HB1 : Hid (Below w.heap.size w w1) := HB0.out.trans (hb1.mono HB0.out.size)
    clear hb1 hW
    go_wp2
    go_ret2
    exact rput_said HE.out (by decide) rfl HB1.out
  | true =>
    have HR : Hid (It.right (pl L) = true) := hr
    cases hn : names (pl L) a b with
    | false =>
      have HE : Hid (putErr (pl L) a b X.i = 401) := by
        have h1 : findErr (pl L) a b = 401 := by unfold findErr; rw [if_pos hr, hn]; rfl
        show putErr (pl L) a b X.i = 401
        unfold putErr
        rw [h1]
        rfl
      have HNM : Hid (names (pl L) a b = false) := hn
      clear hr hn
      go_enter Try.func23, Try.ntmps23
      go_wp2_with fail
      rw [← hW]
      refine (rright_any _ L _ HV.out).mono ?_
      rintro e w1 ⟨rfl, hb1⟩
      rw [HR.out]
      have HB1 : Hid (Below w.heap.size w w1) := HB0.out.trans (hb1.mono HB0.out.size)
      have HA1 : Hid (w1.heap[w.heap.size]? = some (BH a b)) := (hb1.block _ (by omega)).trans HA0.out.1
      have HV1 : Hid (TabW w1 (.slice ao L.length cap) L) := HV.out.up hb1
      obtain ⟨⟨e0, e1⟩, _⟩ := two_of HA1.out
      clear hb1 hW
      go_wp2_with fail
      refine (rnames_any _ L a b _ HV1.out).mono ?_
      rintro e w2 ⟨rfl, hb2⟩
      rw [HNM.out]
      have HB2 : Hid (Below w.heap.size w w2) := HB1.out.trans (hb2.mono HB1.out.size)
      clear hb2
      go_wp2
      go_ret2
      exact rput_said HE.out (by decide) rfl HB2.out
    | true =>
      obtain ⟨no, y, rfl, hxk, hyg, hyk, hkl⟩ := It.named hn
      have hf : findErr (pl L) no b = 0 := by unfold findErr; rw [if_pos hr, if_pos hn]
      have HNM : Hid (names (pl L) no b = true) := hn
      have HK : Hid (no ≤ L.length ∧ L.length ≤ 24) := ⟨by omega, It.right_len hr⟩
      have HF : Hid (findErr (pl L) no b = 0) := hf
      clear hr hn hxk hyg hyk hkl hf
      by_cases hc : g = b ∧ k ≠ 0
      · obtain ⟨rp2, hrp⟩ : ∃ r2, It.right (put (pl L) no X.i) = r2 := ⟨_, rfl⟩
        have HRP : Hid (It.right (put (pl L) no X.i) = rp2) := hrp
        have HPE : Hid (putErr (pl L) no b X.i = if rp2 = true then 0 else 4) := by
          show putErr (pl L) no b X.i = _
          unfold putErr
          rw [if_pos HF.out, if_pos (by rw [HXI.out.1, HXI.out.2]; exact hc), show ((no : Int)).toNat = no from by omega, hrp]
        have hg1 : (g != b) = false := by simp [hc.1]
        have hk1 : (k == 0) = false := by simp [hc.2]
        clear hc hrp
        go_enter Try.func23, Try.ntmps23
        go_wp2_with fail
        rw [← hW]
        refine (rright_any _ L _ HV.out).mono ?_
        rintro e w1 ⟨rfl, hb1⟩
        rw [HR.out]
        have HB1 : Hid (Below w.heap.size w w1) := HB0.out.trans (hb1.mono HB0.out.size)
        have HA1 : Hid (w1.heap[w.heap.size]? = some (BH no b) ∧ w1.heap[w.heap.size + 1]? = some (B8 g k l s t (.slice rp rn rc) (.slice ep en ec) nx)) := ⟨(hb1.block _ (by omega)).trans HA0.out.1, (hb1.block _ hws).trans HA0.out.2⟩
        have HV1 : Hid (TabW w1 (.slice ao L.length cap) L) := HV.out.up hb1
        have HG1 : Hid (GoodW w1 X) := HGX.out.up hb1
        have hws1 : w.heap.size + 1 < w1.heap.size := by have := hb1.size; omega
        obtain ⟨⟨e0, e1⟩, _⟩ := two_of HA1.out.1
        clear hb1 hW
        go_wp2_with fail
        refine (rnames_any _ L no b _ HV1.out).mono ?_
        rintro e w2 ⟨rfl, hb2⟩
        rw [HNM.out]
        have HB2 : Hid (Below w.heap.size w w2) := HB1.out.trans (hb2.mono HB1.out.size)
        have HA2 : Hid (w2.heap[w.heap.size]? = some (BH no b) ∧ w2.heap[w.heap.size + 1]? = some (B8 g k l s t (.slice rp rn rc) (.slice ep en ec) nx)) := ⟨(hb2.block _ (by omega)).trans HA1.out.1, (hb2.block _ hws1).trans HA1.out.2⟩
        have HV2 : Hid (TabW w2 (.slice ao L.length cap) L) := HV1.out.up hb2
        have HG2 : Hid (GoodW w2 X) := HG1.out.up hb2
        clear e0 e1
        obtain ⟨⟨e0, e1⟩, _⟩ := two_of HA2.out.1
        obtain ⟨q0, q1, q2, q3, q4, q5, q6, q7⟩ := (eight_of HA2.out.2).1
        clear hb2
        go_wp2_with fail
        rw [← HVI.out]
        refine (rwith_any _ L no X _ HV2.out HG2.out HK.out.2 HK.out.1).mono ?_
        rintro e w3 ⟨tb, L2, rfl, ht3, hp3, hb3⟩
        have HT3 : Hid (TabW w3 tb L2 ∧ pl L2 = put (pl L) no X.i) := ⟨ht3.wide, hp3⟩
        have HB3 : Hid (Below w.heap.size w w3) := HB2.out.trans (hb3.mono HB2.out.size)
        clear ht3 hp3 hb3
        go_wp2_with fail
        refine (rright_any _ L2 _ HT3.out.1).mono ?_
        rintro e w4 ⟨rfl, hb4⟩
        rw [HT3.out.2, HRP.out]
        have HT4 : Hid (TabW w4 tb L2) := HT3.out.1.up hb4
        have HB4 : Hid (Below w.heap.size w w4) := HB3.out.trans (hb4.mono HB3.out.size)
        clear hb4
        cases rp2 with
        | true =>
          go_wp2
          go_ret2
          refine ⟨tb, L2, by rw [HPE.out]; rfl, HT4.out, ?_, HB4.out⟩
          have h0 : putErr (pl L) no b X.i = 0 := by rw [HPE.out]; rfl
          unfold putTab
          rw [if_pos h0, show ((no : Int)).toNat = no from by omega]
          exact HT3.out.2
        | false =>
          go_wp2
          go_ret2
          exact rput_said (by rw [HPE.out]; rfl) (by decide) rfl HB4.out
      · have HE : Hid (putErr (pl L) no b X.i = 1) := by
          show putErr (pl L) no b X.i = 1
          unfold putErr
          rw [if_pos HF.out, if_neg (by rw [HXI.out.1, HXI.out.2]; exact hc)]
        have hor : (g != b) = true ∨ ((g != b) = false ∧ (k == 0) = true) := by
          by_cases hgb : g = b
          · refine .inr ⟨by simp [hgb], ?_⟩
            by_cases hk0 : k = 0
            · simp [hk0]
            · exact absurd ⟨hgb, hk0⟩ hc
          · exact .inl (by simp [hgb])
        clear hc
        rcases hor with hg1 | ⟨hg1, hk1⟩
        all_goals
          go_enter Try.func23, Try.ntmps23
          go_wp2_with fail
          rw [← hW]
          refine (rright_any _ L _ HV.out).mono ?_
          rintro e w1 ⟨rfl, hb1⟩
          rw [HR.out]
          have HB1 : Hid (Below w.heap.size w w1) := HB0.out.trans (hb1.mono HB0.out.size)
          have HA1 : Hid (w1.heap[w.heap.size]? = some (BH no b) ∧ w1.heap[w.heap.size + 1]? = some (B8 g k l s t (.slice rp rn rc) (.slice ep en ec) nx)) := ⟨(hb1.block _ (by omega)).trans HA0.out.1, (hb1.block _ hws).trans HA0.out.2⟩
          have HV1 : Hid (TabW w1 (.slice ao L.length cap) L) := HV.out.up hb1
          have hws1 : w.heap.size + 1 < w1.heap.size := by have := hb1.size; omega
          obtain ⟨⟨e0, e1⟩, _⟩ := two_of HA1.out.1
          clear hb1 hW
          go_wp2_with fail
          refine (rnames_any _ L no b _ HV1.out).mono ?_
          rintro e w2 ⟨rfl, hb2⟩
          rw [HNM.out]
          have HB2 : Hid (Below w.heap.size w w2) := HB1.out.trans (hb2.mono HB1.out.size)
          have HA2 : Hid (w2.heap[w.heap.size]? = some (BH no b) ∧ w2.heap[w.heap.size + 1]? = some (B8 g k l s t (.slice rp rn rc) (.slice ep en ec) nx)) := ⟨(hb2.block _ (by omega)).trans HA1.out.1, (hb2.block _ hws1).trans HA1.out.2⟩
          clear e0 e1
          obtain ⟨⟨e0, e1⟩, _⟩ := two_of HA2.out.1
          obtain ⟨q0, q1, q2, q3, q4, q5, q6, q7⟩ := (eight_of HA2.out.2).1
          clear hb2
          go_wp2
          go_ret2
          exact rput_said HE.out (by decide) rfl HB2.out
end Go.Proofs.Ytobcjnfombfdmaa
