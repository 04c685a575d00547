/-
  The texts Put, Sp4, Sp5, Sp6, Sp7, Sp8, Sp9, Sp10, Sp11, Sp12, Sp13, as one.
-/
import Derived.Deep.RegionHeld3
import Derived.Test.YtacghcoikekfeaaM4
/- Put -/
namespace Go.Proofs.Ytacghcoikekfeaa
open Go.ChangeShapes Go.WideShapes Go.ChangeAt Go.RowKit Go.Deep It
set_option maxRecDepth 100000

def PutSaid (w : World) (L : List Ino) (a b : Int) (x : Ino) (e : Ending) (w' : World) : Prop :=
  ∃ u L', e = .returned (.tuple #[u, .int .i64 (putErr L a b x)]) ∧ TabAt (fun b => w.heap.size ≤ b) w' u L' ∧ pl L' = putTab L a b x ∧ Below w.heap.size w w'
theorem put_said {w w' : World} {L : List Ino} {a b : Int} {x : Ino} {e : Ending} {er : Int} (h : putErr L a b x = er) (hz : er ≠ 0) (he : e = .returned (.tuple #[.slice none 0 0, .int .i64 er])) (hb : Below w.heap.size w w') : PutSaid w L a b x e w' := by
  refine ⟨_, [], ?_, tab_nil _ _, ?_, hb⟩
  · rw [he, h]
  · unfold putTab
    rw [h, if_neg hz]
    rfl
set_option maxHeartbeats 4000000 in
set_option maxRecDepth 100000 in
theorem put_any {S T : Nat → Prop} (v : Value) (L : List Rw) (a b : Int) (x : Rw) (w : World) (hv : TabAt S w v L) (hx : Good T w x) :
    Calls Try.prog 56 #[v, .agg #[.int .i64 a, .int .i64 b], VI x] w fun e w' => PutSaid w (pl L) a b x.i e w' := by
  replace hx : GoodW w x := hx.imp fun _ _ _ => trivial
  replace hv : TabW w v L := hv.wide
  obtain ⟨W, hW⟩ : ∃ W, W = (w.alloc (BH a b)).alloc (B8 x.i.gen x.i.kind x.i.links x.i.size x.i.stamp (.slice x.rp x.rn x.rc) (.slice x.ep x.en x.ec) x.i.next) := ⟨_, rfl⟩
  have HB0 : Hid (Below w.heap.size w W) := by show Below w.heap.size w W; rw [hW]; exact ((Below.refl _ w).alloc (Nat.le_refl _) _).alloc (by simp) _
  have HA0 : Hid (W.heap[w.heap.size]? = some (BH a b) ∧ W.heap[w.heap.size + 1]? = some (B8 x.i.gen x.i.kind x.i.links x.i.size x.i.stamp (.slice x.rp x.rn x.rc) (.slice x.ep x.en x.ec) x.i.next)) := by
    rw [hW]
    refine ⟨(Below.heap_alloc _ _ _ (by simp)).trans (heap_alloc_new _ _), ?_⟩
    have := heap_alloc_new (w.alloc (BH a b)) (B8 x.i.gen x.i.kind x.i.links x.i.size x.i.stamp (.slice x.rp x.rn x.rc) (.slice x.ep x.en x.ec) x.i.next)
    rwa [show (w.alloc (BH a b)).heap.size = w.heap.size + 1 by simp] at this
  have hws : w.heap.size + 1 < W.heap.size := by rw [hW]; simp
  have HV : Hid (TabW W v L) := hv.up HB0.out
  have HGX : Hid (GoodW W x) := hx.up HB0.out
  obtain ⟨⟨a0, a1⟩, _⟩ := two_of HA0.out.1
  obtain ⟨ao, cap, rfl, _, _⟩ := hv.open
  clear hv hx
  obtain ⟨fe, hfe⟩ : ∃ fe, findErr (pl L) a b = fe := ⟨_, rfl⟩
  have HFE : Hid (findErr (pl L) a b = fe) := hfe
  have HI : Hid (x.i = x.i) := rfl
  obtain ⟨X, hX⟩ : ∃ X, X = x := ⟨_, rfl⟩
  rw [← hX]
  rw [← hX] at HGX
  have hXi : X.i = x.i := by rw [hX]
  obtain ⟨⟨g, k, l, s, t, rs, es, nx⟩, rp, rn, rc, ep, en, ec⟩ := x
  simp only at hW HA0 hXi
  have hVI : VI X = .agg #[.int .i64 g, .int .i64 k, .int .i64 l, .int .i64 s, .int .i64 t, .slice rp rn rc, .slice ep en ec, .int .i64 nx] := by rw [hX]
  have HVI : Hid (VI X = .agg #[.int .i64 g, .int .i64 k, .int .i64 l, .int .i64 s, .int .i64 t, .slice rp rn rc, .slice ep en ec, .int .i64 nx]) := hVI
  rw [hVI]
  have HXI : Hid (X.i.gen = g ∧ X.i.kind = k) := by rw [hXi]; exact ⟨rfl, rfl⟩
  clear hX hXi HI hVI
  by_cases hz : fe = 0
  · rw [hz] at hfe HFE
    subst hz
    obtain ⟨hr, hn⟩ := It.right_of_find hfe
    obtain ⟨no, y, rfl, hyk, hyg, hykd, hkl⟩ := It.named hn
    have HK : Hid (no ≤ L.length ∧ L.length ≤ 24) := ⟨by omega, It.right_len hr⟩
    by_cases hc : g = b ∧ k ≠ 0
    · cases hrp : It.right (put (pl L) no X.i) with
      | true =>
        have HE : Hid (putErr (pl L) no b X.i = 0 ∧ It.checkErr (put (pl L) no X.i) = 0) := by
          refine ⟨?_, by unfold It.checkErr; rw [if_pos hrp]⟩
          unfold putErr
          rw [if_pos hfe, if_pos (by rw [HXI.out.1, HXI.out.2]; exact hc), show ((no : Int)).toNat = no from by omega, if_pos hrp]
        have hg1 : (g != b) = false := by simp [hc.1]
        have hk1 : (k == 0) = false := by simp [hc.2]
        clear hfe hr hn hyk hyg hykd hkl hc hrp
        go_enter Try.func56, Try.ntmps56
        go_wp2_with fail
        rw [← hW]
        refine (refuse_any _ L no b _ HV.out).mono ?_
        rintro e w1 ⟨rfl, hb1⟩
        rw [HFE.out]
        have HB1 : Hid (Below w.heap.size w w1) := HB0.out.trans (hb1.mono HB0.out.size)
        have HA1 : Hid (w1.heap[w.heap.size]? = some (BH no b) ∧ w1.heap[w.heap.size + 1]? = some (B8 g k l s t (.slice rp rn rc) (.slice ep en ec) nx)) := ⟨(hb1.block _ (by omega)).trans HA0.out.1, (hb1.block _ hws).trans HA0.out.2⟩
        have HV1 : Hid (TabW w1 (.slice ao L.length cap) L) := HV.out.up hb1
        have HG1 : Hid (GoodW w1 X) := HGX.out.up hb1
        obtain ⟨⟨e0, e1⟩, _⟩ := two_of HA1.out.1
        obtain ⟨q0, q1, q2, q3, q4, q5, q6, q7⟩ := (eight_of HA1.out.2).1
        clear hb1 hW a0 a1 HV HGX HA0
        go_wp2_with fail
        rw [← HVI.out]
        refine (with_any _ L no X _ HV1.out HG1.out HK.out.2 HK.out.1).mono ?_
        rintro e w2 ⟨tb, L2, rfl, ht2, hp2, hb2⟩
        have HT2 : Hid (TabAt (fun b => w1.heap.size ≤ b) w2 tb L2 ∧ pl L2 = put (pl L) no X.i) := ⟨ht2, hp2⟩
        have HB2 : Hid (Below w.heap.size w w2) := HB1.out.trans (hb2.mono HB1.out.size)
        clear ht2 hp2 hb2
        go_wp2_with fail
        refine (check_any _ L2 _ HT2.out.1).mono ?_
        rintro e w3 ⟨rfl, hb3⟩
        rw [HT2.out.2, HE.out.2]
        have HT3 : Hid (TabAt (fun b => w.heap.size ≤ b) w3 tb L2) := (HT2.out.1.up hb3).more HB1.out.size
        have HB3 : Hid (Below w.heap.size w w3) := HB2.out.trans (hb3.mono HB2.out.size)
        clear hb3
        go_wp2
        go_ret2
        refine ⟨tb, L2, by rw [HE.out.1]; rfl, HT3.out, ?_, HB3.out⟩
        unfold putTab
        rw [if_pos HE.out.1, show ((no : Int)).toNat = no from by omega]
        exact HT2.out.2
      | false =>
        have HE : Hid (putErr (pl L) no b X.i = 4 ∧ It.checkErr (put (pl L) no X.i) = 4) := by
          refine ⟨?_, by unfold It.checkErr; rw [hrp]; rfl⟩
          unfold putErr
          rw [if_pos hfe, if_pos (by rw [HXI.out.1, HXI.out.2]; exact hc), show ((no : Int)).toNat = no from by omega, hrp]
          rfl
        have hg1 : (g != b) = false := by simp [hc.1]
        have hk1 : (k == 0) = false := by simp [hc.2]
        clear hfe hr hn hyk hyg hykd hkl hc hrp
        go_enter Try.func56, Try.ntmps56
        go_wp2_with fail
        rw [← hW]
        refine (refuse_any _ L no b _ HV.out).mono ?_
        rintro e w1 ⟨rfl, hb1⟩
        rw [HFE.out]
        have HB1 : Hid (Below w.heap.size w w1) := HB0.out.trans (hb1.mono HB0.out.size)
        have HA1 : Hid (w1.heap[w.heap.size]? = some (BH no b) ∧ w1.heap[w.heap.size + 1]? = some (B8 g k l s t (.slice rp rn rc) (.slice ep en ec) nx)) := ⟨(hb1.block _ (by omega)).trans HA0.out.1, (hb1.block _ hws).trans HA0.out.2⟩
        have HV1 : Hid (TabW w1 (.slice ao L.length cap) L) := HV.out.up hb1
        have HG1 : Hid (GoodW w1 X) := HGX.out.up hb1
        obtain ⟨⟨e0, e1⟩, _⟩ := two_of HA1.out.1
        obtain ⟨q0, q1, q2, q3, q4, q5, q6, q7⟩ := (eight_of HA1.out.2).1
        clear hb1 hW a0 a1 HV HGX HA0
        go_wp2_with fail
        rw [← HVI.out]
        refine (with_any _ L no X _ HV1.out HG1.out HK.out.2 HK.out.1).mono ?_
        rintro e w2 ⟨tb, L2, rfl, ht2, hp2, hb2⟩
        have HT2 : Hid (TabAt (fun b => w1.heap.size ≤ b) w2 tb L2 ∧ pl L2 = put (pl L) no X.i) := ⟨ht2, hp2⟩
        have HB2 : Hid (Below w.heap.size w w2) := HB1.out.trans (hb2.mono HB1.out.size)
        clear ht2 hp2 hb2
        go_wp2_with fail
        refine (check_any _ L2 _ HT2.out.1).mono ?_
        rintro e w3 ⟨rfl, hb3⟩
        rw [HT2.out.2, HE.out.2]
        have HB3 : Hid (Below w.heap.size w w3) := HB2.out.trans (hb3.mono HB2.out.size)
        clear hb3
        go_wp2
        go_ret2
        exact put_said HE.out.1 (by decide) rfl HB3.out
    · have HE : Hid (putErr (pl L) no b X.i = 1) := by
        show putErr (pl L) no b X.i = 1
        unfold putErr
        rw [if_pos hfe, if_neg (by rw [HXI.out.1, HXI.out.2]; exact hc)]
      have hor : (g != b) = true ∨ ((g != b) = false ∧ (k == 0) = true) := by
        by_cases hgb : g = b
        · refine .inr ⟨by simp [hgb], ?_⟩
          by_cases hk0 : k = 0
          · simp [hk0]
          · exact absurd ⟨hgb, hk0⟩ hc
        · exact .inl (by simp [hgb])
      clear hfe hr hn hyk hyg hykd hkl hc
      rcases hor with hg1 | ⟨hg1, hk1⟩
      all_goals
        go_enter Try.func56, Try.ntmps56
        go_wp2_with fail
        rw [← hW]
        refine (refuse_any _ L no b _ HV.out).mono ?_
        rintro e w1 ⟨rfl, hb1⟩
        rw [HFE.out]
        have HB1 : Hid (Below w.heap.size w w1) := HB0.out.trans (hb1.mono HB0.out.size)
        have HA1 : Hid (w1.heap[w.heap.size]? = some (BH no b) ∧ w1.heap[w.heap.size + 1]? = some (B8 g k l s t (.slice rp rn rc) (.slice ep en ec) nx)) := ⟨(hb1.block _ (by omega)).trans HA0.out.1, (hb1.block _ hws).trans HA0.out.2⟩
        obtain ⟨⟨e0, e1⟩, _⟩ := two_of HA1.out.1
        obtain ⟨q0, q1, q2, q3, q4, q5, q6, q7⟩ := (eight_of HA1.out.2).1
        clear hb1 hW a0 a1 HV HGX HA0
        go_wp2
        go_ret2
        exact put_said HE.out (by decide) rfl HB1.out
  · have HE : Hid (putErr (pl L) a b X.i = fe) := by
      show putErr (pl L) a b X.i = fe
      unfold putErr
      rw [hfe, if_neg hz]
    have HZ : Hid (fe ≠ 0) := hz
    have hz' : (fe == 0) = false := by simp [hz]
    clear hz hfe
    go_enter Try.func56, Try.ntmps56
    go_wp2_with fail
    rw [← hW]
    refine (refuse_any _ L a b _ HV.out).mono ?_
    rintro e w1 ⟨rfl, hb1⟩
    rw [HFE.out]
    have HB1 : Hid (Below w.heap.size w w1) := HB0.out.trans (hb1.mono HB0.out.size)
    clear hb1 hW a0 a1
    go_wp2
    go_ret2
    exact put_said HE.out HZ.out rfl HB1.out
end Go.Proofs.Ytacghcoikekfeaa
/- Sp4 -/
namespace Go.Proofs.Ytacghcoikekfeaa
open Go.ChangeShapes Go.WideShapes Go.ChangeAt Go.RowKit Go.Deep It
set_option maxRecDepth 100000
set_option maxHeartbeats 2000000 in
theorem refuseName_any {S : Nat → Prop} (v : Value) (L : List Rw) (a b : Int) (s : ByteArray) (w : World) (hv : TabAt S w v L) (hok : Sp.okN L) (hs : s.size ≤ maxLen) :
    Calls Try.prog 42 #[v, .agg #[.int .i64 a, .int .i64 b], .string s] w fun e w' => e = .returned (.int .i64 (Sp.nameErr (pl L) a b s)) ∧ Below w.heap.size w w' := by
  have HB0 : Hid (Below w.heap.size w (w.alloc (BH a b))) := (Below.refl _ w).alloc (Nat.le_refl _) _
  obtain ⟨⟨a0, a1⟩, _⟩ := two_of (heap_alloc_new w (BH a b))
  have HV : Hid (TabAt S (w.alloc (BH a b)) v L) := hv.up HB0.out
  obtain ⟨ao, cap, rfl, _, _⟩ := hv.open
  have HOK : Hid (Sp.okN L) := hok
  have HSM : Hid (s.size ≤ maxLen) := hs
  clear hv hok hs
  obtain ⟨ne, hne⟩ : ∃ ne, Sp.nameErr (pl L) a b s = ne := ⟨_, rfl⟩
  have HNE : Hid (Sp.nameErr (pl L) a b s = ne) := hne
  rw [hne]
  unfold Sp.nameErr at hne
  obtain ⟨le, hle⟩ : ∃ le, Sp.lookErr (pl L) a b s = le := ⟨_, rfl⟩
  have HLE : Hid (Sp.lookErr (pl L) a b s = le) := hle
  rw [hle] at hne
  clear hle
  by_cases h0 : le = 0
  · subst h0
    rw [if_pos rfl] at hne
    subst hne
    go_enter Try.func42, Try.ntmps42
    go_wp2_with fail
    refine (sfind_any _ L a b s _ HV.out HOK.out HSM.out).mono ?_
    rintro e w1 ⟨rfl, hb1⟩
    rw [HLE.out]
    generalize Sp.lookH (pl L) a b s = q
    have HB1 : Hid (Below w.heap.size w w1) := HB0.out.trans (hb1.mono HB0.out.size)
    clear a0 a1 HV hb1
    go_wp2
    go_ret
    refine ⟨rfl, ?_⟩
    exact HB1.out.alloc HB1.out.size _
  · have h0' : (le == 0) = false := beq_eq_false_iff_ne.2 h0
    rw [if_neg h0] at hne
    by_cases h2 : le = 402
    · subst h2
      rw [if_pos rfl] at hne
      subst hne
      clear h0 h0'
      go_enter Try.func42, Try.ntmps42
      go_wp2_with fail
      refine (sfind_any _ L a b s _ HV.out HOK.out HSM.out).mono ?_
      rintro e w1 ⟨rfl, hb1⟩
      rw [HLE.out]
      generalize Sp.lookH (pl L) a b s = q
      have HB1 : Hid (Below w.heap.size w w1) := HB0.out.trans (hb1.mono HB0.out.size)
      clear a0 a1 HV hb1
      go_wp2
      go_ret
      refine ⟨rfl, ?_⟩
      exact HB1.out.alloc HB1.out.size _
    · have h2' : (le == 402) = false := beq_eq_false_iff_ne.2 h2
      rw [if_neg h2] at hne
      subst hne
      clear h0 h2
      go_enter Try.func42, Try.ntmps42
      go_wp2_with fail
      refine (sfind_any _ L a b s _ HV.out HOK.out HSM.out).mono ?_
      rintro e w1 ⟨rfl, hb1⟩
      rw [HLE.out]
      generalize Sp.lookH (pl L) a b s = q
      have HB1 : Hid (Below w.heap.size w w1) := HB0.out.trans (hb1.mono HB0.out.size)
      clear a0 a1 HV hb1
      go_wp2
      go_ret
      refine ⟨rfl, ?_⟩
      exact HB1.out.alloc HB1.out.size _
/-- A file with a link more, or less. -/
def Sp.linked (x : Ino) (n st : Int) : Ino := ⟨x.gen, x.kind, x.links + n, x.size, st, x.runs, x.ents, x.next⟩
theorem good_linked {S : Nat → Prop} {w : World} {x : Rw} (h : Good S w x) (n st : Int) : Good S w ⟨Sp.linked x.i n st, x.rp, x.rn, x.rc, x.ep, x.en, x.ec⟩ := h
set_option maxHeartbeats 2000000 in
theorem count_any {S : Nat → Prop} (v : Value) (L : List Rw) (k : Nat) (b n st : Int) (x : Rw) (w : World) (hv : TabAt S w v L) (hk : L[k]? = some x) (he : At.linkErr x.i.kind x.i.links x.i.size x.i.stamp n st = 0) :
    Calls Try.prog 33 #[v, .agg #[.int .i64 k, .int .i64 b], .int .i64 n, .int .i64 st] w fun e w' => ∃ u L', e = .returned u ∧ TabAt (fun b => w.heap.size ≤ b) w' u L' ∧ pl L' = putTab (pl L) k b (Sp.linked x.i n st) ∧ Below w.heap.size w w' := by
  have HV : Hid (TabAt S w v L) := hv
  obtain ⟨ao, cap, rfl, hm, hx⟩ := hv.open
  obtain ⟨⟨bb, off, rfl, hB, c0, c1, c2, c3, c4, c5, c6, c7⟩, hg⟩ := hx k x hk
  have hkl : (k : Int) < (L.length : Int) := by have := (List.getElem?_eq_some_iff.1 hk).1; omega
  have HG : Hid (Good S w x) := hg
  have HE : Hid (At.linkErr x.i.kind x.i.links x.i.size x.i.stamp n st = 0 ∧ At.linkOut x.i.kind x.i.links x.i.size x.i.stamp n st = VA x.i.kind (x.i.links + n) x.i.size st) := ⟨he, by unfold At.linkOut; rw [if_pos he]⟩
  unfold maxLen at hm
  obtain ⟨m, hm'⟩ : ∃ m, L.length = m := ⟨_, rfl⟩
  rw [hm'] at HV hm hkl ⊢
  clear hv hx hg he hk hm'
  go_enter Try.func33, Try.ntmps33
  go_wp2_with fail
  refine (link_any _ _ _ _ _ _ _).mono ?_
  rintro e w1 ⟨rfl, hb1⟩
  rw [HE.out.1, HE.out.2]
  have HB1 : Hid (Below w.heap.size w w1) := (((Below.refl _ w).alloc (Nat.le_refl _) _).alloc (by simp) _).trans (hb1.mono (by simp; omega))
  have HA1 : Hid (w1.heap[w.heap.size]? = some (BH k b) ∧ w1.heap[w.heap.size + 1]? = some (BIx x)) := by
    refine ⟨(hb1.block _ (by simp; omega)).trans ((Below.heap_alloc _ _ _ (by simp)).trans (heap_alloc_new _ _)), (hb1.block _ (by simp)).trans ?_⟩
    have := heap_alloc_new (w.alloc (BH k b)) (BIx x)
    rwa [show (w.alloc (BH k b)).heap.size = w.heap.size + 1 by simp] at this
  have hs1 : w.heap.size + 1 < w1.heap.size := by have := hb1.size; simp at this; omega
  obtain ⟨⟨a0, a1⟩, _⟩ := two_of HA1.out.1
  obtain ⟨⟨q0, q1, q2, q3, q4, q5, q6, q7⟩, qf⟩ := eight_of HA1.out.2
  clear hb1 c0 c1 c2 c3 c4 c5 c6 c7 HA1
  go_wp2_with fail
  have HB2 : Hid (Below w.heap.size w ((((w1.setCell ⟨w.heap.size + 1, 1, none⟩ (.int .i64 x.i.kind)).setCell ⟨w.heap.size + 1, 2, none⟩ (.int .i64 (x.i.links + n))).setCell ⟨w.heap.size + 1, 3, none⟩ (.int .i64 x.i.size)).setCell ⟨w.heap.size + 1, 4, none⟩ (.int .i64 st))) := by
    repeat (first | exact HB1.out | refine Below.setCell ?_ (by simp) _)
  refine (put_any _ L k b ⟨Sp.linked x.i n st, x.rp, x.rn, x.rc, x.ep, x.en, x.ec⟩ _ (HV.out.up HB2.out) (good_linked (HG.out.up HB2.out) n st)).mono ?_
  rintro e w3 ⟨u, L', rfl, ht, hp, hb3⟩
  have HB3 : Hid (Below w.heap.size w w3) := HB2.out.trans (hb3.mono HB2.out.size)
  have HT : Hid (TabAt (fun b => w.heap.size ≤ b) w3 u L') := ⟨ht.1.imp fun _ h _ => Nat.le_trans HB2.out.size h, fun y hy => (ht.2 y hy).imp fun _ h _ => Nat.le_trans HB2.out.size h⟩
  have HP : Hid (pl L' = putTab (pl L) k b (Sp.linked x.i n st)) := hp
  clear hb3 ht hp a0 a1 q0 q1 q2 q3 q4 q5 q6 q7
  go_wp2
  go_ret
  exact ⟨u, L', rfl, HT.out, HP.out, HB3.out⟩
end Go.Proofs.Ytacghcoikekfeaa
/- Sp5 -/
namespace Go.Proofs.Ytacghcoikekfeaa
open Go.ChangeShapes Go.WideShapes Go.ChangeAt Go.RowKit Go.Deep It
set_option maxRecDepth 100000
/-- A folder with other entries. -/
def Sp.filled (x : Ino) (es : List Ent) (nx st : Int) : Ino := ⟨x.gen, x.kind, x.links, es.length, st, x.runs, es, nx⟩
theorem good_filled {S T : Nat → Prop} {w : World} {x : Rw} (h : Good S w x) {dp : Option Addr} {dn dc : Nat} {es : List Ent} (hd : At EE T w (.slice dp dn dc) es) (hl : es.length ≤ 3518437208883) (nx st : Int) :
    GoodW w ⟨Sp.filled x.i es nx st, x.rp, x.rn, x.rc, dp, dn, dc⟩ := ⟨h.1.wide, hd.wide, h.2.2.1, h.2.2.2.1, hl⟩
theorem cellO {w : World} {a b : Addr} {v : Value} (h : a ≠ b) : (w.setCell a v).cell? b = w.cell? b := World.cell?_setCell_other (h := h) ..
theorem cellS {w : World} {a : Addr} {u v : Value} (h : w.cell? a = some u) : (w.setCell a v).cell? a = some v := World.cell?_setCell_same (h := h) ..
theorem frozen_block {w w' : World} {b j : Nat} (h : w'.heap[b]? = w.heap[b]?) : w'.frozen? ⟨b, j, none⟩ = w.frozen? ⟨b, j, none⟩ := by simp only [World.frozen?, h]
theorem ents_set {W : World} {X : Nat} {x : Rw} {v : Value} {n : Int} (h : eight W X 0 x) (hf : ∀ j, W.frozen? ⟨X, j, none⟩ = false) :
    let W2 := ((W.setCell ⟨X, 6, none⟩ v).setCell ⟨X, 7, none⟩ (.int .i64 n)).drew
    (W2.cell? ⟨X, 0, none⟩ = some (.int .i64 x.i.gen) ∧ W2.cell? ⟨X, 1, none⟩ = some (.int .i64 x.i.kind) ∧ W2.cell? ⟨X, 2, none⟩ = some (.int .i64 x.i.links) ∧ W2.cell? ⟨X, 3, none⟩ = some (.int .i64 x.i.size) ∧
      W2.cell? ⟨X, 4, none⟩ = some (.int .i64 x.i.stamp) ∧ W2.cell? ⟨X, 5, none⟩ = some (.slice x.rp x.rn x.rc) ∧ W2.cell? ⟨X, 6, none⟩ = some v ∧ W2.cell? ⟨X, 7, none⟩ = some (.int .i64 n)) ∧ ∀ j, W2.frozen? ⟨X, j, none⟩ = false := by
  obtain ⟨h0, h1, h2, h3, h4, h5, h6, h7⟩ := h
  simp only [Nat.zero_add] at h0 h1 h2 h3 h4 h5 h6 h7
  have o : ∀ j u, j ≠ 6 → j ≠ 7 → W.cell? ⟨X, j, none⟩ = some u → (((W.setCell ⟨X, 6, none⟩ v).setCell ⟨X, 7, none⟩ (.int .i64 n)).drew).cell? ⟨X, j, none⟩ = some u := fun j u a b hj => by
    show ((W.setCell ⟨X, 6, none⟩ v).setCell ⟨X, 7, none⟩ (.int .i64 n)).cell? ⟨X, j, none⟩ = some u
    exact (cellO (by simp <;> omega)).trans ((cellO (by simp <;> omega)).trans hj)
  have e7 : (W.setCell ⟨X, 6, none⟩ v).cell? ⟨X, 7, none⟩ = some (.int .i64 x.i.next) := (cellO (by simp)).trans h7
  refine ⟨⟨o 0 _ (by decide) (by decide) h0, o 1 _ (by decide) (by decide) h1, o 2 _ (by decide) (by decide) h2, o 3 _ (by decide) (by decide) h3, o 4 _ (by decide) (by decide) h4, o 5 _ (by decide) (by decide) h5, ?_, ?_⟩, fun j => ?_⟩
  · show ((W.setCell ⟨X, 6, none⟩ v).setCell ⟨X, 7, none⟩ (.int .i64 n)).cell? ⟨X, 6, none⟩ = some v
    exact (cellO (by simp)).trans (cellS h6)
  · exact cellS e7
  · show ((W.setCell ⟨X, 6, none⟩ v).setCell ⟨X, 7, none⟩ (.int .i64 n)).frozen? ⟨X, j, none⟩ = false
    simp only [World.frozen?_setCell]
    exact hf j
set_option maxHeartbeats 2000000 in
theorem sput_any {S T : Nat → Prop} (v : Value) (L : List Rw) (k : Nat) (b nx st : Int) (x : Rw) (dp : Option Addr) (dn dc : Nat) (es : List Ent) (w : World) (hv : TabAt S w v L) (hk : L[k]? = some x) (hd : At EE T w (.slice dp dn dc) es) (hl : es.length ≤ 3518437208883)
    (he : At.growErr x.i.kind x.i.links x.i.size x.i.stamp es.length st = 0) :
    Calls Try.prog 48 #[v, .agg #[.int .i64 k, .int .i64 b], VD (.slice dp dn dc) nx, .int .i64 st] w fun e w' => ∃ u L', e = .returned u ∧ TabAt (fun b => w.heap.size ≤ b) w' u L' ∧ pl L' = putTab (pl L) k b (Sp.filled x.i es nx st) ∧ Below w.heap.size w w' := by
  have HV : Hid (TabAt S w v L) := hv
  have HD : Hid (At EE T w (.slice dp dn dc) es) := hd
  have HL : Hid (es.length ≤ 3518437208883) := hl
  obtain ⟨ao, cap, rfl, hm, hx⟩ := hv.open
  obtain ⟨⟨bb, off, rfl, hB, c0, c1, c2, c3, c4, c5, c6, c7⟩, hg⟩ := hx k x hk
  have hkl : (k : Int) < (L.length : Int) := by have := (List.getElem?_eq_some_iff.1 hk).1; omega
  have HG : Hid (Good S w x) := hg
  have hdn : dn = es.length := by
    obtain ⟨_, _, h, _⟩ := hd.open
    simp only [Value.slice.injEq] at h
    exact h.2.1
  rw [← hdn] at he
  have HE : Hid (At.growErr x.i.kind x.i.links x.i.size x.i.stamp dn st = 0 ∧ At.growOut x.i.kind x.i.links x.i.size x.i.stamp dn st = VA x.i.kind x.i.links dn st) := ⟨he, by unfold At.growOut; rw [if_pos he]⟩
  have HDN : Hid (dn = es.length) := hdn
  unfold maxLen at hm
  obtain ⟨m, hm'⟩ : ∃ m, L.length = m := ⟨_, rfl⟩
  rw [hm'] at HV hm hkl ⊢
  clear hv hx hg he hk hm' hd hl hdn
  obtain ⟨W, hW⟩ : ∃ W, W = ((w.alloc (BH k b)).alloc (BD (.slice dp dn dc) nx)).alloc (BIx x) := ⟨_, rfl⟩
  have HB0 : Hid (Below w.heap.size w W) := by show Below w.heap.size w W; rw [hW]; exact (((Below.refl _ w).alloc (Nat.le_refl _) _).alloc (by simp) _).alloc (by simp; omega) _
  have HA0 : Hid (W.heap[w.heap.size]? = some (BH k b) ∧ W.heap[w.heap.size + 1]? = some (BD (.slice dp dn dc) nx) ∧ W.heap[w.heap.size + 2]? = some (BIx x)) := by
    have h1 := heap_alloc_new (w.alloc (BH k b)) (BD (.slice dp dn dc) nx)
    have h2 := heap_alloc_new ((w.alloc (BH k b)).alloc (BD (.slice dp dn dc) nx)) (BIx x)
    rw [show (w.alloc (BH k b)).heap.size = w.heap.size + 1 by simp] at h1
    rw [show ((w.alloc (BH k b)).alloc (BD (.slice dp dn dc) nx)).heap.size = w.heap.size + 2 by simp] at h2
    rw [hW]
    exact ⟨(Below.heap_alloc _ _ _ (by simp; omega)).trans ((Below.heap_alloc _ _ _ (by simp)).trans (heap_alloc_new _ _)), (Below.heap_alloc _ _ _ (by simp)).trans h1, h2⟩
  have hws : w.heap.size + 2 < W.heap.size := by rw [hW]; simp
  have hD : Below w.heap.size w W := HB0.out
  obtain ⟨⟨d0, d1⟩, _⟩ := two_ofD HA0.out.2.1
  obtain ⟨⟨q0, q1, q2, q3, q4, q5, q6, q7⟩, qf⟩ := eight_of HA0.out.2.2
  obtain ⟨⟨a0, a1⟩, _⟩ := two_of HA0.out.1
  clear hD
  go_enter Try.func48, Try.ntmps48
  go_wp2_with fail
  rw [← hW]
  clear c0 c1 c2 c3 c4 c5 c6 c7 hW
  go_region
  all_goals
    go_wp2_with fail
    have h2 := ents_set (v := .slice dp dn dc) (n := nx) (X := w.heap.size + 2) (x := x) ⟨q0, q1, q2, q3, q4, q5, q6, q7⟩ qf
    have HBW : Hid (Below w.heap.size w ((W.setCell ⟨w.heap.size + 2, 6, none⟩ (.slice dp dn dc)).setCell ⟨w.heap.size + 2, 7, none⟩ (.int .i64 nx)).drew) := by
      have h : Below w.heap.size w ((W.setCell ⟨w.heap.size + 2, 6, none⟩ (.slice dp dn dc)).setCell ⟨w.heap.size + 2, 7, none⟩ (.int .i64 nx)) := by
        repeat (first | exact HB0.out | refine Below.setCell ?_ (by simp) _)
      exact ⟨h.os, h.tape, h.output, h.size, h.block⟩
    have ha : ((W.setCell ⟨w.heap.size + 2, 6, none⟩ (.slice dp dn dc)).setCell ⟨w.heap.size + 2, 7, none⟩ (.int .i64 nx)).drew.heap[w.heap.size]? = some (BH k b) := by
      show ((W.setCell ⟨w.heap.size + 2, 6, none⟩ (.slice dp dn dc)).setCell ⟨w.heap.size + 2, 7, none⟩ (.int .i64 nx)).heap[w.heap.size]? = _
      rw [Below.heap_setCell _ _ _ _ (by simp), Below.heap_setCell _ _ _ _ (by simp)]
      exact HA0.out.1
    have hz2 : w.heap.size + 2 < ((W.setCell ⟨w.heap.size + 2, 6, none⟩ (.slice dp dn dc)).setCell ⟨w.heap.size + 2, 7, none⟩ (.int .i64 nx)).drew.heap.size := by
      show w.heap.size + 2 < ((W.setCell ⟨w.heap.size + 2, 6, none⟩ (.slice dp dn dc)).setCell ⟨w.heap.size + 2, 7, none⟩ (.int .i64 nx)).heap.size
      simp
      exact hws
    generalize ((W.setCell ⟨w.heap.size + 2, 6, none⟩ (.slice dp dn dc)).setCell ⟨w.heap.size + 2, 7, none⟩ (.int .i64 nx)).drew = W2 at *
    refine (grow_any _ _ _ _ _ _ _).mono ?_
    rintro e w1 ⟨rfl, hb1⟩
    rw [HE.out.1, HE.out.2]
    have hX := hb1.block _ hz2
    obtain ⟨⟨p0, p1, p2, p3, p4, p5, p6, p7⟩, pf⟩ := h2
    replace p0 := (cell_block (p := ⟨w.heap.size + 2, 0, none⟩) hX).trans p0
    replace p1 := (cell_block (p := ⟨w.heap.size + 2, 1, none⟩) hX).trans p1
    replace p2 := (cell_block (p := ⟨w.heap.size + 2, 2, none⟩) hX).trans p2
    replace p3 := (cell_block (p := ⟨w.heap.size + 2, 3, none⟩) hX).trans p3
    replace p4 := (cell_block (p := ⟨w.heap.size + 2, 4, none⟩) hX).trans p4
    replace p5 := (cell_block (p := ⟨w.heap.size + 2, 5, none⟩) hX).trans p5
    replace p6 := (cell_block (p := ⟨w.heap.size + 2, 6, none⟩) hX).trans p6
    replace p7 := (cell_block (p := ⟨w.heap.size + 2, 7, none⟩) hX).trans p7
    have pf1 : ∀ j, w1.frozen? ⟨w.heap.size + 2, j, none⟩ = false := fun j => (frozen_block hX).trans (pf j)
    have HB1 : Hid (Below w.heap.size w w1) := HBW.out.trans (hb1.mono HBW.out.size)
    have hA := (hb1.block w.heap.size (by omega)).trans ha
    obtain ⟨⟨f0, f1⟩, _⟩ := two_of hA
    clear hb1 pf hX ha hA d0 d1 q0 q1 q2 q3 q4 q5 q6 q7 a0 a1 HBW
    go_wp2_with fail
    have HB2 : Hid (Below w.heap.size w ((((w1.setCell ⟨w.heap.size + 2, 1, none⟩ (.int .i64 x.i.kind)).setCell ⟨w.heap.size + 2, 2, none⟩ (.int .i64 x.i.links)).setCell ⟨w.heap.size + 2, 3, none⟩ (.int .i64 dn)).setCell ⟨w.heap.size + 2, 4, none⟩ (.int .i64 st))) := by
      repeat (first | exact HB1.out | refine Below.setCell ?_ (by simp) _)
    have HC : Hid (Calls Try.prog 56 #[.slice (some ⟨bb, off, none⟩) m cap, .agg #[.int .i64 k, .int .i64 b], .agg #[.int .i64 x.i.gen, .int .i64 x.i.kind, .int .i64 x.i.links, .int .i64 dn, .int .i64 st, .slice x.rp x.rn x.rc, .slice dp dn dc, .int .i64 nx]]
        ((((w1.setCell ⟨w.heap.size + 2, 1, none⟩ (.int .i64 x.i.kind)).setCell ⟨w.heap.size + 2, 2, none⟩ (.int .i64 x.i.links)).setCell ⟨w.heap.size + 2, 3, none⟩ (.int .i64 dn)).setCell ⟨w.heap.size + 2, 4, none⟩ (.int .i64 st))
        fun e w' => PutSaid ((((w1.setCell ⟨w.heap.size + 2, 1, none⟩ (.int .i64 x.i.kind)).setCell ⟨w.heap.size + 2, 2, none⟩ (.int .i64 x.i.links)).setCell ⟨w.heap.size + 2, 3, none⟩ (.int .i64 dn)).setCell ⟨w.heap.size + 2, 4, none⟩ (.int .i64 st)) (pl L) k b (Sp.filled x.i es nx st) e w') := by
      have h := put_any _ L k b ⟨Sp.filled x.i es nx st, x.rp, x.rn, x.rc, dp, dn, dc⟩ _ (HV.out.up HB2.out) (good_filled (HG.out.up HB2.out) (HD.out.up HB2.out) HL.out nx st)
      have e : VI ⟨Sp.filled x.i es nx st, x.rp, x.rn, x.rc, dp, dn, dc⟩ = .agg #[.int .i64 x.i.gen, .int .i64 x.i.kind, .int .i64 x.i.links, .int .i64 dn, .int .i64 st, .slice x.rp x.rn x.rc, .slice dp dn dc, .int .i64 nx] := by rw [HDN.out]; rfl
      rw [e] at h
      exact h
    refine HC.out.mono ?_
    rintro e w3 ⟨u, L', rfl, ht, hp, hb3⟩
    have HB3 : Hid (Below w.heap.size w w3) := HB2.out.trans (hb3.mono HB2.out.size)
    have HT : Hid (TabAt (fun b => w.heap.size ≤ b) w3 u L') := ⟨ht.1.imp fun _ h _ => Nat.le_trans HB2.out.size h, fun y hy => (ht.2 y hy).imp fun _ h _ => Nat.le_trans HB2.out.size h⟩
    have HP : Hid (pl L' = putTab (pl L) k b (Sp.filled x.i es nx st)) := hp
    clear hb3 ht hp p0 p1 p2 p3 p4 p5 p6 p7 f0 f1 HC
    go_wp2
    go_ret
    exact ⟨u, L', rfl, HT.out, HP.out, HB3.out⟩
end Go.Proofs.Ytacghcoikekfeaa
/- Sp6 -/
namespace Go.Proofs.Ytacghcoikekfeaa
open Go.ChangeShapes Go.WideShapes Go.ChangeAt Go.RowKit Go.Deep It
set_option maxRecDepth 100000
set_option maxHeartbeats 2000000 in
theorem sremove_any {S : Nat → Prop} (v : Value) (L : List Rw) (k : Nat) (b st : Int) (s : ByteArray) (x : Rw) (w : World) (hv : TabAt S w v L) (hk : L[k]? = some x) (hn : ∀ e ∈ x.i.ents, e.1.size ≤ maxLen) (hs : s.size ≤ maxLen)
    (hf : Fo.findErr x.i.ents x.i.next s = 0) (he : At.growErr x.i.kind x.i.links x.i.size x.i.stamp (x.i.ents.eraseIdx (Fo.plc x.i.ents x.i.next s).toNat).length st = 0) :
    Calls Try.prog 28 #[v, .agg #[.int .i64 k, .int .i64 b], .string s, .int .i64 st] w fun e w' => ∃ u L', e = .returned u ∧ TabAt (fun b => w.heap.size ≤ b) w' u L' ∧
      pl L' = putTab (pl L) k b (Sp.filled x.i (x.i.ents.eraseIdx (Fo.plc x.i.ents x.i.next s).toNat) x.i.next st) ∧ Below w.heap.size w w' := by
  have HV : Hid (TabAt S w v L) := hv
  have HK : Hid (L[k]? = some x) := hk
  obtain ⟨ao, cap, rfl, hm, hx⟩ := hv.open
  obtain ⟨⟨bb, off, rfl, hB, c0, c1, c2, c3, c4, c5, c6, c7⟩, hg⟩ := hx k x hk
  have hkl : (k : Int) < (L.length : Int) := by have := (List.getElem?_eq_some_iff.1 hk).1; omega
  have HG : Hid (Good S w x) := hg
  have HN : Hid ((∀ e ∈ x.i.ents, e.1.size ≤ maxLen) ∧ s.size ≤ maxLen) := ⟨hn, hs⟩
  have HL : Hid ((x.i.ents.eraseIdx (Fo.plc x.i.ents x.i.next s).toNat).length ≤ 3518437208883) := Nat.le_trans (List.length_eraseIdx_le ..) hg.2.2.2.2
  obtain ⟨es, hes⟩ : ∃ es, x.i.ents.eraseIdx (Fo.plc x.i.ents x.i.next s).toNat = es := ⟨_, rfl⟩
  have HES : Hid (x.i.ents.eraseIdx (Fo.plc x.i.ents x.i.next s).toNat = es) := hes
  rw [hes] at HL he ⊢
  have HF : Hid (Fo.findErr x.i.ents x.i.next s = 0) := hf
  have HE : Hid (At.growErr x.i.kind x.i.links x.i.size x.i.stamp es.length st = 0) := he
  unfold maxLen at hm
  obtain ⟨m, hm'⟩ : ∃ m, L.length = m := ⟨_, rfl⟩
  rw [hm'] at HV hm hkl ⊢
  clear hv hx hg he hk hm' hf hn hs hes
  go_enter Try.func28, Try.ntmps28
  go_wp2_with fail
  refine (dirOf_any x _).mono ?_
  rintro e w1 ⟨rfl, hb1⟩
  have HB1 : Hid (Below w.heap.size w w1) := ((Below.refl _ w).alloc (Nat.le_refl _) (BH k b)).trans (hb1.mono (by simp))
  have HA1 : Hid (w1.heap[w.heap.size]? = some (BH k b)) := (hb1.block _ (by simp)).trans (heap_alloc_new _ _)
  have hs1 : w.heap.size < w1.heap.size := by have := hb1.size; simp at this; omega
  clear hb1 c0 c1 c2 c3 c4 c5 c6 c7
  go_wp2_with fail
  refine (remove_any _ x.i.ents x.i.next s _ (HG.out.up HB1.out).2.1.wide HN.out.1 HN.out.2).mono ?_
  rintro e w2 ⟨u, rfl, hu, hb2⟩
  rw [HF.out, if_pos rfl] at hu ⊢
  rw [HES.out] at hu
  have HB2 : Hid (Below w.heap.size w w2) := HB1.out.trans (hb2.mono HB1.out.size)
  have HA2 : Hid (w2.heap[w.heap.size]? = some (BH k b)) := (hb2.block _ hs1).trans HA1.out
  have hs2 : w.heap.size < w2.heap.size := by have := hb2.size; omega
  obtain ⟨uo, uc, rfl, _, _⟩ := hu.open
  generalize es.length = un at hu ⊢
  have HU : Hid (AtW EE w2 (.slice uo un uc) es) := hu.wide
  obtain ⟨⟨a0, a1⟩, _⟩ := two_of HA2.out
  obtain ⟨e0, e1⟩ := box_cells w2 (.slice uo un uc) x.i.next
  have HB3 : Hid (Below w2.heap.size w2 (w2.alloc (BD (.slice uo un uc) x.i.next))) := (Below.refl _ _).alloc (Nat.le_refl _) _
  have HB4 : Hid (Below w.heap.size w (w2.alloc (BD (.slice uo un uc) x.i.next))) := HB2.out.trans (HB3.out.mono HB2.out.size)
  clear hb2 hu
  go_wp2_with fail
  refine (sput_any _ L k b x.i.next st x uo un uc es _ (HV.out.up HB4.out) HK.out (HU.out.up HB3.out) HL.out HE.out).mono ?_
  rintro e w3 ⟨u, L', rfl, ht, hp, hb3⟩
  have HB5 : Hid (Below w.heap.size w w3) := HB4.out.trans (hb3.mono HB4.out.size)
  have HT : Hid (TabAt (fun b => w.heap.size ≤ b) w3 u L') := ⟨ht.1.imp fun _ h _ => Nat.le_trans HB4.out.size h, fun y hy => (ht.2 y hy).imp fun _ h _ => Nat.le_trans HB4.out.size h⟩
  have HP : Hid (pl L' = putTab (pl L) k b (Sp.filled x.i es x.i.next st)) := hp
  clear hb3 ht hp e0 e1 a0 a1
  go_wp2
  go_ret
  exact ⟨u, L', rfl, HT.out, HP.out, HB5.out⟩
end Go.Proofs.Ytacghcoikekfeaa
/- Sp7 -/
namespace Go.Proofs.Ytacghcoikekfeaa
open Go.ChangeShapes Go.WideShapes Go.ChangeAt Go.RowKit Go.Deep It
set_option maxRecDepth 100000
theorem bel_drew {B : Nat} {w w' : World} (h : Below B w w') : Below B w w'.drew := ⟨h.os, h.tape, h.output, h.size, h.block⟩
theorem bel_undrew {B : Nat} {w w' : World} (h : Below B w.drew w') : Below B w w' := ⟨h.os, h.tape, h.output, h.size, h.block⟩
theorem setD {w : World} {A : Nat} {v u : Value} {b d : Int} (h : w.heap[A]? = some (BD v b)) : ((w.setCell ⟨A, 0, none⟩ u).setCell ⟨A, 1, none⟩ (.int .i64 d)).heap[A]? = some (BD u d) := by
  have h1 : (w.setCell ⟨A, 0, none⟩ u).heap[A]? = some (BD u b) := by
    rw [setCell_eq_setRow w A 0 _ _ _ _ h, setRow_heap w A _ _ _ _ h]
    rfl
  rw [setCell_eq_setRow _ A 1 _ _ _ _ h1, setRow_heap _ A _ _ _ _ h1]
  rfl
set_option maxHeartbeats 4000000 in
theorem sadd_any {S : Nat → Prop} (v : Value) (L : List Rw) (k : Nat) (b no gen st : Int) (s : ByteArray) (x : Rw) (w : World) (hv : TabAt S w v L) (hk : L[k]? = some x) (hn : ∀ e ∈ x.i.ents, e.1.size ≤ maxLen) (hs : s.size ≤ maxLen)
    (he : Fo.addErr x.i.ents x.i.next s no gen = 0 → x.i.ents.length + 1 ≤ 3518437208883 ∧ At.growErr x.i.kind x.i.links x.i.size x.i.stamp (x.i.ents.length + 1) st = 0) :
    Calls Try.prog 24 #[v, .agg #[.int .i64 k, .int .i64 b], .string s, .agg #[.int .i64 no, .int .i64 gen], .int .i64 st] w fun e w' => ∃ u L', e = .returned (.tuple #[u, .int .i64 (Fo.addErr x.i.ents x.i.next s no gen)]) ∧ TabAt (fun b => w.heap.size ≤ b) w' u L' ∧
      pl L' = (if Fo.addErr x.i.ents x.i.next s no gen = 0 then putTab (pl L) k b (Sp.filled x.i (x.i.ents ++ [(s, x.i.next + 1, no, gen)]) (x.i.next + 1) st) else []) ∧ Below w.heap.size w w' := by
  have HV : Hid (TabAt S w v L) := hv
  have HK : Hid (L[k]? = some x) := hk
  obtain ⟨ao, cap, rfl, hm, hx⟩ := hv.open
  obtain ⟨⟨bb, off, rfl, hB, c0, c1, c2, c3, c4, c5, c6, c7⟩, hg⟩ := hx k x hk
  have hkl : (k : Int) < (L.length : Int) := by have := (List.getElem?_eq_some_iff.1 hk).1; omega
  have HG : Hid (Good S w x) := hg
  have HN : Hid ((∀ e ∈ x.i.ents, e.1.size ≤ maxLen) ∧ s.size ≤ maxLen) := ⟨hn, hs⟩
  obtain ⟨ae, hae⟩ : ∃ ae, Fo.addErr x.i.ents x.i.next s no gen = ae := ⟨_, rfl⟩
  obtain ⟨an, han⟩ : ∃ an, (if ae = 0 then x.i.next + 1 else 0) = an := ⟨_, rfl⟩
  obtain ⟨al, hal⟩ : ∃ al, (if ae = 0 then x.i.ents ++ [(s, x.i.next + 1, no, gen)] else []) = al := ⟨_, rfl⟩
  have HAE : Hid ((if ae = 0 then x.i.next + 1 else 0) = an ∧ (if ae = 0 then x.i.ents ++ [(s, x.i.next + 1, no, gen)] else []) = al) := ⟨han, hal⟩
  have HE : Hid (ae = 0 → x.i.ents.length + 1 ≤ 3518437208883 ∧ At.growErr x.i.kind x.i.links x.i.size x.i.stamp (x.i.ents.length + 1) st = 0) := fun h => he (hae.trans h)
  have HADD : Hid (∀ V, AtW EE V (.slice x.ep x.en x.ec) x.i.ents → Calls Try.prog 46 #[VD (.slice x.ep x.en x.ec) x.i.next, .string s, VHf no gen] V fun e w' => ∃ p k q, e = .returned (.tuple #[VD (.slice p k q) an, .int .i64 ae]) ∧ At EE (fun b => V.heap.size ≤ b) w' (.slice p k q) al ∧ Below V.heap.size V w') := fun V h => (add_any _ x.i.ents x.i.next s no gen V h hn hs).mono fun e w' ⟨u, he, hu, hb⟩ => by
    rw [hae, han] at he
    rw [hae, hal] at hu
    obtain ⟨p, q, rfl, -, -⟩ := hu.open
    exact ⟨_, _, _, he, hu, hb⟩
  rw [hae]
  obtain ⟨W2, hW2⟩ : ∃ W2, W2 = (w.alloc (BH k b)).alloc (BH no gen) := ⟨_, rfl⟩
  have HB2 : Hid (Below w.heap.size w W2) := by show Below w.heap.size w W2; rw [hW2]; exact ((Below.refl _ w).alloc (Nat.le_refl _) _).alloc (by simp) _
  have hwW : w.heap.size + 1 < W2.heap.size := by rw [hW2]; simp
  have HA2 : Hid (W2.heap[w.heap.size]? = some (BH k b) ∧ W2.heap[w.heap.size + 1]? = some (BH no gen)) := by
    rw [hW2]
    refine ⟨(Below.heap_alloc _ _ _ (by simp)).trans (heap_alloc_new _ _), ?_⟩
    have := heap_alloc_new (w.alloc (BH k b)) (BH no gen)
    rwa [show (w.alloc (BH k b)).heap.size = w.heap.size + 1 by simp] at this
  have HAD : Hid (∀ w' : World, Below W2.heap.size W2 w' → w'.cell? ⟨w.heap.size, 0, none⟩ = some (.int .i64 k) ∧ w'.cell? ⟨w.heap.size, 1, none⟩ = some (.int .i64 b) ∧ w'.cell? ⟨w.heap.size + 1, 0, none⟩ = some (.int .i64 no) ∧ w'.cell? ⟨w.heap.size + 1, 1, none⟩ = some (.int .i64 gen) ∧ w'.cell? ⟨bb, off + k * 8, none⟩ = some (.int .i64 x.i.gen) ∧ w'.cell? ⟨bb, off + k * 8 + 1, none⟩ = some (.int .i64 x.i.kind) ∧ w'.cell? ⟨bb, off + k * 8 + 2, none⟩ = some (.int .i64 x.i.links) ∧ w'.cell? ⟨bb, off + k * 8 + 3, none⟩ = some (.int .i64 x.i.size) ∧ w'.cell? ⟨bb, off + k * 8 + 4, none⟩ = some (.int .i64 x.i.stamp) ∧ w'.cell? ⟨bb, off + k * 8 + 5, none⟩ = some (.slice x.rp x.rn x.rc) ∧ w'.cell? ⟨bb, off + k * 8 + 6, none⟩ = some (.slice x.ep x.en x.ec) ∧ w'.cell? ⟨bb, off + k * 8 + 7, none⟩ = some (.int .i64 x.i.next)) := by
    intro w' hb
    obtain ⟨⟨a0, a1⟩, _⟩ := two_of HA2.out.1
    obtain ⟨⟨g0, g1⟩, _⟩ := two_of HA2.out.2
    obtain ⟨r0, r1, r2, r3, r4, r5, r6, r7⟩ := (show eight w bb (off + k * 8) x from ⟨c0, c1, c2, c3, c4, c5, c6, c7⟩).below (HB2.out.trans (hb.mono HB2.out.size)) hB
    exact ⟨cell_step a0 hb, cell_step a1 hb, cell_step g0 hb, cell_step g1 hb, r0, r1, r2, r3, r4, r5, r6, r7⟩
  have HVG : Hid (∀ V, Below W2.heap.size W2 V → AtW EE V (.slice x.ep x.en x.ec) x.i.ents) := fun V h => ((HG.out.up HB2.out).up h).2.1.wide
  have HTG : Hid (∀ V, Below W2.heap.size W2 V → TabAt S V (.slice (some ⟨bb, off, none⟩) L.length cap) L) := fun V h => (HV.out.up HB2.out).up h
  unfold maxLen at hm
  obtain ⟨m, hm'⟩ : ∃ m, L.length = m := ⟨_, rfl⟩
  rw [hm'] at HV HTG hm hkl ⊢
  clear hv hx hg he hk hm' hn hs hae han hal c0 c1 c2 c3 c4 c5 c6 c7
  have HB01 : Hid (Below W2.heap.size W2 (W2.alloc BZD)) := (Below.refl _ _).alloc (Nat.le_refl _) _
  have HB02 : Hid (Below W2.heap.size W2 (W2.drew.alloc BZD)) := (bel_drew (Below.refl _ _)).alloc (Nat.le_refl _) _
  go_enter Try.func24, Try.ntmps24
  go_wp2_with fail
  rw [← hW2]
  clear hW2
  go_region_held3 (fun w' => w'.cell? ⟨w.heap.size, 0, none⟩ = some (.int .i64 k) ∧ w'.cell? ⟨w.heap.size, 1, none⟩ = some (.int .i64 b) ∧ w'.cell? ⟨w.heap.size + 1, 0, none⟩ = some (.int .i64 no) ∧ w'.cell? ⟨w.heap.size + 1, 1, none⟩ = some (.int .i64 gen) ∧ w'.cell? ⟨bb, off + k * 8, none⟩ = some (.int .i64 x.i.gen) ∧ w'.cell? ⟨bb, off + k * 8 + 1, none⟩ = some (.int .i64 x.i.kind) ∧ w'.cell? ⟨bb, off + k * 8 + 2, none⟩ = some (.int .i64 x.i.links) ∧ w'.cell? ⟨bb, off + k * 8 + 3, none⟩ = some (.int .i64 x.i.size) ∧ w'.cell? ⟨bb, off + k * 8 + 4, none⟩ = some (.int .i64 x.i.stamp) ∧ w'.cell? ⟨bb, off + k * 8 + 5, none⟩ = some (.slice x.rp x.rn x.rc) ∧ w'.cell? ⟨bb, off + k * 8 + 6, none⟩ = some (.slice x.ep x.en x.ec) ∧ w'.cell? ⟨bb, off + k * 8 + 7, none⟩ = some (.int .i64 x.i.next)) (first | exact HAD.out _ (by (repeat (first | assumption | exact Below.refl _ _ | refine bel_drew ?_ | refine Below.setCell ?_ (by first | exact Nat.le_refl _ | assumption) _ | refine Below.alloc ?_ (by first | exact Nat.le_refl _ | assumption) _)))) (first
    | (go_at_call 47; refine (dirOf_any x _).mono ?_; rintro e w3 ⟨rfl, hb3⟩; have hb33 : Below W2.heap.size W2 w3 := (by first | exact undrew hb3 | exact HB02.out.trans (hb3.mono HB02.out.size) | exact HB01.out.trans ((undrew hb3).mono HB01.out.size)); have h3s : W2.heap.size ≤ w3.heap.size := hb33.size; try (have hz3 : w3.heap[W2.heap.size]? = some BZD := (by first | exact (hb3.block _ (by simp)).trans (heap_alloc_new W2.drew BZD) | exact (hb3.block _ (by show _ < Array.size _; simp)).trans (heap_alloc_new W2 BZD))); clear hb3)
    | (go_at_call 46; refine (HADD.out _ (by first | exact HVG.out _ hb33 | exact HVG.out _ (hb33.alloc hb33.size _))).mono ?_; rintro e w4 ⟨p4, k4, c4, rfl, hu4, hb4⟩; have hb44 : Below W2.heap.size W2 w4 := (by first | exact hb33.trans (hb4.mono hb33.size) | exact (hb33.alloc hb33.size _).trans (hb4.mono (hb33.alloc hb33.size _).size)); have h4s : W2.heap.size ≤ w4.heap.size := hb44.size; (first
      | (have hz4 : w4.heap[w3.heap.size]? = some BZD := (hb4.block _ (by simp)).trans (heap_alloc_new w3 BZD); obtain ⟨⟨f0, f1⟩, ff⟩ := two_ofD (v := .slice none 0 0) (n := 0) hz4; have HZ4 : Hid (w4.heap[w3.heap.size]? = some BZD) := hz4; have HU4 : Hid (At EE (fun b => ¬ w3.heap.size = b) w4 (.slice p4 k4 c4) al) := hu4.imp (fun b hb _ => by simp at hb; omega); clear hz4)
      | (have hz4 : w4.heap[W2.heap.size]? = some BZD := (hb4.block _ (Array.getElem?_eq_some_iff.1 hz3).1).trans hz3; obtain ⟨⟨f0, f1⟩, ff⟩ := two_ofD (v := .slice none 0 0) (n := 0) hz4; have HZ4 : Hid (w4.heap[W2.heap.size]? = some BZD) := hz4; have HU4 : Hid (At EE (fun b => ¬ W2.heap.size = b) w4 (.slice p4 k4 c4) al) := hu4.imp (fun b hb _ => by have h3l := (Array.getElem?_eq_some_iff.1 hz3).1; omega); clear hz4 hz3)
      | (have HU4 : Hid (AtW EE w4 (.slice p4 k4 c4) al) := hu4.wide)); clear hu4 hb4))
  all_goals first
      | (obtain ⟨W5, hW5⟩ : ∃ W5, W5 = w4.alloc (BD (.slice p4 k4 c4) an) := ⟨_, rfl⟩
         rw [← hW5]
         have HBW : Hid (Below W2.heap.size W2 W5) := by rw [hW5]; exact hb44.alloc hb44.size _
         have HU5 : Hid (AtW EE W5 (.slice p4 k4 c4) al) := by rw [hW5]; exact HU4.out.up ((Below.refl _ _).alloc (Nat.le_refl _) _)
         obtain ⟨b9, hb9⟩ : ∃ b9, b9 = w4.heap.size := ⟨_, rfl⟩
         have HX5 : Hid (W5.heap[b9]? = some (BD (.slice p4 k4 c4) an)) := by rw [hW5, hb9]; exact heap_alloc_new _ _
         rw [← hb9]
         clear hb9 hW5)
      | (obtain ⟨W5, hW5⟩ : ∃ W5, W5 = (w4.setCell ⟨w3.heap.size, 0, none⟩ (.slice p4 k4 c4)).setCell ⟨w3.heap.size, 1, none⟩ (.int .i64 an) := ⟨_, rfl⟩
         rw [← hW5]
         have HBW : Hid (Below W2.heap.size W2 W5) := by rw [hW5]; exact Below.setCell (Below.setCell hb44 (show W2.heap.size ≤ w3.heap.size from h3s) _) (show W2.heap.size ≤ w3.heap.size from h3s) _
         have HU5 : Hid (AtW EE W5 (.slice p4 k4 c4) al) := by rw [hW5]; exact (At.setCell (At.setCell HU4.out (by simp) _) (by simp) _).wide
         obtain ⟨b9, hb9⟩ : ∃ b9, b9 = w3.heap.size := ⟨_, rfl⟩
         have HX5 : Hid (W5.heap[b9]? = some (BD (.slice p4 k4 c4) an)) := by rw [hW5, hb9]; exact setD HZ4.out
         rw [← hb9]
         clear hb9 hW5 f0 f1 ff)
      | (obtain ⟨W5, hW5⟩ : ∃ W5, W5 = (w4.setCell ⟨W2.heap.size, 0, none⟩ (.slice p4 k4 c4)).setCell ⟨W2.heap.size, 1, none⟩ (.int .i64 an) := ⟨_, rfl⟩
         rw [← hW5]
         have HBW : Hid (Below W2.heap.size W2 W5) := by rw [hW5]; exact Below.setCell (Below.setCell hb44 (show W2.heap.size ≤ W2.heap.size from Nat.le_refl _) _) (show W2.heap.size ≤ W2.heap.size from Nat.le_refl _) _
         have HU5 : Hid (AtW EE W5 (.slice p4 k4 c4) al) := by rw [hW5]; exact (At.setCell (At.setCell HU4.out (by simp) _) (by simp) _).wide
         obtain ⟨b9, hb9⟩ : ∃ b9, b9 = W2.heap.size := ⟨_, rfl⟩
         have HX5 : Hid (W5.heap[b9]? = some (BD (.slice p4 k4 c4) an)) := by rw [hW5, hb9]; exact setD HZ4.out
         rw [← hb9]
         clear hb9 hW5 f0 f1 ff)
  all_goals
    obtain ⟨q0, q1, -, -, -, -, -, -, -, -, -, -⟩ := HAD.out _ HBW.out
    obtain ⟨⟨e0, e1⟩, -⟩ := two_ofD HX5.out
    have HB5 : Hid (Below w.heap.size w W5) := HB2.out.trans (HBW.out.mono HB2.out.size)
    by_cases hz : ae = 0
    · subst hz
      have HX : Hid (x.i.next + 1 = an ∧ x.i.ents ++ [(s, x.i.next + 1, no, gen)] = al) := by
        have h := HAE.out
        rw [if_pos rfl, if_pos rfl] at h
        exact h
      have HLN : Hid (al.length ≤ 3518437208883 ∧ At.growErr x.i.kind x.i.links x.i.size x.i.stamp al.length st = 0) := by
        rw [← HX.out.2]
        show _ ∧ _
        have h := HE.out rfl
        simpa using h
      go_wp2_with fail
      refine (sput_any _ L k b an st x p4 k4 c4 al _ (HTG.out _ HBW.out) HK.out HU5.out HLN.out.1 HLN.out.2).mono ?_
      rintro e w7 ⟨u, L', rfl, ht, hp, hb7⟩
      have HB7 : Hid (Below w.heap.size w w7) := HB5.out.trans (hb7.mono HB5.out.size)
      have HT : Hid (TabAt (fun b => w.heap.size ≤ b) w7 u L') := ⟨ht.1.imp fun _ h _ => Nat.le_trans HB5.out.size h, fun y hy => (ht.2 y hy).imp fun _ h _ => Nat.le_trans HB5.out.size h⟩
      have HP : Hid (pl L' = putTab (pl L) k b (Sp.filled x.i al an st)) := hp
      clear hb7 ht hp e0 e1 q0 q1
      go_wp2
      (try simp only [Exit.inBlock, Exit.then])
      refine bodyPost_ret (v := .tuple #[u, .int .i64 0]) (by simp [results, Try.results24, go_sem]) rfl ?_
      exact ⟨u, rfl, L', HT.out, by rw [HX.out.2, HX.out.1]; exact HP.out, HB7.out⟩
    · have HZ : Hid (¬ ae = 0) := hz
      have hz' : (ae != 0) = true := by simpa using hz
      clear hz
      go_wp2
      (try simp only [Exit.inBlock, Exit.then])
      refine bodyPost_ret (v := .tuple #[.slice none 0 0, .int .i64 ae]) (by simp [results, Try.results24, go_sem]) rfl ?_
      exact ⟨_, rfl, [], tab_nil _ _, rfl, HB5.out⟩
end Go.Proofs.Ytacghcoikekfeaa
/- Sp8 -/
namespace Go.Proofs.Ytacghcoikekfeaa
open Go.ChangeShapes Go.WideShapes Go.ChangeAt Go.RowKit Go.Deep It
set_option maxRecDepth 100000
/-- What Check answers, as it is proved elsewhere. -/
def ChkSaid (C : List Ino → Int) : Prop := ∀ (S : Nat → Prop) (v : Value) (L : List Rw) (w : World), TabAt S w v L → Sp.okN L → Calls Try.prog 19 #[v] w fun e w' => e = .returned (.int .i64 (C (pl L))) ∧ Below w.heap.size w w'
namespace Sp
/-- The greatest stamp. -/
def top (L : List Ino) : Int := L.foldl (fun m x => max m x.stamp) 0
theorem top_step {L : List Rw} {k : Nat} {x : Rw} (h : L[k]? = some x) : top (pl (L.take (k + 1))) = max (top (pl (L.take k))) x.i.stamp := by
  rw [List.take_add_one, h]
  simp [top, pl]
def stErr (C : List Ino → Int) (L : List Ino) (st : Int) : Int := if C L = 0 then (if top L ≤ st ∧ st ≤ 1099511627776 then 0 else 1) else C L
end Sp
set_option maxHeartbeats 4000000 in
theorem srefuse_any {C : List Ino → Int} (hC : ChkSaid C) {S : Nat → Prop} (v : Value) (L : List Rw) (st : Int) (w : World) (hv : TabAt S w v L) (hok : Sp.okN L) :
    Calls Try.prog 41 #[v, .int .i64 st] w fun e w' => e = .returned (.int .i64 (Sp.stErr C (pl L) st)) ∧ Below w.heap.size w w' := by
  have HC : Hid (Calls Try.prog 19 #[v] w fun e w' => e = .returned (.int .i64 (C (pl L))) ∧ Below w.heap.size w w') := hC S v L w hv hok
  obtain ⟨ao, cap, rfl, hm, hx⟩ := hv.open
  clear hv hC hok
  unfold maxLen at hm
  obtain ⟨n, hn⟩ : ∃ n, L.length = n := ⟨_, rfl⟩
  rw [hn] at hm HC ⊢
  have HN : Hid (L.length = n) := hn
  have HX : Hid (∀ i x, L[i]? = some x → (∃ b off, ao = some ⟨b, off, none⟩ ∧ b < w.heap.size ∧ eight w b (off + i * 8) x) ∧ Good S w x) := hx
  obtain ⟨ce, hce⟩ : ∃ ce, C (pl L) = ce := ⟨_, rfl⟩
  rw [hce] at HC
  by_cases hz : ce = 0
  · subst hz
    have HR : Hid (Sp.stErr C (pl L) st = if Sp.top (pl L) ≤ st ∧ st ≤ 1099511627776 then 0 else 1) := by show Sp.stErr C (pl L) st = _; unfold Sp.stErr; rw [if_pos hce]
    obtain ⟨r, hr⟩ : ∃ r, Sp.stErr C (pl L) st = r := ⟨_, rfl⟩
    rw [hr] at HR ⊢
    clear hr hce hn hx
    go_enter Try.func41, Try.ntmps41
    go_wp2_with fail
    refine HC.out.mono ?_
    rintro e w1 ⟨rfl, hb1⟩
    have HB1 : Hid (Below w.heap.size w w1) := hb1
    clear hb1
    go_wp2
    go_loopw [6, 16] (fun g i wr => ∃ k : Nat, k ≤ n ∧ i = .int .i64 k ∧ g = .int .i64 (Sp.top (pl (L.take k))) ∧ Hid (Below w.heap.size w wr)) (fun _ i _ => n - (intOf i).toNat)
    case atStart => exact ⟨0, Nat.zero_le _, rfl, rfl, HB1.out⟩
    case round =>
      obtain ⟨k, hk, rfl, rfl, HB⟩ := hrel
      have hsz := HB.out.size
      obtain ⟨g, hg⟩ : ∃ g, Sp.top (pl (L.take k)) = g := ⟨_, rfl⟩
      have HGG : Hid (Sp.top (pl (L.take k)) = g) := hg
      rw [hg]
      clear hg
      by_cases hlt : k < n
      · obtain ⟨x, hxk⟩ : ∃ x, L[k]? = some x := ⟨_, List.getElem?_eq_getElem (by rw [HN.out]; exact hlt)⟩
        have HXK : Hid (L[k]? = some x) := hxk
        obtain ⟨⟨b, off, rfl, hB, hc⟩, -⟩ := HX.out k x hxk
        obtain ⟨c0, c1, c2, c3, c4, c5, c6, c7⟩ := hc.below HB.out hB
        have hlt' : (k : Int) < (n : Int) := by omega
        clear hc hxk
        go_wp2
        refine ⟨⟨k + 1, by omega, by go_num, ?_, HB.out.alloc hsz _⟩, ?_⟩
        · rw [Sp.top_step HXK.out, HGG.out]
          congr 1
          split <;> omega
        · simp [intOf]
          omega
      · obtain rfl : k = n := by omega
        have HT : Hid (Sp.top (pl L) = g) := by
          show Sp.top (pl L) = g
          rw [← HGG.out, List.take_of_length_le (by rw [HN.out]; exact Nat.le_refl _)]
        by_cases hw : g ≤ st ∧ st ≤ 1099511627776
        · have H : Hid (r = 0) := by show r = 0; rw [HR.out, HT.out, if_pos hw]
          have HW : Hid (decide (g ≤ st ∧ st ≤ 1099511627776) = true) := decide_eq_true hw
          clear hw hlt
          go_wp2_with fail
          refine (swithin_any _ _ _ _).mono ?_
          rintro e w2 ⟨rfl, hw2⟩
          subst hw2
          rw [HW.out]
          go_wp2
          go_ret
          rw [H.out]
          exact ⟨rfl, HB.out⟩
        · have H : Hid (r = 1) := by show r = 1; rw [HR.out, HT.out, if_neg hw]
          have HW : Hid (decide (g ≤ st ∧ st ≤ 1099511627776) = false) := decide_eq_false hw
          clear hw hlt
          go_wp2_with fail
          refine (swithin_any _ _ _ _).mono ?_
          rintro e w2 ⟨rfl, hw2⟩
          subst hw2
          rw [HW.out]
          go_wp2
          go_ret
          rw [H.out]
          exact ⟨rfl, HB.out⟩
  · have HR : Hid (Sp.stErr C (pl L) st = ce) := by show Sp.stErr C (pl L) st = _; unfold Sp.stErr; rw [if_neg (by rw [hce]; exact hz), hce]
    have hz' : (ce != 0) = true := by simpa using hz
    rw [HR.out]
    clear hce hz hn hx
    go_enter Try.func41, Try.ntmps41
    go_wp2_with fail
    refine HC.out.mono ?_
    rintro e w1 ⟨rfl, hb1⟩
    have HB1 : Hid (Below w.heap.size w w1) := hb1
    clear hb1
    go_wp2
    go_ret
    exact ⟨rfl, HB1.out⟩
end Go.Proofs.Ytacghcoikekfeaa
/- Sp9 -/
namespace Go.Proofs.Ytacghcoikekfeaa
open Go.ChangeShapes Go.WideShapes Go.ChangeAt Go.RowKit Go.Deep It
set_option maxRecDepth 100000
namespace Sp
noncomputable def atErr (C : List Ino → Int) (L : List Ino) (a b : Int) (s : ByteArray) : Int := if C L = 0 then lookErr L a b s else C L
noncomputable def atH (C : List Ino → Int) (L : List Ino) (a b : Int) (s : ByteArray) : Int × Int := if C L = 0 then lookH L a b s else (0, 0)
noncomputable def toErr (C : List Ino → Int) (L : List Ino) (st a b : Int) (s : ByteArray) : Int := if stErr C L st = 0 then lookErr L a b s else stErr C L st
noncomputable def toH (C : List Ino → Int) (L : List Ino) (st a b : Int) (s : ByteArray) : Int × Int := if stErr C L st = 0 then lookH L a b s else (0, 0)
noncomputable def makeErr (C : List Ino → Int) (L : List Ino) (a b : Int) (s : ByteArray) (kind st : Int) : Int := if stErr C L st = 0 then (if kind = 1 ∨ kind = 2 then nameErr L a b s else 1) else stErr C L st
end Sp
set_option maxHeartbeats 2000000 in
theorem look_any {C : List Ino → Int} (hC : ChkSaid C) {S : Nat → Prop} (v : Value) (L : List Rw) (a b : Int) (s : ByteArray) (w : World) (hv : TabAt S w v L) (hok : Sp.okN L) (hs : s.size ≤ maxLen) :
    Calls Try.prog 10 #[v, .agg #[.int .i64 a, .int .i64 b], .string s] w fun e w' => e = .returned (.tuple #[.agg #[.int .i64 (Sp.atH C (pl L) a b s).1, .int .i64 (Sp.atH C (pl L) a b s).2], .int .i64 (Sp.atErr C (pl L) a b s)]) ∧ Below w.heap.size w w' := by
  obtain ⟨W, hW⟩ : ∃ W, W = (w.alloc (BH a b)).alloc (BH 0 0) := ⟨_, rfl⟩
  have HB0 : Hid (Below w.heap.size w W) := by show Below w.heap.size w W; rw [hW]; exact ((Below.refl _ w).alloc (Nat.le_refl _) _).alloc (by simp) _
  have HA0 : Hid (W.heap[w.heap.size]? = some (BH a b) ∧ W.heap[w.heap.size + 1]? = some (BH 0 0)) := by
    rw [hW]
    refine ⟨(Below.heap_alloc _ _ _ (by simp)).trans (heap_alloc_new _ _), ?_⟩
    have := heap_alloc_new (w.alloc (BH a b)) (BH 0 0)
    rwa [show (w.alloc (BH a b)).heap.size = w.heap.size + 1 by simp] at this
  have hws : w.heap.size + 1 < W.heap.size := by rw [hW]; simp
  have HV : Hid (TabAt S W v L) := hv.up HB0.out
  obtain ⟨ao, cap, rfl, _, _⟩ := hv.open
  have HOK : Hid (Sp.okN L) := hok
  have HSM : Hid (s.size ≤ maxLen) := hs
  have HCC : Hid (ChkSaid C) := hC
  clear hv hok hs hC
  obtain ⟨ce, hce⟩ : ∃ ce, C (pl L) = ce := ⟨_, rfl⟩
  have HCE : Hid (C (pl L) = ce) := hce
  by_cases hz : ce = 0
  · subst hz
    obtain ⟨q, hq⟩ : ∃ q, Sp.lookH (pl L) a b s = q := ⟨_, rfl⟩
    obtain ⟨fe, hfe⟩ : ∃ fe, Sp.lookErr (pl L) a b s = fe := ⟨_, rfl⟩
    have HF : Hid (Sp.lookH (pl L) a b s = q ∧ Sp.lookErr (pl L) a b s = fe) := ⟨hq, hfe⟩
    rw [show Sp.atErr C (pl L) a b s = fe by unfold Sp.atErr; rw [if_pos hce, hfe], show Sp.atH C (pl L) a b s = q by unfold Sp.atH; rw [if_pos hce, hq]]
    clear hq hfe hce
    go_enter Try.func10, Try.ntmps10
    go_wp2_with fail
    rw [← hW]
    refine (HCC.out S _ L _ HV.out HOK.out).mono ?_
    rintro e w1 ⟨rfl, hb1⟩
    rw [HCE.out]
    have HB1 : Hid (Below w.heap.size w w1) := HB0.out.trans (hb1.mono HB0.out.size)
    have HA1 : Hid (w1.heap[w.heap.size]? = some (BH a b) ∧ w1.heap[w.heap.size + 1]? = some (BH 0 0)) := ⟨(hb1.block _ (by omega)).trans HA0.out.1, (hb1.block _ (by omega)).trans HA0.out.2⟩
    have hws1 : w.heap.size + 1 < w1.heap.size := by have := hb1.size; omega
    have HV1 : Hid (TabAt S w1 (.slice ao L.length cap) L) := HV.out.up hb1
    obtain ⟨⟨a0, a1⟩, _⟩ := two_of HA1.out.1
    clear hb1 hW HV HA0
    go_wp2_with fail
    refine (sfind_any _ L a b s _ HV1.out HOK.out HSM.out).mono ?_
    rintro e w2 ⟨rfl, hb2⟩
    rw [HF.out.1, HF.out.2]
    have HB3 : Hid (Below w.heap.size w w2) := HB1.out.trans (hb2.mono HB1.out.size)
    obtain ⟨⟨z0, z1⟩, zf⟩ := two_of ((hb2.block _ hws1).trans HA1.out.2)
    clear hb2 a0 a1
    go_wp2
    (try simp only [Exit.inBlock, Exit.then])
    refine bodyPost_ret (v := .tuple #[.agg #[.int .i64 q.1, .int .i64 q.2], .int .i64 fe]) ?_ rfl ⟨rfl, ?_⟩
    · rw [results_cell_tmp rfl]
      go_simp
    · repeat (first | exact HB3.out | refine Below.setCell ?_ (by simp) _)
  · rw [show Sp.atErr C (pl L) a b s = ce by unfold Sp.atErr; rw [if_neg (by rw [hce]; exact hz), hce], show Sp.atH C (pl L) a b s = (0, 0) by unfold Sp.atH; rw [if_neg (by rw [hce]; exact hz)]]
    have hz' : (ce != 0) = true := by simpa using hz
    clear hz hce
    go_enter Try.func10, Try.ntmps10
    go_wp2_with fail
    rw [← hW]
    refine (HCC.out S _ L _ HV.out HOK.out).mono ?_
    rintro e w1 ⟨rfl, hb1⟩
    rw [HCE.out]
    have HB1 : Hid (Below w.heap.size w w1) := HB0.out.trans (hb1.mono HB0.out.size)
    obtain ⟨⟨z0, z1⟩, zf⟩ := two_of ((hb1.block _ (by omega)).trans HA0.out.2)
    clear hb1 hW HV HA0
    go_wp2
    (try simp only [Exit.inBlock, Exit.then])
    refine bodyPost_ret (v := .tuple #[.agg #[.int .i64 0, .int .i64 0], .int .i64 ce]) ?_ rfl ⟨rfl, ?_⟩
    · rw [results_cell_tmp rfl]
      go_simp
    · repeat (first | exact HB1.out | refine Below.setCell ?_ (by simp) _)
set_option maxHeartbeats 2000000 in
theorem toChange_any {C : List Ino → Int} (hC : ChkSaid C) {S : Nat → Prop} (v : Value) (L : List Rw) (a b : Int) (s : ByteArray) (st : Int) (w : World) (hv : TabAt S w v L) (hok : Sp.okN L) (hs : s.size ≤ maxLen) :
    Calls Try.prog 26 #[v, .agg #[.int .i64 a, .int .i64 b], .string s, .int .i64 st] w fun e w' => e = .returned (.tuple #[.agg #[.int .i64 (Sp.toH C (pl L) st a b s).1, .int .i64 (Sp.toH C (pl L) st a b s).2], .int .i64 (Sp.toErr C (pl L) st a b s)]) ∧ Below w.heap.size w w' := by
  obtain ⟨W, hW⟩ : ∃ W, W = (w.alloc (BH a b)).alloc (BH 0 0) := ⟨_, rfl⟩
  have HB0 : Hid (Below w.heap.size w W) := by show Below w.heap.size w W; rw [hW]; exact ((Below.refl _ w).alloc (Nat.le_refl _) _).alloc (by simp) _
  have HA0 : Hid (W.heap[w.heap.size]? = some (BH a b) ∧ W.heap[w.heap.size + 1]? = some (BH 0 0)) := by
    rw [hW]
    refine ⟨(Below.heap_alloc _ _ _ (by simp)).trans (heap_alloc_new _ _), ?_⟩
    have := heap_alloc_new (w.alloc (BH a b)) (BH 0 0)
    rwa [show (w.alloc (BH a b)).heap.size = w.heap.size + 1 by simp] at this
  have hws : w.heap.size + 1 < W.heap.size := by rw [hW]; simp
  have HV : Hid (TabAt S W v L) := hv.up HB0.out
  obtain ⟨ao, cap, rfl, _, _⟩ := hv.open
  have HOK : Hid (Sp.okN L) := hok
  have HSM : Hid (s.size ≤ maxLen) := hs
  have HCC : Hid (ChkSaid C) := hC
  clear hv hok hs hC
  obtain ⟨ce, hce⟩ : ∃ ce, Sp.stErr C (pl L) st = ce := ⟨_, rfl⟩
  have HCE : Hid (Sp.stErr C (pl L) st = ce) := hce
  by_cases hz : ce = 0
  · subst hz
    obtain ⟨q, hq⟩ : ∃ q, Sp.lookH (pl L) a b s = q := ⟨_, rfl⟩
    obtain ⟨fe, hfe⟩ : ∃ fe, Sp.lookErr (pl L) a b s = fe := ⟨_, rfl⟩
    have HF : Hid (Sp.lookH (pl L) a b s = q ∧ Sp.lookErr (pl L) a b s = fe) := ⟨hq, hfe⟩
    rw [show Sp.toErr C (pl L) st a b s = fe by unfold Sp.toErr; rw [if_pos hce, hfe], show Sp.toH C (pl L) st a b s = q by unfold Sp.toH; rw [if_pos hce, hq]]
    clear hq hfe hce
    go_enter Try.func26, Try.ntmps26
    go_wp2_with fail
    rw [← hW]
    refine (srefuse_any HCC.out _ L st _ HV.out HOK.out).mono ?_
    rintro e w1 ⟨rfl, hb1⟩
    rw [HCE.out]
    have HB1 : Hid (Below w.heap.size w w1) := HB0.out.trans (hb1.mono HB0.out.size)
    have HA1 : Hid (w1.heap[w.heap.size]? = some (BH a b) ∧ w1.heap[w.heap.size + 1]? = some (BH 0 0)) := ⟨(hb1.block _ (by omega)).trans HA0.out.1, (hb1.block _ (by omega)).trans HA0.out.2⟩
    have hws1 : w.heap.size + 1 < w1.heap.size := by have := hb1.size; omega
    have HV1 : Hid (TabAt S w1 (.slice ao L.length cap) L) := HV.out.up hb1
    obtain ⟨⟨a0, a1⟩, _⟩ := two_of HA1.out.1
    clear hb1 hW HV HA0
    go_wp2_with fail
    refine (sfind_any _ L a b s _ HV1.out HOK.out HSM.out).mono ?_
    rintro e w2 ⟨rfl, hb2⟩
    rw [HF.out.1, HF.out.2]
    have HB3 : Hid (Below w.heap.size w w2) := HB1.out.trans (hb2.mono HB1.out.size)
    obtain ⟨⟨z0, z1⟩, zf⟩ := two_of ((hb2.block _ hws1).trans HA1.out.2)
    clear hb2 a0 a1
    go_wp2
    (try simp only [Exit.inBlock, Exit.then])
    refine bodyPost_ret (v := .tuple #[.agg #[.int .i64 q.1, .int .i64 q.2], .int .i64 fe]) ?_ rfl ⟨rfl, ?_⟩
    · rw [results_cell_tmp rfl]
      go_simp
    · repeat (first | exact HB3.out | refine Below.setCell ?_ (by simp) _)
  · rw [show Sp.toErr C (pl L) st a b s = ce by unfold Sp.toErr; rw [if_neg (by rw [hce]; exact hz), hce], show Sp.toH C (pl L) st a b s = (0, 0) by unfold Sp.toH; rw [if_neg (by rw [hce]; exact hz)]]
    have hz' : (ce != 0) = true := by simpa using hz
    clear hz hce
    go_enter Try.func26, Try.ntmps26
    go_wp2_with fail
    rw [← hW]
    refine (srefuse_any HCC.out _ L st _ HV.out HOK.out).mono ?_
    rintro e w1 ⟨rfl, hb1⟩
    rw [HCE.out]
    have HB1 : Hid (Below w.heap.size w w1) := HB0.out.trans (hb1.mono HB0.out.size)
    obtain ⟨⟨z0, z1⟩, zf⟩ := two_of ((hb1.block _ (by omega)).trans HA0.out.2)
    clear hb1 hW HV HA0
    go_wp2
    (try simp only [Exit.inBlock, Exit.then])
    refine bodyPost_ret (v := .tuple #[.agg #[.int .i64 0, .int .i64 0], .int .i64 ce]) ?_ rfl ⟨rfl, ?_⟩
    · rw [results_cell_tmp rfl]
      go_simp
    · repeat (first | exact HB1.out | refine Below.setCell ?_ (by simp) _)
end Go.Proofs.Ytacghcoikekfeaa
/- Sp10 -/
namespace Go.Proofs.Ytacghcoikekfeaa
open Go.ChangeShapes Go.WideShapes Go.ChangeAt Go.RowKit Go.Deep It
set_option maxRecDepth 100000
set_option maxHeartbeats 2000000 in
theorem refuseMake_any {C : List Ino → Int} (hC : ChkSaid C) {S : Nat → Prop} (v : Value) (L : List Rw) (a b : Int) (s : ByteArray) (kind st : Int) (w : World) (hv : TabAt S w v L) (hok : Sp.okN L) (hs : s.size ≤ maxLen) :
    Calls Try.prog 22 #[v, .agg #[.int .i64 a, .int .i64 b], .string s, .int .i64 kind, .int .i64 st] w fun e w' => e = .returned (.int .i64 (Sp.makeErr C (pl L) a b s kind st)) ∧ Below w.heap.size w w' := by
  have HB0 : Hid (Below w.heap.size w (w.alloc (BH a b))) := (Below.refl _ w).alloc (Nat.le_refl _) _
  have HA0 : Hid ((w.alloc (BH a b)).heap[w.heap.size]? = some (BH a b)) := heap_alloc_new _ _
  obtain ⟨W, hW⟩ : ∃ W, W = w.alloc (BH a b) := ⟨_, rfl⟩
  rw [← hW] at HB0 HA0
  have hws : w.heap.size < W.heap.size := by rw [hW]; simp
  have HV : Hid (TabAt S W v L) := hv.up HB0.out
  obtain ⟨ao, cap, rfl, _, _⟩ := hv.open
  have HOK : Hid (Sp.okN L) := hok
  have HSM : Hid (s.size ≤ maxLen) := hs
  have HCC : Hid (ChkSaid C) := hC
  clear hv hok hs hC
  obtain ⟨ce, hce⟩ : ∃ ce, Sp.stErr C (pl L) st = ce := ⟨_, rfl⟩
  have HCE : Hid (Sp.stErr C (pl L) st = ce) := hce
  by_cases hz : ce = 0
  · subst hz
    obtain ⟨ne, hne⟩ : ∃ ne, Sp.nameErr (pl L) a b s = ne := ⟨_, rfl⟩
    have HNE : Hid (Sp.nameErr (pl L) a b s = ne) := hne
    by_cases hk : kind = 1 ∨ kind = 2
    · rw [show Sp.makeErr C (pl L) a b s kind st = ne by unfold Sp.makeErr; rw [if_pos hce, if_pos hk, hne]]
      clear hce hne
      rcases hk with rfl | rfl
      · go_enter Try.func22, Try.ntmps22
        go_wp2_with fail
        rw [← hW]
        refine (srefuse_any HCC.out _ L st _ HV.out HOK.out).mono ?_
        rintro e w1 ⟨rfl, hb1⟩
        rw [HCE.out]
        have HB1 : Hid (Below w.heap.size w w1) := HB0.out.trans (hb1.mono HB0.out.size)
        have HA1 : Hid (w1.heap[w.heap.size]? = some (BH a b)) := (hb1.block _ hws).trans HA0.out
        have HV1 : Hid (TabAt S w1 (.slice ao L.length cap) L) := HV.out.up hb1
        obtain ⟨⟨a0, a1⟩, _⟩ := two_of HA1.out
        clear hb1 hW HV HA0
        go_wp2_with fail
        refine (refuseName_any _ L a b s _ HV1.out HOK.out HSM.out).mono ?_
        rintro e w2 ⟨rfl, hb2⟩
        rw [HNE.out]
        have HB2 : Hid (Below w.heap.size w w2) := HB1.out.trans (hb2.mono HB1.out.size)
        clear hb2 a0 a1
        go_wp2
        go_ret
        exact ⟨rfl, HB2.out⟩
      · go_enter Try.func22, Try.ntmps22
        go_wp2_with fail
        rw [← hW]
        refine (srefuse_any HCC.out _ L st _ HV.out HOK.out).mono ?_
        rintro e w1 ⟨rfl, hb1⟩
        rw [HCE.out]
        have HB1 : Hid (Below w.heap.size w w1) := HB0.out.trans (hb1.mono HB0.out.size)
        have HA1 : Hid (w1.heap[w.heap.size]? = some (BH a b)) := (hb1.block _ hws).trans HA0.out
        have HV1 : Hid (TabAt S w1 (.slice ao L.length cap) L) := HV.out.up hb1
        obtain ⟨⟨a0, a1⟩, _⟩ := two_of HA1.out
        clear hb1 hW HV HA0
        go_wp2_with fail
        refine (refuseName_any _ L a b s _ HV1.out HOK.out HSM.out).mono ?_
        rintro e w2 ⟨rfl, hb2⟩
        rw [HNE.out]
        have HB2 : Hid (Below w.heap.size w w2) := HB1.out.trans (hb2.mono HB1.out.size)
        clear hb2 a0 a1
        go_wp2
        go_ret
        exact ⟨rfl, HB2.out⟩
    · rw [show Sp.makeErr C (pl L) a b s kind st = 1 by unfold Sp.makeErr; rw [if_pos hce, if_neg hk]]
      have k1 : (kind != 1) = true := by simpa using fun h => hk (.inl h)
      have k2 : (kind != 2) = true := by simpa using fun h => hk (.inr h)
      clear hce hne hk
      go_enter Try.func22, Try.ntmps22
      go_wp2_with fail
      rw [← hW]
      refine (srefuse_any HCC.out _ L st _ HV.out HOK.out).mono ?_
      rintro e w1 ⟨rfl, hb1⟩
      rw [HCE.out]
      have HB1 : Hid (Below w.heap.size w w1) := HB0.out.trans (hb1.mono HB0.out.size)
      clear hb1 hW HV HA0
      go_wp2
      go_ret
      exact ⟨rfl, HB1.out⟩
  · rw [show Sp.makeErr C (pl L) a b s kind st = ce by unfold Sp.makeErr; rw [if_neg (by rw [hce]; exact hz), hce]]
    have hz' : (ce != 0) = true := by simpa using hz
    clear hz hce
    go_enter Try.func22, Try.ntmps22
    go_wp2_with fail
    rw [← hW]
    refine (srefuse_any HCC.out _ L st _ HV.out HOK.out).mono ?_
    rintro e w1 ⟨rfl, hb1⟩
    rw [HCE.out]
    have HB1 : Hid (Below w.heap.size w w1) := HB0.out.trans (hb1.mono HB0.out.size)
    clear hb1 hW HV HA0
    go_wp2
    go_ret
    exact ⟨rfl, HB1.out⟩
end Go.Proofs.Ytacghcoikekfeaa
/- Sp11 -/
namespace Go.Proofs.Ytacghcoikekfeaa
open Go.ChangeShapes Go.WideShapes Go.ChangeAt Go.RowKit Go.Deep It
set_option maxRecDepth 100000
noncomputable def Sp.linkErr (C : List Ino → Int) (L : List Ino) (a b c d : Int) (s : ByteArray) (st : Int) : Int :=
  if stErr C L st = 0 then (if findErr L a b = 0 then (if (findI L a b).kind = 2 then 405 else if nameErr L c d s = 0 then (if (findI L a b).links = 64 then 407 else 0) else nameErr L c d s) else findErr L a b) else stErr C L st
set_option maxHeartbeats 4000000 in
theorem refuseLink_any {C : List Ino → Int} (hC : ChkSaid C) {S : Nat → Prop} (v : Value) (L : List Rw) (a b c d : Int) (s : ByteArray) (st : Int) (w : World) (hv : TabAt S w v L) (hok : Sp.okN L) (hs : s.size ≤ maxLen) :
    Calls Try.prog 32 #[v, .agg #[.int .i64 a, .int .i64 b], .agg #[.int .i64 c, .int .i64 d], .string s, .int .i64 st] w fun e w' => e = .returned (.int .i64 (Sp.linkErr C (pl L) a b c d s st)) ∧ Below w.heap.size w w' := by
  obtain ⟨W, hW⟩ : ∃ W, W = (w.alloc (BH a b)).alloc (BH c d) := ⟨_, rfl⟩
  have HB0 : Hid (Below w.heap.size w W) := by show Below w.heap.size w W; rw [hW]; exact ((Below.refl _ w).alloc (Nat.le_refl _) _).alloc (by simp) _
  have HA0 : Hid (W.heap[w.heap.size]? = some (BH a b) ∧ W.heap[w.heap.size + 1]? = some (BH c d)) := by
    rw [hW]
    refine ⟨(Below.heap_alloc _ _ _ (by simp)).trans (heap_alloc_new _ _), ?_⟩
    have := heap_alloc_new (w.alloc (BH a b)) (BH c d)
    rwa [show (w.alloc (BH a b)).heap.size = w.heap.size + 1 by simp] at this
  have hws : w.heap.size + 1 < W.heap.size := by rw [hW]; simp
  have HV : Hid (TabAt S W v L) := hv.up HB0.out
  obtain ⟨ao, cap, rfl, _, _⟩ := hv.open
  have HOK : Hid (Sp.okN L) := hok
  have HSM : Hid (s.size ≤ maxLen) := hs
  have HCC : Hid (ChkSaid C) := hC
  clear hv hok hs hC
  obtain ⟨r, hr⟩ : ∃ r, Sp.linkErr C (pl L) a b c d s st = r := ⟨_, rfl⟩
  rw [hr]
  unfold Sp.linkErr at hr
  obtain ⟨ce, hce⟩ : ∃ ce, Sp.stErr C (pl L) st = ce := ⟨_, rfl⟩
  have HCE : Hid (Sp.stErr C (pl L) st = ce) := hce
  obtain ⟨fe, hfe⟩ : ∃ fe, findErr (pl L) a b = fe := ⟨_, rfl⟩
  have HFE : Hid (findErr (pl L) a b = fe) := hfe
  obtain ⟨ne, hne⟩ : ∃ ne, Sp.nameErr (pl L) c d s = ne := ⟨_, rfl⟩
  have HNE : Hid (Sp.nameErr (pl L) c d s = ne) := hne
  rw [hce, hfe, hne] at hr
  clear hce hfe hne
  by_cases hz : ce = 0
  · rw [if_pos hz] at hr
    subst hz
    by_cases hf : fe = 0
    · rw [if_pos hf] at hr
      subst hf
      by_cases hk : (findI (pl L) a b).kind = 2
      · rw [if_pos hk] at hr
        subst hr
        have hk2 : ((findI (pl L) a b).kind == 2) = true := by simp [hk]
        clear hk
        go_enter Try.func32, Try.ntmps32
        go_wp2_with fail
        rw [← hW]
        refine (srefuse_any HCC.out _ L st _ HV.out HOK.out).mono ?_
        rintro e w1 ⟨rfl, hb1⟩
        rw [HCE.out]
        have HB1 : Hid (Below w.heap.size w w1) := HB0.out.trans (hb1.mono HB0.out.size)
        have HA1 : Hid (w1.heap[w.heap.size]? = some (BH a b) ∧ w1.heap[w.heap.size + 1]? = some (BH c d)) := ⟨(hb1.block _ (by omega)).trans HA0.out.1, (hb1.block _ (by omega)).trans HA0.out.2⟩
        have hws1 : w.heap.size + 1 < w1.heap.size := by have := hb1.size; omega
        have HV1 : Hid (TabAt S w1 (.slice ao L.length cap) L) := HV.out.up hb1
        obtain ⟨⟨a0, a1⟩, _⟩ := two_of HA1.out.1
        clear hb1 hW HV HA0
        go_wp2_with fail
        refine (find_any _ L a b _ HV1.out).mono ?_
        rintro e w2 ⟨x, rfl, hxi, -, hb2⟩
        rw [HFE.out]
        have HB2 : Hid (Below w.heap.size w w2) := HB1.out.trans (hb2.mono HB1.out.size)
        have HA2 : Hid (w2.heap[w.heap.size + 1]? = some (BH c d)) := (hb2.block _ hws1).trans HA1.out.2
        have hws2 : w.heap.size + 1 < w2.heap.size := by have := hb2.size; omega
        have HV2 : Hid (TabAt S w2 (.slice ao L.length cap) L) := HV1.out.up hb2
        have HK : Hid (x.i.kind = (findI (pl L) a b).kind ∧ x.i.links = (findI (pl L) a b).links) := by rw [hxi]; exact ⟨rfl, rfl⟩
        have hkk : (x.i.kind == 2) = true := by rw [HK.out.1]; exact hk2
        obtain ⟨⟨q0, q1, q2, q3, q4, q5, q6, q7⟩, -⟩ := eight_of (heap_alloc_new w2 (BIx x))
        clear hb2 a0 a1 hxi
        go_wp2_with fail
        refine (isDir_any x _).mono ?_
        rintro e w3 ⟨rfl, hw3⟩
        rw [hkk]
        have hb3 : Below w2.heap.size w2 w3 := by rw [hw3]; exact ((Below.refl _ _).alloc (Nat.le_refl _) _).alloc (by simp) _
        have hb3' : Below (w2.alloc (BIx x)).heap.size (w2.alloc (BIx x)) w3 := by rw [hw3]; exact (Below.refl _ _).alloc (Nat.le_refl _) _
        have HB3 : Hid (Below w.heap.size w w3) := HB2.out.trans (hb3.mono HB2.out.size)
        clear hb3 hb3' hw3 q0 q1 q2 q3 q4 q5 q6 q7
        go_wp2
        go_ret
        exact ⟨rfl, HB3.out⟩
      · rw [if_neg hk] at hr
        have hk2 : ((findI (pl L) a b).kind == 2) = false := beq_eq_false_iff_ne.2 hk
        clear hk
        by_cases hn : ne = 0
        · rw [if_pos hn] at hr
          subst hn
          by_cases hl : (findI (pl L) a b).links = 64
          · rw [if_pos hl] at hr
            subst hr
            have hl2 : ((findI (pl L) a b).links == 64) = true := by simp [hl]
            clear hl
            go_enter Try.func32, Try.ntmps32
            go_wp2_with fail
            rw [← hW]
            refine (srefuse_any HCC.out _ L st _ HV.out HOK.out).mono ?_
            rintro e w1 ⟨rfl, hb1⟩
            rw [HCE.out]
            have HB1 : Hid (Below w.heap.size w w1) := HB0.out.trans (hb1.mono HB0.out.size)
            have HA1 : Hid (w1.heap[w.heap.size]? = some (BH a b) ∧ w1.heap[w.heap.size + 1]? = some (BH c d)) := ⟨(hb1.block _ (by omega)).trans HA0.out.1, (hb1.block _ (by omega)).trans HA0.out.2⟩
            have hws1 : w.heap.size + 1 < w1.heap.size := by have := hb1.size; omega
            have HV1 : Hid (TabAt S w1 (.slice ao L.length cap) L) := HV.out.up hb1
            obtain ⟨⟨a0, a1⟩, _⟩ := two_of HA1.out.1
            clear hb1 hW HV HA0
            go_wp2_with fail
            refine (find_any _ L a b _ HV1.out).mono ?_
            rintro e w2 ⟨x, rfl, hxi, -, hb2⟩
            rw [HFE.out]
            have HB2 : Hid (Below w.heap.size w w2) := HB1.out.trans (hb2.mono HB1.out.size)
            have HA2 : Hid (w2.heap[w.heap.size + 1]? = some (BH c d)) := (hb2.block _ hws1).trans HA1.out.2
            have hws2 : w.heap.size + 1 < w2.heap.size := by have := hb2.size; omega
            have HV2 : Hid (TabAt S w2 (.slice ao L.length cap) L) := HV1.out.up hb2
            have HK : Hid (x.i.kind = (findI (pl L) a b).kind ∧ x.i.links = (findI (pl L) a b).links) := by rw [hxi]; exact ⟨rfl, rfl⟩
            have hkk : (x.i.kind == 2) = false := by rw [HK.out.1]; exact hk2
            obtain ⟨⟨q0, q1, q2, q3, q4, q5, q6, q7⟩, -⟩ := eight_of (heap_alloc_new w2 (BIx x))
            clear hb2 a0 a1 hxi
            go_wp2_with fail
            refine (isDir_any x _).mono ?_
            rintro e w3 ⟨rfl, hw3⟩
            rw [hkk]
            have hb3 : Below w2.heap.size w2 w3 := by rw [hw3]; exact ((Below.refl _ _).alloc (Nat.le_refl _) _).alloc (by simp) _
            have hb3' : Below (w2.alloc (BIx x)).heap.size (w2.alloc (BIx x)) w3 := by rw [hw3]; exact (Below.refl _ _).alloc (Nat.le_refl _) _
            have HB3 : Hid (Below w.heap.size w w3) := HB2.out.trans (hb3.mono HB2.out.size)
            have HX3 : Hid (w3.heap[w2.heap.size]? = some (BIx x)) := (hb3'.block _ (by simp)).trans (heap_alloc_new w2 (BIx x))
            have hws3 : w2.heap.size < w3.heap.size := (Array.getElem?_eq_some_iff.1 HX3.out).1
            have HV3 : Hid (TabAt S w3 (.slice ao L.length cap) L) := HV2.out.up hb3
            obtain ⟨⟨a0, a1⟩, _⟩ := two_of ((hb3.block _ hws2).trans HA2.out)
            clear hb3 hb3' hw3 q0 q1 q2 q3 q4 q5 q6 q7
            go_wp2_with fail
            refine (refuseName_any _ L c d s _ HV3.out HOK.out HSM.out).mono ?_
            rintro e w4 ⟨rfl, hb4⟩
            rw [HNE.out]
            have HB4 : Hid (Below w.heap.size w w4) := HB3.out.trans (hb4.mono HB3.out.size)
            have hll : (x.i.links == 64) = true := by rw [HK.out.2]; exact hl2
            obtain ⟨⟨q0, q1, q2, q3, q4, q5, q6, q7⟩, -⟩ := eight_of ((hb4.block _ hws3).trans HX3.out)
            clear hb4 a0 a1
            go_wp2
            go_ret
            exact ⟨rfl, HB4.out⟩
          · rw [if_neg hl] at hr
            subst hr
            have hl2 : ((findI (pl L) a b).links == 64) = false := beq_eq_false_iff_ne.2 hl
            clear hl
            go_enter Try.func32, Try.ntmps32
            go_wp2_with fail
            rw [← hW]
            refine (srefuse_any HCC.out _ L st _ HV.out HOK.out).mono ?_
            rintro e w1 ⟨rfl, hb1⟩
            rw [HCE.out]
            have HB1 : Hid (Below w.heap.size w w1) := HB0.out.trans (hb1.mono HB0.out.size)
            have HA1 : Hid (w1.heap[w.heap.size]? = some (BH a b) ∧ w1.heap[w.heap.size + 1]? = some (BH c d)) := ⟨(hb1.block _ (by omega)).trans HA0.out.1, (hb1.block _ (by omega)).trans HA0.out.2⟩
            have hws1 : w.heap.size + 1 < w1.heap.size := by have := hb1.size; omega
            have HV1 : Hid (TabAt S w1 (.slice ao L.length cap) L) := HV.out.up hb1
            obtain ⟨⟨a0, a1⟩, _⟩ := two_of HA1.out.1
            clear hb1 hW HV HA0
            go_wp2_with fail
            refine (find_any _ L a b _ HV1.out).mono ?_
            rintro e w2 ⟨x, rfl, hxi, -, hb2⟩
            rw [HFE.out]
            have HB2 : Hid (Below w.heap.size w w2) := HB1.out.trans (hb2.mono HB1.out.size)
            have HA2 : Hid (w2.heap[w.heap.size + 1]? = some (BH c d)) := (hb2.block _ hws1).trans HA1.out.2
            have hws2 : w.heap.size + 1 < w2.heap.size := by have := hb2.size; omega
            have HV2 : Hid (TabAt S w2 (.slice ao L.length cap) L) := HV1.out.up hb2
            have HK : Hid (x.i.kind = (findI (pl L) a b).kind ∧ x.i.links = (findI (pl L) a b).links) := by rw [hxi]; exact ⟨rfl, rfl⟩
            have hkk : (x.i.kind == 2) = false := by rw [HK.out.1]; exact hk2
            obtain ⟨⟨q0, q1, q2, q3, q4, q5, q6, q7⟩, -⟩ := eight_of (heap_alloc_new w2 (BIx x))
            clear hb2 a0 a1 hxi
            go_wp2_with fail
            refine (isDir_any x _).mono ?_
            rintro e w3 ⟨rfl, hw3⟩
            rw [hkk]
            have hb3 : Below w2.heap.size w2 w3 := by rw [hw3]; exact ((Below.refl _ _).alloc (Nat.le_refl _) _).alloc (by simp) _
            have hb3' : Below (w2.alloc (BIx x)).heap.size (w2.alloc (BIx x)) w3 := by rw [hw3]; exact (Below.refl _ _).alloc (Nat.le_refl _) _
            have HB3 : Hid (Below w.heap.size w w3) := HB2.out.trans (hb3.mono HB2.out.size)
            have HX3 : Hid (w3.heap[w2.heap.size]? = some (BIx x)) := (hb3'.block _ (by simp)).trans (heap_alloc_new w2 (BIx x))
            have hws3 : w2.heap.size < w3.heap.size := (Array.getElem?_eq_some_iff.1 HX3.out).1
            have HV3 : Hid (TabAt S w3 (.slice ao L.length cap) L) := HV2.out.up hb3
            obtain ⟨⟨a0, a1⟩, _⟩ := two_of ((hb3.block _ hws2).trans HA2.out)
            clear hb3 hb3' hw3 q0 q1 q2 q3 q4 q5 q6 q7
            go_wp2_with fail
            refine (refuseName_any _ L c d s _ HV3.out HOK.out HSM.out).mono ?_
            rintro e w4 ⟨rfl, hb4⟩
            rw [HNE.out]
            have HB4 : Hid (Below w.heap.size w w4) := HB3.out.trans (hb4.mono HB3.out.size)
            have hll : (x.i.links == 64) = false := by rw [HK.out.2]; exact hl2
            obtain ⟨⟨q0, q1, q2, q3, q4, q5, q6, q7⟩, -⟩ := eight_of ((hb4.block _ hws3).trans HX3.out)
            clear hb4 a0 a1
            go_wp2
            go_ret
            exact ⟨rfl, HB4.out⟩
        · rw [if_neg hn] at hr
          subst hr
          have hn' : (ne != 0) = true := by simpa using hn
          clear hn
          go_enter Try.func32, Try.ntmps32
          go_wp2_with fail
          rw [← hW]
          refine (srefuse_any HCC.out _ L st _ HV.out HOK.out).mono ?_
          rintro e w1 ⟨rfl, hb1⟩
          rw [HCE.out]
          have HB1 : Hid (Below w.heap.size w w1) := HB0.out.trans (hb1.mono HB0.out.size)
          have HA1 : Hid (w1.heap[w.heap.size]? = some (BH a b) ∧ w1.heap[w.heap.size + 1]? = some (BH c d)) := ⟨(hb1.block _ (by omega)).trans HA0.out.1, (hb1.block _ (by omega)).trans HA0.out.2⟩
          have hws1 : w.heap.size + 1 < w1.heap.size := by have := hb1.size; omega
          have HV1 : Hid (TabAt S w1 (.slice ao L.length cap) L) := HV.out.up hb1
          obtain ⟨⟨a0, a1⟩, _⟩ := two_of HA1.out.1
          clear hb1 hW HV HA0
          go_wp2_with fail
          refine (find_any _ L a b _ HV1.out).mono ?_
          rintro e w2 ⟨x, rfl, hxi, -, hb2⟩
          rw [HFE.out]
          have HB2 : Hid (Below w.heap.size w w2) := HB1.out.trans (hb2.mono HB1.out.size)
          have HA2 : Hid (w2.heap[w.heap.size + 1]? = some (BH c d)) := (hb2.block _ hws1).trans HA1.out.2
          have hws2 : w.heap.size + 1 < w2.heap.size := by have := hb2.size; omega
          have HV2 : Hid (TabAt S w2 (.slice ao L.length cap) L) := HV1.out.up hb2
          have HK : Hid (x.i.kind = (findI (pl L) a b).kind ∧ x.i.links = (findI (pl L) a b).links) := by rw [hxi]; exact ⟨rfl, rfl⟩
          have hkk : (x.i.kind == 2) = false := by rw [HK.out.1]; exact hk2
          obtain ⟨⟨q0, q1, q2, q3, q4, q5, q6, q7⟩, -⟩ := eight_of (heap_alloc_new w2 (BIx x))
          clear hb2 a0 a1 hxi
          go_wp2_with fail
          refine (isDir_any x _).mono ?_
          rintro e w3 ⟨rfl, hw3⟩
          rw [hkk]
          have hb3 : Below w2.heap.size w2 w3 := by rw [hw3]; exact ((Below.refl _ _).alloc (Nat.le_refl _) _).alloc (by simp) _
          have hb3' : Below (w2.alloc (BIx x)).heap.size (w2.alloc (BIx x)) w3 := by rw [hw3]; exact (Below.refl _ _).alloc (Nat.le_refl _) _
          have HB3 : Hid (Below w.heap.size w w3) := HB2.out.trans (hb3.mono HB2.out.size)
          have HX3 : Hid (w3.heap[w2.heap.size]? = some (BIx x)) := (hb3'.block _ (by simp)).trans (heap_alloc_new w2 (BIx x))
          have hws3 : w2.heap.size < w3.heap.size := (Array.getElem?_eq_some_iff.1 HX3.out).1
          have HV3 : Hid (TabAt S w3 (.slice ao L.length cap) L) := HV2.out.up hb3
          obtain ⟨⟨a0, a1⟩, _⟩ := two_of ((hb3.block _ hws2).trans HA2.out)
          clear hb3 hb3' hw3 q0 q1 q2 q3 q4 q5 q6 q7
          go_wp2_with fail
          refine (refuseName_any _ L c d s _ HV3.out HOK.out HSM.out).mono ?_
          rintro e w4 ⟨rfl, hb4⟩
          rw [HNE.out]
          have HB4 : Hid (Below w.heap.size w w4) := HB3.out.trans (hb4.mono HB3.out.size)
          clear hb4 a0 a1
          go_wp2
          go_ret
          exact ⟨rfl, HB4.out⟩
    · rw [if_neg hf] at hr
      subst hr
      have hf' : (fe != 0) = true := by simpa using hf
      clear hf
      go_enter Try.func32, Try.ntmps32
      go_wp2_with fail
      rw [← hW]
      refine (srefuse_any HCC.out _ L st _ HV.out HOK.out).mono ?_
      rintro e w1 ⟨rfl, hb1⟩
      rw [HCE.out]
      have HB1 : Hid (Below w.heap.size w w1) := HB0.out.trans (hb1.mono HB0.out.size)
      have HA1 : Hid (w1.heap[w.heap.size]? = some (BH a b) ∧ w1.heap[w.heap.size + 1]? = some (BH c d)) := ⟨(hb1.block _ (by omega)).trans HA0.out.1, (hb1.block _ (by omega)).trans HA0.out.2⟩
      have hws1 : w.heap.size + 1 < w1.heap.size := by have := hb1.size; omega
      have HV1 : Hid (TabAt S w1 (.slice ao L.length cap) L) := HV.out.up hb1
      obtain ⟨⟨a0, a1⟩, _⟩ := two_of HA1.out.1
      clear hb1 hW HV HA0
      go_wp2_with fail
      refine (find_any _ L a b _ HV1.out).mono ?_
      rintro e w2 ⟨x, rfl, hxi, -, hb2⟩
      rw [HFE.out]
      have HB2 : Hid (Below w.heap.size w w2) := HB1.out.trans (hb2.mono HB1.out.size)
      have HA2 : Hid (w2.heap[w.heap.size + 1]? = some (BH c d)) := (hb2.block _ hws1).trans HA1.out.2
      have hws2 : w.heap.size + 1 < w2.heap.size := by have := hb2.size; omega
      have HV2 : Hid (TabAt S w2 (.slice ao L.length cap) L) := HV1.out.up hb2
      clear hb2 a0 a1 hxi
      go_wp2
      go_ret
      exact ⟨rfl, HB2.out.alloc HB2.out.size _⟩
  · rw [if_neg hz] at hr
    subst hr
    have hz' : (ce != 0) = true := by simpa using hz
    clear hz
    go_enter Try.func32, Try.ntmps32
    go_wp2_with fail
    rw [← hW]
    refine (srefuse_any HCC.out _ L st _ HV.out HOK.out).mono ?_
    rintro e w1 ⟨rfl, hb1⟩
    rw [HCE.out]
    have HB1 : Hid (Below w.heap.size w w1) := HB0.out.trans (hb1.mono HB0.out.size)
    clear hb1 hW HV HA0
    go_wp2
    go_ret
    exact ⟨rfl, HB1.out⟩
end Go.Proofs.Ytacghcoikekfeaa
/- Sp12 -/
namespace Go.Proofs.Ytacghcoikekfeaa
open Go.ChangeShapes Go.WideShapes Go.ChangeAt Go.RowKit Go.Deep It
set_option maxRecDepth 100000
namespace Sp
theorem fold_ge (L : List Ino) : ∀ m : Int, m ≤ L.foldl (fun m x => max m x.stamp) m ∧ ∀ x ∈ L, x.stamp ≤ L.foldl (fun m x => max m x.stamp) m := by
  induction L with
  | nil => exact fun m => ⟨Int.le_refl _, fun x hx => by cases hx⟩
  | cons y l ih =>
    intro m
    obtain ⟨h1, h2⟩ := ih (max m y.stamp)
    refine ⟨Int.le_trans (by omega) h1, fun x hx => ?_⟩
    rcases List.mem_cons.1 hx with rfl | hx
    · exact Int.le_trans (by omega) h1
    · exact h2 x hx
theorem top_ge {L : List Ino} {x : Ino} (h : x ∈ L) : x.stamp ≤ top L := (fold_ge L 0).2 x h
theorem top_nonneg (L : List Ino) : 0 ≤ top L := (fold_ge L 0).1
theorem attr_of {L : List Ino} (hr : It.right L = true) {x : Ino} (h : x ∈ L) : At.right x.kind x.links x.size x.stamp = true := by
  have := (It.right_iff.1 hr).2.2 x h
  unfold It.one at this
  simp only [Bool.and_eq_true] at this
  exact this.2.1
theorem grow_ok {L : List Ino} {k : Nat} {x : Ino} {st n : Int} (hr : It.right L = true) (hx : L[k]? = some x) (hk : x.kind ≠ 0) (hs : top L ≤ st ∧ st ≤ 1099511627776) (hn : 0 ≤ n ∧ n ≤ 1048576) : At.growErr x.kind x.links x.size x.stamp n st = 0 := by
  unfold At.growErr
  rw [if_pos (attr_of hr (List.mem_of_getElem? hx)), if_pos ⟨Int.le_trans (top_ge (List.mem_of_getElem? hx)) hs.1, hs.2⟩, if_neg hk, if_pos hn]
theorem link_ok {L : List Ino} {k : Nat} {x : Ino} {st n : Int} (hr : It.right L = true) (hx : L[k]? = some x) (hk : x.kind = 1) (hs : top L ≤ st ∧ st ≤ 1099511627776) (hn : (n = 1 ∧ x.links < 64) ∨ (n = -1 ∧ 0 < x.links)) : At.linkErr x.kind x.links x.size x.stamp n st = 0 := by
  have ha := attr_of hr (List.mem_of_getElem? hx)
  have hp := At.right_iff.1 ha
  unfold At.rightP at hp
  unfold At.linkErr
  rw [if_pos ha, if_pos ⟨by omega, Int.le_trans (top_ge (List.mem_of_getElem? hx)) hs.1, hs.2⟩, if_pos hk, if_neg (by omega), if_neg (by omega)]
theorem find_get {L : List Ino} {a b : Int} (h : findErr L a b = 0) : ∃ (k : Nat) (x : Ino), a = k ∧ L[k]? = some x ∧ x.gen = b ∧ x.kind ≠ 0 ∧ findI L a b = x ∧ It.right L = true := by
  have h0 := h
  unfold findErr at h
  by_cases hr : It.right L = true
  · rw [if_pos hr] at h
    by_cases hn : names L a b = true
    · unfold names at hn
      simp only [Bool.and_eq_true, decide_eq_true_eq] at hn
      obtain ⟨ha, hm⟩ := hn
      cases hx : L[a.toNat]? with
      | none => rw [hx] at hm; cases hm
      | some x =>
        rw [hx] at hm
        simp only [decide_eq_true_eq] at hm
        refine ⟨a.toNat, x, by omega, hx, hm.1, hm.2, ?_, hr⟩
        unfold findI
        rw [if_pos h0, hx]
        rfl
    · rw [if_neg hn] at h
      exact absurd h (by decide)
  · rw [if_neg hr] at h
    exact absurd h (by decide)
theorem dir_get {L : List Ino} {a b : Int} (h : dirErr L a b = 0) : ∃ (k : Nat) (x : Ino), a = k ∧ L[k]? = some x ∧ x.gen = b ∧ x.kind = 2 ∧ dirEnts L a b = x.ents ∧ dirNext L a b = x.next ∧ findErr L a b = 0 ∧ It.right L = true := by
  have h0 := h
  unfold dirErr at h
  by_cases hf : findErr L a b = 0
  · rw [if_pos hf] at h
    by_cases hk : (findI L a b).kind = 2
    · obtain ⟨k, x, hk1, hx, hg, -, hi, hr⟩ := find_get hf
      rw [hi] at hk
      refine ⟨k, x, hk1, hx, hg, hk, ?_, ?_, hf, hr⟩
      · unfold dirEnts
        rw [if_pos h0, hi]
      · unfold dirNext
        rw [if_pos h0, hi]
    · rw [if_neg hk] at h
      exact absurd h (by decide)
  · rw [if_neg hf] at h
    exact absurd h hf
theorem pl_some {L : List Rw} {k : Nat} {x : Ino} (h : (pl L)[k]? = some x) : ∃ y : Rw, L[k]? = some y ∧ y.i = x := by
  rw [List.getElem?_map] at h
  cases hy : L[k]? with
  | none => rw [hy] at h; cases h
  | some y =>
    rw [hy] at h
    exact ⟨y, rfl, by simpa using h⟩
end Sp
end Go.Proofs.Ytacghcoikekfeaa
/- Sp13 -/
namespace Go.Proofs.Ytacghcoikekfeaa
open Go.ChangeShapes Go.WideShapes Go.ChangeAt Go.RowKit Go.Deep It
set_option maxRecDepth 100000
namespace Sp
theorem right_set {L : List Ino} {k : Nat} {x y : Ino} (hr : It.right L = true) (hx : L[k]? = some x) (hy : one y = true) (hk : y.kind = x.kind) : It.right (L.set k y) = true := by
  obtain ⟨hl, h0, ha⟩ := It.right_iff.1 hr
  refine It.right_iff.2 ⟨by simpa using hl, ?_, fun z hz => ?_⟩
  · cases L with
    | nil => simp at hx
    | cons z l =>
      cases k with
      | zero =>
        simp at hx
        subst hx
        simp only [List.set_cons_zero, rootB, decide_eq_true_eq] at h0 ⊢
        rw [hk]
        exact h0
      | succ k =>
        simp only [List.set_cons_succ, rootB] at h0 ⊢
        exact h0
  · rcases List.mem_or_eq_of_mem_set hz with h | rfl
    · exact ha z h
    · exact hy
theorem put_set {L : List Ino} {k : Nat} {x y : Ino} (hx : L[k]? = some x) : put L k y = L.set k y := by
  unfold put
  rw [if_pos (List.getElem?_eq_some_iff.1 hx).1]
theorem putTab_set {L : List Ino} {k : Nat} {b : Int} {x y : Ino} (hf : findErr L k b = 0) (hx : L[k]? = some x) (hg : y.gen = b) (h0 : y.kind ≠ 0) (hy : one y = true) (hk : y.kind = x.kind) : putErr L k b y = 0 ∧ putTab L k b y = L.set k y := by
  obtain ⟨_, _, _, _, _, _, _, hr⟩ := find_get hf
  have e : put L ((k : Int)).toNat y = L.set k y := by rw [show ((k : Int)).toNat = k by omega]; exact put_set hx
  have h : putErr L k b y = 0 := by
    unfold putErr
    rw [if_pos hf, if_pos ⟨hg, h0⟩, e, if_pos (right_set hr hx hy hk)]
  exact ⟨h, by unfold putTab; rw [if_pos h, e]⟩
theorem one_iff_dir {x : Ino} (hk : x.kind = 2) : one x = true ↔ (1 ≤ x.gen ∧ x.gen ≤ 1099511627776) ∧ At.right x.kind x.links x.size x.stamp = true ∧ x.runs = [] := by
  unfold one
  rw [if_pos hk]
  simp
theorem one_filled {x : Ino} {es : List Ent} {nx st : Int} (h : one x = true) (hk : x.kind = 2) (hs : 0 ≤ st ∧ st ≤ 1099511627776) (hn : es.length ≤ 1048576) : one (filled x es nx st) = true := by
  obtain ⟨hg, ha, hr⟩ := (one_iff_dir hk).1 h
  refine (one_iff_dir (x := filled x es nx st) hk).2 ⟨hg, ?_, hr⟩
  have hp := At.right_iff.1 ha
  refine At.right_iff.2 ?_
  show At.rightP x.kind x.links es.length st
  unfold At.rightP at hp ⊢
  omega
theorem one_linked {x : Ino} {n st : Int} (h : one x = true) (hk : x.kind = 1) (hs : 0 ≤ st ∧ st ≤ 1099511627776) (hn : 0 ≤ x.links + n ∧ x.links + n ≤ 64) : one (linked x n st) = true := by
  unfold one at h ⊢
  simp only [Bool.and_eq_true] at h ⊢
  obtain ⟨hg, ha, hr⟩ := h
  refine ⟨hg, ?_, hr⟩
  have hp := At.right_iff.1 ha
  refine At.right_iff.2 ?_
  show At.rightP x.kind (x.links + n) x.size st
  unfold At.rightP at hp ⊢
  omega
end Sp
end Go.Proofs.Ytacghcoikekfeaa
