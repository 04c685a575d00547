/-
  sextonref11.Unlink, over what its Right answers.
-/
import Derived.Test.YtacghcoikekfeaaGreatSRef9
import Derived.Test.YtacghcoikekfeaaGreatSp17
namespace Go.Proofs.YtacghcoikekfeaaGreat
open Go.ChangeShapes Go.WideShapes Go.ChangeAt Go.RowKit Go.Deep It
set_option maxRecDepth 100000
/-- An inode's links and stamp, written. -/
theorem Cp.two {T : Nat → Prop} {B : Nat} {w : World} {g n cap : Nat} {L : List Rw} (h : Cp T B w g n cap L) {k : Nat} {x : Rw} (hk : L[k]? = some x) (nl st : Int) :
    ∃ L', Cp T B ((w.setCell ⟨g, k * 8 + 1 + 1, none⟩ (.int .i64 nl)).setCell ⟨g, k * 8 + 1 + 3, none⟩ (.int .i64 st)) g n cap L' ∧ pl L' = (pl L).set k ⟨x.i.gen, x.i.kind, nl, x.i.size, st, x.i.runs, x.i.ents, x.i.next⟩ := by
  have hlt := (List.getElem?_eq_some_iff.1 hk).1
  have hg := h.2 x (List.mem_of_getElem? hk)
  let x1 : Rw := ⟨⟨x.i.gen, x.i.kind, nl, x.i.size, x.i.stamp, x.i.runs, x.i.ents, x.i.next⟩, x.rp, x.rn, x.rc, x.ep, x.en, x.ec⟩
  let x2 : Rw := ⟨⟨x.i.gen, x.i.kind, nl, x.i.size, st, x.i.runs, x.i.ents, x.i.next⟩, x.rp, x.rn, x.rc, x.ep, x.en, x.ec⟩
  have g1 : Good (fun b => b ≠ g ∧ T b) w x1 := ⟨hg.1, hg.2.1, hg.2.2⟩
  have g2 : Good (fun b => b ≠ g ∧ T b) w x2 := ⟨hg.1, hg.2.1, hg.2.2⟩
  have h1 := h.put (k := k) (j := 2) (x' := x1) (u := .int .i64 nl) hk (by decide) rfl g1
  have h2 := h1.put (k := k) (j := 4) (x := x1) (x' := x2) (u := .int .i64 st) (by rw [List.getElem?_set_self hlt]) (by decide) rfl (by (repeat (with_reducible refine Good.setCell ?_ (by simp) _)); exact g2)
  refine ⟨_, h2, ?_⟩
  rw [List.set_set]
  show (L.set k x2).map Rw.i = _
  rw [List.map_set]
theorem Cp.but {T : Nat → Prop} {B : Nat} {w : World} {g n cap z : Nat} {L : List Rw} (h : Cp T B w g n cap L) (hz : z < B) (hT : ∀ b, T b → b ≠ z) : TabAt (fun b => b ≠ z) w (.slice (some ⟨g, 0, none⟩) n cap) L :=
  ⟨h.1.at.imp fun b hb _ => by omega, fun y hy => (h.2 y hy).imp fun b hb _ => hT b hb.2⟩
theorem tab_set {z : Nat} {w : World} {v : Value} {L : List Rw} (h : TabAt (fun b => b ≠ z) w v L) (o : Nat) (u : Value) : TabAt (fun b => b ≠ z) (w.setCell ⟨z, o, none⟩ u) v L := ⟨h.1.setCell (by simp) _, fun y hy => (h.2 y hy).setCell (by simp) _⟩
theorem tab_drew {S : Nat → Prop} {w : World} {v : Value} {L : List Rw} (h : TabAt S w v L) : TabAt S w.drew v L := ⟨h.1.keep (Nat.le_refl _) fun _ hb _ => ⟨rfl, hb⟩, fun y hy => (h.2 y hy).keep (Nat.le_refl _) fun _ hb _ => ⟨rfl, hb⟩⟩
theorem tab_wide {S : Nat → Prop} {w : World} {v : Value} {L : List Rw} (h : TabAt S w v L) : TabW w v L := ⟨h.1.wide, fun y hy => (h.2 y hy).imp fun _ _ _ => trivial⟩
set_option maxHeartbeats 4000000 in
theorem runlink_any {R : List Ino → Bool} (hR : RtSaid R) (hM : Sp.ChkMeans (Sp.chk R)) {S : Nat → Prop} (v : Value) (L : List Rw) (a b : Int) (s : ByteArray) (st : Int) (w : World) (hv : TabAt S w v L) (hok : Sp.okN L) (hs : s.size ≤ maxLen) :
    Calls Tryz.prog 23 #[v, .agg #[.int .i64 a, .int .i64 b], .string s, .int .i64 st] w fun e w' =>
      ∃ u L', e = .returned (.tuple #[u, .agg #[.int .i64 (Sp.ulH (Sp.chk R) (pl L) a b s st).1, .int .i64 (Sp.ulH (Sp.chk R) (pl L) a b s st).2], .int .i64 (Sp.ulE (Sp.chk R) (pl L) a b s st)]) ∧ TabW w' u L' ∧ pl L' = Sp.ulT (Sp.chk R) (pl L) a b s st ∧ Below w.heap.size w w' := by
  obtain ⟨W, hW⟩ : ∃ W, W = (w.alloc (BH a b)).alloc (BH 0 0) := ⟨_, rfl⟩
  have HB0 : Hid (Below w.heap.size w W) := by show Below w.heap.size w W; rw [hW]; exact ((Below.refl _ w).alloc (Nat.le_refl _) _).alloc (by simp) _
  have HA0 : Hid (W.heap[w.heap.size]? = some (BH a b)) := by show W.heap[w.heap.size]? = _; rw [hW]; exact (Below.heap_alloc _ _ _ (by simp)).trans (heap_alloc_new _ _)
  have HZ0 : Hid (W.heap[w.heap.size + 1]? = some (BH 0 0)) := by
    show W.heap[w.heap.size + 1]? = _
    rw [hW, show w.heap.size + 1 = (w.alloc (BH a b)).heap.size by simp]
    exact heap_alloc_new _ _
  have hws : w.heap.size < W.heap.size := by rw [hW]; simp; omega
  have hwz : w.heap.size + 1 < W.heap.size := by rw [hW]; simp
  have HV : Hid (TabAt S W v L) := hv.up HB0.out
  have HVW : Hid (∀ V, Below w.heap.size w V → TabAt S V v L) := fun V h => hv.up h
  have HVL : Hid (∀ V, Below w.heap.size w V → TabAt (fun b => b < w.heap.size) V v L) := fun V h => (tab_low hv).up h
  obtain ⟨ao, cap, rfl, hm, hx⟩ := hv.open
  have HOK : Hid (Sp.okN L) := hok
  have HSM : Hid (s.size ≤ maxLen) := hs
  have HRR : Hid (RtSaid R) := hR
  clear hv hok hs hR
  by_cases hse : Sp.stErr (Sp.chk R) (pl L) st = 0
  · have HSE : Hid (Sp.stErr (Sp.chk R) (pl L) st = 0) := hse
    have hrt := (hM _ (Sp.stErr_zero hse).1).1
    have HRT : Hid (It.right (pl L) = true) := hrt
    obtain ⟨q, hq⟩ : ∃ q, Sp.lookH (pl L) a b s = q := ⟨_, rfl⟩
    obtain ⟨te, hte⟩ : ∃ te, Sp.lookErr (pl L) a b s = te := ⟨_, rfl⟩
    have HLK2 : Hid (Sp.lookH (pl L) a b s = q ∧ Sp.lookErr (pl L) a b s = te) := ⟨hq, hte⟩
    have hto : Sp.toErr (Sp.chk R) (pl L) st a b s = te := by unfold Sp.toErr; rw [if_pos hse, hte]
    have htoH : Sp.toH (Sp.chk R) (pl L) st a b s = q := by unfold Sp.toH; rw [if_pos hse, hq]
    by_cases hz : te = 0
    · subst hz
      obtain ⟨kc, xc, j, en, kt, xt, rfl, hxc, hgc, hkc, hfc, hff, hpl, hj, hqe, hkt, hkt0, hxt, hgt, hkt2, hlk, hft, hit, hic, hr, hst, hlen⟩ := Sp.to_zero hM hto
      rw [htoH] at hqe
      subst hqe
      obtain ⟨yc, hyc, rfl⟩ := Sp.pl_some hxc
      obtain ⟨yt, hyt, rfl⟩ := Sp.pl_some hxt
      obtain ⟨⟨bb, off, rfl, hB, hc8⟩, hgd⟩ := hx kt yt hyt
      have HX8 : Hid (∀ V, Below w.heap.size w V → eight V bb (off + kt * 8) yt) := fun V h => hc8.below h hB
      have HLEN : Hid (yt.en = yt.i.ents.length) := hgd.len.2
      have hkl : (kt : Int) < (L.length : Int) := by have := (List.getElem?_eq_some_iff.1 hyt).1; omega
      have hL24 : L.length ≤ 24 := by have := (Sp.right_len hr).2; rw [List.length_map] at this; exact this
      obtain ⟨en1, en2, en3, g⟩ := en
      simp only at htoH hq hkt hgt hft hit HLK2
      subst hkt
      have hE : Sp.ulE (Sp.chk R) (pl L) kc b s st = if yt.i.kind = 2 then 405 else 0 := by
        unfold Sp.ulE
        rw [hto, if_pos rfl, htoH, hit]
      have hTn : ∀ e, Sp.ulE (Sp.chk R) (pl L) kc b s st = e → e ≠ 0 → Sp.ulT (Sp.chk R) (pl L) kc b s st = [] ∧ Sp.ulH (Sp.chk R) (pl L) kc b s st = (0, 0) := fun e h h0 => by unfold Sp.ulT Sp.ulH; rw [if_neg (by rw [h]; exact h0), if_neg (by rw [h]; exact h0)]; exact ⟨rfl, rfl⟩
      by_cases hk2 : yt.i.kind = 2
      · rw [if_pos hk2] at hE
        rw [hE, (hTn _ hE (by decide)).1, (hTn _ hE (by decide)).2]
        have HK2 : Hid (yt.i.kind = 2) := hk2
        clear hE hTn hM hto hte hq hx hc8 hgd hfc hft hr hst hxc hgc hkc hff hpl hj hic hlen hyc hyt hxt hgt hkt2 hlk hit hk2 hkt0 htoH hse hrt
        go_enter Tryz.func23, Tryz.ntmps23
        obtain ⟨⟨a0, a1⟩, _⟩ := two_of HA0.out
        go_wp2_with fail
        rw [← hW]
        refine (rasked_any HRR.out _ L st _ HV.out HOK.out).mono ?_
        rintro e w1 ⟨rfl, hb1⟩
        rw [HSE.out]
        have HB1 : Hid (Below w.heap.size w w1) := HB0.out.trans (hb1.mono HB0.out.size)
        have HA1 : Hid (w1.heap[w.heap.size]? = some (BH kc b)) := (hb1.block _ hws).trans HA0.out
        have hws1 : w.heap.size < w1.heap.size := (Array.getElem?_eq_some_iff.1 HA1.out).1
        have HZ1 : Hid (w1.heap[w.heap.size + 1]? = some (BH 0 0)) := (hb1.block _ hwz).trans HZ0.out
        have hwz1 : w.heap.size + 1 < w1.heap.size := (Array.getElem?_eq_some_iff.1 HZ1.out).1
        clear hb1 hW a0 a1
        obtain ⟨⟨a0, a1⟩, _⟩ := two_of HA1.out
        go_wp2_with fail
        refine (rlook_any _ L kc b s _ (HVW.out _ HB1.out) HOK.out HSM.out HRT.out).mono ?_
        rintro e w2 ⟨rfl, hb2⟩
        rw [HLK2.out.1, HLK2.out.2]
        have HB2 : Hid (Below w.heap.size w w2) := HB1.out.trans (hb2.mono HB1.out.size)
        have HA2 : Hid (w2.heap[w.heap.size]? = some (BH kc b)) := (hb2.block _ hws1).trans HA1.out
        have hws2 : w.heap.size < w2.heap.size := (Array.getElem?_eq_some_iff.1 HA2.out).1
        have HZ2 : Hid (w2.heap[w.heap.size + 1]? = some (BH 0 0)) := (hb2.block _ hwz1).trans HZ1.out
        have hwz2 : w.heap.size + 1 < w2.heap.size := (Array.getElem?_eq_some_iff.1 HZ2.out).1
        clear hb2 a0 a1
        obtain ⟨W2, hW2⟩ : ∃ W2, W2 = w2.alloc (BH kt g) := ⟨_, rfl⟩
        have HBW : Hid (Below w.heap.size w W2) := by show Below w.heap.size w W2; rw [hW2]; exact HB2.out.alloc HB2.out.size _
        have HAW : Hid (W2.heap[w.heap.size]? = some (BH kc b) ∧ W2.heap[w2.heap.size]? = some (BH kt g)) := by
          rw [hW2]
          exact ⟨(Below.heap_alloc _ _ _ hws2).trans HA2.out, heap_alloc_new _ _⟩
        have hws3 : w.heap.size < W2.heap.size := (Array.getElem?_eq_some_iff.1 HAW.out.1).1
        have hwt3 : w2.heap.size < W2.heap.size := (Array.getElem?_eq_some_iff.1 HAW.out.2).1
        have HZW : Hid (W2.heap[w.heap.size + 1]? = some (BH 0 0)) := by show W2.heap[w.heap.size + 1]? = _; rw [hW2]; exact (Below.heap_alloc _ _ _ hwz2).trans HZ2.out
        have hwzW : w.heap.size + 1 < W2.heap.size := (Array.getElem?_eq_some_iff.1 HZW.out).1
        have hbw2 : bb < w2.heap.size := Nat.lt_of_lt_of_le hB HB2.out.size
        obtain ⟨r0, r1, r2, r3, r4, r5, r6, r7⟩ := HX8.out _ HB2.out
        rw [HK2.out] at r1
        obtain ⟨⟨z0, z1⟩, zf⟩ := two_of HZ2.out
        go_wp2
        have hbe := HB2.out
        (try simp only [Exit.inBlock, Exit.then])
        refine bodyPost_ret (v := .tuple #[.slice none 0 0, .agg #[.int .i64 0, .int .i64 0], .int .i64 405]) ?_ rfl ?_
        · rw [results_tct rfl]
          go_simp
        · first
            | exact ⟨_, rfl, [], tab_nil _ _, rfl, (by repeat (first | exact hbe | refine Below.setCell ?_ (by simp) _ | refine Below.alloc ?_ (by simp; exact hbe.size) _))⟩
            | exact ⟨_, [], rfl, tab_nil _ _, rfl, (by repeat (first | exact hbe | refine Below.setCell ?_ (by simp) _ | refine Below.alloc ?_ (by simp; exact hbe.size) _))⟩
      · rw [if_neg hk2] at hE
        have hT : Sp.ulT (Sp.chk R) (pl L) kc b s st = ((pl L).set kc (Sp.filled yc.i (yc.i.ents.eraseIdx (Fo.plc yc.i.ents yc.i.next s).toNat) yc.i.next st)).set kt (Sp.linked yt.i (-1) st) := by
          unfold Sp.ulT Sp.lessDir
          rw [hE, if_pos rfl, htoH, hic, hit]
          rfl
        have hH : Sp.ulH (Sp.chk R) (pl L) kc b s st = ((kt : Int), g) := by unfold Sp.ulH; rw [hE, if_pos rfl, htoH]
        rw [hE, hT, hH]
        have hne : kc ≠ kt := by
          intro h
          subst h
          rw [hxc] at hxt
          have := Option.some.inj hxt
          rw [this] at hkc
          exact hk2 hkc
        have HYC : Hid (L[kc]? = some yc ∧ (∀ e ∈ yc.i.ents, e.1.size ≤ maxLen) ∧ Fo.findErr yc.i.ents yc.i.next s = 0 ∧ (pl L)[kt]? = some yt.i ∧ kc ≠ kt) := ⟨hyc, HOK.out yc (List.mem_of_getElem? hyc), hff, hxt, hne⟩
        have hlk64 : yt.i.links ≤ 64 := by
          have hone := (It.right_iff.1 hr).2.2 yt.i (List.mem_of_getElem? hxt)
          unfold one at hone
          simp only [Bool.and_eq_true] at hone
          rcases At.right_iff.1 hone.2.1 with ⟨_, h1, _⟩ | ⟨_, _, ⟨_, h1⟩ | ⟨_, h1⟩⟩ <;> omega
        clear hE hTn hT hH hM hto hte hq hx hc8 hgd hfc hft hr hst hxc hgc hkc hff hpl hj hic hlen hyc hyt hxt hgt hkt2 hit hkt0 htoH hse hrt hne
        go_enter Tryz.func23, Tryz.ntmps23
        obtain ⟨⟨a0, a1⟩, _⟩ := two_of HA0.out
        go_wp2_with fail
        rw [← hW]
        refine (rasked_any HRR.out _ L st _ HV.out HOK.out).mono ?_
        rintro e w1 ⟨rfl, hb1⟩
        rw [HSE.out]
        have HB1 : Hid (Below w.heap.size w w1) := HB0.out.trans (hb1.mono HB0.out.size)
        have HA1 : Hid (w1.heap[w.heap.size]? = some (BH kc b)) := (hb1.block _ hws).trans HA0.out
        have hws1 : w.heap.size < w1.heap.size := (Array.getElem?_eq_some_iff.1 HA1.out).1
        have HZ1 : Hid (w1.heap[w.heap.size + 1]? = some (BH 0 0)) := (hb1.block _ hwz).trans HZ0.out
        have hwz1 : w.heap.size + 1 < w1.heap.size := (Array.getElem?_eq_some_iff.1 HZ1.out).1
        clear hb1 hW a0 a1
        obtain ⟨⟨a0, a1⟩, _⟩ := two_of HA1.out
        go_wp2_with fail
        refine (rlook_any _ L kc b s _ (HVW.out _ HB1.out) HOK.out HSM.out HRT.out).mono ?_
        rintro e w2 ⟨rfl, hb2⟩
        rw [HLK2.out.1, HLK2.out.2]
        have HB2 : Hid (Below w.heap.size w w2) := HB1.out.trans (hb2.mono HB1.out.size)
        have HA2 : Hid (w2.heap[w.heap.size]? = some (BH kc b)) := (hb2.block _ hws1).trans HA1.out
        have hws2 : w.heap.size < w2.heap.size := (Array.getElem?_eq_some_iff.1 HA2.out).1
        have HZ2 : Hid (w2.heap[w.heap.size + 1]? = some (BH 0 0)) := (hb2.block _ hwz1).trans HZ1.out
        have hwz2 : w.heap.size + 1 < w2.heap.size := (Array.getElem?_eq_some_iff.1 HZ2.out).1
        clear hb2 a0 a1
        obtain ⟨W2, hW2⟩ : ∃ W2, W2 = w2.alloc (BH kt g) := ⟨_, rfl⟩
        have HBW : Hid (Below w.heap.size w W2) := by show Below w.heap.size w W2; rw [hW2]; exact HB2.out.alloc HB2.out.size _
        have HAW : Hid (W2.heap[w.heap.size]? = some (BH kc b) ∧ W2.heap[w2.heap.size]? = some (BH kt g)) := by
          rw [hW2]
          exact ⟨(Below.heap_alloc _ _ _ hws2).trans HA2.out, heap_alloc_new _ _⟩
        have hws3 : w.heap.size < W2.heap.size := (Array.getElem?_eq_some_iff.1 HAW.out.1).1
        have hwt3 : w2.heap.size < W2.heap.size := (Array.getElem?_eq_some_iff.1 HAW.out.2).1
        have HZW : Hid (W2.heap[w.heap.size + 1]? = some (BH 0 0)) := by show W2.heap[w.heap.size + 1]? = _; rw [hW2]; exact (Below.heap_alloc _ _ _ hwz2).trans HZ2.out
        have hwzW : w.heap.size + 1 < W2.heap.size := (Array.getElem?_eq_some_iff.1 HZW.out).1
        have hbw2 : bb < w2.heap.size := Nat.lt_of_lt_of_le hB HB2.out.size
        obtain ⟨r0, r1, r2, r3, r4, r5, r6, r7⟩ := HX8.out _ HB2.out
        obtain ⟨⟨a0, a1⟩, _⟩ := two_of HA2.out
        go_wp2_with fail
        rw [← hW2]
        clear r0 r1 r2 r3 r4 r5 r6 r7 hW2
        refine (rless_any (S := fun b => b < w.heap.size) _ L kc st s yc _ (HVL.out _ HBW.out) HYC.out.1 HYC.out.2.1 HSM.out HYC.out.2.2.1 (by omega)).mono ?_
        rintro e w5 ⟨g5, cap5, L5, rfl, hcp, hp5, hb5⟩
        have HB5 : Hid (Below w.heap.size w w5) := HBW.out.trans (hb5.mono HBW.out.size)
        have HA5 : Hid (w5.heap[w2.heap.size]? = some (BH kt g)) := (hb5.block _ hwt3).trans HAW.out.2
        have HZ5 : Hid (w5.heap[w.heap.size + 1]? = some (BH 0 0)) := (hb5.block _ hwzW).trans HZW.out
        obtain ⟨y5, hy5, hyi⟩ := Sp.pl_some (L := L5) (k := kt) (x := yt.i) (by rw [hp5, List.getElem?_set_ne HYC.out.2.2.2.2]; exact HYC.out.2.2.2.1)
        obtain ⟨⟨t0, t1, t2, t3, t4, t5, t6, t7⟩, tf, tl, -, hBg⟩ := hcp.cells hy5
        rw [hyi] at t2 t4
        obtain ⟨⟨e0, e1⟩, _⟩ := two_of HA5.out
        obtain ⟨⟨z0, z1⟩, zf⟩ := two_of HZ5.out
        have hgn : w2.heap.size ≠ g5 := by omega
        have hgz : w.heap.size + 1 ≠ g5 := by omega
        have hgy : w2.heap.size ≠ w.heap.size + 1 := by omega
        have HC5 : Hid (Cp (fun b => b < w.heap.size ∨ W2.heap.size ≤ b) W2.heap.size w5 g5 L.length cap5 L5) := hcp
        have HP5 : Hid (pl L5 = (pl L).set kc (Sp.filled yc.i (yc.i.ents.eraseIdx (Fo.plc yc.i.ents yc.i.next s).toNat) yc.i.next st)) := hp5
        have HY5 : Hid (L5[kt]? = some y5 ∧ y5.i = yt.i) := ⟨hy5, hyi⟩
        have hwg : w.heap.size ≤ g5 := by omega
        clear hb5 hcp hp5 hy5 hyi a0 a1 t0 t1 t3 t5 t6 t7
        go_wp2_with fail
        go_region
        all_goals
          go_wp2_with fail
          go_region
        all_goals
          go_wp2
          (try simp only [Exit.inBlock, Exit.then])
          refine bodyPost_ret (v := .tuple #[.slice (some ⟨g5, 0, none⟩) L.length cap5, .agg #[.int .i64 kt, .int .i64 g], .int .i64 0]) ?_ rfl ?_
          · rw [results_tct rfl]
            go_simp
          · obtain ⟨L', hL', hp'⟩ := HC5.out.two HY5.out.1 (yt.i.links - 1) st
            rw [HP5.out, HY5.out.2] at hp'
            have hq : (⟨yt.i.gen, yt.i.kind, yt.i.links - 1, yt.i.size, st, yt.i.runs, yt.i.ents, yt.i.next⟩ : Ino) = Sp.linked yt.i (-1) st := by unfold Sp.linked; rw [Int.sub_eq_add_neg]
            rw [hq] at hp'
            have ht := tab_set (tab_set (hL'.but (z := w.heap.size + 1) hwzW (fun b hb => by omega)) 0 (.int .i64 (kt : Int))) 1 (.int .i64 g)
            have hbe := HB5.out
            have hbl : Below w.heap.size w ((((w5.setCell ⟨g5, kt * 8 + 1 + 1, none⟩ (.int .i64 (yt.i.links - 1))).setCell ⟨g5, kt * 8 + 1 + 3, none⟩ (.int .i64 st)).setCell ⟨w.heap.size + 1, 0, none⟩ (.int .i64 (kt : Int))).setCell ⟨w.heap.size + 1, 1, none⟩ (.int .i64 g)) := by
              (repeat (with_reducible refine Below.setCell ?_ (by first | exact hwg | simp) _)); exact hbe
            first
              | exact ⟨_, rfl, L', tab_wide (tab_drew (tab_drew ht)), hp', bel_drew (bel_drew hbl)⟩
              | exact ⟨_, L', rfl, tab_wide (tab_drew (tab_drew ht)), hp', bel_drew (bel_drew hbl)⟩
    · have hE : Sp.ulE (Sp.chk R) (pl L) a b s st = te := by unfold Sp.ulE; rw [if_neg (by rw [hto]; exact hz), hto]
      have hT : Sp.ulT (Sp.chk R) (pl L) a b s st = [] := by unfold Sp.ulT; rw [if_neg (by rw [hE]; exact hz)]
      have hH : Sp.ulH (Sp.chk R) (pl L) a b s st = (0, 0) := by unfold Sp.ulH; rw [if_neg (by rw [hE]; exact hz)]
      rw [hE, hT, hH]
      have hz' : (te != 0) = true := by simpa using hz
      clear hz hE hT hH hte hM hx hto htoH hq hse hrt
      go_enter Tryz.func23, Tryz.ntmps23
      obtain ⟨⟨a0, a1⟩, _⟩ := two_of HA0.out
      go_wp2_with fail
      rw [← hW]
      refine (rasked_any HRR.out _ L st _ HV.out HOK.out).mono ?_
      rintro e w1 ⟨rfl, hb1⟩
      rw [HSE.out]
      have HB1 : Hid (Below w.heap.size w w1) := HB0.out.trans (hb1.mono HB0.out.size)
      have HA1 : Hid (w1.heap[w.heap.size]? = some (BH a b)) := (hb1.block _ hws).trans HA0.out
      have hws1 : w.heap.size < w1.heap.size := (Array.getElem?_eq_some_iff.1 HA1.out).1
      have HZ1 : Hid (w1.heap[w.heap.size + 1]? = some (BH 0 0)) := (hb1.block _ hwz).trans HZ0.out
      have hwz1 : w.heap.size + 1 < w1.heap.size := (Array.getElem?_eq_some_iff.1 HZ1.out).1
      clear hb1 hW a0 a1
      obtain ⟨⟨a0, a1⟩, _⟩ := two_of HA1.out
      go_wp2_with fail
      refine (rlook_any _ L a b s _ (HVW.out _ HB1.out) HOK.out HSM.out HRT.out).mono ?_
      rintro e w2 ⟨rfl, hb2⟩
      rw [HLK2.out.1, HLK2.out.2]
      have HB2 : Hid (Below w.heap.size w w2) := HB1.out.trans (hb2.mono HB1.out.size)
      have HA2 : Hid (w2.heap[w.heap.size]? = some (BH a b)) := (hb2.block _ hws1).trans HA1.out
      have hws2 : w.heap.size < w2.heap.size := (Array.getElem?_eq_some_iff.1 HA2.out).1
      have HZ2 : Hid (w2.heap[w.heap.size + 1]? = some (BH 0 0)) := (hb2.block _ hwz1).trans HZ1.out
      have hwz2 : w.heap.size + 1 < w2.heap.size := (Array.getElem?_eq_some_iff.1 HZ2.out).1
      clear hb2 a0 a1
      obtain ⟨⟨z0, z1⟩, zf⟩ := two_of HZ2.out
      go_wp2
      have hbe := HB2.out
      (try simp only [Exit.inBlock, Exit.then])
      refine bodyPost_ret (v := .tuple #[.slice none 0 0, .agg #[.int .i64 0, .int .i64 0], .int .i64 te]) ?_ rfl ?_
      · rw [results_tct rfl]
        go_simp
      · first
          | exact ⟨_, rfl, [], tab_nil _ _, rfl, (by repeat (first | exact hbe | refine Below.setCell ?_ (by simp) _ | refine Below.alloc ?_ (by simp; exact hbe.size) _))⟩
          | exact ⟨_, [], rfl, tab_nil _ _, rfl, (by repeat (first | exact hbe | refine Below.setCell ?_ (by simp) _ | refine Below.alloc ?_ (by simp; exact hbe.size) _))⟩
  · obtain ⟨se, hse'⟩ : ∃ se, Sp.stErr (Sp.chk R) (pl L) st = se := ⟨_, rfl⟩
    have HSE : Hid (Sp.stErr (Sp.chk R) (pl L) st = se) := hse'
    have hto : Sp.toErr (Sp.chk R) (pl L) st a b s = se := by unfold Sp.toErr; rw [if_neg hse, hse']
    rw [hse'] at hse
    have hE : Sp.ulE (Sp.chk R) (pl L) a b s st = se := by unfold Sp.ulE; rw [if_neg (by rw [hto]; exact hse), hto]
    have hT : Sp.ulT (Sp.chk R) (pl L) a b s st = [] := by unfold Sp.ulT; rw [if_neg (by rw [hE]; exact hse)]
    have hH : Sp.ulH (Sp.chk R) (pl L) a b s st = (0, 0) := by unfold Sp.ulH; rw [if_neg (by rw [hE]; exact hse)]
    rw [hE, hT, hH]
    have hz' : (se != 0) = true := by simpa using hse
    clear hE hT hH hM hx hto hse hse'
    go_enter Tryz.func23, Tryz.ntmps23
    obtain ⟨⟨a0, a1⟩, _⟩ := two_of HA0.out
    go_wp2_with fail
    rw [← hW]
    refine (rasked_any HRR.out _ L st _ HV.out HOK.out).mono ?_
    rintro e w1 ⟨rfl, hb1⟩
    rw [HSE.out]
    have HB1 : Hid (Below w.heap.size w w1) := HB0.out.trans (hb1.mono HB0.out.size)
    have HA1 : Hid (w1.heap[w.heap.size]? = some (BH a b)) := (hb1.block _ hws).trans HA0.out
    have hws1 : w.heap.size < w1.heap.size := (Array.getElem?_eq_some_iff.1 HA1.out).1
    have HZ1 : Hid (w1.heap[w.heap.size + 1]? = some (BH 0 0)) := (hb1.block _ hwz).trans HZ0.out
    have hwz1 : w.heap.size + 1 < w1.heap.size := (Array.getElem?_eq_some_iff.1 HZ1.out).1
    clear hb1 hW a0 a1
    obtain ⟨⟨z0, z1⟩, zf⟩ := two_of HZ1.out
    go_wp2
    have hbe := HB1.out
    (try simp only [Exit.inBlock, Exit.then])
    refine bodyPost_ret (v := .tuple #[.slice none 0 0, .agg #[.int .i64 0, .int .i64 0], .int .i64 se]) ?_ rfl ?_
    · rw [results_tct rfl]
      go_simp
    · first
        | exact ⟨_, rfl, [], tab_nil _ _, rfl, (by repeat (first | exact hbe | refine Below.setCell ?_ (by simp) _ | refine Below.alloc ?_ (by simp; exact hbe.size) _))⟩
        | exact ⟨_, [], rfl, tab_nil _ _, rfl, (by repeat (first | exact hbe | refine Below.setCell ?_ (by simp) _ | refine Below.alloc ?_ (by simp; exact hbe.size) _))⟩
end Go.Proofs.YtacghcoikekfeaaGreat
