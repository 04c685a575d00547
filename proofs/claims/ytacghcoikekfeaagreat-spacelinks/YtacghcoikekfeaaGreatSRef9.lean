/-
  sextonref11.Rmdir, over what its Right answers.
-/
import Derived.Test.YtacghcoikekfeaaGreatSRef8
import Derived.Test.YtacghcoikekfeaaGreatSp16
import Derived.Test.YtacghcoikekfeaaGreatIns
import Derived.Test.YtacghcoikekfeaaGreatSpC
namespace Go.Proofs.YtacghcoikekfeaaGreat
open Go.ChangeShapes Go.WideShapes Go.ChangeAt Go.RowKit Go.Deep It
set_option maxRecDepth 100000
theorem atE_nil {α : Type} (E : Enc α) (S : Nat → Prop) (w : World) : At E S w (.slice none 0 0) [] := .inl ⟨_, _, rfl, rfl⟩
/-- An inode, written as one that is gone. -/
theorem Cp.clear {T : Nat → Prop} {B : Nat} {w : World} {g n cap : Nat} {L : List Rw} (h : Cp T B w g n cap L) {k : Nat} {x : Rw} (hk : L[k]? = some x) (gn : Int) :
    ∃ L', Cp T B ((((((((w.setCell ⟨g, k * 8, none⟩ (.int .i64 gn)).setCell ⟨g, k * 8 + 1, none⟩ (.int .i64 0)).setCell ⟨g, k * 8 + 2, none⟩ (.int .i64 0)).setCell ⟨g, k * 8 + 3, none⟩ (.int .i64 0)).setCell ⟨g, k * 8 + 4, none⟩ (.int .i64 0)).setCell ⟨g, k * 8 + 5, none⟩ (.slice none 0 0)).setCell ⟨g, k * 8 + 6, none⟩ (.slice none 0 0)).setCell ⟨g, k * 8 + 7, none⟩ (.int .i64 0)) g n cap L' ∧ pl L' = (pl L).set k (gone gn) := by
  have hlt := (List.getElem?_eq_some_iff.1 hk).1
  obtain ⟨hr, hu, ho⟩ := h.2 x (List.mem_of_getElem? hk)
  let x0 : Rw := ⟨⟨gn, x.i.kind, x.i.links, x.i.size, x.i.stamp, x.i.runs, x.i.ents, x.i.next⟩, x.rp, x.rn, x.rc, x.ep, x.en, x.ec⟩
  let x1 : Rw := ⟨⟨gn, 0, x.i.links, x.i.size, x.i.stamp, x.i.runs, x.i.ents, x.i.next⟩, x.rp, x.rn, x.rc, x.ep, x.en, x.ec⟩
  let x2 : Rw := ⟨⟨gn, 0, 0, x.i.size, x.i.stamp, x.i.runs, x.i.ents, x.i.next⟩, x.rp, x.rn, x.rc, x.ep, x.en, x.ec⟩
  let x3 : Rw := ⟨⟨gn, 0, 0, 0, x.i.stamp, x.i.runs, x.i.ents, x.i.next⟩, x.rp, x.rn, x.rc, x.ep, x.en, x.ec⟩
  let x4 : Rw := ⟨⟨gn, 0, 0, 0, 0, x.i.runs, x.i.ents, x.i.next⟩, x.rp, x.rn, x.rc, x.ep, x.en, x.ec⟩
  let x5 : Rw := ⟨⟨gn, 0, 0, 0, 0, [], x.i.ents, x.i.next⟩, none, 0, 0, x.ep, x.en, x.ec⟩
  let x6 : Rw := ⟨⟨gn, 0, 0, 0, 0, [], [], x.i.next⟩, none, 0, 0, none, 0, 0⟩
  let x7 : Rw := ⟨gone gn, none, 0, 0, none, 0, 0⟩
  have g0 : Good (fun b => b ≠ g ∧ T b) w x0 := ⟨hr, hu, ho⟩
  have g1 : Good (fun b => b ≠ g ∧ T b) w x1 := ⟨hr, hu, ho⟩
  have g2 : Good (fun b => b ≠ g ∧ T b) w x2 := ⟨hr, hu, ho⟩
  have g3 : Good (fun b => b ≠ g ∧ T b) w x3 := ⟨hr, hu, ho⟩
  have g4 : Good (fun b => b ≠ g ∧ T b) w x4 := ⟨hr, hu, ho⟩
  have g5 : Good (fun b => b ≠ g ∧ T b) w x5 := ⟨atE_nil _ _ _, hu, fun y hy => (by cases hy), Nat.zero_le _, ho.2.2⟩
  have g6 : Good (fun b => b ≠ g ∧ T b) w x6 := ⟨atE_nil _ _ _, atE_nil _ _ _, fun y hy => (by cases hy), Nat.zero_le _, Nat.zero_le _⟩
  have g7 : Good (fun b => b ≠ g ∧ T b) w x7 := ⟨atE_nil _ _ _, atE_nil _ _ _, fun y hy => (by cases hy), Nat.zero_le _, Nat.zero_le _⟩
  have h0 := h.put (k := k) (j := 0) (x' := x0) (u := .int .i64 gn) hk (by decide) rfl g0
  have h1 := h0.put (k := k) (j := 1) (x := x0) (x' := x1) (u := .int .i64 0) (by rw [List.getElem?_set_self hlt]) (by decide) rfl (by (repeat (with_reducible refine Good.setCell ?_ (by simp) _)); exact g1)
  have h2 := h1.put (k := k) (j := 2) (x := x1) (x' := x2) (u := .int .i64 0) (by rw [List.getElem?_set_self (by simpa using hlt)]) (by decide) rfl (by (repeat (with_reducible refine Good.setCell ?_ (by simp) _)); exact g2)
  have h3 := h2.put (k := k) (j := 3) (x := x2) (x' := x3) (u := .int .i64 0) (by rw [List.getElem?_set_self (by simpa using hlt)]) (by decide) rfl (by (repeat (with_reducible refine Good.setCell ?_ (by simp) _)); exact g3)
  have h4 := h3.put (k := k) (j := 4) (x := x3) (x' := x4) (u := .int .i64 0) (by rw [List.getElem?_set_self (by simpa using hlt)]) (by decide) rfl (by (repeat (with_reducible refine Good.setCell ?_ (by simp) _)); exact g4)
  have h5 := h4.put (k := k) (j := 5) (x := x4) (x' := x5) (u := .slice none 0 0) (by rw [List.getElem?_set_self (by simpa using hlt)]) (by decide) rfl (by (repeat (with_reducible refine Good.setCell ?_ (by simp) _)); exact g5)
  have h6 := h5.put (k := k) (j := 6) (x := x5) (x' := x6) (u := .slice none 0 0) (by rw [List.getElem?_set_self (by simpa using hlt)]) (by decide) rfl (by (repeat (with_reducible refine Good.setCell ?_ (by simp) _)); exact g6)
  have h7 := h6.put (k := k) (j := 7) (x := x6) (x' := x7) (u := .int .i64 0) (by rw [List.getElem?_set_self (by simpa using hlt)]) (by decide) rfl (by (repeat (with_reducible refine Good.setCell ?_ (by simp) _)); exact g7)
  refine ⟨_, h7, ?_⟩
  simp only [List.set_set]
  show (L.set k x7).map Rw.i = _
  rw [List.map_set]
set_option maxHeartbeats 4000000 in
theorem rrmdir_any {R : List Ino → Bool} (hR : RtSaid R) (hM : Sp.ChkMeans (Sp.chk R)) {S : Nat → Prop} (v : Value) (L : List Rw) (a b : Int) (s : ByteArray) (st : Int) (w : World) (hv : TabAt S w v L) (hok : Sp.okN L) (hs : s.size ≤ maxLen) :
    Calls Tryz.prog 25 #[v, .agg #[.int .i64 a, .int .i64 b], .string s, .int .i64 st] w fun e w' =>
      ∃ u L', e = .returned (.tuple #[u, .int .i64 (Sp.rmE (Sp.chk R) (pl L) a b s st)]) ∧ TabW w' u L' ∧ pl L' = Sp.rmT (Sp.chk R) (pl L) a b s st ∧ Below w.heap.size w w' := by
  obtain ⟨W, hW⟩ : ∃ W, W = w.alloc (BH a b) := ⟨_, rfl⟩
  have HB0 : Hid (Below w.heap.size w W) := by show Below w.heap.size w W; rw [hW]; exact (Below.refl _ w).alloc (Nat.le_refl _) _
  have HA0 : Hid (W.heap[w.heap.size]? = some (BH a b)) := by show W.heap[w.heap.size]? = _; rw [hW]; exact heap_alloc_new _ _
  have hws : w.heap.size < W.heap.size := by rw [hW]; simp
  have HV : Hid (TabAt S W v L) := hv.up HB0.out
  have HVW : Hid (∀ V, Below w.heap.size w V → TabAt S V v L) := fun V h => hv.up h
  have HVL : Hid (∀ V, Below w.heap.size w V → TabAt (fun b => b < w.heap.size) V v L) := fun V h => (tab_low hv).up h
  obtain ⟨ao, cap, rfl, hm, hx⟩ := hv.open
  have HOK : Hid (Sp.okN L) := hok
  have HSM : Hid (s.size ≤ maxLen) := hs
  have HRR : Hid (RtSaid R) := hR
  clear hv hok hs hR
  by_cases hse : Sp.stErr (Sp.chk R) (pl L) st = 0
  · have HSE : Hid (Sp.stErr (Sp.chk R) (pl L) st = 0) := hse
    have hrt := (hM _ (Sp.stErr_zero hse).1).1
    have HRT : Hid (It.right (pl L) = true) := hrt
    obtain ⟨q, hq⟩ : ∃ q, Sp.lookH (pl L) a b s = q := ⟨_, rfl⟩
    obtain ⟨te, hte⟩ : ∃ te, Sp.lookErr (pl L) a b s = te := ⟨_, rfl⟩
    have HLK2 : Hid (Sp.lookH (pl L) a b s = q ∧ Sp.lookErr (pl L) a b s = te) := ⟨hq, hte⟩
    have hto : Sp.toErr (Sp.chk R) (pl L) st a b s = te := by unfold Sp.toErr; rw [if_pos hse, hte]
    have htoH : Sp.toH (Sp.chk R) (pl L) st a b s = q := by unfold Sp.toH; rw [if_pos hse, hq]
    by_cases hz : te = 0
    · subst hz
      obtain ⟨kc, xc, j, en, kt, xt, rfl, hxc, hgc, hkc, hfc, hff, hpl, hj, hqe, hkt, hkt0, hxt, hgt, hkt2, hlk, hft, hit, hic, hr, hst, hlen⟩ := Sp.to_zero hM hto
      rw [htoH] at hqe
      subst hqe
      obtain ⟨yc, hyc, rfl⟩ := Sp.pl_some hxc
      obtain ⟨yt, hyt, rfl⟩ := Sp.pl_some hxt
      obtain ⟨⟨bb, off, rfl, hB, hc8⟩, hgd⟩ := hx kt yt hyt
      have HX8 : Hid (∀ V, Below w.heap.size w V → eight V bb (off + kt * 8) yt) := fun V h => hc8.below h hB
      have HLEN : Hid (yt.en = yt.i.ents.length) := hgd.len.2
      have hkl : (kt : Int) < (L.length : Int) := by have := (List.getElem?_eq_some_iff.1 hyt).1; omega
      have hL24 : L.length ≤ 24 := by have := (Sp.right_len hr).2; rw [List.length_map] at this; exact this
      obtain ⟨en1, en2, en3, g⟩ := en
      simp only at htoH hq hkt hgt hft hit HLK2
      subst hkt
      have hE : Sp.rmE (Sp.chk R) (pl L) kc b s st = if yt.i.kind = 2 then (if yt.i.ents = [] then 0 else 406) else 404 := by
        unfold Sp.rmE
        rw [hto, if_pos rfl, htoH, hit]
      have hTn : ∀ e, Sp.rmE (Sp.chk R) (pl L) kc b s st = e → e ≠ 0 → Sp.rmT (Sp.chk R) (pl L) kc b s st = [] := fun e h h0 => by unfold Sp.rmT; rw [if_neg (by rw [h]; exact h0)]
      by_cases hk2 : yt.i.kind = 2
      · rw [if_pos hk2] at hE
        have hkd : (yt.i.kind != 2) = false := by simp [hk2]
        by_cases he0 : yt.i.ents = []
        · rw [if_pos he0] at hE
          have hT : Sp.rmT (Sp.chk R) (pl L) kc b s st = ((pl L).set kc (Sp.filled yc.i (yc.i.ents.eraseIdx (Fo.plc yc.i.ents yc.i.next s).toNat) yc.i.next st)).set kt (gone g) := by
            unfold Sp.rmT Sp.lessDir
            rw [hE, if_pos rfl, htoH, hic]
            rfl
          rw [hE, hT]
          have HYC : Hid (L[kc]? = some yc ∧ (∀ e ∈ yc.i.ents, e.1.size ≤ maxLen) ∧ Fo.findErr yc.i.ents yc.i.next s = 0) := ⟨hyc, HOK.out yc (List.mem_of_getElem? hyc), hff⟩
          have HKT : Hid (kt < L.length) := (List.getElem?_eq_some_iff.1 hyt).1
          have HEN : Hid (yt.en = 0) := by show yt.en = 0; rw [HLEN.out, he0]; rfl
          have hen2 : ¬ ((0 : Int) < (yt.en : Int)) := by have := HEN.out; omega
          clear hE hT hTn hM hto hte hq hx hc8 hgd hfc hft hr hst hxc hgc hkc hff hpl hj hic hlen hyc hyt hxt hgt hkt2 hlk hit he0 hk2 hkt0 htoH hse hrt HLEN
          go_enter Tryz.func25, Tryz.ntmps25
          obtain ⟨⟨a0, a1⟩, _⟩ := two_of HA0.out
          go_wp2_with fail
          rw [← hW]
          refine (rasked_any HRR.out _ L st _ HV.out HOK.out).mono ?_
          rintro e w1 ⟨rfl, hb1⟩
          rw [HSE.out]
          have HB1 : Hid (Below w.heap.size w w1) := HB0.out.trans (hb1.mono HB0.out.size)
          have HA1 : Hid (w1.heap[w.heap.size]? = some (BH kc b)) := (hb1.block _ hws).trans HA0.out
          have hws1 : w.heap.size < w1.heap.size := (Array.getElem?_eq_some_iff.1 HA1.out).1
          clear hb1 hW a0 a1
          obtain ⟨⟨a0, a1⟩, _⟩ := two_of HA1.out
          go_wp2_with fail
          refine (rlook_any _ L kc b s _ (HVW.out _ HB1.out) HOK.out HSM.out HRT.out).mono ?_
          rintro e w2 ⟨rfl, hb2⟩
          rw [HLK2.out.1, HLK2.out.2]
          have HB2 : Hid (Below w.heap.size w w2) := HB1.out.trans (hb2.mono HB1.out.size)
          have HA2 : Hid (w2.heap[w.heap.size]? = some (BH kc b)) := (hb2.block _ hws1).trans HA1.out
          have hws2 : w.heap.size < w2.heap.size := (Array.getElem?_eq_some_iff.1 HA2.out).1
          clear hb2 a0 a1
          obtain ⟨W2, hW2⟩ : ∃ W2, W2 = w2.alloc (BH kt g) := ⟨_, rfl⟩
          have HBW : Hid (Below w.heap.size w W2) := by show Below w.heap.size w W2; rw [hW2]; exact HB2.out.alloc HB2.out.size _
          have HAW : Hid (W2.heap[w.heap.size]? = some (BH kc b) ∧ W2.heap[w2.heap.size]? = some (BH kt g)) := by
            rw [hW2]
            exact ⟨(Below.heap_alloc _ _ _ hws2).trans HA2.out, heap_alloc_new _ _⟩
          have hws3 : w.heap.size < W2.heap.size := (Array.getElem?_eq_some_iff.1 HAW.out.1).1
          have hwt3 : w2.heap.size < W2.heap.size := (Array.getElem?_eq_some_iff.1 HAW.out.2).1
          have hbw2 : bb < w2.heap.size := Nat.lt_of_lt_of_le hB HB2.out.size
          obtain ⟨r0, r1, r2, r3, r4, r5, r6, r7⟩ := HX8.out _ HB2.out
          obtain ⟨⟨a0, a1⟩, _⟩ := two_of HA2.out
          go_wp2_with fail
          rw [← hW2]
          clear r0 r1 r2 r3 r4 r5 r6 r7 hW2
          refine (rless_any _ L kc st s yc _ (HVW.out _ HBW.out) HYC.out.1 HYC.out.2.1 HSM.out HYC.out.2.2 (by omega)).mono ?_
          rintro e w5 ⟨g5, cap5, L5, rfl, hcp, hp5, hb5⟩
          have HB5 : Hid (Below w.heap.size w w5) := HBW.out.trans (hb5.mono HBW.out.size)
          have HA5 : Hid (w5.heap[w2.heap.size]? = some (BH kt g)) := (hb5.block _ hwt3).trans HAW.out.2
          have hlen5 : L5.length = L.length := by have := congrArg List.length hp5; simpa using this
          obtain ⟨y5, hy5⟩ : ∃ y5, L5[kt]? = some y5 := ⟨_, List.getElem?_eq_getElem (by rw [hlen5]; exact HKT.out)⟩
          obtain ⟨⟨t0, t1, t2, t3, t4, t5, t6, t7⟩, tf, tl, -, hBg⟩ := hcp.cells hy5
          obtain ⟨⟨e0, e1⟩, _⟩ := two_of HA5.out
          have hgn : w2.heap.size ≠ g5 := by omega
          have HC5 : Hid (Cp (fun b => (fun _ => True) b) w.heap.size w5 g5 L.length cap5 L5) := ⟨(hcp.mono HBW.out.size).1, fun y hy => (hcp.2 y hy).imp fun _ h _ => ⟨h.1, trivial⟩⟩
          have HP5 : Hid (pl L5 = (pl L).set kc (Sp.filled yc.i (yc.i.ents.eraseIdx (Fo.plc yc.i.ents yc.i.next s).toNat) yc.i.next st)) := hp5
          have HY5 : Hid (L5[kt]? = some y5) := hy5
          have hwg : w.heap.size ≤ g5 := Nat.le_trans HBW.out.size hBg
          clear hb5 hcp hp5 hy5 hlen5 a0 a1
          go_wp2
          obtain ⟨L', hL', hp'⟩ := HC5.out.clear HY5.out g
          rw [HP5.out] at hp'
          have hbl : Below w.heap.size w ((((((((w5.setCell ⟨g5, kt * 8, none⟩ (.int .i64 g)).setCell ⟨g5, kt * 8 + 1, none⟩ (.int .i64 0)).setCell ⟨g5, kt * 8 + 2, none⟩ (.int .i64 0)).setCell ⟨g5, kt * 8 + 3, none⟩ (.int .i64 0)).setCell ⟨g5, kt * 8 + 4, none⟩ (.int .i64 0)).setCell ⟨g5, kt * 8 + 5, none⟩ (.slice none 0 0)).setCell ⟨g5, kt * 8 + 6, none⟩ (.slice none 0 0)).setCell ⟨g5, kt * 8 + 7, none⟩ (.int .i64 0)) := by
            have hbe := HB5.out
            (repeat (with_reducible refine Below.setCell ?_ hwg _)); exact hbe
          (try simp only [Exit.inBlock, Exit.then])
          refine bodyPost_ret (v := .tuple #[.slice (some ⟨g5, 0, none⟩) L.length cap5, .int .i64 0]) (by simp [results, Tryz.results25, go_sem]) rfl ?_
          first
            | exact ⟨_, rfl, L', hL'.tab, hp', hbl⟩
            | exact ⟨_, L', rfl, hL'.tab, hp', hbl⟩
        · rw [if_neg he0] at hE
          rw [hE, hTn _ hE (by decide)]
          have hen : 0 < yt.en := by rw [HLEN.out]; exact List.length_pos_iff.2 he0
          have hen2 : ((0 : Int) < (yt.en : Int)) := by omega
          clear hE hTn hM hto hte hq hx hc8 hgd hfc hft hr hst hxc hgc hkc hff hpl hj hic hlen hyc hyt hxt hgt hkt2 hlk hit he0 hk2 hkt0 htoH hse hrt
          go_enter Tryz.func25, Tryz.ntmps25
          obtain ⟨⟨a0, a1⟩, _⟩ := two_of HA0.out
          go_wp2_with fail
          rw [← hW]
          refine (rasked_any HRR.out _ L st _ HV.out HOK.out).mono ?_
          rintro e w1 ⟨rfl, hb1⟩
          rw [HSE.out]
          have HB1 : Hid (Below w.heap.size w w1) := HB0.out.trans (hb1.mono HB0.out.size)
          have HA1 : Hid (w1.heap[w.heap.size]? = some (BH kc b)) := (hb1.block _ hws).trans HA0.out
          have hws1 : w.heap.size < w1.heap.size := (Array.getElem?_eq_some_iff.1 HA1.out).1
          clear hb1 hW a0 a1
          obtain ⟨⟨a0, a1⟩, _⟩ := two_of HA1.out
          go_wp2_with fail
          refine (rlook_any _ L kc b s _ (HVW.out _ HB1.out) HOK.out HSM.out HRT.out).mono ?_
          rintro e w2 ⟨rfl, hb2⟩
          rw [HLK2.out.1, HLK2.out.2]
          have HB2 : Hid (Below w.heap.size w w2) := HB1.out.trans (hb2.mono HB1.out.size)
          have HA2 : Hid (w2.heap[w.heap.size]? = some (BH kc b)) := (hb2.block _ hws1).trans HA1.out
          have hws2 : w.heap.size < w2.heap.size := (Array.getElem?_eq_some_iff.1 HA2.out).1
          clear hb2 a0 a1
          obtain ⟨W2, hW2⟩ : ∃ W2, W2 = w2.alloc (BH kt g) := ⟨_, rfl⟩
          have HBW : Hid (Below w.heap.size w W2) := by show Below w.heap.size w W2; rw [hW2]; exact HB2.out.alloc HB2.out.size _
          have HAW : Hid (W2.heap[w.heap.size]? = some (BH kc b) ∧ W2.heap[w2.heap.size]? = some (BH kt g)) := by
            rw [hW2]
            exact ⟨(Below.heap_alloc _ _ _ hws2).trans HA2.out, heap_alloc_new _ _⟩
          have hws3 : w.heap.size < W2.heap.size := (Array.getElem?_eq_some_iff.1 HAW.out.1).1
          have hwt3 : w2.heap.size < W2.heap.size := (Array.getElem?_eq_some_iff.1 HAW.out.2).1
          have hbw2 : bb < w2.heap.size := Nat.lt_of_lt_of_le hB HB2.out.size
          obtain ⟨r0, r1, r2, r3, r4, r5, r6, r7⟩ := HX8.out _ HB2.out
          go_wp2
          (try simp only [Exit.inBlock, Exit.then])
          refine bodyPost_ret (v := .tuple #[.slice none 0 0, .int .i64 406]) (by simp [results, Tryz.results25, go_sem]) rfl ?_
          first
            | exact ⟨_, rfl, [], tab_nil _ _, rfl, HB2.out.alloc HB2.out.size _⟩
            | exact ⟨_, [], rfl, tab_nil _ _, rfl, HB2.out.alloc HB2.out.size _⟩
      · rw [if_neg hk2] at hE
        rw [hE, hTn _ hE (by decide)]
        have hkd : (yt.i.kind != 2) = true := by simp [hk2]
        clear hE hTn hM hto hte hq hx hc8 hgd hfc hft hr hst hxc hgc hkc hff hpl hj hic hlen hyc hyt hxt hgt hkt2 hlk hit hk2 hkt0 htoH hse hrt
        go_enter Tryz.func25, Tryz.ntmps25
        obtain ⟨⟨a0, a1⟩, _⟩ := two_of HA0.out
        go_wp2_with fail
        rw [← hW]
        refine (rasked_any HRR.out _ L st _ HV.out HOK.out).mono ?_
        rintro e w1 ⟨rfl, hb1⟩
        rw [HSE.out]
        have HB1 : Hid (Below w.heap.size w w1) := HB0.out.trans (hb1.mono HB0.out.size)
        have HA1 : Hid (w1.heap[w.heap.size]? = some (BH kc b)) := (hb1.block _ hws).trans HA0.out
        have hws1 : w.heap.size < w1.heap.size := (Array.getElem?_eq_some_iff.1 HA1.out).1
        clear hb1 hW a0 a1
        obtain ⟨⟨a0, a1⟩, _⟩ := two_of HA1.out
        go_wp2_with fail
        refine (rlook_any _ L kc b s _ (HVW.out _ HB1.out) HOK.out HSM.out HRT.out).mono ?_
        rintro e w2 ⟨rfl, hb2⟩
        rw [HLK2.out.1, HLK2.out.2]
        have HB2 : Hid (Below w.heap.size w w2) := HB1.out.trans (hb2.mono HB1.out.size)
        have HA2 : Hid (w2.heap[w.heap.size]? = some (BH kc b)) := (hb2.block _ hws1).trans HA1.out
        have hws2 : w.heap.size < w2.heap.size := (Array.getElem?_eq_some_iff.1 HA2.out).1
        clear hb2 a0 a1
        obtain ⟨W2, hW2⟩ : ∃ W2, W2 = w2.alloc (BH kt g) := ⟨_, rfl⟩
        have HBW : Hid (Below w.heap.size w W2) := by show Below w.heap.size w W2; rw [hW2]; exact HB2.out.alloc HB2.out.size _
        have HAW : Hid (W2.heap[w.heap.size]? = some (BH kc b) ∧ W2.heap[w2.heap.size]? = some (BH kt g)) := by
          rw [hW2]
          exact ⟨(Below.heap_alloc _ _ _ hws2).trans HA2.out, heap_alloc_new _ _⟩
        have hws3 : w.heap.size < W2.heap.size := (Array.getElem?_eq_some_iff.1 HAW.out.1).1
        have hwt3 : w2.heap.size < W2.heap.size := (Array.getElem?_eq_some_iff.1 HAW.out.2).1
        have hbw2 : bb < w2.heap.size := Nat.lt_of_lt_of_le hB HB2.out.size
        obtain ⟨r0, r1, r2, r3, r4, r5, r6, r7⟩ := HX8.out _ HB2.out
        go_wp2
        (try simp only [Exit.inBlock, Exit.then])
        refine bodyPost_ret (v := .tuple #[.slice none 0 0, .int .i64 404]) (by simp [results, Tryz.results25, go_sem]) rfl ?_
        first
          | exact ⟨_, rfl, [], tab_nil _ _, rfl, HB2.out.alloc HB2.out.size _⟩
          | exact ⟨_, [], rfl, tab_nil _ _, rfl, HB2.out.alloc HB2.out.size _⟩
    · have hE : Sp.rmE (Sp.chk R) (pl L) a b s st = te := by unfold Sp.rmE; rw [if_neg (by rw [hto]; exact hz), hto]
      have hT : Sp.rmT (Sp.chk R) (pl L) a b s st = [] := by unfold Sp.rmT; rw [if_neg (by rw [hE]; exact hz)]
      rw [hE, hT]
      have hz' : (te != 0) = true := by simpa using hz
      clear hz hE hT hte hM hx hto htoH hq hse hrt
      go_enter Tryz.func25, Tryz.ntmps25
      obtain ⟨⟨a0, a1⟩, _⟩ := two_of HA0.out
      go_wp2_with fail
      rw [← hW]
      refine (rasked_any HRR.out _ L st _ HV.out HOK.out).mono ?_
      rintro e w1 ⟨rfl, hb1⟩
      rw [HSE.out]
      have HB1 : Hid (Below w.heap.size w w1) := HB0.out.trans (hb1.mono HB0.out.size)
      have HA1 : Hid (w1.heap[w.heap.size]? = some (BH a b)) := (hb1.block _ hws).trans HA0.out
      have hws1 : w.heap.size < w1.heap.size := (Array.getElem?_eq_some_iff.1 HA1.out).1
      clear hb1 hW a0 a1
      obtain ⟨⟨a0, a1⟩, _⟩ := two_of HA1.out
      go_wp2_with fail
      refine (rlook_any _ L a b s _ (HVW.out _ HB1.out) HOK.out HSM.out HRT.out).mono ?_
      rintro e w2 ⟨rfl, hb2⟩
      rw [HLK2.out.1, HLK2.out.2]
      have HB2 : Hid (Below w.heap.size w w2) := HB1.out.trans (hb2.mono HB1.out.size)
      have HA2 : Hid (w2.heap[w.heap.size]? = some (BH a b)) := (hb2.block _ hws1).trans HA1.out
      have hws2 : w.heap.size < w2.heap.size := (Array.getElem?_eq_some_iff.1 HA2.out).1
      clear hb2 a0 a1
      go_wp2
      (try simp only [Exit.inBlock, Exit.then])
      refine bodyPost_ret (v := .tuple #[.slice none 0 0, .int .i64 te]) (by simp [results, Tryz.results25, go_sem]) rfl ?_
      first
        | exact ⟨_, rfl, [], tab_nil _ _, rfl, HB2.out.alloc HB2.out.size _⟩
        | exact ⟨_, [], rfl, tab_nil _ _, rfl, HB2.out.alloc HB2.out.size _⟩
  · obtain ⟨se, hse'⟩ : ∃ se, Sp.stErr (Sp.chk R) (pl L) st = se := ⟨_, rfl⟩
    have HSE : Hid (Sp.stErr (Sp.chk R) (pl L) st = se) := hse'
    have hto : Sp.toErr (Sp.chk R) (pl L) st a b s = se := by unfold Sp.toErr; rw [if_neg hse, hse']
    rw [hse'] at hse
    have hE : Sp.rmE (Sp.chk R) (pl L) a b s st = se := by unfold Sp.rmE; rw [if_neg (by rw [hto]; exact hse), hto]
    have hT : Sp.rmT (Sp.chk R) (pl L) a b s st = [] := by unfold Sp.rmT; rw [if_neg (by rw [hE]; exact hse)]
    rw [hE, hT]
    have hz' : (se != 0) = true := by simpa using hse
    clear hE hT hM hx hto hse hse'
    go_enter Tryz.func25, Tryz.ntmps25
    obtain ⟨⟨a0, a1⟩, _⟩ := two_of HA0.out
    go_wp2_with fail
    rw [← hW]
    refine (rasked_any HRR.out _ L st _ HV.out HOK.out).mono ?_
    rintro e w1 ⟨rfl, hb1⟩
    rw [HSE.out]
    have HB1 : Hid (Below w.heap.size w w1) := HB0.out.trans (hb1.mono HB0.out.size)
    have HA1 : Hid (w1.heap[w.heap.size]? = some (BH a b)) := (hb1.block _ hws).trans HA0.out
    have hws1 : w.heap.size < w1.heap.size := (Array.getElem?_eq_some_iff.1 HA1.out).1
    clear hb1 hW a0 a1
    go_wp2
    (try simp only [Exit.inBlock, Exit.then])
    refine bodyPost_ret (v := .tuple #[.slice none 0 0, .int .i64 se]) (by simp [results, Tryz.results25, go_sem]) rfl ?_
    first
      | exact ⟨_, rfl, [], tab_nil _ _, rfl, HB1.out⟩
      | exact ⟨_, [], rfl, tab_nil _ _, rfl, HB1.out⟩
end Go.Proofs.YtacghcoikekfeaaGreat
