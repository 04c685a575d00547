/-
  The texts Sp20, Sp21, Sp22, RNm, RRe, SRef13, Late, Cnt, Rea, as one.
-/
import Derived.Deep.OwnRows
import Derived.OrdersHeld
import Derived.WalkKit
import Derived.Maps.Own
import Derived.Maps.RangeWalk
import Derived.Test.YtacghcoikekfeaaM8
/- Sp20 -/
namespace Go.Proofs.Ytacghcoikekfeaa
open Go.ChangeShapes Go.WideShapes Go.ChangeAt Go.RowKit Go.Deep It
set_option maxRecDepth 100000
/-- What inside answers of a space and an inode's number: proved elsewhere. -/
def InsSaid (C : List Ino → Int) (I : List Ino → Int → Int → Bool) : Prop := ∀ (S : Nat → Prop) (v : Value) (L : List Rw) (no to : Int) (w : World), TabAt S w v L → Sp.okN L → C (pl L) = 0 → (∃ (k : Nat) (x : Ino), no = k ∧ (pl L)[k]? = some x ∧ x.kind ≠ 0) →
  Calls Try.prog 51 #[v, .int .i64 no, .int .i64 to] w fun e w' => e = .returned (.bool (I (pl L) no to)) ∧ Below w.heap.size w w'
noncomputable def Sp.moveErr (I : List Ino → Int → Int → Bool) (L : List Ino) (no a b : Int) (s : ByteArray) : Int := if (nameErr L a b s = 0 ∨ nameErr L a b s = 403) ∧ I L no a = true then 410 else nameErr L a b s
set_option maxHeartbeats 2000000 in
theorem refuseMove_any {C : List Ino → Int} {I : List Ino → Int → Int → Bool} (hI : InsSaid C I) {S : Nat → Prop} (v : Value) (L : List Rw) (no g a b : Int) (s : ByteArray) (w : World) (hv : TabAt S w v L) (hok : Sp.okN L) (hs : s.size ≤ maxLen) (hc : C (pl L) = 0) (hk : ∃ (k : Nat) (x : Ino), no = k ∧ (pl L)[k]? = some x ∧ x.kind ≠ 0) :
    Calls Try.prog 27 #[v, .agg #[.int .i64 no, .int .i64 g], .agg #[.int .i64 a, .int .i64 b], .string s] w fun e w' => e = .returned (.int .i64 (Sp.moveErr I (pl L) no a b s)) ∧ Below w.heap.size w w' := by
  obtain ⟨W, hW⟩ : ∃ W, W = (w.alloc (BH no g)).alloc (BH a b) := ⟨_, rfl⟩
  have HB0 : Hid (Below w.heap.size w W) := by show Below w.heap.size w W; rw [hW]; exact ((Below.refl _ w).alloc (Nat.le_refl _) _).alloc (by simp) _
  have HA0 : Hid (W.heap[w.heap.size]? = some (BH no g) ∧ W.heap[w.heap.size + 1]? = some (BH a b)) := by
    rw [hW]
    refine ⟨(Below.heap_alloc _ _ _ (by simp)).trans (heap_alloc_new _ _), ?_⟩
    have := heap_alloc_new (w.alloc (BH no g)) (BH a b)
    rwa [show (w.alloc (BH no g)).heap.size = w.heap.size + 1 by simp] at this
  have hws : w.heap.size + 1 < W.heap.size := by rw [hW]; simp
  have HV : Hid (TabAt S W v L) := hv.up HB0.out
  have HIN0 : Hid (∀ V, Below w.heap.size w V → Calls Try.prog 51 #[v, .int .i64 no, .int .i64 a] V fun e w' => e = .returned (.bool (I (pl L) no a)) ∧ Below V.heap.size V w') := fun V h => hI S v L no a V (hv.up h) hok hc hk
  obtain ⟨ao, cap, rfl, _, _⟩ := hv.open
  have HOK : Hid (Sp.okN L) := hok
  have HSM : Hid (s.size ≤ maxLen) := hs
  clear hv hok hs hI hc hk
  obtain ⟨ne, hne⟩ : ∃ ne, Sp.nameErr (pl L) a b s = ne := ⟨_, rfl⟩
  have HNE : Hid (Sp.nameErr (pl L) a b s = ne) := hne
  obtain ⟨i, hi⟩ : ∃ i, I (pl L) no a = i := ⟨_, rfl⟩
  have HIN : Hid (∀ V, Below w.heap.size w V → Calls Try.prog 51 #[.slice ao L.length cap, .int .i64 no, .int .i64 a] V fun e w' => e = .returned (.bool i) ∧ Below V.heap.size V w') := by rw [← hi]; exact HIN0.out
  clear HIN0
  by_cases h1 : ne = 0 ∨ ne = 403
  · have hE : Sp.moveErr I (pl L) no a b s = if i = true then 410 else ne := by
      unfold Sp.moveErr
      rw [hne, hi]
      by_cases h : i = true
      · rw [if_pos ⟨h1, h⟩, if_pos h]
      · rw [if_neg (fun x => h x.2), if_neg h]
    rw [hE]
    clear hE hne hi
    rcases h1 with rfl | rfl <;> cases i
    all_goals
      go_enter Try.func27, Try.ntmps27
      obtain ⟨⟨a0, a1⟩, _⟩ := two_of HA0.out.1
      obtain ⟨⟨g0, g1⟩, _⟩ := two_of HA0.out.2
      go_wp2_with fail
      rw [← hW]
      refine (refuseName_any _ L a b s _ HV.out HOK.out HSM.out).mono ?_
      rintro e w1 ⟨rfl, hb1⟩
      rw [HNE.out]
      have HB1 : Hid (Below w.heap.size w w1) := HB0.out.trans (hb1.mono HB0.out.size)
      have HA1 : Hid (w1.heap[w.heap.size]? = some (BH no g) ∧ w1.heap[w.heap.size + 1]? = some (BH a b)) := ⟨(hb1.block _ (by omega)).trans HA0.out.1, (hb1.block _ (by omega)).trans HA0.out.2⟩
      clear hb1 hW a0 a1 g0 g1
      obtain ⟨⟨a0, a1⟩, _⟩ := two_of HA1.out.1
      obtain ⟨⟨g0, g1⟩, _⟩ := two_of HA1.out.2
      go_wp2_with fail
      refine (HIN.out _ HB1.out).mono ?_
      rintro e w2 ⟨rfl, hb2⟩
      have HB2 : Hid (Below w.heap.size w w2) := HB1.out.trans (hb2.mono HB1.out.size)
      clear hb2 a0 a1 g0 g1
      go_wp2
      go_ret
      exact ⟨rfl, HB2.out⟩
  · have hE : Sp.moveErr I (pl L) no a b s = ne := by
      unfold Sp.moveErr
      rw [hne, if_neg (fun x => h1 x.1)]
    rw [hE]
    have z1 : (ne == 0) = false := beq_eq_false_iff_ne.2 fun h => h1 (.inl h)
    have z2 : (ne == 403) = false := beq_eq_false_iff_ne.2 fun h => h1 (.inr h)
    clear hE hne hi h1
    go_enter Try.func27, Try.ntmps27
    obtain ⟨⟨a0, a1⟩, _⟩ := two_of HA0.out.1
    obtain ⟨⟨g0, g1⟩, _⟩ := two_of HA0.out.2
    go_wp2_with fail
    rw [← hW]
    refine (refuseName_any _ L a b s _ HV.out HOK.out HSM.out).mono ?_
    rintro e w1 ⟨rfl, hb1⟩
    rw [HNE.out]
    have HB1 : Hid (Below w.heap.size w w1) := HB0.out.trans (hb1.mono HB0.out.size)
    clear hb1 hW a0 a1 g0 g1
    go_wp2
    go_ret
    exact ⟨rfl, HB1.out⟩
end Go.Proofs.Ytacghcoikekfeaa
/- Sp21 -/
namespace Go.Proofs.Ytacghcoikekfeaa
open Go.ChangeShapes Go.WideShapes Go.ChangeAt Go.RowKit Go.Deep It
set_option maxRecDepth 100000
namespace Sp
theorem fold_le {st : Int} (L : List Ino) : ∀ m : Int, m ≤ st → (∀ x ∈ L, x.stamp ≤ st) → L.foldl (fun m x => max m x.stamp) m ≤ st := by
  induction L with
  | nil => intro m hm _; exact hm
  | cons x L ih => exact fun m hm h => ih (max m x.stamp) (by have := h x (by simp); omega) (fun y hy => h y (by simp [hy]))
theorem top_le {st : Int} {L : List Ino} (h0 : 0 ≤ st) (h : ∀ x ∈ L, x.stamp ≤ st) : top L ≤ st := fold_le L 0 h0 h
theorem moveErr_zero {I : List Ino → Int → Int → Bool} {L : List Ino} {no a b : Int} {s : ByteArray} (h : moveErr I L no a b s = 0) : dirErr L a b = 0 := by
  unfold moveErr at h
  split at h
  · exact absurd h (by decide)
  · exact (nameErr_zero h).1
/-- The folder that a name moves to, in the table that has a name less. -/
noncomputable def midI (L : List Ino) (a b : Int) (s : ByteArray) (st c : Int) : Ino := ((lessDir L a b s st)[c.toNat]?).getD zeroI
/-- What Rename tells. -/
noncomputable def rnE (C : List Ino → Int) (I : List Ino → Int → Int → Bool) (L : List Ino) (a b : Int) (s : ByteArray) (c d : Int) (s2 : ByteArray) (st : Int) : Int :=
  if toErr C L st a b s = 0 then (if moveErr I L (toH C L st a b s).1 c d s2 = 0 then Fo.addErr (midI L a b s st c).ents (midI L a b s st c).next s2 (toH C L st a b s).1 (toH C L st a b s).2 else moveErr I L (toH C L st a b s).1 c d s2) else toErr C L st a b s
noncomputable def rnT (C : List Ino → Int) (I : List Ino → Int → Int → Bool) (L : List Ino) (a b : Int) (s : ByteArray) (c d : Int) (s2 : ByteArray) (st : Int) : List Ino :=
  if rnE C I L a b s c d s2 st = 0 then (lessDir L a b s st).set c.toNat (filled (midI L a b s st c) ((midI L a b s st c).ents ++ [(s2, (midI L a b s st c).next + 1, (toH C L st a b s).1, (toH C L st a b s).2)]) ((midI L a b s st c).next + 1) st) else []
/-- What stands of the folder that a name moves to, between the two changes. -/
theorem mid {L : List Ino} {kc kd : Nat} {xc xd : Ino} {es : List Ent} {st : Int} (hxc : L[kc]? = some xc) (hkc : xc.kind = 2) (hlc : es.length ≤ 1536) (hsub : ∀ e ∈ es, e ∈ xc.ents) (hst : top L ≤ st ∧ st ≤ 1099511627776)
    (hxd : L[kd]? = some xd) (hkd : xd.kind = 2) (hld : xd.ents.length ≤ 1536) (hr1 : It.right (L.set kc (filled xc es xc.next st)) = true) :
    ∃ x1 : Ino, (L.set kc (filled xc es xc.next st))[kd]? = some x1 ∧ x1.gen = xd.gen ∧ x1.kind = 2 ∧ x1.ents.length ≤ 1536 ∧ (∀ e ∈ x1.ents, e ∈ xd.ents) ∧ findErr (L.set kc (filled xc es xc.next st)) kd xd.gen = 0 ∧
      ∀ (e : Ent) (nx : Int), At.growErr x1.kind x1.links x1.size x1.stamp (x1.ents.length + 1) st = 0 ∧ putTab (L.set kc (filled xc es xc.next st)) kd xd.gen (filled x1 (x1.ents ++ [e]) nx st) = (L.set kc (filled xc es xc.next st)).set kd (filled x1 (x1.ents ++ [e]) nx st) := by
  have hst0 : 0 ≤ st := Int.le_trans (top_nonneg _) hst.1
  have htop : top (L.set kc (filled xc es xc.next st)) ≤ st := by
    refine top_le hst0 fun x hx => ?_
    rcases List.mem_or_eq_of_mem_set hx with h | rfl
    · exact Int.le_trans (top_ge h) hst.1
    · exact Int.le_refl _
  have key : ∃ x1 : Ino, (L.set kc (filled xc es xc.next st))[kd]? = some x1 ∧ x1.gen = xd.gen ∧ x1.kind = 2 ∧ x1.ents.length ≤ 1536 ∧ ∀ e ∈ x1.ents, e ∈ xd.ents := by
    by_cases h : kc = kd
    · subst h
      rw [hxc] at hxd
      obtain rfl := Option.some.inj hxd
      refine ⟨filled xc es xc.next st, ?_, rfl, hkc, hlc, hsub⟩
      rw [List.getElem?_set_self (List.getElem?_eq_some_iff.1 hxc).1]
    · exact ⟨xd, by rw [List.getElem?_set_ne h]; exact hxd, rfl, hkd, hld, fun _ h => h⟩
  obtain ⟨x1, hx1, hg1, hk1, hl1, hs1⟩ := key
  have hone := (It.right_iff.1 hr1).2.2 x1 (List.mem_of_getElem? hx1)
  have hf1 : findErr (L.set kc (filled xc es xc.next st)) kd xd.gen = 0 := by
    unfold findErr
    rw [if_pos hr1, if_pos ?_]
    unfold names
    rw [show ((kd : Int)).toNat = kd by omega, hx1]
    simp [hg1, hk1]
  refine ⟨x1, hx1, hg1, hk1, hl1, hs1, hf1, fun e nx => ⟨grow_ok hr1 hx1 (by omega) ⟨htop, hst.2⟩ ⟨by omega, by omega⟩, ?_⟩⟩
  exact (putTab_set (y := filled x1 (x1.ents ++ [e]) nx st) hf1 hx1 hg1 (by show x1.kind ≠ 0; omega) (one_filled hone hk1 ⟨hst0, hst.2⟩ (by simp; omega)) rfl).2
end Sp
end Go.Proofs.Ytacghcoikekfeaa
/- Sp22 -/
namespace Go.Proofs.Ytacghcoikekfeaa
open Go.ChangeShapes Go.WideShapes Go.ChangeAt Go.RowKit Go.Deep It
set_option maxRecDepth 100000
set_option maxHeartbeats 4000000 in
theorem srename_any {C : List Ino → Int} {I : List Ino → Int → Int → Bool} (hC : ChkSaid C) (hM : Sp.ChkMeans C) (hI : InsSaid C I) {S : Nat → Prop} (v : Value) (L : List Rw) (a b : Int) (s : ByteArray) (c d : Int) (s2 : ByteArray) (st : Int) (w : World) (hv : TabAt S w v L) (hok : Sp.okN L) (hs : s.size ≤ maxLen) (hs2 : s2.size ≤ maxLen) :
    Calls Try.prog 12 #[v, .agg #[.int .i64 a, .int .i64 b], .string s, .agg #[.int .i64 c, .int .i64 d], .string s2, .int .i64 st] w fun e w' =>
      ∃ u L', e = .returned (.tuple #[u, .int .i64 (Sp.rnE C I (pl L) a b s c d s2 st)]) ∧ TabAt (fun b => w.heap.size ≤ b) w' u L' ∧ pl L' = Sp.rnT C I (pl L) a b s c d s2 st ∧ Below w.heap.size w w' := by
  obtain ⟨W, hW⟩ : ∃ W, W = (w.alloc (BH a b)).alloc (BH c d) := ⟨_, rfl⟩
  have HB0 : Hid (Below w.heap.size w W) := by show Below w.heap.size w W; rw [hW]; exact ((Below.refl _ w).alloc (Nat.le_refl _) _).alloc (by simp) _
  have HA0 : Hid (W.heap[w.heap.size]? = some (BH a b) ∧ W.heap[w.heap.size + 1]? = some (BH c d)) := by
    rw [hW]
    refine ⟨(Below.heap_alloc _ _ _ (by simp)).trans (heap_alloc_new _ _), ?_⟩
    have := heap_alloc_new (w.alloc (BH a b)) (BH c d)
    rwa [show (w.alloc (BH a b)).heap.size = w.heap.size + 1 by simp] at this
  have hws : w.heap.size + 1 < W.heap.size := by rw [hW]; simp
  have HV : Hid (TabAt S W v L) := hv.up HB0.out
  have HVW : Hid (∀ V, Below w.heap.size w V → TabAt S V v L) := fun V h => hv.up h
  obtain ⟨ao, cap, rfl, _, _⟩ := hv.open
  have HOK : Hid (Sp.okN L) := hok
  have HSM : Hid (s.size ≤ maxLen ∧ s2.size ≤ maxLen) := ⟨hs, hs2⟩
  have HCC : Hid (ChkSaid C ∧ InsSaid C I) := ⟨hC, hI⟩
  obtain ⟨⟨q1, q2⟩, hq⟩ : ∃ q, Sp.toH C (pl L) st a b s = q := ⟨_, rfl⟩
  obtain ⟨te, hte⟩ : ∃ te, Sp.toErr C (pl L) st a b s = te := ⟨_, rfl⟩
  have HTE : Hid (Sp.toH C (pl L) st a b s = (q1, q2) ∧ Sp.toErr C (pl L) st a b s = te) := ⟨hq, hte⟩
  clear hv hok hs hs2 hC hI
  by_cases hz : te = 0
  · subst hz
    have hc0 : C (pl L) = 0 := by
      have h := hte
      unfold Sp.toErr at h
      by_cases hse : Sp.stErr C (pl L) st = 0
      · exact (Sp.stErr_zero hse).1
      · rw [if_neg hse] at h
        exact absurd h hse
    obtain ⟨kc, xc, j, en, kt, xt, rfl, hxc, hgc, hkc, hfc, hff, hpl, hj, hqe, hkt, hkt0, hxt, hgt, hkt2, hlk, hft, hit, hic, hr, hst, hlen⟩ := Sp.to_zero hM hte
    rw [hq] at hqe
    have hq1 : q1 = kt := by rw [← hkt, ← hqe]
    obtain ⟨yc, hyc, rfl⟩ := Sp.pl_some hxc
    have hst0 : 0 ≤ st := Int.le_trans (Sp.top_nonneg _) hst.1
    have HCK : Hid (C (pl L) = 0 ∧ ∃ (k : Nat) (x : Ino), q1 = k ∧ (pl L)[k]? = some x ∧ x.kind ≠ 0) := ⟨hc0, kt, xt, hq1, hxt, hkt2⟩
    obtain ⟨mv, hmv⟩ : ∃ mv, Sp.moveErr I (pl L) q1 c d s2 = mv := ⟨_, rfl⟩
    have HMV : Hid (Sp.moveErr I (pl L) q1 c d s2 = mv) := hmv
    by_cases hm0 : mv = 0
    · subst hm0
      obtain ⟨kd, xd, rfl, hxd, hgd, hkd, -, -, -, -⟩ := Sp.dir_get (Sp.moveErr_zero hmv)
      obtain ⟨yd, hyd, rfl⟩ := Sp.pl_some hxd
      obtain ⟨hp1, hr1⟩ := Sp.less_right (s := s) hr hxc hgc hkc hfc ⟨hst0, hst.2⟩ hlen
      have hlend := (hM _ hc0).2.2.1 yd.i (List.mem_of_getElem? hxd)
      obtain ⟨x1, hx1, hg1, hk1, hl1, hsub, hf1, hgp⟩ := Sp.mid (es := yc.i.ents.eraseIdx (Fo.plc yc.i.ents yc.i.next s).toNat) (st := st) hxc hkc (Nat.le_trans (List.length_eraseIdx_le ..) hlen) (fun e he => List.mem_of_mem_eraseIdx he) hst hxd hkd hlend hr1
      have hld : Sp.lessDir (pl L) kc b s st = (pl L).set kc (Sp.filled yc.i (yc.i.ents.eraseIdx (Fo.plc yc.i.ents yc.i.next s).toNat) yc.i.next st) := by
        unfold Sp.lessDir
        rw [hic]
        rfl
      obtain ⟨T1, hT1⟩ : ∃ T1, (pl L).set kc (Sp.filled yc.i (yc.i.ents.eraseIdx (Fo.plc yc.i.ents yc.i.next s).toNat) yc.i.next st) = T1 := ⟨_, rfl⟩
      rw [hT1] at hp1 hx1 hgp hld
      have hmid : Sp.midI (pl L) kc b s st kd = x1 := by
        unfold Sp.midI
        rw [hld, show ((kd : Int)).toNat = kd by omega, hx1]
        rfl
      obtain ⟨ae, hae⟩ : ∃ ae, Fo.addErr x1.ents x1.next s2 q1 q2 = ae := ⟨_, rfl⟩
      obtain ⟨T2, hT2⟩ : ∃ T2, T1.set kd (Sp.filled x1 (x1.ents ++ [(s2, x1.next + 1, q1, q2)]) (x1.next + 1) st) = T2 := ⟨_, rfl⟩
      have hE : Sp.rnE C I (pl L) kc b s kd d s2 st = ae := by
        unfold Sp.rnE
        rw [hte, if_pos rfl, hq, hmv, if_pos rfl, hmid, hae]
      have hT : Sp.rnT C I (pl L) kc b s kd d s2 st = if ae = 0 then T2 else [] := by
        unfold Sp.rnT
        rw [hE, hq, hmid, hld, show ((kd : Int)).toNat = kd by omega, hT2]
      have HAE : Hid (Fo.addErr x1.ents x1.next s2 q1 q2 = ae) := hae
      have HP : Hid (putTab (pl L) kc b (Sp.filled yc.i (yc.i.ents.eraseIdx (Fo.plc yc.i.ents yc.i.next s).toNat) yc.i.next st) = T1) := hp1
      have HPP : Hid (putTab T1 kd d (Sp.filled x1 (x1.ents ++ [(s2, x1.next + 1, q1, q2)]) (x1.next + 1) st) = T2) := by rw [← hgd, ← hT2]; exact (hgp _ _).2
      have HX1 : Hid (T1[kd]? = some x1 ∧ (∀ e ∈ x1.ents, e.1.size ≤ maxLen) ∧ x1.ents.length + 1 ≤ 3518437208883 ∧ At.growErr x1.kind x1.links x1.size x1.stamp (x1.ents.length + 1) st = 0) := ⟨hx1, fun e he => HOK.out yd (List.mem_of_getElem? hyd) e (hsub e he), by omega, (hgp (s2, 0, 0, 0) 0).1⟩
      have HYC : Hid (L[kc]? = some yc ∧ (∀ e ∈ yc.i.ents, e.1.size ≤ maxLen) ∧ Fo.findErr yc.i.ents yc.i.next s = 0 ∧ At.growErr yc.i.kind yc.i.links yc.i.size yc.i.stamp (yc.i.ents.eraseIdx (Fo.plc yc.i.ents yc.i.next s).toNat).length st = 0) :=
        ⟨hyc, HOK.out yc (List.mem_of_getElem? hyc), hff, Sp.grow_ok hr hxc (by omega) hst ⟨by omega, by have := List.length_eraseIdx_le yc.i.ents (Fo.plc yc.i.ents yc.i.next s).toNat; omega⟩⟩
      obtain ⟨R, hR⟩ : ∃ R, (if ae = 0 then T2 else []) = R := ⟨_, rfl⟩
      have HRR : Hid ((if ae = 0 then T2 else []) = R) := hR
      rw [hE, hT, hR]
      clear hR hc0 hxc hgc hkc hfc hff hpl hj hqe hkt hkt0 hxt hgt hkt2 hlk hft hit hic hr hst hlen hq1 hyc hst0 hmv hxd hgd hkd hyd hp1 hr1 hlend hx1 hg1 hk1 hl1 hsub hf1 hgp hld hT1 hmid hae hT2 hE hT hM hte hq
      go_enter Try.func12, Try.ntmps12
      obtain ⟨⟨a0, a1⟩, _⟩ := two_of HA0.out.1
      go_wp2_with fail
      rw [← hW]
      refine (toChange_any HCC.out.1 _ L kc b s st _ HV.out HOK.out HSM.out.1).mono ?_
      rintro e w1 ⟨rfl, hb1⟩
      rw [HTE.out.1, HTE.out.2]
      have HB1 : Hid (Below w.heap.size w w1) := HB0.out.trans (hb1.mono HB0.out.size)
      have HA1 : Hid (w1.heap[w.heap.size]? = some (BH kc b) ∧ w1.heap[w.heap.size + 1]? = some (BH kd d)) := ⟨(hb1.block _ (by omega)).trans HA0.out.1, (hb1.block _ hws).trans HA0.out.2⟩
      have hw11 : w.heap.size + 1 < w1.heap.size := (Array.getElem?_eq_some_iff.1 HA1.out.2).1
      have hw10 : w.heap.size < w1.heap.size := by omega
      clear hb1 hW a0 a1
      obtain ⟨W1, hW1⟩ : ∃ W1, W1 = w1.alloc (BH q1 q2) := ⟨_, rfl⟩
      have bb1 : Below w1.heap.size w1 W1 := by rw [hW1]; exact (Below.refl _ _).alloc (Nat.le_refl _) _
      have HBW : Hid (Below w.heap.size w W1) := HB1.out.trans (bb1.mono HB1.out.size)
      have HAW : Hid (W1.heap[w.heap.size]? = some (BH kc b) ∧ W1.heap[w1.heap.size]? = some (BH q1 q2) ∧ W1.heap[w.heap.size + 1]? = some (BH kd d)) := ⟨(bb1.block _ hw10).trans HA1.out.1, by rw [hW1]; exact heap_alloc_new _ _, (bb1.block _ hw11).trans HA1.out.2⟩
      have hwt1 : w1.heap.size < W1.heap.size := (Array.getElem?_eq_some_iff.1 HAW.out.2.1).1
      obtain ⟨⟨g0, g1⟩, _⟩ := two_of HA1.out.2
      clear bb1
      go_wp2_with fail
      rw [← hW1]
      refine (refuseMove_any HCC.out.2 _ L q1 q2 kd d s2 _ (HVW.out _ HBW.out) HOK.out HSM.out.2 HCK.out.1 HCK.out.2).mono ?_
      rintro e w2 ⟨rfl, hb2⟩
      rw [HMV.out]
      have HB2 : Hid (Below w.heap.size w w2) := HBW.out.trans (hb2.mono HBW.out.size)
      have HA2 : Hid (w2.heap[w.heap.size]? = some (BH kc b) ∧ w2.heap[w1.heap.size]? = some (BH q1 q2) ∧ w2.heap[w.heap.size + 1]? = some (BH kd d)) := ⟨(hb2.block _ (by omega)).trans HAW.out.1, (hb2.block _ hwt1).trans HAW.out.2.1, (hb2.block _ (by omega)).trans HAW.out.2.2⟩
      clear hb2 hW1 g0 g1
      have HSG : Hid (∀ w' : World, Below w2.heap.size w2 w' → w'.cell? ⟨w.heap.size, 0, none⟩ = some (.int .i64 kc) ∧ w'.cell? ⟨w.heap.size, 1, none⟩ = some (.int .i64 b) ∧ w'.cell? ⟨w1.heap.size, 0, none⟩ = some (.int .i64 q1) ∧ w'.cell? ⟨w1.heap.size, 1, none⟩ = some (.int .i64 q2) ∧ w'.cell? ⟨w.heap.size + 1, 0, none⟩ = some (.int .i64 kd) ∧ w'.cell? ⟨w.heap.size + 1, 1, none⟩ = some (.int .i64 d)) := fun V h => by
        obtain ⟨⟨a0, a1⟩, _⟩ := two_of HA2.out.1
        obtain ⟨⟨t0, t1⟩, _⟩ := two_of HA2.out.2.1
        obtain ⟨⟨g0, g1⟩, _⟩ := two_of HA2.out.2.2
        exact ⟨cell_step a0 h, cell_step a1 h, cell_step t0 h, cell_step t1 h, cell_step g0 h, cell_step g1 h⟩
      have HREM : Hid (∀ V, Below w2.heap.size w2 V → Calls Try.prog 28 #[.slice ao L.length cap, .agg #[.int .i64 kc, .int .i64 b], .string s, .int .i64 st] V fun e w' => ∃ u L', e = .returned u ∧ TabAt (fun b => V.heap.size ≤ b) w' u L' ∧ pl L' = T1 ∧ Below V.heap.size V w') := fun V h => (sremove_any _ L kc b st s yc V (HVW.out _ (HB2.out.trans (h.mono HB2.out.size))) HYC.out.1 HYC.out.2.1 HSM.out.1 HYC.out.2.2.1 HYC.out.2.2.2).mono fun e w' ⟨u, L', h1, h2, h3, h4⟩ => ⟨u, L', h1, h2, by rw [h3]; exact HP.out, h4⟩
      have HADD : Hid (∀ V u L1 (S : Nat → Prop), TabAt S V u L1 → pl L1 = T1 → Calls Try.prog 24 #[u, .agg #[.int .i64 kd, .int .i64 d], .string s2, .agg #[.int .i64 q1, .int .i64 q2], .int .i64 st] V fun e w' => ∃ u L', e = .returned (.tuple #[u, .int .i64 ae]) ∧ TabAt (fun b => V.heap.size ≤ b) w' u L' ∧ pl L' = R ∧ Below V.heap.size V w') := fun V u L1 S h hp => by
        obtain ⟨y1, hy1, hyi⟩ := Sp.pl_some (L := L1) (k := kd) (x := x1) (by rw [hp]; exact HX1.out.1)
        refine (sadd_any u L1 kd d q1 q2 st s2 y1 V h hy1 (by rw [hyi]; exact HX1.out.2.1) HSM.out.2 (by rw [hyi]; exact fun _ => HX1.out.2.2)).mono fun e w' ⟨u, L', h1, h2, h3, h4⟩ => ⟨u, L', ?_, h2, ?_, h4⟩
        · rw [h1, hyi, HAE.out]
        · rw [h3, hyi, HAE.out, hp, HPP.out, HRR.out]
      go_wp2_with fail
      go_region_held3 (fun w' => w'.cell? ⟨w.heap.size, 0, none⟩ = some (.int .i64 kc) ∧ w'.cell? ⟨w.heap.size, 1, none⟩ = some (.int .i64 b) ∧ w'.cell? ⟨w1.heap.size, 0, none⟩ = some (.int .i64 q1) ∧ w'.cell? ⟨w1.heap.size, 1, none⟩ = some (.int .i64 q2) ∧ w'.cell? ⟨w.heap.size + 1, 0, none⟩ = some (.int .i64 kd) ∧ w'.cell? ⟨w.heap.size + 1, 1, none⟩ = some (.int .i64 d)) (first | exact HSG.out _ (by (repeat (first | assumption | exact Below.refl _ _ | refine bel_drew ?_ | refine Below.setCell ?_ (by first | exact Nat.le_refl _ | assumption) _ | refine Below.alloc ?_ (by first | exact Nat.le_refl _ | assumption) _)))) (first
        | (go_at_call 28; refine (HREM.out _ (by (repeat (first | assumption | exact Below.refl _ _ | refine bel_drew ?_ | refine Below.setCell ?_ (by first | exact Nat.le_refl _ | assumption) _ | refine Below.alloc ?_ (by first | exact Nat.le_refl _ | assumption) _)))).mono ?_; rintro e w3 ⟨u3, L3, rfl, ht3, hp3, hb3⟩; have hb33 : Below w2.heap.size w2 w3 := undrew hb3; clear hb3)
        | (go_at_call 24; refine (HADD.out _ _ L3 _ ht3 hp3).mono ?_; rintro e w4 ⟨u4, L4, rfl, ht4, hp4, hb4⟩; have hb44 : Below w2.heap.size w2 w4 := hb33.trans (hb4.mono hb33.size)))
      all_goals
        have HB4 : Hid (Below w.heap.size w w4) := HB2.out.trans (hb44.mono HB2.out.size)
        have hw3 : w.heap.size ≤ w3.heap.size := Nat.le_trans HB2.out.size hb33.size
        have HT4 : Hid (TabAt (fun b => w.heap.size ≤ b) w4 u4 L4) := ⟨ht4.1.imp fun _ h _ => Nat.le_trans hw3 h, fun y hy => (ht4.2 y hy).imp fun _ h _ => Nat.le_trans hw3 h⟩
        have HP4 : Hid (pl L4 = R) := hp4
        clear ht4 hp4 hb4 ht3 hp3
        go_wp2
        (try simp only [Exit.inBlock, Exit.then])
        refine bodyPost_ret (v := .tuple #[u4, .int .i64 ae]) (by simp [results, Try.results12, go_sem]) rfl ?_
        first
          | exact ⟨u4, rfl, L4, HT4.out, HP4.out, HB4.out⟩
          | exact ⟨u4, L4, rfl, HT4.out, HP4.out, HB4.out⟩
    · have hE : Sp.rnE C I (pl L) kc b s c d s2 st = mv := by unfold Sp.rnE; rw [hte, if_pos rfl, hq, hmv, if_neg hm0]
      have hT : Sp.rnT C I (pl L) kc b s c d s2 st = [] := by unfold Sp.rnT; rw [if_neg (by rw [hE]; exact hm0)]
      rw [hE, hT]
      have hz' : (mv != 0) = true := by simpa using hm0
      clear hc0 hxc hgc hkc hfc hff hpl hj hqe hkt hkt0 hxt hgt hkt2 hlk hft hit hic hr hst hlen hq1 hyc hst0 hmv hm0 hE hT hM hte hq
      go_enter Try.func12, Try.ntmps12
      obtain ⟨⟨a0, a1⟩, _⟩ := two_of HA0.out.1
      go_wp2_with fail
      rw [← hW]
      refine (toChange_any HCC.out.1 _ L kc b s st _ HV.out HOK.out HSM.out.1).mono ?_
      rintro e w1 ⟨rfl, hb1⟩
      rw [HTE.out.1, HTE.out.2]
      have HB1 : Hid (Below w.heap.size w w1) := HB0.out.trans (hb1.mono HB0.out.size)
      have HA1 : Hid (w1.heap[w.heap.size]? = some (BH kc b) ∧ w1.heap[w.heap.size + 1]? = some (BH c d)) := ⟨(hb1.block _ (by omega)).trans HA0.out.1, (hb1.block _ hws).trans HA0.out.2⟩
      have hw11 : w.heap.size + 1 < w1.heap.size := (Array.getElem?_eq_some_iff.1 HA1.out.2).1
      have hw10 : w.heap.size < w1.heap.size := by omega
      clear hb1 hW a0 a1
      obtain ⟨W1, hW1⟩ : ∃ W1, W1 = w1.alloc (BH q1 q2) := ⟨_, rfl⟩
      have bb1 : Below w1.heap.size w1 W1 := by rw [hW1]; exact (Below.refl _ _).alloc (Nat.le_refl _) _
      have HBW : Hid (Below w.heap.size w W1) := HB1.out.trans (bb1.mono HB1.out.size)
      have HAW : Hid (W1.heap[w.heap.size]? = some (BH kc b) ∧ W1.heap[w1.heap.size]? = some (BH q1 q2) ∧ W1.heap[w.heap.size + 1]? = some (BH c d)) := ⟨(bb1.block _ hw10).trans HA1.out.1, by rw [hW1]; exact heap_alloc_new _ _, (bb1.block _ hw11).trans HA1.out.2⟩
      have hwt1 : w1.heap.size < W1.heap.size := (Array.getElem?_eq_some_iff.1 HAW.out.2.1).1
      obtain ⟨⟨g0, g1⟩, _⟩ := two_of HA1.out.2
      clear bb1
      go_wp2_with fail
      rw [← hW1]
      refine (refuseMove_any HCC.out.2 _ L q1 q2 c d s2 _ (HVW.out _ HBW.out) HOK.out HSM.out.2 HCK.out.1 HCK.out.2).mono ?_
      rintro e w2 ⟨rfl, hb2⟩
      rw [HMV.out]
      have HB2 : Hid (Below w.heap.size w w2) := HBW.out.trans (hb2.mono HBW.out.size)
      have HA2 : Hid (w2.heap[w.heap.size]? = some (BH kc b) ∧ w2.heap[w1.heap.size]? = some (BH q1 q2) ∧ w2.heap[w.heap.size + 1]? = some (BH c d)) := ⟨(hb2.block _ (by omega)).trans HAW.out.1, (hb2.block _ hwt1).trans HAW.out.2.1, (hb2.block _ (by omega)).trans HAW.out.2.2⟩
      clear hb2 hW1 g0 g1
      go_wp2
      (try simp only [Exit.inBlock, Exit.then])
      refine bodyPost_ret (v := .tuple #[.slice none 0 0, .int .i64 mv]) (by simp [results, Try.results12, go_sem]) rfl ?_
      have hbe := HB2.out
      have hbs := hbe.size
      first
        | exact ⟨_, rfl, [], tab_nil _ _, rfl, by repeat (first | exact hbe | refine Below.setCell ?_ (by simp) _ | refine Below.alloc ?_ (by first | omega | (simp; omega)) _)⟩
        | exact ⟨_, [], rfl, tab_nil _ _, rfl, by repeat (first | exact hbe | refine Below.setCell ?_ (by simp) _ | refine Below.alloc ?_ (by first | omega | (simp; omega)) _)⟩
  · have hE : Sp.rnE C I (pl L) a b s c d s2 st = te := by unfold Sp.rnE; rw [if_neg (by rw [hte]; exact hz), hte]
    have hT : Sp.rnT C I (pl L) a b s c d s2 st = [] := by unfold Sp.rnT; rw [if_neg (by rw [hE]; exact hz)]
    rw [hE, hT]
    have hz' : (te != 0) = true := by simpa using hz
    clear hz hE hT hte hM hq
    go_enter Try.func12, Try.ntmps12
    obtain ⟨⟨a0, a1⟩, _⟩ := two_of HA0.out.1
    go_wp2_with fail
    rw [← hW]
    refine (toChange_any HCC.out.1 _ L a b s st _ HV.out HOK.out HSM.out.1).mono ?_
    rintro e w1 ⟨rfl, hb1⟩
    rw [HTE.out.1, HTE.out.2]
    have HB1 : Hid (Below w.heap.size w w1) := HB0.out.trans (hb1.mono HB0.out.size)
    have HA1 : Hid (w1.heap[w.heap.size]? = some (BH a b) ∧ w1.heap[w.heap.size + 1]? = some (BH c d)) := ⟨(hb1.block _ (by omega)).trans HA0.out.1, (hb1.block _ hws).trans HA0.out.2⟩
    have hw11 : w.heap.size + 1 < w1.heap.size := (Array.getElem?_eq_some_iff.1 HA1.out.2).1
    have hw10 : w.heap.size < w1.heap.size := by omega
    clear hb1 hW a0 a1
    go_wp2
    (try simp only [Exit.inBlock, Exit.then])
    refine bodyPost_ret (v := .tuple #[.slice none 0 0, .int .i64 te]) (by simp [results, Try.results12, go_sem]) rfl ?_
    have hbe := HB1.out
    have hbs := hbe.size
    first
      | exact ⟨_, rfl, [], tab_nil _ _, rfl, by repeat (first | exact hbe | refine Below.setCell ?_ (by simp) _ | refine Below.alloc ?_ (by first | omega | (simp; omega)) _)⟩
      | exact ⟨_, [], rfl, tab_nil _ _, rfl, by repeat (first | exact hbe | refine Below.setCell ?_ (by simp) _ | refine Below.alloc ?_ (by first | omega | (simp; omega)) _)⟩
end Go.Proofs.Ytacghcoikekfeaa
/- RNm -/
namespace Go.Proofs.Ytacghcoikekfeaa
open Go.ChangeShapes Go.WideShapes Go.ChangeAt Go.RowKit Go.Deep It
set_option maxRecDepth 100000
def Sp.toI (no : Int) (e : Sp.En) : Bool := e.2.2.1 == no
/-- How many entries name an inode's number. -/
def Sp.nmv (L : List Ino) (no : Int) : Nat := (Sp.allEnts L).countP (Sp.toI no)
theorem Sp.nmv_step {L : List Rw} {k : Nat} {x : Rw} (h : L[k]? = some x) (no : Int) : Sp.nmv (pl (L.take (k + 1))) no = Sp.nmv (pl (L.take k)) no + x.i.ents.countP (Sp.toI no) := by
  rw [List.take_add_one, h]
  simp [Sp.nmv, Sp.allEnts, List.countP_append]
theorem cntP_step {α : Type} {q : α → Bool} {l : List α} {j : Nat} {e : α} (h : l[j]? = some e) : (l.take (j + 1)).countP q = (l.take j).countP q + if q e = true then 1 else 0 := by
  rw [List.take_add_one, h]
  simp [List.countP_append, List.countP_cons]
theorem Sp.nmv_le {S : Nat → Prop} {w : World} {L : List Rw} (no : Int) (h : ∀ x ∈ L, Good S w x) : ∀ k, k ≤ L.length → Sp.nmv (pl (L.take k)) no ≤ k * 3518437208883
  | 0, _ => by simp [Sp.nmv, Sp.allEnts]
  | k + 1, hk => by
    have hx : L[k]? = some L[k] := List.getElem?_eq_getElem hk
    rw [Sp.nmv_step hx]
    have h1 := Sp.nmv_le no h k (by omega)
    have h2 := (h _ (List.mem_of_getElem? hx)).2.2.2.2
    have h3 : L[k].i.ents.countP (Sp.toI no) ≤ L[k].i.ents.length := List.countP_le_length
    omega
theorem tab_eight {w : World} {L : List Rw} {S : Nat → Prop} {ao : Option Addr} {n cap : Nat} (h : TabAt S w (.slice ao n cap) L) {i : Nat} {x : Rw} (hi : L[i]? = some x) :
    (∃ b off, ao = some ⟨b, off, none⟩ ∧ b < w.heap.size ∧ eight w b (off + i * 8) x) ∧ x.en = x.i.ents.length ∧ x.i.ents.length ≤ 3518437208883 ∧
    ∀ j e, x.i.ents[j]? = some e → ∃ b off, x.ep = some ⟨b, off, none⟩ ∧ b < w.heap.size ∧ ent4 w b (off + j * 4) e := by
  obtain ⟨ao', cap', hv, -, hx⟩ := h.open
  simp only [Value.slice.injEq] at hv
  obtain ⟨rfl, -, rfl⟩ := hv
  obtain ⟨h1, h2⟩ := hx i x hi
  refine ⟨h1, h2.len.2, h2.2.2.2.2, fun j e he => ?_⟩
  obtain ⟨eo, ecap, hev, -, hents⟩ := h2.2.1.open
  simp only [Value.slice.injEq] at hev
  obtain ⟨rfl, -, rfl⟩ := hev
  obtain ⟨b2, off2, h1, -, h3, hc⟩ := hents j e he
  exact ⟨b2, off2, h1, h3, hc 0 _ rfl, hc 1 _ rfl, hc 2 _ rfl, hc 3 _ rfl⟩
theorem ent4.below {w w' : World} {b o B : Nat} {e : Sp.En} (h : ent4 w b o e) (hb : Below B w w') (hB : b < B) : ent4 w' b o e :=
  ⟨(hb.cell (p := ⟨b, o, none⟩) hB).trans h.1, (hb.cell (p := ⟨b, o + 1, none⟩) hB).trans h.2.1, (hb.cell (p := ⟨b, o + 2, none⟩) hB).trans h.2.2.1, (hb.cell (p := ⟨b, o + 3, none⟩) hB).trans h.2.2.2⟩
end Go.Proofs.Ytacghcoikekfeaa
/- RRe -/
namespace Go.Proofs.Ytacghcoikekfeaa
open Go.ChangeShapes Go.WideShapes Go.ChangeAt Go.RowKit Go.Deep It
set_option maxRecDepth 100000
namespace Sp
/-- An inode is d entries away from another one. -/
def Rch (L : List Ino) : Nat → Nat → Nat → Prop
  | 0, a, c => a = c
  | d + 1, a, c => ∃ p, Rch L d a p ∧ p < L.length ∧ ∃ e ∈ entsAt L p, e.2.2.1 = (c : Int)
def Sound (L : List Ino) (a : Nat) (f : Nat → Bool) : Prop := ∀ c, c < L.length → f c = true → ∃ d, Rch L d a c
def Full (L : List Ino) (a r : Nat) (f : Nat → Bool) : Prop := ∀ d, d ≤ r → ∀ c, c < L.length → Rch L d a c → f c = true
/-- In the middle of a round: what was set at its start, what is now, how far it is. -/
structure Mid (L : List Ino) (a : Nat) (f0 f : Nat → Bool) (k j : Nat) : Prop where
  sound : Sound L a f
  mono : ∀ c, f0 c = true → f c = true
  past : ∀ i, i < k → f0 i = true → ∀ e ∈ entsAt L i, ∀ c : Nat, e.2.2.1 = (c : Int) → c < L.length → f c = true
  here : f0 k = true → ∀ e ∈ (entsAt L k).take j, ∀ c : Nat, e.2.2.1 = (c : Int) → c < L.length → f c = true
def setB (f : Nat → Bool) (c : Nat) (i : Nat) : Bool := if i = c then true else f i
theorem Mid.start {L : List Ino} {a : Nat} {f : Nat → Bool} (h : Sound L a f) : Mid L a f f 0 0 := ⟨h, fun _ h => h, fun i hi => by omega, fun _ e he => by simp at he⟩
theorem setB_mono {f : Nat → Bool} {c i : Nat} (h : f i = true) : setB f c i = true := by unfold setB; split; rfl; exact h
theorem Mid.set {L : List Ino} {a : Nat} {f0 f : Nat → Bool} {k j c : Nat} {e : En} (h : Mid L a f0 f k j) (hk : k < L.length) (he : (entsAt L k)[j]? = some e) (hf : f k = true) (hc : e.2.2.1 = (c : Int)) : Mid L a f0 (setB f c) k (j + 1) := by
  refine ⟨fun i hi hs => ?_, fun i hi => setB_mono (h.mono i hi), fun i hi h0 e' he' c' hc' hl => setB_mono (h.past i hi h0 e' he' c' hc' hl), fun h0 e' he' c' hc' hl => ?_⟩
  · by_cases hic : i = c
    · subst hic
      obtain ⟨d, hd⟩ := h.sound k hk hf
      exact ⟨d + 1, k, hd, hk, e, List.mem_of_getElem? he, hc⟩
    · unfold setB at hs
      rw [if_neg hic] at hs
      exact h.sound i hi hs
  · rw [List.take_add_one, he] at he'
    rcases List.mem_append.1 he' with he' | he'
    · exact setB_mono (h.here h0 e' he' c' hc' hl)
    · simp at he'
      subst he'
      unfold setB
      rw [if_pos (by omega)]
theorem Mid.skip {L : List Ino} {a : Nat} {f0 f : Nat → Bool} {k j : Nat} {e : En} (h : Mid L a f0 f k j) (he : (entsAt L k)[j]? = some e) (hf : f k = true → 0 ≤ e.2.2.1 → (L.length : Int) ≤ e.2.2.1) : Mid L a f0 f k (j + 1) := by
  refine ⟨h.sound, h.mono, h.past, fun h0 e' he' c' hc' hl => ?_⟩
  rw [List.take_add_one, he] at he'
  rcases List.mem_append.1 he' with he' | he'
  · exact h.here h0 e' he' c' hc' hl
  · simp at he'
    subst he'
    have := hf (h.mono k h0) (by omega)
    omega
theorem Mid.next {L : List Ino} {a : Nat} {f0 f : Nat → Bool} {k j : Nat} (h : Mid L a f0 f k j) (hj : (entsAt L k).length ≤ j) : Mid L a f0 f (k + 1) 0 := by
  refine ⟨h.sound, h.mono, fun i hi h0 e he c hc hl => ?_, fun _ e he => by simp at he⟩
  by_cases hik : i = k
  · subst hik
    exact h.here h0 e (by rw [List.take_of_length_le hj]; exact he) c hc hl
  · exact h.past i (by omega) h0 e he c hc hl
theorem Mid.done {L : List Ino} {a r : Nat} {f0 f : Nat → Bool} (h : Mid L a f0 f L.length 0) (hf : Full L a r f0) : Full L a (r + 1) f := by
  intro d hd c hc hr
  by_cases hd' : d ≤ r
  · exact h.mono c (hf d hd' c hc hr)
  · have : d = r + 1 := by omega
    subst this
    obtain ⟨p, hp, hpl, e, he, hec⟩ := hr
    exact h.past p hpl (hf r (Nat.le_refl _) p hpl hp) e he c hec hc
theorem sound_one {L : List Ino} {a : Nat} : Sound L a (setB (fun _ => false) a) := fun c _ hs => by
  unfold setB at hs
  split at hs
  · rename_i h; exact ⟨0, h.symm⟩
  · cases hs
theorem full_one {L : List Ino} {a : Nat} : Full L a 0 (setB (fun _ => false) a) := fun d hd c _ hr => by
  have : d = 0 := by omega
  subst this
  have h : a = c := hr
  unfold setB
  rw [if_pos h.symm]
end Sp
theorem bools_set {w : World} {b n : Nat} {f : Nat → Bool} (h : w.rowIs b 4 n (fun i => .bool (f i))) (c : Nat) : (w.setCell ⟨b, c, none⟩ (.bool true)).rowIs b 4 n (fun i => .bool (Sp.setB f c i)) :=
  (h.set c (.bool true)).congr fun i _ => by unfold Sp.setB; split <;> rfl
theorem Try.info4 : (Try.prog.info? 4).map (fun i => (i.zero, i.size, i.bytes)) = some (some (.bool false), 1, 1) := by kernel_rfl
end Go.Proofs.Ytacghcoikekfeaa
/- SRef13 -/
namespace Go.Proofs.Ytacghcoikekfeaa
open Go.ChangeShapes Go.WideShapes Go.ChangeAt Go.RowKit Go.Deep It
set_option maxRecDepth 100000
/-- What is reached from a folder is what is inside it; nothing is inside a file. -/
def Sp.InsMeans (C : List Ino → Int) (I : List Ino → Int → Int → Bool) : Prop := ∀ (L : List Ino) (no c : Nat), C L = 0 → Sp.dirAt L c = true → no < L.length →
  (Sp.dirAt L no = true → ∀ f, Sp.Sound L no f → Sp.Full L no L.length f → f c = I L no c) ∧ (Sp.dirAt L no = false → I L no c = false)
theorem Sp.nameErr_dir {L : List Ino} {a b : Int} {s : ByteArray} (h : Sp.nameErr L a b s = 0 ∨ Sp.nameErr L a b s = 403) : Sp.dirErr L a b = 0 := by
  by_cases hd : Sp.dirErr L a b = 0
  · exact hd
  · have h1 : Sp.lookErr L a b s = Sp.dirErr L a b := by unfold Sp.lookErr; rw [if_neg hd]
    have h2 := Sp.dirErr_four L a b
    unfold Sp.nameErr at h
    rw [h1, if_neg hd, if_neg (by omega)] at h
    omega
end Go.Proofs.Ytacghcoikekfeaa
/- Late -/
namespace Go.Proofs.Ytacghcoikekfeaa
set_option maxRecDepth 100000
namespace Late
variable {P : Program} {ops : Array Oper} {Q : Exit → Act → World → Prop} {md : Region.Mode} {S : World → Prop} {k : Nat}

/-- Whatever order is picked from here on; and S holds as long as number k has not come up. -/
def any (P : Program) (md : Region.Mode) (ops : Array Oper) (Q : Exit → Act → World → Prop) (S : World → Prop) (k : Nat) : Nat → Array Bool → Act → World → Prop
  | 0, l, a, w => Region.ready md ops l = [] ∧ Q .normal a w
  | n + 1, l, a, w => (Region.ready md ops l = [] → Q .normal a w) ∧
      ∀ i ∈ Region.ready md ops l, wpOp P ops Q i (fun b v => (i ≠ k → S v) ∧ any P md ops Q S k n (l.setIfInBounds i true) b v) a w

theorem any_plain : ∀ (n : Nat) (l : Array Bool) (a : Act) (w : World), any P md ops Q S k n l a w → wpAny P md ops Q n l a w := by
  intro n
  induction n with
  | zero => exact fun _ _ _ h => h
  | succ n ih => exact fun l a w h => ⟨h.1, fun i hi => wpOp_mono (fun b v hb => ih _ b v hb.2) (h.2 i hi)⟩

/-- Number k waits for number i. -/
def waits (md : Region.Mode) (ops : Array Oper) (k i : Nat) : Bool := ((ops[k]?).map fun o => o.after.any fun e => Region.binds md e && e.on == i).getD false
theorem not_yet {i j : Nat} {l : Array Bool} (hw : waits md ops k i = true) (hi : i ∈ Region.ready md ops l) (hj : j ∈ Region.ready md ops l) : j ≠ k := by
  intro e
  subst e
  unfold waits at hw
  obtain ⟨_, o, ho, hall⟩ := mem_ready.1 hj
  rw [ho] at hw
  simp only [Option.map_some, Option.getD_some, Array.any_eq_true'] at hw
  obtain ⟨d, hd, hb⟩ := hw
  simp only [Bool.and_eq_true, beq_iff_eq] at hb
  have h1 := hall d hd hb.1
  have h0 := (mem_ready.1 hi).1
  rw [hb.2] at h1
  have e1 : l.getD i true = l.getD i false := by
    by_cases hlt : i < l.size
    · simp [hlt]
    · simp [Array.getElem?_eq_none (Nat.le_of_not_lt hlt)] at h1
  rw [e1, h1] at h0
  cases h0

theorem before {i : Nat} {oi : Oper} {v : Value} (hi : ops[i]? = some oi) (hsel : Region.noSelect ops = true) (hw : waits md ops k i = true)
    (hQ : ∀ c a w, Q (.panic c) (a.put oi.dst v) w → Q (.panic c) a w) :
    ∀ (n : Nat) (l : Array Bool) (a : Act) (w : World),
      (∀ j oj, ops[j]? = some oj → j ≠ i → l.getD j true = false → (∀ e ∈ oj.after, Region.binds md e = true → e.on ≠ i) → oi.apart ops oj = true) →
      i ∈ Region.ready md ops l → YieldsIf P ops S oi v a → S w → any P md ops Q S k n (l.setIfInBounds i true) (a.put oi.dst v) w → any P md ops Q S k (n + 1) l a w := by
  intro n
  induction n with
  | zero =>
    intro l a w _ hr hy hS hH
    refine ⟨fun h => absurd hr (by rw [h]; simp), fun j hj => ?_⟩
    by_cases e : j = i
    · subst e; exact hy.wpOp hi hS ⟨fun _ => hS, hH⟩
    · exact absurd (ready_mono hj e) (by rw [hH.1]; simp)
  | succ n ih =>
    intro l a w hfr hr hy hS hH
    refine ⟨fun h => absurd hr (by rw [h]; simp), fun j hj => ?_⟩
    by_cases e : j = i
    · subst e; exact hy.wpOp hi hS ⟨fun _ => hS, hH⟩
    · have hjk := not_yet hw hr hj
      obtain ⟨hun, oj, hoj, hall⟩ := mem_ready.1 hj
      have hno : ∀ d ∈ oj.after, Region.binds md d = true → d.on ≠ i := by
        intro d hd hb hdi
        have h1 := hall d hd hb
        have h0 := (mem_ready.1 hr).1
        rw [hdi] at h1
        by_cases hlt : i < l.size
        · simp [hlt] at h0 h1
          rw [h0] at h1
          cases h1
        · simp [Array.getElem?_eq_none (Nat.le_of_not_lt hlt)] at h1
      refine wpOp_mono (fun b u hb => ⟨fun _ => hb.2.1 hjk, ?_⟩) (wpOp_putIf hoj (hfr j oj hoj e hun hno) (fun cs b => Region.noSelect_spec hsel i oi cs b hi) (fun cs b => Region.noSelect_spec hsel j oj cs b hoj) hQ hy (hH.2 j (ready_mono hj e)))
      refine ih (l.setIfInBounds j true) b u (fun q oq hq hqi hqu hqn => hfr q oq hq hqi ?_ hqn) (ready_mono hr (Ne.symm e)) hb.1 (hb.2.1 hjk) ?_
      · by_cases hjq : j = q
        · subst hjq; exact hun
        · rw [getD_set_ne true hjq] at hqu; exact hqu
      · rw [Array.setIfInBounds_comm _ _ e]
        exact hb.2.2

/-- The post, of what does not panic. -/
def fine (Q : Exit → Act → World → Prop) : Exit → Act → World → Prop := fun e a w => e = .normal ∧ Q .normal a w
/-- Take number i first. -/
theorem take (i : Nat) {oi : Oper} (v : Value) {n : Nat} {l : Array Bool} {a : Act} {w : World} (hi : ops[i]? = some oi) (hsel : Region.noSelect ops = true) (hw : waits md ops k i = true)
    (hf : Region.free md ops l i = true) (hr : (Region.ready md ops l).contains i = true)
    (hg : oi.guard = none) (hy : ∀ w, S w → (execOp a.eval oi).run P w = .ok (.value v) w) (hS : S w) (h : any P md ops (fine Q) S k n (l.setIfInBounds i true) (a.put oi.dst v) w) : any P md ops (fine Q) S k (n + 1) l a w :=
  before hi hsel hw (fun _ _ _ h => by cases h.1) n l a w (Region.free_spec hi hf) (by simpa using hr) (.inl ⟨by simp [Region.wanted, hg], hy⟩) hS h
/-- One alone may come up. -/
theorem one (i : Nat) {oi : Oper} {n : Nat} {l : Array Bool} {a : Act} {w : World} (hi : ops[i]? = some oi) (hr : Region.ready md ops l = [i]) (hg : oi.guard = none)
    (h : oi.wp P a w (fun b v => (i ≠ k → S v) ∧ any P md ops (fine Q) S k n (l.setIfInBounds i true) b v) (fine Q)) : any P md ops (fine Q) S k (n + 1) l a w := by
  refine ⟨fun h0 => absurd (hr.symm.trans h0) (by simp), fun j hj => ?_⟩
  rw [hr] at hj
  obtain rfl : j = i := by simpa using hj
  unfold wpOp
  rw [hi]
  simp only [show Region.wanted oi (yielded ops a.tmps) = true by simp [Region.wanted, hg], if_true]
  exact .inl h
theorem done {l : Array Bool} {a : Act} {w : World} (hr : Region.ready md ops l = []) (h : Q .normal a w) : any P md ops (fine Q) S k 0 l a w := ⟨hr, rfl, h⟩
theorem start {id : Nat} {a : Act} {w : World} (S : World → Prop) (k : Nat) (hm : P.follows .mixedOrders = true) (h : any P .any ops (fine Q) S k ops.size (Array.replicate ops.size false) a w.drew) : (Code.region id ops true).wp P Q a w :=
  wp_mono (wp_region_any hm (any_plain _ _ _ _ h)) (fun e a w hq => by obtain ⟨rfl, h⟩ := hq; exact h)
end Late
end Go.Proofs.Ytacghcoikekfeaa
/- Cnt -/
namespace Go.Proofs.Ytacghcoikekfeaa
open Go.ChangeShapes Go.WideShapes Go.ChangeAt Go.RowKit Go.Deep It
set_option maxRecDepth 100000
theorem At.map {α : Type} {E : Enc α} {S : Nat → Prop} {w w' : World} {v : Value} {l : List α} {r : Nat} {es : Array MapEntry} {clock : Nat} (hsz : 0 < E.sz) (h : At E S w v l) (hr : w.heap[r]? = some (.map es clock)) (hg : w.grownBy w' (some r)) : At E S w' v l := by
  rcases h with h | ⟨b, off, cap, rfl, hS, hb, hp, hc, hm, hx⟩
  · exact .inl h
  · have hne : b ≠ r := by
      rintro rfl
      have hl : 0 < (E.flat l).length := by rw [E.flat_length]; exact Nat.mul_pos hp hsz
      have := hx 0 _ (List.getElem?_eq_getElem hl)
      unfold World.cell? at this
      simp only [hr] at this
      cases this
    exact .inr ⟨b, off, cap, rfl, hS, Nat.lt_of_lt_of_le hb hg.size, hp, hc, hm, fun j u hj => (cell_block (hg.block b hb (fun e => hne (by cases e; rfl)))).trans (hx j u hj)⟩
theorem HM.kept {w w' : World} {r : Nat} {M : List ((Int × Int) × Int)} (h : HM w r M) (hk : w'.heap[r]? = w.heap[r]?) : HM w' r M := by
  obtain ⟨es, clock, hr, h1⟩ := h.out
  exact ⟨es, clock, hk.trans hr, h1⟩
theorem HM.lt {w : World} {r : Nat} {M : List ((Int × Int) × Int)} (h : HM w r M) : r < w.heap.size := by
  obtain ⟨es, clock, hr, _⟩ := h.out
  exact (Array.getElem?_eq_some_iff.1 hr).1
theorem HM.new (w : World) : HM (w.alloc (.map #[] 0)) w.heap.size [] := ⟨#[], 0, World.alloc_heap_new w _, rfl, by simp, fun b hb => by simp at hb⟩
section
variable {ops : Array Oper} {rest : List Oper} {o : Oper} {a : Act} {Q : Exit → Act → World → Prop}
theorem wpList_upd (w : World) (hg : o.guard = none) (m x v : Operand) (hop : o.op = Op.mapUpdate 104 m x v) (r : Nat) (M : List ((Int × Int) × Int)) (h : Int × Int) (u : Int) (hm : a.eval m = .map (some r)) (hx : a.eval x = VHh h) (hv : a.eval v = .int .i64 u) (hM : HM w r M)
    (hK : ∀ w', HM w' r (mset M h u) → w.grownBy w' (some r) → wpList Try.prog ops Q rest (a.put o.dst undef) w') : wpList Try.prog ops Q (o :: rest) a w := by
  refine wpList_plain hg fun K' hK' => ?_
  obtain ⟨w', hrun, r1, r2⟩ := run_update hM h u
  unfold Oper.wp
  simp [execOp, hop, hm, hx, hv, hrun, Result.andThen]
  exact hK' _ _ (hK w' r1 r2)
theorem wpList_rng (w : World) (hg : o.guard = none) (m : Operand) (hop : o.op = Op.range 104 m) (r : Nat) (M : List ((Int × Int) × Int)) (hm : a.eval m = .map (some r)) (hM : HM w r M)
    (hK : ∀ es w', HR w' r w.heap.size M es #[] → w.grownBy w' none → wpList Try.prog ops Q rest (a.put o.dst (.pointer (some ⟨w.heap.size, 0, none⟩))) w') : wpList Try.prog ops Q (o :: rest) a w := by
  refine wpList_plain hg fun K' hK' => ?_
  obtain ⟨es, clock, hrun, r1⟩ := run_range hM
  unfold Oper.wp
  simp [execOp, hop, hm, hrun, Result.andThen]
  exact hK' _ _ (hK es _ r1 (World.grownBy_alloc _ _ none))
theorem wpList_nxt (w : World) (hg : o.guard = none) (it : Operand) (hop : o.op = Op.next it false) (r t : Nat) (M : List ((Int × Int) × Int)) (es : Array MapEntry) (seen : Array Nat) (hit : a.eval it = .pointer (some ⟨t, 0, none⟩)) (h : HR w r t M es seen)
    (hDone : leftM es seen = [] → wpList Try.prog ops Q rest (a.put o.dst (.tuple #[.bool false])) w)
    (hMore : ∀ e p w', e ∈ leftM es seen → p ∈ M → e.val = .int .i64 p.2 → HR w' r t M es (seen.push e.born) → w.grownBy w' (some t) → (Instr.entry (.pointer (some ⟨t, 0, none⟩))).run Try.prog w' = .ok (.tuple #[VHh p.1, .int .i64 p.2]) w' → wpList Try.prog ops Q rest (a.put o.dst (.tuple #[.bool true, VHh p.1, .int .i64 p.2])) w') : wpList Try.prog ops Q (o :: rest) a w := by
  refine wpList_plain hg fun K' hK' => ?_
  unfold Oper.wp
  rcases run_next h o.type with ⟨h0, hrun⟩ | ⟨e, he, p, hp, hk, hv, w', hrun, hr, hgr, hen⟩
  · simp [execOp, hop, hit, hrun, Result.andThen]
    exact hK' _ _ (hDone h0)
  · simp [execOp, hop, hit, hrun, Result.andThen]
    exact hK' _ _ (hMore e p w' he hp hv hr hgr hen)
end
set_option maxRecDepth 100000 in
set_option maxHeartbeats 8000000 in
theorem counted_any {S : Nat → Prop} (v : Value) (L : List Rw) (w : World) (hv : TabAt S w v L) (hright : It.right (pl L) = true) :
    Calls Try.prog 36 #[v] w fun e w' => e = .returned (.bool (Sp.cntB (pl L))) ∧ Below w.heap.size w w' := by
  obtain ⟨⟨hL1, hL2⟩, hroot, hall⟩ := It.right_iff.1 hright
  rw [List.length_map] at hL1 hL2
  obtain ⟨ao, cap, rfl, hm, hx⟩ := hv.open
  obtain ⟨n, hn⟩ : ∃ n, L.length = n := ⟨_, rfl⟩
  have HN : Hid (L.length = n) := hn
  have HX : Hid (∀ i x, L[i]? = some x → (∃ b off, ao = some ⟨b, off, none⟩ ∧ b < w.heap.size ∧ eight w b (off + i * 8) x) ∧ Good S w x) := hx
  have HV : Hid (TabAt S w (.slice ao L.length cap) L) := hv
  have HALL : Hid (∀ x ∈ pl L, one x = true) := hall
  obtain ⟨ans, hans⟩ : ∃ ans, Sp.cntB (pl L) = ans := ⟨_, rfl⟩
  have HANS : Hid (Sp.cntB (pl L) = ans) := hans
  rw [hans]
  obtain ⟨W0, hW0⟩ : ∃ W0, W0 = w.alloc (.map #[] 0) := ⟨_, rfl⟩
  have hg0 : w.grownBy W0 none := by rw [hW0]; exact World.grownBy_alloc _ _ none
  have HB0 : Hid (Below w.heap.size w W0) := below_none hg0 (Nat.le_refl _)
  have HM0 : Hid (HM W0 w.heap.size []) := by rw [hW0]; exact HM.new w
  obtain ⟨r, hr⟩ : ∃ r, w.heap.size = r := ⟨_, rfl⟩
  have hmm := @run_makeMap Try.prog
  rw [hn] at HV hL1 hL2 ⊢
  clear hv hx hright hroot hall hans hg0 hn hm
  go_enter Try.func36, Try.ntmps36
  go_wp2_with fail
  rw [← hW0]
  refine (used_any _ L _ (by have := HV.out.up HB0.out; rw [← HN.out] at this ⊢; exact this) (by rw [HN.out]; omega)).mono ?_
  rintro e w1 ⟨u, rfl, hu, hb1⟩
  have HB1 : Hid (Below w.heap.size w w1) := HB0.out.trans (hb1.mono HB0.out.size)
  have HM1 : Hid (HM w1 r []) := by rw [← hr]; exact HM0.out.kept (hb1.block _ HM0.out.lt)
  have HU1 : Hid (AtW EH w1 u (used (pl L))) := hu
  obtain ⟨ua, uc, rfl, -, -⟩ := hu.open
  obtain ⟨n1, hn1⟩ : ∃ n1, (used (pl L)).length = n1 := ⟨_, rfl⟩
  have HN1 : Hid ((used (pl L)).length = n1) := hn1
  have hn1b : n1 ≤ 24 := by have := used_length (pl L); rw [List.length_map, HN.out] at this; omega
  rw [hn1] at HU1 ⊢
  have HRW : Hid (w.heap.size = r) := hr
  clear hu hb1 hmm hW0 hn1 HM0 HB0 hr
  go_wp2
  go_loopw [16] (fun i wr => ∃ k : Nat, k ≤ n1 ∧ i = .int .i64 k ∧ Hid (HM wr r (Sp.startK (pl L) k)) ∧ Hid (Sp.Small (Sp.startK (pl L) k)) ∧ Hid (AtW EH wr (.slice ua n1 uc) (used (pl L))) ∧ Hid (Below w.heap.size w wr)) (fun i _ => n1 - (intOf i).toNat)
  case atStart => exact ⟨0, Nat.zero_le _, rfl, HM1.out, Sp.Small.nil, HU1.out, HB1.out⟩
  case round =>
    obtain ⟨k, hk, rfl, HMk, HSM, HU, HB⟩ := hrel
    have hsz := HB.out.size
    by_cases hlt : k < n1
    · obtain ⟨h, hhk⟩ : ∃ h, (used (pl L))[k]? = some h := ⟨_, List.getElem?_eq_getElem (by rw [HN1.out]; exact hlt)⟩
      have HHK : Hid ((used (pl L))[k]? = some h) := hhk
      obtain ⟨ua', uc', huv, -, huc⟩ := HU.out.open
      simp only [Value.slice.injEq] at huv
      obtain ⟨rfl, -, rfl⟩ := huv
      obtain ⟨bu, offu, rfl, -, hbu, hcu⟩ := huc k h hhk
      have d0 : wr.cell? ⟨bu, offu + k * 2, none⟩ = some (.int .i64 h.1) := hcu 0 _ rfl
      have d1 : wr.cell? ⟨bu, offu + k * 2 + 1, none⟩ = some (.int .i64 h.2) := hcu 1 _ rfl
      obtain ⟨i, y, hiy, hno, -, -⟩ := names_iff.1 (mem_used.1 (List.mem_of_getElem? hhk))
      have hiL : i < L.length := by have := (List.getElem?_eq_some_iff.1 hiy).1; rwa [List.length_map] at this
      obtain ⟨x, hxi⟩ : ∃ x, L[i]? = some x := ⟨_, List.getElem?_eq_getElem hiL⟩
      have hyx : y = x.i := by have := pl_get hxi; rw [hiy] at this; exact Option.some.inj this
      subst hyx
      have hone := HALL.out x.i (List.mem_of_getElem? hiy)
      have hlb : 0 ≤ x.i.links ∧ x.i.links ≤ 64 := by
        unfold one at hone
        simp only [Bool.and_eq_true] at hone
        rcases At.right_iff.1 hone.2.1 with ⟨_, h1, _⟩ | ⟨_, _, ⟨_, h1⟩ | ⟨_, h1⟩⟩ <;> omega
      have HLK : Hid (Sp.lkOf (pl L) h.1 = x.i.links) := by
        show ((pl L)[h.1.toNat]?.getD zeroI).links = _
        rw [hno, show ((i : Int)).toNat = i by omega, hiy]
        rfl
      obtain ⟨⟨b, off, rfl, hB, hc⟩, -⟩ := HX.out i x hxi
      obtain ⟨c0, c1, c2, c3, c4, c5, c6, c7⟩ := hc.below HB.out hB
      have hlt' : (k : Int) < (n1 : Int) := by omega
      obtain ⟨hno1, hge⟩ := h
      simp only at hno
      subst hno
      have hin : (i : Int) < (n : Int) := by rw [← HN.out]; omega
      have hbw : b < wr.heap.size := by omega
      have HMA : Hid (HM (wr.alloc (BH (i : Int) hge)) r (Sp.startK (pl L) k)) := HMk.out.kept (Below.heap_alloc _ _ _ HMk.out.lt)
      obtain ⟨⟨z0, z1⟩, -⟩ := two_of (heap_alloc_new wr (BH (i : Int) hge))
      have e2 : (wr.alloc (BH (i : Int) hge)).cell? ⟨b, off + i * 8 + 2, none⟩ = some (.int .i64 x.i.links) := (cell_older hbw _ _).trans c2
      have HS0 : Hid ((fun V : World => HM V r (Sp.startK (pl L) k) ∧ V.cell? ⟨wr.heap.size, 0, none⟩ = some (.int .i64 (i : Int)) ∧ V.cell? ⟨wr.heap.size, 1, none⟩ = some (.int .i64 hge) ∧ V.cell? ⟨b, off + i * 8 + 2, none⟩ = some (.int .i64 x.i.links)) (wr.alloc (BH (i : Int) hge)).drew) := ⟨HMA.out.kept rfl, z0, z1, e2⟩
      have HST : Hid (Sp.startK (pl L) (k + 1) = mset (Sp.startK (pl L) k) ((i : Int), hge) x.i.links) := by
        show Sp.startK (pl L) (k + 1) = _
        rw [Sp.startK_succ HHK.out, HLK.out]
      have HSM2 : Hid (Sp.Small (Sp.startK (pl L) (k + 1))) := by rw [HST.out]; exact HSM.out.set _ hlb.1 hlb.2
      clear hcu hhk hiy hxi hc hiL hone c0 c1 c3 c4 c5 c6 c7 hlb
      go_wp2_with fail
      refine Late.start (fun V => HM V r (Sp.startK (pl L) k) ∧ V.cell? ⟨wr.heap.size, 0, none⟩ = some (.int .i64 (i : Int)) ∧ V.cell? ⟨wr.heap.size, 1, none⟩ = some (.int .i64 hge) ∧ V.cell? ⟨b, off + i * 8 + 2, none⟩ = some (.int .i64 x.i.links)) 9 (by kernel_rfl) ?_
      refine Late.take 0 (.map (some r)) rfl (by kernel_rfl) (by kernel_rfl) (by kernel_rfl) (by kernel_rfl) rfl (fun V hV => by obtain ⟨hV1, hV2, hV3, hV4⟩ := hV; go_simp) HS0.out ?_
      refine Late.take 1 (VHh ((i : Int), hge)) rfl (by kernel_rfl) (by kernel_rfl) (by kernel_rfl) (by kernel_rfl) rfl (fun V hV => by obtain ⟨hV1, hV2, hV3, hV4⟩ := hV; go_simp) HS0.out ?_
      refine Late.take 2 (.slice (some ⟨b, off, none⟩) n cap) rfl (by kernel_rfl) (by kernel_rfl) (by kernel_rfl) (by kernel_rfl) rfl (fun V hV => by obtain ⟨hV1, hV2, hV3, hV4⟩ := hV; go_simp) HS0.out ?_
      refine Late.take 3 (.pointer (some ⟨wr.heap.size, 0, none⟩)) rfl (by kernel_rfl) (by kernel_rfl) (by kernel_rfl) (by kernel_rfl) rfl (fun V hV => by obtain ⟨hV1, hV2, hV3, hV4⟩ := hV; go_simp) HS0.out ?_
      refine Late.take 4 (.int .i64 (i : Int)) rfl (by kernel_rfl) (by kernel_rfl) (by kernel_rfl) (by kernel_rfl) rfl (fun V hV => by obtain ⟨hV1, hV2, hV3, hV4⟩ := hV; go_simp) HS0.out ?_
      refine Late.take 5 (.pointer (some ⟨b, off + i * 8, none⟩)) rfl (by kernel_rfl) (by kernel_rfl) (by kernel_rfl) (by kernel_rfl) rfl (fun V hV => by obtain ⟨hV1, hV2, hV3, hV4⟩ := hV; go_simp) HS0.out ?_
      refine Late.take 6 (.pointer (some ⟨b, off + i * 8 + 1, none⟩)) rfl (by kernel_rfl) (by kernel_rfl) (by kernel_rfl) (by kernel_rfl) rfl (fun V hV => by obtain ⟨hV1, hV2, hV3, hV4⟩ := hV; go_simp) HS0.out ?_
      refine Late.take 7 (.pointer (some ⟨b, off + i * 8 + 2, none⟩)) rfl (by kernel_rfl) (by kernel_rfl) (by kernel_rfl) (by kernel_rfl) rfl (fun V hV => by obtain ⟨hV1, hV2, hV3, hV4⟩ := hV; go_simp) HS0.out ?_
      refine Late.take 8 (.int .i64 x.i.links) rfl (by kernel_rfl) (by kernel_rfl) (by kernel_rfl) (by kernel_rfl) rfl (fun V hV => by obtain ⟨hV1, hV2, hV3, hV4⟩ := hV; go_simp) HS0.out ?_
      generalize haa : Act.put _ _ _ = aa
      refine Late.one 9 rfl (by kernel_rfl) rfl ?_
      have HMD : Hid (HM (wr.alloc (BH (i : Int) hge)).drew r (Sp.startK (pl L) k)) := HMA.out.kept rfl
      obtain ⟨w2, hrun, hm2, hg2⟩ := run_update HMD.out ((i : Int), hge) x.i.links
      have HM2 : Hid (HM w2 r (Sp.startK (pl L) (k + 1))) := by rw [HST.out]; exact hm2
      have hgd : wr.grownBy (wr.alloc (BH (i : Int) hge)).drew none := ⟨rfl, rfl, rfl, by simp, fun k hk _ => Below.heap_alloc wr _ k hk⟩
      have HU2 : Hid (AtW EH w2 (.slice (some ⟨bu, offu, none⟩) n1 uc) (used (pl L))) := by
        obtain ⟨es, clock, he, _⟩ := HMD.out.out
        exact (HU.out.up (below_none hgd (Nat.le_refl _))).map (by decide) he hg2
      have HB2 : Hid (Below w.heap.size w w2) := (HB.out.trans ((below_none hgd (Nat.le_refl _)).mono hsz)).grown hg2 (Nat.le_trans hsz hgd.size) (fun k e => by cases e; rw [← HRW.out]; exact Nat.le_refl _)
      have ea : aa.eval (.tmp 20) = .map (some r) ∧ aa.eval (.tmp 21) = VHh ((i : Int), hge) ∧ aa.eval (.tmp 28) = .int .i64 x.i.links := by
        rw [← haa]
        simp [Act.eval, Act.put]
      simp only [List.getElem_toArray, List.getElem_cons_succ, List.getElem_cons_zero]
      unfold Oper.wp
      clear hm2 hg2 hgd
      simp only [execOp, ea.1, ea.2.1, ea.2.2, hrun, Sem.run_bind, Sem.run_pure, Result.andThen]
      refine ⟨fun h => absurd rfl h, ?_⟩
      refine Late.done (by kernel_rfl) ?_
      clear ea
      subst haa
      simp only [Exit.inBlock, Exit.then, Act.put, List.setIfInBounds_toArray]
      clear hrun z0 z1 e2
      go_wp2
      go_roundw
      case rel => exact ⟨k + 1, by omega, by go_num, HM2.out, HSM2.out, HU2.out, HB2.out⟩
      case measure => simp [intOf]; omega
    · obtain rfl : n1 = k := by omega
      obtain ⟨x0, hx0⟩ : ∃ x, L[0]? = some x := ⟨_, List.getElem?_eq_getElem (by rw [HN.out]; omega)⟩
      obtain ⟨⟨b, off, rfl, hB, hc⟩, -⟩ := HX.out 0 x0 hx0
      obtain ⟨c0, -⟩ := hc.below HB.out hB
      rw [Nat.zero_mul, Nat.add_zero] at c0
      have HG0 : Hid (Sp.gen0 (pl L) = x0.i.gen) := by
        show ((pl L)[0]?.getD zeroI).gen = _
        rw [pl_get hx0]
        rfl
      have HST : Hid (Sp.start (pl L) = mset (Sp.startK (pl L) n1) ((0 : Int), x0.i.gen) 0) := by
        show mset (Sp.startK (pl L) (used (pl L)).length) (0, Sp.gen0 (pl L)) 0 = _
        rw [HN1.out, HG0.out]
      have HSM2 : Hid (Sp.Small (Sp.start (pl L))) := by rw [HST.out]; exact HSM.out.set _ (by decide) (by decide)
      have hn0 : (0 : Int) < (n : Int) := by omega
      clear hc hx0
      go_wp2_with (at_mapUpdate; refine wpList_upd _ rfl _ _ _ rfl r (Sp.startK (pl L) n1) ((0 : Int), x0.i.gen) 0 rfl rfl rfl HMk.out ?_; intro w2 hm2 hg2; have HM2 : Hid (HM w2 r (Sp.start (pl L))) := (by rw [HST.out]; exact hm2); have HB2 : Hid (Below w.heap.size w w2) := HB.out.grown hg2 hsz (fun k e => by cases e; rw [← HRW.out]; exact Nat.le_refl _); clear hm2 hg2)
      clear HU HB HMk c0 hsz hB
      go_loopw [38] (fun i wr => ∃ (k : Nat) (M : List ((Int × Int) × Int)), k ≤ n ∧ i = .int .i64 k ∧ Hid (HM wr r M) ∧ Hid (Sp.Small M) ∧ Hid (Sp.eat (Sp.start (pl L)) (Sp.allEnts ((pl L).take k)) = some M) ∧ Hid (Below w.heap.size w wr)) (fun i _ => n - (intOf i).toNat)
      case atStart => exact ⟨0, Sp.start (pl L), Nat.zero_le _, rfl, HM2.out, HSM2.out, rfl, HB2.out⟩
      case round =>
        obtain ⟨k, M, hk, rfl, HMM, HSS, HEAT, HB⟩ := hrel
        have hsz := HB.out.size
        by_cases hlt : k < n
        · obtain ⟨x, hxk⟩ : ∃ x, L[k]? = some x := ⟨_, List.getElem?_eq_getElem (by rw [HN.out]; exact hlt)⟩
          have hkL : k < (pl L).length := by rw [List.length_map, HN.out]; exact hlt
          obtain ⟨⟨b', off', hbo, hB, hc⟩, hgood⟩ := HX.out k x hxk
          simp only [Option.some.injEq, Addr.mk.injEq, and_true] at hbo
          obtain ⟨rfl, rfl⟩ := hbo
          obtain ⟨c0, c1, c2, c3, c4, c5, c6, c7⟩ := hc.below HB.out hB
          have HEA : Hid (Sp.entsAt (pl L) k = x.i.ents) := (ents_at hxk).1
          obtain ⟨eo, ecap, hev, hem, hents⟩ := hgood.2.1.open
          simp only [Value.slice.injEq] at hev
          obtain ⟨rfl, hen, rfl⟩ := hev
          obtain ⟨m, hm⟩ : ∃ m, x.en = m := ⟨_, rfl⟩
          have HM' : Hid (x.i.ents.length = m) := hen.symm.trans hm
          have hmm : m ≤ 9223372036854775807 := by rw [← hm, hen]; unfold maxLen at hem; omega
          have HENT : Hid (∀ j e, x.i.ents[j]? = some e → ∃ b2 off2, x.ep = some ⟨b2, off2, none⟩ ∧ b2 < w.heap.size ∧ ent4 w b2 (off2 + j * 4) e) := fun j e he => by
            obtain ⟨b2, off2, h1, -, h3, hc⟩ := hents j e he
            exact ⟨b2, off2, h1, h3, hc 0 _ rfl, hc 1 _ rfl, hc 2 _ rfl, hc 3 _ rfl⟩
          obtain ⟨ep, hep⟩ : ∃ ep, x.ep = ep := ⟨_, rfl⟩
          have HEP : Hid (x.ep = ep) := hep
          have hlt' : (k : Int) < (n : Int) := by omega
          have HSE : Hid (Sp.sofar (pl L) k m = Sp.allEnts ((pl L).take (k + 1))) := Sp.sofar_end hkL (by rw [HEA.out]; exact HM'.out)
          obtain ⟨⟨q0, q1, q2, q3, q4, q5, q6, q7⟩, -⟩ := eight_of (heap_alloc_new wr (BIx x))
          rw [hep, hm] at q6
          have HMA : Hid (HM (wr.alloc (B8 x.i.gen x.i.kind x.i.links x.i.size x.i.stamp (.slice x.rp x.rn x.rc) (.slice ep m x.ec) x.i.next)) r M) := HMM.out.kept (Below.heap_alloc _ _ _ HMM.out.lt)
          have HBA : Hid (Below w.heap.size w (wr.alloc (B8 x.i.gen x.i.kind x.i.links x.i.size x.i.stamp (.slice x.rp x.rn x.rc) (.slice ep m x.ec) x.i.next))) := HB.out.alloc hsz _
          have HE0 : Hid (Sp.eat (Sp.start (pl L)) (Sp.sofar (pl L) k 0) = some M) := by rw [Sp.sofar_zero]; exact HEAT.out
          clear hc hgood hents hem hxk hen q0 q1 q2 q3 q4 q5 q7
          go_wp2
          go_loopw [45] (fun i wr => ∃ (j : Nat) (M : List ((Int × Int) × Int)), j ≤ m ∧ i = .int .i64 j ∧ Hid (HM wr r M) ∧ Hid (Sp.Small M) ∧ Hid (Sp.eat (Sp.start (pl L)) (Sp.sofar (pl L) k j) = some M) ∧ Hid (Below w.heap.size w wr)) (fun i _ => m - (intOf i).toNat)
          case atStart => exact ⟨0, M, Nat.zero_le _, rfl, HMA.out, HSS.out, HE0.out, HBA.out⟩
          case round =>
            clear HMA HBA HE0 HMM HSS HEAT HB hsz c0 c1 c2 c3 c4 c5 c6 c7 q6
            obtain ⟨j, M, hj, rfl, HMM, HSS, HEAT, HB⟩ := hrel
            have hsz := HB.out.size
            by_cases hlj : j < m
            · obtain ⟨e, hej⟩ : ∃ e, x.i.ents[j]? = some e := ⟨_, List.getElem?_eq_getElem (by rw [HM'.out]; exact hlj)⟩
              have HEJ : Hid ((Sp.entsAt (pl L) k)[j]? = some e) := by rw [HEA.out]; exact hej
              obtain ⟨b2, off2, hep2, hl2, h4⟩ := HENT.out j e hej
              obtain rfl : ep = some ⟨b2, off2, none⟩ := HEP.out.symm.trans hep2
              have d0 := (HB.out.cell (p := ⟨b2, off2 + j * 4, none⟩) hl2).trans h4.1
              have d1 := (HB.out.cell (p := ⟨b2, off2 + j * 4 + 1, none⟩) hl2).trans h4.2.1
              have d2 := (HB.out.cell (p := ⟨b2, off2 + j * 4 + 2, none⟩) hl2).trans h4.2.2.1
              have d3 := (HB.out.cell (p := ⟨b2, off2 + j * 4 + 3, none⟩) hl2).trans h4.2.2.2
              have hlj' : (j : Int) < (m : Int) := by omega
              obtain ⟨⟨g0, g1, g2, g3⟩, -⟩ := ent_of (heap_alloc_new wr (BEn e))
              have HMA : Hid (HM (wr.alloc (BEn e)) r M) := HMM.out.kept (Below.heap_alloc _ _ _ HMM.out.lt)
              have HBA : Hid (Below w.heap.size w (wr.alloc (BEn e))) := HB.out.alloc hsz _
              obtain ⟨mv, hmv⟩ : ∃ mv, mval M e.2.2 = mv := ⟨_, rfl⟩
              have hmvb := HSS.out.val e.2.2
              rw [hmv] at hmvb
              have hlk : (Instr.lookup 104 (.map (some r)) (.agg #[.int .i64 e.2.2.1, .int .i64 e.2.2.2]) false).run Try.prog (wr.alloc (BEn e)) = .ok (.int .i64 mv) (wr.alloc (BEn e)) := by
                have := run_lookup HMA.out e.2.2
                rw [hmv] at this
                exact this
              clear hej h4 hep2
              by_cases hz : mv = 0
              · subst hz
                have HA : Hid (ans = false) := HANS.out.symm.trans (Sp.eat_no hkL HEJ.out HEAT.out hmv)
                clear hmv
                go_wp2
                go_ret
                rw [HA.out]
                exact ⟨rfl, HBA.out⟩
              · have hzb : (mv == 0) = false := beq_eq_false_iff_ne.2 hz
                obtain ⟨fi, hfi⟩ := Sp.find_val (M := M) (g := e.2.2) (by rw [hmv]; exact hz)
                rw [hmv] at hfi
                have HE2 : Hid (Sp.eat (Sp.start (pl L)) (Sp.sofar (pl L) k (j + 1)) = some (mset M e.2.2 (mv - 1))) := by
                  have := Sp.eat_yes HEJ.out HEAT.out (by rw [hmv]; exact hz)
                  rw [hmv] at this
                  exact this
                have HS2 : Hid (Sp.Small (mset M e.2.2 (mv - 1))) := HSS.out.set _ (by omega) (by omega)
                have HMV : Hid (mval M e.2.2 = mv) := hmv
                have HFI : Hid (mfind M e.2.2 0 = some (fi, mv)) := hfi
                clear hfi hmv hz
                go_wp2_with fail
                have hwm : IntKind.i64.wrap (mv - 1) = mv - 1 := IntWalk.i64_in _ (by omega)
                have HS7 : Hid ((fun V : World => HM V r M ∧ V.heap[r]? = (wr.alloc (BEn e)).heap[r]? ∧ V.cell? ⟨wr.heap.size, 2, none⟩ = some (.int .i64 e.2.2.1) ∧ V.cell? ⟨wr.heap.size, 3, none⟩ = some (.int .i64 e.2.2.2)) (wr.alloc (BEn e)).drew) := ⟨HMA.out.kept rfl, rfl, g2, g3⟩
                clear hlk
                have hlk : ∀ V, HM V r M → (Instr.lookup 104 (.map (some r)) (.agg #[.int .i64 e.2.2.1, .int .i64 e.2.2.2]) false).run Try.prog V = .ok (.int .i64 mv) V := fun V hV => by
                  have := run_lookup hV e.2.2
                  rw [HMV.out] at this
                  exact this
                obtain ⟨st, hst1, hst2⟩ := run_entry HMA.out HFI.out
                refine Late.start (fun V => HM V r M ∧ V.heap[r]? = (wr.alloc (BEn e)).heap[r]? ∧ V.cell? ⟨wr.heap.size, 2, none⟩ = some (.int .i64 e.2.2.1) ∧ V.cell? ⟨wr.heap.size, 3, none⟩ = some (.int .i64 e.2.2.2)) 7 (by kernel_rfl) ?_
                refine Late.take 0 (.map (some r)) rfl (by kernel_rfl) (by kernel_rfl) (by kernel_rfl) (by kernel_rfl) rfl (fun V hV => by obtain ⟨hV1, hV2, hV3, hV4⟩ := hV; have hl := hlk V hV1; go_simp) HS7.out ?_
                refine Late.take 1 (.pointer (some ⟨wr.heap.size, 2, none⟩)) rfl (by kernel_rfl) (by kernel_rfl) (by kernel_rfl) (by kernel_rfl) rfl (fun V hV => by obtain ⟨hV1, hV2, hV3, hV4⟩ := hV; have hl := hlk V hV1; go_simp) HS7.out ?_
                refine Late.take 2 (VHh (e.2.2.1, e.2.2.2)) rfl (by kernel_rfl) (by kernel_rfl) (by kernel_rfl) (by kernel_rfl) rfl (fun V hV => by obtain ⟨hV1, hV2, hV3, hV4⟩ := hV; have hl := hlk V hV1; go_simp) HS7.out ?_
                refine Late.take 3 (.int .i64 mv) rfl (by kernel_rfl) (by kernel_rfl) (by kernel_rfl) (by kernel_rfl) rfl (fun V hV => by obtain ⟨hV1, hV2, hV3, hV4⟩ := hV; have hl := hlk V hV1; go_simp) HS7.out ?_
                refine Late.take 4 (.int .i64 (mv - 1)) rfl (by kernel_rfl) (by kernel_rfl) (by kernel_rfl) (by kernel_rfl) rfl (fun V hV => by obtain ⟨hV1, hV2, hV3, hV4⟩ := hV; have hl := hlk V hV1; go_simp) HS7.out ?_
                generalize haa : Act.put _ _ _ = aa
                refine Late.one 5 rfl (by kernel_rfl) rfl ?_
                have ea : aa.eval (.tmp 54) = .map (some r) ∧ aa.eval (.tmp 56) = VHh e.2.2 := by
                  rw [← haa]
                  simp [Act.eval, Act.put]
                have hrun := hst1 (wr.alloc (BEn e)).drew (HMA.out.kept rfl) rfl
                simp only [List.getElem_toArray, List.getElem_cons_succ, List.getElem_cons_zero]
                unfold Oper.wp
                simp only [execOp, ea.1, ea.2, hrun, Sem.run_bind, Sem.run_pure, Result.andThen]
                refine ⟨fun _ => HS7.out, ?_⟩
                clear ea hrun
                subst haa
                refine Late.take 6 (.int .i64 (st : Int)) rfl (by kernel_rfl) (by kernel_rfl) (by kernel_rfl) (by kernel_rfl) rfl (fun V hV => by go_simp) HS7.out ?_
                generalize haa : Act.put _ _ _ = aa
                refine Late.one 7 rfl (by kernel_rfl) rfl ?_
                have ea : aa.eval (.tmp 54) = .map (some r) ∧ aa.eval (.tmp 60) = .int .i64 (st : Int) ∧ aa.eval (.tmp 58) = .int .i64 (mv - 1) := by
                  rw [← haa]
                  simp [Act.eval, Act.put]
                obtain ⟨w4, hrun, hm4, hg4⟩ := hst2 (wr.alloc (BEn e)).drew (mv - 1) rfl
                have HM4 : Hid (HM w4 r (mset M e.2.2 (mv - 1))) := hm4
                have hgd : wr.grownBy (wr.alloc (BEn e)).drew none := ⟨rfl, rfl, rfl, by simp, fun k hk _ => Below.heap_alloc wr _ k hk⟩
                have HB4 : Hid (Below w.heap.size w w4) := (HB.out.trans ((below_none hgd (Nat.le_refl _)).mono hsz)).grown hg4 (Nat.le_trans hsz hgd.size) (fun k e => by cases e; rw [← HRW.out]; exact Nat.le_refl _)
                simp only [List.getElem_toArray, List.getElem_cons_succ, List.getElem_cons_zero]
                unfold Oper.wp
                simp only [execOp, ea.1, ea.2.1, ea.2.2, hrun, Sem.run_bind, Sem.run_pure, Result.andThen]
                refine ⟨fun h => absurd rfl h, ?_⟩
                refine Late.done (by kernel_rfl) ?_
                clear ea hrun hm4 hg4 hgd hst1 hst2 hlk
                subst haa
                simp only [Exit.inBlock, Exit.then, Act.put, List.setIfInBounds_toArray]
                go_wp2
                go_roundw
                case rel => exact ⟨j + 1, mset M e.2.2 (mv - 1), by omega, by go_num, HM4.out, HS2.out, HE2.out, HB4.out⟩
                case measure => simp [intOf]; omega
            · obtain rfl : m = j := by omega
              have HE2 : Hid (Sp.eat (Sp.start (pl L)) (Sp.allEnts ((pl L).take (k + 1))) = some M) := by rw [← HSE.out]; exact HEAT.out
              go_wp2
              go_roundw
              case rel => exact ⟨k + 1, M, by omega, by go_num, HMM.out, HSS.out, HE2.out, HB.out⟩
              case measure => simp [intOf]; omega
        · obtain rfl : n = k := by omega
          have HFIN : Hid (M.all (fun p => p.2 == 0) = ans) := (Sp.eat_end (by rw [List.length_map]; exact HN.out) HEAT.out).symm.trans HANS.out
          obtain ⟨t, ht⟩ : ∃ t, wr.heap.size = t := ⟨_, rfl⟩
          go_wp2_with (at_range; refine wpList_rng _ rfl _ rfl r M rfl HMM.out ?_; intro es w3 hr3 hg3)
          have HR3 : Hid (HR w3 r t M es #[]) := by rw [← ht]; exact hr3
          have HB3 : Hid (Below w.heap.size w w3) := HB.out.trans ((below_none hg3 (Nat.le_refl _)).mono hsz)
          have HTW : Hid (w.heap.size ≤ t) := by rw [← ht]; exact hsz
          clear hr3 hg3 HB HMM
          go_frame
          rw [ht]
          clear ht hsz
          go_loopw [11] (fun _ wr => ∃ seen, Hid (HR wr r t M es seen) ∧ Hid (∀ e ∈ es.toList, seen.contains e.born = true → e.val = .int .i64 0) ∧ Hid (Below w.heap.size w wr)) (fun _ wr => match wr.heap[t]? with | some (.mapIter _ _ seen _) => (leftM es seen).length | _ => 0)
          case atStart => exact ⟨#[], HR3.out, fun e _ h => by simp at h, HB3.out⟩
          case round =>
            obtain ⟨seen, HRS, HZ, HB⟩ := hrel
            go_wp2_with (at_next; refine wpList_nxt _ rfl _ rfl r t M es seen rfl HRS.out ?_ ?_)
            · intro h0
              have HA : Hid (ans = true) := by
                show ans = true
                rw [← HFIN.out]
                refine List.all_eq_true.2 fun p hp => ?_
                have hpm : (VHh p.1, Value.int .i64 p.2) ∈ es.toList.map (fun e => (e.key, e.val)) := by rw [HRS.out.rows]; exact List.mem_map.2 ⟨p, hp, rfl⟩
                obtain ⟨e, he, hev⟩ := List.mem_map.1 hpm
                simp only [Prod.mk.injEq] at hev
                have hse : seen.contains e.born = true := by
                  cases hc : seen.contains e.born with
                  | true => rfl
                  | false =>
                    have : e ∈ leftM es seen := List.mem_filter.2 ⟨he, by rw [hc]; rfl⟩
                    rw [h0] at this
                    cases this
                have := HZ.out e he hse
                rw [hev.2] at this
                simp only [Value.int.injEq, true_and] at this
                simp [this]
              clear h0
              go_wp2
              go_ret
              rw [HA.out]
              exact ⟨rfl, HB.out⟩
            · intro e a0 a1 pv w' he hp hv hr' hgr hen
              have HRN : Hid (HR w' r t M es (seen.push e.born)) := hr'
              have HBN : Hid (Below w.heap.size w w') := HB.out.grown hgr HB.out.size (fun k e => by cases e; exact HTW.out)
              have HLE : Hid ((leftM es (seen.push e.born)).length < (leftM es seen).length) := leftM_less he
              have HEV : Hid (e.val = .int .i64 pv) := hv
              have HEB : Hid (e ∈ es.toList) := (List.mem_filter.1 he).1
              have HPM : Hid (((a0, a1), pv) ∈ M) := hp
              clear hr' hgr he hv hp
              by_cases hz : pv = 0
              · have hzb : (pv != 0) = false := by simp [hz]
                have HZ2 : Hid (∀ x ∈ es.toList, (seen.push e.born).contains x.born = true → x.val = .int .i64 0) := fun x hx hc => by
                  by_cases hb : x.born = e.born
                  · have hxe : x = e := by
                      obtain ⟨i, hi⟩ := List.mem_iff_getElem?.1 hx
                      obtain ⟨j, hj⟩ := List.mem_iff_getElem?.1 HEB.out
                      have h3 : (es.toList.map (·.born))[i]? = (es.toList.map (·.born))[j]? := by rw [List.getElem?_map, List.getElem?_map, hi, hj]; simp [hb]
                      have hij := (List.getElem?_inj (by rw [List.length_map]; exact (List.getElem?_eq_some_iff.1 hi).1) HRN.out.born).1 h3
                      subst hij
                      rw [hi] at hj
                      exact Option.some.inj hj
                    rw [hxe, HEV.out, hz]
                  · refine HZ.out x hx ?_
                    simp only [Array.contains_push] at hc
                    simpa [hb] using hc
                clear hz
                go_wp2
                go_roundw
                case rel => exact ⟨_, HRN.out, HZ2.out, HBN.out⟩
                case measure =>
                  obtain ⟨c1, -, ht1, -⟩ := HRN.out.it
                  obtain ⟨c2, -, ht2, -⟩ := HRS.out.it
                  rw [ht1, ht2]
                  exact HLE.out
              · have hzb : (pv != 0) = true := by simp [hz]
                have HA : Hid (ans = false) := by
                  show ans = false
                  rw [← HFIN.out]
                  refine List.all_eq_false.2 ⟨_, HPM.out, ?_⟩
                  simp [hz]
                clear hz
                go_wp2
                go_ret
                rw [HA.out]
                exact ⟨rfl, HBN.out⟩
end Go.Proofs.Ytacghcoikekfeaa
/- Rea -/
namespace Go.Proofs.Ytacghcoikekfeaa
open Go.ChangeShapes Go.WideShapes Go.ChangeAt Go.RowKit Go.Deep Go.Shelf It
set_option maxRecDepth 100000
attribute [local go_sem] Oper.semAt_some
/-- A store into the box alone. -/
theorem kp_set {V : World} {Bx : Nat} {t : TypeId} {u u' : Value} (h : Boxed V Bx t u) (hu' : ∀ k, u'.ownBlock ≠ some k) : Kp Bx V (V.setCell ⟨Bx, 0, none⟩ u') := by
  have hg := grownBy_setCell' V Bx u'
  have hs : (V.setCell ⟨Bx, 0, none⟩ u').cell? ⟨Bx, 0, none⟩ = some u' := (h.set u').cell
  refine ⟨hg.os, hg.tape, hg.output, hg.size, fun _ => ⟨u', hs, fun k e => absurd e (hu' k)⟩, fun k hk hn => hg.block k hk (fun e => hn (.inl (by cases e; rfl))), fun k _ hm => ?_, fun k o hk ho => (KeepsOthers.setCell V _ _).same k o hk ho⟩
  rcases hm with rfl | ⟨v, hv, he⟩
  · exact .inl rfl
  · rw [hs] at hv
    cases hv
    exact absurd he (hu' k)
set_option maxRecDepth 100000 in
set_option maxHeartbeats 4000000 in
theorem reached_any {S : Nat → Prop} (v : Value) (L : List Rw) (w : World) (hv : TabAt S w v L) (hd : Sp.deep (pl L) 24 0) (hL : L.length ≤ 24) (hlen : (Sp.walk (pl L) 24 0 ⟨#[]⟩).length ≤ 24) :
    Calls Try.prog 37 #[v] w fun e w' => e = .returned (.bool (((Sp.walk (pl L) 24 0 ⟨#[]⟩).length : Int) - ((pl L).countP (fun x => x.kind == 2) : Nat) == 0)) ∧ Below w.heap.size w w' := by
  obtain ⟨ao, cap, rfl, -, hx⟩ := hv.open
  obtain ⟨W0, hW0⟩ : ∃ W0, W0 = w.alloc (.cells #[.int .i64 0] 3) := ⟨_, rfl⟩
  have hg0 : w.grownBy W0 none := by rw [hW0]; exact World.grownBy_alloc _ _ none
  have hs0 : W0.heap.size = w.heap.size + 1 := by rw [hW0]; simp
  have hR : Boxed W0 w.heap.size 3 (.int .i64 0) := by rw [hW0]; exact Boxed.new w 3 _
  have hb0 : HasBox w.heap.size W0 := ⟨_, hR.cell, fun k e => by cases e⟩
  have hmine : ∀ k, k ≠ w.heap.size → ¬ Mine w.heap.size W0 k := fun k hk h => by
    rcases h with h | ⟨u, hu, he⟩
    · exact hk h
    · rw [hR.cell] at hu
      cases hu
      cases he
  obtain ⟨hseq, hg3, hs3, hk3, hb3⟩ := folders_seq (n₀ := w.heap.size) (Bx := w.heap.size) (f := 24) (no := 0) (path := ⟨#[]⟩) (V2 := W0) hd (by decide) (by omega) (by omega) (tab_up (tab_low hv) hg0) hb0 (fun b hb => hmine b (by omega))
  unfold box3 at hseq hg3 hs3 hk3 hb3
  obtain ⟨V3, hV3⟩ : ∃ V3, V3 = ((W0.alloc (.cells #[.slice ao L.length cap] 27)).alloc (.cells #[.int .i64 ((0 : Nat) : Int)] 3)).alloc (.cells #[.string ⟨#[]⟩] 9) := ⟨_, rfl⟩
  rw [← hV3] at hseq hg3 hs3 hk3 hb3
  have HSEQ : Hid (SeqOwn Try.prog 38 #[PT (W0.heap.size + 1), PT (W0.heap.size + 1 + 1), PT W0.heap.size] encF w.heap.size (Sp.walk (pl L) 24 0 ⟨#[]⟩) V3) := hseq
  have HB3 : Hid (Below w.heap.size w V3) := below_none (grown_trans hg0 hg3) (Nat.le_refl _)
  have HR3 : Hid (Boxed V3 w.heap.size 3 (.int .i64 0)) := hR.kept hg3 (by simp)
  have HS3 : Hid (w.heap.size < V3.heap.size) := by show w.heap.size < V3.heap.size; omega
  obtain ⟨xs, hxs⟩ : ∃ xs, Sp.walk (pl L) 24 0 ⟨#[]⟩ = xs := ⟨_, rfl⟩
  rw [hxs] at HSEQ hlen ⊢
  obtain ⟨r, hr⟩ : ∃ r, ((xs.length : Int) - ((pl L).countP (fun x => x.kind == 2) : Nat) == 0) = r := ⟨_, rfl⟩
  rw [hr]
  have HRV : Hid (((xs.length : Int) - ((pl L).countP (fun x => x.kind == 2) : Nat) == 0) = r) := hr
  have HX : Hid (∀ i x, L[i]? = some x → (∃ b off, ao = some ⟨b, off, none⟩ ∧ b < w.heap.size ∧ eight w b (off + i * 8) x) ∧ Good S w x) := hx
  obtain ⟨n, hn⟩ : ∃ n, L.length = n := ⟨_, rfl⟩
  have HN : Hid (L.length = n) := hn
  rw [hn, show ((0 : Nat) : Int) = 0 from rfl] at hV3
  rw [hn] at hL ⊢
  clear hv hd hseq hg3 hk3 hR hb0 hmine hg0 hxs hs0 hs3 hr hx hn
  refine (callsIn_wide (n := 9)).1 ?_
  refine callsIn_of_wp_marks Try.func37 rfl trivial ?_
  simp only [Try.ntmps37, List.size_toArray, List.length_cons, List.length_nil, Nat.reduceAdd, Nat.reduceSub, Array.replicate_succ, Array.replicate_zero, List.push_toArray, List.append_toArray, List.nil_append, List.cons_append]
  gi_wp2
  rw [← hW0]
  refine ⟨trivial, ?_⟩
  refine CallsIn.mono (callsIn_wide.2 (folders_any _ _ _ _ ⟨_, _, _, rfl⟩)) ?_
  rintro e' w' ⟨rfl, rfl⟩
  rw [← hV3]
  clear hV3 hW0
  gi_wp2
  refine range_law (gf := 38) (lb := #[PT (W0.heap.size + 1), PT (W0.heap.size + 1 + 1), PT W0.heap.size]) (encs := encF) (Bx := w.heap.size) (xs := xs) rfl (enters_of Try.func38 (by kernel_rfl) rfl) hb3 HSEQ.out (fun _ => rfl)
    (fun pre V => Boxed V w.heap.size 3 (.int .i64 (pre.length : Int)) ∧ Kp w.heap.size V3 V ∧ Below w.heap.size w V) (fun _ _ => False)
    (fun t A B row hs hg hr => ⟨(boxed_own w.heap.size 3 (fun t : List (Nat × ByteArray) => .int .i64 (t.length : Int))).from _ t A B row hs.1 hg hr, kp_own (β := Unit) hb3 (Nat.le_refl _) () A B row hs.2.1 hg hr, ownFrom_below (β := Unit) (Nat.le_refl _) (Nat.le_of_lt HS3.out) () A B row hs.2.2 hg hr⟩)
    (fun t A B row hs hg hr => hs)
    ⟨HR3.out, Kp.refl _ _, HB3.out⟩
    (fun z => { tmps := #[.slice ao n cap, undef, .bool false, PT w.heap.size, undef, undef, .slice ao n cap, .func (.func 38) #[] #[PT (W0.heap.size + 1), PT (W0.heap.size + 1 + 1), PT W0.heap.size], .int .i64 (z.1 : Int), .string z.2, undef, undef, undef, undef, undef, undef, undef, undef, undef, undef, undef, undef, undef, undef, undef], defers := [] }) ?assign ?body ?done ?stop
  case assign =>
    intro l' m' z V4 K hK
    unfold encF
    gi_wp2
    simp
    exact hK
  case body =>
    rintro l' m' pre z V4 hl' hpz ⟨hR4, hK4, hB4⟩
    have hpl : pre.length < 24 := by
      have := hpz.length_le
      simp only [List.length_append, List.length_cons, List.length_nil] at this
      omega
    have cr := hR4.cell
    have fr := hR4.frozen
    have HR4 : Hid (Boxed V4 w.heap.size 3 (.int .i64 (pre.length : Int))) := hR4
    have HK4 : Hid (Kp w.heap.size V3 V4) := hK4
    have HB4 : Hid (Below w.heap.size w V4) := hB4
    have HLN : Hid ((pre ++ [z]).length = pre.length + 1) := by show (pre ++ [z]).length = pre.length + 1; simp
    obtain ⟨pl', hpl'⟩ : ∃ k, pre.length = k := ⟨_, rfl⟩
    rw [hpl'] at cr hpl
    have HPL : Hid (pre.length = pl') := hpl'
    clear hR4 hK4 hB4 hpz hpl'
    gi_wp2
    have hks : Kp w.heap.size V4 (V4.setCell ⟨w.heap.size, 0, none⟩ (.int .i64 ((pl' : Int) + 1))) := kp_set HR4.out (by intro k e; cases e)
    refine ⟨hks, ?_, HK4.out.trans hks, HB4.out.setCell (p := ⟨w.heap.size, 0, none⟩) (Nat.le_refl _) _⟩
    rw [HLN.out, HPL.out]
    exact HR4.out.set _
  case done =>
    rintro D V5 hD ⟨hR5, hK5, hB5⟩ hdf
    have HD5 : Hid (V5.heap[D]? = some (.deferred (some [])) ∧ w.heap.size < D) := ⟨hdf, Nat.lt_of_lt_of_le HS3.out hD⟩
    have HB5 : Hid (Below w.heap.size w V5) := hB5
    have HR5 : Hid (Boxed V5 w.heap.size 3 (.int .i64 (xs.length : Int))) := hR5
    clear hR5 hK5 hB5 hdf hD
    gi_wp2
    gi_loopw [14] (fun i wr => ∃ k : Nat, k ≤ n ∧ i = .int .i64 k ∧ Hid (Boxed wr w.heap.size 3 (.int .i64 ((xs.length : Int) - ((pl (L.take k)).countP (fun x => x.kind == 2) : Nat)))) ∧ Hid (Below w.heap.size w wr) ∧ Hid (wr.heap[D]? = some (.deferred (some [])))) (fun i _ => n - (intOf i).toNat)
    case atStart => exact ⟨0, Nat.zero_le _, rfl, (show Boxed V5 w.heap.size 3 (.int .i64 ((xs.length : Int) - ((pl (L.take 0)).countP (fun x => x.kind == 2) : Nat))) from by simpa using HR5.out), HB5.out, HD5.out.1⟩
    case round =>
      obtain ⟨k, hk, rfl, HRB, HB, HDF⟩ := hrel
      have hsz := HB.out.size
      have cr := HRB.out.cell
      have fr := HRB.out.frozen
      have hrl := HRB.out.lt
      have HCB : Hid ((pl (L.take k)).countP (fun x => x.kind == 2) ≤ 24) := by
        show (pl (L.take k)).countP (fun x => x.kind == 2) ≤ 24
        refine Nat.le_trans List.countP_le_length ?_
        simp only [List.length_map, List.length_take]
        omega
      obtain ⟨q, hq⟩ : ∃ q : Int, (xs.length : Int) - ((pl (L.take k)).countP (fun x => x.kind == 2) : Nat) = q := ⟨_, rfl⟩
      have hqb : -24 ≤ q ∧ q ≤ 24 := by have := HCB.out; omega
      rw [hq] at cr HRB
      have HQ : Hid ((xs.length : Int) - ((pl (L.take k)).countP (fun x => x.kind == 2) : Nat) = q) := hq
      clear hq
      by_cases hlt : k < n
      · obtain ⟨x, hxk⟩ : ∃ x, L[k]? = some x := ⟨_, List.getElem?_eq_getElem (by rw [HN.out]; exact hlt)⟩
        obtain ⟨⟨b, off, rfl, hB, hc⟩, -⟩ := HX.out k x hxk
        obtain ⟨c0, c1, c2, c3, c4, c5, c6, c7⟩ := hc.below HB.out hB
        have hlt' : (k : Int) < (n : Int) := by omega
        have HSU : Hid ((pl (L.take (k + 1))).countP (fun x => x.kind == 2) = (pl (L.take k)).countP (fun x => x.kind == 2) + if x.i.kind == 2 then 1 else 0) := by
          show (pl (L.take (k + 1))).countP (fun x => x.kind == 2) = _
          rw [List.take_add_one, hxk]
          simp [pl, List.countP_append, List.countP_cons]
        obtain ⟨V2, hV2⟩ : ∃ V2, V2 = (wr.alloc (BIx x)).alloc (BIx x) := ⟨_, rfl⟩
        have hg2 : wr.grownBy V2 none := by rw [hV2]; exact grown_trans (World.grownBy_alloc _ _ none) (World.grownBy_alloc _ _ none)
        have HR2 : Hid (Boxed V2 w.heap.size 3 (.int .i64 q)) := HRB.out.kept hg2 (by simp)
        have HB2 : Hid (Below w.heap.size w V2) := HB.out.trans ((below_none hg2 (Nat.le_refl _)).mono hsz)
        have HD2 : Hid (V2.heap[D]? = some (.deferred (some []))) := (hg2.block D (Array.getElem?_eq_some_iff.1 HDF.out).1 (by simp)).trans HDF.out
        clear hc hxk cr fr hg2
        by_cases hkd : x.i.kind = 2
        · have hkb : (x.i.kind == 2) = true := by simp [hkd]
          have HS2 : Hid (((xs.length : Int) - ((pl (L.take (k + 1))).countP (fun x => x.kind == 2) : Nat)) = q - 1) := by
            show (xs.length : Int) - ((pl (L.take (k + 1))).countP (fun x => x.kind == 2) : Nat) = q - 1
            have := HSU.out
            rw [hkb] at this
            rw [this, ← HQ.out]
            simp
            omega
          clear hkd
          have cr := HR2.out.cell
          have fr := HR2.out.frozen
          gi_wp2
          refine ⟨trivial, ?_⟩
          refine CallsIn.mono (callsIn_wide.2 (isDir_any x _)) ?_
          rintro e' w' ⟨rfl, rfl⟩
          rw [← hV2, hkb]
          clear hV2
          gi_wp2
          go_roundw
          case rel => exact ⟨k + 1, by omega, by go_num, by rw [HS2.out]; exact HR2.out.set _, HB2.out.setCell (p := ⟨w.heap.size, 0, none⟩) (Nat.le_refl _) _, (KeepsOthers.setCell V2 _ _).same D _ HD2.out rfl⟩
          case measure => simp [intOf]; omega
        · have hkb : (x.i.kind == 2) = false := beq_eq_false_iff_ne.2 hkd
          have HS2 : Hid (((xs.length : Int) - ((pl (L.take (k + 1))).countP (fun x => x.kind == 2) : Nat)) = q) := by
            show (xs.length : Int) - ((pl (L.take (k + 1))).countP (fun x => x.kind == 2) : Nat) = q
            have := HSU.out
            rw [hkb] at this
            rw [this, ← HQ.out]
            simp
          clear hkd
          gi_wp2
          refine ⟨trivial, ?_⟩
          refine CallsIn.mono (callsIn_wide.2 (isDir_any x _)) ?_
          rintro e' w' ⟨rfl, rfl⟩
          rw [← hV2, hkb]
          clear hV2
          gi_wp2
          go_roundw
          case rel => exact ⟨k + 1, by omega, by go_num, by rw [HS2.out]; exact HR2.out, HB2.out, HD2.out⟩
          case measure => simp [intOf]; omega
      · obtain rfl : n = k := by omega
        have HQ2 : Hid ((q == 0) = r) := by
          show (q == 0) = r
          rw [← HQ.out, List.take_of_length_le (by rw [HN.out]; exact Nat.le_refl _)]
          exact HRV.out
        gi_wp2
        refine ⟨by simp, .inl ⟨_, _, rfl, run_takeDeferred HDF.out, ?_⟩⟩
        refine ⟨_, results_tmp rfl _ _ _, ?_, ?_⟩
        · rw [← HQ2.out]
          rfl
        · exact HB.out.grown (grownBy_putObj' _ _ _) hsz (fun k e => by cases e; have := HD5.out.2; omega)
  case stop =>
    rintro D pre V5 hD hpre h hdf
    exact h.elim
end Go.Proofs.Ytacghcoikekfeaa
