/-
  space.refuseName, count: what they answer.
-/
import Derived.Test.YtacghcoikekfeaaGreatSp3
import Derived.Test.YtacghcoikekfeaaGreatSAttr
import Derived.Test.YtacghcoikekfeaaGreatPut
namespace Go.Proofs.YtacghcoikekfeaaGreat
open Go.ChangeShapes Go.WideShapes Go.ChangeAt Go.RowKit Go.Deep It
set_option maxRecDepth 100000
set_option maxHeartbeats 2000000 in
theorem refuseName_any {S : Nat → Prop} (v : Value) (L : List Rw) (a b : Int) (s : ByteArray) (w : World) (hv : TabAt S w v L) (hok : Sp.okN L) (hs : s.size ≤ maxLen) :
    Calls Tryz.prog 81 #[v, .agg #[.int .i64 a, .int .i64 b], .string s] w fun e w' => e = .returned (.int .i64 (Sp.nameErr (pl L) a b s)) ∧ Below w.heap.size w w' := by
  have HB0 : Hid (Below w.heap.size w (w.alloc (BH a b))) := (Below.refl _ w).alloc (Nat.le_refl _) _
  obtain ⟨⟨a0, a1⟩, _⟩ := two_of (heap_alloc_new w (BH a b))
  have HV : Hid (TabAt S (w.alloc (BH a b)) v L) := hv.up HB0.out
  obtain ⟨ao, cap, rfl, _, _⟩ := hv.open
  have HOK : Hid (Sp.okN L) := hok
  have HSM : Hid (s.size ≤ maxLen) := hs
  clear hv hok hs
  obtain ⟨ne, hne⟩ : ∃ ne, Sp.nameErr (pl L) a b s = ne := ⟨_, rfl⟩
  have HNE : Hid (Sp.nameErr (pl L) a b s = ne) := hne
  rw [hne]
  unfold Sp.nameErr at hne
  obtain ⟨le, hle⟩ : ∃ le, Sp.lookErr (pl L) a b s = le := ⟨_, rfl⟩
  have HLE : Hid (Sp.lookErr (pl L) a b s = le) := hle
  rw [hle] at hne
  clear hle
  by_cases h0 : le = 0
  · subst h0
    rw [if_pos rfl] at hne
    subst hne
    go_enter Tryz.func81, Tryz.ntmps81
    go_wp2_with fail
    refine (sfind_any _ L a b s _ HV.out HOK.out HSM.out).mono ?_
    rintro e w1 ⟨rfl, hb1⟩
    rw [HLE.out]
    generalize Sp.lookH (pl L) a b s = q
    have HB1 : Hid (Below w.heap.size w w1) := HB0.out.trans (hb1.mono HB0.out.size)
    clear a0 a1 HV hb1
    go_wp2
    go_ret
    refine ⟨rfl, ?_⟩
    exact HB1.out.alloc HB1.out.size _
  · have h0' : (le == 0) = false := beq_eq_false_iff_ne.2 h0
    rw [if_neg h0] at hne
    by_cases h2 : le = 402
    · subst h2
      rw [if_pos rfl] at hne
      subst hne
      clear h0 h0'
      go_enter Tryz.func81, Tryz.ntmps81
      go_wp2_with fail
      refine (sfind_any _ L a b s _ HV.out HOK.out HSM.out).mono ?_
      rintro e w1 ⟨rfl, hb1⟩
      rw [HLE.out]
      generalize Sp.lookH (pl L) a b s = q
      have HB1 : Hid (Below w.heap.size w w1) := HB0.out.trans (hb1.mono HB0.out.size)
      clear a0 a1 HV hb1
      go_wp2
      go_ret
      refine ⟨rfl, ?_⟩
      exact HB1.out.alloc HB1.out.size _
    · have h2' : (le == 402) = false := beq_eq_false_iff_ne.2 h2
      rw [if_neg h2] at hne
      subst hne
      clear h0 h2
      go_enter Tryz.func81, Tryz.ntmps81
      go_wp2_with fail
      refine (sfind_any _ L a b s _ HV.out HOK.out HSM.out).mono ?_
      rintro e w1 ⟨rfl, hb1⟩
      rw [HLE.out]
      generalize Sp.lookH (pl L) a b s = q
      have HB1 : Hid (Below w.heap.size w w1) := HB0.out.trans (hb1.mono HB0.out.size)
      clear a0 a1 HV hb1
      go_wp2
      go_ret
      refine ⟨rfl, ?_⟩
      exact HB1.out.alloc HB1.out.size _
/-- A file with a link more, or less. -/
def Sp.linked (x : Ino) (n st : Int) : Ino := ⟨x.gen, x.kind, x.links + n, x.size, st, x.runs, x.ents, x.next⟩
theorem good_linked {S : Nat → Prop} {w : World} {x : Rw} (h : Good S w x) (n st : Int) : Good S w ⟨Sp.linked x.i n st, x.rp, x.rn, x.rc, x.ep, x.en, x.ec⟩ := h
set_option maxHeartbeats 2000000 in
theorem count_any {S : Nat → Prop} (v : Value) (L : List Rw) (k : Nat) (b n st : Int) (x : Rw) (w : World) (hv : TabAt S w v L) (hk : L[k]? = some x) (he : At.linkErr x.i.kind x.i.links x.i.size x.i.stamp n st = 0) :
    Calls Tryz.prog 55 #[v, .agg #[.int .i64 k, .int .i64 b], .int .i64 n, .int .i64 st] w fun e w' => ∃ u L', e = .returned u ∧ TabAt (fun b => w.heap.size ≤ b) w' u L' ∧ pl L' = putTab (pl L) k b (Sp.linked x.i n st) ∧ Below w.heap.size w w' := by
  have HV : Hid (TabAt S w v L) := hv
  obtain ⟨ao, cap, rfl, hm, hx⟩ := hv.open
  obtain ⟨⟨bb, off, rfl, hB, c0, c1, c2, c3, c4, c5, c6, c7⟩, hg⟩ := hx k x hk
  have hkl : (k : Int) < (L.length : Int) := by have := (List.getElem?_eq_some_iff.1 hk).1; omega
  have HG : Hid (Good S w x) := hg
  have HE : Hid (At.linkErr x.i.kind x.i.links x.i.size x.i.stamp n st = 0 ∧ At.linkOut x.i.kind x.i.links x.i.size x.i.stamp n st = VA x.i.kind (x.i.links + n) x.i.size st) := ⟨he, by unfold At.linkOut; rw [if_pos he]⟩
  unfold maxLen at hm
  obtain ⟨m, hm'⟩ : ∃ m, L.length = m := ⟨_, rfl⟩
  rw [hm'] at HV hm hkl ⊢
  clear hv hx hg he hk hm'
  go_enter Tryz.func55, Tryz.ntmps55
  go_wp2_with fail
  refine (link_any _ _ _ _ _ _ _).mono ?_
  rintro e w1 ⟨rfl, hb1⟩
  rw [HE.out.1, HE.out.2]
  have HB1 : Hid (Below w.heap.size w w1) := (((Below.refl _ w).alloc (Nat.le_refl _) _).alloc (by simp) _).trans (hb1.mono (by simp; omega))
  have HA1 : Hid (w1.heap[w.heap.size]? = some (BH k b) ∧ w1.heap[w.heap.size + 1]? = some (BIx x)) := by
    refine ⟨(hb1.block _ (by simp; omega)).trans ((Below.heap_alloc _ _ _ (by simp)).trans (heap_alloc_new _ _)), (hb1.block _ (by simp)).trans ?_⟩
    have := heap_alloc_new (w.alloc (BH k b)) (BIx x)
    rwa [show (w.alloc (BH k b)).heap.size = w.heap.size + 1 by simp] at this
  have hs1 : w.heap.size + 1 < w1.heap.size := by have := hb1.size; simp at this; omega
  obtain ⟨⟨a0, a1⟩, _⟩ := two_of HA1.out.1
  obtain ⟨⟨q0, q1, q2, q3, q4, q5, q6, q7⟩, qf⟩ := eight_of HA1.out.2
  clear hb1 c0 c1 c2 c3 c4 c5 c6 c7 HA1
  go_wp2_with fail
  have HB2 : Hid (Below w.heap.size w ((((w1.setCell ⟨w.heap.size + 1, 1, none⟩ (.int .i64 x.i.kind)).setCell ⟨w.heap.size + 1, 2, none⟩ (.int .i64 (x.i.links + n))).setCell ⟨w.heap.size + 1, 3, none⟩ (.int .i64 x.i.size)).setCell ⟨w.heap.size + 1, 4, none⟩ (.int .i64 st))) := by
    repeat (first | exact HB1.out | refine Below.setCell ?_ (by simp) _)
  refine (put_any _ L k b ⟨Sp.linked x.i n st, x.rp, x.rn, x.rc, x.ep, x.en, x.ec⟩ _ (HV.out.up HB2.out) (good_linked (HG.out.up HB2.out) n st)).mono ?_
  rintro e w3 ⟨u, L', rfl, ht, hp, hb3⟩
  have HB3 : Hid (Below w.heap.size w w3) := HB2.out.trans (hb3.mono HB2.out.size)
  have HT : Hid (TabAt (fun b => w.heap.size ≤ b) w3 u L') := ⟨ht.1.imp fun _ h _ => Nat.le_trans HB2.out.size h, fun y hy => (ht.2 y hy).imp fun _ h _ => Nat.le_trans HB2.out.size h⟩
  have HP : Hid (pl L' = putTab (pl L) k b (Sp.linked x.i n st)) := hp
  clear hb3 ht hp a0 a1 q0 q1 q2 q3 q4 q5 q6 q7
  go_wp2
  go_ret
  exact ⟨u, L', rfl, HT.out, HP.out, HB3.out⟩
end Go.Proofs.YtacghcoikekfeaaGreat
