/-
  space.refuseMove, over what inside answers.
-/
import Derived.Test.YtacghcoikekfeaaGreatSp19
namespace Go.Proofs.YtacghcoikekfeaaGreat
open Go.ChangeShapes Go.WideShapes Go.ChangeAt Go.RowKit Go.Deep It
set_option maxRecDepth 100000
/-- What inside answers of a space and an inode's number: proved elsewhere. -/
def InsSaid (C : List Ino → Int) (I : List Ino → Int → Int → Bool) : Prop := ∀ (S : Nat → Prop) (v : Value) (L : List Rw) (no to : Int) (w : World), TabAt S w v L → Sp.okN L → C (pl L) = 0 → (∃ (k : Nat) (x : Ino), no = k ∧ (pl L)[k]? = some x ∧ x.kind ≠ 0) →
  Calls Tryz.prog 96 #[v, .int .i64 no, .int .i64 to] w fun e w' => e = .returned (.bool (I (pl L) no to)) ∧ Below w.heap.size w w'
noncomputable def Sp.moveErr (I : List Ino → Int → Int → Bool) (L : List Ino) (no a b : Int) (s : ByteArray) : Int := if (nameErr L a b s = 0 ∨ nameErr L a b s = 403) ∧ I L no a = true then 410 else nameErr L a b s
set_option maxHeartbeats 2000000 in
theorem refuseMove_any {C : List Ino → Int} {I : List Ino → Int → Int → Bool} (hI : InsSaid C I) {S : Nat → Prop} (v : Value) (L : List Rw) (no g a b : Int) (s : ByteArray) (w : World) (hv : TabAt S w v L) (hok : Sp.okN L) (hs : s.size ≤ maxLen) (hc : C (pl L) = 0) (hk : ∃ (k : Nat) (x : Ino), no = k ∧ (pl L)[k]? = some x ∧ x.kind ≠ 0) :
    Calls Tryz.prog 61 #[v, .agg #[.int .i64 no, .int .i64 g], .agg #[.int .i64 a, .int .i64 b], .string s] w fun e w' => e = .returned (.int .i64 (Sp.moveErr I (pl L) no a b s)) ∧ Below w.heap.size w w' := by
  obtain ⟨W, hW⟩ : ∃ W, W = (w.alloc (BH no g)).alloc (BH a b) := ⟨_, rfl⟩
  have HB0 : Hid (Below w.heap.size w W) := by show Below w.heap.size w W; rw [hW]; exact ((Below.refl _ w).alloc (Nat.le_refl _) _).alloc (by simp) _
  have HA0 : Hid (W.heap[w.heap.size]? = some (BH no g) ∧ W.heap[w.heap.size + 1]? = some (BH a b)) := by
    rw [hW]
    refine ⟨(Below.heap_alloc _ _ _ (by simp)).trans (heap_alloc_new _ _), ?_⟩
    have := heap_alloc_new (w.alloc (BH no g)) (BH a b)
    rwa [show (w.alloc (BH no g)).heap.size = w.heap.size + 1 by simp] at this
  have hws : w.heap.size + 1 < W.heap.size := by rw [hW]; simp
  have HV : Hid (TabAt S W v L) := hv.up HB0.out
  have HIN0 : Hid (∀ V, Below w.heap.size w V → Calls Tryz.prog 96 #[v, .int .i64 no, .int .i64 a] V fun e w' => e = .returned (.bool (I (pl L) no a)) ∧ Below V.heap.size V w') := fun V h => hI S v L no a V (hv.up h) hok hc hk
  obtain ⟨ao, cap, rfl, _, _⟩ := hv.open
  have HOK : Hid (Sp.okN L) := hok
  have HSM : Hid (s.size ≤ maxLen) := hs
  clear hv hok hs hI hc hk
  obtain ⟨ne, hne⟩ : ∃ ne, Sp.nameErr (pl L) a b s = ne := ⟨_, rfl⟩
  have HNE : Hid (Sp.nameErr (pl L) a b s = ne) := hne
  obtain ⟨i, hi⟩ : ∃ i, I (pl L) no a = i := ⟨_, rfl⟩
  have HIN : Hid (∀ V, Below w.heap.size w V → Calls Tryz.prog 96 #[.slice ao L.length cap, .int .i64 no, .int .i64 a] V fun e w' => e = .returned (.bool i) ∧ Below V.heap.size V w') := by rw [← hi]; exact HIN0.out
  clear HIN0
  by_cases h1 : ne = 0 ∨ ne = 403
  · have hE : Sp.moveErr I (pl L) no a b s = if i = true then 410 else ne := by
      unfold Sp.moveErr
      rw [hne, hi]
      by_cases h : i = true
      · rw [if_pos ⟨h1, h⟩, if_pos h]
      · rw [if_neg (fun x => h x.2), if_neg h]
    rw [hE]
    clear hE hne hi
    rcases h1 with rfl | rfl <;> cases i
    all_goals
      go_enter Tryz.func61, Tryz.ntmps61
      obtain ⟨⟨a0, a1⟩, _⟩ := two_of HA0.out.1
      obtain ⟨⟨g0, g1⟩, _⟩ := two_of HA0.out.2
      go_wp2_with fail
      rw [← hW]
      refine (refuseName_any _ L a b s _ HV.out HOK.out HSM.out).mono ?_
      rintro e w1 ⟨rfl, hb1⟩
      rw [HNE.out]
      have HB1 : Hid (Below w.heap.size w w1) := HB0.out.trans (hb1.mono HB0.out.size)
      have HA1 : Hid (w1.heap[w.heap.size]? = some (BH no g) ∧ w1.heap[w.heap.size + 1]? = some (BH a b)) := ⟨(hb1.block _ (by omega)).trans HA0.out.1, (hb1.block _ (by omega)).trans HA0.out.2⟩
      clear hb1 hW a0 a1 g0 g1
      obtain ⟨⟨a0, a1⟩, _⟩ := two_of HA1.out.1
      obtain ⟨⟨g0, g1⟩, _⟩ := two_of HA1.out.2
      go_wp2_with fail
      refine (HIN.out _ HB1.out).mono ?_
      rintro e w2 ⟨rfl, hb2⟩
      have HB2 : Hid (Below w.heap.size w w2) := HB1.out.trans (hb2.mono HB1.out.size)
      clear hb2 a0 a1 g0 g1
      go_wp2
      go_ret
      exact ⟨rfl, HB2.out⟩
  · have hE : Sp.moveErr I (pl L) no a b s = ne := by
      unfold Sp.moveErr
      rw [hne, if_neg (fun x => h1 x.1)]
    rw [hE]
    have z1 : (ne == 0) = false := beq_eq_false_iff_ne.2 fun h => h1 (.inl h)
    have z2 : (ne == 403) = false := beq_eq_false_iff_ne.2 fun h => h1 (.inr h)
    clear hE hne hi h1
    go_enter Tryz.func61, Tryz.ntmps61
    obtain ⟨⟨a0, a1⟩, _⟩ := two_of HA0.out.1
    obtain ⟨⟨g0, g1⟩, _⟩ := two_of HA0.out.2
    go_wp2_with fail
    rw [← hW]
    refine (refuseName_any _ L a b s _ HV.out HOK.out HSM.out).mono ?_
    rintro e w1 ⟨rfl, hb1⟩
    rw [HNE.out]
    have HB1 : Hid (Below w.heap.size w w1) := HB0.out.trans (hb1.mono HB0.out.size)
    clear hb1 hW a0 a1 g0 g1
    go_wp2
    go_ret
    exact ⟨rfl, HB1.out⟩
end Go.Proofs.YtacghcoikekfeaaGreat
