/-
  sextonref11.free: what it answers of a right table.
-/
import Derived.Test.YtacghcoikekfeaaGreatSRef2
namespace Go.Proofs.YtacghcoikekfeaaGreat
open Go.ChangeShapes Go.WideShapes Go.ChangeAt Go.RowKit Go.Deep It
set_option maxRecDepth 100000
set_option maxHeartbeats 2000000 in
theorem rfree_any {S : Nat → Prop} (v : Value) (L : List Rw) (a b : Int) (s : ByteArray) (w : World) (hv : TabAt S w v L) (hok : Sp.okN L) (hs : s.size ≤ maxLen) (hr : It.right (pl L) = true) :
    Calls Tryz.prog 49 #[v, .agg #[.int .i64 a, .int .i64 b], .string s] w fun e w' => e = .returned (.int .i64 (Sp.nameErr (pl L) a b s)) ∧ Below w.heap.size w w' := by
  have HB0 : Hid (Below w.heap.size w (w.alloc (BH a b))) := (Below.refl _ w).alloc (Nat.le_refl _) _
  obtain ⟨⟨a0, a1⟩, _⟩ := two_of (heap_alloc_new w (BH a b))
  have HV : Hid (TabAt S (w.alloc (BH a b)) v L) := hv.up HB0.out
  obtain ⟨ao, cap, rfl, _, _⟩ := hv.open
  have HOK : Hid (Sp.okN L) := hok
  have HSM : Hid (s.size ≤ maxLen) := hs
  have HRT : Hid (It.right (pl L) = true) := hr
  clear hv hok hs hr
  obtain ⟨ne, hne⟩ : ∃ ne, Sp.nameErr (pl L) a b s = ne := ⟨_, rfl⟩
  have HNE : Hid (Sp.nameErr (pl L) a b s = ne) := hne
  rw [hne]
  unfold Sp.nameErr at hne
  obtain ⟨le, hle⟩ : ∃ le, Sp.lookErr (pl L) a b s = le := ⟨_, rfl⟩
  have HLE : Hid (Sp.lookErr (pl L) a b s = le) := hle
  rw [hle] at hne
  clear hle
  by_cases h0 : le = 0
  · subst h0
    rw [if_pos rfl] at hne
    subst hne
    go_enter Tryz.func49, Tryz.ntmps49
    go_wp2_with fail
    refine (rlook_any _ L a b s _ HV.out HOK.out HSM.out HRT.out).mono ?_
    rintro e w1 ⟨rfl, hb1⟩
    rw [HLE.out]
    generalize Sp.lookH (pl L) a b s = q
    have HB1 : Hid (Below w.heap.size w w1) := HB0.out.trans (hb1.mono HB0.out.size)
    clear a0 a1 HV hb1
    go_wp2
    go_ret
    refine ⟨rfl, ?_⟩
    exact HB1.out.alloc HB1.out.size _
  · have h0' : (le == 0) = false := beq_eq_false_iff_ne.2 h0
    rw [if_neg h0] at hne
    by_cases h2 : le = 402
    · subst h2
      rw [if_pos rfl] at hne
      subst hne
      clear h0 h0'
      go_enter Tryz.func49, Tryz.ntmps49
      go_wp2_with fail
      refine (rlook_any _ L a b s _ HV.out HOK.out HSM.out HRT.out).mono ?_
      rintro e w1 ⟨rfl, hb1⟩
      rw [HLE.out]
      generalize Sp.lookH (pl L) a b s = q
      have HB1 : Hid (Below w.heap.size w w1) := HB0.out.trans (hb1.mono HB0.out.size)
      clear a0 a1 HV hb1
      go_wp2
      go_ret
      refine ⟨rfl, ?_⟩
      exact HB1.out.alloc HB1.out.size _
    · have h2' : (le == 402) = false := beq_eq_false_iff_ne.2 h2
      rw [if_neg h2] at hne
      subst hne
      clear h0 h2
      go_enter Tryz.func49, Tryz.ntmps49
      go_wp2_with fail
      refine (rlook_any _ L a b s _ HV.out HOK.out HSM.out HRT.out).mono ?_
      rintro e w1 ⟨rfl, hb1⟩
      rw [HLE.out]
      generalize Sp.lookH (pl L) a b s = q
      have HB1 : Hid (Below w.heap.size w w1) := HB0.out.trans (hb1.mono HB0.out.size)
      clear a0 a1 HV hb1
      go_wp2
      go_ret
      refine ⟨rfl, ?_⟩
      exact HB1.out.alloc HB1.out.size _
end Go.Proofs.YtacghcoikekfeaaGreat
