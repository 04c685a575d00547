/-
  space.refuseMake, over what Check answers.
-/
import Derived.Test.YtacghcoikekfeaaGreatSp9
namespace Go.Proofs.YtacghcoikekfeaaGreat
open Go.ChangeShapes Go.WideShapes Go.ChangeAt Go.RowKit Go.Deep It
set_option maxRecDepth 100000
set_option maxHeartbeats 2000000 in
theorem refuseMake_any {C : List Ino → Int} (hC : ChkSaid C) {S : Nat → Prop} (v : Value) (L : List Rw) (a b : Int) (s : ByteArray) (kind st : Int) (w : World) (hv : TabAt S w v L) (hok : Sp.okN L) (hs : s.size ≤ maxLen) :
    Calls Tryz.prog 45 #[v, .agg #[.int .i64 a, .int .i64 b], .string s, .int .i64 kind, .int .i64 st] w fun e w' => e = .returned (.int .i64 (Sp.makeErr C (pl L) a b s kind st)) ∧ Below w.heap.size w w' := by
  have HB0 : Hid (Below w.heap.size w (w.alloc (BH a b))) := (Below.refl _ w).alloc (Nat.le_refl _) _
  have HA0 : Hid ((w.alloc (BH a b)).heap[w.heap.size]? = some (BH a b)) := heap_alloc_new _ _
  obtain ⟨W, hW⟩ : ∃ W, W = w.alloc (BH a b) := ⟨_, rfl⟩
  rw [← hW] at HB0 HA0
  have hws : w.heap.size < W.heap.size := by rw [hW]; simp
  have HV : Hid (TabAt S W v L) := hv.up HB0.out
  obtain ⟨ao, cap, rfl, _, _⟩ := hv.open
  have HOK : Hid (Sp.okN L) := hok
  have HSM : Hid (s.size ≤ maxLen) := hs
  have HCC : Hid (ChkSaid C) := hC
  clear hv hok hs hC
  obtain ⟨ce, hce⟩ : ∃ ce, Sp.stErr C (pl L) st = ce := ⟨_, rfl⟩
  have HCE : Hid (Sp.stErr C (pl L) st = ce) := hce
  by_cases hz : ce = 0
  · subst hz
    obtain ⟨ne, hne⟩ : ∃ ne, Sp.nameErr (pl L) a b s = ne := ⟨_, rfl⟩
    have HNE : Hid (Sp.nameErr (pl L) a b s = ne) := hne
    by_cases hk : kind = 1 ∨ kind = 2
    · rw [show Sp.makeErr C (pl L) a b s kind st = ne by unfold Sp.makeErr; rw [if_pos hce, if_pos hk, hne]]
      clear hce hne
      rcases hk with rfl | rfl
      · go_enter Tryz.func45, Tryz.ntmps45
        go_wp2_with fail
        rw [← hW]
        refine (srefuse_any HCC.out _ L st _ HV.out HOK.out).mono ?_
        rintro e w1 ⟨rfl, hb1⟩
        rw [HCE.out]
        have HB1 : Hid (Below w.heap.size w w1) := HB0.out.trans (hb1.mono HB0.out.size)
        have HA1 : Hid (w1.heap[w.heap.size]? = some (BH a b)) := (hb1.block _ hws).trans HA0.out
        have HV1 : Hid (TabAt S w1 (.slice ao L.length cap) L) := HV.out.up hb1
        obtain ⟨⟨a0, a1⟩, _⟩ := two_of HA1.out
        clear hb1 hW HV HA0
        go_wp2_with fail
        refine (refuseName_any _ L a b s _ HV1.out HOK.out HSM.out).mono ?_
        rintro e w2 ⟨rfl, hb2⟩
        rw [HNE.out]
        have HB2 : Hid (Below w.heap.size w w2) := HB1.out.trans (hb2.mono HB1.out.size)
        clear hb2 a0 a1
        go_wp2
        go_ret
        exact ⟨rfl, HB2.out⟩
      · go_enter Tryz.func45, Tryz.ntmps45
        go_wp2_with fail
        rw [← hW]
        refine (srefuse_any HCC.out _ L st _ HV.out HOK.out).mono ?_
        rintro e w1 ⟨rfl, hb1⟩
        rw [HCE.out]
        have HB1 : Hid (Below w.heap.size w w1) := HB0.out.trans (hb1.mono HB0.out.size)
        have HA1 : Hid (w1.heap[w.heap.size]? = some (BH a b)) := (hb1.block _ hws).trans HA0.out
        have HV1 : Hid (TabAt S w1 (.slice ao L.length cap) L) := HV.out.up hb1
        obtain ⟨⟨a0, a1⟩, _⟩ := two_of HA1.out
        clear hb1 hW HV HA0
        go_wp2_with fail
        refine (refuseName_any _ L a b s _ HV1.out HOK.out HSM.out).mono ?_
        rintro e w2 ⟨rfl, hb2⟩
        rw [HNE.out]
        have HB2 : Hid (Below w.heap.size w w2) := HB1.out.trans (hb2.mono HB1.out.size)
        clear hb2 a0 a1
        go_wp2
        go_ret
        exact ⟨rfl, HB2.out⟩
    · rw [show Sp.makeErr C (pl L) a b s kind st = 1 by unfold Sp.makeErr; rw [if_pos hce, if_neg hk]]
      have k1 : (kind != 1) = true := by simpa using fun h => hk (.inl h)
      have k2 : (kind != 2) = true := by simpa using fun h => hk (.inr h)
      clear hce hne hk
      go_enter Tryz.func45, Tryz.ntmps45
      go_wp2_with fail
      rw [← hW]
      refine (srefuse_any HCC.out _ L st _ HV.out HOK.out).mono ?_
      rintro e w1 ⟨rfl, hb1⟩
      rw [HCE.out]
      have HB1 : Hid (Below w.heap.size w w1) := HB0.out.trans (hb1.mono HB0.out.size)
      clear hb1 hW HV HA0
      go_wp2
      go_ret
      exact ⟨rfl, HB1.out⟩
  · rw [show Sp.makeErr C (pl L) a b s kind st = ce by unfold Sp.makeErr; rw [if_neg (by rw [hce]; exact hz), hce]]
    have hz' : (ce != 0) = true := by simpa using hz
    clear hz hce
    go_enter Tryz.func45, Tryz.ntmps45
    go_wp2_with fail
    rw [← hW]
    refine (srefuse_any HCC.out _ L st _ HV.out HOK.out).mono ?_
    rintro e w1 ⟨rfl, hb1⟩
    rw [HCE.out]
    have HB1 : Hid (Below w.heap.size w w1) := HB0.out.trans (hb1.mono HB0.out.size)
    clear hb1 hW HV HA0
    go_wp2
    go_ret
    exact ⟨rfl, HB1.out⟩
end Go.Proofs.YtacghcoikekfeaaGreat
