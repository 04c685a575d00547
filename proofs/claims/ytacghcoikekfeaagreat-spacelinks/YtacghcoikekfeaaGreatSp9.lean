/-
  space.Look, findToChange, refuseMake, over what Check answers.
-/
import Derived.Test.YtacghcoikekfeaaGreatSp8
namespace Go.Proofs.YtacghcoikekfeaaGreat
open Go.ChangeShapes Go.WideShapes Go.ChangeAt Go.RowKit Go.Deep It
set_option maxRecDepth 100000
namespace Sp
noncomputable def atErr (C : List Ino → Int) (L : List Ino) (a b : Int) (s : ByteArray) : Int := if C L = 0 then lookErr L a b s else C L
noncomputable def atH (C : List Ino → Int) (L : List Ino) (a b : Int) (s : ByteArray) : Int × Int := if C L = 0 then lookH L a b s else (0, 0)
noncomputable def toErr (C : List Ino → Int) (L : List Ino) (st a b : Int) (s : ByteArray) : Int := if stErr C L st = 0 then lookErr L a b s else stErr C L st
noncomputable def toH (C : List Ino → Int) (L : List Ino) (st a b : Int) (s : ByteArray) : Int × Int := if stErr C L st = 0 then lookH L a b s else (0, 0)
noncomputable def makeErr (C : List Ino → Int) (L : List Ino) (a b : Int) (s : ByteArray) (kind st : Int) : Int := if stErr C L st = 0 then (if kind = 1 ∨ kind = 2 then nameErr L a b s else 1) else stErr C L st
end Sp
set_option maxHeartbeats 2000000 in
theorem look_any {C : List Ino → Int} (hC : ChkSaid C) {S : Nat → Prop} (v : Value) (L : List Rw) (a b : Int) (s : ByteArray) (w : World) (hv : TabAt S w v L) (hok : Sp.okN L) (hs : s.size ≤ maxLen) :
    Calls Tryz.prog 15 #[v, .agg #[.int .i64 a, .int .i64 b], .string s] w fun e w' => e = .returned (.tuple #[.agg #[.int .i64 (Sp.atH C (pl L) a b s).1, .int .i64 (Sp.atH C (pl L) a b s).2], .int .i64 (Sp.atErr C (pl L) a b s)]) ∧ Below w.heap.size w w' := by
  obtain ⟨W, hW⟩ : ∃ W, W = (w.alloc (BH a b)).alloc (BH 0 0) := ⟨_, rfl⟩
  have HB0 : Hid (Below w.heap.size w W) := by show Below w.heap.size w W; rw [hW]; exact ((Below.refl _ w).alloc (Nat.le_refl _) _).alloc (by simp) _
  have HA0 : Hid (W.heap[w.heap.size]? = some (BH a b) ∧ W.heap[w.heap.size + 1]? = some (BH 0 0)) := by
    rw [hW]
    refine ⟨(Below.heap_alloc _ _ _ (by simp)).trans (heap_alloc_new _ _), ?_⟩
    have := heap_alloc_new (w.alloc (BH a b)) (BH 0 0)
    rwa [show (w.alloc (BH a b)).heap.size = w.heap.size + 1 by simp] at this
  have hws : w.heap.size + 1 < W.heap.size := by rw [hW]; simp
  have HV : Hid (TabAt S W v L) := hv.up HB0.out
  obtain ⟨ao, cap, rfl, _, _⟩ := hv.open
  have HOK : Hid (Sp.okN L) := hok
  have HSM : Hid (s.size ≤ maxLen) := hs
  have HCC : Hid (ChkSaid C) := hC
  clear hv hok hs hC
  obtain ⟨ce, hce⟩ : ∃ ce, C (pl L) = ce := ⟨_, rfl⟩
  have HCE : Hid (C (pl L) = ce) := hce
  by_cases hz : ce = 0
  · subst hz
    obtain ⟨q, hq⟩ : ∃ q, Sp.lookH (pl L) a b s = q := ⟨_, rfl⟩
    obtain ⟨fe, hfe⟩ : ∃ fe, Sp.lookErr (pl L) a b s = fe := ⟨_, rfl⟩
    have HF : Hid (Sp.lookH (pl L) a b s = q ∧ Sp.lookErr (pl L) a b s = fe) := ⟨hq, hfe⟩
    rw [show Sp.atErr C (pl L) a b s = fe by unfold Sp.atErr; rw [if_pos hce, hfe], show Sp.atH C (pl L) a b s = q by unfold Sp.atH; rw [if_pos hce, hq]]
    clear hq hfe hce
    go_enter Tryz.func15, Tryz.ntmps15
    go_wp2_with fail
    rw [← hW]
    refine (HCC.out S _ L _ HV.out HOK.out).mono ?_
    rintro e w1 ⟨rfl, hb1⟩
    rw [HCE.out]
    have HB1 : Hid (Below w.heap.size w w1) := HB0.out.trans (hb1.mono HB0.out.size)
    have HA1 : Hid (w1.heap[w.heap.size]? = some (BH a b) ∧ w1.heap[w.heap.size + 1]? = some (BH 0 0)) := ⟨(hb1.block _ (by omega)).trans HA0.out.1, (hb1.block _ (by omega)).trans HA0.out.2⟩
    have hws1 : w.heap.size + 1 < w1.heap.size := by have := hb1.size; omega
    have HV1 : Hid (TabAt S w1 (.slice ao L.length cap) L) := HV.out.up hb1
    obtain ⟨⟨a0, a1⟩, _⟩ := two_of HA1.out.1
    clear hb1 hW HV HA0
    go_wp2_with fail
    refine (sfind_any _ L a b s _ HV1.out HOK.out HSM.out).mono ?_
    rintro e w2 ⟨rfl, hb2⟩
    rw [HF.out.1, HF.out.2]
    have HB3 : Hid (Below w.heap.size w w2) := HB1.out.trans (hb2.mono HB1.out.size)
    obtain ⟨⟨z0, z1⟩, zf⟩ := two_of ((hb2.block _ hws1).trans HA1.out.2)
    clear hb2 a0 a1
    go_wp2
    (try simp only [Exit.inBlock, Exit.then])
    refine bodyPost_ret (v := .tuple #[.agg #[.int .i64 q.1, .int .i64 q.2], .int .i64 fe]) ?_ rfl ⟨rfl, ?_⟩
    · rw [results_cell_tmp rfl]
      go_simp
    · repeat (first | exact HB3.out | refine Below.setCell ?_ (by simp) _)
  · rw [show Sp.atErr C (pl L) a b s = ce by unfold Sp.atErr; rw [if_neg (by rw [hce]; exact hz), hce], show Sp.atH C (pl L) a b s = (0, 0) by unfold Sp.atH; rw [if_neg (by rw [hce]; exact hz)]]
    have hz' : (ce != 0) = true := by simpa using hz
    clear hz hce
    go_enter Tryz.func15, Tryz.ntmps15
    go_wp2_with fail
    rw [← hW]
    refine (HCC.out S _ L _ HV.out HOK.out).mono ?_
    rintro e w1 ⟨rfl, hb1⟩
    rw [HCE.out]
    have HB1 : Hid (Below w.heap.size w w1) := HB0.out.trans (hb1.mono HB0.out.size)
    obtain ⟨⟨z0, z1⟩, zf⟩ := two_of ((hb1.block _ (by omega)).trans HA0.out.2)
    clear hb1 hW HV HA0
    go_wp2
    (try simp only [Exit.inBlock, Exit.then])
    refine bodyPost_ret (v := .tuple #[.agg #[.int .i64 0, .int .i64 0], .int .i64 ce]) ?_ rfl ⟨rfl, ?_⟩
    · rw [results_cell_tmp rfl]
      go_simp
    · repeat (first | exact HB1.out | refine Below.setCell ?_ (by simp) _)
set_option maxHeartbeats 2000000 in
theorem toChange_any {C : List Ino → Int} (hC : ChkSaid C) {S : Nat → Prop} (v : Value) (L : List Rw) (a b : Int) (s : ByteArray) (st : Int) (w : World) (hv : TabAt S w v L) (hok : Sp.okN L) (hs : s.size ≤ maxLen) :
    Calls Tryz.prog 56 #[v, .agg #[.int .i64 a, .int .i64 b], .string s, .int .i64 st] w fun e w' => e = .returned (.tuple #[.agg #[.int .i64 (Sp.toH C (pl L) st a b s).1, .int .i64 (Sp.toH C (pl L) st a b s).2], .int .i64 (Sp.toErr C (pl L) st a b s)]) ∧ Below w.heap.size w w' := by
  obtain ⟨W, hW⟩ : ∃ W, W = (w.alloc (BH a b)).alloc (BH 0 0) := ⟨_, rfl⟩
  have HB0 : Hid (Below w.heap.size w W) := by show Below w.heap.size w W; rw [hW]; exact ((Below.refl _ w).alloc (Nat.le_refl _) _).alloc (by simp) _
  have HA0 : Hid (W.heap[w.heap.size]? = some (BH a b) ∧ W.heap[w.heap.size + 1]? = some (BH 0 0)) := by
    rw [hW]
    refine ⟨(Below.heap_alloc _ _ _ (by simp)).trans (heap_alloc_new _ _), ?_⟩
    have := heap_alloc_new (w.alloc (BH a b)) (BH 0 0)
    rwa [show (w.alloc (BH a b)).heap.size = w.heap.size + 1 by simp] at this
  have hws : w.heap.size + 1 < W.heap.size := by rw [hW]; simp
  have HV : Hid (TabAt S W v L) := hv.up HB0.out
  obtain ⟨ao, cap, rfl, _, _⟩ := hv.open
  have HOK : Hid (Sp.okN L) := hok
  have HSM : Hid (s.size ≤ maxLen) := hs
  have HCC : Hid (ChkSaid C) := hC
  clear hv hok hs hC
  obtain ⟨ce, hce⟩ : ∃ ce, Sp.stErr C (pl L) st = ce := ⟨_, rfl⟩
  have HCE : Hid (Sp.stErr C (pl L) st = ce) := hce
  by_cases hz : ce = 0
  · subst hz
    obtain ⟨q, hq⟩ : ∃ q, Sp.lookH (pl L) a b s = q := ⟨_, rfl⟩
    obtain ⟨fe, hfe⟩ : ∃ fe, Sp.lookErr (pl L) a b s = fe := ⟨_, rfl⟩
    have HF : Hid (Sp.lookH (pl L) a b s = q ∧ Sp.lookErr (pl L) a b s = fe) := ⟨hq, hfe⟩
    rw [show Sp.toErr C (pl L) st a b s = fe by unfold Sp.toErr; rw [if_pos hce, hfe], show Sp.toH C (pl L) st a b s = q by unfold Sp.toH; rw [if_pos hce, hq]]
    clear hq hfe hce
    go_enter Tryz.func56, Tryz.ntmps56
    go_wp2_with fail
    rw [← hW]
    refine (srefuse_any HCC.out _ L st _ HV.out HOK.out).mono ?_
    rintro e w1 ⟨rfl, hb1⟩
    rw [HCE.out]
    have HB1 : Hid (Below w.heap.size w w1) := HB0.out.trans (hb1.mono HB0.out.size)
    have HA1 : Hid (w1.heap[w.heap.size]? = some (BH a b) ∧ w1.heap[w.heap.size + 1]? = some (BH 0 0)) := ⟨(hb1.block _ (by omega)).trans HA0.out.1, (hb1.block _ (by omega)).trans HA0.out.2⟩
    have hws1 : w.heap.size + 1 < w1.heap.size := by have := hb1.size; omega
    have HV1 : Hid (TabAt S w1 (.slice ao L.length cap) L) := HV.out.up hb1
    obtain ⟨⟨a0, a1⟩, _⟩ := two_of HA1.out.1
    clear hb1 hW HV HA0
    go_wp2_with fail
    refine (sfind_any _ L a b s _ HV1.out HOK.out HSM.out).mono ?_
    rintro e w2 ⟨rfl, hb2⟩
    rw [HF.out.1, HF.out.2]
    have HB3 : Hid (Below w.heap.size w w2) := HB1.out.trans (hb2.mono HB1.out.size)
    obtain ⟨⟨z0, z1⟩, zf⟩ := two_of ((hb2.block _ hws1).trans HA1.out.2)
    clear hb2 a0 a1
    go_wp2
    (try simp only [Exit.inBlock, Exit.then])
    refine bodyPost_ret (v := .tuple #[.agg #[.int .i64 q.1, .int .i64 q.2], .int .i64 fe]) ?_ rfl ⟨rfl, ?_⟩
    · rw [results_cell_tmp rfl]
      go_simp
    · repeat (first | exact HB3.out | refine Below.setCell ?_ (by simp) _)
  · rw [show Sp.toErr C (pl L) st a b s = ce by unfold Sp.toErr; rw [if_neg (by rw [hce]; exact hz), hce], show Sp.toH C (pl L) st a b s = (0, 0) by unfold Sp.toH; rw [if_neg (by rw [hce]; exact hz)]]
    have hz' : (ce != 0) = true := by simpa using hz
    clear hz hce
    go_enter Tryz.func56, Tryz.ntmps56
    go_wp2_with fail
    rw [← hW]
    refine (srefuse_any HCC.out _ L st _ HV.out HOK.out).mono ?_
    rintro e w1 ⟨rfl, hb1⟩
    rw [HCE.out]
    have HB1 : Hid (Below w.heap.size w w1) := HB0.out.trans (hb1.mono HB0.out.size)
    obtain ⟨⟨z0, z1⟩, zf⟩ := two_of ((hb1.block _ (by omega)).trans HA0.out.2)
    clear hb1 hW HV HA0
    go_wp2
    (try simp only [Exit.inBlock, Exit.then])
    refine bodyPost_ret (v := .tuple #[.agg #[.int .i64 0, .int .i64 0], .int .i64 ce]) ?_ rfl ⟨rfl, ?_⟩
    · rw [results_cell_tmp rfl]
      go_simp
    · repeat (first | exact HB1.out | refine Below.setCell ?_ (by simp) _)
end Go.Proofs.YtacghcoikekfeaaGreat
