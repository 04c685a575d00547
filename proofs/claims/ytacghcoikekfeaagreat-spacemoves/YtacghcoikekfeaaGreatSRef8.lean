/-
  sextonref11.Look, over what its Right answers.
-/
import Derived.Test.YtacghcoikekfeaaGreatSRef7
namespace Go.Proofs.YtacghcoikekfeaaGreat
open Go.ChangeShapes Go.WideShapes Go.ChangeAt Go.RowKit Go.Deep It
set_option maxRecDepth 100000
/-- What its Right means, as far as the others ask: proved elsewhere. -/
def Sp.RtMeans (R : List Ino → Bool) : Prop := ∀ L, R L = true → It.right L = true
set_option maxHeartbeats 2000000 in
theorem rlooks_any {R : List Ino → Bool} (hR : RtSaid R) (hM : Sp.RtMeans R) {S : Nat → Prop} (v : Value) (L : List Rw) (a b : Int) (s : ByteArray) (w : World) (hv : TabAt S w v L) (hok : Sp.okN L) (hs : s.size ≤ maxLen) :
    Calls Tryz.prog 16 #[v, .agg #[.int .i64 a, .int .i64 b], .string s] w fun e w' => e = .returned (.tuple #[.agg #[.int .i64 (Sp.atH (Sp.chk R) (pl L) a b s).1, .int .i64 (Sp.atH (Sp.chk R) (pl L) a b s).2], .int .i64 (Sp.atErr (Sp.chk R) (pl L) a b s)]) ∧ Below w.heap.size w w' := by
  obtain ⟨W, hW⟩ : ∃ W, W = (w.alloc (BH a b)).alloc (BH 0 0) := ⟨_, rfl⟩
  have HB0 : Hid (Below w.heap.size w W) := by show Below w.heap.size w W; rw [hW]; exact ((Below.refl _ w).alloc (Nat.le_refl _) _).alloc (by simp) _
  have HA0 : Hid (W.heap[w.heap.size]? = some (BH a b) ∧ W.heap[w.heap.size + 1]? = some (BH 0 0)) := by
    rw [hW]
    refine ⟨(Below.heap_alloc _ _ _ (by simp)).trans (heap_alloc_new _ _), ?_⟩
    have := heap_alloc_new (w.alloc (BH a b)) (BH 0 0)
    rwa [show (w.alloc (BH a b)).heap.size = w.heap.size + 1 by simp] at this
  have hws : w.heap.size + 1 < W.heap.size := by rw [hW]; simp
  have HV : Hid (TabAt S W v L) := hv.up HB0.out
  obtain ⟨i, hi⟩ : ∃ i, R (pl L) = i := ⟨_, rfl⟩
  have HC : Hid (Calls Tryz.prog 11 #[v] W fun e w' => e = .returned (.bool i) ∧ Below W.heap.size W w') := by rw [← hi]; exact hR S v L W HV.out hok
  obtain ⟨ao, cap, rfl, -, -⟩ := hv.open
  have HOK : Hid (Sp.okN L) := hok
  have HSM : Hid (s.size ≤ maxLen) := hs
  clear hv hok hs hR
  cases i
  · have hc : Sp.chk R (pl L) = 4 := by unfold Sp.chk; rw [hi]; rfl
    rw [show Sp.atErr (Sp.chk R) (pl L) a b s = 4 by unfold Sp.atErr; rw [hc]; rfl, show Sp.atH (Sp.chk R) (pl L) a b s = (0, 0) by unfold Sp.atH; rw [hc]; rfl]
    clear hc hi hM
    go_enter Tryz.func16, Tryz.ntmps16
    go_wp2_with fail
    rw [← hW]
    refine HC.out.mono ?_
    rintro e w1 ⟨rfl, hb1⟩
    have HB1 : Hid (Below w.heap.size w w1) := HB0.out.trans (hb1.mono HB0.out.size)
    have HZ1 : Hid (w1.heap[w.heap.size + 1]? = some (BH 0 0)) := (hb1.block _ hws).trans HA0.out.2
    have hws1 : w.heap.size + 1 < w1.heap.size := (Array.getElem?_eq_some_iff.1 HZ1.out).1
    clear hb1 hW
    obtain ⟨⟨z0, z1⟩, zf⟩ := two_of HZ1.out
    go_wp2
    (try simp only [Exit.inBlock, Exit.then])
    refine bodyPost_ret (v := .tuple #[.agg #[.int .i64 0, .int .i64 0], .int .i64 4]) ?_ rfl ⟨rfl, ?_⟩
    · rw [results_cell_tmp rfl]
      go_simp
    · have hs1 := HB1.out.size
      repeat (first | exact HB1.out | refine Below.setCell ?_ (by simp) _ | refine Below.alloc ?_ (by simp; omega) _)
  · have hc : Sp.chk R (pl L) = 0 := by unfold Sp.chk; rw [hi]; rfl
    obtain ⟨⟨q1, q2⟩, hq⟩ : ∃ q, Sp.lookH (pl L) a b s = q := ⟨_, rfl⟩
    obtain ⟨le, hle⟩ : ∃ le, Sp.lookErr (pl L) a b s = le := ⟨_, rfl⟩
    have HQ : Hid (Sp.lookH (pl L) a b s = (q1, q2) ∧ Sp.lookErr (pl L) a b s = le) := ⟨hq, hle⟩
    have HRT : Hid (It.right (pl L) = true) := hM _ hi
    rw [show Sp.atErr (Sp.chk R) (pl L) a b s = le by unfold Sp.atErr; rw [if_pos hc, hle], show Sp.atH (Sp.chk R) (pl L) a b s = (q1, q2) by unfold Sp.atH; rw [if_pos hc, hq]]
    clear hc hi hM hq hle
    go_enter Tryz.func16, Tryz.ntmps16
    go_wp2_with fail
    rw [← hW]
    refine HC.out.mono ?_
    rintro e w1 ⟨rfl, hb1⟩
    have HB1 : Hid (Below w.heap.size w w1) := HB0.out.trans (hb1.mono HB0.out.size)
    have HA1 : Hid (w1.heap[w.heap.size]? = some (BH a b) ∧ w1.heap[w.heap.size + 1]? = some (BH 0 0)) := ⟨(hb1.block _ (by omega)).trans HA0.out.1, (hb1.block _ hws).trans HA0.out.2⟩
    have HV1 : Hid (TabAt S w1 (.slice ao L.length cap) L) := HV.out.up hb1
    have hws1 : w.heap.size + 1 < w1.heap.size := (Array.getElem?_eq_some_iff.1 HA1.out.2).1
    clear hb1 hW
    obtain ⟨⟨a0, a1⟩, af⟩ := two_of HA1.out.1
    go_wp2_with fail
    refine (rlook_any _ L a b s _ HV1.out HOK.out HSM.out HRT.out).mono ?_
    rintro e w2 ⟨rfl, hb2⟩
    rw [HQ.out.1, HQ.out.2]
    have HB2 : Hid (Below w.heap.size w w2) := HB1.out.trans (hb2.mono HB1.out.size)
    have HZ2 : Hid (w2.heap[w.heap.size + 1]? = some (BH 0 0)) := (hb2.block _ hws1).trans HA1.out.2
    have hws2 : w.heap.size + 1 < w2.heap.size := (Array.getElem?_eq_some_iff.1 HZ2.out).1
    clear hb2 a0 a1 af
    obtain ⟨⟨z0, z1⟩, zf⟩ := two_of HZ2.out
    go_wp2
    (try simp only [Exit.inBlock, Exit.then])
    refine bodyPost_ret (v := .tuple #[.agg #[.int .i64 q1, .int .i64 q2], .int .i64 le]) ?_ rfl ⟨rfl, ?_⟩
    · rw [results_cell_tmp rfl]
      go_simp
    · have hs1 := HB2.out.size
      repeat (first | exact HB2.out | refine Below.setCell ?_ (by simp) _ | refine Below.alloc ?_ (by simp; omega) _)
end Go.Proofs.YtacghcoikekfeaaGreat
