/-
  itab.Find: what it answers lies in blocks of its own.
-/
import Derived.Test.YtacghcoikekfeaaGreatMake
namespace Go.Proofs.YtacghcoikekfeaaGreat
open Go.ChangeShapes Go.WideShapes Go.ChangeAt Go.RowKit Go.Deep It
set_option maxRecDepth 100000
set_option maxHeartbeats 2000000 in
theorem findOwn_any {S : Nat → Prop} (v : Value) (L : List Rw) (a b : Int) (w : World) (hv : TabAt S w v L) :
    Calls Tryz.prog 90 #[v, .agg #[.int .i64 a, .int .i64 b]] w fun e w' => ∃ x : Rw, e = .returned (.tuple #[VI x, .int .i64 (findErr (pl L) a b)]) ∧ x.i = findI (pl L) a b ∧ Good (fun b => w.heap.size ≤ b) w' x ∧ Below w.heap.size w w' := by
  obtain ⟨W, hW⟩ : ∃ W, W = (w.alloc (BH a b)).alloc BZ := ⟨_, rfl⟩
  have HB0 : Hid (Below w.heap.size w W) := by show Below w.heap.size w W; rw [hW]; exact ((Below.refl _ w).alloc (Nat.le_refl _) _).alloc (by simp) _
  have HA0 : Hid (W.heap[w.heap.size]? = some (BH a b) ∧ W.heap[w.heap.size + 1]? = some BZ) := by
    rw [hW]
    refine ⟨(Below.heap_alloc _ _ _ (by simp)).trans (heap_alloc_new _ _), ?_⟩
    have := heap_alloc_new (w.alloc (BH a b)) BZ
    rwa [show (w.alloc (BH a b)).heap.size = w.heap.size + 1 by simp] at this
  have hws : w.heap.size + 1 < W.heap.size := by rw [hW]; simp
  have HV : Hid (TabAt S W v L) := hv.up HB0.out
  obtain ⟨⟨a0, a1⟩, _⟩ := two_of HA0.out.1
  obtain ⟨ao, cap, rfl, _, _⟩ := hv.open
  clear hv
  obtain ⟨fe, hfe⟩ : ∃ fe, findErr (pl L) a b = fe := ⟨_, rfl⟩
  have HFE : Hid (findErr (pl L) a b = fe) := hfe
  rw [hfe]
  by_cases hz : fe = 0
  · rw [hz] at hfe HFE
    subst hz
    obtain ⟨hr, hn⟩ := It.right_of_find hfe
    obtain ⟨k, x, rfl, hxk, hg, hk, hkl⟩ := It.named hn
    have HX : Hid (findI (pl L) k b = x.i) := by
      show findI (pl L) k b = x.i
      unfold findI
      rw [if_pos hfe, show ((k : Int)).toNat = k from by omega, It.pl_get hxk]
      rfl
    obtain ⟨m, hm⟩ : ∃ m, L.length = m := ⟨_, rfl⟩
    have hkI : (k : Int) < (m : Int) := by omega
    rw [hm] at HV ⊢
    have HXK : Hid (L[k]? = some x) := hxk
    clear hfe hr hn hxk hg hk hkl hm
    go_enter Tryz.func90, Tryz.ntmps90
    go_wp2_with fail
    rw [← hW]
    refine (refuse_any _ L k b _ HV.out).mono ?_
    rintro e w1 ⟨rfl, hb1⟩
    rw [HFE.out]
    have HB1 : Hid (Below w.heap.size w w1) := HB0.out.trans (hb1.mono HB0.out.size)
    have HA1 : Hid (w1.heap[w.heap.size]? = some (BH k b) ∧ w1.heap[w.heap.size + 1]? = some BZ) := ⟨(hb1.block _ (by omega)).trans HA0.out.1, (hb1.block _ (by omega)).trans HA0.out.2⟩
    have HV1 : Hid (TabAt S w1 (.slice ao m cap) L) := HV.out.up hb1
    have hws1 : w.heap.size + 1 < w1.heap.size := by have := hb1.size; omega
    obtain ⟨⟨e0, e1⟩, _⟩ := two_of HA1.out.1
    obtain ⟨ao', cap', hv', _, hx'⟩ := HV1.out.open
    obtain ⟨⟨bb, off, hbo, hB, hc⟩, hgx⟩ := hx' k x HXK.out
    simp only [Value.slice.injEq] at hv'
    obtain ⟨rfl, _, rfl⟩ := hv'
    subst hbo
    obtain ⟨c0, c1, c2, c3, c4, c5, c6, c7⟩ := hc
    have HGX : Hid (Good S w1 x) := hgx
    clear hb1 hx' hgx hW a0 a1 HV HA0
    go_wp2_with fail
    refine (own_any x _ HGX.out).mono ?_
    rintro e w2 ⟨y, rfl, hyi, hyg, hb2⟩
    have HB2 : Hid (Below w.heap.size w w2) := HB1.out.trans (hb2.mono HB1.out.size)
    have HA2 : Hid (w2.heap[w.heap.size + 1]? = some BZ) := (hb2.block _ hws1).trans HA1.out.2
    have HY : Hid (y.i = findI (pl L) k b ∧ Good (fun b => w1.heap.size ≤ b) w2 y) := ⟨hyi.trans HX.out.symm, hyg⟩
    have HS1 : Hid (w.heap.size + 1 < w1.heap.size) := hws1
    obtain ⟨⟨z0, z1, z2, z3, z4, z5, z6, z7⟩, zf⟩ := eight_of HA2.out
    obtain ⟨⟨g, kk, l, s, t, rs, es, nx⟩, rp, rn, rc, ep, en, ec⟩ := y
    clear hyi hyg hb2 e0 e1 c0 c1 c2 c3 c4 c5 c6 c7
    go_wp2
    (try simp only [Exit.inBlock, Exit.then])
    refine bodyPost_ret (v := .tuple #[.agg #[.int .i64 g, .int .i64 kk, .int .i64 l, .int .i64 s, .int .i64 t, .slice rp rn rc, .slice ep en ec, .int .i64 nx], .int .i64 0]) ?_ rfl ⟨⟨⟨g, kk, l, s, t, rs, es, nx⟩, rp, rn, rc, ep, en, ec⟩, rfl, HY.out.1, ?_, ?_⟩
    · rw [results_cell_tmp rfl]
      go_simp
    · have hS := HS1.out
      refine ⟨?_, ?_, HY.out.2.2.2⟩
      · refine At.imp (S := fun b => w1.heap.size ≤ b) ?_ (fun b hb _ => by show w.heap.size ≤ b; have hb : w1.heap.size ≤ b := hb; omega)
        repeat (refine At.setCell ?_ (by simp; omega) _)
        exact HY.out.2.1
      · refine At.imp (S := fun b => w1.heap.size ≤ b) ?_ (fun b hb _ => by show w.heap.size ≤ b; have hb : w1.heap.size ≤ b := hb; omega)
        repeat (refine At.setCell ?_ (by simp; omega) _)
        exact HY.out.2.2.1
    · repeat (refine Below.setCell ?_ (by simp) _)
      exact HB2.out
  · have HX : Hid (findI (pl L) a b = zeroI) := by
      show findI (pl L) a b = zeroI
      unfold findI
      rw [if_neg (by rw [hfe]; exact hz)]
    have hz' : (fe == 0) = false := by simp [hz]
    clear hz hfe
    go_enter Tryz.func90, Tryz.ntmps90
    go_wp2_with fail
    rw [← hW]
    refine (refuse_any _ L a b _ HV.out).mono ?_
    rintro e w1 ⟨rfl, hb1⟩
    rw [HFE.out]
    have HB1 : Hid (Below w.heap.size w w1) := HB0.out.trans (hb1.mono HB0.out.size)
    have HA1 : Hid (w1.heap[w.heap.size + 1]? = some BZ) := (hb1.block _ (by omega)).trans HA0.out.2
    obtain ⟨⟨z0, z1, z2, z3, z4, z5, z6, z7⟩, zf⟩ := eight_of HA1.out
    clear hb1 hW a0 a1
    go_wp2
    (try simp only [Exit.inBlock, Exit.then])
    refine bodyPost_ret (v := .tuple #[.agg #[.int .i64 0, .int .i64 0, .int .i64 0, .int .i64 0, .int .i64 0, .slice none 0 0, .slice none 0 0, .int .i64 0], .int .i64 fe]) ?_ rfl ⟨zeroR, rfl, HX.out.symm, good_zero _ _, ?_⟩
    · rw [results_cell_tmp rfl]
      go_simp
    · repeat (refine Below.setCell ?_ (by simp) _)
      exact HB1.out

end Go.Proofs.YtacghcoikekfeaaGreat
