/-
  sextonref11.find: what it answers of a right table.
-/
import Derived.Test.YtacghcoikekfeaaGreatSp17
import Derived.Test.YtacghcoikekfeaaGreatSRef1
import Derived.Test.YtacghcoikekfeaaGreatFRefC
namespace Go.Proofs.YtacghcoikekfeaaGreat
open Go.ChangeShapes Go.WideShapes Go.ChangeAt Go.RowKit Go.Deep It
set_option maxRecDepth 100000
theorem setE {w : World} {A : Nat} {x : Ent} (h : w.heap[A]? = some BZE) : ((((w.setCell ⟨A, 0, none⟩ (.string x.1)).setCell ⟨A, 1, none⟩ (.int .i64 x.2.1)).setCell ⟨A, 2, none⟩ (.int .i64 x.2.2.1)).setCell ⟨A, 3, none⟩ (.int .i64 x.2.2.2)).heap[A]? = some (BE x) := by
  simp [World.setCell, Array.getElem?_modify, h]
set_option maxHeartbeats 2000000 in
theorem rlook_any {S : Nat → Prop} (v : Value) (L : List Rw) (a b : Int) (s : ByteArray) (w : World) (hv : TabAt S w v L) (hok : Sp.okN L) (hs : s.size ≤ maxLen) (hr : It.right (pl L) = true) :
    Calls Tryz.prog 44 #[v, .agg #[.int .i64 a, .int .i64 b], .string s] w fun e w' => e = .returned (.tuple #[.agg #[.int .i64 (Sp.lookH (pl L) a b s).1, .int .i64 (Sp.lookH (pl L) a b s).2], .int .i64 (Sp.lookErr (pl L) a b s)]) ∧ Below w.heap.size w w' := by
  obtain ⟨W, hW⟩ : ∃ W, W = (w.alloc (BH a b)).alloc (BH 0 0) := ⟨_, rfl⟩
  have HB0 : Hid (Below w.heap.size w W) := by show Below w.heap.size w W; rw [hW]; exact ((Below.refl _ w).alloc (Nat.le_refl _) _).alloc (by simp) _
  have HA0 : Hid (W.heap[w.heap.size]? = some (BH a b) ∧ W.heap[w.heap.size + 1]? = some (BH 0 0)) := by
    rw [hW]
    refine ⟨(Below.heap_alloc _ _ _ (by simp)).trans (heap_alloc_new _ _), ?_⟩
    have := heap_alloc_new (w.alloc (BH a b)) (BH 0 0)
    rwa [show (w.alloc (BH a b)).heap.size = w.heap.size + 1 by simp] at this
  have hws : w.heap.size + 1 < W.heap.size := by rw [hW]; simp
  have HV : Hid (TabAt S W v L) := hv.up HB0.out
  obtain ⟨⟨a0, a1⟩, _⟩ := two_of HA0.out.1
  obtain ⟨ao, cap, rfl, hm, hx⟩ := hv.open
  have HSM : Hid (s.size ≤ maxLen) := hs
  clear hv hs
  obtain ⟨nm, hnm⟩ : ∃ nm, names (pl L) a b = nm := ⟨_, rfl⟩
  have HNM : Hid (names (pl L) a b = nm) := hnm
  cases nm
  · have hf : findErr (pl L) a b = 401 := by unfold findErr; rw [if_pos hr, hnm]; rfl
    have hd : Sp.dirErr (pl L) a b = 401 := by unfold Sp.dirErr; rw [hf]; rfl
    rw [show Sp.lookErr (pl L) a b s = 401 by unfold Sp.lookErr; rw [hd]; rfl, show Sp.lookH (pl L) a b s = (0, 0) by unfold Sp.lookH; rw [hd]; rfl]
    clear hf hd hnm hr hok hx
    go_enter Tryz.func44, Tryz.ntmps44
    go_wp2_with fail
    rw [← hW]
    refine (rnames_any _ L a b _ HV.out).mono ?_
    rintro e w1 ⟨rfl, hb1⟩
    rw [HNM.out]
    have HB1 : Hid (Below w.heap.size w w1) := HB0.out.trans (hb1.mono HB0.out.size)
    have HA1 : Hid (w1.heap[w.heap.size]? = some (BH a b) ∧ w1.heap[w.heap.size + 1]? = some (BH 0 0)) := ⟨(hb1.block _ (by omega)).trans HA0.out.1, (hb1.block _ hws).trans HA0.out.2⟩
    have hws1 : w.heap.size + 1 < w1.heap.size := (Array.getElem?_eq_some_iff.1 HA1.out.2).1
    have hws0 : w.heap.size < w1.heap.size := by omega
    clear hb1 hW a0 a1 HV HA0
    obtain ⟨⟨a0, a1⟩, af⟩ := two_of HA1.out.1
    obtain ⟨⟨z0, z1⟩, zf⟩ := two_of HA1.out.2
    go_wp2
    (try simp only [Exit.inBlock, Exit.then])
    refine bodyPost_ret (v := .tuple #[.agg #[.int .i64 0, .int .i64 0], .int .i64 401]) ?_ rfl ⟨rfl, ?_⟩
    · rw [results_cell_tmp rfl]
      go_simp
    · have hs1 := HB1.out.size
      repeat (first | exact HB1.out | refine Below.setCell ?_ (by simp) _ | refine Below.alloc ?_ (by simp; omega) _)
  · have hf : findErr (pl L) a b = 0 := by unfold findErr; rw [if_pos hr, hnm]; rfl
    obtain ⟨k, x0, rfl, hx0, hg0, hk0, hi0, -⟩ := Sp.find_get hf
    obtain ⟨x, hxk, rfl⟩ := Sp.pl_some hx0
    obtain ⟨⟨bb, off, rfl, hB, hc8⟩, hgd⟩ := hx k x hxk
    have HX8 : Hid (∀ V, Below w.heap.size w V → eight V bb (off + k * 8) x) := fun V h => hc8.below h hB
    have HVX : Hid (∀ V, Below w.heap.size w V → AtW EE V (.slice x.ep x.en x.ec) x.i.ents) := fun V h => (hgd.2.1.up h).wide
    have HOK : Hid (∀ e ∈ x.i.ents, e.1.size ≤ maxLen) := hok x (List.mem_of_getElem? hxk)
    have hkl : (k : Int) < (L.length : Int) := by have := (List.getElem?_eq_some_iff.1 hxk).1; omega
    by_cases hk2 : x.i.kind = 2
    · have hd := Sp.dirErr_hit hf (by rw [hi0]; exact hk2)
      rw [hi0] at hd
      have hkd : (x.i.kind != 2) = false := by simp [hk2]
      obtain ⟨xx, hxx⟩ : ∃ xx, Fo.found x.i.ents x.i.next s = xx := ⟨_, rfl⟩
      obtain ⟨fe, hfe⟩ : ∃ fe, Fo.findErr x.i.ents x.i.next s = fe := ⟨_, rfl⟩
      have HF : Hid (Fo.found x.i.ents x.i.next s = xx ∧ Fo.findErr x.i.ents x.i.next s = fe) := ⟨hxx, hfe⟩
      rw [show Sp.lookErr (pl L) k b s = fe by unfold Sp.lookErr; rw [if_pos hd.1, hd.2.1, hd.2.2, hfe], show Sp.lookH (pl L) k b s = xx.2.2 by unfold Sp.lookH; rw [if_pos hd.1, hd.2.1, hd.2.2, hxx]]
      clear hf hd hnm hr hok hx hx0 hg0 hk0 hi0 hxk hc8 hgd hxx hfe hk2
      go_enter Tryz.func44, Tryz.ntmps44
      go_wp2_with fail
      rw [← hW]
      refine (rnames_any _ L k b _ HV.out).mono ?_
      rintro e w1 ⟨rfl, hb1⟩
      rw [HNM.out]
      have HB1 : Hid (Below w.heap.size w w1) := HB0.out.trans (hb1.mono HB0.out.size)
      have HA1 : Hid (w1.heap[w.heap.size]? = some (BH k b) ∧ w1.heap[w.heap.size + 1]? = some (BH 0 0)) := ⟨(hb1.block _ (by omega)).trans HA0.out.1, (hb1.block _ hws).trans HA0.out.2⟩
      have hws1 : w.heap.size + 1 < w1.heap.size := (Array.getElem?_eq_some_iff.1 HA1.out.2).1
      have hws0 : w.heap.size < w1.heap.size := by omega
      clear hb1 hW a0 a1 HV HA0
      obtain ⟨⟨a0, a1⟩, af⟩ := two_of HA1.out.1
      have hbw1 : bb < w1.heap.size := Nat.lt_of_lt_of_le hB HB1.out.size
      have HSG : Hid (∀ V : World, Below w1.heap.size w1 V → V.cell? ⟨w.heap.size, 0, none⟩ = some (.int .i64 k) ∧ V.cell? ⟨bb, off + k * 8 + 6, none⟩ = some (.slice x.ep x.en x.ec) ∧ V.cell? ⟨bb, off + k * 8 + 7, none⟩ = some (.int .i64 x.i.next)) := fun V h => by
        obtain ⟨⟨a0, a1⟩, _⟩ := two_of HA1.out.1
        obtain ⟨r0, r1, r2, r3, r4, r5, r6, r7⟩ := HX8.out _ (HB1.out.trans (h.mono HB1.out.size))
        exact ⟨cell_step a0 h, r6, r7⟩
      have HCF : Hid (∀ V : World, Below w1.heap.size w1 V → Calls Tryz.prog 79 #[.slice x.ep x.en x.ec, .int .i64 x.i.next, .string s] V fun e w' => e = .returned (.tuple #[VE xx, .int .i64 fe]) ∧ Below V.heap.size V w') := fun V h => by
        rw [← HF.out.1, ← HF.out.2]
        exact frfind_any _ x.i.ents x.i.next s V (HVX.out _ (HB1.out.trans (h.mono HB1.out.size))) HOK.out HSM.out
      obtain ⟨r0, r1, r2, r3, r4, r5, r6, r7⟩ := HX8.out _ HB1.out
      go_wp2_with fail
      clear r0 r1 r2 r3 r4 r5 r6 r7 a0 a1 af
      go_region_held3 (fun V => V.cell? ⟨w.heap.size, 0, none⟩ = some (.int .i64 k) ∧ V.cell? ⟨bb, off + k * 8 + 6, none⟩ = some (.slice x.ep x.en x.ec) ∧ V.cell? ⟨bb, off + k * 8 + 7, none⟩ = some (.int .i64 x.i.next)) (first | exact HSG.out _ (by (repeat (first | with_reducible assumption | exact Below.refl _ _ | refine bel_drew ?_ | refine Below.setCell ?_ (by first | exact Nat.le_refl _ | assumption) _ | refine Below.alloc ?_ (by first | exact Nat.le_refl _ | assumption) _)))) (first
        | (go_at_call 79; refine (HCF.out _ (by (repeat (first | with_reducible assumption | exact Below.refl _ _ | refine bel_drew ?_ | refine Below.setCell ?_ (by first | exact Nat.le_refl _ | assumption) _ | refine Below.alloc ?_ (by first | exact Nat.le_refl _ | assumption) _)))).mono ?_; rintro e w3 ⟨rfl, hb3⟩; (first | (have hz3 : w3.heap[w1.heap.size]? = some BZE := (hb3.block _ (by simp)).trans (heap_alloc_new w1.drew BZE); have hb33 : Below w1.heap.size w1 w3 := ((bel_drew (Below.refl _ _)).alloc (Nat.le_refl _) BZE).trans (hb3.mono (by simp)); have hl3 := (Array.getElem?_eq_some_iff.1 hz3).1; obtain ⟨⟨f0, f1, f2, f3⟩, ff⟩ := four_of (x := (⟨#[]⟩, 0, 0, 0)) hz3) | (have hz3 : w3.heap[w1.heap.size]? = some BZE := (hb3.block _ (by simp)).trans (heap_alloc_new w1 BZE); have hb33 : Below w1.heap.size w1 w3 := ((Below.refl _ _).alloc (Nat.le_refl _) BZE).trans ((undrew hb3).mono (by simp)); have hl3 := (Array.getElem?_eq_some_iff.1 hz3).1; obtain ⟨⟨f0, f1, f2, f3⟩, ff⟩ := four_of (x := (⟨#[]⟩, 0, 0, 0)) hz3) | (have hb33 : Below w1.heap.size w1 w3 := undrew hb3)); have hs3 : w1.heap.size ≤ w3.heap.size := hb33.size; have h31 : w.heap.size + 1 < w3.heap.size := Nat.lt_of_lt_of_le hws1 hs3; have hz1 : w3.heap[w.heap.size + 1]? = some (BH 0 0) := (hb33.block _ hws1).trans HA1.out.2; obtain ⟨⟨z0, z1⟩, zf⟩ := two_of hz1; have hne3 : w1.heap.size ≠ w.heap.size + 1 := by omega))
      all_goals first
          | (obtain ⟨W5, hW5⟩ : ∃ W5, W5 = w3.alloc (BE xx) := ⟨_, rfl⟩
             rw [← hW5]
             obtain ⟨b9, hb9⟩ : ∃ b9, b9 = w3.heap.size := ⟨_, rfl⟩
             have HX5 : Hid (W5.heap[b9]? = some (BE xx)) := by rw [hW5, hb9]; exact heap_alloc_new _ _
             have HBW : Hid (Below w1.heap.size w1 W5) := by rw [hW5]; exact hb33.alloc hs3 _
             rw [← hb9]
             clear hb9 hW5 z0 z1 zf)
          | (obtain ⟨W5, hW5⟩ : ∃ W5, W5 = (((w3.setCell ⟨w1.heap.size, 0, none⟩ (.string xx.1)).setCell ⟨w1.heap.size, 1, none⟩ (.int .i64 xx.2.1)).setCell ⟨w1.heap.size, 2, none⟩ (.int .i64 xx.2.2.1)).setCell ⟨w1.heap.size, 3, none⟩ (.int .i64 xx.2.2.2) := ⟨_, rfl⟩
             rw [← hW5]
             obtain ⟨b9, hb9⟩ : ∃ b9, b9 = w1.heap.size := ⟨_, rfl⟩
             have HX5 : Hid (W5.heap[b9]? = some (BE xx)) := by rw [hW5, hb9]; exact setE hz3
             have HBW : Hid (Below w1.heap.size w1 W5) := by
               rw [hW5]
               exact Below.setCell (p := ⟨w1.heap.size, 3, none⟩) (Below.setCell (p := ⟨w1.heap.size, 2, none⟩) (Below.setCell (p := ⟨w1.heap.size, 1, none⟩) (Below.setCell (p := ⟨w1.heap.size, 0, none⟩) hb33 (Nat.le_refl _) _) (Nat.le_refl _) _) (Nat.le_refl _) _) (Nat.le_refl _) _
             rw [← hb9]
             clear hb9 hW5 z0 z1 zf f0 f1 f2 f3 ff)
      all_goals
        have HB5 : Hid (Below w.heap.size w W5) := HB1.out.trans (HBW.out.mono HB1.out.size)
        have HZ5 : Hid (W5.heap[w.heap.size + 1]? = some (BH 0 0)) := (HBW.out.block _ hws1).trans HA1.out.2
        have hl5 := (Array.getElem?_eq_some_iff.1 HZ5.out).1
        obtain ⟨⟨y0, y1, y2, y3⟩, yf⟩ := four_of HX5.out
        obtain ⟨⟨z0, z1⟩, zf⟩ := two_of HZ5.out
        clear hb3 hb33 hz1 HSG HCF
        (try simp only [Exit.then])
        go_wp2
        (try simp only [Exit.then])
        refine bodyPost_ret (v := .tuple #[.agg #[.int .i64 xx.2.2.1, .int .i64 xx.2.2.2], .int .i64 fe]) ?_ rfl ⟨rfl, ?_⟩
        · rw [results_cell_tmp rfl]
          go_simp
        · repeat (first | exact HB5.out | refine bel_drew ?_ | refine Below.setCell ?_ (by simp) _)
    · have hd := (Sp.dirErr_file hf (by rw [hi0]; exact hk2)).1
      have hkd : (x.i.kind != 2) = true := by simpa using hk2
      rw [show Sp.lookErr (pl L) k b s = 404 by unfold Sp.lookErr; rw [hd]; rfl, show Sp.lookH (pl L) k b s = (0, 0) by unfold Sp.lookH; rw [hd]; rfl]
      clear hf hd hnm hr hok hx hx0 hg0 hk0 hi0 hxk hc8 hgd hk2
      go_enter Tryz.func44, Tryz.ntmps44
      go_wp2_with fail
      rw [← hW]
      refine (rnames_any _ L k b _ HV.out).mono ?_
      rintro e w1 ⟨rfl, hb1⟩
      rw [HNM.out]
      have HB1 : Hid (Below w.heap.size w w1) := HB0.out.trans (hb1.mono HB0.out.size)
      have HA1 : Hid (w1.heap[w.heap.size]? = some (BH k b) ∧ w1.heap[w.heap.size + 1]? = some (BH 0 0)) := ⟨(hb1.block _ (by omega)).trans HA0.out.1, (hb1.block _ hws).trans HA0.out.2⟩
      have hws1 : w.heap.size + 1 < w1.heap.size := (Array.getElem?_eq_some_iff.1 HA1.out.2).1
      have hws0 : w.heap.size < w1.heap.size := by omega
      clear hb1 hW a0 a1 HV HA0
      obtain ⟨⟨a0, a1⟩, af⟩ := two_of HA1.out.1
      have hbw1 : bb < w1.heap.size := Nat.lt_of_lt_of_le hB HB1.out.size
      obtain ⟨r0, r1, r2, r3, r4, r5, r6, r7⟩ := HX8.out _ HB1.out
      obtain ⟨⟨z0, z1⟩, zf⟩ := two_of HA1.out.2
      go_wp2
      (try simp only [Exit.inBlock, Exit.then])
      refine bodyPost_ret (v := .tuple #[.agg #[.int .i64 0, .int .i64 0], .int .i64 404]) ?_ rfl ⟨rfl, ?_⟩
      · rw [results_cell_tmp rfl]
        go_simp
      · have hs1 := HB1.out.size
        repeat (first | exact HB1.out | refine Below.setCell ?_ (by simp) _ | refine Below.alloc ?_ (by simp; omega) _)
end Go.Proofs.YtacghcoikekfeaaGreat
