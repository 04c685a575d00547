/-
  space.folderOf, find, refuseName: what they answer.
-/
import Derived.Test.YtacghcoikekfeaaGreatSp2
import Derived.Test.YtacghcoikekfeaaGreatFRem
import Derived.Test.YtacghcoikekfeaaGreatSpF
namespace Go.Proofs.YtacghcoikekfeaaGreat
open Go.ChangeShapes Go.WideShapes Go.ChangeAt Go.RowKit Go.Deep It
set_option maxRecDepth 100000
namespace Sp
def dirErr (L : List Ino) (a b : Int) : Int := if findErr L a b = 0 then (if (findI L a b).kind = 2 then 0 else 404) else findErr L a b
def dirEnts (L : List Ino) (a b : Int) : List Ent := if dirErr L a b = 0 then (findI L a b).ents else []
def dirNext (L : List Ino) (a b : Int) : Int := if dirErr L a b = 0 then (findI L a b).next else 0
theorem dirErr_find {L : List Ino} {a b e : Int} (h : findErr L a b = e) (he : e ≠ 0) : dirErr L a b = e ∧ dirEnts L a b = [] ∧ dirNext L a b = 0 := by
  have : dirErr L a b = e := by unfold dirErr; rw [if_neg (by rw [h]; exact he), h]
  exact ⟨this, by unfold dirEnts; rw [if_neg (by rw [this]; exact he)], by unfold dirNext; rw [if_neg (by rw [this]; exact he)]⟩
theorem dirErr_file {L : List Ino} {a b : Int} (h : findErr L a b = 0) (hk : (findI L a b).kind ≠ 2) : dirErr L a b = 404 ∧ dirEnts L a b = [] ∧ dirNext L a b = 0 := by
  have : dirErr L a b = 404 := by unfold dirErr; rw [if_pos h, if_neg hk]
  exact ⟨this, by unfold dirEnts; rw [if_neg (by rw [this]; decide)], by unfold dirNext; rw [if_neg (by rw [this]; decide)]⟩
theorem dirErr_hit {L : List Ino} {a b : Int} (h : findErr L a b = 0) (hk : (findI L a b).kind = 2) : dirErr L a b = 0 ∧ dirEnts L a b = (findI L a b).ents ∧ dirNext L a b = (findI L a b).next := by
  have : dirErr L a b = 0 := by unfold dirErr; rw [if_pos h, if_pos hk]
  exact ⟨this, by unfold dirEnts; rw [if_pos this], by unfold dirNext; rw [if_pos this]⟩
theorem okN_find {L : List Rw} (h : okN L) (a b : Int) : ∀ e ∈ (findI (pl L) a b).ents, e.1.size ≤ maxLen := by
  unfold findI
  split
  · cases hx : (pl L)[a.toNat]? with
    | none => intro e he; simp [zeroI] at he
    | some x =>
      rw [List.getElem?_map] at hx
      cases hy : L[a.toNat]? with
      | none => rw [hy] at hx; cases hx
      | some y =>
        rw [hy] at hx
        obtain rfl : y.i = x := by simpa using hx
        exact h y (List.mem_of_getElem? hy)
  · intro e he
    simp [zeroI] at he
theorem okN_dir {L : List Rw} (h : okN L) (a b : Int) : ∀ e ∈ dirEnts (pl L) a b, e.1.size ≤ maxLen := by
  unfold dirEnts
  split
  · exact okN_find h a b
  · intro e he
    cases he
noncomputable def lookErr (L : List Ino) (a b : Int) (s : ByteArray) : Int := if dirErr L a b = 0 then Fo.findErr (dirEnts L a b) (dirNext L a b) s else dirErr L a b
noncomputable def lookH (L : List Ino) (a b : Int) (s : ByteArray) : Int × Int := if dirErr L a b = 0 then (Fo.found (dirEnts L a b) (dirNext L a b) s).2.2 else (0, 0)
noncomputable def nameErr (L : List Ino) (a b : Int) (s : ByteArray) : Int := if lookErr L a b s = 0 then 403 else if lookErr L a b s = 402 then 0 else lookErr L a b s
end Sp
theorem set_two {α : Type} {E : Enc α} {B C D : Nat} {w : World} {v : Value} {l : List α} (h : At E (fun b => B ≤ b) w v l) (hC : C < B) (hD : D < B) (j k : Nat) (y z : Value) : AtW E ((w.setCell ⟨C, j, none⟩ y).setCell ⟨D, k, none⟩ z) v l := by
  refine At.wide (S := fun b => B ≤ b) ?_
  refine At.setCell (At.setCell h ?_ _) ?_ _
  · simp; omega
  · simp; omega
theorem two_ofD {w : World} {B : Nat} {v : Value} {n : Int} (h : w.heap[B]? = some (.cells #[v, .int .i64 n] 100)) : (w.cell? ⟨B, 0, none⟩ = some v ∧ w.cell? ⟨B, 1, none⟩ = some (.int .i64 n)) ∧ ∀ j, w.frozen? ⟨B, j, none⟩ = false := by
  refine ⟨⟨?_, ?_⟩, fun j => ?_⟩ <;> simp only [World.cell?, World.frozen?, h] <;> rfl
set_option maxHeartbeats 2000000 in
theorem folderOf_any {S : Nat → Prop} (v : Value) (L : List Rw) (a b : Int) (w : World) (hv : TabAt S w v L) :
    Calls Tryz.prog 77 #[v, .agg #[.int .i64 a, .int .i64 b]] w fun e w' => ∃ u, e = .returned (.tuple #[VD u (Sp.dirNext (pl L) a b), .int .i64 (Sp.dirErr (pl L) a b)]) ∧ AtW EE w' u (Sp.dirEnts (pl L) a b) ∧ Below w.heap.size w w' := by
  obtain ⟨W, hW⟩ : ∃ W, W = (w.alloc (BH a b)).alloc BZD := ⟨_, rfl⟩
  have HB0 : Hid (Below w.heap.size w W) := by show Below w.heap.size w W; rw [hW]; exact ((Below.refl _ w).alloc (Nat.le_refl _) _).alloc (by simp) _
  have HA0 : Hid (W.heap[w.heap.size]? = some (BH a b) ∧ W.heap[w.heap.size + 1]? = some BZD) := by
    rw [hW]
    refine ⟨(Below.heap_alloc _ _ _ (by simp)).trans (heap_alloc_new _ _), ?_⟩
    have := heap_alloc_new (w.alloc (BH a b)) BZD
    rwa [show (w.alloc (BH a b)).heap.size = w.heap.size + 1 by simp] at this
  have hws : w.heap.size + 1 < W.heap.size := by rw [hW]; simp
  have HV : Hid (TabAt S W v L) := hv.up HB0.out
  obtain ⟨⟨a0, a1⟩, _⟩ := two_of HA0.out.1
  obtain ⟨ao, cap, rfl, _, _⟩ := hv.open
  clear hv
  obtain ⟨fe, hfe⟩ : ∃ fe, findErr (pl L) a b = fe := ⟨_, rfl⟩
  have HFE : Hid (findErr (pl L) a b = fe) := hfe
  by_cases hz : fe = 0
  · subst hz
    by_cases hk : (findI (pl L) a b).kind = 2
    · obtain ⟨d0, d1, d2⟩ := Sp.dirErr_hit hfe hk
      have HK : Hid ((findI (pl L) a b).kind = 2) := hk
      rw [d0, d1, d2]
      clear d0 d1 d2 hk hfe
      go_enter Tryz.func77, Tryz.ntmps77
      go_wp2_with fail
      rw [← hW]
      refine (findOwn_any _ L a b _ HV.out).mono ?_
      rintro e w1 ⟨x, rfl, hxi, hxg, hb1⟩
      rw [HFE.out]
      have HXI : Hid (x.i = findI (pl L) a b) := hxi
      have HK2 : Hid (x.i.kind = 2) := by show x.i.kind = 2; rw [hxi]; exact HK.out
      have HB1 : Hid (Below w.heap.size w w1) := HB0.out.trans (hb1.mono HB0.out.size)
      have HA1 : Hid (w1.heap[w.heap.size + 1]? = some BZD) := (hb1.block _ (by omega)).trans HA0.out.2
      have hws1 : w.heap.size + 1 < w1.heap.size := by have := hb1.size; omega
      obtain ⟨⟨q0, q1, q2, q3, q4, q5, q6, q7⟩, -⟩ := eight_of (heap_alloc_new w1 (BIx x))
      have HE : Hid (At EE (fun b => W.heap.size ≤ b) w1 (.slice x.ep x.en x.ec) x.i.ents) := hxg.2.1
      clear hxg hb1 hW a0 a1 HV HA0 hxi HK
      go_wp2_with fail
      refine (isDir_any x _).mono ?_
      rintro e w2 ⟨rfl, hw2⟩
      rw [HK2.out]
      have hb2 : Below w1.heap.size w1 w2 := by rw [hw2]; exact ((Below.refl _ _).alloc (Nat.le_refl _) _).alloc (by simp) _
      have hb2' : Below (w1.alloc (BIx x)).heap.size (w1.alloc (BIx x)) w2 := by rw [hw2]; exact (Below.refl _ _).alloc (Nat.le_refl _) _
      obtain ⟨r0, r1, r2, r3, r4, r5, r6, r7⟩ : eight w2 w1.heap.size 0 x := eight_block (b := w1.heap.size) (o := 0) ⟨q0, q1, q2, q3, q4, q5, q6, q7⟩ hb2' (by simp)
      simp only [Nat.zero_add] at r1 r2 r3 r4 r5 r6 r7
      have HB2 : Hid (Below w.heap.size w w2) := HB1.out.trans (hb2.mono HB1.out.size)
      have HA2 : Hid (w2.heap[w.heap.size + 1]? = some BZD) := (hb2.block _ (by omega)).trans HA1.out
      have HE2 : Hid (At EE (fun b => W.heap.size ≤ b) w2 (.slice x.ep x.en x.ec) x.i.ents) := HE.out.up hb2
      have hws2 : w.heap.size + 1 < w2.heap.size := by have := hb2.size; omega
      clear q0 q1 q2 q3 q4 q5 q6 q7 hw2 hb2 hb2' HE HA1 HB1
      go_wp2_with fail
      refine (dirOf_any x _).mono ?_
      rintro e w3 ⟨rfl, hb3⟩
      have HB3 : Hid (Below w.heap.size w w3) := HB2.out.trans (hb3.mono HB2.out.size)
      have HA3 : Hid (w3.heap[w.heap.size + 1]? = some BZD) := (hb3.block _ hws2).trans HA2.out
      have HE3 : Hid (At EE (fun b => W.heap.size ≤ b) w3 (.slice x.ep x.en x.ec) x.i.ents) := HE2.out.up hb3
      obtain ⟨⟨z0, z1⟩, zf⟩ := two_ofD HA3.out
      clear r0 r1 r2 r3 r4 r5 r6 r7 hb3 HE2 HA2 HB2
      go_wp2
      (try simp only [Exit.inBlock, Exit.then])
      refine bodyPost_ret (v := .tuple #[VD (.slice x.ep x.en x.ec) x.i.next, .int .i64 0]) ?_ rfl ⟨_, by rw [← HXI.out], ?_, ?_⟩
      · rw [results_cell_tmp rfl]
        go_simp
      · rw [← HXI.out]
        exact set_two HE3.out (by omega) (by omega) _ _ _ _
      · repeat (refine Below.setCell ?_ (by simp) _)
        exact HB3.out
    · obtain ⟨d0, d1, d2⟩ := Sp.dirErr_file hfe hk
      have HK : Hid ((findI (pl L) a b).kind ≠ 2) := hk
      rw [d0, d1, d2]
      clear d0 d1 d2 hk hfe
      go_enter Tryz.func77, Tryz.ntmps77
      go_wp2_with fail
      rw [← hW]
      refine (findOwn_any _ L a b _ HV.out).mono ?_
      rintro e w1 ⟨x, rfl, hxi, hxg, hb1⟩
      rw [HFE.out]
      have HK2 : Hid ((x.i.kind == 2) = false) := by show (x.i.kind == 2) = false; rw [hxi]; exact beq_eq_false_iff_ne.2 HK.out
      have HB1 : Hid (Below w.heap.size w w1) := HB0.out.trans (hb1.mono HB0.out.size)
      have HA1 : Hid (w1.heap[w.heap.size + 1]? = some BZD) := (hb1.block _ (by omega)).trans HA0.out.2
      have hws1 : w.heap.size + 1 < w1.heap.size := by have := hb1.size; omega
      obtain ⟨⟨q0, q1, q2, q3, q4, q5, q6, q7⟩, -⟩ := eight_of (heap_alloc_new w1 (BIx x))
      clear hxg hb1 hW a0 a1 HV HA0 hxi HK
      go_wp2_with fail
      refine (isDir_any x _).mono ?_
      rintro e w2 ⟨rfl, hw2⟩
      rw [HK2.out]
      have hb2 : Below w1.heap.size w1 w2 := by rw [hw2]; exact ((Below.refl _ _).alloc (Nat.le_refl _) _).alloc (by simp) _
      have HB3 : Hid (Below w.heap.size w w2) := HB1.out.trans (hb2.mono HB1.out.size)
      have HA2 : Hid (w2.heap[w.heap.size + 1]? = some BZD) := (hb2.block _ (by omega)).trans HA1.out
      obtain ⟨⟨z0, z1⟩, zf⟩ := two_ofD HA2.out
      clear q0 q1 q2 q3 q4 q5 q6 q7 hw2 hb2 HA1 HB1
      go_wp2
      (try simp only [Exit.inBlock, Exit.then])
      refine bodyPost_ret (v := .tuple #[VD (.slice none 0 0) 0, .int .i64 404]) ?_ rfl ⟨_, rfl, At.nil, ?_⟩
      · rw [results_cell_tmp rfl]
        go_simp
      · repeat (refine Below.setCell ?_ (by simp) _)
        exact HB3.out
  · obtain ⟨d0, d1, d2⟩ := Sp.dirErr_find hfe hz
    rw [d0, d1, d2]
    have hz' : (fe != 0) = true := by simpa using hz
    clear d0 d1 d2 hfe hz
    go_enter Tryz.func77, Tryz.ntmps77
    go_wp2_with fail
    rw [← hW]
    refine (findOwn_any _ L a b _ HV.out).mono ?_
    rintro e w1 ⟨x, rfl, hxi, hxg, hb1⟩
    rw [HFE.out]
    have HB1 : Hid (Below w.heap.size w w1) := HB0.out.trans (hb1.mono HB0.out.size)
    have HA1 : Hid (w1.heap[w.heap.size + 1]? = some BZD) := (hb1.block _ (by omega)).trans HA0.out.2
    have hws1 : w.heap.size + 1 < w1.heap.size := by have := hb1.size; omega
    obtain ⟨⟨z0, z1⟩, zf⟩ := two_ofD HA1.out
    clear hxg hb1 hW a0 a1 HV HA0 hxi
    go_wp2
    (try simp only [Exit.inBlock, Exit.then])
    refine bodyPost_ret (v := .tuple #[VD (.slice none 0 0) 0, .int .i64 fe]) ?_ rfl ⟨_, rfl, At.nil, ?_⟩
    · rw [results_cell_tmp rfl]
      go_simp
    · have hs1 := HB1.out.size
      repeat (first | exact HB1.out | refine Below.setCell ?_ (by simp) _ | refine Below.alloc ?_ (by simp; omega) _)
set_option maxHeartbeats 2000000 in
theorem sfind_any {S : Nat → Prop} (v : Value) (L : List Rw) (a b : Int) (s : ByteArray) (w : World) (hv : TabAt S w v L) (hok : Sp.okN L) (hs : s.size ≤ maxLen) :
    Calls Tryz.prog 43 #[v, .agg #[.int .i64 a, .int .i64 b], .string s] w fun e w' => e = .returned (.tuple #[.agg #[.int .i64 (Sp.lookH (pl L) a b s).1, .int .i64 (Sp.lookH (pl L) a b s).2], .int .i64 (Sp.lookErr (pl L) a b s)]) ∧ Below w.heap.size w w' := by
  obtain ⟨W, hW⟩ : ∃ W, W = (w.alloc (BH a b)).alloc (BH 0 0) := ⟨_, rfl⟩
  have HB0 : Hid (Below w.heap.size w W) := by show Below w.heap.size w W; rw [hW]; exact ((Below.refl _ w).alloc (Nat.le_refl _) _).alloc (by simp) _
  have HA0 : Hid (W.heap[w.heap.size]? = some (BH a b) ∧ W.heap[w.heap.size + 1]? = some (BH 0 0)) := by
    rw [hW]
    refine ⟨(Below.heap_alloc _ _ _ (by simp)).trans (heap_alloc_new _ _), ?_⟩
    have := heap_alloc_new (w.alloc (BH a b)) (BH 0 0)
    rwa [show (w.alloc (BH a b)).heap.size = w.heap.size + 1 by simp] at this
  have hws : w.heap.size + 1 < W.heap.size := by rw [hW]; simp
  have HV : Hid (TabAt S W v L) := hv.up HB0.out
  obtain ⟨⟨a0, a1⟩, _⟩ := two_of HA0.out.1
  obtain ⟨ao, cap, rfl, _, _⟩ := hv.open
  have HOK : Hid (∀ e ∈ Sp.dirEnts (pl L) a b, e.1.size ≤ maxLen) := Sp.okN_dir hok a b
  have HSM : Hid (s.size ≤ maxLen) := hs
  clear hv hok hs
  obtain ⟨de, hde⟩ : ∃ de, Sp.dirErr (pl L) a b = de := ⟨_, rfl⟩
  have HDE : Hid (Sp.dirErr (pl L) a b = de) := hde
  by_cases hz : de = 0
  · subst hz
    obtain ⟨es, hes⟩ : ∃ es, Sp.dirEnts (pl L) a b = es := ⟨_, rfl⟩
    obtain ⟨nx, hnx⟩ : ∃ nx, Sp.dirNext (pl L) a b = nx := ⟨_, rfl⟩
    have HES : Hid (Sp.dirEnts (pl L) a b = es ∧ Sp.dirNext (pl L) a b = nx) := ⟨hes, hnx⟩
    rw [hes] at HOK
    obtain ⟨xx, hxx⟩ : ∃ xx, Fo.found es nx s = xx := ⟨_, rfl⟩
    obtain ⟨fe, hfe⟩ : ∃ fe, Fo.findErr es nx s = fe := ⟨_, rfl⟩
    have HF : Hid (Fo.found es nx s = xx ∧ Fo.findErr es nx s = fe) := ⟨hxx, hfe⟩
    rw [show Sp.lookErr (pl L) a b s = fe by unfold Sp.lookErr; rw [if_pos hde, hes, hnx, hfe], show Sp.lookH (pl L) a b s = xx.2.2 by unfold Sp.lookH; rw [if_pos hde, hes, hnx, hxx]]
    clear hes hnx hxx hfe hde
    go_enter Tryz.func43, Tryz.ntmps43
    go_wp2_with fail
    rw [← hW]
    refine (folderOf_any _ L a b _ HV.out).mono ?_
    rintro e w1 ⟨u, rfl, hu, hb1⟩
    rw [HDE.out, HES.out.2]
    rw [HES.out.1] at hu
    obtain ⟨uo, uc, rfl, _, _⟩ := hu.open
    generalize es.length = un at hu ⊢
    have HB1 : Hid (Below w.heap.size w w1) := HB0.out.trans (hb1.mono HB0.out.size)
    have HA1 : Hid (w1.heap[w.heap.size + 1]? = some (BH 0 0)) := (hb1.block _ (by omega)).trans HA0.out.2
    have hws1 : w.heap.size + 1 < w1.heap.size := by have := hb1.size; omega
    have HB2 : Hid (Below w1.heap.size w1 (w1.alloc (BD (.slice uo un uc) nx))) := (Below.refl _ _).alloc (Nat.le_refl _) _
    have HU : Hid (AtW EE (w1.alloc (BD (.slice uo un uc) nx)) (.slice uo un uc) es) := hu.up HB2.out
    obtain ⟨e0, e1⟩ := box_cells w1 (.slice uo un uc) nx
    clear hb1 hW a0 a1 HV HA0 hu
    go_wp2_with fail
    refine (ffind_any _ es nx s _ HU.out HOK.out HSM.out).mono ?_
    rintro e w2 ⟨rfl, hb2⟩
    rw [HF.out.1, HF.out.2]
    have HB3 : Hid (Below w.heap.size w w2) := (HB1.out.trans (HB2.out.mono HB1.out.size)).trans (hb2.mono (by simp; omega))
    have HA2 : Hid (w2.heap[w.heap.size + 1]? = some (BH 0 0)) := (hb2.block _ (by simp; omega)).trans ((HB2.out.block _ (by omega)).trans HA1.out)
    have hws2 : w.heap.size + 1 < w2.heap.size := by have := hb2.size; simp at this; omega
    obtain ⟨⟨z0, z1⟩, zf⟩ := two_of HA2.out
    obtain ⟨⟨y0, y1, y2, y3⟩, -⟩ := four_of (heap_alloc_new w2 (BE xx))
    clear hb2 e0 e1 HU
    go_wp2
    (try simp only [Exit.inBlock, Exit.then])
    refine bodyPost_ret (v := .tuple #[.agg #[.int .i64 xx.2.2.1, .int .i64 xx.2.2.2], .int .i64 fe]) ?_ rfl ⟨rfl, ?_⟩
    · rw [results_cell_tmp rfl]
      go_simp
    · have hs1 := HB3.out.size
      repeat (first | exact HB3.out | refine Below.setCell ?_ (by simp) _ | refine Below.alloc ?_ (by simp; omega) _)
  · rw [show Sp.lookErr (pl L) a b s = de by unfold Sp.lookErr; rw [if_neg (by rw [hde]; exact hz), hde], show Sp.lookH (pl L) a b s = (0, 0) by unfold Sp.lookH; rw [if_neg (by rw [hde]; exact hz)]]
    have hz' : (de != 0) = true := by simpa using hz
    clear hz hde
    go_enter Tryz.func43, Tryz.ntmps43
    go_wp2_with fail
    rw [← hW]
    refine (folderOf_any _ L a b _ HV.out).mono ?_
    rintro e w1 ⟨u, rfl, hu, hb1⟩
    rw [HDE.out]
    obtain ⟨nx, hnx⟩ : ∃ nx, Sp.dirNext (pl L) a b = nx := ⟨_, rfl⟩
    rw [hnx]
    obtain ⟨uo, uc, rfl, _, _⟩ := hu.open
    generalize (Sp.dirEnts (pl L) a b).length = un
    have HB1 : Hid (Below w.heap.size w w1) := HB0.out.trans (hb1.mono HB0.out.size)
    have HA1 : Hid (w1.heap[w.heap.size + 1]? = some (BH 0 0)) := (hb1.block _ (by omega)).trans HA0.out.2
    have hws1 : w.heap.size + 1 < w1.heap.size := by have := hb1.size; omega
    obtain ⟨⟨z0, z1⟩, zf⟩ := two_of HA1.out
    clear hb1 hW a0 a1 HV HA0 hu hnx
    go_wp2
    (try simp only [Exit.inBlock, Exit.then])
    refine bodyPost_ret (v := .tuple #[.agg #[.int .i64 0, .int .i64 0], .int .i64 de]) ?_ rfl ⟨rfl, ?_⟩
    · rw [results_cell_tmp rfl]
      go_simp
    · have hs1 := HB1.out.size
      repeat (first | exact HB1.out | refine Below.setCell ?_ (by simp) _ | refine Below.alloc ?_ (by simp; omega) _)
end Go.Proofs.YtacghcoikekfeaaGreat
