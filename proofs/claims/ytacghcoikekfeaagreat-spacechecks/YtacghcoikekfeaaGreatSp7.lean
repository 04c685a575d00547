/-
  space.add: what it answers.
-/
import Derived.Test.YtacghcoikekfeaaGreatSp6
import Derived.Deep.RegionHeld3
namespace Go.Proofs.YtacghcoikekfeaaGreat
open Go.ChangeShapes Go.WideShapes Go.ChangeAt Go.RowKit Go.Deep It
set_option maxRecDepth 100000
theorem bel_drew {B : Nat} {w w' : World} (h : Below B w w') : Below B w w'.drew := ⟨h.os, h.tape, h.output, h.size, h.block⟩
theorem bel_undrew {B : Nat} {w w' : World} (h : Below B w.drew w') : Below B w w' := ⟨h.os, h.tape, h.output, h.size, h.block⟩
theorem setD {w : World} {A : Nat} {v u : Value} {b d : Int} (h : w.heap[A]? = some (BD v b)) : ((w.setCell ⟨A, 0, none⟩ u).setCell ⟨A, 1, none⟩ (.int .i64 d)).heap[A]? = some (BD u d) := by
  have h1 : (w.setCell ⟨A, 0, none⟩ u).heap[A]? = some (BD u b) := by
    rw [setCell_eq_setRow w A 0 _ _ _ _ h, setRow_heap w A _ _ _ _ h]
    rfl
  rw [setCell_eq_setRow _ A 1 _ _ _ _ h1, setRow_heap _ A _ _ _ _ h1]
  rfl
set_option maxHeartbeats 4000000 in
theorem sadd_any {S : Nat → Prop} (v : Value) (L : List Rw) (k : Nat) (b no gen st : Int) (s : ByteArray) (x : Rw) (w : World) (hv : TabAt S w v L) (hk : L[k]? = some x) (hn : ∀ e ∈ x.i.ents, e.1.size ≤ maxLen) (hs : s.size ≤ maxLen)
    (he : Fo.addErr x.i.ents x.i.next s no gen = 0 → x.i.ents.length + 1 ≤ 3518437208883 ∧ At.growErr x.i.kind x.i.links x.i.size x.i.stamp (x.i.ents.length + 1) st = 0) :
    Calls Tryz.prog 47 #[v, .agg #[.int .i64 k, .int .i64 b], .string s, .agg #[.int .i64 no, .int .i64 gen], .int .i64 st] w fun e w' => ∃ u L', e = .returned (.tuple #[u, .int .i64 (Fo.addErr x.i.ents x.i.next s no gen)]) ∧ TabAt (fun b => w.heap.size ≤ b) w' u L' ∧
      pl L' = (if Fo.addErr x.i.ents x.i.next s no gen = 0 then putTab (pl L) k b (Sp.filled x.i (x.i.ents ++ [(s, x.i.next + 1, no, gen)]) (x.i.next + 1) st) else []) ∧ Below w.heap.size w w' := by
  have HV : Hid (TabAt S w v L) := hv
  have HK : Hid (L[k]? = some x) := hk
  obtain ⟨ao, cap, rfl, hm, hx⟩ := hv.open
  obtain ⟨⟨bb, off, rfl, hB, c0, c1, c2, c3, c4, c5, c6, c7⟩, hg⟩ := hx k x hk
  have hkl : (k : Int) < (L.length : Int) := by have := (List.getElem?_eq_some_iff.1 hk).1; omega
  have HG : Hid (Good S w x) := hg
  have HN : Hid ((∀ e ∈ x.i.ents, e.1.size ≤ maxLen) ∧ s.size ≤ maxLen) := ⟨hn, hs⟩
  obtain ⟨ae, hae⟩ : ∃ ae, Fo.addErr x.i.ents x.i.next s no gen = ae := ⟨_, rfl⟩
  obtain ⟨an, han⟩ : ∃ an, (if ae = 0 then x.i.next + 1 else 0) = an := ⟨_, rfl⟩
  obtain ⟨al, hal⟩ : ∃ al, (if ae = 0 then x.i.ents ++ [(s, x.i.next + 1, no, gen)] else []) = al := ⟨_, rfl⟩
  have HAE : Hid ((if ae = 0 then x.i.next + 1 else 0) = an ∧ (if ae = 0 then x.i.ents ++ [(s, x.i.next + 1, no, gen)] else []) = al) := ⟨han, hal⟩
  have HE : Hid (ae = 0 → x.i.ents.length + 1 ≤ 3518437208883 ∧ At.growErr x.i.kind x.i.links x.i.size x.i.stamp (x.i.ents.length + 1) st = 0) := fun h => he (hae.trans h)
  have HADD : Hid (∀ V, AtW EE V (.slice x.ep x.en x.ec) x.i.ents → Calls Tryz.prog 84 #[VD (.slice x.ep x.en x.ec) x.i.next, .string s, VHf no gen] V fun e w' => ∃ p k q, e = .returned (.tuple #[VD (.slice p k q) an, .int .i64 ae]) ∧ At EE (fun b => V.heap.size ≤ b) w' (.slice p k q) al ∧ Below V.heap.size V w') := fun V h => (add_any _ x.i.ents x.i.next s no gen V h hn hs).mono fun e w' ⟨u, he, hu, hb⟩ => by
    rw [hae, han] at he
    rw [hae, hal] at hu
    obtain ⟨p, q, rfl, -, -⟩ := hu.open
    exact ⟨_, _, _, he, hu, hb⟩
  rw [hae]
  obtain ⟨W2, hW2⟩ : ∃ W2, W2 = (w.alloc (BH k b)).alloc (BH no gen) := ⟨_, rfl⟩
  have HB2 : Hid (Below w.heap.size w W2) := by show Below w.heap.size w W2; rw [hW2]; exact ((Below.refl _ w).alloc (Nat.le_refl _) _).alloc (by simp) _
  have hwW : w.heap.size + 1 < W2.heap.size := by rw [hW2]; simp
  have HA2 : Hid (W2.heap[w.heap.size]? = some (BH k b) ∧ W2.heap[w.heap.size + 1]? = some (BH no gen)) := by
    rw [hW2]
    refine ⟨(Below.heap_alloc _ _ _ (by simp)).trans (heap_alloc_new _ _), ?_⟩
    have := heap_alloc_new (w.alloc (BH k b)) (BH no gen)
    rwa [show (w.alloc (BH k b)).heap.size = w.heap.size + 1 by simp] at this
  have HAD : Hid (∀ w' : World, Below W2.heap.size W2 w' → w'.cell? ⟨w.heap.size, 0, none⟩ = some (.int .i64 k) ∧ w'.cell? ⟨w.heap.size, 1, none⟩ = some (.int .i64 b) ∧ w'.cell? ⟨w.heap.size + 1, 0, none⟩ = some (.int .i64 no) ∧ w'.cell? ⟨w.heap.size + 1, 1, none⟩ = some (.int .i64 gen) ∧ w'.cell? ⟨bb, off + k * 8, none⟩ = some (.int .i64 x.i.gen) ∧ w'.cell? ⟨bb, off + k * 8 + 1, none⟩ = some (.int .i64 x.i.kind) ∧ w'.cell? ⟨bb, off + k * 8 + 2, none⟩ = some (.int .i64 x.i.links) ∧ w'.cell? ⟨bb, off + k * 8 + 3, none⟩ = some (.int .i64 x.i.size) ∧ w'.cell? ⟨bb, off + k * 8 + 4, none⟩ = some (.int .i64 x.i.stamp) ∧ w'.cell? ⟨bb, off + k * 8 + 5, none⟩ = some (.slice x.rp x.rn x.rc) ∧ w'.cell? ⟨bb, off + k * 8 + 6, none⟩ = some (.slice x.ep x.en x.ec) ∧ w'.cell? ⟨bb, off + k * 8 + 7, none⟩ = some (.int .i64 x.i.next)) := by
    intro w' hb
    obtain ⟨⟨a0, a1⟩, _⟩ := two_of HA2.out.1
    obtain ⟨⟨g0, g1⟩, _⟩ := two_of HA2.out.2
    obtain ⟨r0, r1, r2, r3, r4, r5, r6, r7⟩ := (show eight w bb (off + k * 8) x from ⟨c0, c1, c2, c3, c4, c5, c6, c7⟩).below (HB2.out.trans (hb.mono HB2.out.size)) hB
    exact ⟨cell_step a0 hb, cell_step a1 hb, cell_step g0 hb, cell_step g1 hb, r0, r1, r2, r3, r4, r5, r6, r7⟩
  have HVG : Hid (∀ V, Below W2.heap.size W2 V → AtW EE V (.slice x.ep x.en x.ec) x.i.ents) := fun V h => ((HG.out.up HB2.out).up h).2.1.wide
  have HTG : Hid (∀ V, Below W2.heap.size W2 V → TabAt S V (.slice (some ⟨bb, off, none⟩) L.length cap) L) := fun V h => (HV.out.up HB2.out).up h
  unfold maxLen at hm
  obtain ⟨m, hm'⟩ : ∃ m, L.length = m := ⟨_, rfl⟩
  rw [hm'] at HV HTG hm hkl ⊢
  clear hv hx hg he hk hm' hn hs hae han hal c0 c1 c2 c3 c4 c5 c6 c7
  have HB01 : Hid (Below W2.heap.size W2 (W2.alloc BZD)) := (Below.refl _ _).alloc (Nat.le_refl _) _
  have HB02 : Hid (Below W2.heap.size W2 (W2.drew.alloc BZD)) := (bel_drew (Below.refl _ _)).alloc (Nat.le_refl _) _
  go_enter Tryz.func47, Tryz.ntmps47
  go_wp2_with fail
  rw [← hW2]
  clear hW2
  go_region_held3 (fun w' => w'.cell? ⟨w.heap.size, 0, none⟩ = some (.int .i64 k) ∧ w'.cell? ⟨w.heap.size, 1, none⟩ = some (.int .i64 b) ∧ w'.cell? ⟨w.heap.size + 1, 0, none⟩ = some (.int .i64 no) ∧ w'.cell? ⟨w.heap.size + 1, 1, none⟩ = some (.int .i64 gen) ∧ w'.cell? ⟨bb, off + k * 8, none⟩ = some (.int .i64 x.i.gen) ∧ w'.cell? ⟨bb, off + k * 8 + 1, none⟩ = some (.int .i64 x.i.kind) ∧ w'.cell? ⟨bb, off + k * 8 + 2, none⟩ = some (.int .i64 x.i.links) ∧ w'.cell? ⟨bb, off + k * 8 + 3, none⟩ = some (.int .i64 x.i.size) ∧ w'.cell? ⟨bb, off + k * 8 + 4, none⟩ = some (.int .i64 x.i.stamp) ∧ w'.cell? ⟨bb, off + k * 8 + 5, none⟩ = some (.slice x.rp x.rn x.rc) ∧ w'.cell? ⟨bb, off + k * 8 + 6, none⟩ = some (.slice x.ep x.en x.ec) ∧ w'.cell? ⟨bb, off + k * 8 + 7, none⟩ = some (.int .i64 x.i.next)) (first | exact HAD.out _ (by (repeat (first | assumption | exact Below.refl _ _ | refine bel_drew ?_ | refine Below.setCell ?_ (by first | exact Nat.le_refl _ | assumption) _ | refine Below.alloc ?_ (by first | exact Nat.le_refl _ | assumption) _)))) (first
    | (go_at_call 67; refine (dirOf_any x _).mono ?_; rintro e w3 ⟨rfl, hb3⟩; have hb33 : Below W2.heap.size W2 w3 := (by first | exact undrew hb3 | exact HB02.out.trans (hb3.mono HB02.out.size) | exact HB01.out.trans ((undrew hb3).mono HB01.out.size)); have h3s : W2.heap.size ≤ w3.heap.size := hb33.size; try (have hz3 : w3.heap[W2.heap.size]? = some BZD := (by first | exact (hb3.block _ (by simp)).trans (heap_alloc_new W2.drew BZD) | exact (hb3.block _ (by show _ < Array.size _; simp)).trans (heap_alloc_new W2 BZD))); clear hb3)
    | (go_at_call 84; refine (HADD.out _ (by first | exact HVG.out _ hb33 | exact HVG.out _ (hb33.alloc hb33.size _))).mono ?_; rintro e w4 ⟨p4, k4, c4, rfl, hu4, hb4⟩; have hb44 : Below W2.heap.size W2 w4 := (by first | exact hb33.trans (hb4.mono hb33.size) | exact (hb33.alloc hb33.size _).trans (hb4.mono (hb33.alloc hb33.size _).size)); have h4s : W2.heap.size ≤ w4.heap.size := hb44.size; (first
      | (have hz4 : w4.heap[w3.heap.size]? = some BZD := (hb4.block _ (by simp)).trans (heap_alloc_new w3 BZD); obtain ⟨⟨f0, f1⟩, ff⟩ := two_ofD (v := .slice none 0 0) (n := 0) hz4; have HZ4 : Hid (w4.heap[w3.heap.size]? = some BZD) := hz4; have HU4 : Hid (At EE (fun b => ¬ w3.heap.size = b) w4 (.slice p4 k4 c4) al) := hu4.imp (fun b hb _ => by simp at hb; omega); clear hz4)
      | (have hz4 : w4.heap[W2.heap.size]? = some BZD := (hb4.block _ (Array.getElem?_eq_some_iff.1 hz3).1).trans hz3; obtain ⟨⟨f0, f1⟩, ff⟩ := two_ofD (v := .slice none 0 0) (n := 0) hz4; have HZ4 : Hid (w4.heap[W2.heap.size]? = some BZD) := hz4; have HU4 : Hid (At EE (fun b => ¬ W2.heap.size = b) w4 (.slice p4 k4 c4) al) := hu4.imp (fun b hb _ => by have h3l := (Array.getElem?_eq_some_iff.1 hz3).1; omega); clear hz4 hz3)
      | (have HU4 : Hid (AtW EE w4 (.slice p4 k4 c4) al) := hu4.wide)); clear hu4 hb4))
  all_goals first
      | (obtain ⟨W5, hW5⟩ : ∃ W5, W5 = w4.alloc (BD (.slice p4 k4 c4) an) := ⟨_, rfl⟩
         rw [← hW5]
         have HBW : Hid (Below W2.heap.size W2 W5) := by rw [hW5]; exact hb44.alloc hb44.size _
         have HU5 : Hid (AtW EE W5 (.slice p4 k4 c4) al) := by rw [hW5]; exact HU4.out.up ((Below.refl _ _).alloc (Nat.le_refl _) _)
         obtain ⟨b9, hb9⟩ : ∃ b9, b9 = w4.heap.size := ⟨_, rfl⟩
         have HX5 : Hid (W5.heap[b9]? = some (BD (.slice p4 k4 c4) an)) := by rw [hW5, hb9]; exact heap_alloc_new _ _
         rw [← hb9]
         clear hb9 hW5)
      | (obtain ⟨W5, hW5⟩ : ∃ W5, W5 = (w4.setCell ⟨w3.heap.size, 0, none⟩ (.slice p4 k4 c4)).setCell ⟨w3.heap.size, 1, none⟩ (.int .i64 an) := ⟨_, rfl⟩
         rw [← hW5]
         have HBW : Hid (Below W2.heap.size W2 W5) := by rw [hW5]; exact Below.setCell (Below.setCell hb44 (show W2.heap.size ≤ w3.heap.size from h3s) _) (show W2.heap.size ≤ w3.heap.size from h3s) _
         have HU5 : Hid (AtW EE W5 (.slice p4 k4 c4) al) := by rw [hW5]; exact (At.setCell (At.setCell HU4.out (by simp) _) (by simp) _).wide
         obtain ⟨b9, hb9⟩ : ∃ b9, b9 = w3.heap.size := ⟨_, rfl⟩
         have HX5 : Hid (W5.heap[b9]? = some (BD (.slice p4 k4 c4) an)) := by rw [hW5, hb9]; exact setD HZ4.out
         rw [← hb9]
         clear hb9 hW5 f0 f1 ff)
      | (obtain ⟨W5, hW5⟩ : ∃ W5, W5 = (w4.setCell ⟨W2.heap.size, 0, none⟩ (.slice p4 k4 c4)).setCell ⟨W2.heap.size, 1, none⟩ (.int .i64 an) := ⟨_, rfl⟩
         rw [← hW5]
         have HBW : Hid (Below W2.heap.size W2 W5) := by rw [hW5]; exact Below.setCell (Below.setCell hb44 (show W2.heap.size ≤ W2.heap.size from Nat.le_refl _) _) (show W2.heap.size ≤ W2.heap.size from Nat.le_refl _) _
         have HU5 : Hid (AtW EE W5 (.slice p4 k4 c4) al) := by rw [hW5]; exact (At.setCell (At.setCell HU4.out (by simp) _) (by simp) _).wide
         obtain ⟨b9, hb9⟩ : ∃ b9, b9 = W2.heap.size := ⟨_, rfl⟩
         have HX5 : Hid (W5.heap[b9]? = some (BD (.slice p4 k4 c4) an)) := by rw [hW5, hb9]; exact setD HZ4.out
         rw [← hb9]
         clear hb9 hW5 f0 f1 ff)
  all_goals
    obtain ⟨q0, q1, -, -, -, -, -, -, -, -, -, -⟩ := HAD.out _ HBW.out
    obtain ⟨⟨e0, e1⟩, -⟩ := two_ofD HX5.out
    have HB5 : Hid (Below w.heap.size w W5) := HB2.out.trans (HBW.out.mono HB2.out.size)
    by_cases hz : ae = 0
    · subst hz
      have HX : Hid (x.i.next + 1 = an ∧ x.i.ents ++ [(s, x.i.next + 1, no, gen)] = al) := by
        have h := HAE.out
        rw [if_pos rfl, if_pos rfl] at h
        exact h
      have HLN : Hid (al.length ≤ 3518437208883 ∧ At.growErr x.i.kind x.i.links x.i.size x.i.stamp al.length st = 0) := by
        rw [← HX.out.2]
        show _ ∧ _
        have h := HE.out rfl
        simpa using h
      go_wp2_with fail
      refine (sput_any _ L k b an st x p4 k4 c4 al _ (HTG.out _ HBW.out) HK.out HU5.out HLN.out.1 HLN.out.2).mono ?_
      rintro e w7 ⟨u, L', rfl, ht, hp, hb7⟩
      have HB7 : Hid (Below w.heap.size w w7) := HB5.out.trans (hb7.mono HB5.out.size)
      have HT : Hid (TabAt (fun b => w.heap.size ≤ b) w7 u L') := ⟨ht.1.imp fun _ h _ => Nat.le_trans HB5.out.size h, fun y hy => (ht.2 y hy).imp fun _ h _ => Nat.le_trans HB5.out.size h⟩
      have HP : Hid (pl L' = putTab (pl L) k b (Sp.filled x.i al an st)) := hp
      clear hb7 ht hp e0 e1 q0 q1
      go_wp2
      (try simp only [Exit.inBlock, Exit.then])
      refine bodyPost_ret (v := .tuple #[u, .int .i64 0]) (by simp [results, Tryz.results47, go_sem]) rfl ?_
      exact ⟨u, rfl, L', HT.out, by rw [HX.out.2, HX.out.1]; exact HP.out, HB7.out⟩
    · have HZ : Hid (¬ ae = 0) := hz
      have hz' : (ae != 0) = true := by simpa using hz
      clear hz
      go_wp2
      (try simp only [Exit.inBlock, Exit.then])
      refine bodyPost_ret (v := .tuple #[.slice none 0 0, .int .i64 ae]) (by simp [results, Tryz.results47, go_sem]) rfl ?_
      exact ⟨_, rfl, [], tab_nil _ _, rfl, HB5.out⟩
end Go.Proofs.YtacghcoikekfeaaGreat
