/-
  sextonref11.add: what it answers.
-/
import Derived.Test.YtacghcoikekfeaaGreatSRef6
import Derived.Test.YtacghcoikekfeaaGreatFRefD
namespace Go.Proofs.YtacghcoikekfeaaGreat
open Go.ChangeShapes Go.WideShapes Go.ChangeAt Go.RowKit Go.Deep It
set_option maxRecDepth 100000
/-- A folder's entries, next number, size and stamp, written. -/
theorem Cp.four {T : Nat → Prop} {B : Nat} {w : World} {g n cap : Nat} {L : List Rw} (h : Cp T B w g n cap L) {k : Nat} {x : Rw} (hk : L[k]? = some x) {p : Option Addr} {m c : Nat} {es : List Ent} (hu : At EE (fun b => b ≠ g ∧ T b) w (.slice p m c) es) (hr : At ER (fun b => b ≠ g ∧ T b) w (.slice x.rp x.rn x.rc) x.i.runs) (ho : okI x.i) (hl : es.length ≤ 3518437208883) (hm : m = es.length) (nx st : Int) :
    ∃ L', Cp T B ((((w.setCell ⟨g, k * 8 + 6, none⟩ (.slice p m c)).setCell ⟨g, k * 8 + 7, none⟩ (.int .i64 nx)).setCell ⟨g, k * 8 + 3, none⟩ (.int .i64 m)).setCell ⟨g, k * 8 + 4, none⟩ (.int .i64 st)) g n cap L' ∧ pl L' = (pl L).set k (Sp.filled x.i es nx st) := by
  subst hm
  have hlt := (List.getElem?_eq_some_iff.1 hk).1
  let x1 : Rw := ⟨⟨x.i.gen, x.i.kind, x.i.links, x.i.size, x.i.stamp, x.i.runs, es, x.i.next⟩, x.rp, x.rn, x.rc, p, es.length, c⟩
  let x0 : Rw := ⟨⟨x.i.gen, x.i.kind, x.i.links, x.i.size, x.i.stamp, x.i.runs, es, nx⟩, x.rp, x.rn, x.rc, p, es.length, c⟩
  let x2 : Rw := ⟨⟨x.i.gen, x.i.kind, x.i.links, es.length, x.i.stamp, x.i.runs, es, nx⟩, x.rp, x.rn, x.rc, p, es.length, c⟩
  let x3 : Rw := ⟨Sp.filled x.i es nx st, x.rp, x.rn, x.rc, p, es.length, c⟩
  have e1 : Good (fun b => b ≠ g ∧ T b) w x1 := ⟨hr, hu, ho.1, ho.2.1, hl⟩
  have e0 : Good (fun b => b ≠ g ∧ T b) w x0 := ⟨hr, hu, ho.1, ho.2.1, hl⟩
  have e2 : Good (fun b => b ≠ g ∧ T b) w x2 := ⟨hr, hu, ho.1, ho.2.1, hl⟩
  have e3 : Good (fun b => b ≠ g ∧ T b) w x3 := ⟨hr, hu, ho.1, ho.2.1, hl⟩
  have h1 := h.put (k := k) (j := 6) (x' := x1) (u := .slice p es.length c) hk (by decide) rfl e1
  have h0 := h1.put (k := k) (j := 7) (x := x1) (x' := x0) (u := .int .i64 nx) (by rw [List.getElem?_set_self hlt]) (by decide) rfl (e0.setCell (p := ⟨g, k * 8 + 6, none⟩) (by simp) _)
  have h2 := h0.put (k := k) (j := 3) (x := x0) (x' := x2) (u := .int .i64 es.length) (by rw [List.getElem?_set_self (by simpa using hlt)]) (by decide) rfl ((e2.setCell (p := ⟨g, k * 8 + 6, none⟩) (by simp) _).setCell (p := ⟨g, k * 8 + 7, none⟩) (by simp) _)
  have h3 := h2.put (k := k) (j := 4) (x := x2) (x' := x3) (u := .int .i64 st) (by rw [List.getElem?_set_self (by simpa using hlt)]) (by decide) rfl (((e3.setCell (p := ⟨g, k * 8 + 6, none⟩) (by simp) _).setCell (p := ⟨g, k * 8 + 7, none⟩) (by simp) _).setCell (p := ⟨g, k * 8 + 3, none⟩) (by simp) _)
  refine ⟨_, h3, ?_⟩
  rw [List.set_set, List.set_set, List.set_set]
  show (L.set k x3).map Rw.i = _
  rw [List.map_set]
set_option maxHeartbeats 2000000 in
theorem rmore_any {S : Nat → Prop} (v : Value) (L : List Rw) (k : Nat) (no gen st : Int) (s : ByteArray) (x : Rw) (w : World) (hv : TabAt S w v L) (hk : L[k]? = some x) (hn : ∀ e ∈ x.i.ents, e.1.size ≤ maxLen) (hs : s.size ≤ maxLen) (hf : Fo.addErr x.i.ents x.i.next s no gen = 0) (hl : L.length ≤ 100000) (hle : x.i.ents.length ≤ 1000000) :
    Calls Tryz.prog 51 #[v, .int .i64 k, .string s, .agg #[.int .i64 no, .int .i64 gen], .int .i64 st] w fun e w' => ∃ g cap L', e = .returned (.tuple #[.slice (some ⟨g, 0, none⟩) L.length cap, .int .i64 0]) ∧ Cp (fun b => S b ∨ w.heap.size ≤ b) w.heap.size w' g L.length cap L' ∧ pl L' = (pl L).set k (Sp.filled x.i (x.i.ents ++ [(s, x.i.next + 1, no, gen)]) (x.i.next + 1) st) ∧ Below w.heap.size w w' := by
  have HV : Hid (TabAt S w v L) := hv
  obtain ⟨ao, cap, rfl, hm, hx⟩ := hv.open
  obtain ⟨⟨bb, off, rfl, hB, hc8⟩, hgd⟩ := hx k x hk
  have HX8 : Hid (∀ V, Below w.heap.size w V → eight V bb (off + k * 8) x) := fun V h => hc8.below h hB
  have HG : Hid (Good S w x) := hgd
  have HK : Hid (L[k]? = some x) := hk
  have hkl : (k : Int) < (L.length : Int) := by have := (List.getElem?_eq_some_iff.1 hk).1; omega
  obtain ⟨es, hes⟩ : ∃ es, x.i.ents ++ [(s, x.i.next + 1, no, gen)] = es := ⟨_, rfl⟩
  obtain ⟨nx, hnx⟩ : ∃ nx, x.i.next + 1 = nx := ⟨_, rfl⟩
  obtain ⟨ae, hae⟩ : ∃ ae : Int, ae = 0 := ⟨_, rfl⟩
  have HLN : Hid (L.length ≤ 100000) := hl
  have HLE : Hid (es.length ≤ 3518437208883) := by rw [← hes]; show (x.i.ents ++ _).length ≤ _; simp; omega
  have HCF : Hid (∀ V : World, Below w.heap.size w V → Calls Tryz.prog 88 #[.agg #[.slice x.ep x.en x.ec, .int .i64 x.i.next], .string s, .agg #[.int .i64 no, .int .i64 gen]] V fun e w' => ∃ p n c, e = .returned (.tuple #[.agg #[.slice p n c, .int .i64 nx], .int .i64 ae]) ∧ Hid (n = es.length) ∧ At EE (fun b => V.heap.size ≤ b) w' (.slice p n c) es ∧ Below V.heap.size V w') := fun V h => by
    refine (radd_any _ x.i.ents x.i.next s no gen V (hgd.up h).2.1.wide hn hs).mono ?_
    rintro e w' ⟨u, he, hu, hb⟩
    rw [hf, if_pos rfl, hnx] at he
    rw [hf, if_pos rfl, hes] at hu
    rw [hae]
    obtain ⟨p, c, rfl, -, -⟩ := hu.open
    exact ⟨p, _, c, he, rfl, hu, hb⟩
  rw [hes, hnx]
  subst hae
  obtain ⟨W, hW⟩ : ∃ W, W = w.alloc (BH no gen) := ⟨_, rfl⟩
  have HB0 : Hid (Below w.heap.size w W) := by show Below w.heap.size w W; rw [hW]; exact (Below.refl _ w).alloc (Nat.le_refl _) _
  have HA0 : Hid (W.heap[w.heap.size]? = some (BH no gen)) := by show W.heap[w.heap.size]? = _; rw [hW]; exact heap_alloc_new _ _
  have hws : w.heap.size < W.heap.size := by rw [hW]; simp
  have HSG : Hid (∀ V : World, Below W.heap.size W V → V.cell? ⟨bb, off + k * 8 + 6, none⟩ = some (.slice x.ep x.en x.ec) ∧ V.cell? ⟨bb, off + k * 8 + 7, none⟩ = some (.int .i64 x.i.next) ∧ V.cell? ⟨w.heap.size, 0, none⟩ = some (.int .i64 no) ∧ V.cell? ⟨w.heap.size, 1, none⟩ = some (.int .i64 gen)) := fun V h => by
    obtain ⟨r0, r1, r2, r3, r4, r5, r6, r7⟩ := HX8.out _ (HB0.out.trans (h.mono HB0.out.size))
    obtain ⟨⟨a0, a1⟩, _⟩ := two_of HA0.out
    exact ⟨r6, r7, cell_step a0 h, cell_step a1 h⟩
  have HCW : Hid (∀ V : World, Below W.heap.size W V → Calls Tryz.prog 88 #[.agg #[.slice x.ep x.en x.ec, .int .i64 x.i.next], .string s, .agg #[.int .i64 no, .int .i64 gen]] V fun e w' => ∃ p n c, e = .returned (.tuple #[.agg #[.slice p n c, .int .i64 nx], .int .i64 0]) ∧ Hid (n = es.length) ∧ At EE (fun b => V.heap.size ≤ b) w' (.slice p n c) es ∧ Below V.heap.size V w') := fun V h => HCF.out V (HB0.out.trans (h.mono HB0.out.size))
  clear hv hx hc8 hgd hk hn hs hf hes hnx hm HCF hl hle
  go_enter Tryz.func51, Tryz.ntmps51
  go_wp2_with fail
  rw [← hW]
  clear hW
  go_region_held3 (fun V => V.cell? ⟨bb, off + k * 8 + 6, none⟩ = some (.slice x.ep x.en x.ec) ∧ V.cell? ⟨bb, off + k * 8 + 7, none⟩ = some (.int .i64 x.i.next) ∧ V.cell? ⟨w.heap.size, 0, none⟩ = some (.int .i64 no) ∧ V.cell? ⟨w.heap.size, 1, none⟩ = some (.int .i64 gen)) (first | exact HSG.out _ (by (repeat (first | with_reducible assumption | exact Below.refl _ _ | refine bel_drew ?_ | refine Below.setCell ?_ (by first | exact Nat.le_refl _ | assumption) _ | refine Below.alloc ?_ (by first | exact Nat.le_refl _ | assumption) _)))) (first
    | (go_at_call 88; refine (HCW.out _ (by (repeat (first | with_reducible assumption | exact Below.refl _ _ | refine bel_drew ?_ | refine Below.setCell ?_ (by first | exact Nat.le_refl _ | assumption) _ | refine Below.alloc ?_ (by first | exact Nat.le_refl _ | assumption) _)))).mono ?_; rintro e w3 ⟨p3, n3, c3, rfl, hn3, hu3, hb3⟩; (first | (have hz3 : w3.heap[W.heap.size]? = some BZF := (hb3.block _ (by simp)).trans (heap_alloc_new W.drew BZF); have hb33 : Below W.heap.size W w3 := ((bel_drew (Below.refl _ _)).alloc (Nat.le_refl _) BZF).trans (hb3.mono (by simp)); have hl3 := (Array.getElem?_eq_some_iff.1 hz3).1; obtain ⟨⟨f0, f1⟩, ff⟩ := two_ofF (v := .slice none 0 0) (n := 0) hz3) | (have hz3 : w3.heap[W.heap.size]? = some BZF := (hb3.block _ (by simp)).trans (heap_alloc_new W BZF); have hb33 : Below W.heap.size W w3 := ((Below.refl _ _).alloc (Nat.le_refl _) BZF).trans ((undrew hb3).mono (by simp)); have hl3 := (Array.getElem?_eq_some_iff.1 hz3).1; obtain ⟨⟨f0, f1⟩, ff⟩ := two_ofF (v := .slice none 0 0) (n := 0) hz3) | (have hb33 : Below W.heap.size W w3 := undrew hb3)); have hs3 : W.heap.size ≤ w3.heap.size := hb33.size))
  all_goals first
      | (obtain ⟨W5, hW5⟩ : ∃ W5, W5 = w3.alloc (BF (.slice p3 n3 c3) nx) := ⟨_, rfl⟩
         rw [← hW5]
         obtain ⟨b9, hb9⟩ : ∃ b9, b9 = w3.heap.size := ⟨_, rfl⟩
         have HX5 : Hid (W5.heap[b9]? = some (BF (.slice p3 n3 c3) nx)) := by rw [hW5, hb9]; exact heap_alloc_new _ _
         have HBX : Hid (Below W.heap.size W W5) := by rw [hW5]; exact hb33.alloc hs3 _
         have HU5 : Hid (At EE (fun b => w.heap.size ≤ b) W5 (.slice p3 n3 c3) es) := by rw [hW5]; exact (hu3.up ((Below.refl _ _).alloc (Nat.le_refl _) _)).imp fun b hb _ => by first | exact hb | (simp at hb; omega)
         rw [← hb9]
         clear hb9 hW5)
      | (obtain ⟨W5, hW5⟩ : ∃ W5, W5 = (w3.setCell ⟨W.heap.size, 0, none⟩ (.slice p3 n3 c3)).setCell ⟨W.heap.size, 1, none⟩ (.int .i64 nx) := ⟨_, rfl⟩
         rw [← hW5]
         obtain ⟨b9, hb9⟩ : ∃ b9, b9 = W.heap.size := ⟨_, rfl⟩
         have HX5 : Hid (W5.heap[b9]? = some (BF (.slice p3 n3 c3) nx)) := by rw [hW5, hb9]; exact setF hz3
         have HBX : Hid (Below W.heap.size W W5) := by
           rw [hW5]
           exact Below.setCell (p := ⟨W.heap.size, 1, none⟩) (Below.setCell (p := ⟨W.heap.size, 0, none⟩) hb33 (Nat.le_refl _) _) (Nat.le_refl _) _
         have HU5 : Hid (At EE (fun b => w.heap.size ≤ b) W5 (.slice p3 n3 c3) es) := by
           rw [hW5]
           exact (At.setCell (S := fun b => w.heap.size ≤ b ∧ b ≠ W.heap.size) (At.setCell (hu3.imp fun b hb _ => by simp at hb; omega) (by simp) _) (by simp) _).imp fun b hb _ => hb.1
         rw [← hb9]
         clear hb9 hW5 f0 f1 ff)
  all_goals
    (try simp only [Exit.then])
    have HBW : Hid (Below w.heap.size w W5) := HB0.out.trans (HBX.out.mono HB0.out.size)
    have HBL : Hid (b9 < W5.heap.size) := (Array.getElem?_eq_some_iff.1 HX5.out).1
    have HN3 : Hid (n3 = es.length) := hn3.out
    clear hb3 hb33 hu3 HCW HSG hn3
    go_wp2_with fail
    refine (rcopied_any _ L _ (HV.out.up HBW.out) HLN.out).mono ?_
    rintro e w6 ⟨u6, rfl, hrow, hb6⟩
    obtain ⟨g, cap6, rfl, hBg, hcp⟩ := Cp.of (T := (fun b => S b ∨ w.heap.size ≤ b)) (HV.out.up HBW.out) (fun h => by have := HK.out; rw [h] at this; simp at this) hrow hb6 (fun b h => .inl h)
    have HB6 : Hid (Below w.heap.size w w6) := HBW.out.trans (hb6.mono HBW.out.size)
    have HX6 : Hid (w6.heap[b9]? = some (BF (.slice p3 n3 c3) nx)) := (hb6.block _ HBL.out).trans HX5.out
    have HU6 : Hid (At EE (fun b => b ≠ g ∧ (S b ∨ w.heap.size ≤ b)) w6 (.slice p3 n3 c3) es) := HU5.out.keep hb6.size fun b hb hl => ⟨hb6.block b hl, by omega, .inr hb⟩
    have HG6 : Hid (At ER (fun b => b ≠ g ∧ (S b ∨ w.heap.size ≤ b)) w6 (.slice x.rp x.rn x.rc) x.i.runs ∧ okI x.i) := ⟨(hcp.2 x (List.mem_of_getElem? HK.out)).1, HG.out.2.2⟩
    have HCP : Hid (Cp (fun b => S b ∨ w.heap.size ≤ b) W5.heap.size w6 g L.length cap6 L) := hcp
    have hbg : b9 ≠ g := by have := HBL.out; omega
    have hwg : w.heap.size ≤ g := Nat.le_trans HBW.out.size hBg
    obtain ⟨⟨t0, t1, t2, t3, t4, t5, t6, t7⟩, tf, tl, -, -⟩ := hcp.cells HK.out
    obtain ⟨⟨f0, f1⟩, ff⟩ := two_ofF HX6.out
    clear hb6 hcp hrow hBg
    go_wp2
    obtain ⟨L', hL', hp'⟩ := Cp.four HCP.out HK.out HU6.out HG6.out.1 HG6.out.2 HLE.out HN3.out nx st
    have hbl : Below w.heap.size w ((((w6.setCell ⟨g, k * 8 + 6, none⟩ (.slice p3 n3 c3)).setCell ⟨g, k * 8 + 7, none⟩ (.int .i64 nx)).setCell ⟨g, k * 8 + 3, none⟩ (.int .i64 n3)).setCell ⟨g, k * 8 + 4, none⟩ (.int .i64 st)) := Below.setCell (p := ⟨g, k * 8 + 4, none⟩) (Below.setCell (p := ⟨g, k * 8 + 3, none⟩) (Below.setCell (p := ⟨g, k * 8 + 7, none⟩) (Below.setCell (p := ⟨g, k * 8 + 6, none⟩) HB6.out hwg _) hwg _) hwg _) hwg _
    refine bodyPost_ret (v := .tuple #[.slice (some ⟨g, 0, none⟩) L.length cap6, .int .i64 0]) (by simp [results, Tryz.results51, go_sem]) rfl ⟨g, cap6, L', rfl, hL'.mono HBW.out.size, hp', hbl⟩
set_option maxHeartbeats 2000000 in
theorem rmore_no {S : Nat → Prop} (v : Value) (L : List Rw) (k : Nat) (no gen st : Int) (s : ByteArray) (x : Rw) (w : World) (hv : TabAt S w v L) (hk : L[k]? = some x) (hn : ∀ e ∈ x.i.ents, e.1.size ≤ maxLen) (hs : s.size ≤ maxLen) (hf : ¬ Fo.addErr x.i.ents x.i.next s no gen = 0) :
    Calls Tryz.prog 51 #[v, .int .i64 k, .string s, .agg #[.int .i64 no, .int .i64 gen], .int .i64 st] w fun e w' => e = .returned (.tuple #[.slice none 0 0, .int .i64 (Fo.addErr x.i.ents x.i.next s no gen)]) ∧ Below w.heap.size w w' := by
  have HV : Hid (TabAt S w v L) := hv
  obtain ⟨ao, cap, rfl, hm, hx⟩ := hv.open
  obtain ⟨⟨bb, off, rfl, hB, hc8⟩, hgd⟩ := hx k x hk
  have HX8 : Hid (∀ V, Below w.heap.size w V → eight V bb (off + k * 8) x) := fun V h => hc8.below h hB
  have HG : Hid (Good S w x) := hgd
  have HK : Hid (L[k]? = some x) := hk
  have hkl : (k : Int) < (L.length : Int) := by have := (List.getElem?_eq_some_iff.1 hk).1; omega
  obtain ⟨es, hes⟩ : ∃ es : List Ent, [] = es := ⟨_, rfl⟩
  obtain ⟨nx, hnx⟩ : ∃ nx : Int, 0 = nx := ⟨_, rfl⟩
  obtain ⟨ae, hae⟩ : ∃ ae, Fo.addErr x.i.ents x.i.next s no gen = ae := ⟨_, rfl⟩
  have HCF : Hid (∀ V : World, Below w.heap.size w V → Calls Tryz.prog 88 #[.agg #[.slice x.ep x.en x.ec, .int .i64 x.i.next], .string s, .agg #[.int .i64 no, .int .i64 gen]] V fun e w' => ∃ p n c, e = .returned (.tuple #[.agg #[.slice p n c, .int .i64 nx], .int .i64 ae]) ∧ Hid (n = es.length) ∧ At EE (fun b => V.heap.size ≤ b) w' (.slice p n c) es ∧ Below V.heap.size V w') := fun V h => by
    refine (radd_any _ x.i.ents x.i.next s no gen V (hgd.up h).2.1.wide hn hs).mono ?_
    rintro e w' ⟨u, he, hu, hb⟩
    rw [if_neg hf, hae, hnx] at he
    rw [if_neg hf, hes] at hu
    obtain ⟨p, c, rfl, -, -⟩ := hu.open
    exact ⟨p, _, c, he, rfl, hu, hb⟩
  rw [hae] at hf ⊢
  have hz' : (ae != 0) = true := by simpa using hf
  obtain ⟨W, hW⟩ : ∃ W, W = w.alloc (BH no gen) := ⟨_, rfl⟩
  have HB0 : Hid (Below w.heap.size w W) := by show Below w.heap.size w W; rw [hW]; exact (Below.refl _ w).alloc (Nat.le_refl _) _
  have HA0 : Hid (W.heap[w.heap.size]? = some (BH no gen)) := by show W.heap[w.heap.size]? = _; rw [hW]; exact heap_alloc_new _ _
  have hws : w.heap.size < W.heap.size := by rw [hW]; simp
  have HSG : Hid (∀ V : World, Below W.heap.size W V → V.cell? ⟨bb, off + k * 8 + 6, none⟩ = some (.slice x.ep x.en x.ec) ∧ V.cell? ⟨bb, off + k * 8 + 7, none⟩ = some (.int .i64 x.i.next) ∧ V.cell? ⟨w.heap.size, 0, none⟩ = some (.int .i64 no) ∧ V.cell? ⟨w.heap.size, 1, none⟩ = some (.int .i64 gen)) := fun V h => by
    obtain ⟨r0, r1, r2, r3, r4, r5, r6, r7⟩ := HX8.out _ (HB0.out.trans (h.mono HB0.out.size))
    obtain ⟨⟨a0, a1⟩, _⟩ := two_of HA0.out
    exact ⟨r6, r7, cell_step a0 h, cell_step a1 h⟩
  have HCW : Hid (∀ V : World, Below W.heap.size W V → Calls Tryz.prog 88 #[.agg #[.slice x.ep x.en x.ec, .int .i64 x.i.next], .string s, .agg #[.int .i64 no, .int .i64 gen]] V fun e w' => ∃ p n c, e = .returned (.tuple #[.agg #[.slice p n c, .int .i64 nx], .int .i64 ae]) ∧ Hid (n = es.length) ∧ At EE (fun b => V.heap.size ≤ b) w' (.slice p n c) es ∧ Below V.heap.size V w') := fun V h => HCF.out V (HB0.out.trans (h.mono HB0.out.size))
  clear hv hx hc8 hgd hk hn hs hf hes hnx hm HCF hae
  go_enter Tryz.func51, Tryz.ntmps51
  go_wp2_with fail
  rw [← hW]
  clear hW
  go_region_held3 (fun V => V.cell? ⟨bb, off + k * 8 + 6, none⟩ = some (.slice x.ep x.en x.ec) ∧ V.cell? ⟨bb, off + k * 8 + 7, none⟩ = some (.int .i64 x.i.next) ∧ V.cell? ⟨w.heap.size, 0, none⟩ = some (.int .i64 no) ∧ V.cell? ⟨w.heap.size, 1, none⟩ = some (.int .i64 gen)) (first | exact HSG.out _ (by (repeat (first | with_reducible assumption | exact Below.refl _ _ | refine bel_drew ?_ | refine Below.setCell ?_ (by first | exact Nat.le_refl _ | assumption) _ | refine Below.alloc ?_ (by first | exact Nat.le_refl _ | assumption) _)))) (first
    | (go_at_call 88; refine (HCW.out _ (by (repeat (first | with_reducible assumption | exact Below.refl _ _ | refine bel_drew ?_ | refine Below.setCell ?_ (by first | exact Nat.le_refl _ | assumption) _ | refine Below.alloc ?_ (by first | exact Nat.le_refl _ | assumption) _)))).mono ?_; rintro e w3 ⟨p3, n3, c3, rfl, hn3, hu3, hb3⟩; (first | (have hz3 : w3.heap[W.heap.size]? = some BZF := (hb3.block _ (by simp)).trans (heap_alloc_new W.drew BZF); have hb33 : Below W.heap.size W w3 := ((bel_drew (Below.refl _ _)).alloc (Nat.le_refl _) BZF).trans (hb3.mono (by simp)); have hl3 := (Array.getElem?_eq_some_iff.1 hz3).1; obtain ⟨⟨f0, f1⟩, ff⟩ := two_ofF (v := .slice none 0 0) (n := 0) hz3) | (have hz3 : w3.heap[W.heap.size]? = some BZF := (hb3.block _ (by simp)).trans (heap_alloc_new W BZF); have hb33 : Below W.heap.size W w3 := ((Below.refl _ _).alloc (Nat.le_refl _) BZF).trans ((undrew hb3).mono (by simp)); have hl3 := (Array.getElem?_eq_some_iff.1 hz3).1; obtain ⟨⟨f0, f1⟩, ff⟩ := two_ofF (v := .slice none 0 0) (n := 0) hz3) | (have hb33 : Below W.heap.size W w3 := undrew hb3)); have hs3 : W.heap.size ≤ w3.heap.size := hb33.size))
  all_goals first
      | (obtain ⟨W5, hW5⟩ : ∃ W5, W5 = w3.alloc (BF (.slice p3 n3 c3) nx) := ⟨_, rfl⟩
         rw [← hW5]
         obtain ⟨b9, hb9⟩ : ∃ b9, b9 = w3.heap.size := ⟨_, rfl⟩
         have HX5 : Hid (W5.heap[b9]? = some (BF (.slice p3 n3 c3) nx)) := by rw [hW5, hb9]; exact heap_alloc_new _ _
         have HBX : Hid (Below W.heap.size W W5) := by rw [hW5]; exact hb33.alloc hs3 _
         have HU5 : Hid (At EE (fun b => w.heap.size ≤ b) W5 (.slice p3 n3 c3) es) := by rw [hW5]; exact (hu3.up ((Below.refl _ _).alloc (Nat.le_refl _) _)).imp fun b hb _ => by first | exact hb | (simp at hb; omega)
         rw [← hb9]
         clear hb9 hW5)
      | (obtain ⟨W5, hW5⟩ : ∃ W5, W5 = (w3.setCell ⟨W.heap.size, 0, none⟩ (.slice p3 n3 c3)).setCell ⟨W.heap.size, 1, none⟩ (.int .i64 nx) := ⟨_, rfl⟩
         rw [← hW5]
         obtain ⟨b9, hb9⟩ : ∃ b9, b9 = W.heap.size := ⟨_, rfl⟩
         have HX5 : Hid (W5.heap[b9]? = some (BF (.slice p3 n3 c3) nx)) := by rw [hW5, hb9]; exact setF hz3
         have HBX : Hid (Below W.heap.size W W5) := by
           rw [hW5]
           exact Below.setCell (p := ⟨W.heap.size, 1, none⟩) (Below.setCell (p := ⟨W.heap.size, 0, none⟩) hb33 (Nat.le_refl _) _) (Nat.le_refl _) _
         have HU5 : Hid (At EE (fun b => w.heap.size ≤ b) W5 (.slice p3 n3 c3) es) := by
           rw [hW5]
           exact (At.setCell (S := fun b => w.heap.size ≤ b ∧ b ≠ W.heap.size) (At.setCell (hu3.imp fun b hb _ => by simp at hb; omega) (by simp) _) (by simp) _).imp fun b hb _ => hb.1
         rw [← hb9]
         clear hb9 hW5 f0 f1 ff)
  all_goals
    (try simp only [Exit.then])
    have HBW : Hid (Below w.heap.size w W5) := HB0.out.trans (HBX.out.mono HB0.out.size)
    have HBL : Hid (b9 < W5.heap.size) := (Array.getElem?_eq_some_iff.1 HX5.out).1
    have HN3 : Hid (n3 = es.length) := hn3.out
    clear hb3 hb33 hu3 HCW HSG hn3
    go_wp2
    (try simp only [Exit.inBlock, Exit.then])
    refine bodyPost_ret (v := .tuple #[.slice none 0 0, .int .i64 ae]) (by simp [results, Tryz.results51, go_sem]) rfl ⟨rfl, HBW.out⟩
end Go.Proofs.YtacghcoikekfeaaGreat
