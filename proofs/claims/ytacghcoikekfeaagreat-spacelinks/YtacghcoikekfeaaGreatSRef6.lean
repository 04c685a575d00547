/-
  sextonref11.remove: what it answers.
-/
import Derived.Test.YtacghcoikekfeaaGreatSRef5
import Derived.Test.YtacghcoikekfeaaGreatFRefE
namespace Go.Proofs.YtacghcoikekfeaaGreat
open Go.ChangeShapes Go.WideShapes Go.ChangeAt Go.RowKit Go.Deep It
set_option maxRecDepth 100000
/-- A table in a row of its own, in block g; the inodes' lists lie elsewhere. -/
def Cp (T : Nat → Prop) (B : Nat) (w : World) (g n cap : Nat) (L : List Rw) : Prop := Row EI w B 65 (.slice (some ⟨g, 0, none⟩) n cap) L ∧ ∀ y ∈ L, Good (fun b => b ≠ g ∧ T b) w y
theorem Cp.tab {T : Nat → Prop} {B : Nat} {w : World} {g n cap : Nat} {L : List Rw} (h : Cp T B w g n cap L) : TabAt (fun _ => True) w (.slice (some ⟨g, 0, none⟩) n cap) L := ⟨h.1.at.wide, fun y hy => (h.2 y hy).imp fun _ _ _ => trivial⟩
theorem Cp.put {T : Nat → Prop} {B : Nat} {w : World} {g n cap : Nat} {L : List Rw} (h : Cp T B w g n cap L) {k j : Nat} {x x' : Rw} {u : Value} (hk : L[k]? = some x) (hj : j < 8) (hc : EI.cells x' = (EI.cells x).set j u) (hg : Good (fun b => b ≠ g ∧ T b) w x') : Cp T B (w.setCell ⟨g, k * 8 + j, none⟩ u) g n cap (L.set k x') := by
  refine ⟨h.1.cell hk hj hc, fun y hy => Good.setCell ?_ (by simp) _⟩
  rcases List.mem_or_eq_of_mem_set hy with h1 | rfl
  · exact h.2 y h1
  · exact hg
theorem Cp.cells {T : Nat → Prop} {B : Nat} {w : World} {g n cap : Nat} {L : List Rw} (h : Cp T B w g n cap L) {k : Nat} {x : Rw} (hk : L[k]? = some x) : eight w g (k * 8) x ∧ (∀ j, w.frozen? ⟨g, j, none⟩ = false) ∧ g < w.heap.size ∧ n = L.length ∧ B ≤ g := by
  rcases h.1 with ⟨h1, _⟩ | ⟨g', cap', cur, hv, hB, hh, -⟩
  · cases h1
  · simp only [Value.slice.injEq, Option.some.injEq, Addr.mk.injEq] at hv
    obtain ⟨⟨rfl, -, -⟩, rfl, rfl⟩ := hv
    obtain ⟨ao, c, he, -, hx⟩ := h.tab.open
    simp only [Value.slice.injEq] at he
    obtain ⟨rfl, -, -⟩ := he
    obtain ⟨⟨b, off, he, -, h8⟩, -⟩ := hx k x hk
    simp only [Option.some.injEq, Addr.mk.injEq] at he
    obtain ⟨rfl, rfl, -⟩ := he
    rw [Nat.zero_add] at h8
    exact ⟨h8, fun j => by simp [World.frozen?, hh], (Array.getElem?_eq_some_iff.1 hh).1, rfl, hB⟩
/-- A copy, and the lists of its inodes. -/
theorem Cp.of {S T : Nat → Prop} {w w' : World} {v u : Value} {L : List Rw} (hv : TabAt S w v L) (hne : L ≠ []) (hr : Row EI w' w.heap.size 65 u L) (hb : Below w.heap.size w w') (hT : ∀ b, S b → T b) : ∃ g cap, u = .slice (some ⟨g, 0, none⟩) L.length cap ∧ w.heap.size ≤ g ∧ Cp T w.heap.size w' g L.length cap L := by
  have hr0 := hr
  rcases hr with ⟨_, h⟩ | ⟨g, cap, cur, rfl, hB, hh, -⟩
  · exact absurd h hne
  · exact ⟨g, cap, rfl, hB, hr0, fun y hy => (hv.2 y hy).keep hb.size fun b hS hl => ⟨hb.block b hl, by omega, hT b hS⟩⟩
theorem Cp.mono {T : Nat → Prop} {B C : Nat} {w : World} {g n cap : Nat} {L : List Rw} (h : Cp T B w g n cap L) (hB : C ≤ B) : Cp T C w g n cap L := by
  refine ⟨?_, h.2⟩
  rcases h.1 with h1 | ⟨g', cap', cur, hv, hb, hh⟩
  · exact .inl h1
  · exact .inr ⟨g', cap', cur, hv, Nat.le_trans hB hb, hh⟩
/-- A folder's entries, size and stamp, written. -/
theorem Cp.three {T : Nat → Prop} {B : Nat} {w : World} {g n cap : Nat} {L : List Rw} (h : Cp T B w g n cap L) {k : Nat} {x : Rw} (hk : L[k]? = some x) {p : Option Addr} {m c : Nat} {es : List Ent} (hu : At EE (fun b => b ≠ g ∧ T b) w (.slice p m c) es) (hr : At ER (fun b => b ≠ g ∧ T b) w (.slice x.rp x.rn x.rc) x.i.runs) (ho : okI x.i) (hl : es.length ≤ 3518437208883) (hm : m = es.length) (st : Int) :
    ∃ L', Cp T B (((w.setCell ⟨g, k * 8 + 6, none⟩ (.slice p m c)).setCell ⟨g, k * 8 + 3, none⟩ (.int .i64 m)).setCell ⟨g, k * 8 + 4, none⟩ (.int .i64 st)) g n cap L' ∧ pl L' = (pl L).set k (Sp.filled x.i es x.i.next st) := by
  subst hm
  have hlt := (List.getElem?_eq_some_iff.1 hk).1
  let x1 : Rw := ⟨⟨x.i.gen, x.i.kind, x.i.links, x.i.size, x.i.stamp, x.i.runs, es, x.i.next⟩, x.rp, x.rn, x.rc, p, es.length, c⟩
  let x2 : Rw := ⟨⟨x.i.gen, x.i.kind, x.i.links, es.length, x.i.stamp, x.i.runs, es, x.i.next⟩, x.rp, x.rn, x.rc, p, es.length, c⟩
  let x3 : Rw := ⟨Sp.filled x.i es x.i.next st, x.rp, x.rn, x.rc, p, es.length, c⟩
  have e1 : Good (fun b => b ≠ g ∧ T b) w x1 := ⟨hr, hu, ho.1, ho.2.1, hl⟩
  have e2 : Good (fun b => b ≠ g ∧ T b) w x2 := ⟨hr, hu, ho.1, ho.2.1, hl⟩
  have e3 : Good (fun b => b ≠ g ∧ T b) w x3 := ⟨hr, hu, ho.1, ho.2.1, hl⟩
  have f2 : Good (fun b => b ≠ g ∧ T b) (w.setCell ⟨g, k * 8 + 6, none⟩ (.slice p es.length c)) x2 := e2.setCell (by simp) _
  have f3 : Good (fun b => b ≠ g ∧ T b) (w.setCell ⟨g, k * 8 + 6, none⟩ (.slice p es.length c)) x3 := e3.setCell (by simp) _
  have g3 : Good (fun b => b ≠ g ∧ T b) ((w.setCell ⟨g, k * 8 + 6, none⟩ (.slice p es.length c)).setCell ⟨g, k * 8 + 3, none⟩ (.int .i64 es.length)) x3 := f3.setCell (by simp) _
  have h1 := h.put (k := k) (j := 6) (x' := x1) (u := .slice p es.length c) hk (by decide) rfl e1
  have h2 := h1.put (k := k) (j := 3) (x := x1) (x' := x2) (u := .int .i64 es.length) (by rw [List.getElem?_set_self hlt]) (by decide) rfl f2
  have h3 := h2.put (k := k) (j := 4) (x := x2) (x' := x3) (u := .int .i64 st) (by rw [List.getElem?_set_self (by simpa using hlt)]) (by decide) rfl g3
  refine ⟨_, h3, ?_⟩
  rw [List.set_set, List.set_set]
  show (L.set k x3).map Rw.i = _
  rw [List.map_set]
theorem setF {w : World} {A : Nat} {v u : Value} {b d : Int} (h : w.heap[A]? = some (BF v b)) : ((w.setCell ⟨A, 0, none⟩ u).setCell ⟨A, 1, none⟩ (.int .i64 d)).heap[A]? = some (BF u d) := by
  simp [World.setCell, Array.getElem?_modify, h]
theorem two_ofF {w : World} {B : Nat} {v : Value} {n : Int} (h : w.heap[B]? = some (BF v n)) : (w.cell? ⟨B, 0, none⟩ = some v ∧ w.cell? ⟨B, 1, none⟩ = some (.int .i64 n)) ∧ ∀ j, w.frozen? ⟨B, j, none⟩ = false := by
  refine ⟨⟨?_, ?_⟩, fun j => ?_⟩ <;> simp [World.cell?, World.frozen?, h]
set_option maxHeartbeats 2000000 in
theorem rless_any {S : Nat → Prop} (v : Value) (L : List Rw) (k : Nat) (st : Int) (s : ByteArray) (x : Rw) (w : World) (hv : TabAt S w v L) (hk : L[k]? = some x) (hn : ∀ e ∈ x.i.ents, e.1.size ≤ maxLen) (hs : s.size ≤ maxLen) (hf : Fo.findErr x.i.ents x.i.next s = 0) (hl : L.length ≤ 100000) :
    Calls Tryz.prog 59 #[v, .int .i64 k, .string s, .int .i64 st] w fun e w' => ∃ g cap L', e = .returned (.slice (some ⟨g, 0, none⟩) L.length cap) ∧ Cp (fun b => S b ∨ w.heap.size ≤ b) w.heap.size w' g L.length cap L' ∧ pl L' = (pl L).set k (Sp.filled x.i (x.i.ents.eraseIdx (Fo.plc x.i.ents x.i.next s).toNat) x.i.next st) ∧ Below w.heap.size w w' := by
  obtain ⟨es, hes⟩ : ∃ es, x.i.ents.eraseIdx (Fo.plc x.i.ents x.i.next s).toNat = es := ⟨_, rfl⟩
  have HV : Hid (TabAt S w v L) := hv
  obtain ⟨ao, cap, rfl, hm, hx⟩ := hv.open
  obtain ⟨⟨bb, off, rfl, hB, hc8⟩, hgd⟩ := hx k x hk
  have HX8 : Hid (∀ V, Below w.heap.size w V → eight V bb (off + k * 8) x) := fun V h => hc8.below h hB
  have HG : Hid (Good S w x) := hgd
  have HK : Hid (L[k]? = some x) := hk
  have HLN : Hid (L.length ≤ 100000) := hl
  have hlen : es.length ≤ 3518437208883 := by rw [← hes]; exact Nat.le_trans (List.length_eraseIdx_le ..) hgd.2.2.2.2
  have HLE : Hid (es.length ≤ 3518437208883) := hlen
  have hkl : (k : Int) < (L.length : Int) := by have := (List.getElem?_eq_some_iff.1 hk).1; omega
  have HCF : Hid (∀ V : World, Below w.heap.size w V → Calls Tryz.prog 94 #[.agg #[.slice x.ep x.en x.ec, .int .i64 x.i.next], .string s] V fun e w' => ∃ p n c, e = .returned (.tuple #[.agg #[.slice p n c, .int .i64 x.i.next], .int .i64 0]) ∧ Hid (n = es.length) ∧ At EE (fun b => V.heap.size ≤ b) w' (.slice p n c) es ∧ Below V.heap.size V w') := fun V h => by
    refine (rremove_any _ x.i.ents x.i.next s V (hgd.up h).2.1.wide hn hs).mono ?_
    rintro e w' ⟨u, he, hu, hb⟩
    rw [hf, if_pos rfl] at he
    rw [hf, if_pos rfl, hes] at hu
    obtain ⟨p, c, rfl, -, -⟩ := hu.open
    exact ⟨p, _, c, he, rfl, hu, hb⟩
  rw [hes]
  have HSG : Hid (∀ V : World, Below w.heap.size w V → V.cell? ⟨bb, off + k * 8 + 6, none⟩ = some (.slice x.ep x.en x.ec) ∧ V.cell? ⟨bb, off + k * 8 + 7, none⟩ = some (.int .i64 x.i.next)) := fun V h => by
    obtain ⟨r0, r1, r2, r3, r4, r5, r6, r7⟩ := HX8.out _ h
    exact ⟨r6, r7⟩
  clear hv hx hc8 hgd hk hn hs hf hl hlen hes hm
  go_enter Tryz.func59, Tryz.ntmps59
  go_wp2_with fail
  go_region_held3 (fun V => V.cell? ⟨bb, off + k * 8 + 6, none⟩ = some (.slice x.ep x.en x.ec) ∧ V.cell? ⟨bb, off + k * 8 + 7, none⟩ = some (.int .i64 x.i.next)) (first | exact HSG.out _ (by (repeat (first | with_reducible assumption | exact Below.refl _ _ | refine bel_drew ?_ | refine Below.setCell ?_ (by first | exact Nat.le_refl _ | assumption) _ | refine Below.alloc ?_ (by first | exact Nat.le_refl _ | assumption) _)))) (first
    | (go_at_call 94; refine (HCF.out _ (by (repeat (first | with_reducible assumption | exact Below.refl _ _ | refine bel_drew ?_ | refine Below.setCell ?_ (by first | exact Nat.le_refl _ | assumption) _ | refine Below.alloc ?_ (by first | exact Nat.le_refl _ | assumption) _)))).mono ?_; rintro e w3 ⟨p3, n3, c3, rfl, hn3, hu3, hb3⟩; (first | (have hz3 : w3.heap[w.heap.size]? = some BZF := (hb3.block _ (by simp)).trans (heap_alloc_new w.drew BZF); have hb33 : Below w.heap.size w w3 := ((bel_drew (Below.refl _ _)).alloc (Nat.le_refl _) BZF).trans (hb3.mono (by simp)); have hl3 := (Array.getElem?_eq_some_iff.1 hz3).1; obtain ⟨⟨f0, f1⟩, ff⟩ := two_ofF (v := .slice none 0 0) (n := 0) hz3) | (have hz3 : w3.heap[w.heap.size]? = some BZF := (hb3.block _ (by simp)).trans (heap_alloc_new w BZF); have hb33 : Below w.heap.size w w3 := ((Below.refl _ _).alloc (Nat.le_refl _) BZF).trans ((undrew hb3).mono (by simp)); have hl3 := (Array.getElem?_eq_some_iff.1 hz3).1; obtain ⟨⟨f0, f1⟩, ff⟩ := two_ofF (v := .slice none 0 0) (n := 0) hz3) | (have hb33 : Below w.heap.size w w3 := undrew hb3)); have hs3 : w.heap.size ≤ w3.heap.size := hb33.size))
  all_goals first
      | (obtain ⟨W5, hW5⟩ : ∃ W5, W5 = w3.alloc (BF (.slice p3 n3 c3) x.i.next) := ⟨_, rfl⟩
         rw [← hW5]
         obtain ⟨b9, hb9⟩ : ∃ b9, b9 = w3.heap.size := ⟨_, rfl⟩
         have HX5 : Hid (W5.heap[b9]? = some (BF (.slice p3 n3 c3) x.i.next)) := by rw [hW5, hb9]; exact heap_alloc_new _ _
         have HBW : Hid (Below w.heap.size w W5) := by rw [hW5]; exact hb33.alloc hs3 _
         have HU5 : Hid (At EE (fun b => w.heap.size ≤ b) W5 (.slice p3 n3 c3) es) := by rw [hW5]; exact (hu3.up ((Below.refl _ _).alloc (Nat.le_refl _) _)).imp fun b hb _ => by first | exact hb | (simp at hb; omega)
         rw [← hb9]
         clear hb9 hW5)
      | (obtain ⟨W5, hW5⟩ : ∃ W5, W5 = (w3.setCell ⟨w.heap.size, 0, none⟩ (.slice p3 n3 c3)).setCell ⟨w.heap.size, 1, none⟩ (.int .i64 x.i.next) := ⟨_, rfl⟩
         rw [← hW5]
         obtain ⟨b9, hb9⟩ : ∃ b9, b9 = w.heap.size := ⟨_, rfl⟩
         have HX5 : Hid (W5.heap[b9]? = some (BF (.slice p3 n3 c3) x.i.next)) := by rw [hW5, hb9]; exact setF hz3
         have HBW : Hid (Below w.heap.size w W5) := by
           rw [hW5]
           exact Below.setCell (p := ⟨w.heap.size, 1, none⟩) (Below.setCell (p := ⟨w.heap.size, 0, none⟩) hb33 (Nat.le_refl _) _) (Nat.le_refl _) _
         have HU5 : Hid (At EE (fun b => w.heap.size ≤ b) W5 (.slice p3 n3 c3) es) := by
           rw [hW5]
           exact (At.setCell (S := fun b => w.heap.size ≤ b ∧ b ≠ w.heap.size) (At.setCell (hu3.imp fun b hb _ => by simp at hb; omega) (by simp) _) (by simp) _).imp fun b hb _ => hb.1
         rw [← hb9]
         clear hb9 hW5 f0 f1 ff)
  all_goals
    (try simp only [Exit.then])
    have HBL : Hid (b9 < W5.heap.size) := (Array.getElem?_eq_some_iff.1 HX5.out).1
    have HN3 : Hid (n3 = es.length) := hn3.out
    clear hb3 hb33 hu3 HCF HSG hn3
    go_wp2_with fail
    refine (rcopied_any _ L _ (HV.out.up HBW.out) HLN.out).mono ?_
    rintro e w6 ⟨u6, rfl, hrow, hb6⟩
    obtain ⟨g, cap6, rfl, hBg, hcp⟩ := Cp.of (T := (fun b => S b ∨ w.heap.size ≤ b)) (HV.out.up HBW.out) (fun h => by have := HK.out; rw [h] at this; simp at this) hrow hb6 (fun b h => .inl h)
    have HB6 : Hid (Below w.heap.size w w6) := HBW.out.trans (hb6.mono HBW.out.size)
    have HX6 : Hid (w6.heap[b9]? = some (BF (.slice p3 n3 c3) x.i.next)) := (hb6.block _ HBL.out).trans HX5.out
    have HU6 : Hid (At EE (fun b => b ≠ g ∧ (S b ∨ w.heap.size ≤ b)) w6 (.slice p3 n3 c3) es) := HU5.out.keep hb6.size fun b hb hl => ⟨hb6.block b hl, by omega, .inr hb⟩
    have HG6 : Hid (At ER (fun b => b ≠ g ∧ (S b ∨ w.heap.size ≤ b)) w6 (.slice x.rp x.rn x.rc) x.i.runs ∧ okI x.i) := ⟨(hcp.2 x (List.mem_of_getElem? HK.out)).1, HG.out.2.2⟩
    have HCP : Hid (Cp (fun b => S b ∨ w.heap.size ≤ b) W5.heap.size w6 g L.length cap6 L) := hcp
    have hbg : b9 ≠ g := by have := HBL.out; omega
    have hwg : w.heap.size ≤ g := Nat.le_trans HBW.out.size hBg
    obtain ⟨⟨t0, t1, t2, t3, t4, t5, t6, t7⟩, tf, tl, -, -⟩ := hcp.cells HK.out
    obtain ⟨⟨f0, f1⟩, ff⟩ := two_ofF HX6.out
    clear hb6 hcp hrow hBg
    go_wp2
    obtain ⟨L', hL', hp'⟩ := Cp.three HCP.out HK.out HU6.out HG6.out.1 HG6.out.2 HLE.out HN3.out st
    have hbl : Below w.heap.size w (((w6.setCell ⟨g, k * 8 + 6, none⟩ (.slice p3 n3 c3)).setCell ⟨g, k * 8 + 3, none⟩ (.int .i64 n3)).setCell ⟨g, k * 8 + 4, none⟩ (.int .i64 st)) := Below.setCell (p := ⟨g, k * 8 + 4, none⟩) (Below.setCell (p := ⟨g, k * 8 + 3, none⟩) (Below.setCell (p := ⟨g, k * 8 + 6, none⟩) HB6.out hwg _) hwg _) hwg _
    refine bodyPost_ret (v := .slice (some ⟨g, 0, none⟩) L.length cap6) (by simp [results, Tryz.results59, go_sem]) rfl ⟨g, cap6, L', rfl, hL'.mono HBW.out.size, hp', hbl⟩
end Go.Proofs.YtacghcoikekfeaaGreat
