/-
  FolderChanges: for every folder, name and handle the call answers true, and the arguments read as before. No condition.
-/
import Derived.Test.YtlpnkcolpgodjaaRefE
import Derived.Test.YtlpnkcolpgodjaaPages
import Derived.ChangeMaps5
namespace Go.Proofs.Ytlpnkcolpgodjaa
open Go.ChangeShapes Go.WideShapes Go.ChangeAt Go.RowKit Go.Deep
/-- The folder's box and the handle's. -/
abbrev Fr (n : Nat) (v : Value) (next no gen : Int) (w : World) : Prop := w.cell? ⟨n, 0, none⟩ = some v ∧ w.cell? ⟨n, 1, none⟩ = some (.int .i64 next) ∧ w.cell? ⟨n + 1, 0, none⟩ = some (.int .i64 no) ∧ w.cell? ⟨n + 1, 1, none⟩ = some (.int .i64 gen)
theorem fr_step {n : Nat} {v : Value} {next no gen : Int} {w w' : World} (h : Fr n v next no gen w) (hb : Below w.heap.size w w') : Fr n v next no gen w' := ⟨cell_step h.1 hb, cell_step h.2.1 hb, cell_step h.2.2.1 hb, cell_step h.2.2.2 hb⟩
theorem fr_drew {n : Nat} {v : Value} {next no gen : Int} {w : World} (h : Fr n v next no gen w) : Fr n v next no gen w.drew := h
theorem fr_alloc {n : Nat} {v : Value} {next no gen : Int} {w : World} (h : Fr n v next no gen w) (o : Obj) : Fr n v next no gen (w.alloc o) := fr_step h ((Below.refl _ _).alloc (Nat.le_refl _) _)
theorem fr_set {n : Nat} {v : Value} {next no gen : Int} {w : World} (h : Fr n v next no gen w) {p : Addr} (h1 : n ≠ p.block) (h2 : n + 1 ≠ p.block) (u : Value) : Fr n v next no gen (w.setCell p u) :=
  ⟨(cell_block (Below.heap_setCell _ _ _ _ h1)).trans h.1, (cell_block (Below.heap_setCell _ _ _ _ h1)).trans h.2.1, (cell_block (Below.heap_setCell _ _ _ _ h2)).trans h.2.2.1, (cell_block (Below.heap_setCell _ _ _ _ h2)).trans h.2.2.2⟩
theorem set_fold {w : World} {A : Nat} {v u : Value} {b d : Int} (h : w.heap[A]? = some (BF v b)) : ((w.setCell ⟨A, 0, none⟩ u).setCell ⟨A, 1, none⟩ (.int .i64 d)).heap[A]? = some (BF u d) := by
  have h1 : (w.setCell ⟨A, 0, none⟩ u).heap[A]? = some (BF u b) := by
    rw [setCell_eq_setRow w A 0 _ _ _ _ h, setRow_heap w A _ _ _ _ h]
    rfl
  rw [setCell_eq_setRow _ A 1 _ _ _ _ h1, setRow_heap _ A _ _ _ _ h1]
  rfl
theorem below_drew {B : Nat} {w w' : World} (h : Below B w w') : Below B w w'.drew := ⟨h.os, h.tape, h.output, h.size, h.block⟩
theorem open_hand {H : Type} {enc : TypeId × Value → H} {w : World} {r : Reach} {b0 : Nat} {v : Value} {d : DataW H} {p : List MemPlace} (hv : Value.okWide Try.prog w r b0 28 v) (h : DataW.Trod enc Try.prog w 0 (fun _ => true) true 28 v d p) : ∃ a b : Int, v = .agg #[.int .i64 a, .int .i64 b] := by
  obtain ⟨c0, c1, y0, y1, m, rfl, rfl, rfl, g0, g1⟩ := Joins.open_agg2 Try.underlying28 (by kernel_rfl) (by kernel_rfl) hv h
  obtain ⟨a, e0, _, _⟩ := DataW.trod_int Try.underlying3 g0
  obtain ⟨b, e1, _, _⟩ := DataW.trod_int Try.underlying3 g1
  simp only [List.cons.injEq, and_true] at e0 e1
  exact ⟨a, b, by rw [e0, e1]⟩
theorem up1 (w : World) (o : Obj) : Below w.heap.size w (w.alloc o) := (Below.refl _ _).alloc (Nat.le_refl _) _
set_option maxHeartbeats 8000000 in
theorem changes_any (v : Value) (l : List Ent) (next : Int) (s : ByteArray) (no gen : Int) (w : World) (hv : AtW EE w v l) (hs : ∀ x ∈ l, x.1.size ≤ maxLen) (hn : s.size ≤ maxLen) :
    Calls Try.prog 4 #[VD v next, .string s, VH no gen] w fun e w' => e = .returned (.bool true) ∧ Below w.heap.size w w' := by
  have hv0 := hv
  obtain ⟨ao, cap, rfl, hm, -⟩ := hv0.open
  clear hv0
  unfold maxLen at hm
  obtain ⟨m, hlm⟩ : ∃ m, l.length = m := ⟨_, rfl⟩
  rw [hlm] at hm hv ⊢
  obtain ⟨W, hW⟩ : ∃ W, W = ((w.alloc (BD (.slice ao m cap) next)).alloc (BH no gen)).alloc (BD (.slice ao m cap) next) := ⟨_, rfl⟩
  have HB0 : Hid (Below w.heap.size w W) := by show Below w.heap.size w W; rw [hW]; exact (((Below.refl _ w).alloc (Nat.le_refl _) _).alloc (by simp) _).alloc (by simp; omega) _
  have HFR : Hid (Fr w.heap.size (.slice ao m cap) next no gen W) := by
    have := two_boxes w (.slice ao m cap) next no gen
    rw [hW]
    exact fr_alloc this _
  have HV : Hid (AtW EE W (.slice ao m cap) l) := hv.up HB0.out
  have HS : Hid (∀ x ∈ l, x.1.size ≤ maxLen) := hs
  have HNN : Hid (s.size ≤ maxLen) := hn
  clear hv hs hn hlm
  obtain ⟨q0, q1, q2, q3⟩ := two_boxes w (.slice ao m cap) next no gen
  by_cases hl : (400 : Int) < (m : Int)
  · have HL : Hid (decide ((400 : Int) < (m : Int)) = true) := decide_eq_true hl
    clear hl
    go_enter Try.func4, Try.ntmps4
    go_wp2_with fail
    refine (plarge_any ao m cap next _).mono ?_
    rintro e w1 ⟨rfl, hw1⟩
    rw [← hW] at hw1
    subst hw1
    clear hW
    rw [HL.out]
    go_wp2_with fail
    refine (two_any _).mono ?_
    rintro e w2 ⟨rfl, hb⟩
    go_wp2
    go_ret
    exact ⟨rfl, HB0.out.trans (hb.mono HB0.out.size)⟩
  · have HL : Hid (decide ((400 : Int) < (m : Int)) = false) := decide_eq_false hl
    clear hl
    obtain ⟨ae, hae⟩ : ∃ ae, Fo.addErr l next s no gen = ae := ⟨_, rfl⟩
    obtain ⟨an, han⟩ : ∃ an, (if ae = 0 then next + 1 else 0) = an := ⟨_, rfl⟩
    obtain ⟨al, hal⟩ : ∃ al, (if ae = 0 then l ++ [(s, next + 1, no, gen)] else []) = al := ⟨_, rfl⟩
    obtain ⟨fe, hfe⟩ : ∃ fe, Fo.findErr l next s = fe := ⟨_, rfl⟩
    obtain ⟨fn, hfn⟩ : ∃ fn, (if fe = 0 then next else 0) = fn := ⟨_, rfl⟩
    obtain ⟨fl, hfl⟩ : ∃ fl, (if fe = 0 then l.eraseIdx (Fo.plc l next s).toNat else []) = fl := ⟨_, rfl⟩
    have HADD : Hid (∀ V, AtW EE V (.slice ao m cap) l → Calls Try.prog 17 #[VD (.slice ao m cap) next, .string s, VH no gen] V fun e w' => ∃ p k q, e = .returned (.tuple #[VD (.slice p k q) an, .int .i64 ae]) ∧ AtW EE w' (.slice p k q) al ∧ Below V.heap.size V w') := fun V h => (add_any _ l next s no gen V h HS.out HNN.out).mono fun e w' ⟨u, he, hu, hb⟩ => by
      rw [hae, han] at he
      rw [hae, hal] at hu
      obtain ⟨p, q, rfl, -, -⟩ := hu.open
      exact ⟨_, _, _, he, hu.wide, hb⟩
    have HRADD : Hid (∀ V, AtW EE V (.slice ao m cap) l → Calls Try.prog 18 #[VD (.slice ao m cap) next, .string s, VH no gen] V fun e w' => ∃ p k q, e = .returned (.tuple #[VD (.slice p k q) an, .int .i64 ae]) ∧ At EE (fun b => V.heap.size ≤ b) w' (.slice p k q) al ∧ Below V.heap.size V w') := fun V h => (radd_any _ l next s no gen V h HS.out HNN.out).mono fun e w' ⟨u, he, hu, hb⟩ => by
      rw [hae, han] at he
      rw [hae, hal] at hu
      obtain ⟨p, q, rfl, -, -⟩ := hu.open
      exact ⟨_, _, _, he, hu, hb⟩
    have HREM : Hid (∀ V, AtW EE V (.slice ao m cap) l → Calls Try.prog 20 #[VD (.slice ao m cap) next, .string s] V fun e w' => ∃ p k q, e = .returned (.tuple #[VD (.slice p k q) fn, .int .i64 fe]) ∧ AtW EE w' (.slice p k q) fl ∧ Below V.heap.size V w') := fun V h => (remove_any _ l next s V h HS.out HNN.out).mono fun e w' ⟨u, he, hu, hb⟩ => by
      rw [hfe, hfn] at he
      rw [hfe, hfl] at hu
      obtain ⟨p, q, rfl, -, -⟩ := hu.open
      exact ⟨_, _, _, he, hu.wide, hb⟩
    have HRREM : Hid (∀ V, AtW EE V (.slice ao m cap) l → Calls Try.prog 21 #[VD (.slice ao m cap) next, .string s] V fun e w' => ∃ p k q, e = .returned (.tuple #[VD (.slice p k q) fn, .int .i64 fe]) ∧ AtW EE w' (.slice p k q) fl ∧ Below V.heap.size V w') := fun V h => (rremove_any _ l next s V h HS.out HNN.out).mono fun e w' ⟨u, he, hu, hb⟩ => by
      rw [hfe, hfn] at he
      rw [hfe, hfl] at hu
      obtain ⟨p, q, rfl, -, -⟩ := hu.open
      exact ⟨_, _, _, he, hu.wide, hb⟩
    have t1 : (ae == ae) = true := beq_self_eq_true ae
    have t2 : (fe == fe) = true := beq_self_eq_true fe
    clear hae han hal hfe hfn hfl
    go_enter Try.func4, Try.ntmps4
    go_wp2_with fail
    refine (plarge_any ao m cap next _).mono ?_
    rintro e w1 ⟨rfl, hw1⟩
    rw [← hW] at hw1
    subst hw1
    clear hW q0 q1 q2 q3
    rw [HL.out]
    obtain ⟨q0, q1, q2, q3⟩ := HFR.out
    go_wp2_with fail
    refine (HADD.out _ HV.out).mono ?_
    rintro e w2 ⟨p2, k2, c2, rfl, hu2, hb2⟩
    have hup := up1 w2 (BD (.slice p2 k2 c2) an)
    have HB2 : Hid (Below w.heap.size w (w2.alloc (BD (.slice p2 k2 c2) an))) := (HB0.out.trans (hb2.mono HB0.out.size)).alloc (HB0.out.trans (hb2.mono HB0.out.size)).size _
    have HF2 : Hid (Fr w.heap.size (.slice ao m cap) next no gen (w2.alloc (BD (.slice p2 k2 c2) an))) := fr_step (fr_step HFR.out hb2) hup
    have HV2 : Hid (AtW EE (w2.alloc (BD (.slice p2 k2 c2) an)) (.slice ao m cap) l ∧ AtW EE (w2.alloc (BD (.slice p2 k2 c2) an)) (.slice p2 k2 c2) al) := ⟨(HV.out.up hb2).up hup, hu2.up hup⟩
    have HD2 : Hid ((w2.alloc (BD (.slice p2 k2 c2) an)).heap[w2.heap.size]? = some (BD (.slice p2 k2 c2) an)) := heap_alloc_new w2 _
    clear hup hb2 hu2 q0 q1 q2 q3
    have HFG : Hid (∀ V, Below (w2.alloc (BD (.slice p2 k2 c2) an)).heap.size (w2.alloc (BD (.slice p2 k2 c2) an)) V → Fr w.heap.size (.slice ao m cap) next no gen V) := fun V h => fr_step HF2.out h
    have HVG : Hid (∀ V, Below (w2.alloc (BD (.slice p2 k2 c2) an)).heap.size (w2.alloc (BD (.slice p2 k2 c2) an)) V → AtW EE V (.slice ao m cap) l) := fun V h => HV2.out.1.up h
    obtain ⟨W2, hW2⟩ : ∃ W2, W2 = w2.alloc (BD (.slice p2 k2 c2) an) := ⟨_, rfl⟩
    rw [← hW2] at HB2 HF2 HV2 HD2 HFG HVG
    have hwW : w.heap.size + 1 < W2.heap.size := cell_lt HF2.out.2.2.1
    have HB00 : Hid (Below W2.heap.size W2 W2.drew) := below_drew (Below.refl _ _)
    have HB01 : Hid (Below W2.heap.size W2 (W2.alloc BZF)) := up1 _ _
    have HB02 : Hid (Below W2.heap.size W2 (W2.drew.alloc BZF)) := (below_drew (Below.refl _ _)).alloc (Nat.le_refl _) _
    go_wp2_with fail
    rw [← hW2]
    clear hW2
    go_region_held3 (fun w' => w'.cell? ⟨w.heap.size, 0, none⟩ = some (.slice ao m cap) ∧ w'.cell? ⟨w.heap.size, 1, none⟩ = some (.int .i64 next) ∧ w'.cell? ⟨w.heap.size + 1, 0, none⟩ = some (.int .i64 no) ∧ w'.cell? ⟨w.heap.size + 1, 1, none⟩ = some (.int .i64 gen)) (first | exact HF2.out | exact HFS.out | exact fr_drew HFS.out | exact fr_drew HF2.out | exact HFG.out _ (by assumption) | exact HFG.out _ ((by assumption : Below _ _ _).alloc (by have := (by assumption : Below W2.heap.size W2 _).size; omega) _) | exact fr_alloc HF2.out _ | exact fr_drew (fr_alloc HF2.out _) | exact HFG.out _ HB44.out | exact fr_set (HFG.out _ HB44.out) (by have := hb33.size; show w.heap.size ≠ _; omega) (by have := hb33.size; show w.heap.size + 1 ≠ _; omega) _ | exact fr_set (fr_set (HFG.out _ HB44.out) (by have := hb33.size; show w.heap.size ≠ _; omega) (by have := hb33.size; show w.heap.size + 1 ≠ _; omega) _) (by have := hb33.size; show w.heap.size ≠ _; omega) (by have := hb33.size; show w.heap.size + 1 ≠ _; omega) _ | exact fr_alloc (HFG.out _ HB44.out) _) (first
      | (go_at_call 19; refine (ref_any ao m cap next _).mono ?_; rintro e w3 ⟨rfl, hb3⟩; have hb33 : Below W2.heap.size W2 w3 := (by first | exact undrew hb3 | exact HB02.out.trans (hb3.mono HB02.out.size) | exact HB01.out.trans ((undrew hb3).mono HB01.out.size)); try (have hz3 : w3.heap[W2.heap.size]? = some BZF := (by first | exact (hb3.block _ (by simp)).trans (heap_alloc_new W2.drew BZF) | exact (hb3.block _ (by show _ < Array.size _; simp)).trans (heap_alloc_new W2 BZF))); have h3s : W2.heap.size ≤ w3.heap.size := hb33.size; clear hb3)
      | (go_at_call 18; refine (HRADD.out _ (by first | exact HVG.out _ hb33 | exact HVG.out _ (hb33.alloc hb33.size _))).mono ?_; rintro e w4 ⟨p4, k4, c4, rfl, hu4, hb4⟩; have hb44 : Below W2.heap.size W2 w4 := (by first | exact hb33.trans (hb4.mono hb33.size) | exact (hb33.alloc hb33.size _).trans (hb4.mono (hb33.alloc hb33.size _).size)); (first | (have hz4 : w4.heap[w3.heap.size]? = some BZF := (hb4.block _ (by simp)).trans (heap_alloc_new w3 BZF); obtain ⟨⟨f0, f1⟩, ff⟩ := fold_of (v := .slice none 0 0) (n := 0) hz4; have HZ4 : Hid (w4.heap[w3.heap.size]? = some BZF) := hz4; have HU4 : Hid (At EE (fun b => ¬ w3.heap.size = b) w4 (.slice p4 k4 c4) al) := hu4.imp (fun b hb _ => by simp at hb; omega); have HFS : Hid (Fr w.heap.size (.slice ao m cap) next no gen ((w4.setCell ⟨w3.heap.size, 0, none⟩ (.slice p4 k4 c4)).setCell ⟨w3.heap.size, 1, none⟩ (.int .i64 an))) := fr_set (fr_set (HFG.out _ hb44) (by have h7 := hb33.size; have h8 := cell_lt HF2.out.2.2.1; show w.heap.size ≠ w3.heap.size; omega) (by have h7 := hb33.size; have h8 := cell_lt HF2.out.2.2.1; show w.heap.size + 1 ≠ w3.heap.size; omega) _) (by have h7 := hb33.size; have h8 := cell_lt HF2.out.2.2.1; show w.heap.size ≠ w3.heap.size; omega) (by have h7 := hb33.size; have h8 := cell_lt HF2.out.2.2.1; show w.heap.size + 1 ≠ w3.heap.size; omega) _; clear hz4) | (have hz4 : w4.heap[W2.heap.size]? = some BZF := (hb4.block _ (Array.getElem?_eq_some_iff.1 hz3).1).trans hz3; obtain ⟨⟨f0, f1⟩, ff⟩ := fold_of (v := .slice none 0 0) (n := 0) hz4; have HZ4 : Hid (w4.heap[W2.heap.size]? = some BZF) := hz4; have HU4 : Hid (At EE (fun b => ¬ W2.heap.size = b) w4 (.slice p4 k4 c4) al) := hu4.imp (fun b hb _ => by have h3l := (Array.getElem?_eq_some_iff.1 hz3).1; omega); have HFS : Hid (Fr w.heap.size (.slice ao m cap) next no gen ((w4.setCell ⟨W2.heap.size, 0, none⟩ (.slice p4 k4 c4)).setCell ⟨W2.heap.size, 1, none⟩ (.int .i64 an))) := fr_set (fr_set (HFG.out _ hb44) (by have h7 := hb33.size; have h8 := cell_lt HF2.out.2.2.1; show w.heap.size ≠ W2.heap.size; omega) (by have h7 := hb33.size; have h8 := cell_lt HF2.out.2.2.1; show w.heap.size + 1 ≠ W2.heap.size; omega) _) (by have h7 := hb33.size; have h8 := cell_lt HF2.out.2.2.1; show w.heap.size ≠ W2.heap.size; omega) (by have h7 := hb33.size; have h8 := cell_lt HF2.out.2.2.1; show w.heap.size + 1 ≠ W2.heap.size; omega) _; clear hz4 hz3) | (have HU4 : Hid (AtW EE w4 (.slice p4 k4 c4) al) := hu4.wide; have hA : Below w3.heap.size w3 w4 := hb4; clear hA)); have HB44 : Hid (Below W2.heap.size W2 w4) := hb44; clear hu4 hb4 hb44))
    all_goals first
      | (obtain ⟨W5, hW5⟩ : ∃ W5, W5 = w4.alloc (BF (.slice p4 k4 c4) an) := ⟨_, rfl⟩
         rw [← hW5]
         have HBW : Hid (Below W2.heap.size W2 W5) := by rw [hW5]; exact HB44.out.alloc HB44.out.size _
         have HU5 : Hid (AtW EE W5 (.slice p4 k4 c4) al) := by rw [hW5]; exact HU4.out.up (up1 _ _)
         obtain ⟨b9, hb9⟩ : ∃ b9, b9 = w4.heap.size := ⟨_, rfl⟩
         have HX5 : Hid (W5.heap[b9]? = some (BF (.slice p4 k4 c4) an)) := by rw [hW5, hb9]; exact heap_alloc_new _ _
         rw [← hb9]
         clear hb9 hW5)
      | (obtain ⟨W5, hW5⟩ : ∃ W5, W5 = (w4.setCell ⟨w3.heap.size, 0, none⟩ (.slice p4 k4 c4)).setCell ⟨w3.heap.size, 1, none⟩ (.int .i64 an) := ⟨_, rfl⟩
         rw [← hW5]
         have HBW : Hid (Below W2.heap.size W2 W5) := by rw [hW5]; exact Below.setCell (Below.setCell HB44.out (show W2.heap.size ≤ w3.heap.size from hb33.size) _) (show W2.heap.size ≤ w3.heap.size from hb33.size) _
         have HU5 : Hid (AtW EE W5 (.slice p4 k4 c4) al) := by rw [hW5]; exact (At.setCell (At.setCell HU4.out (by simp) _) (by simp) _).wide
         obtain ⟨b9, hb9⟩ : ∃ b9, b9 = w3.heap.size := ⟨_, rfl⟩
         have HX5 : Hid (W5.heap[b9]? = some (BF (.slice p4 k4 c4) an)) := by rw [hW5, hb9]; exact set_fold HZ4.out
         rw [← hb9]
         clear hb9 hW5 f0 f1 ff)
      | (obtain ⟨W5, hW5⟩ : ∃ W5, W5 = (w4.setCell ⟨W2.heap.size, 0, none⟩ (.slice p4 k4 c4)).setCell ⟨W2.heap.size, 1, none⟩ (.int .i64 an) := ⟨_, rfl⟩
         rw [← hW5]
         have HBW : Hid (Below W2.heap.size W2 W5) := by rw [hW5]; exact Below.setCell (Below.setCell HB44.out (by simp) _) (by simp) _
         have HU5 : Hid (AtW EE W5 (.slice p4 k4 c4) al) := by rw [hW5]; exact (At.setCell (At.setCell HU4.out (by simp) _) (by simp) _).wide
         obtain ⟨b9, hb9⟩ : ∃ b9, b9 = W2.heap.size := ⟨_, rfl⟩
         have HX5 : Hid (W5.heap[b9]? = some (BF (.slice p4 k4 c4) an)) := by rw [hW5, hb9]; exact set_fold HZ4.out
         rw [← hb9]
         clear hb9 hW5 f0 f1 ff)
    all_goals
      obtain ⟨q0, q1, q2, q3⟩ := HFG.out _ HBW.out
      go_wp2_with fail
      refine (HREM.out _ (HVG.out _ HBW.out)).mono ?_
      rintro e w6 ⟨p6, k6, c6, rfl, hu6, hb6⟩
      have hup := up1 w6 (BD (.slice p6 k6 c6) fn)
      have HB6 : Hid (Below W2.heap.size W2 (w6.alloc (BD (.slice p6 k6 c6) fn))) := (HBW.out.trans (hb6.mono HBW.out.size)).alloc (HBW.out.trans (hb6.mono HBW.out.size)).size _
      have HU6 : Hid (AtW EE (w6.alloc (BD (.slice p6 k6 c6) fn)) (.slice p4 k4 c4) al ∧ AtW EE (w6.alloc (BD (.slice p6 k6 c6) fn)) (.slice p6 k6 c6) fl) := ⟨(HU5.out.up hb6).up hup, hu6.up hup⟩
      have HX6 : Hid ((w6.alloc (BD (.slice p6 k6 c6) fn)).heap[b9]? = some (BF (.slice p4 k4 c4) an) ∧ (w6.alloc (BD (.slice p6 k6 c6) fn)).heap[w6.heap.size]? = some (BD (.slice p6 k6 c6) fn)) := ⟨(Below.heap_alloc _ _ _ (Nat.lt_of_lt_of_le (Array.getElem?_eq_some_iff.1 HX5.out).1 hb6.size)).trans ((hb6.block _ (Array.getElem?_eq_some_iff.1 HX5.out).1).trans HX5.out), heap_alloc_new _ _⟩
      clear hup hb6 hu6 q0 q1 q2 q3
      obtain ⟨q0, q1, q2, q3⟩ := HFG.out _ HB6.out
      obtain ⟨W6, hW6⟩ : ∃ W6, W6 = w6.alloc (BD (.slice p6 k6 c6) fn) := ⟨_, rfl⟩
      rw [← hW6] at HB6 HU6 HX6
      go_wp2_with fail
      rw [← hW6]
      refine (ref_any ao m cap next _).mono ?_
      rintro e w7 ⟨rfl, hb7⟩
      have HB7 : Hid (Below W2.heap.size W2 w7) := HB6.out.trans (hb7.mono HB6.out.size)
      have HB67 : Hid (Below W6.heap.size W6 w7) := hb7
      clear hb7 q0 q1 q2 q3 hW6
      go_wp2_with fail
      refine (HRREM.out _ (HVG.out _ HB7.out)).mono ?_
      rintro e w8 ⟨p8, k8, c8, rfl, hu8, hb8⟩
      have hup := up1 w8 (BF (.slice p8 k8 c8) fn)
      have hb68 : Below W6.heap.size W6 w8 := HB67.out.trans (hb8.mono HB67.out.size)
      have HB8 : Hid (Below W2.heap.size W2 (w8.alloc (BF (.slice p8 k8 c8) fn))) := (HB7.out.trans (hb8.mono HB7.out.size)).alloc (HB7.out.trans (hb8.mono HB7.out.size)).size _
      have HU8 : Hid ((AtW EE (w8.alloc (BF (.slice p8 k8 c8) fn)) (.slice p4 k4 c4) al ∧ AtW EE (w8.alloc (BF (.slice p8 k8 c8) fn)) (.slice p6 k6 c6) fl) ∧ AtW EE (w8.alloc (BF (.slice p8 k8 c8) fn)) (.slice p8 k8 c8) fl ∧ AtW EE (w8.alloc (BF (.slice p8 k8 c8) fn)) (.slice p2 k2 c2) al) := ⟨⟨(HU6.out.1.up hb68).up hup, (HU6.out.2.up hb68).up hup⟩, hu8.up hup, HV2.out.2.up HB8.out⟩
      have HC1 : Hid ((w8.alloc (BF (.slice p8 k8 c8) fn)).heap[b9]? = some (BF (.slice p4 k4 c4) an)) := (Below.heap_alloc _ _ _ (Nat.lt_of_lt_of_le (Array.getElem?_eq_some_iff.1 HX6.out.1).1 hb68.size)).trans ((hb68.block _ (Array.getElem?_eq_some_iff.1 HX6.out.1).1).trans HX6.out.1)
      have HC2 : Hid ((w8.alloc (BF (.slice p8 k8 c8) fn)).heap[w6.heap.size]? = some (BD (.slice p6 k6 c6) fn)) := (Below.heap_alloc _ _ _ (Nat.lt_of_lt_of_le (Array.getElem?_eq_some_iff.1 HX6.out.2).1 hb68.size)).trans ((hb68.block _ (Array.getElem?_eq_some_iff.1 HX6.out.2).1).trans HX6.out.2)
      have HC3 : Hid ((w8.alloc (BF (.slice p8 k8 c8) fn)).heap[w8.heap.size]? = some (BF (.slice p8 k8 c8) fn)) := heap_alloc_new _ _
      have HC4 : Hid ((w8.alloc (BF (.slice p8 k8 c8) fn)).heap[w2.heap.size]? = some (BD (.slice p2 k2 c2) an)) := (HB8.out.block _ (Array.getElem?_eq_some_iff.1 HD2.out).1).trans HD2.out
      clear hup hb68 hb8 hu8
      obtain ⟨W8, hW8⟩ : ∃ W8, W8 = w8.alloc (BF (.slice p8 k8 c8) fn) := ⟨_, rfl⟩
      obtain ⟨⟨r0, r1⟩, -⟩ := fold_of HC1.out
      obtain ⟨⟨s0, s1⟩, -⟩ := dir_of HC4.out
      rw [← hW8] at HB8 HU8 HC1 HC2 HC3 HC4
      go_wp2_with fail
      rw [← hW8]
      refine (same_any _ _ al an _ HU8.out.2.2 HU8.out.1.1).mono ?_
      rintro e w9 ⟨rfl, hb9'⟩
      have HB9 : Hid (Below W2.heap.size W2 w9) := HB8.out.trans (hb9'.mono HB8.out.size)
      have HU9 : Hid (AtW EE w9 (.slice p6 k6 c6) fl ∧ AtW EE w9 (.slice p8 k8 c8) fl) := ⟨HU8.out.1.2.up hb9', HU8.out.2.1.up hb9'⟩
      obtain ⟨⟨t0, t3⟩, -⟩ := dir_of ((hb9'.block _ (Array.getElem?_eq_some_iff.1 HC2.out).1).trans HC2.out)
      obtain ⟨⟨o0, o1⟩, -⟩ := fold_of ((hb9'.block _ (Array.getElem?_eq_some_iff.1 HC3.out).1).trans HC3.out)
      clear hb9' hW8 r0 r1 s0 s1
      go_wp2_with fail
      refine (same_any _ _ fl fn _ HU9.out.1 HU9.out.2).mono ?_
      rintro e wa ⟨rfl, hba⟩
      have HBA : Hid (Below W2.heap.size W2 wa) := HB9.out.trans (hba.mono HB9.out.size)
      clear hba t0 t3 o0 o1
      go_wp2_with fail
      refine (two_any _).mono ?_
      rintro e wb ⟨rfl, hbb⟩
      have HBB : Hid (Below w.heap.size w wb) := HB2.out.trans ((HBA.out.trans (hbb.mono HBA.out.size)).mono HB2.out.size)
      clear hbb
      go_wp2
      go_ret
      exact ⟨rfl, HBB.out⟩

set_option maxRecDepth 100000 in
theorem folderChanges_lifted (os : Os) (started : os.Started) (H : Type) (enc : TypeId × Value → H) :
    ReturnsInHanded {} Try.checked os 4 .any (Rows.folderChangesSpec.pre6 enc Try.prog Try.f4 Rows.folderChangesRow.domain false) (Rows.folderChangesSpec.post enc Try.prog Try.f4 false true false false) := by
  refine returnsInHanded_of_change (C := Try.checked) own started (by kernel_rfl) Try.func4
    (ChangeSpec.witness6 (enc := enc) (C := Try.checked) false ⟨#[], #[.agg #[.slice none 0 0, .int .i64 0], .string ⟨#[]⟩, .agg #[.int .i64 0, .int .i64 0]], []⟩ 8 (by kernel_rfl) (by kernel_rfl) (by kernel_rfl) (by kernel_rfl)) ?_
  intro W base args ds gs before hval0 hW hcnd _
  have hval : ∀ (j : Nat) t v, Try.f4.params[j]? = some t → args[j]? = some v → Value.okWide Try.prog W .any base t v := hval0
  have hW' := hW
  have hlt : ∀ x ∈ before, x.block < W.heap.size := fun x hx => by simpa using hW'.lt x hx
  obtain ⟨p, q, hA0, hV, rfl, hfz, hnd⟩ := hW
  have hA : DataW.TrodAll enc Try.prog W 0 (fun _ => true) true Try.f4.params.toList args.toList ds p := hA0
  rw [Try.params4] at hA hval
  obtain ⟨v0, v1, v2, d0, d1, d2, p0, p1, p2, rfl, rfl, rfl, h0, h1, h2⟩ := trodAll_three hA
  obtain ⟨rfl, rfl⟩ := trodVars_none hV
  obtain ⟨u, l, next, rfl, hl, hs⟩ := open_dir (hval 0 24 v0 rfl rfl) h0
  obtain ⟨s, rfl, _, _, hsz⟩ := Go.ChangeMaps.open_string Try.underlying9 (hval 1 9 v1 rfl rfl) h1
  obtain ⟨no, gen, rfl⟩ := open_hand (hval 2 28 v2 rfl rfl) h2
  refine (changes_any u l next s no gen W hl hs hsz).mono fun e W' ⟨he, hg⟩ => ⟨_, he, ?_⟩
  exact Law.post laidOut (by kernel_rfl) rfl Try.underlying4 hW' rfl rfl hg

theorem folderChanges_holds : Rows.FolderChangesSaid :=
  OpenClaim.holds_of_wide 4 Try.f4 rfl rfl rfl rfl rfl rfl rfl ⟨rfl, rfl, rfl, rfl, rfl⟩ rfl rfl rfl rfl rfl (by kernel_rfl) Try.func4 (by kernel_rfl)
    (of_decide_eq_true (by kernel_rfl)) (by unfold Func.isWrapper; first | (rw [if_pos (by decide +kernel)]; kernel_rfl) | (rw [if_neg (by decide +kernel)]; exact ⟨rfl, rfl⟩))
    (fun os started H enc _ => folderChanges_lifted os started H enc)
#print axioms folderChanges_holds
end Go.Proofs.Ytlpnkcolpgodjaa
