/-
  The manifest, taken off a letter.
-/
import Derived.Test.YtlmoibicepppmaaDoorWData
namespace Go.Proofs.YtlmoibicepppmaaDoor
open Go.ChangeShapes Go.WideShapes Go.ChangeAt Go.RowKit Go.Deep Me
set_option maxRecDepth 100000
abbrev BMn (a b c : Int) : Obj := .cells #[.int .i64 a, .int .i64 b, .int .i64 c] 25
theorem set_at {w : World} {A : Nat} {cs : Array Value} {t : TypeId} (h : w.heap[A]? = some (.cells cs t)) (k : Nat) (u : Value) : (w.setCell ⟨A, k, none⟩ u).heap[A]? = some (.cells (cs.setIfInBounds k u) t) := by
  simp [World.setCell, Array.getElem?_modify, h]
theorem cell_at {w : World} {A : Nat} {cs : Array Value} {t : TypeId} (h : w.heap[A]? = some (.cells cs t)) (k : Nat) : w.cell? ⟨A, k, none⟩ = cs[k]? := by simp [World.cell?, h]
theorem fr_at {w : World} {A : Nat} {cs : Array Value} {t : TypeId} (h : w.heap[A]? = some (.cells cs t)) (k : Nat) : w.frozen? ⟨A, k, none⟩ = false := by simp [World.frozen?, h]
theorem results_cell1 {fn : Func} {p : Tmp} {ty : TypeId} (h : fn.results = #[.cell p ty]) (tmps : Array Value) (P : Program) (w : World) :
    (results fn tmps).run P w = ((asAddr (tmps.getD p undef)).run P w).andThen fun a w₁ => (loadVar ty a).run P w₁ := by
  simp only [results, h]
  simp [Sem.run_bind, Result.andThen]
structure Ms (w0 : World) (L Y X : Nat) (r : List (Int × ByteArray)) (s : ByteArray) (a b c : Int) (v : Value) (w : World) : Prop where
  lt : Lt w L v r
  mn : w.heap[Y]? = some (BMn a b c)
  vb : Vb w X s
  gr : w0.grownBy w (some L)
  h0 : w0.heap.size ≤ Y
  hL : L < Y
  hX : Y < X
theorem Ms.num {w0 w w' : World} {L Y X : Nat} {r : List (Int × ByteArray)} {s s' : ByteArray} {a b c : Int} {v : Value} (h : Ms w0 L Y X r s a b c v w) (hv : Vb w' X s') (hg : w.grownBy w' (some X)) : Ms w0 L Y X r s' a b c v w' := by
  have h1 := h.h0; have h2 := h.hL; have h3 := h.hX
  exact ⟨h.lt.grown (by omega) hg, (hg.block Y (block_lt h.mn) (by simp; omega)).trans h.mn, hv, grown_new h.gr (by omega) hg, h1, h2, h3⟩
theorem Ms.put {w0 w : World} {L Y X : Nat} {r : List (Int × ByteArray)} {s : ByteArray} {a b c a' b' c' : Int} {v : Value} (h : Ms w0 L Y X r s a b c v w) (k : Nat) (u : Value) (hk : (#[.int .i64 a, .int .i64 b, .int .i64 c] : Array Value).setIfInBounds k u = #[.int .i64 a', .int .i64 b', .int .i64 c']) : Ms w0 L Y X r s a' b' c' v (w.setCell ⟨Y, k, none⟩ u) := by
  have h1 := h.h0; have h2 := h.hL; have h3 := h.hX
  have hg := grown_set1 w Y k u
  refine ⟨h.lt.grown (by omega) hg, by rw [set_at h.mn, hk], h.vb.kept hg (by simp; omega), grown_new h.gr (by omega) hg, h1, h2, h3⟩
theorem Ms.cells {w0 w : World} {L Y X : Nat} {r : List (Int × ByteArray)} {s : ByteArray} {a b c : Int} {v : Value} (h : Ms w0 L Y X r s a b c v w) : w.cell? ⟨Y, 0, none⟩ = some (.int .i64 a) ∧ w.cell? ⟨Y, 1, none⟩ = some (.int .i64 b) ∧ w.cell? ⟨Y, 2, none⟩ = some (.int .i64 c) ∧ w.frozen? ⟨Y, 0, none⟩ = false ∧ w.frozen? ⟨Y, 1, none⟩ = false ∧ w.frozen? ⟨Y, 2, none⟩ = false :=
  ⟨cell_at h.mn 0, cell_at h.mn 1, cell_at h.mn 2, fr_at h.mn 0, fr_at h.mn 1, fr_at h.mn 2⟩
theorem Ms.start {w w1 : World} {L : Nat} {r : List (Int × ByteArray)} {s : ByteArray} {v v' : Value} {l : List (Int × ByteArray)} (h : Lt w L v l) (hl : Lt w1 L v' r) (hg : (w.alloc (BMn 0 0 0)).grownBy w1 (some L)) : Ms w L w.heap.size w1.heap.size r s 0 0 0 v' (w1.alloc (BV s)) := by
  have hL := h.box.lt
  have hs := hg.size
  simp at hs
  refine ⟨hl.up (below_alloc _ _), ?_, Boxed.new _ _ _, grown_trans (grown_trans (grown_of_below (below_alloc _ _) _) hg) (grown_of_below (below_alloc _ _) _), Nat.le_refl _, hL, by omega⟩
  exact blk ((hg.block w.heap.size (by simp) (by simp; omega)).trans (heap_alloc_new _ _)) (below_alloc _ _)
theorem man_skip (L : Nat) (v : Value) (l : List (Int × ByteArray)) (w : World) (h : Lt w L v l) (hl : ∀ x, l.head? = some x → x.1 ≠ 11) : Calls Tryd.prog 65 #[.pointer (some ⟨L, 0, none⟩)] w fun e w' => e = .returned (VMan 0 0 0) ∧ Below w.heap.size w w' := by
  have HN : Hid (Lt (w.alloc (BMn 0 0 0)) L v l ∧ ∀ x, l.head? = some x → x.1 ≠ 11) := ⟨h.up (below_alloc _ _), hl⟩
  clear h hl
  go_enter Tryd.func65, Tryd.ntmps65
  go_wp2_with fail
  refine (next_skip 11 L v l _ HN.out.1 HN.out.2).mono ?_
  rintro e w1 ⟨rfl, hb1⟩
  have HB : Hid (Below w.heap.size w (w1.alloc (BV ⟨#[]⟩))) := bup (bup (below_alloc _ _) hb1) (below_alloc _ _)
  have hm : (w1.alloc (BV ⟨#[]⟩)).heap[w.heap.size]? = some (BMn 0 0 0) := blk (blk (heap_alloc_new _ _) hb1) (below_alloc _ _)
  have m0 := cell_at hm 0
  have m1 := cell_at hm 1
  have m2 := cell_at hm 2
  have f0 := fr_at hm 0
  have f1 := fr_at hm 1
  have f2 := fr_at hm 2
  simp at m0 m1 m2
  clear hb1 hm
  go_wp2
  (try simp only [Exit.inBlock, Exit.then])
  refine bodyPost_ret (v := VMan 0 0 0) ?_ rfl ⟨rfl, ?_⟩
  · rw [results_cell1 rfl]
    go_simp
  · repeat (refine Below.setCell ?_ (by simp) _)
    exact HB.out
set_option maxRecDepth 100000 in
theorem man_short0 (L : Nat) (v : Value) (s : ByteArray) (l : List (Int × ByteArray)) (w : World) (h : Lt w L v ((11, s) :: l)) (hs : s.size ≤ 65535) (hneed : s.size < 6) : Calls Tryd.prog 65 #[.pointer (some ⟨L, 0, none⟩)] w fun e w' => e = PB ∧ w.grownBy w' (some L) := by
  have HL : Hid (Lt w L v ((11, s) :: l)) := h
  have HLW : Hid (Lt (w.alloc (BMn 0 0 0)) L v ((11, s) :: l)) := h.up (below_alloc _ _)
  have HS : Hid (s.size ≤ 65535) := hs
  clear h hs
  go_enter Tryd.func65, Tryd.ntmps65
  go_wp2_with fail
  refine (next_yes 11 s l L v _ HLW.out).mono ?_
  rintro e w1 ⟨rfl, ⟨v1, hl1⟩, hg1⟩
  have M0 : Hid (Ms w L w.heap.size w1.heap.size l s 0 0 0 v1 (w1.alloc (BV s))) := Ms.start HL.out hl1 hg1
  clear hg1 hl1
  obtain ⟨r1, hr1⟩ : ∃ r, s.extract 6 s.size = r := ⟨_, rfl⟩
  obtain ⟨r2, hr2⟩ : ∃ r, r1.extract 2 r1.size = r := ⟨_, rfl⟩
  obtain ⟨r3, hr3⟩ : ∃ r, r2.extract 4 r2.size = r := ⟨_, rfl⟩
  have HR : Hid (s.extract 6 s.size = r1 ∧ r1.extract 2 r1.size = r2 ∧ r2.extract 4 r2.size = r3) := ⟨hr1, hr2, hr3⟩
  have HSZ : Hid (s.size ≤ 65535 ∧ r1.size = s.size - 6 ∧ r2.size = s.size - 6 - 2 ∧ r3.size = s.size - 6 - 2 - 4 ∧ s.size < 6) := by
    have h1 : r1.size = s.size - 6 := by rw [← hr1, ByteArray.size_extract]; omega
    have h2 : r2.size = r1.size - 2 := by rw [← hr2, ByteArray.size_extract]; omega
    have h3 : r3.size = r2.size - 4 := by rw [← hr3, ByteArray.size_extract]; omega
    exact ⟨HS.out, h1, by omega, by omega, hneed⟩
  clear hr1 hr2 hr3 hneed
  go_wp2_with fail
  refine (vnum_no s 6 _ _ M0.out.vb (by have := HSZ.out; omega)).mono ?_
  rintro e x0 ⟨rfl, hb⟩
  have HG : Hid (w.grownBy x0 (some L)) := grown_trans M0.out.gr (grown_of_below hb _)
  clear hb
  go_wp2
  simp [bodyPost]
  exact HG.out
set_option maxRecDepth 100000 in
theorem man_short1 (L : Nat) (v : Value) (s : ByteArray) (l : List (Int × ByteArray)) (w : World) (h : Lt w L v ((11, s) :: l)) (hs : s.size ≤ 65535) (hneed : 6 ≤ s.size ∧ s.size < 8) : Calls Tryd.prog 65 #[.pointer (some ⟨L, 0, none⟩)] w fun e w' => e = PB ∧ w.grownBy w' (some L) := by
  have HL : Hid (Lt w L v ((11, s) :: l)) := h
  have HLW : Hid (Lt (w.alloc (BMn 0 0 0)) L v ((11, s) :: l)) := h.up (below_alloc _ _)
  have HS : Hid (s.size ≤ 65535) := hs
  clear h hs
  go_enter Tryd.func65, Tryd.ntmps65
  go_wp2_with fail
  refine (next_yes 11 s l L v _ HLW.out).mono ?_
  rintro e w1 ⟨rfl, ⟨v1, hl1⟩, hg1⟩
  have M0 : Hid (Ms w L w.heap.size w1.heap.size l s 0 0 0 v1 (w1.alloc (BV s))) := Ms.start HL.out hl1 hg1
  clear hg1 hl1
  obtain ⟨r1, hr1⟩ : ∃ r, s.extract 6 s.size = r := ⟨_, rfl⟩
  obtain ⟨r2, hr2⟩ : ∃ r, r1.extract 2 r1.size = r := ⟨_, rfl⟩
  obtain ⟨r3, hr3⟩ : ∃ r, r2.extract 4 r2.size = r := ⟨_, rfl⟩
  have HR : Hid (s.extract 6 s.size = r1 ∧ r1.extract 2 r1.size = r2 ∧ r2.extract 4 r2.size = r3) := ⟨hr1, hr2, hr3⟩
  have HSZ : Hid (s.size ≤ 65535 ∧ r1.size = s.size - 6 ∧ r2.size = s.size - 6 - 2 ∧ r3.size = s.size - 6 - 2 - 4 ∧ 6 ≤ s.size ∧ s.size < 8) := by
    have h1 : r1.size = s.size - 6 := by rw [← hr1, ByteArray.size_extract]; omega
    have h2 : r2.size = r1.size - 2 := by rw [← hr2, ByteArray.size_extract]; omega
    have h3 : r3.size = r2.size - 4 := by rw [← hr3, ByteArray.size_extract]; omega
    exact ⟨HS.out, h1, by omega, by omega, hneed⟩
  clear hr1 hr2 hr3 hneed
  go_wp2_with fail
  refine (vnum_yes s 6 _ _ M0.out.vb (by have := HSZ.out; omega) (by have := HSZ.out; omega)).mono ?_
  rintro e x0 ⟨rfl, hv, hg⟩
  rw [HR.out.1] at hv
  obtain ⟨a0, ha0⟩ : ∃ a, Pl.numVal (s.extract 0 6) = a := ⟨_, rfl⟩
  have HA0 : Hid (Pl.numVal (s.extract 0 6) = a0) := ha0
  rw [ha0]
  have N0 := M0.out.num hv hg
  obtain ⟨m0, m1, m2, f0, f1, f2⟩ := N0.cells
  have M1 : Hid (Ms w L w.heap.size w1.heap.size l r1 a0 0 0 v1 (x0.setCell ⟨w.heap.size, 0, none⟩ (.int .i64 a0))) := N0.put 0 _ rfl
  clear hv hg N0 M0 ha0
  go_wp2_with fail
  refine (vnum_no r1 2 _ _ M1.out.vb (by have := HSZ.out; omega)).mono ?_
  rintro e x1 ⟨rfl, hb⟩
  have HG : Hid (w.grownBy x1 (some L)) := grown_trans M1.out.gr (grown_of_below hb _)
  clear hb
  go_wp2
  simp [bodyPost]
  exact HG.out
set_option maxRecDepth 100000 in
theorem man_short2 (L : Nat) (v : Value) (s : ByteArray) (l : List (Int × ByteArray)) (w : World) (h : Lt w L v ((11, s) :: l)) (hs : s.size ≤ 65535) (hneed : 8 ≤ s.size ∧ s.size < 12) : Calls Tryd.prog 65 #[.pointer (some ⟨L, 0, none⟩)] w fun e w' => e = PB ∧ w.grownBy w' (some L) := by
  have HL : Hid (Lt w L v ((11, s) :: l)) := h
  have HLW : Hid (Lt (w.alloc (BMn 0 0 0)) L v ((11, s) :: l)) := h.up (below_alloc _ _)
  have HS : Hid (s.size ≤ 65535) := hs
  clear h hs
  go_enter Tryd.func65, Tryd.ntmps65
  go_wp2_with fail
  refine (next_yes 11 s l L v _ HLW.out).mono ?_
  rintro e w1 ⟨rfl, ⟨v1, hl1⟩, hg1⟩
  have M0 : Hid (Ms w L w.heap.size w1.heap.size l s 0 0 0 v1 (w1.alloc (BV s))) := Ms.start HL.out hl1 hg1
  clear hg1 hl1
  obtain ⟨r1, hr1⟩ : ∃ r, s.extract 6 s.size = r := ⟨_, rfl⟩
  obtain ⟨r2, hr2⟩ : ∃ r, r1.extract 2 r1.size = r := ⟨_, rfl⟩
  obtain ⟨r3, hr3⟩ : ∃ r, r2.extract 4 r2.size = r := ⟨_, rfl⟩
  have HR : Hid (s.extract 6 s.size = r1 ∧ r1.extract 2 r1.size = r2 ∧ r2.extract 4 r2.size = r3) := ⟨hr1, hr2, hr3⟩
  have HSZ : Hid (s.size ≤ 65535 ∧ r1.size = s.size - 6 ∧ r2.size = s.size - 6 - 2 ∧ r3.size = s.size - 6 - 2 - 4 ∧ 8 ≤ s.size ∧ s.size < 12) := by
    have h1 : r1.size = s.size - 6 := by rw [← hr1, ByteArray.size_extract]; omega
    have h2 : r2.size = r1.size - 2 := by rw [← hr2, ByteArray.size_extract]; omega
    have h3 : r3.size = r2.size - 4 := by rw [← hr3, ByteArray.size_extract]; omega
    exact ⟨HS.out, h1, by omega, by omega, hneed⟩
  clear hr1 hr2 hr3 hneed
  go_wp2_with fail
  refine (vnum_yes s 6 _ _ M0.out.vb (by have := HSZ.out; omega) (by have := HSZ.out; omega)).mono ?_
  rintro e x0 ⟨rfl, hv, hg⟩
  rw [HR.out.1] at hv
  obtain ⟨a0, ha0⟩ : ∃ a, Pl.numVal (s.extract 0 6) = a := ⟨_, rfl⟩
  have HA0 : Hid (Pl.numVal (s.extract 0 6) = a0) := ha0
  rw [ha0]
  have N0 := M0.out.num hv hg
  obtain ⟨m0, m1, m2, f0, f1, f2⟩ := N0.cells
  have M1 : Hid (Ms w L w.heap.size w1.heap.size l r1 a0 0 0 v1 (x0.setCell ⟨w.heap.size, 0, none⟩ (.int .i64 a0))) := N0.put 0 _ rfl
  clear hv hg N0 M0 ha0
  go_wp2_with fail
  clear m0 m1 m2 f0 f1 f2
  refine (vnum_yes r1 2 _ _ M1.out.vb (by have := HSZ.out; omega) (by have := HSZ.out; omega)).mono ?_
  rintro e x1 ⟨rfl, hv, hg⟩
  rw [HR.out.2.1] at hv
  obtain ⟨a1, ha1⟩ : ∃ a, Pl.numVal (r1.extract 0 2) = a := ⟨_, rfl⟩
  have HA1 : Hid (Pl.numVal (r1.extract 0 2) = a1) := ha1
  rw [ha1]
  have N1 := M1.out.num hv hg
  obtain ⟨m0, m1, m2, f0, f1, f2⟩ := N1.cells
  have M2 : Hid (Ms w L w.heap.size w1.heap.size l r2 a0 a1 0 v1 (x1.setCell ⟨w.heap.size, 1, none⟩ (.int .i64 a1))) := N1.put 1 _ rfl
  clear hv hg N1 M1 ha1
  go_wp2_with fail
  refine (vnum_no r2 4 _ _ M2.out.vb (by have := HSZ.out; omega)).mono ?_
  rintro e x2 ⟨rfl, hb⟩
  have HG : Hid (w.grownBy x2 (some L)) := grown_trans M2.out.gr (grown_of_below hb _)
  clear hb
  go_wp2
  simp [bodyPost]
  exact HG.out
set_option maxRecDepth 100000 in
theorem man_bad (L : Nat) (v : Value) (s : ByteArray) (l : List (Int × ByteArray)) (w : World) (h : Lt w L v ((11, s) :: l)) (hs : s.size ≤ 65535) (hneed : 12 ≤ s.size) : Calls Tryd.prog 65 #[.pointer (some ⟨L, 0, none⟩)] w fun e w' => ∃ a0 a1 a2, (a0 = Pl.numVal (s.extract 0 6) ∧ a1 = Pl.numVal ((s.extract 6 s.size).extract 0 2) ∧ a2 = Pl.numVal (((s.extract 6 s.size).extract 2 (s.extract 6 s.size).size).extract 0 4)) ∧ ((manZ a0 a1 a2 = true ∨ 12 < s.size) → e = PB ∧ w.grownBy w' (some L)) ∧ (manZ a0 a1 a2 = false → s.size = 12 → e = .returned (VMan a0 a1 a2) ∧ (∃ v', Lt w' L v' l) ∧ w.grownBy w' (some L)) := by
  have HL : Hid (Lt w L v ((11, s) :: l)) := h
  have HLW : Hid (Lt (w.alloc (BMn 0 0 0)) L v ((11, s) :: l)) := h.up (below_alloc _ _)
  have HS : Hid (s.size ≤ 65535) := hs
  clear h hs
  go_enter Tryd.func65, Tryd.ntmps65
  go_wp2_with fail
  refine (next_yes 11 s l L v _ HLW.out).mono ?_
  rintro e w1 ⟨rfl, ⟨v1, hl1⟩, hg1⟩
  have M0 : Hid (Ms w L w.heap.size w1.heap.size l s 0 0 0 v1 (w1.alloc (BV s))) := Ms.start HL.out hl1 hg1
  clear hg1 hl1
  obtain ⟨r1, hr1⟩ : ∃ r, s.extract 6 s.size = r := ⟨_, rfl⟩
  obtain ⟨r2, hr2⟩ : ∃ r, r1.extract 2 r1.size = r := ⟨_, rfl⟩
  obtain ⟨r3, hr3⟩ : ∃ r, r2.extract 4 r2.size = r := ⟨_, rfl⟩
  have HR : Hid (s.extract 6 s.size = r1 ∧ r1.extract 2 r1.size = r2 ∧ r2.extract 4 r2.size = r3) := ⟨hr1, hr2, hr3⟩
  have HSZ : Hid (s.size ≤ 65535 ∧ r1.size = s.size - 6 ∧ r2.size = s.size - 6 - 2 ∧ r3.size = s.size - 6 - 2 - 4 ∧ 12 ≤ s.size) := by
    have h1 : r1.size = s.size - 6 := by rw [← hr1, ByteArray.size_extract]; omega
    have h2 : r2.size = r1.size - 2 := by rw [← hr2, ByteArray.size_extract]; omega
    have h3 : r3.size = r2.size - 4 := by rw [← hr3, ByteArray.size_extract]; omega
    exact ⟨HS.out, h1, by omega, by omega, hneed⟩
  clear hr1 hr2 hr3 hneed
  go_wp2_with fail
  refine (vnum_yes s 6 _ _ M0.out.vb (by have := HSZ.out; omega) (by have := HSZ.out; omega)).mono ?_
  rintro e x0 ⟨rfl, hv, hg⟩
  rw [HR.out.1] at hv
  obtain ⟨a0, ha0⟩ : ∃ a, Pl.numVal (s.extract 0 6) = a := ⟨_, rfl⟩
  have HA0 : Hid (Pl.numVal (s.extract 0 6) = a0) := ha0
  rw [ha0]
  have N0 := M0.out.num hv hg
  obtain ⟨m0, m1, m2, f0, f1, f2⟩ := N0.cells
  have M1 : Hid (Ms w L w.heap.size w1.heap.size l r1 a0 0 0 v1 (x0.setCell ⟨w.heap.size, 0, none⟩ (.int .i64 a0))) := N0.put 0 _ rfl
  clear hv hg N0 M0 ha0
  go_wp2_with fail
  clear m0 m1 m2 f0 f1 f2
  refine (vnum_yes r1 2 _ _ M1.out.vb (by have := HSZ.out; omega) (by have := HSZ.out; omega)).mono ?_
  rintro e x1 ⟨rfl, hv, hg⟩
  rw [HR.out.2.1] at hv
  obtain ⟨a1, ha1⟩ : ∃ a, Pl.numVal (r1.extract 0 2) = a := ⟨_, rfl⟩
  have HA1 : Hid (Pl.numVal (r1.extract 0 2) = a1) := ha1
  rw [ha1]
  have N1 := M1.out.num hv hg
  obtain ⟨m0, m1, m2, f0, f1, f2⟩ := N1.cells
  have M2 : Hid (Ms w L w.heap.size w1.heap.size l r2 a0 a1 0 v1 (x1.setCell ⟨w.heap.size, 1, none⟩ (.int .i64 a1))) := N1.put 1 _ rfl
  clear hv hg N1 M1 ha1
  go_wp2_with fail
  clear m0 m1 m2 f0 f1 f2
  refine (vnum_yes r2 4 _ _ M2.out.vb (by have := HSZ.out; omega) (by have := HSZ.out; omega)).mono ?_
  rintro e x2 ⟨rfl, hv, hg⟩
  rw [HR.out.2.2] at hv
  obtain ⟨a2, ha2⟩ : ∃ a, Pl.numVal (r2.extract 0 4) = a := ⟨_, rfl⟩
  have HA2 : Hid (Pl.numVal (r2.extract 0 4) = a2) := ha2
  rw [ha2]
  have N2 := M2.out.num hv hg
  obtain ⟨m0, m1, m2, f0, f1, f2⟩ := N2.cells
  have M3 : Hid (Ms w L w.heap.size w1.heap.size l r3 a0 a1 a2 v1 (x2.setCell ⟨w.heap.size, 2, none⟩ (.int .i64 a2))) := N2.put 2 _ rfl
  clear hv hg N2 M2 ha2
  have HE : Hid (a0 = Pl.numVal (s.extract 0 6) ∧ a1 = Pl.numVal ((s.extract 6 s.size).extract 0 2) ∧ a2 = Pl.numVal (((s.extract 6 s.size).extract 2 (s.extract 6 s.size).size).extract 0 4)) := by
    show _ ∧ _ ∧ _
    rw [HR.out.1, HR.out.2.1]
    exact ⟨HA0.out.symm, HA1.out.symm, HA2.out.symm⟩
  have hnq := fun V => neq_man V a0 a1 a2
  obtain ⟨i0, i1, i2, j0, j1, j2⟩ := M3.out.cells
  have hvc := M3.out.vb.cell
  cases hz : manZ a0 a1 a2 with
  | true =>
    rw [hz] at hnq
    go_wp2_with fail
    refine (need_no _).mono ?_
    rintro e x4 ⟨rfl, rfl⟩
    go_wp2
    simp only [bodyPost]
    refine ⟨trivial, a0, a1, a2, HE.out, fun _ => ⟨trivial, M3.out.gr⟩, fun h => ?_⟩
    rw [hz] at h
    cases h
  | false =>
    rw [hz] at hnq
    by_cases h12 : 12 < s.size
    · have hem : r3.toList.isEmpty = false := toList_full (by have := HSZ.out; omega)
      go_wp2_with fail
      refine (need_no _).mono ?_
      rintro e x4 ⟨rfl, rfl⟩
      go_wp2
      simp only [bodyPost]
      exact ⟨trivial, a0, a1, a2, HE.out, fun _ => ⟨trivial, M3.out.gr⟩, fun _ h => by omega⟩
    · have hem : r3.toList.isEmpty = true := toList_none (by have := HSZ.out; omega)
      go_wp2_with fail
      refine (need_yes _).mono ?_
      rintro e x4 ⟨rfl, rfl⟩
      go_wp2
      (try simp only [Exit.inBlock, Exit.then])
      refine bodyPost_ret (v := VMan a0 a1 a2) ?_ rfl ⟨a0, a1, a2, HE.out, fun h => ?_, fun _ _ => ⟨rfl, ⟨v1, ((M3.out.put 0 _ rfl).put 1 _ rfl |>.put 2 _ rfl).lt⟩, ((M3.out.put 0 _ rfl).put 1 _ rfl |>.put 2 _ rfl).gr⟩⟩
      · rw [results_cell1 rfl]
        go_simp
      · rw [hz] at h
        rcases h with h | h
        · cases h
        · exact absurd h h12
def mn0 (s : ByteArray) : Int := Pl.numVal (s.extract 0 6)
def mn1 (s : ByteArray) : Int := Pl.numVal ((s.extract 6 s.size).extract 0 2)
def mn2 (s : ByteArray) : Int := Pl.numVal (((s.extract 6 s.size).extract 2 (s.extract 6 s.size).size).extract 0 4)
theorem mn0_eq (s : ByteArray) : mn0 s = Pl.numVal (s.extract 0 6) := by unfold mn0; rfl
theorem mn1_eq (s : ByteArray) : mn1 s = Pl.numVal ((s.extract 6 s.size).extract 0 2) := by unfold mn1; rfl
theorem mn2_eq (s : ByteArray) : mn2 s = Pl.numVal (((s.extract 6 s.size).extract 2 (s.extract 6 s.size).size).extract 0 4) := by unfold mn2; rfl
/-- The manifest, off a list of fields. -/
def pMan : List (Int × ByteArray) → Option ((Int × Int × Int) × List (Int × ByteArray))
  | [] => some ((0, 0, 0), [])
  | (t, s) :: l => if t = 11 then (if s.size = 12 ∧ manZ (mn0 s) (mn1 s) (mn2 s) = false then some ((mn0 s, mn1 s, mn2 s), l) else none) else some ((0, 0, 0), (t, s) :: l)
theorem man_any (L : Nat) (v : Value) (l : List (Int × ByteArray)) (w : World) (h : Lt w L v l) (hs : ∀ x ∈ l, x.2.size ≤ 65535) : Calls Tryd.prog 65 #[.pointer (some ⟨L, 0, none⟩)] w (Rd L w (pMan l) fun a u _ => u = VMan a.1 a.2.1 a.2.2) := by
  match l, h, hs with
  | [], h, _ =>
    refine (man_skip L v [] w h (by simp)).mono ?_
    rintro e w' ⟨rfl, hb⟩
    refine ⟨grown_of_below hb _, ?_, fun h => by simp [pMan] at h⟩
    rintro a r e
    simp only [pMan, Option.some.injEq, Prod.mk.injEq] at e
    obtain ⟨rfl, rfl⟩ := e
    exact ⟨⟨_, rfl, rfl⟩, v, h.up hb⟩
  | (t, s) :: l, h, hs =>
    have hss := hs _ (List.mem_cons_self ..)
    simp only at hss
    by_cases ht : t = 11
    · subst ht
      have hcl : pMan ((11, s) :: l) = none → ∀ (e : Ending) (w' : World), (e = PB ∧ w.grownBy w' (some L)) → Rd L w (pMan ((11, s) :: l)) (fun a u _ => u = VMan a.1 a.2.1 a.2.2) e w' := by
        rintro hq e w' ⟨rfl, hg⟩
        refine ⟨hg, ?_, fun _ => rfl⟩
        rintro a r e
        rw [hq] at e
        cases e
      have hno : ¬ s.size = 12 → pMan ((11, s) :: l) = none := fun h => by simp only [pMan, if_true]; rw [if_neg (fun hh => h hh.1)]
      by_cases h0 : s.size < 6
      · exact (man_short0 L v s l w h hss h0).mono (hcl (hno (by omega)))
      by_cases h1 : s.size < 8
      · exact (man_short1 L v s l w h hss ⟨by omega, h1⟩).mono (hcl (hno (by omega)))
      by_cases h2 : s.size < 12
      · exact (man_short2 L v s l w h hss ⟨by omega, h2⟩).mono (hcl (hno (by omega)))
      refine (man_bad L v s l w h hss (by omega)).mono ?_
      rintro e w' ⟨a0, a1, a2, ⟨ha0, ha1, ha2⟩, hbad, hok⟩
      rw [← mn0_eq] at ha0
      rw [← mn1_eq] at ha1
      rw [← mn2_eq] at ha2
      rw [ha0, ha1, ha2] at hbad hok
      by_cases hz : manZ (mn0 s) (mn1 s) (mn2 s) = true
      · have hq : pMan ((11, s) :: l) = none := by simp only [pMan, if_true]; rw [if_neg (fun hh => by rw [hz] at hh; cases hh.2)]
        exact hcl hq e w' (hbad (.inl hz))
      · have hz' : manZ (mn0 s) (mn1 s) (mn2 s) = false := by simpa using hz
        by_cases h12 : 12 < s.size
        · exact hcl (hno (by omega)) e w' (hbad (.inr h12))
        · have e12 : s.size = 12 := by omega
          have hq : pMan ((11, s) :: l) = some ((mn0 s, mn1 s, mn2 s), l) := by simp only [pMan, if_true]; rw [if_pos ⟨e12, hz'⟩]
          have hok' := hok hz' e12
          clear hbad hok hz hz' ha0 ha1 ha2
          generalize mn0 s = b0 at *
          generalize mn1 s = b1 at *
          generalize mn2 s = b2 at *
          obtain ⟨rfl, hl, hg⟩ := hok'
          refine ⟨hg, ?_, fun h => by rw [hq] at h; cases h⟩
          rintro a r e
          rw [hq] at e
          simp only [Option.some.injEq, Prod.mk.injEq] at e
          obtain ⟨rfl, rfl⟩ := e
          exact ⟨⟨_, rfl, rfl⟩, hl⟩
    · refine (man_skip L v ((t, s) :: l) w h (by rintro x hx; simp at hx; subst hx; exact ht)).mono ?_
      rintro e w' ⟨rfl, hb⟩
      refine ⟨grown_of_below hb _, ?_, fun h => by simp [pMan, ht] at h⟩
      rintro a r e
      simp only [pMan, if_neg ht, Option.some.injEq, Prod.mk.injEq] at e
      obtain ⟨rfl, rfl⟩ := e
      exact ⟨⟨_, rfl, rfl⟩, v, h.up hb⟩
end Go.Proofs.YtlmoibicepppmaaDoor
