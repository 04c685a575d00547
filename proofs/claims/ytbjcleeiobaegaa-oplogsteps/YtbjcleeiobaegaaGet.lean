/-
  oplog's Get.
-/
import Derived.Test.YtbjcleeiobaegaaBetween
namespace Go.Proofs.Ytbjcleeiobaegaa
open Go.RowKit Go.Shelf

set_option maxHeartbeats 1000000 in
set_option maxRecDepth 100000 in
theorem get_gone {s : Nat} {base : Int} {v : Value} {ls : List Ol.It} (n : Int) (w : World) (h : LogAt w s base v ls) (h1 : 1 ≤ n) (h2 : n ≤ base) : Calls Try.prog 11 #[.pointer (some ⟨s, 0, none⟩), .int .i64 n] w fun e w' => e = .returned (.tuple #[item Ol.d0, .int .i64 50]) ∧ w.grownBy w' none := by
  have H : Hid (LogAt (w.alloc Z4) s base v ls) := h.still (World.grownBy_alloc _ _ _)
  clear h
  go_enter Try.func11, Try.ntmps11
  go_wp2_with fail
  refine (base_any _ H.out).mono ?_
  rintro e w2 ⟨rfl, rfl⟩
  go_wp2
  (try simp only [Exit.inBlock, Exit.then])
  refine bodyPost_ret (v := .tuple #[item Ol.d0, .int .i64 50]) ?_ rfl ⟨rfl, ?_⟩
  · rw [results_cell_tmp rfl]
    unfold item
    go_simp
  · exact World.grownBy_alloc _ _ _
set_option maxHeartbeats 1000000 in
set_option maxRecDepth 100000 in
theorem get_in {s : Nat} {base : Int} {v : Value} {ls : List Ol.It} (n : Int) (w : World) (h : LogAt w s base v ls) (h1 : base < n) (h2 : n ≤ base + ls.length) : Calls Try.prog 11 #[.pointer (some ⟨s, 0, none⟩), .int .i64 n] w fun e w' => e = .returned (.tuple #[item (Ol.at base ls n), .int .i64 0]) ∧ w.grownBy w' none := by
  have H : Hid (LogAt (w.alloc Z4) s base v ls) := h.still (World.grownBy_alloc _ _ _)
  have g0 := h.good.zero
  have n1 : 1 ≤ n := by omega
  have n2 : ¬ n ≤ base := by omega
  have hr : Ol.right (Ol.at base ls n) := by
    unfold Ol.at
    rw [if_pos ⟨h1, h2⟩]
    exact h.good.rights _ (Ol.getD_mem (by omega))
  have hreq := hr.2.2.1.1
  clear h hr
  go_enter Try.func11, Try.ntmps11
  go_wp2_with fail
  refine (base_any _ H.out).mono ?_
  rintro e w2 ⟨rfl, rfl⟩
  go_wp2_with fail
  refine (at_any _ _ H.out).mono ?_
  rintro e w2 ⟨rfl, hg⟩
  have hA : w2.heap[w.heap.size]? = some Z4 := (hg.block w.heap.size (by simp) (by simp)).trans (heap_alloc_new _ _)
  obtain ⟨⟨a0, a1, a2, a3⟩, af⟩ := four_of hA
  have hlt : w.heap.size < w2.heap.size := (Array.getElem?_eq_some_iff.1 hA).1
  have hne : ¬ w.heap.size = w2.heap.size := by omega
  have HG : Hid (w.grownBy w2 none) := grown_trans (World.grownBy_alloc _ _ _) hg
  clear hg hA
  generalize hxx : Ol.at base ls n = x at *
  obtain ⟨x0, x1, x2, x3⟩ := x
  simp only at hreq
  unfold item
  simp only
  have HXX : Hid (Ol.at base ls n = (x0, x1, x2, x3)) := hxx
  clear hxx
  go_wp2
  (try simp only [Exit.inBlock, Exit.then])
  refine bodyPost_ret (v := .tuple #[item (x0, x1, x2, x3), .int .i64 0]) ?_ rfl ⟨by rw [HXX.out], ?_⟩
  · rw [results_cell_tmp rfl]
    unfold item
    go_simp
  · exact grown_trans (grown_set4 HG.out (Nat.le_refl _) _ _ _ _) (World.grownBy_alloc _ _ _)
set_option maxHeartbeats 1000000 in
set_option maxRecDepth 100000 in
theorem get_out {s : Nat} {base : Int} {v : Value} {ls : List Ol.It} (n : Int) (w : World) (h : LogAt w s base v ls) (hn : n < 1 ∨ base + ls.length < n) : Calls Try.prog 11 #[.pointer (some ⟨s, 0, none⟩), .int .i64 n] w fun e w' => e = .returned (.tuple #[item Ol.d0, .int .i64 6]) ∧ w.grownBy w' none := by
  have H : Hid (LogAt (w.alloc Z4) s base v ls) := h.still (World.grownBy_alloc _ _ _)
  have g0 := h.good.zero
  have HN : Hid (n ≤ base ∨ base + ls.length < n) := show n ≤ base ∨ base + ls.length < n by omega
  clear h
  by_cases n1 : 1 ≤ n
  · have n2 : ¬ n ≤ base := by omega
    clear hn
    go_enter Try.func11, Try.ntmps11
    go_wp2_with fail
    refine (base_any _ H.out).mono ?_
    rintro e w2 ⟨rfl, rfl⟩
    go_wp2_with fail
    refine (at_out _ _ H.out HN.out).mono ?_
    rintro e w2 ⟨rfl, hg⟩
    have hA : w2.heap[w.heap.size]? = some Z4 := (hg.block w.heap.size (by simp) (by simp)).trans (heap_alloc_new _ _)
    obtain ⟨⟨a0, a1, a2, a3⟩, af⟩ := four_of hA
    have hlt : w.heap.size < w2.heap.size := (Array.getElem?_eq_some_iff.1 hA).1
    have hne : ¬ w.heap.size = w2.heap.size := by omega
    have HG : Hid (w.grownBy w2 none) := grown_trans (World.grownBy_alloc _ _ _) hg
    clear hg hA
    unfold item
    simp only
    go_wp2
    (try simp only [Exit.inBlock, Exit.then])
    refine bodyPost_ret (v := .tuple #[item Ol.d0, .int .i64 6]) ?_ rfl ⟨rfl, ?_⟩
    · rw [results_cell_tmp rfl]
      unfold item
      go_simp
    · exact grown_trans (grown_set4 HG.out (Nat.le_refl _) _ _ _ _) (World.grownBy_alloc _ _ _)
  · clear hn
    go_enter Try.func11, Try.ntmps11
    go_wp2_with fail
    refine (at_out _ _ H.out HN.out).mono ?_
    rintro e w2 ⟨rfl, hg⟩
    have hA : w2.heap[w.heap.size]? = some Z4 := (hg.block w.heap.size (by simp) (by simp)).trans (heap_alloc_new _ _)
    obtain ⟨⟨a0, a1, a2, a3⟩, af⟩ := four_of hA
    have hlt : w.heap.size < w2.heap.size := (Array.getElem?_eq_some_iff.1 hA).1
    have hne : ¬ w.heap.size = w2.heap.size := by omega
    have HG : Hid (w.grownBy w2 none) := grown_trans (World.grownBy_alloc _ _ _) hg
    clear hg hA
    unfold item
    simp only
    go_wp2
    (try simp only [Exit.inBlock, Exit.then])
    refine bodyPost_ret (v := .tuple #[item Ol.d0, .int .i64 6]) ?_ rfl ⟨rfl, ?_⟩
    · rw [results_cell_tmp rfl]
      unfold item
      go_simp
    · exact grown_trans (grown_set4 HG.out (Nat.le_refl _) _ _ _ _) (World.grownBy_alloc _ _ _)
set_option maxHeartbeats 1000000 in
set_option maxRecDepth 100000 in
theorem get_nil (n : Int) (w : World) : Calls Try.prog 11 #[.pointer none, .int .i64 n] w fun e w' => e = .returned (.tuple #[item Ol.d0, .int .i64 6]) ∧ w.grownBy w' none := by
  by_cases n1 : 1 ≤ n
  · have n2 : ¬ n ≤ 0 := by omega
    go_enter Try.func11, Try.ntmps11
    go_wp2_with fail
    refine (base_nil _).mono ?_
    rintro e w2 ⟨rfl, rfl⟩
    go_wp2_with fail
    refine (at_nil _ _).mono ?_
    rintro e w2 ⟨rfl, hg⟩
    have hA : w2.heap[w.heap.size]? = some Z4 := (hg.block w.heap.size (by simp) (by simp)).trans (heap_alloc_new _ _)
    obtain ⟨⟨a0, a1, a2, a3⟩, af⟩ := four_of hA
    have hlt : w.heap.size < w2.heap.size := (Array.getElem?_eq_some_iff.1 hA).1
    have hne : ¬ w.heap.size = w2.heap.size := by omega
    have HG : Hid (w.grownBy w2 none) := grown_trans (World.grownBy_alloc _ _ _) hg
    clear hg hA
    unfold item
    simp only
    go_wp2
    (try simp only [Exit.inBlock, Exit.then])
    refine bodyPost_ret (v := .tuple #[item Ol.d0, .int .i64 6]) ?_ rfl ⟨rfl, ?_⟩
    · rw [results_cell_tmp rfl]
      unfold item
      go_simp
    · exact grown_trans (grown_set4 HG.out (Nat.le_refl _) _ _ _ _) (World.grownBy_alloc _ _ _)
  · go_enter Try.func11, Try.ntmps11
    go_wp2_with fail
    refine (at_nil _ _).mono ?_
    rintro e w2 ⟨rfl, hg⟩
    have hA : w2.heap[w.heap.size]? = some Z4 := (hg.block w.heap.size (by simp) (by simp)).trans (heap_alloc_new _ _)
    obtain ⟨⟨a0, a1, a2, a3⟩, af⟩ := four_of hA
    have hlt : w.heap.size < w2.heap.size := (Array.getElem?_eq_some_iff.1 hA).1
    have hne : ¬ w.heap.size = w2.heap.size := by omega
    have HG : Hid (w.grownBy w2 none) := grown_trans (World.grownBy_alloc _ _ _) hg
    clear hg hA
    unfold item
    simp only
    go_wp2
    (try simp only [Exit.inBlock, Exit.then])
    refine bodyPost_ret (v := .tuple #[item Ol.d0, .int .i64 6]) ?_ rfl ⟨rfl, ?_⟩
    · rw [results_cell_tmp rfl]
      unfold item
      go_simp
    · exact grown_trans (grown_set4 HG.out (Nat.le_refl _) _ _ _ _) (World.grownBy_alloc _ _ _)
def Ol.getErr (base : Int) (len : Nat) (n : Int) : Int := if 1 ≤ n ∧ n ≤ base then 50 else if n < 1 ∨ base + len < n then 6 else 0
theorem get_any {s : Nat} {base : Int} {v : Value} {ls : List Ol.It} (n : Int) (w : World) (h : LogAt w s base v ls) : Calls Try.prog 11 #[.pointer (some ⟨s, 0, none⟩), .int .i64 n] w fun e w' => e = .returned (.tuple #[item (Ol.at base ls n), .int .i64 (Ol.getErr base ls.length n)]) ∧ w.grownBy w' none := by
  have g0 := h.good.zero
  unfold Ol.getErr
  by_cases h1 : 1 ≤ n ∧ n ≤ base
  · rw [if_pos h1]
    unfold Ol.at
    rw [if_neg (by omega)]
    exact get_gone n w h h1.1 h1.2
  rw [if_neg h1]
  by_cases h2 : n < 1 ∨ base + ls.length < n
  · rw [if_pos h2]
    unfold Ol.at
    rw [if_neg (by omega)]
    exact get_out n w h h2
  · rw [if_neg h2]
    exact get_in n w h (by omega) (by omega)
end Go.Proofs.Ytbjcleeiobaegaa
