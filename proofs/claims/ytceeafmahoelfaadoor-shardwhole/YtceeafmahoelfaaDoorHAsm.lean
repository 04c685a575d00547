/-
  An assembler in memory: a manifest and 256 texts in one block; New, pieces and Of.
-/
import Derived.Test.YtceeafmahoelfaaDoorHSplit
namespace Go.Proofs.YtceeafmahoelfaaDoor
open Go.ChangeShapes Go.WideShapes Go.ChangeAt Go.RowKit

/-- The block A holds an assembler of m, with the texts f. -/
def AsmAt (w : World) (A : Nat) (m : Sh.Mf) (f : Nat → ByteArray) : Prop := ∃ cur : Array Value, w.heap[A]? = some (.cells cur 74 (0, 0)) ∧ cur[0]? = some (.int .i64 m.op) ∧ cur[1]? = some (.int .i64 m.size) ∧ cur[2]? = some (.int .i64 m.sum) ∧ ∀ i, i < 256 → cur[3 + i]? = some (.string (f i))
theorem AsmAt.lt {w : World} {A : Nat} {m : Sh.Mf} {f : Nat → ByteArray} (h : AsmAt w A m f) : A < w.heap.size := by
  obtain ⟨cur, hb, _⟩ := h
  exact (Array.getElem?_eq_some_iff.1 hb).1
theorem AsmAt.three {w : World} {A : Nat} {m : Sh.Mf} {f : Nat → ByteArray} (h : AsmAt w A m f) : w.cell? ⟨A, 0, none⟩ = some (.int .i64 m.op) ∧ w.cell? ⟨A, 1, none⟩ = some (.int .i64 m.size) ∧ w.cell? ⟨A, 2, none⟩ = some (.int .i64 m.sum) := by
  obtain ⟨cur, hb, h0, h1, h2, _⟩ := h
  exact ⟨by simp [World.cell?, hb, h0], by simp [World.cell?, hb, h1], by simp [World.cell?, hb, h2]⟩
theorem AsmAt.cell {w : World} {A : Nat} {m : Sh.Mf} {f : Nat → ByteArray} (h : AsmAt w A m f) {i : Nat} (hi : i < 256) : w.cell? ⟨A, 3 + i, none⟩ = some (.string (f i)) ∧ w.frozen? ⟨A, 3 + i, none⟩ = false := by
  obtain ⟨cur, hb, _, _, _, hg⟩ := h
  exact ⟨by simp [World.cell?, hb, hg i hi], by simp [World.frozen?, hb]⟩
theorem AsmAt.kept {w w' : World} {A : Nat} {m : Sh.Mf} {f : Nat → ByteArray} {row : Option Nat} (h : AsmAt w A m f) (hg : w.grownBy w' row) (hne : some A ≠ row) : AsmAt w' A m f := by
  have := h.lt
  obtain ⟨cur, hb, hc⟩ := h
  exact ⟨cur, (hg.block A this hne).trans hb, hc⟩
theorem AsmAt.up {w w' : World} {A : Nat} {m : Sh.Mf} {f : Nat → ByteArray} (h : AsmAt w A m f) (hb : Below w.heap.size w w') : AsmAt w' A m f := h.kept (grown_of_below hb none) (by simp)
theorem AsmAt.put {w : World} {A : Nat} {m : Sh.Mf} {f g : Nat → ByteArray} (h : AsmAt w A m f) {i : Nat} {s : ByteArray} (hg : ∀ j, j < 256 → g j = if j = i then s else f j) : AsmAt (w.setCell ⟨A, 3 + i, none⟩ (.string s)) A m g := by
  obtain ⟨cur, hb, h0, h1, h2, hc⟩ := h
  refine ⟨cur.setIfInBounds (3 + i) (.string s), by simp [World.setCell, Array.getElem?_modify, hb], ?_, ?_, ?_, fun j hj => ?_⟩
  · rw [Array.getElem?_setIfInBounds_ne (by omega)]; exact h0
  · rw [Array.getElem?_setIfInBounds_ne (by omega)]; exact h1
  · rw [Array.getElem?_setIfInBounds_ne (by omega)]; exact h2
  · rw [hg j hj]
    have hjs : 3 + j < cur.size := (Array.getElem?_eq_some_iff.1 (hc j hj)).1
    by_cases e : j = i
    · subst e
      rw [if_pos rfl]
      simp [hjs]
    · rw [if_neg e, Array.getElem?_setIfInBounds_ne (by omega)]
      exact hc j hj
theorem AsmAt.congr {w : World} {A : Nat} {m : Sh.Mf} {f g : Nat → ByteArray} (h : AsmAt w A m f) (hg : ∀ j, j < 256 → g j = f j) : AsmAt w A m g := by
  obtain ⟨cur, hb, h0, h1, h2, hc⟩ := h
  exact ⟨cur, hb, h0, h1, h2, fun j hj => by rw [hg j hj]; exact hc j hj⟩
def asmZero : Array Value := #[.int .i64 0, .int .i64 0, .int .i64 0] ++ Array.replicate 256 (.string ⟨#[]⟩)
theorem asm_info : (Tryd.prog.info? 74).map (fun i => i.zero) = some (some (.agg asmZero)) := by kernel_rfl
theorem asm_zero (w : World) : (zeroValue 74).run Tryd.prog w = .ok (.agg asmZero) w := by
  obtain ⟨i, hi, hz⟩ := Option.map_eq_some_iff.1 asm_info
  simp [zeroValue, typeInfo, hi, hz]
theorem asm_size : asmZero.size = 259 := by simp [asmZero]
theorem asm_new (w : World) (m : Sh.Mf) : AsmAt (w.alloc (.cells (((asmZero.setIfInBounds 0 (.int .i64 m.op)).setIfInBounds 1 (.int .i64 m.size)).setIfInBounds 2 (.int .i64 m.sum)) 74)) w.heap.size m (fun _ => ⟨#[]⟩) := by
  have hs := asm_size
  refine ⟨_, heap_alloc_new _ _, ?_, ?_, ?_, fun i hi => ?_⟩
  · rw [Array.getElem?_setIfInBounds_ne (by omega), Array.getElem?_setIfInBounds_ne (by omega), Array.getElem?_setIfInBounds_self_of_lt (by omega)]
  · rw [Array.getElem?_setIfInBounds_ne (by omega), Array.getElem?_setIfInBounds_self_of_lt (by simp; omega)]
  · rw [Array.getElem?_setIfInBounds_self_of_lt (by simp; omega)]
  · rw [Array.getElem?_setIfInBounds_ne (by omega), Array.getElem?_setIfInBounds_ne (by omega), Array.getElem?_setIfInBounds_ne (by omega)]
    unfold asmZero
    rw [Array.getElem?_append_right (by simp)]
    simp [hi]
set_option maxRecDepth 100000 in
set_option maxRecDepth 100000 in
set_option maxHeartbeats 1000000 in
theorem new_ok (m : Sh.Mf) (w : World) (hm : Sh.okM m = true) : Calls Tryd.prog 14 #[m.val] w fun e w' => ∃ A, e = .returned (.tuple #[.pointer (some ⟨A, 0, none⟩), .int .i64 0]) ∧ w.heap.size ≤ A ∧ AsmAt w' A m (fun _ => ⟨#[]⟩) ∧ Below w.heap.size w w' := by
  have HE : Hid (Sh.chkE m = 0) := show Sh.chkE m = 0 by unfold Sh.chkE; rw [hm]; rfl
  obtain ⟨o, n, s⟩ := m
  have hzv := asm_zero
  have HN : Hid (∀ w, AsmAt (World.alloc w (.cells (((asmZero.setIfInBounds 0 (.int .i64 o)).setIfInBounds 1 (.int .i64 n)).setIfInBounds 2 (.int .i64 s)) 74)) w.heap.size ⟨o, n, s⟩ (fun _ => ⟨#[]⟩)) := fun w => asm_new w ⟨o, n, s⟩
  have hz3 : ¬ asmZero.size < 3 := by rw [asm_size]; omega
  generalize asmZero = Z at *
  clear hm
  show Calls Tryd.prog 14 #[.agg #[.int .i64 o, .int .i64 n, .int .i64 s]] w _
  go_enter Tryd.func14, Tryd.ntmps14
  go_wp2_with fail
  refine (check_any ⟨o, n, s⟩ _).mono ?_
  rintro e w1 ⟨rfl, hb1⟩
  rw [HE.out]
  have c0 := (hb1.cell (p := ⟨w.heap.size, 0, none⟩) (by simp)).trans (show (w.alloc (.cells #[.int .i64 o, .int .i64 n, .int .i64 s] 23)).cell? ⟨w.heap.size, 0, none⟩ = some (.int .i64 o) by simp)
  have c1 := (hb1.cell (p := ⟨w.heap.size, 1, none⟩) (by simp)).trans (show (w.alloc (.cells #[.int .i64 o, .int .i64 n, .int .i64 s] 23)).cell? ⟨w.heap.size, 1, none⟩ = some (.int .i64 n) by simp)
  have c2 := (hb1.cell (p := ⟨w.heap.size, 2, none⟩) (by simp)).trans (show (w.alloc (.cells #[.int .i64 o, .int .i64 n, .int .i64 s] 23)).cell? ⟨w.heap.size, 2, none⟩ = some (.int .i64 s) by simp)
  have HB : Hid (Below w.heap.size w w1) := bup (below_alloc _ _) hb1
  clear hb1
  go_wp2
  go_ret2
  exact ⟨_, rfl, HB.out.size, HN.out w1, bup HB.out (below_alloc _ _)⟩
set_option maxRecDepth 100000 in
set_option maxHeartbeats 1000000 in
theorem new_no (m : Sh.Mf) (w : World) (hm : Sh.okM m = false) : Calls Tryd.prog 14 #[m.val] w fun e w' => e = .returned (.tuple #[.pointer none, .int .i64 4]) ∧ Below w.heap.size w w' := by
  have HE : Hid (Sh.chkE m = 4) := show Sh.chkE m = 4 by unfold Sh.chkE; rw [hm]; rfl
  obtain ⟨o, n, s⟩ := m
  clear hm
  show Calls Tryd.prog 14 #[.agg #[.int .i64 o, .int .i64 n, .int .i64 s]] w _
  go_enter Tryd.func14, Tryd.ntmps14
  go_wp2_with fail
  refine (check_any ⟨o, n, s⟩ _).mono ?_
  rintro e w1 ⟨rfl, hb1⟩
  rw [HE.out]
  have HB : Hid (Below w.heap.size w w1) := bup (below_alloc _ _) hb1
  clear hb1
  go_wp2
  go_ret2
  exact ⟨rfl, HB.out⟩
theorem pieces_nil (w : World) : Calls Tryd.prog 29 #[.pointer none] w fun e w' => e = .returned (.slice none 0 0) ∧ w' = w := by
  go_enter Tryd.func29, Tryd.ntmps29
  go_wp2
  go_ret
  exact ⟨rfl, rfl⟩
set_option maxRecDepth 100000 in
set_option maxRecDepth 100000 in
set_option maxHeartbeats 1000000 in
theorem pieces_any (A : Nat) (m : Sh.Mf) (f : Nat → ByteArray) (w : World) (hA : AsmAt w A m f) (hm : Sh.okM m = true) : Calls Tryd.prog 29 #[.pointer (some ⟨A, 0, none⟩)] w fun e w' => e = .returned (.slice (some ⟨A, 3, none⟩) (Sh.cnt m.size.toNat) 256) ∧ ∃ q, w' = w.drewN q := by
  obtain ⟨c0, c1, c2⟩ := hA.three
  obtain ⟨o, n, s⟩ := m
  have hk : 1 ≤ n ∧ n ≤ 65535 := by
    rcases Sh.okM_cases ⟨o, n, s⟩ with ⟨_, _, h, _⟩ | ⟨h, _⟩
    · exact h
    · rw [hm] at h; cases h
  obtain ⟨k, rfl⟩ : ∃ k : Nat, n = k := ⟨n.toNat, by omega⟩
  have hk1 : k ≤ 65535 := by omega
  have hc := Sh.cnt_le hk1
  have hcI : (Sh.cnt k : Int) ≤ 256 := by omega
  have hcJ : (0 : Int) ≤ (Sh.cnt k : Int) := by omega
  simp only [Int.toNat_natCast] at *
  obtain ⟨c, hcc⟩ : ∃ c, Sh.cnt k = c := ⟨_, rfl⟩
  have HCT : Hid (∀ w, Calls Tryd.prog 25 #[.int .i64 k] w fun e w' => e = .returned (.int .i64 (c : Int)) ∧ w' = w) := fun w => by rw [← hcc]; exact count_any k w hk1
  rw [hcc] at hc hcI hcJ ⊢
  clear hcc hA hm
  go_enter Tryd.func29, Tryd.ntmps29
  go_wp2
  go_quiet ((go_at_call 25; exact Calls.quiet_of_same (HCT.out _)))
  go_wp2
  go_ret
  exact ⟨rfl, _, rfl⟩
end Go.Proofs.YtceeafmahoelfaaDoor
