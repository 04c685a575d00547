/-
  shard's Of and Add: what each answers, and what is there behind it.
-/
import Derived.Test.YtceeafmahoelfaaDoorHAsm
namespace Go.Proofs.YtceeafmahoelfaaDoor
open Go.ChangeShapes Go.WideShapes Go.ChangeAt Go.RowKit

set_option maxRecDepth 100000 in
set_option maxHeartbeats 1000000 in
theorem of_nil (w : World) : Calls Tryd.prog 15 #[.pointer none] w fun e w' => e = .returned (.agg #[.int .i64 0, .int .i64 0, .int .i64 0]) ∧ Below w.heap.size w w' := by
  go_enter Tryd.func15, Tryd.ntmps15
  go_wp2
  exact bodyPost_ret (v := .agg #[.int .i64 0, .int .i64 0, .int .i64 0]) (by simp [results, Tryd.results15, go_sem]) rfl ⟨rfl, below_alloc _ _⟩
set_option maxRecDepth 100000 in
set_option maxHeartbeats 1000000 in
theorem of_any (A : Nat) (m : Sh.Mf) (f : Nat → ByteArray) (w : World) (hA : AsmAt w A m f) : Calls Tryd.prog 15 #[.pointer (some ⟨A, 0, none⟩)] w fun e w' => e = .returned m.val ∧ Below w.heap.size w w' := by
  obtain ⟨c0, c1, c2⟩ := hA.three
  have hlt := hA.lt
  obtain ⟨o, n, s⟩ := m
  clear hA
  show Calls Tryd.prog 15 #[.pointer (some ⟨A, 0, none⟩)] w fun e w' => e = .returned (.agg #[.int .i64 o, .int .i64 n, .int .i64 s]) ∧ Below w.heap.size w w'
  go_enter Tryd.func15, Tryd.ntmps15
  go_wp2
  exact bodyPost_ret (v := .agg #[.int .i64 o, .int .i64 n, .int .i64 s]) (by simp [results, Tryd.results15, go_sem]) rfl ⟨rfl, below_alloc _ _⟩
def Sh.Sd.val (s : Sh.Sd) : Value := .agg #[.int .i64 s.op, .int .i64 s.number, .string s.data, .int .i64 s.sum]
set_option maxRecDepth 100000 in
set_option maxHeartbeats 1000000 in
theorem add_nil (s : Sh.Sd) (w : World) : Calls Tryd.prog 16 #[.pointer none, s.val] w fun e w' => e = .returned (.tuple #[.bool false, .int .i64 190]) ∧ Below w.heap.size w w' := by
  obtain ⟨o, k, d, u⟩ := s
  unfold Sh.Sd.val
  go_enter Tryd.func16, Tryd.ntmps16
  go_wp2_with fail
  refine (pieces_nil _).mono ?_
  rintro e w1 ⟨rfl, rfl⟩
  go_wp2
  go_quiet (fail)
  go_wp2
  go_ret2
  exact ⟨rfl, Go.below_drewN (below_alloc _ _) _⟩
theorem Tab.grown {w w' : World} {A : Nat} (h : Tab w) (hg : w.grownBy w' (some A)) (hA : A ≠ 0) : Tab w' := fun j hj => (cell_block (w := w) (w' := w') (p := ⟨0, j, none⟩) (hg.block 0 h.lt (by simpa using Ne.symm hA))).trans (h j hj)
theorem AsmAt.ne_zero {w : World} {A : Nat} {m : Sh.Mf} {f : Nat → ByteArray} (h : AsmAt w A m f) (ht : Tab w) : A ≠ 0 := by
  rintro rfl
  have h1 := h.three.1
  rw [ht 0 (by decide)] at h1
  cases h1
theorem Sh.okM_size {m : Sh.Mf} (h : Sh.okM m = true) : ∃ k : Nat, m.size = k ∧ 1 ≤ k ∧ k ≤ 65535 := by
  rcases Sh.okM_cases m with ⟨_, _, h1, _⟩ | ⟨h1, _⟩
  · exact ⟨m.size.toNat, by omega, by omega, by omega⟩
  · rw [h] at h1; cases h1
theorem Sh.addF_no {m : Sh.Mf} {f : Nat → ByteArray} {s : Sh.Sd} (h : Sh.addB m f s = false) : Sh.addF m f s = f := by
  funext i
  unfold Sh.addF
  rw [h]
  rfl
theorem sameB {m : Sh.Mf} {f : Nat → ByteArray} {s : Sh.Sd} (h : Sh.addE m f s ≠ 0) : Sh.addB m f s = false := by
  unfold Sh.addB
  rw [decide_eq_false h]
  rfl
theorem toList_full {s : ByteArray} (h : ¬ s.size = 0) : s.toList.isEmpty = false := by
  rw [ByteArray.toList_eq, ← Bool.not_eq_true, List.isEmpty_iff]
  intro h2
  apply h
  have : s.data.toList.length = 0 := by rw [h2]; rfl
  simpa using this
theorem toList_none {s : ByteArray} (h : s.size = 0) : s.toList.isEmpty = true := by
  rw [ByteArray.toList_eq, List.isEmpty_iff]
  apply List.eq_nil_of_length_eq_zero
  simpa using h
theorem str_empty {s : ByteArray} (h : s.size = 0) : s = ⟨#[]⟩ := by
  cases s with
  | mk d => congr 1; exact Array.eq_empty_of_size_eq_zero h
/-- What stands behind each of Add's regions. -/
def AddSt (V w : World) (A B : Nat) (m : Sh.Mf) (f : Nat → ByteArray) (o n : Int) (d : ByteArray) (k0 : Int) : Prop := (AsmAt V A m f ∧ Tab V ∧ w.grownBy V (some A)) ∧ V.cell? ⟨B, 0, none⟩ = some (.int .i64 o) ∧ V.cell? ⟨B, 1, none⟩ = some (.int .i64 n) ∧ V.cell? ⟨B, 2, none⟩ = some (.string d) ∧ V.cell? ⟨B, 3, none⟩ = some (.int .i64 k0)
theorem AddSt.drew {V w : World} {A B : Nat} {m : Sh.Mf} {f : Nat → ByteArray} {o n : Int} {d : ByteArray} {k0 : Int} (h : AddSt V w A B m f o n d k0) (q : Nat) : AddSt (V.drewN q) w A B m f o n d k0 := ⟨⟨h.1.1, h.1.2.1, grown_drew h.1.2.2 q⟩, h.2⟩
set_option maxRecDepth 100000 in
set_option maxRecDepth 100000 in
set_option maxHeartbeats 2000000 in
theorem add_mixed (A : Nat) (o n u k0 : Int) (m : Nat) (d : ByteArray) (o' : Int) (f : Nat → ByteArray) (w : World) (hT : Tab w) (hA : AsmAt w A ⟨o', m, u⟩ f) (hm : Sh.okM ⟨o', m, u⟩ = true) (hd : d.size ≤ maxLen) (h1 : ¬ o = o') :
    Calls Tryd.prog 16 #[.pointer (some ⟨A, 0, none⟩), .agg #[.int .i64 o, .int .i64 n, .string d, .int .i64 k0]] w fun e w' => e = .returned (.tuple #[.bool false, .int .i64 190]) ∧ AsmAt w' A ⟨o', m, u⟩ f ∧ w.grownBy w' (some A) := by
  have h1' : (o != o') = true := by simpa using h1
  clear h1
  have hlt := hA.lt
  have hmk := Sh.okM_size hm
  have hm1 : 1 ≤ m ∧ m ≤ 65535 := by obtain ⟨k, h1, h2, h3⟩ := hmk; simp at h1; omega
  have hcp := Sh.cnt_pos (n := m) (by omega)
  have hcl := Sh.cnt_le (n := m) (by omega)
  have HA : Hid (AsmAt w A ⟨o', m, u⟩ f) := hA
  have HM : Hid (Sh.okM ⟨o', m, u⟩ = true) := hm
  have HT : Hid (Tab w) := hT
  unfold maxLen at hd
  have hb0 := below_alloc w (.cells #[.int .i64 o, .int .i64 n, .string d, .int .i64 k0] 36)
  have HA0 : Hid (AsmAt (w.alloc (.cells #[.int .i64 o, .int .i64 n, .string d, .int .i64 k0] 36)) A ⟨o', m, u⟩ f) := HA.out.up hb0
  have HT0 : Hid (Tab (w.alloc (.cells #[.int .i64 o, .int .i64 n, .string d, .int .i64 k0] 36))) := HT.out.up hb0
  have ST0 : Hid (AddSt (w.alloc (.cells #[.int .i64 o, .int .i64 n, .string d, .int .i64 k0] 36)) w A w.heap.size ⟨o', m, u⟩ f o n d k0) := ⟨⟨HA0.out, HT0.out, World.grownBy_alloc _ _ _⟩, by simp, by simp, by simp, by simp⟩
  have hcI : ((Sh.cnt m : Int) == 0) = false := by simp; omega
  clear hA hm hmk hT hb0
  go_enter Tryd.func16, Tryd.ntmps16
  obtain ⟨B, hB⟩ : ∃ B, w.heap.size = B := ⟨_, rfl⟩
  have hAB : ¬ A = B := by omega
  go_wp2_with fail
  rw [hB] at ST0 hlt
  clear hB HT0
  generalize w.alloc (.cells #[.int .i64 o, .int .i64 n, .string d, .int .i64 k0] 36) = W at *
  refine (pieces_any A _ f _ HA0.out HM.out).mono ?_
  rintro e w1 ⟨rfl, q, rfl⟩
  rw [show ((⟨o', m, u⟩ : Sh.Mf).size.toNat) = m from by simp]
  obtain ⟨V, sV, hV⟩ : ∃ V, Hid (AddSt V w A B ⟨o', m, u⟩ f o n d k0) ∧ W.drewN q = V := ⟨_, ST0.out.drew q, rfl⟩
  rw [hV]
  clear hV HA0 ST0
  clear W
  have hP : Hid (∀ v : World, Calls Tryd.prog 26 #[.int .i64 m, .int .i64 n] v fun e w' => e = .returned (.int .i64 (Sh.psz m n)) ∧ w' = v) := fun v => pieceSize_any m n _ (by omega)
  have hS : Hid (∀ v : World, Tab v → Calls Tryd.prog 27 #[.string d] v fun e w' => e = .returned (.int .i64 (Sh.sum d)) ∧ w' = v) := fun v hv => sum_any d _ (by unfold maxLen; omega) hv
  obtain ⟨d0, d1, d2, d3⟩ := sV.out.2
  obtain ⟨c0, c1, c2⟩ := sV.out.1.1.three
  simp only at c0 c1 c2
  generalize Sh.cnt m = c at *
  go_wp2
  go_quiet (fail)
  obtain ⟨V2, sV2, hV⟩ : ∃ V0, Hid (AddSt V0 w A B ⟨o', m, u⟩ f o n d k0) ∧ V.drewN nq = V0 := ⟨_, sV.out.drew nq, rfl⟩
  rw [hV]
  clear hV d0 d1 d2 d3 c0 c1 c2 sV
  clear V
  obtain ⟨d0, d1, d2, d3⟩ := sV2.out.2
  obtain ⟨c0, c1, c2⟩ := sV2.out.1.1.three
  simp only at c0 c1 c2
  go_wp2
  go_ret2
  exact ⟨rfl, sV2.out.1.1, sV2.out.1.2.2⟩
set_option maxRecDepth 100000 in
set_option maxRecDepth 100000 in
set_option maxHeartbeats 2000000 in
theorem add_none (A : Nat) (o n u k0 : Int) (m : Nat) (d : ByteArray) (o' : Int) (f : Nat → ByteArray) (w : World) (hT : Tab w) (hA : AsmAt w A ⟨o', m, u⟩ f) (hm : Sh.okM ⟨o', m, u⟩ = true) (hd : d.size ≤ maxLen) (h1 : o = o') (h2 : Sh.psz m n = 0) :
    Calls Tryd.prog 16 #[.pointer (some ⟨A, 0, none⟩), .agg #[.int .i64 o, .int .i64 n, .string d, .int .i64 k0]] w fun e w' => e = .returned (.tuple #[.bool false, .int .i64 4]) ∧ AsmAt w' A ⟨o', m, u⟩ f ∧ w.grownBy w' (some A) := by
  have h1' : (o != o') = false := by simpa using h1
  have H2 : Hid (Sh.psz m n = 0) := h2
  clear h1 h2
  have hlt := hA.lt
  have hmk := Sh.okM_size hm
  have hm1 : 1 ≤ m ∧ m ≤ 65535 := by obtain ⟨k, h1, h2, h3⟩ := hmk; simp at h1; omega
  have hcp := Sh.cnt_pos (n := m) (by omega)
  have hcl := Sh.cnt_le (n := m) (by omega)
  have HA : Hid (AsmAt w A ⟨o', m, u⟩ f) := hA
  have HM : Hid (Sh.okM ⟨o', m, u⟩ = true) := hm
  have HT : Hid (Tab w) := hT
  unfold maxLen at hd
  have hb0 := below_alloc w (.cells #[.int .i64 o, .int .i64 n, .string d, .int .i64 k0] 36)
  have HA0 : Hid (AsmAt (w.alloc (.cells #[.int .i64 o, .int .i64 n, .string d, .int .i64 k0] 36)) A ⟨o', m, u⟩ f) := HA.out.up hb0
  have HT0 : Hid (Tab (w.alloc (.cells #[.int .i64 o, .int .i64 n, .string d, .int .i64 k0] 36))) := HT.out.up hb0
  have ST0 : Hid (AddSt (w.alloc (.cells #[.int .i64 o, .int .i64 n, .string d, .int .i64 k0] 36)) w A w.heap.size ⟨o', m, u⟩ f o n d k0) := ⟨⟨HA0.out, HT0.out, World.grownBy_alloc _ _ _⟩, by simp, by simp, by simp, by simp⟩
  have hcI : ((Sh.cnt m : Int) == 0) = false := by simp; omega
  clear hA hm hmk hT hb0
  go_enter Tryd.func16, Tryd.ntmps16
  obtain ⟨B, hB⟩ : ∃ B, w.heap.size = B := ⟨_, rfl⟩
  have hAB : ¬ A = B := by omega
  go_wp2_with fail
  rw [hB] at ST0 hlt
  clear hB HT0
  generalize w.alloc (.cells #[.int .i64 o, .int .i64 n, .string d, .int .i64 k0] 36) = W at *
  refine (pieces_any A _ f _ HA0.out HM.out).mono ?_
  rintro e w1 ⟨rfl, q, rfl⟩
  rw [show ((⟨o', m, u⟩ : Sh.Mf).size.toNat) = m from by simp]
  obtain ⟨V, sV, hV⟩ : ∃ V, Hid (AddSt V w A B ⟨o', m, u⟩ f o n d k0) ∧ W.drewN q = V := ⟨_, ST0.out.drew q, rfl⟩
  rw [hV]
  clear hV HA0 ST0
  clear W
  have hP : Hid (∀ v : World, Calls Tryd.prog 26 #[.int .i64 m, .int .i64 n] v fun e w' => e = .returned (.int .i64 (Sh.psz m n)) ∧ w' = v) := fun v => pieceSize_any m n _ (by omega)
  have hS : Hid (∀ v : World, Tab v → Calls Tryd.prog 27 #[.string d] v fun e w' => e = .returned (.int .i64 (Sh.sum d)) ∧ w' = v) := fun v hv => sum_any d _ (by unfold maxLen; omega) hv
  obtain ⟨d0, d1, d2, d3⟩ := sV.out.2
  obtain ⟨c0, c1, c2⟩ := sV.out.1.1.three
  simp only at c0 c1 c2
  generalize Sh.cnt m = c at *
  rw [H2.out] at hP
  go_wp2
  go_quiet (fail)
  obtain ⟨V2, sV2, hV⟩ : ∃ V0, Hid (AddSt V0 w A B ⟨o', m, u⟩ f o n d k0) ∧ V.drewN nq = V0 := ⟨_, sV.out.drew nq, rfl⟩
  rw [hV]
  clear hV d0 d1 d2 d3 c0 c1 c2 sV
  clear V
  obtain ⟨d0, d1, d2, d3⟩ := sV2.out.2
  obtain ⟨c0, c1, c2⟩ := sV2.out.1.1.three
  simp only at c0 c1 c2
  go_wp2
  go_quiet ((go_at_call 26; exact Calls.quiet_of_same (hP.out _)))
  obtain ⟨V3, sV3, hV⟩ : ∃ V0, Hid (AddSt V0 w A B ⟨o', m, u⟩ f o n d k0) ∧ V2.drewN nq = V0 := ⟨_, sV2.out.drew nq, rfl⟩
  rw [hV]
  clear hV d0 d1 d2 d3 c0 c1 c2 sV2
  clear V2
  obtain ⟨d0, d1, d2, d3⟩ := sV3.out.2
  obtain ⟨c0, c1, c2⟩ := sV3.out.1.1.three
  simp only at c0 c1 c2
  go_wp2
  go_ret2
  exact ⟨rfl, sV3.out.1.1, sV3.out.1.2.2⟩
set_option maxRecDepth 100000 in
set_option maxRecDepth 100000 in
set_option maxHeartbeats 2000000 in
theorem add_size (A : Nat) (o n u k0 : Int) (m : Nat) (d : ByteArray) (o' : Int) (f : Nat → ByteArray) (w : World) (hT : Tab w) (hA : AsmAt w A ⟨o', m, u⟩ f) (hm : Sh.okM ⟨o', m, u⟩ = true) (hd : d.size ≤ maxLen) (h1 : o = o') (h2 : ¬ Sh.psz m n = 0) (h3 : ¬ (d.size : Int) = Sh.psz m n) :
    Calls Tryd.prog 16 #[.pointer (some ⟨A, 0, none⟩), .agg #[.int .i64 o, .int .i64 n, .string d, .int .i64 k0]] w fun e w' => e = .returned (.tuple #[.bool false, .int .i64 4]) ∧ AsmAt w' A ⟨o', m, u⟩ f ∧ w.grownBy w' (some A) := by
  have h1' : (o != o') = false := by simpa using h1
  have h2' : (Sh.psz m n == 0) = false := by simpa using h2
  have h3' : ((d.size : Int) != Sh.psz m n) = true := by simpa using h3
  clear h1 h2 h3
  have hlt := hA.lt
  have hmk := Sh.okM_size hm
  have hm1 : 1 ≤ m ∧ m ≤ 65535 := by obtain ⟨k, h1, h2, h3⟩ := hmk; simp at h1; omega
  have hcp := Sh.cnt_pos (n := m) (by omega)
  have hcl := Sh.cnt_le (n := m) (by omega)
  have HA : Hid (AsmAt w A ⟨o', m, u⟩ f) := hA
  have HM : Hid (Sh.okM ⟨o', m, u⟩ = true) := hm
  have HT : Hid (Tab w) := hT
  unfold maxLen at hd
  have hb0 := below_alloc w (.cells #[.int .i64 o, .int .i64 n, .string d, .int .i64 k0] 36)
  have HA0 : Hid (AsmAt (w.alloc (.cells #[.int .i64 o, .int .i64 n, .string d, .int .i64 k0] 36)) A ⟨o', m, u⟩ f) := HA.out.up hb0
  have HT0 : Hid (Tab (w.alloc (.cells #[.int .i64 o, .int .i64 n, .string d, .int .i64 k0] 36))) := HT.out.up hb0
  have ST0 : Hid (AddSt (w.alloc (.cells #[.int .i64 o, .int .i64 n, .string d, .int .i64 k0] 36)) w A w.heap.size ⟨o', m, u⟩ f o n d k0) := ⟨⟨HA0.out, HT0.out, World.grownBy_alloc _ _ _⟩, by simp, by simp, by simp, by simp⟩
  have hcI : ((Sh.cnt m : Int) == 0) = false := by simp; omega
  clear hA hm hmk hT hb0
  go_enter Tryd.func16, Tryd.ntmps16
  obtain ⟨B, hB⟩ : ∃ B, w.heap.size = B := ⟨_, rfl⟩
  have hAB : ¬ A = B := by omega
  go_wp2_with fail
  rw [hB] at ST0 hlt
  clear hB HT0
  generalize w.alloc (.cells #[.int .i64 o, .int .i64 n, .string d, .int .i64 k0] 36) = W at *
  refine (pieces_any A _ f _ HA0.out HM.out).mono ?_
  rintro e w1 ⟨rfl, q, rfl⟩
  rw [show ((⟨o', m, u⟩ : Sh.Mf).size.toNat) = m from by simp]
  obtain ⟨V, sV, hV⟩ : ∃ V, Hid (AddSt V w A B ⟨o', m, u⟩ f o n d k0) ∧ W.drewN q = V := ⟨_, ST0.out.drew q, rfl⟩
  rw [hV]
  clear hV HA0 ST0
  clear W
  have hP : Hid (∀ v : World, Calls Tryd.prog 26 #[.int .i64 m, .int .i64 n] v fun e w' => e = .returned (.int .i64 (Sh.psz m n)) ∧ w' = v) := fun v => pieceSize_any m n _ (by omega)
  have hS : Hid (∀ v : World, Tab v → Calls Tryd.prog 27 #[.string d] v fun e w' => e = .returned (.int .i64 (Sh.sum d)) ∧ w' = v) := fun v hv => sum_any d _ (by unfold maxLen; omega) hv
  obtain ⟨d0, d1, d2, d3⟩ := sV.out.2
  obtain ⟨c0, c1, c2⟩ := sV.out.1.1.three
  simp only at c0 c1 c2
  generalize Sh.cnt m = c at *
  generalize Sh.psz m n = z at *
  go_wp2
  go_quiet (fail)
  obtain ⟨V2, sV2, hV⟩ : ∃ V0, Hid (AddSt V0 w A B ⟨o', m, u⟩ f o n d k0) ∧ V.drewN nq = V0 := ⟨_, sV.out.drew nq, rfl⟩
  rw [hV]
  clear hV d0 d1 d2 d3 c0 c1 c2 sV
  clear V
  obtain ⟨d0, d1, d2, d3⟩ := sV2.out.2
  obtain ⟨c0, c1, c2⟩ := sV2.out.1.1.three
  simp only at c0 c1 c2
  go_wp2
  go_quiet ((go_at_call 26; exact Calls.quiet_of_same (hP.out _)))
  obtain ⟨V3, sV3, hV⟩ : ∃ V0, Hid (AddSt V0 w A B ⟨o', m, u⟩ f o n d k0) ∧ V2.drewN nq = V0 := ⟨_, sV2.out.drew nq, rfl⟩
  rw [hV]
  clear hV d0 d1 d2 d3 c0 c1 c2 sV2
  clear V2
  obtain ⟨d0, d1, d2, d3⟩ := sV3.out.2
  obtain ⟨c0, c1, c2⟩ := sV3.out.1.1.three
  simp only at c0 c1 c2
  go_wp2
  go_ret2
  exact ⟨rfl, sV3.out.1.1, sV3.out.1.2.2⟩
set_option maxRecDepth 100000 in
set_option maxRecDepth 100000 in
set_option maxHeartbeats 2000000 in
theorem add_sum (A : Nat) (o n u k0 : Int) (m : Nat) (d : ByteArray) (o' : Int) (f : Nat → ByteArray) (w : World) (hT : Tab w) (hA : AsmAt w A ⟨o', m, u⟩ f) (hm : Sh.okM ⟨o', m, u⟩ = true) (hd : d.size ≤ maxLen) (h1 : o = o') (h2 : ¬ Sh.psz m n = 0) (h3 : (d.size : Int) = Sh.psz m n) (h4 : ¬ k0 = (Sh.sum d : Int)) :
    Calls Tryd.prog 16 #[.pointer (some ⟨A, 0, none⟩), .agg #[.int .i64 o, .int .i64 n, .string d, .int .i64 k0]] w fun e w' => e = .returned (.tuple #[.bool false, .int .i64 20]) ∧ AsmAt w' A ⟨o', m, u⟩ f ∧ w.grownBy w' (some A) := by
  have h1' : (o != o') = false := by simpa using h1
  have h2' : (Sh.psz m n == 0) = false := by simpa using h2
  have h3' : ((d.size : Int) != Sh.psz m n) = false := by simpa using h3
  have h4' : (k0 != (Sh.sum d : Int)) = true := by simpa using h4
  clear h1 h2 h3 h4
  have hlt := hA.lt
  have hmk := Sh.okM_size hm
  have hm1 : 1 ≤ m ∧ m ≤ 65535 := by obtain ⟨k, h1, h2, h3⟩ := hmk; simp at h1; omega
  have hcp := Sh.cnt_pos (n := m) (by omega)
  have hcl := Sh.cnt_le (n := m) (by omega)
  have HA : Hid (AsmAt w A ⟨o', m, u⟩ f) := hA
  have HM : Hid (Sh.okM ⟨o', m, u⟩ = true) := hm
  have HT : Hid (Tab w) := hT
  unfold maxLen at hd
  have hb0 := below_alloc w (.cells #[.int .i64 o, .int .i64 n, .string d, .int .i64 k0] 36)
  have HA0 : Hid (AsmAt (w.alloc (.cells #[.int .i64 o, .int .i64 n, .string d, .int .i64 k0] 36)) A ⟨o', m, u⟩ f) := HA.out.up hb0
  have HT0 : Hid (Tab (w.alloc (.cells #[.int .i64 o, .int .i64 n, .string d, .int .i64 k0] 36))) := HT.out.up hb0
  have ST0 : Hid (AddSt (w.alloc (.cells #[.int .i64 o, .int .i64 n, .string d, .int .i64 k0] 36)) w A w.heap.size ⟨o', m, u⟩ f o n d k0) := ⟨⟨HA0.out, HT0.out, World.grownBy_alloc _ _ _⟩, by simp, by simp, by simp, by simp⟩
  have hcI : ((Sh.cnt m : Int) == 0) = false := by simp; omega
  clear hA hm hmk hT hb0
  go_enter Tryd.func16, Tryd.ntmps16
  obtain ⟨B, hB⟩ : ∃ B, w.heap.size = B := ⟨_, rfl⟩
  have hAB : ¬ A = B := by omega
  go_wp2_with fail
  rw [hB] at ST0 hlt
  clear hB HT0
  generalize w.alloc (.cells #[.int .i64 o, .int .i64 n, .string d, .int .i64 k0] 36) = W at *
  refine (pieces_any A _ f _ HA0.out HM.out).mono ?_
  rintro e w1 ⟨rfl, q, rfl⟩
  rw [show ((⟨o', m, u⟩ : Sh.Mf).size.toNat) = m from by simp]
  obtain ⟨V, sV, hV⟩ : ∃ V, Hid (AddSt V w A B ⟨o', m, u⟩ f o n d k0) ∧ W.drewN q = V := ⟨_, ST0.out.drew q, rfl⟩
  rw [hV]
  clear hV HA0 ST0
  clear W
  have hP : Hid (∀ v : World, Calls Tryd.prog 26 #[.int .i64 m, .int .i64 n] v fun e w' => e = .returned (.int .i64 (Sh.psz m n)) ∧ w' = v) := fun v => pieceSize_any m n _ (by omega)
  have hS : Hid (∀ v : World, Tab v → Calls Tryd.prog 27 #[.string d] v fun e w' => e = .returned (.int .i64 (Sh.sum d)) ∧ w' = v) := fun v hv => sum_any d _ (by unfold maxLen; omega) hv
  obtain ⟨d0, d1, d2, d3⟩ := sV.out.2
  obtain ⟨c0, c1, c2⟩ := sV.out.1.1.three
  simp only at c0 c1 c2
  generalize Sh.cnt m = c at *
  generalize Sh.psz m n = z at *
  generalize Sh.sum d = y at *
  go_wp2
  go_quiet (fail)
  obtain ⟨V2, sV2, hV⟩ : ∃ V0, Hid (AddSt V0 w A B ⟨o', m, u⟩ f o n d k0) ∧ V.drewN nq = V0 := ⟨_, sV.out.drew nq, rfl⟩
  rw [hV]
  clear hV d0 d1 d2 d3 c0 c1 c2 sV
  clear V
  obtain ⟨d0, d1, d2, d3⟩ := sV2.out.2
  obtain ⟨c0, c1, c2⟩ := sV2.out.1.1.three
  simp only at c0 c1 c2
  go_wp2
  go_quiet ((go_at_call 26; exact Calls.quiet_of_same (hP.out _)))
  obtain ⟨V3, sV3, hV⟩ : ∃ V0, Hid (AddSt V0 w A B ⟨o', m, u⟩ f o n d k0) ∧ V2.drewN nq = V0 := ⟨_, sV2.out.drew nq, rfl⟩
  rw [hV]
  clear hV d0 d1 d2 d3 c0 c1 c2 sV2
  clear V2
  obtain ⟨d0, d1, d2, d3⟩ := sV3.out.2
  obtain ⟨c0, c1, c2⟩ := sV3.out.1.1.three
  simp only at c0 c1 c2
  go_wp2
  go_quiet ((go_at_call 27; exact Calls.quiet_of_same (hS.out _ sV3.out.1.2.1)))
  obtain ⟨V4, sV4, hV⟩ : ∃ V0, Hid (AddSt V0 w A B ⟨o', m, u⟩ f o n d k0) ∧ V3.drewN nq = V0 := ⟨_, sV3.out.drew nq, rfl⟩
  rw [hV]
  clear hV d0 d1 d2 d3 c0 c1 c2 sV3
  clear V3
  obtain ⟨d0, d1, d2, d3⟩ := sV4.out.2
  obtain ⟨c0, c1, c2⟩ := sV4.out.1.1.three
  simp only at c0 c1 c2
  go_wp2
  go_ret2
  exact ⟨rfl, sV4.out.1.1, sV4.out.1.2.2⟩
set_option maxRecDepth 100000 in
set_option maxRecDepth 100000 in
set_option maxHeartbeats 2000000 in
theorem add_have (A : Nat) (o n u k0 : Int) (m : Nat) (d : ByteArray) (o' : Int) (f : Nat → ByteArray) (w : World) (hT : Tab w) (hA : AsmAt w A ⟨o', m, u⟩ f) (hm : Sh.okM ⟨o', m, u⟩ = true) (hd : d.size ≤ maxLen) (h1 : o = o') (h2 : ¬ Sh.psz m n = 0) (h3 : (d.size : Int) = Sh.psz m n) (h4 : k0 = (Sh.sum d : Int)) (h5 : ¬ (f n.toNat).size = 0) :
    Calls Tryd.prog 16 #[.pointer (some ⟨A, 0, none⟩), .agg #[.int .i64 o, .int .i64 n, .string d, .int .i64 k0]] w fun e w' => e = .returned (.tuple #[.bool false, .int .i64 0]) ∧ AsmAt w' A ⟨o', m, u⟩ f ∧ w.grownBy w' (some A) := by
  have h1' : (o != o') = false := by simpa using h1
  have h2' : (Sh.psz m n == 0) = false := by simpa using h2
  have h3' : ((d.size : Int) != Sh.psz m n) = false := by simpa using h3
  have h4' : (k0 != (Sh.sum d : Int)) = false := by simpa using h4
  have hn := Classical.not_not.1 (mt Sh.psz_zero.2 h2)
  obtain ⟨i, rfl⟩ : ∃ i : Nat, n = i := ⟨n.toNat, by omega⟩
  have hi0 : (0 : Int) ≤ (i : Int) := by omega
  have hi1 : (i : Int) < (Sh.cnt m : Int) := by omega
  simp only [Int.toNat_natCast] at h5
  clear h1 h2 h3 h4
  have hlt := hA.lt
  have hmk := Sh.okM_size hm
  have hm1 : 1 ≤ m ∧ m ≤ 65535 := by obtain ⟨k, h1, h2, h3⟩ := hmk; simp at h1; omega
  have hcp := Sh.cnt_pos (n := m) (by omega)
  have hcl := Sh.cnt_le (n := m) (by omega)
  have HA : Hid (AsmAt w A ⟨o', m, u⟩ f) := hA
  have HM : Hid (Sh.okM ⟨o', m, u⟩ = true) := hm
  have HT : Hid (Tab w) := hT
  unfold maxLen at hd
  have hb0 := below_alloc w (.cells #[.int .i64 o, .int .i64 i, .string d, .int .i64 k0] 36)
  have HA0 : Hid (AsmAt (w.alloc (.cells #[.int .i64 o, .int .i64 i, .string d, .int .i64 k0] 36)) A ⟨o', m, u⟩ f) := HA.out.up hb0
  have HT0 : Hid (Tab (w.alloc (.cells #[.int .i64 o, .int .i64 i, .string d, .int .i64 k0] 36))) := HT.out.up hb0
  have ST0 : Hid (AddSt (w.alloc (.cells #[.int .i64 o, .int .i64 i, .string d, .int .i64 k0] 36)) w A w.heap.size ⟨o', m, u⟩ f o i d k0) := ⟨⟨HA0.out, HT0.out, World.grownBy_alloc _ _ _⟩, by simp, by simp, by simp, by simp⟩
  have hcI : ((Sh.cnt m : Int) == 0) = false := by simp; omega
  clear hA hm hmk hT hb0
  go_enter Tryd.func16, Tryd.ntmps16
  obtain ⟨B, hB⟩ : ∃ B, w.heap.size = B := ⟨_, rfl⟩
  have hAB : ¬ A = B := by omega
  go_wp2_with fail
  rw [hB] at ST0 hlt
  clear hB HT0
  generalize w.alloc (.cells #[.int .i64 o, .int .i64 i, .string d, .int .i64 k0] 36) = W at *
  refine (pieces_any A _ f _ HA0.out HM.out).mono ?_
  rintro e w1 ⟨rfl, q, rfl⟩
  rw [show ((⟨o', m, u⟩ : Sh.Mf).size.toNat) = m from by simp]
  obtain ⟨V, sV, hV⟩ : ∃ V, Hid (AddSt V w A B ⟨o', m, u⟩ f o i d k0) ∧ W.drewN q = V := ⟨_, ST0.out.drew q, rfl⟩
  rw [hV]
  clear hV HA0 ST0
  clear W
  have hP : Hid (∀ v : World, Calls Tryd.prog 26 #[.int .i64 m, .int .i64 i] v fun e w' => e = .returned (.int .i64 (Sh.psz m i)) ∧ w' = v) := fun v => pieceSize_any m i _ (by omega)
  have hS : Hid (∀ v : World, Tab v → Calls Tryd.prog 27 #[.string d] v fun e w' => e = .returned (.int .i64 (Sh.sum d)) ∧ w' = v) := fun v hv => sum_any d _ (by unfold maxLen; omega) hv
  obtain ⟨d0, d1, d2, d3⟩ := sV.out.2
  obtain ⟨c0, c1, c2⟩ := sV.out.1.1.three
  simp only at c0 c1 c2
  generalize Sh.cnt m = c at *
  generalize Sh.psz m i = z at *
  generalize Sh.sum d = y at *
  go_wp2
  go_quiet (fail)
  obtain ⟨V2, sV2, hV⟩ : ∃ V0, Hid (AddSt V0 w A B ⟨o', m, u⟩ f o i d k0) ∧ V.drewN nq = V0 := ⟨_, sV.out.drew nq, rfl⟩
  rw [hV]
  clear hV d0 d1 d2 d3 c0 c1 c2 sV
  clear V
  obtain ⟨d0, d1, d2, d3⟩ := sV2.out.2
  obtain ⟨c0, c1, c2⟩ := sV2.out.1.1.three
  simp only at c0 c1 c2
  go_wp2
  go_quiet ((go_at_call 26; exact Calls.quiet_of_same (hP.out _)))
  obtain ⟨V3, sV3, hV⟩ : ∃ V0, Hid (AddSt V0 w A B ⟨o', m, u⟩ f o i d k0) ∧ V2.drewN nq = V0 := ⟨_, sV2.out.drew nq, rfl⟩
  rw [hV]
  clear hV d0 d1 d2 d3 c0 c1 c2 sV2
  clear V2
  obtain ⟨d0, d1, d2, d3⟩ := sV3.out.2
  obtain ⟨c0, c1, c2⟩ := sV3.out.1.1.three
  simp only at c0 c1 c2
  go_wp2
  go_quiet ((go_at_call 27; exact Calls.quiet_of_same (hS.out _ sV3.out.1.2.1)))
  obtain ⟨V4, sV4, hV⟩ : ∃ V0, Hid (AddSt V0 w A B ⟨o', m, u⟩ f o i d k0) ∧ V3.drewN nq = V0 := ⟨_, sV3.out.drew nq, rfl⟩
  rw [hV]
  clear hV d0 d1 d2 d3 c0 c1 c2 sV3
  clear V3
  obtain ⟨d0, d1, d2, d3⟩ := sV4.out.2
  obtain ⟨c0, c1, c2⟩ := sV4.out.1.1.three
  simp only at c0 c1 c2
  obtain ⟨cf, ff⟩ := sV4.out.1.1.cell (i := i) (by omega)
  have hne : (f i).toList.isEmpty = false := toList_full h5
  clear h5
  generalize f i = y0 at cf hne
  go_wp2
  go_ret2
  exact ⟨rfl, sV4.out.1.1, sV4.out.1.2.2⟩
set_option maxRecDepth 100000 in
set_option maxRecDepth 100000 in
set_option maxHeartbeats 2000000 in
theorem add_new (A : Nat) (o n u k0 : Int) (m : Nat) (d : ByteArray) (o' : Int) (f : Nat → ByteArray) (w : World) (hT : Tab w) (hA : AsmAt w A ⟨o', m, u⟩ f) (hm : Sh.okM ⟨o', m, u⟩ = true) (hd : d.size ≤ maxLen) (h1 : o = o') (h2 : ¬ Sh.psz m n = 0) (h3 : (d.size : Int) = Sh.psz m n) (h4 : k0 = (Sh.sum d : Int)) (h5 : (f n.toNat).size = 0) :
    Calls Tryd.prog 16 #[.pointer (some ⟨A, 0, none⟩), .agg #[.int .i64 o, .int .i64 n, .string d, .int .i64 k0]] w fun e w' => e = .returned (.tuple #[.bool true, .int .i64 0]) ∧ (∀ g : Nat → ByteArray, (∀ j, j < 256 → g j = if j = n.toNat then d else f j) → AsmAt w' A ⟨o', m, u⟩ g) ∧ w.grownBy w' (some A) := by
  have h1' : (o != o') = false := by simpa using h1
  have h2' : (Sh.psz m n == 0) = false := by simpa using h2
  have h3' : ((d.size : Int) != Sh.psz m n) = false := by simpa using h3
  have h4' : (k0 != (Sh.sum d : Int)) = false := by simpa using h4
  have hn := Classical.not_not.1 (mt Sh.psz_zero.2 h2)
  obtain ⟨i, rfl⟩ : ∃ i : Nat, n = i := ⟨n.toNat, by omega⟩
  have hi0 : (0 : Int) ≤ (i : Int) := by omega
  have hi1 : (i : Int) < (Sh.cnt m : Int) := by omega
  simp only [Int.toNat_natCast] at h5
  clear h1 h2 h3 h4
  simp only [Int.toNat_natCast]
  have hlt := hA.lt
  have hmk := Sh.okM_size hm
  have hm1 : 1 ≤ m ∧ m ≤ 65535 := by obtain ⟨k, h1, h2, h3⟩ := hmk; simp at h1; omega
  have hcp := Sh.cnt_pos (n := m) (by omega)
  have hcl := Sh.cnt_le (n := m) (by omega)
  have HA : Hid (AsmAt w A ⟨o', m, u⟩ f) := hA
  have HM : Hid (Sh.okM ⟨o', m, u⟩ = true) := hm
  have HT : Hid (Tab w) := hT
  unfold maxLen at hd
  have hb0 := below_alloc w (.cells #[.int .i64 o, .int .i64 i, .string d, .int .i64 k0] 36)
  have HA0 : Hid (AsmAt (w.alloc (.cells #[.int .i64 o, .int .i64 i, .string d, .int .i64 k0] 36)) A ⟨o', m, u⟩ f) := HA.out.up hb0
  have HT0 : Hid (Tab (w.alloc (.cells #[.int .i64 o, .int .i64 i, .string d, .int .i64 k0] 36))) := HT.out.up hb0
  have ST0 : Hid (AddSt (w.alloc (.cells #[.int .i64 o, .int .i64 i, .string d, .int .i64 k0] 36)) w A w.heap.size ⟨o', m, u⟩ f o i d k0) := ⟨⟨HA0.out, HT0.out, World.grownBy_alloc _ _ _⟩, by simp, by simp, by simp, by simp⟩
  have hcI : ((Sh.cnt m : Int) == 0) = false := by simp; omega
  clear hA hm hmk hT hb0
  go_enter Tryd.func16, Tryd.ntmps16
  obtain ⟨B, hB⟩ : ∃ B, w.heap.size = B := ⟨_, rfl⟩
  have hAB : ¬ A = B := by omega
  go_wp2_with fail
  rw [hB] at ST0 hlt
  clear hB HT0
  generalize w.alloc (.cells #[.int .i64 o, .int .i64 i, .string d, .int .i64 k0] 36) = W at *
  refine (pieces_any A _ f _ HA0.out HM.out).mono ?_
  rintro e w1 ⟨rfl, q, rfl⟩
  rw [show ((⟨o', m, u⟩ : Sh.Mf).size.toNat) = m from by simp]
  obtain ⟨V, sV, hV⟩ : ∃ V, Hid (AddSt V w A B ⟨o', m, u⟩ f o i d k0) ∧ W.drewN q = V := ⟨_, ST0.out.drew q, rfl⟩
  rw [hV]
  clear hV HA0 ST0
  clear W
  have hP : Hid (∀ v : World, Calls Tryd.prog 26 #[.int .i64 m, .int .i64 i] v fun e w' => e = .returned (.int .i64 (Sh.psz m i)) ∧ w' = v) := fun v => pieceSize_any m i _ (by omega)
  have hS : Hid (∀ v : World, Tab v → Calls Tryd.prog 27 #[.string d] v fun e w' => e = .returned (.int .i64 (Sh.sum d)) ∧ w' = v) := fun v hv => sum_any d _ (by unfold maxLen; omega) hv
  obtain ⟨d0, d1, d2, d3⟩ := sV.out.2
  obtain ⟨c0, c1, c2⟩ := sV.out.1.1.three
  simp only at c0 c1 c2
  generalize Sh.cnt m = c at *
  generalize Sh.psz m i = z at *
  generalize Sh.sum d = y at *
  go_wp2
  go_quiet (fail)
  obtain ⟨V2, sV2, hV⟩ : ∃ V0, Hid (AddSt V0 w A B ⟨o', m, u⟩ f o i d k0) ∧ V.drewN nq = V0 := ⟨_, sV.out.drew nq, rfl⟩
  rw [hV]
  clear hV d0 d1 d2 d3 c0 c1 c2 sV
  clear V
  obtain ⟨d0, d1, d2, d3⟩ := sV2.out.2
  obtain ⟨c0, c1, c2⟩ := sV2.out.1.1.three
  simp only at c0 c1 c2
  go_wp2
  go_quiet ((go_at_call 26; exact Calls.quiet_of_same (hP.out _)))
  obtain ⟨V3, sV3, hV⟩ : ∃ V0, Hid (AddSt V0 w A B ⟨o', m, u⟩ f o i d k0) ∧ V2.drewN nq = V0 := ⟨_, sV2.out.drew nq, rfl⟩
  rw [hV]
  clear hV d0 d1 d2 d3 c0 c1 c2 sV2
  clear V2
  obtain ⟨d0, d1, d2, d3⟩ := sV3.out.2
  obtain ⟨c0, c1, c2⟩ := sV3.out.1.1.three
  simp only at c0 c1 c2
  go_wp2
  go_quiet ((go_at_call 27; exact Calls.quiet_of_same (hS.out _ sV3.out.1.2.1)))
  obtain ⟨V4, sV4, hV⟩ : ∃ V0, Hid (AddSt V0 w A B ⟨o', m, u⟩ f o i d k0) ∧ V3.drewN nq = V0 := ⟨_, sV3.out.drew nq, rfl⟩
  rw [hV]
  clear hV d0 d1 d2 d3 c0 c1 c2 sV3
  clear V3
  obtain ⟨d0, d1, d2, d3⟩ := sV4.out.2
  obtain ⟨c0, c1, c2⟩ := sV4.out.1.1.three
  simp only at c0 c1 c2
  obtain ⟨cf, ff⟩ := sV4.out.1.1.cell (i := i) (by omega)
  have hne : (f i).toList.isEmpty = true := toList_none h5
  clear h5
  obtain ⟨y0, hy0⟩ : ∃ y0, f i = y0 := ⟨_, rfl⟩
  rw [hy0] at cf hne
  clear hy0
  go_wp2
  go_ret2
  exact ⟨rfl, fun g hg => AsmAt.put sV4.out.1.1 hg, grown_trans sV4.out.1.2.2 (grown_setCell V4 A (3 + i) (.string d))⟩
/-- Add, whatever is handed in. -/
theorem add_any (A : Nat) (m : Sh.Mf) (s : Sh.Sd) (f : Nat → ByteArray) (w : World) (hT : Tab w) (hA : AsmAt w A m f) (hm : Sh.okM m = true) (hd : s.data.size ≤ maxLen) :
    Calls Tryd.prog 16 #[.pointer (some ⟨A, 0, none⟩), s.val] w fun e w' => e = .returned (.tuple #[.bool (Sh.addB m f s), .int .i64 (Sh.addE m f s)]) ∧ AsmAt w' A m (Sh.addF m f s) ∧ w.grownBy w' (some A) := by
  obtain ⟨k, hk, hk1, hk2⟩ := Sh.okM_size hm
  obtain ⟨o', n', u⟩ := m
  obtain ⟨o, n, d, k0⟩ := s
  simp only at hk hd
  subst hk
  unfold Sh.Sd.val
  by_cases h1 : o = o'
  · by_cases h2 : Sh.psz k n = 0
    · have hE : Sh.addE ⟨o', k, u⟩ f ⟨o, n, d, k0⟩ = 4 := by unfold Sh.addE; simp [h1, h2]
      have hB := sameB (m := ⟨o', k, u⟩) (f := f) (s := ⟨o, n, d, k0⟩) (by rw [hE]; decide)
      rw [hE, hB, Sh.addF_no hB]
      exact add_none A o n u k0 k d o' f w hT hA hm hd h1 h2
    · by_cases h3 : (d.size : Int) = Sh.psz k n
      · by_cases h4 : k0 = (Sh.sum d : Int)
        · have hE : Sh.addE ⟨o', k, u⟩ f ⟨o, n, d, k0⟩ = 0 := by unfold Sh.addE; simp [h1, h2, h3, h4]
          by_cases h5 : (f n.toNat).size = 0
          · have hB : Sh.addB ⟨o', k, u⟩ f ⟨o, n, d, k0⟩ = true := by unfold Sh.addB; rw [hE]; simp [h5]
            rw [hE, hB]
            refine (add_new A o n u k0 k d o' f w hT hA hm hd h1 h2 h3 h4 h5).mono ?_
            rintro e w' ⟨he, ha, hg⟩
            refine ⟨he, ha _ (fun j _ => ?_), hg⟩
            unfold Sh.addF
            rw [hB]
            rfl
          · have hB : Sh.addB ⟨o', k, u⟩ f ⟨o, n, d, k0⟩ = false := by unfold Sh.addB; rw [hE]; simp [h5]
            rw [hE, hB, Sh.addF_no hB]
            exact add_have A o n u k0 k d o' f w hT hA hm hd h1 h2 h3 h4 h5
        · have hE : Sh.addE ⟨o', k, u⟩ f ⟨o, n, d, k0⟩ = 20 := by unfold Sh.addE; simp [h1, h2, h3, h4]
          have hB := sameB (m := ⟨o', k, u⟩) (f := f) (s := ⟨o, n, d, k0⟩) (by rw [hE]; decide)
          rw [hE, hB, Sh.addF_no hB]
          exact add_sum A o n u k0 k d o' f w hT hA hm hd h1 h2 h3 h4
      · have hE : Sh.addE ⟨o', k, u⟩ f ⟨o, n, d, k0⟩ = 4 := by unfold Sh.addE; simp [h1, h3]
        have hB := sameB (m := ⟨o', k, u⟩) (f := f) (s := ⟨o, n, d, k0⟩) (by rw [hE]; decide)
        rw [hE, hB, Sh.addF_no hB]
        exact add_size A o n u k0 k d o' f w hT hA hm hd h1 h2 h3
  · have hE : Sh.addE ⟨o', k, u⟩ f ⟨o, n, d, k0⟩ = 190 := by unfold Sh.addE; simp [h1]
    have hB := sameB (m := ⟨o', k, u⟩) (f := f) (s := ⟨o, n, d, k0⟩) (by rw [hE]; decide)
    rw [hE, hB, Sh.addF_no hB]
    exact add_mixed A o n u k0 k d o' f w hT hA hm hd h1
end Go.Proofs.YtceeafmahoelfaaDoor
