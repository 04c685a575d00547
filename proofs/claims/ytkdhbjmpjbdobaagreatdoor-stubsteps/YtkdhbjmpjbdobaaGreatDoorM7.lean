/-
  The texts WFields, WPack, WRef, as one.
-/
import Derived.Deep.Cut
import Derived.Test.YtkdhbjmpjbdobaaGreatDoorM6
/- WFields -/
namespace Go.Proofs.YtkdhbjmpjbdobaaGreatDoor
open Go.ChangeShapes Go.WideShapes Go.ChangeAt Go.RowKit Go.Deep Me
set_option maxRecDepth 100000
/-- Behind each field: the memo's box is as it was. -/
structure Fr (n0 A b : Nat) (m : Mm) (u z : Value) (l : List (Int × ByteArray)) (w0 : World) (v : Value) (w : World) : Prop where
  bx : w.heap[A]? = some (BM m u z)
  st : St n0 b l w0 v w
theorem Fr.step {n0 A b : Nat} {m : Mm} {u z : Value} {l : List (Int × ByteArray)} {w0 w w' : World} {v : Value} (h : Fr n0 A b m u z l w0 v w) (hb : Below w.heap.size w w') : Fr n0 A b m u z l w0 v w' := ⟨blk h.bx hb, h.st.step hb⟩
theorem Fr.drew {n0 A b : Nat} {m : Mm} {u z : Value} {l : List (Int × ByteArray)} {w0 w : World} {v : Value} (h : Fr n0 A b m u z l w0 v w) : Fr n0 A b m u z l w0 v w.drew := h.step (bel_drew (Below.refl _ _))
theorem Fr.add {n0 A b : Nat} {m : Mm} {u z : Value} {l l' : List (Int × ByteArray)} {w0 w w' : World} {v v' : Value} (h : Fr n0 A b m u z l w0 v w) (hA : A ≠ b) (hs : St n0 b l' w0 v' w') (ho : Others b w w') : Fr n0 A b m u z l' w0 v' w' := ⟨ho A _ _ (by decide) hA h.bx, hs⟩
theorem neq_man (w : World) (o s m : Int) : (binOp .neq 69 (VMan o s m) (VMan 0 0 0)).run Tryz.prog w = .ok (.bool (!manZ o s m)) w := by
  unfold manZ
  cases h0 : (o == 0) <;> cases h1 : (s == 0) <;> cases h2 : (m == 0) <;> go_simp <;> simp [h0, h1, h2]
theorem ix7_0 (m : Mm) (w : World) : (Instr.index 92 (V7 m) (.int .i64 0)).run Tryz.prog w = .ok (.int .i64 m.v) w := by kernel_rfl
theorem ix7_1 (m : Mm) (w : World) : (Instr.index 92 (V7 m) (.int .i64 1)).run Tryz.prog w = .ok (.int .i64 m.n) w := by kernel_rfl
theorem ix7_2 (m : Mm) (w : World) : (Instr.index 92 (V7 m) (.int .i64 2)).run Tryz.prog w = .ok (.int .i64 m.o) w := by kernel_rfl
theorem ix7_3 (m : Mm) (w : World) : (Instr.index 92 (V7 m) (.int .i64 3)).run Tryz.prog w = .ok (.int .i64 m.c) w := by kernel_rfl
theorem ix7_4 (m : Mm) (w : World) : (Instr.index 92 (V7 m) (.int .i64 4)).run Tryz.prog w = .ok (.int .i64 m.b) w := by kernel_rfl
theorem ix7_5 (m : Mm) (w : World) : (Instr.index 92 (V7 m) (.int .i64 5)).run Tryz.prog w = .ok (.int .i64 m.l) w := by kernel_rfl
theorem ix7_6 (m : Mm) (w : World) : (Instr.index 92 (V7 m) (.int .i64 6)).run Tryz.prog w = .ok (.int .i64 m.cl) w := by kernel_rfl
theorem lives_at {l : List Int} {k : Nat} {y : Int} (h : l[k]? = some y) : lifeF (l.take (k + 1)) = lifeF (l.take k) ++ [(9, Pl.numOut y 6)] := by
  unfold lifeF
  rw [List.take_add_one, h]
  simp
theorem items_at {l : List It} {k : Nat} {y : It} (h : l[k]? = some y) : itF (l.take (k + 1)) = itF (l.take k) ++ [(10, itB y)] := by
  unfold itF
  rw [List.take_add_one, h]
  simp
theorem items_len (l : List It) (k : Nat) : (itF (l.take k)).length ≤ k := by
  unfold itF
  rw [List.length_map, List.length_take]
  omega
theorem lives_len (l : List Int) (k : Nat) : (lifeF (l.take k)).length ≤ k := by
  unfold lifeF
  rw [List.length_map, List.length_take]
  omega
set_option maxRecDepth 100000 in
set_option maxRecDepth 100000 in
set_option maxHeartbeats 16000000 in
theorem mfields_any (m : Mm) (u z : Value) (w : World) (hv : MAt w m u z) (hr : right m = true) :
    Calls Tryz.prog 51 #[VM m u z] w fun e w' => ∃ v, e = .returned v ∧ FieldsAt w'.heap.size w' v (fields m) ∧ Below w.heap.size w w' := by
  obtain ⟨hk, hbg, hlv, hil, hit, hmn, hnu, -⟩ := right_iff.1 hr
  have HR : Hid (right m = true) := hr
  have HV : Hid (MAt w m u z) := hv
  obtain ⟨ao1, cap1, rfl, -, hx1⟩ := hv.lives.open
  obtain ⟨ao2, cap2, rfl, -, hx2⟩ := hv.items.open
  obtain ⟨n1, hn1⟩ : ∃ n1, m.lives.length = n1 := ⟨_, rfl⟩
  obtain ⟨n2, hn2⟩ : ∃ n2, m.items.length = n2 := ⟨_, rfl⟩
  have HN1 : Hid (m.lives.length = n1) := hn1
  have HN2 : Hid (m.items.length = n2) := hn2
  have hn17 : n1 ≤ 7 := by rw [← hn1]; exact liv_len hlv
  have hn2b : n2 ≤ 256 := by rw [← hn2]; exact hil
  have HX1 : Hid (∀ i x, m.lives[i]? = some x → ∃ b off, ao1 = some ⟨b, off, none⟩ ∧ True ∧ b < w.heap.size ∧ ∀ k u, (EI.cells x)[k]? = some u → w.cell? ⟨b, off + (i * EI.sz + k), none⟩ = some u) := hx1
  have HX2 : Hid (∀ i x, m.items[i]? = some x → ∃ b off, ao2 = some ⟨b, off, none⟩ ∧ True ∧ b < w.heap.size ∧ ∀ k u, (EM.cells x)[k]? = some u → w.cell? ⟨b, off + (i * EM.sz + k), none⟩ = some u) := hx2
  have HK : Hid (m.k ≤ 9223372036854775807) := by simp only [kB, decide_eq_true_eq] at hk; show m.k ≤ _; omega
  have HG : Hid (m.v ≤ 9223372036854775807 ∧ m.n ≤ 9223372036854775807 ∧ m.o ≤ 9223372036854775807 ∧ m.c ≤ 9223372036854775807 ∧ m.b ≤ 9223372036854775807 ∧ m.l ≤ 9223372036854775807 ∧ m.cl ≤ 9223372036854775807) := by
    simp only [bigs, List.all_cons, List.all_nil, Bool.and_true, Bool.and_eq_true, big_iff] at hbg
    obtain ⟨⟨-, g0⟩, ⟨-, g1⟩, ⟨-, g2⟩, ⟨-, g3⟩, ⟨-, g4⟩, ⟨-, g5⟩, ⟨-, g6⟩⟩ := hbg
    exact ⟨by omega, by omega, by omega, by omega, by omega, by omega, by omega⟩
  have HLV : Hid (∀ y ∈ m.lives, y ≤ 9223372036854775807) := fun y hy => by
    unfold livB at hlv
    simp only [Bool.or_eq_true, Bool.and_eq_true, decide_eq_true_eq] at hlv
    rcases hlv with h | ⟨-, -, h⟩
    · have : m.lives = [] := List.eq_nil_of_length_eq_zero h
      rw [this] at hy
      cases hy
    · have := big_iff.1 (List.all_eq_true.1 h y hy)
      omega
  have HIT : Hid (∀ y ∈ m.items, okIt y = true) := List.all_eq_true.1 hit
  have HMN : Hid (m.mo ≤ 9223372036854775807 ∧ m.ms ≤ 9223372036854775807 ∧ m.mm ≤ 9223372036854775807) := by
    unfold manB manZ manR at hmn
    simp only [Bool.or_eq_true, Bool.and_eq_true, beq_iff_eq, decide_eq_true_eq] at hmn
    exact ⟨by omega, by omega, by omega⟩
  have HNU : Hid (m.nu ≤ 9223372036854775807) := by simp only [nB, decide_eq_true_eq] at hnu; show m.nu ≤ _; omega
  have HLEN : Hid ((g6 m).length ≤ 280 ∧ (g5 m).length ≤ 280 ∧ (g4 m).length ≤ 280 ∧ (g3 m).length ≤ 15 ∧ (g2 m).length ≤ 8) := (fields_len hr).2
  rw [hn1, hn2] at HV ⊢
  obtain ⟨W, hW⟩ : ∃ W, (w.alloc (BM m (.slice ao1 n1 cap1) (.slice ao2 n2 cap2))).alloc (.cells #[.slice none 0 0] 117) = W := ⟨_, rfl⟩
  have HW : Hid ((w.alloc (BM m (.slice ao1 n1 cap1) (.slice ao2 n2 cap2))).alloc (.cells #[.slice none 0 0] 117) = W) := hW
  obtain ⟨A, hA⟩ : ∃ A, w.heap.size = A := ⟨_, rfl⟩
  obtain ⟨b, hb⟩ : ∃ b, w.heap.size + 1 = b := ⟨_, rfl⟩
  have HA : Hid (w.heap.size = A) := hA
  have HBB : Hid (w.heap.size + 1 = b) := hb
  have HNE : Hid (A ≠ b) := by show A ≠ b; omega
  have HF0 : Hid (Fr A A b m (.slice ao1 n1 cap1) (.slice ao2 n2 cap2) [] w (.slice none 0 0) W) := by
    rw [← hW]
    refine ⟨?_, ⟨?_, ⟨rfl, .inl ⟨rfl, rfl⟩⟩, ?_, by omega, by omega⟩⟩
    · rw [← hA]; exact (Below.heap_alloc _ _ _ (by simp)).trans (heap_alloc_new w _)
    · have := Boxed.new (w.alloc (BM m (.slice ao1 n1 cap1) (.slice ao2 n2 cap2))) 117 (.slice none 0 0)
      rw [World.size_alloc] at this
      rw [← hb]
      exact this
    · rw [← hA]; exact bup (below_alloc _ _) (below_alloc _ _)
  clear hr hk hbg hlv hil hit hmn hnu hv hx1 hx2 hn1 hn2 hW hA hb
  go_enter Tryz.func51, Tryz.ntmps51
  obtain ⟨e0, -⟩ := mm_of HF0.out.bx
  go_upto_region 3 with fail
  rw [HW.out, HBB.out, HA.out]
  go_wp2_with fail
  refine (num_s m.k 1 _ HK.out).mono ?_
  rintro e x1 ⟨rfl, hb1⟩
  have HF0' : Hid (Fr A A b m (.slice ao1 n1 cap1) (.slice ao2 n2 cap2) [] w (.slice none 0 0) x1) := HF0.out.step hb1
  clear hb1 e0
  go_wp2_with fail
  refine (add_any true 1 (Pl.numOut m.k 1) A b [] w _ _ HF0'.out.st (by simp)).mono ?_
  rintro e y0 ⟨rfl, v0, hst, ho⟩
  have HF1 : Hid (Fr A A b m (.slice ao1 n1 cap1) (.slice ao2 n2 cap2) (g1 m) w v0 y0) := HF0'.out.add HNE.out hst ho
  clear hst ho HF0 HF0'
  obtain ⟨c0, c1, c2, c3, c4, c5, c6, c7, c8, c9, c10, c11, c12, c13, c14⟩ := mm_of HF1.out.bx
  go_wp2_with fail
  refine (bigs_any m _ _ ⟨_, _, _, rfl⟩ ⟨_, _, _, rfl⟩ _).mono ?_
  rintro e x2 ⟨rfl, hb2⟩
  have HQ0 : Hid (Fr A A b m (.slice ao1 n1 cap1) (.slice ao2 n2 cap2) (g1 m) w v0 x2) := HF1.out.step hb2
  have HL0 : Hid ((g1 m).length ≤ 1) := Nat.le_refl _
  clear hb2 HF1 c0 c1 c2 c3 c4 c5 c6 c7 c8 c9 c10 c11 c12 c13 c14
  have hix0 := ix7_0 m
  have hix1 := ix7_1 m
  have hix2 := ix7_2 m
  have hix3 := ix7_3 m
  have hix4 := ix7_4 m
  have hix5 := ix7_5 m
  have hix6 := ix7_6 m
  go_wp2
  refine wp_loop_rounds 8 ?_
  rw [rounds_succ]
  go_wp2_with fail
  refine (num_s m.v 6 _ HG.out.1).mono ?_
  rintro e p0 ⟨rfl, hb⟩
  have HP0 : Hid (Fr A A b m (.slice ao1 n1 cap1) (.slice ao2 n2 cap2) (g1 m) w v0 p0) := HQ0.out.step hb
  clear hb HQ0
  go_wp2_with fail
  refine (add_any (m.v != 0) 2 (Pl.numOut m.v 6) A b (g1 m) w v0 _ HP0.out.st (Nat.le_trans HL0.out (by decide))).mono ?_
  rintro e q0 ⟨rfl, v1, hst, ho⟩
  have HQ1 : Hid (Fr A A b m (.slice ao1 n1 cap1) (.slice ao2 n2 cap2) ((g1 m) ++ opt (m.v != 0) (2, Pl.numOut m.v 6)) w v1 q0) := HP0.out.add HNE.out hst ho
  have HL1 : Hid (((g1 m) ++ opt (m.v != 0) (2, Pl.numOut m.v 6)).length ≤ 2) := by show _ ≤ _; rw [List.length_append]; have h1 := HL0.out; have h2 := opt_len (m.v != 0) (2, Pl.numOut m.v 6); omega
  clear hst ho HP0
  go_wp2
  rw [rounds_succ]
  go_wp2_with fail
  refine (num_s m.n 6 _ HG.out.2.1).mono ?_
  rintro e p1 ⟨rfl, hb⟩
  have HP1 : Hid (Fr A A b m (.slice ao1 n1 cap1) (.slice ao2 n2 cap2) ((g1 m) ++ opt (m.v != 0) (2, Pl.numOut m.v 6)) w v1 p1) := HQ1.out.step hb
  clear hb HQ1
  go_wp2_with fail
  refine (add_any (m.n != 0) 3 (Pl.numOut m.n 6) A b ((g1 m) ++ opt (m.v != 0) (2, Pl.numOut m.v 6)) w v1 _ HP1.out.st (Nat.le_trans HL1.out (by decide))).mono ?_
  rintro e q1 ⟨rfl, v2, hst, ho⟩
  have HQ2 : Hid (Fr A A b m (.slice ao1 n1 cap1) (.slice ao2 n2 cap2) (((g1 m) ++ opt (m.v != 0) (2, Pl.numOut m.v 6)) ++ opt (m.n != 0) (3, Pl.numOut m.n 6)) w v2 q1) := HP1.out.add HNE.out hst ho
  have HL2 : Hid ((((g1 m) ++ opt (m.v != 0) (2, Pl.numOut m.v 6)) ++ opt (m.n != 0) (3, Pl.numOut m.n 6)).length ≤ 3) := by show _ ≤ _; rw [List.length_append]; have h1 := HL1.out; have h2 := opt_len (m.n != 0) (3, Pl.numOut m.n 6); omega
  clear hst ho HP1
  go_wp2
  rw [rounds_succ]
  go_wp2_with fail
  refine (num_s m.o 6 _ HG.out.2.2.1).mono ?_
  rintro e p2 ⟨rfl, hb⟩
  have HP2 : Hid (Fr A A b m (.slice ao1 n1 cap1) (.slice ao2 n2 cap2) (((g1 m) ++ opt (m.v != 0) (2, Pl.numOut m.v 6)) ++ opt (m.n != 0) (3, Pl.numOut m.n 6)) w v2 p2) := HQ2.out.step hb
  clear hb HQ2
  go_wp2_with fail
  refine (add_any (m.o != 0) 4 (Pl.numOut m.o 6) A b (((g1 m) ++ opt (m.v != 0) (2, Pl.numOut m.v 6)) ++ opt (m.n != 0) (3, Pl.numOut m.n 6)) w v2 _ HP2.out.st (Nat.le_trans HL2.out (by decide))).mono ?_
  rintro e q2 ⟨rfl, v3, hst, ho⟩
  have HQ3 : Hid (Fr A A b m (.slice ao1 n1 cap1) (.slice ao2 n2 cap2) ((((g1 m) ++ opt (m.v != 0) (2, Pl.numOut m.v 6)) ++ opt (m.n != 0) (3, Pl.numOut m.n 6)) ++ opt (m.o != 0) (4, Pl.numOut m.o 6)) w v3 q2) := HP2.out.add HNE.out hst ho
  have HL3 : Hid (((((g1 m) ++ opt (m.v != 0) (2, Pl.numOut m.v 6)) ++ opt (m.n != 0) (3, Pl.numOut m.n 6)) ++ opt (m.o != 0) (4, Pl.numOut m.o 6)).length ≤ 4) := by show _ ≤ _; rw [List.length_append]; have h1 := HL2.out; have h2 := opt_len (m.o != 0) (4, Pl.numOut m.o 6); omega
  clear hst ho HP2
  go_wp2
  rw [rounds_succ]
  go_wp2_with fail
  refine (num_s m.c 6 _ HG.out.2.2.2.1).mono ?_
  rintro e p3 ⟨rfl, hb⟩
  have HP3 : Hid (Fr A A b m (.slice ao1 n1 cap1) (.slice ao2 n2 cap2) ((((g1 m) ++ opt (m.v != 0) (2, Pl.numOut m.v 6)) ++ opt (m.n != 0) (3, Pl.numOut m.n 6)) ++ opt (m.o != 0) (4, Pl.numOut m.o 6)) w v3 p3) := HQ3.out.step hb
  clear hb HQ3
  go_wp2_with fail
  refine (add_any (m.c != 0) 5 (Pl.numOut m.c 6) A b ((((g1 m) ++ opt (m.v != 0) (2, Pl.numOut m.v 6)) ++ opt (m.n != 0) (3, Pl.numOut m.n 6)) ++ opt (m.o != 0) (4, Pl.numOut m.o 6)) w v3 _ HP3.out.st (Nat.le_trans HL3.out (by decide))).mono ?_
  rintro e q3 ⟨rfl, v4, hst, ho⟩
  have HQ4 : Hid (Fr A A b m (.slice ao1 n1 cap1) (.slice ao2 n2 cap2) (((((g1 m) ++ opt (m.v != 0) (2, Pl.numOut m.v 6)) ++ opt (m.n != 0) (3, Pl.numOut m.n 6)) ++ opt (m.o != 0) (4, Pl.numOut m.o 6)) ++ opt (m.c != 0) (5, Pl.numOut m.c 6)) w v4 q3) := HP3.out.add HNE.out hst ho
  have HL4 : Hid ((((((g1 m) ++ opt (m.v != 0) (2, Pl.numOut m.v 6)) ++ opt (m.n != 0) (3, Pl.numOut m.n 6)) ++ opt (m.o != 0) (4, Pl.numOut m.o 6)) ++ opt (m.c != 0) (5, Pl.numOut m.c 6)).length ≤ 5) := by show _ ≤ _; rw [List.length_append]; have h1 := HL3.out; have h2 := opt_len (m.c != 0) (5, Pl.numOut m.c 6); omega
  clear hst ho HP3
  go_wp2
  rw [rounds_succ]
  go_wp2_with fail
  refine (num_s m.b 6 _ HG.out.2.2.2.2.1).mono ?_
  rintro e p4 ⟨rfl, hb⟩
  have HP4 : Hid (Fr A A b m (.slice ao1 n1 cap1) (.slice ao2 n2 cap2) (((((g1 m) ++ opt (m.v != 0) (2, Pl.numOut m.v 6)) ++ opt (m.n != 0) (3, Pl.numOut m.n 6)) ++ opt (m.o != 0) (4, Pl.numOut m.o 6)) ++ opt (m.c != 0) (5, Pl.numOut m.c 6)) w v4 p4) := HQ4.out.step hb
  clear hb HQ4
  go_wp2_with fail
  refine (add_any (m.b != 0) 6 (Pl.numOut m.b 6) A b (((((g1 m) ++ opt (m.v != 0) (2, Pl.numOut m.v 6)) ++ opt (m.n != 0) (3, Pl.numOut m.n 6)) ++ opt (m.o != 0) (4, Pl.numOut m.o 6)) ++ opt (m.c != 0) (5, Pl.numOut m.c 6)) w v4 _ HP4.out.st (Nat.le_trans HL4.out (by decide))).mono ?_
  rintro e q4 ⟨rfl, v5, hst, ho⟩
  have HQ5 : Hid (Fr A A b m (.slice ao1 n1 cap1) (.slice ao2 n2 cap2) ((((((g1 m) ++ opt (m.v != 0) (2, Pl.numOut m.v 6)) ++ opt (m.n != 0) (3, Pl.numOut m.n 6)) ++ opt (m.o != 0) (4, Pl.numOut m.o 6)) ++ opt (m.c != 0) (5, Pl.numOut m.c 6)) ++ opt (m.b != 0) (6, Pl.numOut m.b 6)) w v5 q4) := HP4.out.add HNE.out hst ho
  have HL5 : Hid (((((((g1 m) ++ opt (m.v != 0) (2, Pl.numOut m.v 6)) ++ opt (m.n != 0) (3, Pl.numOut m.n 6)) ++ opt (m.o != 0) (4, Pl.numOut m.o 6)) ++ opt (m.c != 0) (5, Pl.numOut m.c 6)) ++ opt (m.b != 0) (6, Pl.numOut m.b 6)).length ≤ 6) := by show _ ≤ _; rw [List.length_append]; have h1 := HL4.out; have h2 := opt_len (m.b != 0) (6, Pl.numOut m.b 6); omega
  clear hst ho HP4
  go_wp2
  rw [rounds_succ]
  go_wp2_with fail
  refine (num_s m.l 6 _ HG.out.2.2.2.2.2.1).mono ?_
  rintro e p5 ⟨rfl, hb⟩
  have HP5 : Hid (Fr A A b m (.slice ao1 n1 cap1) (.slice ao2 n2 cap2) ((((((g1 m) ++ opt (m.v != 0) (2, Pl.numOut m.v 6)) ++ opt (m.n != 0) (3, Pl.numOut m.n 6)) ++ opt (m.o != 0) (4, Pl.numOut m.o 6)) ++ opt (m.c != 0) (5, Pl.numOut m.c 6)) ++ opt (m.b != 0) (6, Pl.numOut m.b 6)) w v5 p5) := HQ5.out.step hb
  clear hb HQ5
  go_wp2_with fail
  refine (add_any (m.l != 0) 7 (Pl.numOut m.l 6) A b ((((((g1 m) ++ opt (m.v != 0) (2, Pl.numOut m.v 6)) ++ opt (m.n != 0) (3, Pl.numOut m.n 6)) ++ opt (m.o != 0) (4, Pl.numOut m.o 6)) ++ opt (m.c != 0) (5, Pl.numOut m.c 6)) ++ opt (m.b != 0) (6, Pl.numOut m.b 6)) w v5 _ HP5.out.st (Nat.le_trans HL5.out (by decide))).mono ?_
  rintro e q5 ⟨rfl, v6, hst, ho⟩
  have HQ6 : Hid (Fr A A b m (.slice ao1 n1 cap1) (.slice ao2 n2 cap2) (((((((g1 m) ++ opt (m.v != 0) (2, Pl.numOut m.v 6)) ++ opt (m.n != 0) (3, Pl.numOut m.n 6)) ++ opt (m.o != 0) (4, Pl.numOut m.o 6)) ++ opt (m.c != 0) (5, Pl.numOut m.c 6)) ++ opt (m.b != 0) (6, Pl.numOut m.b 6)) ++ opt (m.l != 0) (7, Pl.numOut m.l 6)) w v6 q5) := HP5.out.add HNE.out hst ho
  have HL6 : Hid ((((((((g1 m) ++ opt (m.v != 0) (2, Pl.numOut m.v 6)) ++ opt (m.n != 0) (3, Pl.numOut m.n 6)) ++ opt (m.o != 0) (4, Pl.numOut m.o 6)) ++ opt (m.c != 0) (5, Pl.numOut m.c 6)) ++ opt (m.b != 0) (6, Pl.numOut m.b 6)) ++ opt (m.l != 0) (7, Pl.numOut m.l 6)).length ≤ 7) := by show _ ≤ _; rw [List.length_append]; have h1 := HL5.out; have h2 := opt_len (m.l != 0) (7, Pl.numOut m.l 6); omega
  clear hst ho HP5
  go_wp2
  rw [rounds_succ]
  go_wp2_with fail
  refine (num_s m.cl 6 _ HG.out.2.2.2.2.2.2).mono ?_
  rintro e p6 ⟨rfl, hb⟩
  have HP6 : Hid (Fr A A b m (.slice ao1 n1 cap1) (.slice ao2 n2 cap2) (((((((g1 m) ++ opt (m.v != 0) (2, Pl.numOut m.v 6)) ++ opt (m.n != 0) (3, Pl.numOut m.n 6)) ++ opt (m.o != 0) (4, Pl.numOut m.o 6)) ++ opt (m.c != 0) (5, Pl.numOut m.c 6)) ++ opt (m.b != 0) (6, Pl.numOut m.b 6)) ++ opt (m.l != 0) (7, Pl.numOut m.l 6)) w v6 p6) := HQ6.out.step hb
  clear hb HQ6
  go_wp2_with fail
  refine (add_any (m.cl != 0) 8 (Pl.numOut m.cl 6) A b (((((((g1 m) ++ opt (m.v != 0) (2, Pl.numOut m.v 6)) ++ opt (m.n != 0) (3, Pl.numOut m.n 6)) ++ opt (m.o != 0) (4, Pl.numOut m.o 6)) ++ opt (m.c != 0) (5, Pl.numOut m.c 6)) ++ opt (m.b != 0) (6, Pl.numOut m.b 6)) ++ opt (m.l != 0) (7, Pl.numOut m.l 6)) w v6 _ HP6.out.st (Nat.le_trans HL6.out (by decide))).mono ?_
  rintro e q6 ⟨rfl, v7, hst, ho⟩
  have HQ7 : Hid (Fr A A b m (.slice ao1 n1 cap1) (.slice ao2 n2 cap2) ((((((((g1 m) ++ opt (m.v != 0) (2, Pl.numOut m.v 6)) ++ opt (m.n != 0) (3, Pl.numOut m.n 6)) ++ opt (m.o != 0) (4, Pl.numOut m.o 6)) ++ opt (m.c != 0) (5, Pl.numOut m.c 6)) ++ opt (m.b != 0) (6, Pl.numOut m.b 6)) ++ opt (m.l != 0) (7, Pl.numOut m.l 6)) ++ opt (m.cl != 0) (8, Pl.numOut m.cl 6)) w v7 q6) := HP6.out.add HNE.out hst ho
  have HL7 : Hid (((((((((g1 m) ++ opt (m.v != 0) (2, Pl.numOut m.v 6)) ++ opt (m.n != 0) (3, Pl.numOut m.n 6)) ++ opt (m.o != 0) (4, Pl.numOut m.o 6)) ++ opt (m.c != 0) (5, Pl.numOut m.c 6)) ++ opt (m.b != 0) (6, Pl.numOut m.b 6)) ++ opt (m.l != 0) (7, Pl.numOut m.l 6)) ++ opt (m.cl != 0) (8, Pl.numOut m.cl 6)).length ≤ 8) := by show _ ≤ _; rw [List.length_append]; have h1 := HL6.out; have h2 := opt_len (m.cl != 0) (8, Pl.numOut m.cl 6); omega
  clear hst ho HP6
  go_wp2
  have HFB : Hid (Fr A A b m (.slice ao1 n1 cap1) (.slice ao2 n2 cap2) (g2 m) w v7 q6) := by
    have e : g2 m = ((((((((g1 m) ++ opt (m.v != 0) (2, Pl.numOut m.v 6)) ++ opt (m.n != 0) (3, Pl.numOut m.n 6)) ++ opt (m.o != 0) (4, Pl.numOut m.o 6)) ++ opt (m.c != 0) (5, Pl.numOut m.c 6)) ++ opt (m.b != 0) (6, Pl.numOut m.b 6)) ++ opt (m.l != 0) (7, Pl.numOut m.l 6)) ++ opt (m.cl != 0) (8, Pl.numOut m.cl 6)) := by simp [g2, bigF, bigs]
    rw [e]
    exact HQ7.out
  clear HQ7 HL7 hix0 hix1 hix2 hix3 hix4 hix5 hix6
  rw [rounds_succ]
  obtain ⟨c0, c1, c2, c3, c4, c5, c6, c7, c8, c9, c10, c11, c12, c13, c14⟩ := mm_of HFB.out.bx
  go_wp2
  clear c0 c1 c2 c3 c4 c5 c6 c7 c8 c9 c10 c11 c12 c13 c14
  go_loopw [35] (fun i wr => ∃ (k : Nat) (v : Value), k ≤ n1 ∧ i = .int .i64 k ∧ Hid (Fr A A b m (.slice ao1 n1 cap1) (.slice ao2 n2 cap2) (g2 m ++ lifeF (m.lives.take k)) w v wr)) (fun i _ => n1 - (intOf i).toNat)
  case atStart => exact ⟨0, v7, Nat.zero_le _, rfl, by show Fr _ _ _ _ _ _ _ _ _ _; simpa [lifeF] using HFB.out⟩
  case round =>
    obtain ⟨k, v, hk, rfl, HF⟩ := hrel
    have HBK : Hid (Below w.heap.size w wr) := by rw [HA.out]; exact HF.out.st.below
    by_cases hlt : k < n1
    · obtain ⟨y, hyk⟩ : ∃ y, m.lives[k]? = some y := ⟨_, List.getElem?_eq_getElem (by rw [HN1.out]; exact hlt)⟩
      obtain ⟨b2, off, rfl, -, hB, hc⟩ := HX1.out k y hyk
      have d0 : wr.cell? ⟨b2, off + k, none⟩ = some (.int .i64 y) := by have := (HBK.out.cell (p := ⟨b2, off + (k * EI.sz + 0), none⟩) hB).trans (hc 0 _ rfl); simpa [EI] using this
      have hlt' : (k : Int) < (n1 : Int) := by omega
      have HY : Hid (y ≤ 9223372036854775807) := HLV.out y (List.mem_of_getElem? hyk)
      have HLA : Hid (lifeF (m.lives.take (k + 1)) = lifeF (m.lives.take k) ++ [(9, Pl.numOut y 6)]) := lives_at hyk
      have HLL : Hid ((g2 m ++ lifeF (m.lives.take k)).length ≤ 1000) := by show _ ≤ _; rw [List.length_append]; have h1 := HLEN.out.2.2.2.2; have h2 := lives_len m.lives k; omega
      clear hc hyk hB
      go_wp2_with fail
      refine (num_s y 6 _ HY.out).mono ?_
      rintro e x3 ⟨rfl, hb⟩
      have HF3 : Hid (Fr A A b m _ _ (g2 m ++ lifeF (m.lives.take k)) w v x3) := HF.out.step hb
      clear hb d0
      go_wp2_with fail
      refine (add_any true 9 (Pl.numOut y 6) A b _ w _ _ HF3.out.st HLL.out).mono ?_
      rintro e x4 ⟨rfl, v', hst, ho⟩
      have hF4 := HF3.out.add HNE.out hst ho
      rw [show opt true (9, Pl.numOut y 6) = [(9, Pl.numOut y 6)] from rfl, List.append_assoc, ← HLA.out] at hF4
      have HF4 : Hid (Fr A A b m _ _ (g2 m ++ lifeF (m.lives.take (k + 1))) w v' x4) := hF4
      clear hF4
      clear hst ho HF3
      go_wp2
      go_roundw
      case rel => exact ⟨k + 1, v', by omega, by go_num, HF4.out⟩
      case measure => simp [intOf]; omega
    · obtain rfl : n1 = k := by omega
      have HFC : Hid (Fr A A b m (.slice ao1 n1 cap1) (.slice ao2 n2 cap2) (g3 m) w v wr) := by
        have h := HF.out
        rw [← HN1.out, List.take_length] at h
        rw [← HN1.out]
        exact h
      obtain ⟨c0, c1, c2, c3, c4, c5, c6, c7, c8, c9, c10, c11, c12, c13, c14⟩ := mm_of HFC.out.bx
      clear HF HFB
      go_wp2
      clear c0 c1 c2 c3 c4 c5 c6 c7 c8 c9 c10 c11 c12 c13 c14
      go_loopw [47] (fun i wr => ∃ (k : Nat) (v : Value), k ≤ n2 ∧ i = .int .i64 k ∧ Hid (Fr A A b m (.slice ao1 n1 cap1) (.slice ao2 n2 cap2) (g3 m ++ itF (m.items.take k)) w v wr)) (fun i _ => n2 - (intOf i).toNat)
      case atStart => exact ⟨0, v, Nat.zero_le _, rfl, by show Fr _ _ _ _ _ _ _ _ _ _; simpa [itF] using HFC.out⟩
      case round =>
        obtain ⟨k, v2, hk2, rfl, HF⟩ := hrel
        have HBK2 : Hid (Below w.heap.size w wr) := by rw [HA.out]; exact HF.out.st.below
        by_cases hlt2 : k < n2
        · obtain ⟨y, hyk⟩ : ∃ y, m.items[k]? = some y := ⟨_, List.getElem?_eq_getElem (by rw [HN2.out]; exact hlt2)⟩
          obtain ⟨b2, off, rfl, -, hB, hc⟩ := HX2.out k y hyk
          have aa := fun j u hj => (HBK2.out.cell (p := ⟨b2, off + (k * EM.sz + j), none⟩) hB).trans (hc j u hj)
          have d0 : wr.cell? ⟨b2, off + k * 4, none⟩ = some (.int .i64 y.v) := aa 0 _ rfl
          have d1 : wr.cell? ⟨b2, off + k * 4 + 1, none⟩ = some (.int .i64 y.c) := aa 1 _ rfl
          have d2 : wr.cell? ⟨b2, off + k * 4 + 2, none⟩ = some (.int .i64 y.r) := aa 2 _ rfl
          have d3 : wr.cell? ⟨b2, off + k * 4 + 3, none⟩ = some (.string y.b) := aa 3 _ rfl
          have hlt2' : (k : Int) < (n2 : Int) := by omega
          have hok := HIT.out y (List.mem_of_getElem? hyk)
          simp only [okIt, decide_eq_true_eq] at hok
          have HY1 : Hid (y.v ≤ 9223372036854775807) := by show _ ≤ _; omega
          have HY2 : Hid (y.c ≤ 9223372036854775807) := by show _ ≤ _; omega
          have HY3 : Hid (y.r ≤ 9223372036854775807) := by show _ ≤ _; omega
          have hyb : y.b.size ≤ 4096 := hok.2.2.2
          have HLA : Hid (itF (m.items.take (k + 1)) = itF (m.items.take k) ++ [(10, itB y)]) := items_at hyk
          have HLL : Hid ((g3 m ++ itF (m.items.take k)).length ≤ 1000) := by show _ ≤ _; rw [List.length_append]; have h1 := HLEN.out.2.2.2.1; have h2 := items_len m.items k; omega
          obtain ⟨s1, hs1⟩ : ∃ s, Pl.numOut y.v 6 = s := ⟨_, rfl⟩
          obtain ⟨s2, hs2⟩ : ∃ s, Pl.numOut y.c 6 = s := ⟨_, rfl⟩
          obtain ⟨s3, hs3⟩ : ∃ s, Pl.numOut y.r 6 = s := ⟨_, rfl⟩
          have z1 : s1.size ≤ 6 := by rw [← hs1]; exact numOut_le y.v 6 (by decide) (by decide)
          have z2 : s2.size ≤ 6 := by rw [← hs2]; exact numOut_le y.c 6 (by decide) (by decide)
          have z3 : s3.size ≤ 6 := by rw [← hs3]; exact numOut_le y.r 6 (by decide) (by decide)
          have HIB : Hid (itB y = s1 ++ s2 ++ s3 ++ y.b) := by show itB y = _; unfold itB; rw [hs1, hs2, hs3]
          have q1 : ¬ 9223372036854775807 < s1.size + s2.size := by omega
          have q2 : ¬ 9223372036854775807 < s1.size + s2.size + s3.size := by omega
          have q3 : ¬ 9223372036854775807 < s1.size + s2.size + s3.size + y.b.size := by omega
          have HC1 : Hid (∀ V, Calls Tryz.prog 86 #[.int .i64 y.v, .int .i64 6] V fun e w' => e = .returned (.string s1) ∧ Below V.heap.size V w') := fun V => by rw [← hs1]; exact num_s _ _ V HY1.out
          have HC2 : Hid (∀ V, Calls Tryz.prog 86 #[.int .i64 y.c, .int .i64 6] V fun e w' => e = .returned (.string s2) ∧ Below V.heap.size V w') := fun V => by rw [← hs2]; exact num_s _ _ V HY2.out
          have HC3 : Hid (∀ V, Calls Tryz.prog 86 #[.int .i64 y.r, .int .i64 6] V fun e w' => e = .returned (.string s3) ∧ Below V.heap.size V w') := fun V => by rw [← hs3]; exact num_s _ _ V HY3.out
          obtain ⟨V, hV⟩ : ∃ V, wr.alloc (BI y) = V := ⟨_, rfl⟩
          have HVV : Hid (wr.alloc (BI y) = V) := hV
          have hbV : Below wr.heap.size wr V := by rw [← hV]; exact below_alloc _ _
          have HFV : Hid (Fr A A b m _ _ (g3 m ++ itF (m.items.take k)) w v2 V) := HF.out.step hbV
          obtain ⟨X, hX⟩ : ∃ X, wr.heap.size = X := ⟨_, rfl⟩
          have HXX : Hid (wr.heap.size = X) := hX
          have HXV : Hid (V.heap[X]? = some (BI y)) := by rw [← hV, ← hX]; exact heap_alloc_new _ _
          have HXb : Hid (X ≠ b) := by
            have h1 := HF.out.st.box.lt
            show X ≠ b
            omega
          have HST : Hid (∀ U : World, U.heap[X]? = some (BI y) → U.cell? ⟨X, 0, none⟩ = some (.int .i64 y.v) ∧ U.cell? ⟨X, 1, none⟩ = some (.int .i64 y.c) ∧ U.cell? ⟨X, 2, none⟩ = some (.int .i64 y.r) ∧ U.cell? ⟨X, 3, none⟩ = some (.string y.b)) := fun U hU => it_of hU
          clear hc hyk hB aa hok hs1 hs2 hs3 hbV hV hX z1 z2 z3
          go_wp2_with fail
          rw [HVV.out, HXX.out]
          clear d0 d1 d2 d3
          go_region_held3 (fun U => U.cell? ⟨X, 0, none⟩ = some (.int .i64 y.v) ∧ U.cell? ⟨X, 1, none⟩ = some (.int .i64 y.c) ∧ U.cell? ⟨X, 2, none⟩ = some (.int .i64 y.r) ∧ U.cell? ⟨X, 3, none⟩ = some (.string y.b)) (first | exact HST.out _ (blk HXV.out (bel_drew (Below.refl _ _))) | exact HST.out _ (blk HXV.out (by with_reducible assumption)) | exact HST.out _ (by with_reducible assumption)) (first
            | (go_at_call 86; with_reducible refine (HC1.out _).mono ?_; rintro e x1 ⟨rfl, hb1⟩; have hb1' : Below V.heap.size V x1 := bup (by first | with_reducible assumption | exact bel_drew (Below.refl _ _)) hb1; clear hb1)
            | (go_at_call 86; with_reducible refine (HC2.out _).mono ?_; rintro e x2 ⟨rfl, hb2⟩; have hb2' : Below V.heap.size V x2 := bup (by first | with_reducible assumption | exact bel_drew (Below.refl _ _)) hb2; clear hb2)
            | (go_at_call 86; with_reducible refine (HC3.out _).mono ?_; rintro e x3 ⟨rfl, hb3⟩; have hb3' : Below V.heap.size V x3 := bup (by first | with_reducible assumption | exact bel_drew (Below.refl _ _)) hb3; clear hb3)
            | (go_at_call 85; refine (add_any true 10 (s1 ++ s2 ++ s3 ++ y.b) A b _ w _ _ (HFV.out.step (by with_reducible assumption)).st HLL.out).mono ?_; rintro e x4 ⟨rfl, v3, hst, ho⟩; have hxx : x4.heap[X]? = some (BI y) := ho X _ _ (by decide) HXb.out (blk HXV.out (by with_reducible assumption)); have HF4 : Hid (Fr A A b m _ _ (g3 m ++ itF (m.items.take (k + 1))) w v3 x4) := (by rw [HLA.out, ← List.append_assoc, HIB.out]; exact (HFV.out.step (by with_reducible assumption)).add HNE.out hst ho); clear hst ho))
          all_goals
            clear hxx
            go_wp2
            go_roundw
            case rel => exact ⟨k + 1, v3, by omega, by go_num, HF4.out⟩
            case measure => simp [intOf]; omega
        · obtain rfl : n2 = k := by omega
          have HFD : Hid (Fr A A b m (.slice ao1 n1 cap1) (.slice ao2 n2 cap2) (g4 m) w v2 wr) := by
            have h := HF.out
            rw [← HN2.out, List.take_length] at h
            rw [← HN2.out]
            exact h
          clear HF HFC
          obtain ⟨s1, hs1⟩ : ∃ s, Pl.numOut m.mo 6 = s := ⟨_, rfl⟩
          obtain ⟨s2, hs2⟩ : ∃ s, Pl.numOut m.ms 2 = s := ⟨_, rfl⟩
          obtain ⟨s3, hs3⟩ : ∃ s, Pl.numOut m.mm 4 = s := ⟨_, rfl⟩
          have z1 : s1.size ≤ 6 := by rw [← hs1]; exact numOut_le m.mo 6 (by decide) (by decide)
          have z2 : s2.size ≤ 2 := by rw [← hs2]; exact numOut_le m.ms 2 (by decide) (by decide)
          have z3 : s3.size ≤ 4 := by rw [← hs3]; exact numOut_le m.mm 4 (by decide) (by decide)
          have HMB : Hid (manBy m.mo m.ms m.mm = s1 ++ s2 ++ s3) := by show manBy _ _ _ = _; unfold manBy; rw [hs1, hs2, hs3]
          have q1 : ¬ 9223372036854775807 < s1.size + s2.size := by omega
          have q2 : ¬ 9223372036854775807 < s1.size + s2.size + s3.size := by omega
          have HC1 : Hid (∀ V, Calls Tryz.prog 86 #[.int .i64 m.mo, .int .i64 6] V fun e w' => e = .returned (.string s1) ∧ Below V.heap.size V w') := fun V => by rw [← hs1]; exact num_s _ _ V HMN.out.1
          have HC2 : Hid (∀ V, Calls Tryz.prog 86 #[.int .i64 m.ms, .int .i64 2] V fun e w' => e = .returned (.string s2) ∧ Below V.heap.size V w') := fun V => by rw [← hs2]; exact num_s _ _ V HMN.out.2.1
          have HC3 : Hid (∀ V, Calls Tryz.prog 86 #[.int .i64 m.mm, .int .i64 4] V fun e w' => e = .returned (.string s3) ∧ Below V.heap.size V w') := fun V => by rw [← hs3]; exact num_s _ _ V HMN.out.2.2
          have hnq := fun V => neq_man V m.mo m.ms m.mm
          have HST : Hid (∀ U : World, U.heap[A]? = some (BM m (.slice ao1 n1 cap1) (.slice ao2 n2 cap2)) → U.cell? ⟨A, 10, none⟩ = some (.int .i64 m.mo) ∧ U.cell? ⟨A, 11, none⟩ = some (.int .i64 m.ms) ∧ U.cell? ⟨A, 12, none⟩ = some (.int .i64 m.mm)) := fun U hU => by obtain ⟨c0, c1, c2, c3, c4, c5, c6, c7, c8, c9, c10, c11, c12, c13, c14⟩ := mm_of hU; exact ⟨c10, c11, c12⟩
          obtain ⟨mz, hmz⟩ : ∃ mz, (!manZ m.mo m.ms m.mm) = mz := ⟨_, rfl⟩
          have HMZ : Hid ((!manZ m.mo m.ms m.mm) = mz) := hmz
          rw [hmz] at hnq
          clear hs1 hs2 hs3 z1 z2 z3 hmz
          go_wp2_with fail
          go_region_held3 (fun U => U.cell? ⟨A, 10, none⟩ = some (.int .i64 m.mo) ∧ U.cell? ⟨A, 11, none⟩ = some (.int .i64 m.ms) ∧ U.cell? ⟨A, 12, none⟩ = some (.int .i64 m.mm)) (first | exact HST.out _ (blk HFD.out.bx (bel_drew (Below.refl _ _))) | exact HST.out _ (blk HFD.out.bx (by with_reducible assumption)) | exact HST.out _ (by with_reducible assumption)) (first
            | (go_at_call 86; with_reducible refine (HC1.out _).mono ?_; rintro e x1 ⟨rfl, hb1⟩; have hb1' : Below wr.heap.size wr x1 := bup (by first | with_reducible assumption | exact bel_drew (Below.refl _ _)) hb1; clear hb1)
            | (go_at_call 86; with_reducible refine (HC2.out _).mono ?_; rintro e x2 ⟨rfl, hb2⟩; have hb2' : Below wr.heap.size wr x2 := bup (by first | with_reducible assumption | exact bel_drew (Below.refl _ _)) hb2; clear hb2)
            | (go_at_call 86; with_reducible refine (HC3.out _).mono ?_; rintro e x3 ⟨rfl, hb3⟩; have hb3' : Below wr.heap.size wr x3 := bup (by first | with_reducible assumption | exact bel_drew (Below.refl _ _)) hb3; clear hb3)
            | (go_at_call 85; refine (add_any mz 11 (s1 ++ s2 ++ s3) A b _ w _ _ (HFD.out.step (by with_reducible assumption)).st (Nat.le_trans HLEN.out.2.2.1 (by decide))).mono ?_; rintro e x4 ⟨rfl, v3, hst, ho⟩; have hF4 := (HFD.out.step (by with_reducible assumption)).add HNE.out hst ho; have hxx := hF4.bx; clear hst ho))
          all_goals
            have HFE : Hid (Fr A A b m (.slice ao1 n1 cap1) (.slice ao2 n2 cap2) (g5 m) w v3 x4) := by
              have h := hF4
              rw [← HMZ.out, ← HMB.out] at h
              exact h
            clear hF4 hxx
            go_wp2_with fail
            have HC4 : Hid (∀ V, Calls Tryz.prog 86 #[.int .i64 m.nu, .int .i64 2] V fun e w' => e = .returned (.string (Pl.numOut m.nu 2)) ∧ Below V.heap.size V w') := fun V => num_s _ _ V HNU.out
            have HST5 : Hid (∀ U : World, U.heap[A]? = some (BM m (.slice ao1 n1 cap1) (.slice ao2 n2 cap2)) → U.cell? ⟨A, 13, none⟩ = some (.int .i64 m.nu)) := fun U hU => by obtain ⟨c0, c1, c2, c3, c4, c5, c6, c7, c8, c9, c10, c11, c12, c13, c14⟩ := mm_of hU; exact c13
            go_region_held3 (fun U => U.cell? ⟨A, 13, none⟩ = some (.int .i64 m.nu)) (first | exact HST5.out _ (blk HFE.out.bx (bel_drew (Below.refl _ _))) | exact HST5.out _ (blk HFE.out.bx (by with_reducible assumption)) | exact HST5.out _ (by with_reducible assumption)) (first
              | (go_at_call 86; with_reducible refine (HC4.out _).mono ?_; rintro e x5 ⟨rfl, hb5⟩; have hb5' : Below x4.heap.size x4 x5 := bup (by first | with_reducible assumption | exact bel_drew (Below.refl _ _)) hb5; clear hb5)
              | (go_at_call 85; refine (add_any (m.nu != 0) 12 (Pl.numOut m.nu 2) A b _ w _ _ (HFE.out.step (by with_reducible assumption)).st (Nat.le_trans HLEN.out.2.1 (by decide))).mono ?_; rintro e x6 ⟨rfl, v5, hst, ho⟩; have hF6 := (HFE.out.step (by with_reducible assumption)).add HNE.out hst ho; have hxx := hF6.bx; clear hst ho))
            all_goals
              have HFF : Hid (Fr A A b m (.slice ao1 n1 cap1) (.slice ao2 n2 cap2) (g6 m) w v5 x6) := hF6
              clear hF6 hxx
              obtain ⟨c0, c1, c2, c3, c4, c5, c6, c7, c8, c9, c10, c11, c12, c13, c14⟩ := mm_of HFF.out.bx
              go_wp2_with fail
              refine (add_any (!m.d.toList.isEmpty) 13 m.d A b _ w _ _ HFF.out.st (Nat.le_trans HLEN.out.1 (by decide))).mono ?_
              rintro e x7 ⟨rfl, v6, hst, ho⟩
              have HFG : Hid (Fr A A b m (.slice ao1 n1 cap1) (.slice ao2 n2 cap2) (fields m) w v6 x7) := HFF.out.add HNE.out hst ho
              clear hst ho c0 c1 c2 c3 c4 c5 c6 c7 c8 c9 c10 c11 c12 c13 c14 HFF
              have cb := HFG.out.st.box.cell
              go_wp2
              go_ret
              exact ⟨_, rfl, HFG.out.st.fields, by rw [HA.out]; exact HFG.out.st.below⟩
end Go.Proofs.YtkdhbjmpjbdobaaGreatDoor
/- WPack -/
namespace Go.Proofs.YtkdhbjmpjbdobaaGreatDoor
open Go.ChangeShapes Go.WideShapes Go.ChangeAt Go.RowKit Go.Deep Me
set_option maxRecDepth 100000
theorem tab_up {w w' : World} (h : Po.Tab w) (hb : Below w.heap.size w w') : Po.Tab w' := Po.Tab.below h hb
set_option maxRecDepth 100000 in
set_option maxRecDepth 100000 in
set_option maxHeartbeats 4000000 in
theorem mPack_any (m : Mm) (u z : Value) (w : World) (hv : MAt w m u z) (ht : Po.Tab w) : Calls Tryz.prog 27 #[VM m u z] w fun e w' => e = .returned (.tuple #[.string (packOut m), .int .i64 (packErr m)]) ∧ Below w.heap.size w w' := by
  have HV : Hid (MAt w m u z) := hv
  have HT : Hid (Po.Tab w) := ht
  obtain ⟨ao1, cap1, rfl, -, -⟩ := hv.lives.open
  obtain ⟨ao2, cap2, rfl, -, -⟩ := hv.items.open
  generalize m.lives.length = n1 at *
  generalize m.items.length = n2 at *
  obtain ⟨W, hW⟩ : ∃ W, w.alloc (BM m (.slice ao1 n1 cap1) (.slice ao2 n2 cap2)) = W := ⟨_, rfl⟩
  have HW : Hid (w.alloc (BM m (.slice ao1 n1 cap1) (.slice ao2 n2 cap2)) = W) := hW
  have HBW : Hid (Below w.heap.size w W) := by rw [← hW]; exact below_alloc _ _
  obtain ⟨A, hA⟩ : ∃ A, w.heap.size = A := ⟨_, rfl⟩
  have HA : Hid (w.heap.size = A) := hA
  have HX : Hid (W.heap[A]? = some (BM m (.slice ao1 n1 cap1) (.slice ao2 n2 cap2))) := by rw [← hW, ← hA]; exact heap_alloc_new _ _
  clear hv ht hW hA
  cases hr : right m with
  | false =>
    have HE : Hid ((if right m = true then (0 : Int) else 4) = 4) := by rw [hr]; rfl
    have HO : Hid (packOut m = ⟨#[]⟩ ∧ packErr m = 4) := by unfold packOut packErr; rw [hr]; exact ⟨rfl, rfl⟩
    clear hr
    go_enter Tryz.func27, Tryz.ntmps27
    go_wp2_with fail
    rw [HW.out, HA.out]
    refine (mCheck_any m _ _ _ (HV.out.up HBW.out)).mono ?_
    rintro e w1 ⟨rfl, hb1⟩
    rw [HE.out]
    have HB1 : Hid (Below w.heap.size w w1) := bup HBW.out hb1
    clear hb1
    go_wp2
    go_ret2
    rw [HO.out.1, HO.out.2]
    exact ⟨rfl, HB1.out⟩
  | true =>
    have HE : Hid ((if right m = true then (0 : Int) else 4) = 0) := by rw [hr]; rfl
    have HR : Hid (right m = true) := hr
    have HTO : Hid (Pl.packOut (fields m) = text m) := tlv_out hr
    have HEN : Hid ((Pl.encs (fields m)).length ≤ 1099511627776) := Nat.le_trans (encs_small hr) (by decide)
    have HTS : Hid ((text m).size ≤ 2294600) := text_size hr
    obtain ⟨p, hp⟩ : ∃ p, packed m = p := ⟨_, rfl⟩
    have HP : Hid (Po.Pl.guardOf (text m) = p) := hp
    have hps : p.size ≤ 2294604 := by rw [← hp]; unfold packed; rw [Po.Pl.guardOf_size]; have := HTS.out; omega
    have HO : Hid (packOut m = (if 60000 < p.size then ⟨#[]⟩ else p) ∧ packErr m = if 60000 < p.size then 2 else 0) := by unfold packOut packErr; rw [hr, hp]; exact ⟨rfl, rfl⟩
    clear hr hp
    go_enter Tryz.func27, Tryz.ntmps27
    go_wp2_with fail
    rw [HW.out, HA.out]
    refine (mCheck_any m _ _ _ (HV.out.up HBW.out)).mono ?_
    rintro e w1 ⟨rfl, hb1⟩
    rw [HE.out]
    have HB1 : Hid (Below w.heap.size w w1) := bup HBW.out hb1
    obtain ⟨c0, c1, c2, c3, c4, c5, c6, c7, c8, c9, c10, c11, c12, c13, c14⟩ := mm_of (blk HX.out hb1)
    clear hb1
    go_wp2_with fail
    refine (mfields_any m _ _ _ (HV.out.up HB1.out) HR.out).mono ?_
    rintro e w2 ⟨v, rfl, hf, hb2⟩
    have HB2 : Hid (Below w.heap.size w w2) := bup HB1.out hb2
    have HF : Hid (FieldsAt w2.heap.size w2 v (fields m)) := hf
    clear hb2 hf c0 c1 c2 c3 c4 c5 c6 c7 c8 c9 c10 c11 c12 c13 c14
    go_wp2_with fail
    refine (pack_any _ _ _ HF.out HEN.out).mono ?_
    rintro e w3 ⟨rfl, hb3⟩
    rw [HTO.out]
    have HB3 : Hid (Below w.heap.size w w3) := bup HB2.out hb3
    clear hb3
    go_wp2_with fail
    refine (Po.guard_any _ _ (Nat.le_trans HTS.out (by decide)) (tab_up HT.out HB3.out)).mono ?_
    rintro e w4 ⟨rfl, hb4⟩
    rw [HP.out]
    have HB4 : Hid (Below w.heap.size w w4) := bup HB3.out hb4
    clear hb4
    by_cases hl : 60000 < p.size
    · have hl' : (60000 : Int) < (p.size : Int) := by omega
      have HO2 : Hid (packOut m = ⟨#[]⟩ ∧ packErr m = 2) := by have := HO.out; rwa [if_pos hl, if_pos hl] at this
      clear hl
      go_wp2
      go_ret2
      rw [HO2.out.1, HO2.out.2]
      exact ⟨rfl, HB4.out⟩
    · have hl' : ¬ (60000 : Int) < (p.size : Int) := by omega
      have HO2 : Hid (packOut m = p ∧ packErr m = 0) := by have := HO.out; rwa [if_neg hl, if_neg hl] at this
      clear hl
      go_wp2
      go_ret2
      rw [HO2.out.1, HO2.out.2]
      exact ⟨rfl, HB4.out⟩
end Go.Proofs.YtkdhbjmpjbdobaaGreatDoor
/- WRef -/
namespace Go.Proofs.YtkdhbjmpjbdobaaGreatDoor
open Go.ChangeShapes Go.WideShapes Go.ChangeAt Go.RowKit Go.Deep Me
set_option maxRecDepth 100000
abbrev BMr (m : Mm) (u z : Value) : Obj := .cells #[.int .i64 m.k, .int .i64 m.v, .int .i64 m.n, .int .i64 m.o, .int .i64 m.c, .int .i64 m.b, .int .i64 m.l, .int .i64 m.cl, u, z, .int .i64 m.mo, .int .i64 m.ms, .int .i64 m.mm, .int .i64 m.nu, .string m.d] 95
theorem mr_of {w : World} {A : Nat} {m : Mm} {u z : Value} (h : w.heap[A]? = some (BMr m u z)) : w.cell? ⟨A, 0, none⟩ = some (.int .i64 m.k) ∧ w.cell? ⟨A, 1, none⟩ = some (.int .i64 m.v) ∧ w.cell? ⟨A, 2, none⟩ = some (.int .i64 m.n) ∧ w.cell? ⟨A, 3, none⟩ = some (.int .i64 m.o) ∧ w.cell? ⟨A, 4, none⟩ = some (.int .i64 m.c) ∧ w.cell? ⟨A, 5, none⟩ = some (.int .i64 m.b) ∧ w.cell? ⟨A, 6, none⟩ = some (.int .i64 m.l) ∧ w.cell? ⟨A, 7, none⟩ = some (.int .i64 m.cl) ∧ w.cell? ⟨A, 8, none⟩ = some (u) ∧ w.cell? ⟨A, 9, none⟩ = some (z) ∧ w.cell? ⟨A, 10, none⟩ = some (.int .i64 m.mo) ∧ w.cell? ⟨A, 11, none⟩ = some (.int .i64 m.ms) ∧ w.cell? ⟨A, 12, none⟩ = some (.int .i64 m.mm) ∧ w.cell? ⟨A, 13, none⟩ = some (.int .i64 m.nu) ∧ w.cell? ⟨A, 14, none⟩ = some (.string m.d) := by
  refine ⟨?_, ?_, ?_, ?_, ?_, ?_, ?_, ?_, ?_, ?_, ?_, ?_, ?_, ?_, ?_⟩ <;> simp [World.cell?, h]
set_option maxRecDepth 100000 in
set_option maxHeartbeats 1000000 in
theorem r5_any (x : It) (w : World) : Calls Tryz.prog 132 #[VI x] w fun e w' => e = .returned (.bool (okIt x)) ∧ Below w.heap.size w w' := by
  have HB : Hid (Below w.heap.size w (w.alloc (BI x))) := below_alloc _ _
  have HE : okIt x = (decide (0 ≤ x.v) && decide (x.v ≤ 1099511627776) && decide (0 ≤ x.c) && decide (x.c ≤ 1099511627776) && decide (1 ≤ x.r) && decide (x.r ≤ 1099511627776) && decide ((x.b.size : Int) ≤ 4096)) := by
    unfold okIt
    rw [Bool.eq_iff_iff]
    simp
    omega
  rw [HE]
  clear HE
  obtain ⟨t1, h1⟩ : ∃ t, decide (0 ≤ x.v) = t := ⟨_, rfl⟩
  obtain ⟨t2, h2⟩ : ∃ t, decide (x.v ≤ 1099511627776) = t := ⟨_, rfl⟩
  obtain ⟨t3, h3⟩ : ∃ t, decide (0 ≤ x.c) = t := ⟨_, rfl⟩
  obtain ⟨t4, h4⟩ : ∃ t, decide (x.c ≤ 1099511627776) = t := ⟨_, rfl⟩
  obtain ⟨t5, h5⟩ : ∃ t, decide (1 ≤ x.r) = t := ⟨_, rfl⟩
  obtain ⟨t6, h6⟩ : ∃ t, decide (x.r ≤ 1099511627776) = t := ⟨_, rfl⟩
  obtain ⟨t7, h7⟩ : ∃ t, decide ((x.b.size : Int) ≤ 4096) = t := ⟨_, rfl⟩
  rw [h1, h2, h3, h4, h5, h6, h7]
  cases t1 with
  | false =>
    go_enter Tryz.func132, Tryz.ntmps132
    go_wp2
    go_ret
    exact ⟨rfl, HB.out⟩
  | true =>
    cases t2 with
    | false =>
      go_enter Tryz.func132, Tryz.ntmps132
      go_wp2
      go_ret
      exact ⟨rfl, HB.out⟩
    | true =>
      cases t3 with
      | false =>
        go_enter Tryz.func132, Tryz.ntmps132
        go_wp2
        go_ret
        exact ⟨rfl, HB.out⟩
      | true =>
        cases t4 with
        | false =>
          go_enter Tryz.func132, Tryz.ntmps132
          go_wp2
          go_ret
          exact ⟨rfl, HB.out⟩
        | true =>
          cases t5 with
          | false =>
            go_enter Tryz.func132, Tryz.ntmps132
            go_wp2
            go_ret
            exact ⟨rfl, HB.out⟩
          | true =>
            cases t6 with
            | false =>
              go_enter Tryz.func132, Tryz.ntmps132
              go_wp2
              go_ret
              exact ⟨rfl, HB.out⟩
            | true =>
              cases t7 with
              | false =>
                go_enter Tryz.func132, Tryz.ntmps132
                go_wp2
                go_ret
                exact ⟨rfl, HB.out⟩
              | true =>
                go_enter Tryz.func132, Tryz.ntmps132
                go_wp2
                go_ret
                exact ⟨rfl, HB.out⟩
set_option maxRecDepth 100000 in
set_option maxHeartbeats 1000000 in
theorem r19_any (o s m : Int) (w : World) : Calls Tryz.prog 134 #[VMan o s m] w fun e w' => e = .returned (.bool (manR o s m)) ∧ Below w.heap.size w w' := by
  have HB : Hid (Below w.heap.size w (w.alloc (.cells #[.int .i64 o, .int .i64 s, .int .i64 m] 93))) := below_alloc _ _
  have HE : manR o s m = (decide (0 ≤ o) && decide (o ≤ 1099511627776) && decide (1 ≤ s) && decide (s ≤ 65535) && decide (0 ≤ m) && decide (m < 4294967296)) := by
    unfold manR
    rw [Bool.eq_iff_iff]
    simp
    omega
  rw [HE]
  clear HE
  obtain ⟨t1, h1⟩ : ∃ t, decide (0 ≤ o) = t := ⟨_, rfl⟩
  obtain ⟨t2, h2⟩ : ∃ t, decide (o ≤ 1099511627776) = t := ⟨_, rfl⟩
  obtain ⟨t3, h3⟩ : ∃ t, decide (1 ≤ s) = t := ⟨_, rfl⟩
  obtain ⟨t4, h4⟩ : ∃ t, decide (s ≤ 65535) = t := ⟨_, rfl⟩
  obtain ⟨t5, h5⟩ : ∃ t, decide (0 ≤ m) = t := ⟨_, rfl⟩
  obtain ⟨t6, h6⟩ : ∃ t, decide (m < 4294967296) = t := ⟨_, rfl⟩
  rw [h1, h2, h3, h4, h5, h6]
  cases t1 with
  | false =>
    go_enter Tryz.func134, Tryz.ntmps134
    go_wp2
    go_ret
    exact ⟨rfl, HB.out⟩
  | true =>
    cases t2 with
    | false =>
      go_enter Tryz.func134, Tryz.ntmps134
      go_wp2
      go_ret
      exact ⟨rfl, HB.out⟩
    | true =>
      cases t3 with
      | false =>
        go_enter Tryz.func134, Tryz.ntmps134
        go_wp2
        go_ret
        exact ⟨rfl, HB.out⟩
      | true =>
        cases t4 with
        | false =>
          go_enter Tryz.func134, Tryz.ntmps134
          go_wp2
          go_ret
          exact ⟨rfl, HB.out⟩
        | true =>
          cases t5 with
          | false =>
            go_enter Tryz.func134, Tryz.ntmps134
            go_wp2
            go_ret
            exact ⟨rfl, HB.out⟩
          | true =>
            cases t6 with
            | false =>
              go_enter Tryz.func134, Tryz.ntmps134
              go_wp2
              go_ret
              exact ⟨rfl, HB.out⟩
            | true =>
              go_enter Tryz.func134, Tryz.ntmps134
              go_wp2
              go_ret
              exact ⟨rfl, HB.out⟩
theorem rnone_any (o s m : Int) (w : World) : Calls Tryz.prog 95 #[VMan o s m] w fun e w' => e = .returned (.bool (manZ o s m)) ∧ Below w.heap.size w w' := by
  have HB : Hid (Below w.heap.size w (w.alloc (.cells #[.int .i64 o, .int .i64 s, .int .i64 m] 93))) := below_alloc _ _
  unfold manZ
  obtain ⟨t1, h1⟩ : ∃ t, (o == 0) = t := ⟨_, rfl⟩
  obtain ⟨t2, h2⟩ : ∃ t, (s == 0) = t := ⟨_, rfl⟩
  obtain ⟨t3, h3⟩ : ∃ t, (m == 0) = t := ⟨_, rfl⟩
  rw [h1, h2, h3]
  cases t1 with
  | false =>
    go_enter Tryz.func95, Tryz.ntmps95
    go_wp2
    go_ret
    exact ⟨rfl, HB.out⟩
  | true =>
    cases t2 with
    | false =>
      go_enter Tryz.func95, Tryz.ntmps95
      go_wp2
      go_ret
      exact ⟨rfl, HB.out⟩
    | true =>
      cases t3 with
      | false =>
        go_enter Tryz.func95, Tryz.ntmps95
        go_wp2
        go_ret
        exact ⟨rfl, HB.out⟩
      | true =>
        go_enter Tryz.func95, Tryz.ntmps95
        go_wp2
        go_ret
        exact ⟨rfl, HB.out⟩
theorem rpanel_any (n : Int) (w : World) : Calls Tryz.prog 155 #[.int .i64 n] w fun e w' => e = .returned (.bool (n == 1 || (n == 3 || (n == 5 || n == 7)))) ∧ w' = w := by
  obtain ⟨t1, h1⟩ : ∃ t, (n == 1) = t := ⟨_, rfl⟩
  obtain ⟨t2, h2⟩ : ∃ t, (n == 3) = t := ⟨_, rfl⟩
  obtain ⟨t3, h3⟩ : ∃ t, (n == 5) = t := ⟨_, rfl⟩
  obtain ⟨t4, h4⟩ : ∃ t, (n == 7) = t := ⟨_, rfl⟩
  rw [h1, h2, h3, h4]
  cases t1 with
  | true =>
    go_enter Tryz.func155, Tryz.ntmps155
    go_wp2
    go_ret
    exact ⟨rfl, rfl⟩
  | false =>
    cases t2 with
    | true =>
      go_enter Tryz.func155, Tryz.ntmps155
      go_wp2
      go_ret
      exact ⟨rfl, rfl⟩
    | false =>
      cases t3 with
      | true =>
        go_enter Tryz.func155, Tryz.ntmps155
        go_wp2
        go_ret
        exact ⟨rfl, rfl⟩
      | false =>
        cases t4 with
        | true =>
          go_enter Tryz.func155, Tryz.ntmps155
          go_wp2
          go_ret
          exact ⟨rfl, rfl⟩
        | false =>
          go_enter Tryz.func155, Tryz.ntmps155
          go_wp2
          go_ret
          exact ⟨rfl, rfl⟩
def Me.vecB (l : List Int) : Bool := l.all bigB && (decide (l.length = 1) || (decide (l.length = 3) || (decide (l.length = 5) || decide (l.length = 7))))
theorem Me.liv_vec (l : List Int) : livB l = (decide (l.length = 0) || vecB l) := by
  unfold livB vecB
  generalize l.length = n
  cases l.all bigB
  · simp
  · rw [Bool.eq_iff_iff]
    simp only [Bool.or_eq_true, Bool.and_eq_true, decide_eq_true_eq, and_true, true_and]
    omega
set_option maxRecDepth 100000 in
set_option maxHeartbeats 2000000 in
theorem r20_any (v : Value) (l : List Int) (w : World) (hv : AtW EI w v l) : Calls Tryz.prog 133 #[v] w fun e w' => e = .returned (.bool (vecB l)) ∧ w' = w := by
  obtain ⟨ao, cap, rfl, hm, hx⟩ := hv.open
  unfold maxLen at hm
  obtain ⟨n, hn⟩ : ∃ n, l.length = n := ⟨_, rfl⟩
  have HN : Hid (l.length = n) := hn
  rw [hn] at hm ⊢
  have HX : Hid (∀ i x, l[i]? = some x → ∃ b off, ao = some ⟨b, off, none⟩ ∧ True ∧ b < w.heap.size ∧ ∀ k u, (EI.cells x)[k]? = some u → w.cell? ⟨b, off + (i * EI.sz + k), none⟩ = some u) := hx
  obtain ⟨ans, hans⟩ : ∃ ans, vecB l = ans := ⟨_, rfl⟩
  have HANS : Hid (vecB l = ans) := hans
  rw [hans]
  clear hn hx hv hans
  go_enter Tryz.func133, Tryz.ntmps133
  go_wp2
  go_loop [7] (fun i => ∃ k : Nat, k ≤ n ∧ i = .int .i64 k ∧ Hid ((l.take k).all bigB = true)) (fun i => n - (intOf i).toNat)
  case atStart => exact ⟨0, Nat.zero_le _, rfl, rfl⟩
  case round =>
    obtain ⟨k, hk, rfl, HP⟩ := hrel
    by_cases hlt : k < n
    · obtain ⟨y, hyk⟩ : ∃ y, l[k]? = some y := ⟨_, List.getElem?_eq_getElem (by rw [HN.out]; exact hlt)⟩
      obtain ⟨b2, off, rfl, -, hB, hc⟩ := HX.out k y hyk
      have d0 : w.cell? ⟨b2, off + k, none⟩ = some (.int .i64 y) := by have := hc 0 _ rfl; simpa [EI] using this
      have hlt' : (k : Int) < (n : Int) := by omega
      have HYM : Hid (y ∈ l) := List.mem_of_getElem? hyk
      have HTA : Hid ((l.take (k + 1)).all bigB = ((l.take k).all bigB && bigB y)) := by show _ = _; rw [List.take_add_one, hyk]; simp
      clear hc hyk hB
      by_cases h1 : y < 0
      · have HA : Hid (ans = false) := by
          show ans = false
          rw [← HANS.out]
          have : l.all bigB = false := List.all_eq_false.2 ⟨y, HYM.out, by simp [bigB]; omega⟩
          unfold vecB
          rw [this, Bool.false_and]
        have h1' : decide (y < 0) = true := decide_eq_true h1
        go_wp2
        go_ret
        exact ⟨by rw [HA.out]; rfl, rfl⟩
      · have h1' : decide (y < 0) = false := decide_eq_false h1
        by_cases h2 : 1099511627776 < y
        · have HA : Hid (ans = false) := by
            show ans = false
            rw [← HANS.out]
            have : l.all bigB = false := List.all_eq_false.2 ⟨y, HYM.out, by simp [bigB]; omega⟩
            unfold vecB
            rw [this, Bool.false_and]
          have h2' : decide (1099511627776 < y) = true := decide_eq_true h2
          go_wp2
          go_ret
          exact ⟨by rw [HA.out]; rfl, rfl⟩
        · have h2' : decide (1099511627776 < y) = false := decide_eq_false h2
          have HP2 : Hid ((l.take (k + 1)).all bigB = true) := by
            show _ = _
            rw [HTA.out, HP.out]
            simp [bigB]
            omega
          go_wp2
          go_round
          case rel => exact ⟨k + 1, by omega, by go_num, HP2⟩
          case measure => simp [intOf]; omega
    · obtain rfl : n = k := by omega
      have HA : Hid (((n : Int) == 1 || ((n : Int) == 3 || ((n : Int) == 5 || (n : Int) == 7))) = ans) := by
        show _ = _
        have h := HP.out
        rw [← HN.out, List.take_length] at h
        rw [← HANS.out]
        unfold vecB
        rw [h, HN.out, Bool.eq_iff_iff]
        simp
        omega
      go_wp2_with fail
      refine (rpanel_any _ _).mono ?_
      rintro e w' ⟨rfl, rfl⟩
      rw [HA.out]
      go_wp2
      go_ret
      exact ⟨rfl, rfl⟩
end Go.Proofs.YtkdhbjmpjbdobaaGreatDoor
