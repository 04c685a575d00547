/-
  The texts SAns, SOnP, KRef, as one.
-/
import Derived.Test.YtkdhbjmpjbdobaaGreatDoorM22
/- SAns -/
namespace Go.Proofs.YtkdhbjmpjbdobaaGreatDoor
open Go.ChangeShapes Go.WideShapes Go.ChangeAt Go.RowKit Go.Deep
set_option maxRecDepth 100000
open Sk
abbrev VA1 (q : Int) (r : Ns.Rep) (v : Value) : Value := .agg #[.int .i64 q, .int .i64 r.e, .int .i64 r.no, .int .i64 r.gen, .int .i64 r.k, .int .i64 r.l, .int .i64 r.s, .int .i64 r.t, .string r.data, v, .int .i64 r.n]
abbrev BA1 (q : Int) (r : Ns.Rep) (v : Value) : Obj := .cells #[.int .i64 q, .int .i64 r.e, .int .i64 r.no, .int .i64 r.gen, .int .i64 r.k, .int .i64 r.l, .int .i64 r.s, .int .i64 r.t, .string r.data, v, .int .i64 r.n] 50
def put11 (w : World) (b : Nat) (q : Int) (r : Ns.Rep) (v : Value) : World := ((((((((((w.setCell ⟨b, 0, none⟩ (.int .i64 q)).setCell ⟨b, 1, none⟩ (.int .i64 r.e)).setCell ⟨b, 2, none⟩ (.int .i64 r.no)).setCell ⟨b, 3, none⟩ (.int .i64 r.gen)).setCell ⟨b, 4, none⟩ (.int .i64 r.k)).setCell ⟨b, 5, none⟩ (.int .i64 r.l)).setCell ⟨b, 6, none⟩ (.int .i64 r.s)).setCell ⟨b, 7, none⟩ (.int .i64 r.t)).setCell ⟨b, 8, none⟩ (.string r.data)).setCell ⟨b, 9, none⟩ v).setCell ⟨b, 10, none⟩ (.int .i64 r.n)
section
variable {w w' : World} {A B cu cn z : Nat} {s : Sb}
theorem Ot.put {i : Nat} {v : Value} (h : Ot A B cu cn w w') (hz : w.heap.size ≤ z) : Ot A B cu cn w (w'.setCell ⟨z, i, none⟩ v) :=
  ⟨h.os, h.tape, h.output, by simpa [World.setCell] using h.size, fun k hk a b c d => (Below.heap_setCell _ _ _ _ (by intro e; dsimp only at e; omega)).trans (h.block k hk a b c d)⟩
theorem Su.put {i : Nat} {v : Value} (h : Su w A B cu cn s) (h1 : z ≠ A) (h2 : z ≠ B) (h3 : z ≠ cu) (h4 : z ≠ cn) : Su (w.setCell ⟨z, i, none⟩ v) A B cu cn s :=
  ⟨(Below.heap_setCell _ _ _ _ (Ne.symm h1)).trans h.box, h.inb.up (Below.heap_setCell _ _ _ _ (Ne.symm h2)) (Below.heap_setCell _ _ _ _ (Ne.symm h3)) (Below.heap_setCell _ _ _ _ (Ne.symm h4))⟩
theorem Ot.put11 {q : Int} {r : Ns.Rep} {v : Value} (h : Ot A B cu cn w w') (hz : w.heap.size ≤ z) : Ot A B cu cn w (put11 w' z q r v) :=
  ((((((((((h.put hz).put hz).put hz).put hz).put hz).put hz).put hz).put hz).put hz).put hz).put hz
theorem Su.put11 {q : Int} {r : Ns.Rep} {v : Value} (h : Su w A B cu cn s) (h1 : z ≠ A) (h2 : z ≠ B) (h3 : z ≠ cu) (h4 : z ≠ cn) : Su (put11 w z q r v) A B cu cn s :=
  ((((((((((h.put h1 h2 h3 h4).put h1 h2 h3 h4).put h1 h2 h3 h4).put h1 h2 h3 h4).put h1 h2 h3 h4).put h1 h2 h3 h4).put h1 h2 h3 h4).put h1 h2 h3 h4).put h1 h2 h3 h4).put h1 h2 h3 h4).put h1 h2 h3 h4
theorem put11_off {q : Int} {r : Ns.Rep} {v : Value} {k : Nat} (h : k ≠ z) : (put11 w z q r v).heap[k]? = w.heap[k]? := by
  unfold Go.Proofs.YtkdhbjmpjbdobaaGreatDoor.put11
  rw [Below.heap_setCell _ _ _ _ h, Below.heap_setCell _ _ _ _ h, Below.heap_setCell _ _ _ _ h, Below.heap_setCell _ _ _ _ h, Below.heap_setCell _ _ _ _ h, Below.heap_setCell _ _ _ _ h, Below.heap_setCell _ _ _ _ h, Below.heap_setCell _ _ _ _ h, Below.heap_setCell _ _ _ _ h, Below.heap_setCell _ _ _ _ h, Below.heap_setCell _ _ _ _ h]
theorem put11_size {q : Int} {r : Ns.Rep} {v : Value} : (put11 w z q r v).heap.size = w.heap.size := by simp [Go.Proofs.YtkdhbjmpjbdobaaGreatDoor.put11, World.setCell]
theorem el_of {q : Int} {r : Ns.Rep} {v : Value} (h : w.heap[z]? = some (BA1 q r v)) : w.cell? ⟨z, 0, none⟩ = some (.int .i64 q) ∧ w.cell? ⟨z, 1, none⟩ = some (.int .i64 r.e) ∧ w.cell? ⟨z, 2, none⟩ = some (.int .i64 r.no) ∧ w.cell? ⟨z, 3, none⟩ = some (.int .i64 r.gen) ∧ w.cell? ⟨z, 4, none⟩ = some (.int .i64 r.k) ∧ w.cell? ⟨z, 5, none⟩ = some (.int .i64 r.l) ∧ w.cell? ⟨z, 6, none⟩ = some (.int .i64 r.s) ∧ w.cell? ⟨z, 7, none⟩ = some (.int .i64 r.t) ∧ w.cell? ⟨z, 8, none⟩ = some (.string r.data) ∧ w.cell? ⟨z, 9, none⟩ = some v ∧ w.cell? ⟨z, 10, none⟩ = some (.int .i64 r.n) := by
  refine ⟨?_, ?_, ?_, ?_, ?_, ?_, ?_, ?_, ?_, ?_, ?_⟩ <;> simp [World.cell?, h]
theorem fr_of {q : Int} {r : Ns.Rep} {v : Value} (h : w.heap[z]? = some (BA1 q r v)) (i : Nat) : w.frozen? ⟨z, i, none⟩ = false := by simp [World.frozen?, h]
end
set_option maxRecDepth 100000 in
set_option maxHeartbeats 1000000 in
theorem answer_no (A B cu cn : Nat) (s : Sb) (w : World) (h : Su w A B cu cn s) (hL : s.L = []) : Calls Tryz.prog 16 #[.pointer (some ⟨A, 0, none⟩)] w fun e w' => e = .returned (.tuple #[VA1 0 Ns.Re.zero (.slice none 0 0), .bool false]) ∧ Su w' A B cu cn s ∧ Ot A B cu cn w w' := by
  obtain ⟨k1, hk1, hk2, hk3⟩ := howk s
  obtain ⟨W, hW⟩ : ∃ W, w.alloc (BA1 0 Ns.Re.zero (.slice none 0 0)) = W := ⟨_, rfl⟩
  have H : Hid (Su W A B cu cn s ∧ Below w.heap.size w W ∧ W.heap[w.heap.size]? = some (BA1 0 Ns.Re.zero (.slice none 0 0))) := by
    rw [← hW]
    exact ⟨h.up (below_alloc _ _), below_alloc _ _, heap_alloc_new _ _⟩
  have HN : Hid (w.heap.size ≠ A ∧ w.heap.size ≠ B ∧ w.heap.size ≠ cu ∧ w.heap.size ≠ cn) := by
    have := h.lts
    show _ ∧ _ ∧ _ ∧ _
    omega
  have HW : Hid (w.alloc (BA1 0 Ns.Re.zero (.slice none 0 0)) = W) := hW
  clear hW
  go_enter Tryz.func16, Tryz.ntmps16
  go_wp2_with fail
  have hW := HW.out
  unfold BA1 Ns.Re.zero at hW
  dsimp only at hW
  rw [hW]
  refine (how_any A B cu cn s _ H.out.1).mono ?_
  rintro e w0 ⟨rfl, rfl⟩
  rw [hk1]
  obtain ⟨c0, c1, c2, c3, c4, c5, c6, c7⟩ := H.out.1.cells
  clear hW HW
  go_wp2_with fail
  refine (Xs.take_any B cu cn 64 false [] s.L _ H.out.1.inb).mono ?_
  rintro e w1 ⟨rfl, hi, ho⟩
  clear c0 c1 c2 c3 c4 c5 c6 c7
  have e1 : Xs.tkN [] s.L = s.L := by rw [hL]; rfl
  have e2 : Xs.tkE [] s.L = 6 := by rw [hL]; rfl
  rw [e1] at hi
  rw [e2]
  have H1 : Hid (Su w1 A B cu cn s ∧ Ot A B cu cn w w1 ∧ w1.heap[w.heap.size]? = some (BA1 0 Ns.Re.zero (.slice none 0 0))) := ⟨H.out.1.oth hi ho, (Ot.of H.out.2.1).trans (Ot.oth ho), (ho.block _ (some_lt H.out.2.2) HN.out.2.1 HN.out.2.2.1 HN.out.2.2.2).trans H.out.2.2⟩
  obtain ⟨z0, z1, z2, z3, z4, z5, z6, z7, z8, z9, z10⟩ := el_of H1.out.2.2
  have gg := fr_of H1.out.2.2
  clear hi ho e1 e2 hL h
  generalize Xs.tkS [] s.L = ts
  generalize Xs.tkB [] = tb
  go_wp2
  (try simp only [Exit.inBlock, Exit.then])
  refine bodyPost_ret (v := .tuple #[VA1 0 Ns.Re.zero (.slice none 0 0), .bool false]) ?_ rfl ⟨rfl, ?_, ?_⟩
  · unfold Ns.Re.zero at z1 z2 z3 z4 z5 z6 z7 z8 z10
    dsimp only at z1 z2 z3 z4 z5 z6 z7 z8 z10
    simp [results, Tryz.results16, go_sem, z0, z1, z2, z3, z4, z5, z6, z7, z8, z9, z10, Ns.Re.zero]
  · exact H1.out.1.put11 (q := 0) (r := Ns.Re.zero) (v := .slice none 0 0) HN.out.1 HN.out.2.1 HN.out.2.2.1 HN.out.2.2.2
  · exact H1.out.2.1.put11 (q := 0) (r := Ns.Re.zero) (v := .slice none 0 0) (Nat.le_refl _)
set_option maxRecDepth 100000 in
set_option maxHeartbeats 2000000 in
theorem answer_yes (A B cu cn : Nat) (s : Sb) (x : ByteArray) (l : List ByteArray) (w : World) (h : Su w A B cu cn s) (hT : Po.Tab w) (hL : s.L = x :: l) (hx : Me.unpE x = 0) : Calls Tryz.prog 16 #[.pointer (some ⟨A, 0, none⟩)] w fun e w' => ∃ v, e = .returned (.tuple #[VA1 (Me.unpM x).o (Ns.Re.unpR (Me.unpM x).d.data.toList) v, .bool true]) ∧ At Ns.EE (fun b => w.heap.size ≤ b) w' v (Ns.Re.unpR (Me.unpM x).d.data.toList).ents ∧ Su w' A B cu cn { s with L := l } ∧ Ot A B cu cn w w' := by
  have hds := (unp_nums hx).2.2
  obtain ⟨m, hmx⟩ : ∃ m, Me.unpM x = m := ⟨_, rfl⟩
  rw [hmx] at hds ⊢
  obtain ⟨r, hr⟩ : ∃ r, Ns.Re.unpR m.d.data.toList = r := ⟨_, rfl⟩
  rw [hr]
  have HM : Hid (Me.unpM x = m ∧ Ns.Re.unpR m.d.data.toList = r) := ⟨hmx, hr⟩
  clear hmx hr
  obtain ⟨k1, hk1, hk2, hk3⟩ := howk s
  obtain ⟨W, hW⟩ : ∃ W, w.alloc (BA1 0 Ns.Re.zero (.slice none 0 0)) = W := ⟨_, rfl⟩
  have H : Hid (Su W A B cu cn s ∧ Below w.heap.size w W ∧ W.heap[w.heap.size]? = some (BA1 0 Ns.Re.zero (.slice none 0 0))) := by
    rw [← hW]
    exact ⟨h.up (below_alloc _ _), below_alloc _ _, heap_alloc_new _ _⟩
  have HN : Hid (w.heap.size ≠ A ∧ w.heap.size ≠ B ∧ w.heap.size ≠ cu ∧ w.heap.size ≠ cn) := by
    have := h.lts
    show _ ∧ _ ∧ _ ∧ _
    omega
  have HW : Hid (w.alloc (BA1 0 Ns.Re.zero (.slice none 0 0)) = W) := hW
  clear hW
  go_enter Tryz.func16, Tryz.ntmps16
  go_wp2_with fail
  have hW := HW.out
  unfold BA1 Ns.Re.zero at hW
  dsimp only at hW
  rw [hW]
  refine (how_any A B cu cn s _ H.out.1).mono ?_
  rintro e w0 ⟨rfl, rfl⟩
  rw [hk1]
  obtain ⟨c0, c1, c2, c3, c4, c5, c6, c7⟩ := H.out.1.cells
  clear hW HW
  go_wp2_with fail
  refine (Xs.take_any B cu cn 64 false [] s.L _ H.out.1.inb).mono ?_
  rintro e w1 ⟨rfl, hi, ho⟩
  clear c0 c1 c2 c3 c4 c5 c6 c7
  have e1 : Xs.tkN [] s.L = l := by rw [hL]; rfl
  have e2 : Xs.tkE [] s.L = 0 := by rw [hL]; rfl
  have e3 : Xs.tkS [] s.L = x := by rw [hL]; rfl
  rw [e1] at hi
  rw [e2, e3]
  have H1 : Hid (Su w1 A B cu cn { s with L := l } ∧ Ot A B cu cn w w1 ∧ w1.heap[w.heap.size]? = some (BA1 0 Ns.Re.zero (.slice none 0 0)) ∧ Po.Tab w1) := by
    have ot := (Ot.of H.out.2.1).trans (Ot.oth (A := A) ho)
    exact ⟨H.out.1.oth hi ho, ot, (ho.block _ (some_lt H.out.2.2) HN.out.2.1 HN.out.2.2.1 HN.out.2.2.2).trans H.out.2.2, ot.tab h hT⟩
  clear hi ho e1 e2 e3 hL h hT
  generalize Xs.tkB [] = tb
  go_wp2_with fail
  refine (munpack_any x _ H1.out.2.2.2).mono ?_
  rintro e w2 ⟨⟨u, z, rfl, hm⟩, hb2⟩
  rw [HM.out.1] at hm ⊢
  obtain ⟨p1, d1, rfl, -, -⟩ := hm.lives.open
  obtain ⟨p2, d2, rfl, -, -⟩ := hm.items.open
  clear hm
  generalize m.lives.length = n1
  generalize m.items.length = n2
  obtain ⟨X, hX⟩ : ∃ X, w2.alloc (BM m (.slice p1 n1 d1) (.slice p2 n2 d2)) = X := ⟨_, rfl⟩
  have HX : Hid (Below w1.heap.size w1 X ∧ X.heap[w2.heap.size]? = some (BM m (.slice p1 n1 d1) (.slice p2 n2 d2))) := by
    rw [← hX]
    exact ⟨bup hb2 (below_alloc _ _), heap_alloc_new _ _⟩
  obtain ⟨q0, q1, q2, q3, q4, q5, q6, q7, q8, q9, q10, q11, q12, q13, q14⟩ := mm_of HX.out.2
  have hsz : w1.heap.size ≤ w2.heap.size := hb2.size
  clear hb2
  go_wp2_with fail
  refine (Ns.repUnpack_at m.d _ (by omega)).mono ?_
  rintro e w3 ⟨v, rfl, hv, hb3⟩
  rw [HM.out.2] at hv ⊢
  obtain ⟨p3, d3, hv3, -, -⟩ := hv.open
  generalize Ns.Re.unpE m.d.data.toList = re
  generalize hn3 : r.ents.length = n3 at hv3
  subst hv3
  have H3 : Hid (Su w3 A B cu cn { s with L := l } ∧ Ot A B cu cn w w3 ∧ w3.heap[w.heap.size]? = some (BA1 0 Ns.Re.zero (.slice none 0 0)) ∧ w3.heap[w2.heap.size]? = some (BM m (.slice p1 n1 d1) (.slice p2 n2 d2)) ∧ At Ns.EE (fun b => X.heap.size ≤ b) w3 (.slice p3 n3 d3) r.ents ∧ w.heap.size < X.heap.size) := by
    have hb : Below w1.heap.size w1 w3 := bup HX.out.1 hb3
    exact ⟨H1.out.1.up hb, H1.out.2.1.trans (Ot.of hb), (hb.block _ (some_lt H1.out.2.2.1)).trans H1.out.2.2.1, (hb3.block _ (some_lt HX.out.2)).trans HX.out.2, hv, Nat.lt_of_lt_of_le (some_lt H1.out.2.2.1) HX.out.1.size⟩
  clear hv hb3 q0 q1 q2 q3 q4 q5 q6 q7 q8 q9 q10 q11 q12 q13 q14 hn3
  obtain ⟨Y, hY⟩ : ∃ Y, w3.alloc (Ns.BR r (.slice p3 n3 d3)) = Y := ⟨_, rfl⟩
  have HY : Hid (Su Y A B cu cn { s with L := l } ∧ Ot A B cu cn w Y ∧ Y.heap[w.heap.size]? = some (BA1 0 Ns.Re.zero (.slice none 0 0)) ∧ Y.heap[w2.heap.size]? = some (BM m (.slice p1 n1 d1) (.slice p2 n2 d2)) ∧ At Ns.EE (fun b => X.heap.size ≤ b) Y (.slice p3 n3 d3) r.ents ∧ Y.heap[w3.heap.size]? = some (Ns.BR r (.slice p3 n3 d3))) := by
    rw [← hY]
    have hb := below_alloc w3 (Ns.BR r (.slice p3 n3 d3))
    exact ⟨H3.out.1.up hb, H3.out.2.1.trans (Ot.of hb), (hb.block _ (some_lt H3.out.2.2.1)).trans H3.out.2.2.1, (hb.block _ (some_lt H3.out.2.2.2.1)).trans H3.out.2.2.2.1, H3.out.2.2.2.2.1.up hb, heap_alloc_new _ _⟩
  obtain ⟨q0, q1, q2, q3, q4, q5, q6, q7, q8, q9, q10, q11, q12, q13, q14⟩ := mm_of HY.out.2.2.2.1
  obtain ⟨z0, z1, z2, z3, z4, z5, z6, z7, z8, z9, z10⟩ := el_of HY.out.2.2.1
  obtain ⟨y0, y1, y2, y3, y4, y5, y6, y7, y8, y9⟩ := Ns.ten_of HY.out.2.2.2.2.2
  have gg := fr_of HY.out.2.2.1
  go_wp2
  (try simp only [Exit.inBlock, Exit.then])
  refine bodyPost_ret (v := .tuple #[VA1 m.o r (.slice p3 n3 d3), .bool true]) ?_ rfl ⟨.slice p3 n3 d3, rfl, ?_, ?_, ?_⟩
  · simp [results, Tryz.results16, go_sem, z0, z1, z2, z3, z4, z5, z6, z7, z8, z9, z10]
  · exact HY.out.2.2.2.2.1.keep (w' := put11 Y w.heap.size m.o r (.slice p3 n3 d3)) (by rw [put11_size]; exact Nat.le_refl _) fun b hb _ => ⟨put11_off (by have := H3.out.2.2.2.2.2; omega), by have := H3.out.2.2.2.2.2; omega⟩
  · exact HY.out.1.put11 (q := m.o) (r := r) (v := .slice p3 n3 d3) HN.out.1 HN.out.2.1 HN.out.2.2.1 HN.out.2.2.2
  · exact HY.out.2.1.put11 (q := m.o) (r := r) (v := .slice p3 n3 d3) (Nat.le_refl _)
end Go.Proofs.YtkdhbjmpjbdobaaGreatDoor
/- SOnP -/
namespace Go.Proofs.YtkdhbjmpjbdobaaGreatDoor
set_option maxRecDepth 100000
namespace Sk
/-- Answers that wait, from number q on. -/
def Wt : Int → List ByteArray → Prop
  | _, [] => True
  | q, x :: l => (∃ d : ByteArray, x = Me.packed (Sk.mk 2 0 q 0 d) ∧ d.size ≤ 8192) ∧ Wt (q + 1) l
theorem Wt.snoc : ∀ {l : List ByteArray} {q : Int} {d : ByteArray}, Wt q l → d.size ≤ 8192 → Wt q (l ++ [Me.packed (Sk.mk 2 0 (q + l.length) 0 d)])
  | [], q, d, _, hd => ⟨⟨d, by simp, hd⟩, trivial⟩
  | x :: l, q, d, h, hd => ⟨h.1, by
    have := Wt.snoc h.2 hd
    rw [show q + ((x :: l).length : Int) = q + 1 + (l.length : Int) from by simp only [List.length_cons]; omega]
    exact this⟩
structure On (k : Nat) (s : Sb) (ca an to : Int) (body : ByteArray) : Prop where
  id : s.id = 5
  n : s.n = 5
  t : 0 ≤ s.t ∧ s.t ≤ 2
  r : s.r = ca
  up : 0 ≤ to ∧ to ≤ an ∧ an ≤ ca ∧ ca ≤ k
  len : (s.L.length : Int) = an - to
  l64 : s.L.length ≤ 64
  wt : Wt (to + 1) s.L
  yes : bz s = true → ca = an + 1 ∧ s.lt = Me.packed (Sk.mk 1 0 ca 5 body) ∧ body.size ≤ 8192 ∧ s.L.length < 64
  no : bz s = false → ca = an
section
variable {k : Nat} {s : Sb} {ca an to : Int} {body : ByteArray}
theorem On.is (h : On k s ca an to body) : Pn.Is s.n 2 := by rw [h.n]; exact .inr (.inr (.inl ⟨rfl, rfl⟩))
theorem On.more (h : On k s ca an to body) : On (k + 1) s ca an to body := ⟨h.id, h.n, h.t, h.r, by have := h.up; omega, h.len, h.l64, h.wt, h.yes, h.no⟩
theorem On.zero : On 0 (s0 5 5) 0 0 0 ⟨#[]⟩ := ⟨rfl, rfl, by decide, rfl, by decide, rfl, by decide, trivial, fun h => (by
  have h2 : bz (s0 5 5) = false := by unfold bz s0; rw [ByteArray.toList_eq]; rfl
  rw [h2] at h
  cases h), fun _ => rfl⟩
theorem callE_parts {c : Cl} (hc : callE c s = 0) : Ks.Ak.packErr c = 0 ∧ bz s = false ∧ full s = false := by
  have hp : Ks.Ak.packErr c = 0 := by
    rcases askEr c with hp | hp
    · exact hp
    · unfold callE at hc; rw [hp] at hc; cases hc
  have hb : bz s = false := by
    cases hb : bz s with
    | false => rfl
    | true => unfold callE at hc; rw [hp, hb] at hc; cases hc
  refine ⟨hp, hb, ?_⟩
  cases hf : full s with
  | false => rfl
  | true => unfold callE at hc; rw [hp, hb, hf] at hc; cases hc
theorem bz_call (c : Cl) (s : Sb) : bz (callS c s) = true := bz_yes (mk_small (askSz _)).2
theorem On.call {c : Cl} (h : On k s ca an to body) (hc : callE c s = 0) : On (k + 1) (callS c s) (ca + 1) an to (Ks.Ak.packOut c) := by
  obtain ⟨_, hb, hf⟩ := callE_parts hc
  have hl : s.L.length ≠ 64 := fun e => by unfold full at hf; rw [e] at hf; simp at hf
  refine ⟨h.id, h.n, h.t, ?_, by have := h.up; omega, h.len, h.l64, h.wt, fun _ => ⟨?_, ?_, askSz _, ?_⟩, fun e => ?_⟩
  · show s.r + 1 = ca + 1
    rw [h.r]
  · have := h.no hb; omega
  · show Me.packed (Sk.mk 1 0 (s.r + 1) s.id (Ks.Ak.packOut c)) = _
    rw [h.r, h.id]
  · have := h.l64; show s.L.length < 64; omega
  · rw [bz_call] at e; cases e
theorem On.tick (h : On k s ca an to body) : On (k + 1) (tickS 2 s) ca an to body := by
  refine ⟨h.id, h.n, ?_, h.r, by have := h.up; omega, h.len, h.l64, h.wt, h.yes, h.no⟩
  show 0 ≤ (if s.g then s.t else if s.t = 2 then 0 else s.t + 1) ∧ (if s.g then s.t else if s.t = 2 then 0 else s.t + 1) ≤ 2
  have := h.t
  split
  · exact this
  · split <;> omega
theorem On.fol {v : Int} (h : On k s ca an to body) : On (k + 1) (folS 2 s v) ca an to body := by
  unfold folS
  split
  · exact h.more
  · refine ⟨h.id, h.n, ?_, h.r, by have := h.up; omega, h.len, h.l64, h.wt, h.yes, h.no⟩
    show 0 ≤ v % (2 + 1) ∧ v % (2 + 1) ≤ 2
    omega
theorem setB_parts {q : Int} {d : ByteArray} (h : setB s q d = true) : bz s = true ∧ q = s.r := by
  unfold setB at h
  simp only [Bool.and_eq_true, decide_eq_true_eq] at h
  exact ⟨h.1, h.2.1⟩
theorem bz_set (s : Sb) (q : Int) (d : ByteArray) : bz (setS s q d) = false := by
  unfold bz setS
  rw [ByteArray.toList_eq]
  rfl
theorem On.set {q : Int} {d : ByteArray} (h : On k s ca an to body) (hb : setB s q d = true) (hd : d.size ≤ 8192) : On (k + 1) (setS s q d) ca (an + 1) to body := by
  obtain ⟨hz, hq⟩ := setB_parts hb
  obtain ⟨h1, h2, h3, h4⟩ := h.yes hz
  refine ⟨h.id, h.n, h.t, h.r, by have := h.up; omega, ?_, ?_, ?_, fun e => ?_, fun _ => h1⟩
  · show ((s.L ++ [Me.packed (Sk.mk 2 0 q 0 d)]).length : Int) = an + 1 - to
    have := h.len
    simp only [List.length_append, List.length_singleton]
    omega
  · show (s.L ++ [Me.packed (Sk.mk 2 0 q 0 d)]).length ≤ 64
    simp only [List.length_append, List.length_singleton]
    omega
  · show Wt (to + 1) (s.L ++ [Me.packed (Sk.mk 2 0 q 0 d)])
    have := h.wt.snoc hd
    have hl := h.len
    have hr := h.r
    rw [show q = to + 1 + (s.L.length : Int) from by omega]
    exact this
  · rw [bz_set] at e; cases e
theorem On.take {x : ByteArray} {l : List ByteArray} (h : On k s ca an to body) (hL : s.L = x :: l) (hk : k ≤ 1000) : On (k + 1) { s with L := l } ca an (to + 1) body ∧ Me.unpE x = 0 ∧ (Me.unpM x).o = to + 1 := by
  have hw := h.wt
  rw [hL] at hw
  obtain ⟨⟨d, hx, hd⟩, hw⟩ := hw
  have hl := h.len
  have h64 := h.l64
  rw [hL] at hl h64
  simp only [List.length_cons] at hl h64
  have hu := h.up
  obtain ⟨_, _, p3, p4, _⟩ := mk_pack (k := 2) (v := 0) (r := to + 1) (c := 0) (b := d) (by omega) (by omega) (by omega) (by omega) hd
  refine ⟨⟨h.id, h.n, h.t, h.r, by omega, ?_, ?_, hw, fun e => ?_, h.no⟩, ?_, ?_⟩
  · show (l.length : Int) = an - (to + 1)
    omega
  · show l.length ≤ 64
    omega
  · obtain ⟨a, b, c, _⟩ := h.yes e
    refine ⟨a, b, c, ?_⟩
    show l.length < 64
    omega
  · rw [hx]; exact p4
  · rw [hx, p3]; rfl
/-- What is sent is the call under way. -/
theorem On.sent (h : On k s ca an to body) (hb : bz s = true) (hk : k ≤ 1000) : Me.unpM s.lt = Sk.mk 1 0 ca 5 body ∧ Me.unpE s.lt = 0 ∧ ca = an + 1 := by
  obtain ⟨h1, h2, h3, _⟩ := h.yes hb
  have hu := h.up
  obtain ⟨_, _, p3, p4, _⟩ := mk_pack (k := 1) (v := 0) (r := ca) (c := 5) (b := body) (by omega) (by omega) (by omega) (by omega) h3
  rw [h2]
  exact ⟨p3, p4, h1⟩
end
end Sk
end Go.Proofs.YtkdhbjmpjbdobaaGreatDoor
/- KRef -/
namespace Go.Proofs.YtkdhbjmpjbdobaaGreatDoor.Ks
open Go.ChangeShapes Go.WideShapes Go.ChangeAt Go.RowKit Go.Deep
set_option maxRecDepth 100000
open Ak

namespace Ak
def rnum (n z : Int) : ByteArray := if n = 0 then ⟨#[]⟩ else Pl.numOut n z
def rhand (no gen : Int) : ByteArray := if hnz no gen then hbytes no gen else ⟨#[]⟩
def fld (t : Int) (s : ByteArray) : ByteArray := if s.toList.isEmpty then ⟨#[]⟩ else Pl.txt (Pl.encOne (t, s))
theorem rnum_le (n z : Int) : (rnum n z).size ≤ 8 := by unfold rnum; split; decide; exact numOut_le n z
theorem rhand_le (a b : Int) : (rhand a b).size ≤ 16 := by unfold rhand; split; exact hbytes_le a b; decide
theorem fld_le (t : Int) (s : ByteArray) : (fld t s).size ≤ 3 + s.size := by
  unfold fld
  split
  · exact Nat.zero_le _
  · rw [Pl.txt_size, Pl.encOne_length]; exact Nat.le_refl _
theorem ne_of_size {s : ByteArray} (h : 0 < s.size) : s.toList.isEmpty = false := by
  rw [ByteArray.toList_eq, List.isEmpty_eq_false_iff]
  intro e
  have h2 : s.data.toList.length = 0 := by rw [e]; rfl
  have h3 : s.data.toList.length = s.size := by simp
  omega
theorem fld_some {t : Int} {s : ByteArray} (h : 0 < s.size) : fld t s = Pl.txt (Pl.encOne (t, s)) := by
  unfold fld
  rw [ne_of_size h]
  rfl
theorem fld_none (t : Int) : fld t ⟨#[]⟩ = ⟨#[]⟩ := by
  unfold fld
  rw [ByteArray.toList_eq]
  rfl
theorem encs_opt (l : List (Int × ByteArray)) (b : Bool) (x : Int × ByteArray) : Pl.txt (Pl.encs (l ++ opt b x)) = Pl.txt (Pl.encs l) ++ (if b then Pl.txt (Pl.encOne x) else ⟨#[]⟩) := by
  unfold opt
  cases b with
  | true => rw [if_pos rfl, if_pos rfl, Pl.txt_append]; simp [Pl.encs]
  | false =>
    rw [if_neg (by decide), if_neg (by decide), List.append_nil]
    have := Pl.txt_append (Pl.encs l) []
    rw [List.append_nil] at this
    exact this.symm
/-- The document's bytes of a right call are its fields' bytes. -/
theorem ref_bytes {c : Cl} (h : rightP c) : fld 1 (rnum c.k 1) ++ fld 2 (rhand c.no c.gen) ++ fld 3 (rhand c.no2 c.gen2) ++ fld 4 c.nm ++ fld 5 c.nm2 ++ fld 6 (rnum c.pl 4) ++ fld 7 (rnum c.n 2) ++ fld 8 c.data = packOut c := by
  have hr := right_iff.2 h
  obtain ⟨hk, hh, hh2, hn, hn2, hp, hnn, hd⟩ := h
  have e1 : fld 1 (rnum c.k 1) = Pl.txt (Pl.encs (f1 c)) := by
    have hz : (Pl.numOut c.k 1).size = 1 := num_size (z := 1) (by omega) (by omega) (by omega) (by omega)
    have hr : rnum c.k 1 = Pl.numOut c.k 1 := by unfold rnum; rw [if_neg (by omega)]
    rw [hr, fld_some (by omega)]
    simp [f1, Pl.encs]
  have eh : ∀ (t no gen : Int), hokP no gen → fld t (rhand no gen) = if hnz no gen then Pl.txt (Pl.encOne (t, hbytes no gen)) else ⟨#[]⟩ := by
    intro t no gen hg
    unfold rhand
    cases hnz no gen with
    | true => rw [if_pos rfl, if_pos rfl, fld_some (by rw [hbytes_size hg]; decide)]
    | false => exact fld_none t
  have es : ∀ (t : Int) (s : ByteArray), fld t s = if snz s then Pl.txt (Pl.encOne (t, s)) else ⟨#[]⟩ := by
    intro t s
    unfold fld snz
    cases s.toList.isEmpty <;> rfl
  have en : ∀ (t n : Int) (z : Nat), 0 ≤ n → 1 ≤ z → z ≤ 8 → n.toNat < 256 ^ z → fld t (rnum n z) = if (n != 0) then Pl.txt (Pl.encOne (t, Pl.numOut n z)) else ⟨#[]⟩ := by
    intro t n z h0 h1 h8 hlt
    unfold rnum
    by_cases hz : n = 0
    · have : (n != 0) = false := by simp [hz]
      rw [if_pos hz, this]
      exact fld_none t
    · have : (n != 0) = true := by simp [hz]
      rw [if_neg hz, this, if_pos rfl, fld_some (by rw [num_size h0 h1 h8 hlt]; omega)]
  have e6 := en 6 c.pl 4 (by omega) (by omega) (by omega) (by omega)
  have e7 := en 7 c.n 2 (by omega) (by omega) (by omega) (by omega)
  have w6 : ((4 : Nat) : Int) = 4 := rfl
  have w7 : ((2 : Nat) : Int) = 2 := rfl
  rw [w6] at e6
  rw [w7] at e7
  rw [e1, eh 2 _ _ hh, eh 3 _ _ hh2, es 4, es 5, e6, e7, es 8, packOut, if_pos hr]
  unfold fields
  rw [encs_opt]
  unfold f7
  rw [encs_opt]
  unfold f6
  rw [encs_opt]
  unfold f5
  rw [encs_opt]
  unfold f4
  rw [encs_opt]
  unfold f3
  rw [encs_opt]
  unfold f2
  rw [encs_opt]
end Ak

theorem rnum_is (n z : Int) (w : World) (hn : n ≤ 9223372036854775807) : Calls Tryz.prog 44 #[.int .i64 n, .int .i64 z] w fun e w' => e = .returned (.string (rnum n z)) ∧ Below w.heap.size w w' := by
  by_cases h : n = 0
  · have H : Hid (rnum n z = ⟨#[]⟩) := by show rnum n z = _; rw [rnum, if_pos h]
    rw [H.out]
    subst h
    go_enter Tryz.func44, Tryz.ntmps44
    go_wp2
    go_ret
    exact ⟨rfl, Below.refl _ _⟩
  · have H : Hid (rnum n z = Pl.numOut n z) := by show rnum n z = _; rw [rnum, if_neg h]
    rw [H.out]
    have h' : (n == 0) = false := by simpa using h
    go_enter Tryz.func44, Tryz.ntmps44
    go_wp2_with fail
    refine (refNum_any n z _ hn).mono ?_
    rintro e w1 ⟨rfl, hb⟩
    go_wp2
    go_ret
    exact ⟨rfl, hb⟩
set_option maxRecDepth 100000 in
set_option maxHeartbeats 1000000 in
theorem rhand_is (no gen : Int) (w : World) (hn : no ≤ 9223372036854775807) (hg : gen ≤ 9223372036854775807) : Calls Tryz.prog 45 #[VH no gen] w fun e w' => e = .returned (.string (rhand no gen)) ∧ Below w.heap.size w w' := by
  have HB0 : Hid (Below w.heap.size w (w.alloc (BH no gen))) := (Below.refl _ _).alloc (Nat.le_refl _) _
  have HA0 : Hid ((w.alloc (BH no gen)).heap[w.heap.size]? = some (BH no gen)) := heap_alloc_new w _
  by_cases h : no = 0 ∧ gen = 0
  · have H : Hid (rhand no gen = ⟨#[]⟩) := by show rhand no gen = _; unfold rhand hnz; simp [h.1, h.2]
    rw [H.out]
    obtain ⟨rfl, rfl⟩ := h
    go_enter Tryz.func45, Tryz.ntmps45
    go_wp2
    go_ret
    exact ⟨rfl, HB0.out⟩
  · have H : Hid (rhand no gen = Pl.numOut no 1 ++ Pl.numOut gen 6) := by
      show rhand no gen = _
      have : hnz no gen = true := by
        unfold hnz
        simp
        omega
      unfold rhand
      rw [this, if_pos rfl]
      rfl
    have z1 := numOut_le no 1
    have z2 := numOut_le gen 6
    obtain ⟨y, hy⟩ : ∃ y, rhand no gen = y := ⟨_, rfl⟩
    rw [hy]
    rw [hy] at H
    clear hy
    by_cases h1 : no = 0
    · have h2' : (gen == 0) = false := by simpa using fun h2 => h ⟨h1, h2⟩
      have h1' : (no == 0) = true := by simpa using h1
      clear h h1
      go_enter Tryz.func45, Tryz.ntmps45
      go_wp2_with fail
      refine (refNum_any no 1 _ hn).mono ?_
      rintro e w1 ⟨rfl, hb1⟩
      have HB1 : Hid (Below w.heap.size w w1) := HB0.out.trans (hb1.mono HB0.out.size)
      obtain ⟨c0, c1⟩ := two_of (block_step HA0.out hb1)
      clear hb1
      go_wp2_with fail
      refine (refNum_any gen 6 _ hg).mono ?_
      rintro e w2 ⟨rfl, hb2⟩
      have HB2 : Hid (Below w.heap.size w w2) := HB1.out.trans (hb2.mono HB1.out.size)
      generalize Pl.numOut no 1 = n1 at *
      generalize Pl.numOut gen 6 = n2 at *
      go_wp2
      go_ret
      rw [H.out]
      exact ⟨rfl, HB2.out⟩
    · have h1' : (no == 0) = false := by simpa using h1
      clear h h1
      go_enter Tryz.func45, Tryz.ntmps45
      go_wp2_with fail
      refine (refNum_any no 1 _ hn).mono ?_
      rintro e w1 ⟨rfl, hb1⟩
      have HB1 : Hid (Below w.heap.size w w1) := HB0.out.trans (hb1.mono HB0.out.size)
      obtain ⟨c0, c1⟩ := two_of (block_step HA0.out hb1)
      clear hb1
      go_wp2_with fail
      refine (refNum_any gen 6 _ hg).mono ?_
      rintro e w2 ⟨rfl, hb2⟩
      have HB2 : Hid (Below w.heap.size w w2) := HB1.out.trans (hb2.mono HB1.out.size)
      generalize Pl.numOut no 1 = n1 at *
      generalize Pl.numOut gen 6 = n2 at *
      go_wp2
      go_ret
      rw [H.out]
      exact ⟨rfl, HB2.out⟩
theorem one_field (w : World) (t : Int) (s : ByteArray) (T : TypeId) : FieldsAt (w.alloc (.cells #[.int .i64 t, .string s] T)).heap.size (w.alloc (.cells #[.int .i64 t, .string s] T)) (.slice (some ⟨w.heap.size, 0, none⟩) 1 1) [(t, s)] := by
  refine .inr ⟨w.heap.size, 0, 1, rfl, by simp, by simp, by simp, by unfold maxLen; omega, fun i hi => ?_⟩
  obtain rfl : i = 0 := by simpa using hi
  exact ⟨by simp, by simp⟩
theorem field_is (t : Int) (s : ByteArray) (w : World) (h1 : 1 ≤ t) (h2 : t ≤ 255) (hs : s.size ≤ 65535) : Calls Tryz.prog 43 #[.int .i64 t, .string s] w fun e w' => e = .returned (.string (fld t s)) ∧ Below w.heap.size w w' := by
  cases h : s.toList.isEmpty with
  | true =>
    have H : Hid (fld t s = ⟨#[]⟩) := by show fld t s = _; unfold fld; rw [h]; rfl
    rw [H.out]
    go_enter Tryz.func43, Tryz.ntmps43
    go_wp2
    go_ret
    exact ⟨rfl, Below.refl _ _⟩
  | false =>
    have hb : Pl.packErr 1 [(t, s)] = 0 := by
      have : Pl.badAt 1 (t, s) = 0 := by unfold Pl.badAt; simp only; rw [if_neg (by omega), if_neg (by omega), if_neg (by omega)]
      simp [Pl.packErr, this]
    have H : Hid (Pl.packOut [(t, s)] = fld t s) := by
      show Pl.packOut [(t, s)] = _
      unfold fld
      rw [h, Pl.packOut, hb, if_pos rfl, if_neg (by decide)]
      simp [Pl.encs]
    have HE : Hid ((Pl.encs [(t, s)]).length ≤ 1099511627776) := by
      have := Pl.encOne_length (t, s)
      show (Pl.encs [(t, s)]).length ≤ _
      simp only [Pl.encs, List.flatMap_cons, List.flatMap_nil, List.append_nil] at this ⊢
      omega
    clear hb
    go_enter Tryz.func43, Tryz.ntmps43
    go_wp2_with fail
    refine (refPack_any _ [(t, s)] _ (one_field w t s _) HE.out).mono ?_
    rintro e w1 ⟨rfl, hb1⟩
    rw [H.out]
    go_wp2
    go_ret
    exact ⟨rfl, ((Below.refl _ _).alloc (Nat.le_refl _) _).trans (hb1.mono (by simp))⟩
set_option maxRecDepth 100000 in
set_option maxHeartbeats 4000000 in
theorem askRefPack_any (c : Cl) (w : World) : Calls Tryz.prog 20 #[VC c] w fun e w' => e = .returned (.tuple #[.string (packOut c), .int .i64 (packErr c)]) ∧ Below w.heap.size w w' := by
  by_cases hr : rightP c
  · have HC : Hid (right c = true) := right_iff.2 hr
    have HO : Hid (fld 1 (rnum c.k 1) ++ fld 2 (rhand c.no c.gen) ++ fld 3 (rhand c.no2 c.gen2) ++ fld 4 c.nm ++ fld 5 c.nm2 ++ fld 6 (rnum c.pl 4) ++ fld 7 (rnum c.n 2) ++ fld 8 c.data = packOut c ∧ packErr c = 0) := ⟨ref_bytes hr, by rw [packErr, if_pos (right_iff.2 hr)]⟩
    obtain ⟨hk, ⟨hh1, hh2⟩, ⟨hh3, hh4⟩, hn, hn2, hp, hnn, hd⟩ := hr
    obtain ⟨a1, ha1⟩ : ∃ a, rnum c.k 1 = a := ⟨_, rfl⟩
    obtain ⟨a2, ha2⟩ : ∃ a, rhand c.no c.gen = a := ⟨_, rfl⟩
    obtain ⟨a3, ha3⟩ : ∃ a, rhand c.no2 c.gen2 = a := ⟨_, rfl⟩
    obtain ⟨a6, ha6⟩ : ∃ a, rnum c.pl 4 = a := ⟨_, rfl⟩
    obtain ⟨a7, ha7⟩ : ∃ a, rnum c.n 2 = a := ⟨_, rfl⟩
    have s1 := rnum_le c.k 1
    have s2 := rhand_le c.no c.gen
    have s3 := rhand_le c.no2 c.gen2
    have s6 := rnum_le c.pl 4
    have s7 := rnum_le c.n 2
    rw [ha1] at s1
    rw [ha2] at s2
    rw [ha3] at s3
    rw [ha6] at s6
    rw [ha7] at s7
    rw [ha1, ha2, ha3, ha6, ha7] at HO
    obtain ⟨b1, hb1⟩ : ∃ b, fld 1 a1 = b := ⟨_, rfl⟩
    obtain ⟨b2, hb2⟩ : ∃ b, fld 2 a2 = b := ⟨_, rfl⟩
    obtain ⟨b3, hb3⟩ : ∃ b, fld 3 a3 = b := ⟨_, rfl⟩
    obtain ⟨b4, hb4⟩ : ∃ b, fld 4 c.nm = b := ⟨_, rfl⟩
    obtain ⟨b5, hb5⟩ : ∃ b, fld 5 c.nm2 = b := ⟨_, rfl⟩
    obtain ⟨b6, hb6⟩ : ∃ b, fld 6 a6 = b := ⟨_, rfl⟩
    obtain ⟨b7, hb7⟩ : ∃ b, fld 7 a7 = b := ⟨_, rfl⟩
    obtain ⟨b8, hb8⟩ : ∃ b, fld 8 c.data = b := ⟨_, rfl⟩
    have t1 := fld_le 1 a1
    have t2 := fld_le 2 a2
    have t3 := fld_le 3 a3
    have t4 := fld_le 4 c.nm
    have t5 := fld_le 5 c.nm2
    have t6 := fld_le 6 a6
    have t7 := fld_le 7 a7
    have t8 := fld_le 8 c.data
    rw [hb1] at t1
    rw [hb2] at t2
    rw [hb3] at t3
    rw [hb4] at t4
    rw [hb5] at t5
    rw [hb6] at t6
    rw [hb7] at t7
    rw [hb8] at t8
    rw [hb1, hb2, hb3, hb4, hb5, hb6, hb7, hb8] at HO
    have q2 : ¬ 9223372036854775807 < b1.size + b2.size := by omega
    have q3 : ¬ 9223372036854775807 < b1.size + b2.size + b3.size := by omega
    have q4 : ¬ 9223372036854775807 < b1.size + b2.size + b3.size + b4.size := by omega
    have q5 : ¬ 9223372036854775807 < b1.size + b2.size + b3.size + b4.size + b5.size := by omega
    have q6 : ¬ 9223372036854775807 < b1.size + b2.size + b3.size + b4.size + b5.size + b6.size := by omega
    have q7 : ¬ 9223372036854775807 < b1.size + b2.size + b3.size + b4.size + b5.size + b6.size + b7.size := by omega
    have q8 : ¬ 9223372036854775807 < b1.size + b2.size + b3.size + b4.size + b5.size + b6.size + b7.size + b8.size := by omega
    have HN1 : Hid (∀ V, Calls Tryz.prog 44 #[.int .i64 c.k, .int .i64 1] V fun e w' => e = .returned (.string a1) ∧ Below V.heap.size V w') := fun V => by rw [← ha1]; exact rnum_is c.k 1 V (by omega)
    have HN6 : Hid (∀ V, Calls Tryz.prog 44 #[.int .i64 c.pl, .int .i64 4] V fun e w' => e = .returned (.string a6) ∧ Below V.heap.size V w') := fun V => by rw [← ha6]; exact rnum_is c.pl 4 V (by omega)
    have HN7 : Hid (∀ V, Calls Tryz.prog 44 #[.int .i64 c.n, .int .i64 2] V fun e w' => e = .returned (.string a7) ∧ Below V.heap.size V w') := fun V => by rw [← ha7]; exact rnum_is c.n 2 V (by omega)
    have HN2 : Hid (∀ V, Calls Tryz.prog 45 #[VH c.no c.gen] V fun e w' => e = .returned (.string a2) ∧ Below V.heap.size V w') := fun V => by rw [← ha2]; exact rhand_is c.no c.gen V (by omega) (by omega)
    have HN3 : Hid (∀ V, Calls Tryz.prog 45 #[VH c.no2 c.gen2] V fun e w' => e = .returned (.string a3) ∧ Below V.heap.size V w') := fun V => by rw [← ha3]; exact rhand_is c.no2 c.gen2 V (by omega) (by omega)
    have HF1 : Hid (∀ V, Calls Tryz.prog 43 #[.int .i64 1, .string a1] V fun e w' => e = .returned (.string b1) ∧ Below V.heap.size V w') := fun V => by rw [← hb1]; exact field_is 1 a1 V (by omega) (by omega) (by omega)
    have HF2 : Hid (∀ V, Calls Tryz.prog 43 #[.int .i64 2, .string a2] V fun e w' => e = .returned (.string b2) ∧ Below V.heap.size V w') := fun V => by rw [← hb2]; exact field_is 2 a2 V (by omega) (by omega) (by omega)
    have HF3 : Hid (∀ V, Calls Tryz.prog 43 #[.int .i64 3, .string a3] V fun e w' => e = .returned (.string b3) ∧ Below V.heap.size V w') := fun V => by rw [← hb3]; exact field_is 3 a3 V (by omega) (by omega) (by omega)
    have HF4 : Hid (∀ V, Calls Tryz.prog 43 #[.int .i64 4, .string c.nm] V fun e w' => e = .returned (.string b4) ∧ Below V.heap.size V w') := fun V => by rw [← hb4]; exact field_is 4 c.nm V (by omega) (by omega) (by omega)
    have HF5 : Hid (∀ V, Calls Tryz.prog 43 #[.int .i64 5, .string c.nm2] V fun e w' => e = .returned (.string b5) ∧ Below V.heap.size V w') := fun V => by rw [← hb5]; exact field_is 5 c.nm2 V (by omega) (by omega) (by omega)
    have HF6 : Hid (∀ V, Calls Tryz.prog 43 #[.int .i64 6, .string a6] V fun e w' => e = .returned (.string b6) ∧ Below V.heap.size V w') := fun V => by rw [← hb6]; exact field_is 6 a6 V (by omega) (by omega) (by omega)
    have HF7 : Hid (∀ V, Calls Tryz.prog 43 #[.int .i64 7, .string a7] V fun e w' => e = .returned (.string b7) ∧ Below V.heap.size V w') := fun V => by rw [← hb7]; exact field_is 7 a7 V (by omega) (by omega) (by omega)
    have HF8 : Hid (∀ V, Calls Tryz.prog 43 #[.int .i64 8, .string c.data] V fun e w' => e = .returned (.string b8) ∧ Below V.heap.size V w') := fun V => by rw [← hb8]; exact field_is 8 c.data V (by omega) (by omega) (by omega)
    clear ha1 ha2 ha3 ha6 ha7 hb1 hb2 hb3 hb4 hb5 hb6 hb7 hb8 hk hh1 hh2 hh3 hh4 hn hn2 hp hnn hd s1 s2 s3 s6 s7 t1 t2 t3 t4 t5 t6 t7 t8
    go_enter Tryz.func20, Tryz.ntmps20
    go_wp2_with fail
    refine (rright_is c _ true HC).mono ?_
    rintro e w1 ⟨rfl, hb1⟩
    have HB1 : Hid (Below w.heap.size w w1) := ((Below.refl _ _).alloc (Nat.le_refl _) _).trans (hb1.mono (by simp))
    obtain ⟨d0, d1, d2, d3, d4, d5, d6, d7, d8, d9⟩ := ten_of (block_step (heap_alloc_new w (BC c)) hb1)
    have e0 := fun p : Grw w1 => p.cell d0
    have e1 := fun p : Grw w1 => p.cell d1
    have e2 := fun p : Grw w1 => p.cell d2
    have e3 := fun p : Grw w1 => p.cell d3
    have e4 := fun p : Grw w1 => p.cell d4
    have e5 := fun p : Grw w1 => p.cell d5
    have e6 := fun p : Grw w1 => p.cell d6
    have e7 := fun p : Grw w1 => p.cell d7
    have e8 := fun p : Grw w1 => p.cell d8
    have e9 := fun p : Grw w1 => p.cell d9
    clear hb1 d0 d1 d2 d3 d4 d5 d6 d7 d8 d9
    have hne9 : Nonempty (Grw w1) := grw_some w1
    go_wp2_with fail
    refine wp_region_grw (by kernel_rfl) (by kernel_rfl) ?_
    repeat (go_big_quiet_step (first
      | (go_at_call 44; with_reducible refine calls_grw (Grw.grown _) (HN1.out _))
      | (go_at_call 44; with_reducible refine calls_grw (Grw.grown _) (HN6.out _))
      | (go_at_call 44; with_reducible refine calls_grw (Grw.grown _) (HN7.out _))
      | (go_at_call 45; with_reducible refine calls_grw (Grw.grown _) (HN2.out _))
      | (go_at_call 45; with_reducible refine calls_grw (Grw.grown _) (HN3.out _))
      | (go_at_call 43; with_reducible refine calls_grw (Grw.grown _) (HF1.out _))
      | (go_at_call 43; with_reducible refine calls_grw (Grw.grown _) (HF2.out _))
      | (go_at_call 43; with_reducible refine calls_grw (Grw.grown _) (HF3.out _))
      | (go_at_call 43; with_reducible refine calls_grw (Grw.grown _) (HF4.out _))
      | (go_at_call 43; with_reducible refine calls_grw (Grw.grown _) (HF5.out _))
      | (go_at_call 43; with_reducible refine calls_grw (Grw.grown _) (HF6.out _))
      | (go_at_call 43; with_reducible refine calls_grw (Grw.grown _) (HF7.out _))
      | (go_at_call 43; with_reducible refine calls_grw (Grw.grown _) (HF8.out _))))
    rintro w9 ⟨p9, rfl⟩
    have HB : Hid (Below w.heap.size w p9.out) := HB1.out.trans (p9.below.mono HB1.out.size)
    go_wp2
    go_ret2
    rw [← HO.out.1, HO.out.2]
    exact ⟨rfl, HB.out⟩
  · have HC : Hid (right c = false) := wrong_iff.2 hr
    have HO : Hid (packOut c = ⟨#[]⟩ ∧ packErr c = 413) := ⟨by simp [packOut, HC.out], by simp [packErr, HC.out]⟩
    clear hr
    go_enter Tryz.func20, Tryz.ntmps20
    go_wp2_with fail
    refine (rright_is c _ false HC).mono ?_
    rintro e w1 ⟨rfl, hb1⟩
    have HB1 : Hid (Below w.heap.size w w1) := ((Below.refl _ _).alloc (Nat.le_refl _) _).trans (hb1.mono (by simp))
    go_wp2
    go_ret2
    rw [HO.out.1, HO.out.2]
    exact ⟨rfl, HB1.out⟩
end Go.Proofs.YtkdhbjmpjbdobaaGreatDoor.Ks
