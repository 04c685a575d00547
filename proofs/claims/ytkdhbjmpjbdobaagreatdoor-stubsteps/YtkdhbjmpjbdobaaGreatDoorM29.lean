/-
  The texts SHearS, SHearN, SBo, SAll, RSame, as one.
-/
import Derived.Test.YtkdhbjmpjbdobaaGreatDoorM28
/- SHearS -/
namespace Go.Proofs.YtkdhbjmpjbdobaaGreatDoor
open Go.ChangeShapes Go.WideShapes Go.ChangeAt Go.RowKit Go.Deep Sk
set_option maxRecDepth 100000
theorem infoW : (Tryz.prog.info? 56).map (fun i => (i.zero, i.size, i.bytes)) = some (some (.agg #[.int .i64 0, .int .i64 0, .int .i64 0, .int .i64 0, .int .i64 0, .int .i64 0, .int .i64 0, .int .i64 0, .string ⟨#[]⟩, .slice none 0 0, .int .i64 0]), 11, 112) := by kernel_rfl
theorem step_rg {P : Program} {w : World} {ops : Array Oper} {o : Oper} {a : Act} {K : Act → World → Prop} {Q : Exit → Act → World → Prop} {X : Prop} (hgd : o.guard = none) (s x : Operand) (t : TypeId)
    (ho : o.op = .call { callee := .builtin .append, args := #[s, x], argTypes := #[t, t] })
    (B : Nat) (i : TypeInfo) (z : Value) (bytes : Nat) (ht : P.underlying t = some (.slice 56)) (hi : P.info? 56 = some i) (hz : i.zero = some z) (hsize : i.size = 11) (hby : i.bytes = bytes) (hzs : z.cells.size = 11)
    (v : Value) (ls : List Wa) (hv : a.eval s = v) (hrow : Rg w B v ls) (xv : Value) (xs : List Wa) (hxv : a.eval x = xv) (hx : AtW EW w xv xs) (hne : 0 < xs.length) (h63 : ls.length + xs.length ≤ 1000) (hbytes : (ls.length + xs.length + (ls.length + xs.length) / 4 + 192) * bytes ≤ 281474976710656) (hbase : B ≤ w.heap.size)
    (h : ∀ v' w', Rg w' B v' (ls ++ xs) → w.grownBy w' v.ownBlock → (v'.ownBlock = v.ownBlock ∨ ∀ j, v'.ownBlock = some j → w.heap.size ≤ j) → K (a.put o.dst v') w') :
    if Region.wanted o (yielded ops a.tmps) = true then Oper.wp P o a w K Q else X := by
  have hw : Region.wanted o (yielded ops a.tmps) = true := by simp [Region.wanted, hgd]
  rw [if_pos hw]
  obtain ⟨v', w', hr, h2, h3, h4⟩ := Rg.append_run (P := P) w B t o.type i z bytes ht hi hz hsize hby hzs v ls hrow xv xs hx hne h63 hbytes hbase
  unfold Oper.wp execOp
  simp only [ho, resolve, invoke, builtin, Sem.run_bind, Sem.run_pure, Result.andThen_ok, List.map_toArray, List.map_cons, List.map_nil, hv, hxv, hr]
  exact h v' w' h2 h3 h4
theorem at_newW {w : World} {A : Nat} {x : Wa} (h : w.heap[A]? = some (BW x)) : AtW EW w (.slice (some ⟨A, 0, none⟩) 1 1) [x] := by
  refine .inr ⟨A, 0, 1, rfl, trivial, some_lt h, by simp, by simp, by unfold maxLen; omega, fun j u hj => ?_⟩
  have hj' : (EW.cells x)[j]? = some u := by simpa [Enc.flat] using hj
  have hlt : j < 11 := by have := (List.getElem?_eq_some_iff.1 hj').1; rwa [EW.len] at this
  simp only [World.cell?, h, Nat.zero_add, Option.isSome_none, Bool.false_eq_true, if_false]
  match j, hlt with
  | 0, _ => exact hj'
  | 1, _ => exact hj'
  | 2, _ => exact hj'
  | 3, _ => exact hj'
  | 4, _ => exact hj'
  | 5, _ => exact hj'
  | 6, _ => exact hj'
  | 7, _ => exact hj'
  | 8, _ => exact hj'
  | 9, _ => exact hj'
  | 10, _ => exact hj'

/-- What is turned when an answer is taken: the box, the row. -/
structure Ag (A : Nat) (lv : Value) (w w' : World) : Prop where
  os : w'.os = w.os
  tape : w'.tape = w.tape
  output : w'.output = w.output
  size : w.heap.size ≤ w'.heap.size
  block : ∀ k, k < w.heap.size → k ≠ A → lv.ownBlock ≠ some k → w'.heap[k]? = w.heap[k]?
set_option maxRecDepth 100000 in
set_option maxHeartbeats 4000000 in
theorem rhear_set {f : Int} (k : Int) (x : ByteArray) (n0 A : Nat) (s : Sb) (b : ByteArray) (p : Option Addr) (c : Nat) (W : List Wa) (w : World) (h : Rf w A s b (.slice p W.length c)) (hrow : Rg w n0 (.slice p W.length c) W) (h0 : n0 ≤ w.heap.size) (hW : W.length ≤ 64) (hn : Pn.Is s.n f) (hl : letB s k x = true) (ho : (Me.unpM x).o ≠ 0) (hb : setB s (Me.unpM x).o (Me.unpM x).d = true) : Calls Tryz.prog 13 #[.pointer (some ⟨A, 0, none⟩), .int .i64 k, .string x] w fun e w' => ∃ lv' y, e = .returned (.bool true) ∧ Rf w' A (setS s (Me.unpM x).o (Me.unpM x).d) b lv' ∧ Rg w' n0 lv' (W ++ [y]) ∧ (y.q = (Me.unpM x).o ∧ y.r = Ns.Re.unpR (Me.unpM x).d.data.toList) ∧ At Ns.EE (fun j => w.heap.size ≤ j ∧ lv'.ownBlock ≠ some j) w' (.slice y.p y.r.ents.length y.c) y.r.ents ∧ (lv'.ownBlock = Value.ownBlock (.slice p W.length c) ∨ ∀ j, lv'.ownBlock = some j → w.heap.size ≤ j) ∧ Ag A (.slice p W.length c) w w' := by
  obtain ⟨lv, hlv⟩ : ∃ lv : Value, lv = .slice p W.length c := ⟨_, rfl⟩
  have H : Hid (Rf w A s b (.slice p W.length c)) := h
  have HRW : Hid (Rg w n0 (.slice p W.length c) W ∧ n0 ≤ w.heap.size ∧ W.length ≤ 64) := ⟨hrow, h0, hW⟩
  have HN : Hid (Pn.Is s.n f) := hn
  clear h hrow h0 hn
  obtain ⟨h1, h2, h3, h4⟩ := letB_iff.1 hl
  have HD8 : Hid ((Me.unpM x).d.size ≤ 8192) := (unp_nums h1).2.2
  have g1 : ¬ k < 0 := by omega
  have g2 : ¬ s.n ≤ k := by omega
  have g1' : decide (k < 0) = false := decide_eq_false g1
  have g2' : decide (s.n ≤ k) = false := decide_eq_false g2
  have H3 : Hid ((Me.unpM x).k = 2 ∧ (Me.unpM x).cl = s.id ∧ (Me.unpM x).o ≠ 0) := ⟨h3, h4, ho⟩
  have hb' := hb
  unfold setB at hb'
  simp only [Bool.and_eq_true, decide_eq_true_eq] at hb'
  obtain ⟨hz, hq, hu⟩ := hb'
  have HQ : Hid ((Me.unpM x).o = s.r ∧ Ns.Re.unpE (Me.unpM x).d.data.toList = 0) := ⟨hq, hu⟩
  have HZ : Hid (bz s = true ∧ bz (setS s (Me.unpM x).o (Me.unpM x).d) = false) := ⟨hz, bz_set _ _ _⟩
  clear hl h2 h3 h4 ho hb hz hq hu hlv lv
  obtain ⟨c0, c1, c2, c3, c4, c5, c6, c7, c8⟩ := H.out.cells
  go_enter Tryz.func13, Tryz.ntmps13
  go_wp2_with fail
  refine (rUnpack_any x _).mono ?_
  rintro e w1 ⟨⟨u, z, rfl, hm⟩, hb1⟩
  obtain ⟨p1, d1, rfl, -, -⟩ := hm.lives.open
  obtain ⟨p2, d2, rfl, -, -⟩ := hm.items.open
  clear hm
  generalize (Me.unpM x).lives.length = n1
  generalize (Me.unpM x).items.length = n2
  obtain ⟨X, hX⟩ : ∃ X, w1.alloc (BMr (Me.unpM x) (.slice p1 n1 d1) (.slice p2 n2 d2)) = X := ⟨_, rfl⟩
  have HX : Hid (Rf X A s b (.slice p W.length c) ∧ Below w.heap.size w X) := by
    have : Below w.heap.size w X := by rw [← hX]; exact bup hb1 (below_alloc _ _)
    exact ⟨H.out.up this, this⟩
  obtain ⟨q0, q1, q2, q3, q4, q5, q6, q7, q8, q9, q10, q11, q12, q13, q14⟩ := mr_of (heap_alloc_new w1 (BMr (Me.unpM x) (.slice p1 n1 d1) (.slice p2 n2 d2)))
  rw [hX] at q0 q1 q2 q3 q4 q5 q6 q7 q8 q9 q10 q11 q12 q13 q14
  clear hb1 c0 c1 c2 c3 c4 c5 c6 c7 c8
  obtain ⟨c0, c1, c2, c3, c4, c5, c6, c7, c8⟩ := HX.out.1.cells
  rw [h1]
  go_wp2_with fail
  have h3' : ((Me.unpM x).k != 2) = false := by simp [H3.out.1]
  have h4' : ((Me.unpM x).cl != s.id) = false := by simp [H3.out.2.1]
  go_quiet (fail)
  have ho := H3.out.2.2
  have HXD : Hid (Below w.heap.size w (X.drewN nq)) := ⟨HX.out.2.os, HX.out.2.tape, HX.out.2.output, HX.out.2.size, HX.out.2.block⟩
  go_wp2_with fail
  refine (Ns.repRefUnpack_at (Me.unpM x).d _ (by have := HD8.out; omega)).mono ?_
  rintro e w2 ⟨v, rfl, hv, hb2⟩
  rw [HQ.out.2]
  obtain ⟨p3, d3, hv3, -, -⟩ := hv.open
  obtain ⟨r, hr⟩ : ∃ r, Ns.Re.unpR (Me.unpM x).d.data.toList = r := ⟨_, rfl⟩
  rw [hr] at hv hv3 ⊢
  subst hv3
  obtain ⟨Z, hZ⟩ : ∃ Z, w2.alloc (Ns.BR r (.slice p3 r.ents.length d3)) = Z := ⟨_, rfl⟩
  have HZ1 : Hid (Rf Z A s b (.slice p W.length c) ∧ Below w.heap.size w Z ∧ Z.heap[w2.heap.size]? = some (Ns.BR r (.slice p3 r.ents.length d3)) ∧ At Ns.EE (fun j => w.heap.size ≤ j) Z (.slice p3 r.ents.length d3) r.ents ∧ Rg Z n0 (.slice p W.length c) W) := by
    have hb3 : Below w.heap.size w w2 := bup HXD.out hb2
    have hb4 : Below w.heap.size w Z := by rw [← hZ]; exact bup hb3 (below_alloc _ _)
    refine ⟨H.out.up hb4, hb4, by rw [← hZ]; exact heap_alloc_new _ _, ?_, HRW.out.1.up hb4⟩
    rw [← hZ]
    exact (hv.up (below_alloc _ _)).imp (fun j (hj : (X.drewN nq).heap.size ≤ j) _ => by have := HXD.out.size; show w.heap.size ≤ j; omega)
  clear hv hb2 q0 q1 q2 q3 q4 q5 q6 q7 q8 q9 q10 q11 q12 q13 q14 c0 c1 c2 c3 c4 c5 c6 c7 c8
  obtain ⟨c0, c1, c2, c3, c4, c5, c6, c7, c8⟩ := HZ1.out.1.cells
  rw [HZ.out.1] at c5
  have hor : ((Me.unpM x).o != s.r) = false := by simp [HQ.out.1]
  have hbx : ∀ V : World, V.heap[w2.heap.size]? = some (Ns.BR r (.slice p3 r.ents.length d3)) → True := fun _ _ => trivial
  obtain ⟨Y, hY⟩ : ∃ Y, Z.setCell ⟨A, 5, none⟩ (.bool false) = Y := ⟨_, rfl⟩
  have hZA : w2.heap.size ≠ A := fun e => by
    have h1 := HZ1.out.2.2.1
    have h2 : Z.heap[A]? = some (BRf s b (.slice p W.length c)) := HZ1.out.1
    rw [e, h2] at h1
    simp at h1
  have HY : Hid (Rf Y A (setS s (Me.unpM x).o (Me.unpM x).d) b (.slice p W.length c) ∧ Ao A w Y ∧ Y.heap[w2.heap.size]? = some (Ns.BR r (.slice p3 r.ents.length d3)) ∧ At Ns.EE (fun j => w.heap.size ≤ j) Y (.slice p3 r.ents.length d3) r.ents ∧ Rg Y n0 (.slice p W.length c) W) := by
    have hl := some_lt H.out
    rw [← hY]
    refine ⟨?_, (Ao.of HZ1.out.2.1).trans (Ao.set 5 _), (Below.heap_setCell _ _ _ _ hZA).trans HZ1.out.2.2.1, ?_, ?_⟩
    · refine HZ1.out.1.set ?_
      rw [HZ.out.2]
      rfl
    · exact HZ1.out.2.2.2.1.keep (by simp [World.setCell]) fun j hj _ => ⟨Below.heap_setCell _ _ _ _ (by intro e; dsimp only at e; omega), hj⟩
    · refine HZ1.out.2.2.2.2.kept fun j hj => Below.heap_setCell _ _ _ _ (fun e => ?_)
      have h2 : Z.heap[A]? = some (BRf s b (.slice p W.length c)) := HZ1.out.1
      exact HZ1.out.2.2.2.2.ne h2 (fun _ _ e2 => by simp at e2) (by rw [hj]; exact congrArg some e)
  have g5 := HZ1.out.1.fr 5
  go_wp2_with fail
  clear c0 c1 c2 c3 c4 c5 c6 c7 c8 g5 hY hZ
  obtain ⟨c0, c1, c2, c3, c4, c5, c6, c7, c8⟩ := HY.out.1.cells
  obtain ⟨y0, y1, y2, y3, y4, y5, y6, y7, y8, y9⟩ := Ns.ten_of HY.out.2.2.1
  obtain ⟨y, hy⟩ : ∃ y : Wa, y = ⟨(Me.unpM x).o, r, p3, d3⟩ := ⟨_, rfl⟩
  obtain ⟨i0, hi, hz0, hz1, hz2⟩ := info_parts infoW
  have HV : Hid (Rg (Y.drew.alloc (BW ⟨(Me.unpM x).o, r, p3, d3⟩)) n0 (.slice p W.length c) W ∧ AtW EW (Y.drew.alloc (BW ⟨(Me.unpM x).o, r, p3, d3⟩)) (.slice (some ⟨Y.heap.size, 0, none⟩) 1 1) [⟨(Me.unpM x).o, r, p3, d3⟩] ∧ n0 ≤ (Y.drew.alloc (BW ⟨(Me.unpM x).o, r, p3, d3⟩)).heap.size) := by
    have hb := (below_alloc Y.drew (BW ⟨(Me.unpM x).o, r, p3, d3⟩))
    refine ⟨(show Rg Y.drew n0 (.slice p W.length c) W from HY.out.2.2.2.2).up hb, at_newW (heap_alloc_new Y.drew _), ?_⟩
    have := hb.size
    have h2 := HY.out.2.1.size
    have h3 := HRW.out.2.1
    have h4 : Y.drew.heap.size = Y.heap.size := rfl
    omega
  have hlw : W.length + [(⟨(Me.unpM x).o, r, p3, d3⟩ : Wa)].length ≤ 1000 := by have := HRW.out.2.2; simp only [List.length_singleton]; omega
  clear hy y
  have e8 : ∀ o, (Y.alloc o).cell? ⟨A, 8, none⟩ = some (.slice p W.length c) := fun o => (HY.out.1.up (below_alloc Y o)).cells.2.2.2.2.2.2.2.2
  go_region_law (first
    | (refine step_rg (by rfl) _ _ 53 (by rfl) n0 i0 _ 112 Tryz.underlying53 hi hz0 hz1 hz2 rfl _ W (by rfl) HV.out.1 _ [⟨(Me.unpM x).o, r, p3, d3⟩] (by rfl) HV.out.2.1 (by simp) hlw (by omega) HV.out.2.2 ?_
       intro v9 w9 hr9 hg9 hl9
       obtain ⟨pp, cc, hv9⟩ := hr9.slice
       generalize (W ++ [(⟨(Me.unpM x).o, r, p3, d3⟩ : Wa)]).length = nn at hv9
       subst hv9
       have hA9 : Rf w9 A (setS s (Me.unpM x).o (Me.unpM x).d) b (.slice p W.length c) := by
         have e1 : (Y.drew.alloc (BW ⟨(Me.unpM x).o, r, p3, d3⟩)).heap[A]? = some (BRf (setS s (Me.unpM x).o (Me.unpM x).d) b (.slice p W.length c)) := (show Rf Y.drew A _ _ _ from HY.out.1).up (below_alloc Y.drew _)
         exact (hg9.block A (some_lt e1) (Ne.symm (HV.out.1.ne e1 (fun _ _ e2 => by simp at e2)))).trans e1
       have k8 := hA9.cells.2.2.2.2.2.2.2.2
       have f8 := hA9.fr 8
       have H9 : Hid (Rf w9 A (setS s (Me.unpM x).o (Me.unpM x).d) b (.slice p W.length c) ∧ Rg w9 n0 (.slice pp nn cc) (W ++ [⟨(Me.unpM x).o, r, p3, d3⟩]) ∧ (Y.drew.alloc (BW ⟨(Me.unpM x).o, r, p3, d3⟩)).grownBy w9 (Value.ownBlock (.slice p W.length c)) ∧ (Value.ownBlock (.slice pp nn cc) = Value.ownBlock (.slice p W.length c) ∨ ∀ j, Value.ownBlock (.slice pp nn cc) = some j → (Y.drew.alloc (BW ⟨(Me.unpM x).o, r, p3, d3⟩)).heap.size ≤ j)) := ⟨hA9, hr9, hg9, hl9⟩
       clear hA9 hr9 hg9 hl9))
  all_goals
    go_wp2
    go_ret
    obtain ⟨a1, a2, a3, a4⟩ := H9.out
    have hsz : Y.heap.size < (Y.drew.alloc (BW ⟨(Me.unpM x).o, r, p3, d3⟩)).heap.size := by simp
    have hwY := HY.out.2.1.size
    have hAl : A < w.heap.size := some_lt H.out
    have hne : Value.ownBlock (.slice pp nn cc) ≠ some A := a2.ne a1 (fun _ _ e2 => by simp at e2)
    have hlw2 : ∀ j, Value.ownBlock (.slice p W.length c) = some j → j < w.heap.size := fun j hj => (HRW.out.1.lt j hj).2
    refine ⟨.slice pp nn cc, ⟨(Me.unpM x).o, r, p3, d3⟩, rfl, a1.set rfl, a2.kept fun j hj => Below.heap_setCell _ _ _ _ (fun e => hne (by rw [hj]; exact congrArg some e)), ⟨rfl, hr.symm⟩, ?_, ?_, ?_⟩
    · refine HY.out.2.2.2.1.keep (w' := w9.setCell ⟨A, 8, none⟩ (.slice pp nn cc)) ?_ fun j hj hlt => ?_
      · have := a3.size
        simp only [World.setCell, Array.size_modify]
        omega
      · have hj2 : w.heap.size ≤ j := hj
        have e1 : (Y.drew.alloc (BW ⟨(Me.unpM x).o, r, p3, d3⟩)).heap[j]? = Y.heap[j]? := Below.heap_alloc Y.drew _ j hlt
        have e2 : w9.heap[j]? = (Y.drew.alloc (BW ⟨(Me.unpM x).o, r, p3, d3⟩)).heap[j]? := a3.block j (by omega) (fun e => by have := hlw2 j e.symm; omega)
        refine ⟨(Below.heap_setCell _ _ _ _ (by intro e; dsimp only at e; omega)).trans (e2.trans e1), hj2, fun e => ?_⟩
        rcases a4 with h5 | h5
        · rw [h5] at e
          have := hlw2 j e
          omega
        · have := h5 j e
          omega
    · rcases a4 with h5 | h5
      · exact .inl h5
      · exact .inr fun j hj => by have := h5 j hj; omega
    · have hg := a3.size
      refine ⟨a3.os.trans HY.out.2.1.os, a3.tape.trans HY.out.2.1.tape, a3.output.trans HY.out.2.1.output, ?_, fun j hj h1 h2 => ?_⟩
      · simp only [World.setCell, Array.size_modify]
        omega
      · exact (Below.heap_setCell _ _ _ _ h1).trans ((a3.block j (by omega) (fun e => h2 e.symm)).trans ((Below.heap_alloc Y.drew _ j (show j < Y.heap.size by omega)).trans (HY.out.2.1.block j hj h1)))
end Go.Proofs.YtkdhbjmpjbdobaaGreatDoor
/- SHearN -/
namespace Go.Proofs.YtkdhbjmpjbdobaaGreatDoor
open Go.ChangeShapes Go.WideShapes Go.ChangeAt Go.RowKit Go.Deep Sk
set_option maxRecDepth 100000
set_option maxRecDepth 100000 in
set_option maxHeartbeats 4000000 in
theorem rhear_non {f : Int} (k : Int) (x : ByteArray) (A : Nat) (s : Sb) (b : ByteArray) (lv : Value) (w : World) (h : Rf w A s b lv) (hn : Pn.Is s.n f) (hl : letB s k x = true) (ho : (Me.unpM x).o ≠ 0) (hb : setB s (Me.unpM x).o (Me.unpM x).d = false) : Calls Tryz.prog 13 #[.pointer (some ⟨A, 0, none⟩), .int .i64 k, .string x] w fun e w' => e = .returned (.bool false) ∧ Below w.heap.size w w' := by
  have H : Hid (Rf w A s b lv) := h
  have HN : Hid (Pn.Is s.n f) := hn
  clear h hn
  obtain ⟨h1, h2, h3, h4⟩ := letB_iff.1 hl
  have HD8 : Hid ((Me.unpM x).d.size ≤ 8192) := (unp_nums h1).2.2
  have g1 : ¬ k < 0 := by omega
  have g2 : ¬ s.n ≤ k := by omega
  have g1' : decide (k < 0) = false := decide_eq_false g1
  have g2' : decide (s.n ≤ k) = false := decide_eq_false g2
  have H3 : Hid ((Me.unpM x).k = 2 ∧ (Me.unpM x).cl = s.id ∧ (Me.unpM x).o ≠ 0) := ⟨h3, h4, ho⟩
  clear hl h2 h3 h4 ho
  cases hz : bz s with
  | false =>
    clear hb
    obtain ⟨c0, c1, c2, c3, c4, c5, c6, c7, c8⟩ := H.out.cells
    go_enter Tryz.func13, Tryz.ntmps13
    go_wp2_with fail
    refine (rUnpack_any x _).mono ?_
    rintro e w1 ⟨⟨u, z, rfl, hm⟩, hb1⟩
    obtain ⟨p1, d1, rfl, -, -⟩ := hm.lives.open
    obtain ⟨p2, d2, rfl, -, -⟩ := hm.items.open
    clear hm
    generalize (Me.unpM x).lives.length = n1
    generalize (Me.unpM x).items.length = n2
    obtain ⟨X, hX⟩ : ∃ X, w1.alloc (BMr (Me.unpM x) (.slice p1 n1 d1) (.slice p2 n2 d2)) = X := ⟨_, rfl⟩
    have HX : Hid (Rf X A s b lv ∧ Below w.heap.size w X) := by
      have : Below w.heap.size w X := by rw [← hX]; exact bup hb1 (below_alloc _ _)
      exact ⟨H.out.up this, this⟩
    obtain ⟨q0, q1, q2, q3, q4, q5, q6, q7, q8, q9, q10, q11, q12, q13, q14⟩ := mr_of (heap_alloc_new w1 (BMr (Me.unpM x) (.slice p1 n1 d1) (.slice p2 n2 d2)))
    rw [hX] at q0 q1 q2 q3 q4 q5 q6 q7 q8 q9 q10 q11 q12 q13 q14
    clear hb1 c0 c1 c2 c3 c4 c5 c6 c7 c8
    obtain ⟨c0, c1, c2, c3, c4, c5, c6, c7, c8⟩ := HX.out.1.cells
    rw [h1]
    go_wp2_with fail
    have h3' : ((Me.unpM x).k != 2) = false := by simp [H3.out.1]
    have h4' : ((Me.unpM x).cl != s.id) = false := by simp [H3.out.2.1]
    go_quiet (fail)
    have ho := H3.out.2.2
    have HXD : Hid (Below w.heap.size w (X.drewN nq)) := ⟨HX.out.2.os, HX.out.2.tape, HX.out.2.output, HX.out.2.size, HX.out.2.block⟩
    go_wp2_with fail
    refine (Ns.repRefUnpack_at (Me.unpM x).d _ (by have := HD8.out; omega)).mono ?_
    rintro e w2 ⟨v, rfl, hv, hb2⟩
    obtain ⟨p3, d3, hv3, -, -⟩ := hv.open
    generalize Ns.Re.unpR (Me.unpM x).d.data.toList = r at hv hv3 ⊢
    generalize r.ents.length = n3 at hv3
    subst hv3
    generalize Ns.Re.unpE (Me.unpM x).d.data.toList = re
    obtain ⟨Z, hZ⟩ : ∃ Z, w2.alloc (Ns.BR r (.slice p3 n3 d3)) = Z := ⟨_, rfl⟩
    have HZ1 : Hid (Rf Z A s b lv ∧ Below w.heap.size w Z) := by
      have hb4 : Below w.heap.size w Z := by rw [← hZ]; exact bup (bup HXD.out hb2) (below_alloc _ _)
      exact ⟨H.out.up hb4, hb4⟩
    clear hv hb2 q0 q1 q2 q3 q4 q5 q6 q7 q8 q9 q10 q11 q12 q13 q14 c0 c1 c2 c3 c4 c5 c6 c7 c8
    obtain ⟨c0, c1, c2, c3, c4, c5, c6, c7, c8⟩ := HZ1.out.1.cells
    rw [hz] at c5
    go_wp2
    go_ret
    exact ⟨rfl, HZ1.out.2⟩
  | true =>
    by_cases hq : (Me.unpM x).o = s.r
    · have hu : (Ns.Re.unpE (Me.unpM x).d.data.toList != 0) = true := by
        rw [bne_iff_ne]
        exact fun e => by unfold setB at hb; rw [hz, decide_eq_true hq, decide_eq_true e] at hb; cases hb
      have hor : ((Me.unpM x).o != s.r) = false := by simp [hq]
      clear hb hq
      obtain ⟨c0, c1, c2, c3, c4, c5, c6, c7, c8⟩ := H.out.cells
      go_enter Tryz.func13, Tryz.ntmps13
      go_wp2_with fail
      refine (rUnpack_any x _).mono ?_
      rintro e w1 ⟨⟨u, z, rfl, hm⟩, hb1⟩
      obtain ⟨p1, d1, rfl, -, -⟩ := hm.lives.open
      obtain ⟨p2, d2, rfl, -, -⟩ := hm.items.open
      clear hm
      generalize (Me.unpM x).lives.length = n1
      generalize (Me.unpM x).items.length = n2
      obtain ⟨X, hX⟩ : ∃ X, w1.alloc (BMr (Me.unpM x) (.slice p1 n1 d1) (.slice p2 n2 d2)) = X := ⟨_, rfl⟩
      have HX : Hid (Rf X A s b lv ∧ Below w.heap.size w X) := by
        have : Below w.heap.size w X := by rw [← hX]; exact bup hb1 (below_alloc _ _)
        exact ⟨H.out.up this, this⟩
      obtain ⟨q0, q1, q2, q3, q4, q5, q6, q7, q8, q9, q10, q11, q12, q13, q14⟩ := mr_of (heap_alloc_new w1 (BMr (Me.unpM x) (.slice p1 n1 d1) (.slice p2 n2 d2)))
      rw [hX] at q0 q1 q2 q3 q4 q5 q6 q7 q8 q9 q10 q11 q12 q13 q14
      clear hb1 c0 c1 c2 c3 c4 c5 c6 c7 c8
      obtain ⟨c0, c1, c2, c3, c4, c5, c6, c7, c8⟩ := HX.out.1.cells
      rw [h1]
      go_wp2_with fail
      have h3' : ((Me.unpM x).k != 2) = false := by simp [H3.out.1]
      have h4' : ((Me.unpM x).cl != s.id) = false := by simp [H3.out.2.1]
      go_quiet (fail)
      have ho := H3.out.2.2
      have HXD : Hid (Below w.heap.size w (X.drewN nq)) := ⟨HX.out.2.os, HX.out.2.tape, HX.out.2.output, HX.out.2.size, HX.out.2.block⟩
      go_wp2_with fail
      refine (Ns.repRefUnpack_at (Me.unpM x).d _ (by have := HD8.out; omega)).mono ?_
      rintro e w2 ⟨v, rfl, hv, hb2⟩
      obtain ⟨p3, d3, hv3, -, -⟩ := hv.open
      generalize Ns.Re.unpR (Me.unpM x).d.data.toList = r at hv hv3 ⊢
      generalize r.ents.length = n3 at hv3
      subst hv3
      generalize Ns.Re.unpE (Me.unpM x).d.data.toList = re at hu ⊢
      obtain ⟨Z, hZ⟩ : ∃ Z, w2.alloc (Ns.BR r (.slice p3 n3 d3)) = Z := ⟨_, rfl⟩
      have HZ1 : Hid (Rf Z A s b lv ∧ Below w.heap.size w Z) := by
        have hb4 : Below w.heap.size w Z := by rw [← hZ]; exact bup (bup HXD.out hb2) (below_alloc _ _)
        exact ⟨H.out.up hb4, hb4⟩
      clear hv hb2 q0 q1 q2 q3 q4 q5 q6 q7 q8 q9 q10 q11 q12 q13 q14 c0 c1 c2 c3 c4 c5 c6 c7 c8
      obtain ⟨c0, c1, c2, c3, c4, c5, c6, c7, c8⟩ := HZ1.out.1.cells
      rw [hz] at c5
      go_wp2
      go_ret
      exact ⟨rfl, HZ1.out.2⟩
    · have hor : ((Me.unpM x).o != s.r) = true := by rw [bne_iff_ne]; exact hq
      clear hb hq
      obtain ⟨c0, c1, c2, c3, c4, c5, c6, c7, c8⟩ := H.out.cells
      go_enter Tryz.func13, Tryz.ntmps13
      go_wp2_with fail
      refine (rUnpack_any x _).mono ?_
      rintro e w1 ⟨⟨u, z, rfl, hm⟩, hb1⟩
      obtain ⟨p1, d1, rfl, -, -⟩ := hm.lives.open
      obtain ⟨p2, d2, rfl, -, -⟩ := hm.items.open
      clear hm
      generalize (Me.unpM x).lives.length = n1
      generalize (Me.unpM x).items.length = n2
      obtain ⟨X, hX⟩ : ∃ X, w1.alloc (BMr (Me.unpM x) (.slice p1 n1 d1) (.slice p2 n2 d2)) = X := ⟨_, rfl⟩
      have HX : Hid (Rf X A s b lv ∧ Below w.heap.size w X) := by
        have : Below w.heap.size w X := by rw [← hX]; exact bup hb1 (below_alloc _ _)
        exact ⟨H.out.up this, this⟩
      obtain ⟨q0, q1, q2, q3, q4, q5, q6, q7, q8, q9, q10, q11, q12, q13, q14⟩ := mr_of (heap_alloc_new w1 (BMr (Me.unpM x) (.slice p1 n1 d1) (.slice p2 n2 d2)))
      rw [hX] at q0 q1 q2 q3 q4 q5 q6 q7 q8 q9 q10 q11 q12 q13 q14
      clear hb1 c0 c1 c2 c3 c4 c5 c6 c7 c8
      obtain ⟨c0, c1, c2, c3, c4, c5, c6, c7, c8⟩ := HX.out.1.cells
      rw [h1]
      go_wp2_with fail
      have h3' : ((Me.unpM x).k != 2) = false := by simp [H3.out.1]
      have h4' : ((Me.unpM x).cl != s.id) = false := by simp [H3.out.2.1]
      go_quiet (fail)
      have ho := H3.out.2.2
      have HXD : Hid (Below w.heap.size w (X.drewN nq)) := ⟨HX.out.2.os, HX.out.2.tape, HX.out.2.output, HX.out.2.size, HX.out.2.block⟩
      go_wp2_with fail
      refine (Ns.repRefUnpack_at (Me.unpM x).d _ (by have := HD8.out; omega)).mono ?_
      rintro e w2 ⟨v, rfl, hv, hb2⟩
      obtain ⟨p3, d3, hv3, -, -⟩ := hv.open
      generalize Ns.Re.unpR (Me.unpM x).d.data.toList = r at hv hv3 ⊢
      generalize r.ents.length = n3 at hv3
      subst hv3
      generalize Ns.Re.unpE (Me.unpM x).d.data.toList = re
      obtain ⟨Z, hZ⟩ : ∃ Z, w2.alloc (Ns.BR r (.slice p3 n3 d3)) = Z := ⟨_, rfl⟩
      have HZ1 : Hid (Rf Z A s b lv ∧ Below w.heap.size w Z) := by
        have hb4 : Below w.heap.size w Z := by rw [← hZ]; exact bup (bup HXD.out hb2) (below_alloc _ _)
        exact ⟨H.out.up hb4, hb4⟩
      clear hv hb2 q0 q1 q2 q3 q4 q5 q6 q7 q8 q9 q10 q11 q12 q13 q14 c0 c1 c2 c3 c4 c5 c6 c7 c8
      obtain ⟨c0, c1, c2, c3, c4, c5, c6, c7, c8⟩ := HZ1.out.1.cells
      rw [hz] at c5
      go_wp2
      go_ret
      exact ⟨rfl, HZ1.out.2⟩
end Go.Proofs.YtkdhbjmpjbdobaaGreatDoor
/- SBo -/
namespace Go.Proofs.YtkdhbjmpjbdobaaGreatDoor
open Go.ChangeShapes Go.WideShapes Go.ChangeAt Go.RowKit Go.Deep Sk
set_option maxRecDepth 100000
/-- The blocks of both, and from where on they lie. -/
structure Bl where
  n0 : Nat
  A : Nat
  B : Nat
  cu : Nat
  cn : Nat
  R : Nat
def Bl.Out (k : Bl) (lv : Value) (j : Nat) : Prop := k.n0 ≤ j ∧ j ≠ k.A ∧ j ≠ k.B ∧ j ≠ k.cu ∧ j ≠ k.cn ∧ j ≠ k.R ∧ lv.ownBlock ≠ some j
/-- The document's part. -/
structure Rp (w : World) (k : Bl) (s : Sb) (b : ByteArray) (p : Option Addr) (c : Nat) (W : List Wa) : Prop where
  rf : Rf w k.R s b (.slice p W.length c)
  rg : Rg w k.n0 (.slice p W.length c) W
  en : ∀ y ∈ W, At Ns.EE (k.Out (.slice p W.length c)) w (.slice y.p y.r.ents.length y.c) y.r.ents
section
variable {w w' : World} {k : Bl} {s s' : Sb} {b b' : ByteArray} {p : Option Addr} {c : Nat} {W : List Wa}
theorem Rp.up (h : Rp w k s b p c W) (hb : Below w.heap.size w w') : Rp w' k s b p c W := ⟨h.rf.up hb, h.rg.up hb, fun y hy => (h.en y hy).up hb⟩
theorem Rp.neS (h : Rp w k s b p c W) (hs : Su w k.A k.B k.cu k.cn s') : k.R ≠ k.A ∧ k.R ≠ k.B ∧ k.R ≠ k.cu ∧ k.R ≠ k.cn := by
  have h' : w.heap[k.R]? = some (BRf s b (.slice p W.length c)) := h.rf
  obtain ⟨_, _, h1⟩ := hs.inb.u
  obtain ⟨_, _, h2⟩ := hs.inb.n
  refine ⟨fun e => ?_, fun e => ?_, fun e => ?_, fun e => ?_⟩
  · rw [e, hs.box] at h'; simp at h'
  · rw [e, hs.inb.bx] at h'; simp at h'
  · rw [e, h1] at h'; simp at h'
  · rw [e, h2] at h'; simp at h'
theorem Rp.neG (h : Rp w k s b p c W) (hs : Su w k.A k.B k.cu k.cn s') : ∀ j, Value.ownBlock (.slice p W.length c) = some j → j ≠ k.A ∧ j ≠ k.B ∧ j ≠ k.cu ∧ j ≠ k.cn ∧ j ≠ k.R := by
  have h' : w.heap[k.R]? = some (BRf s b (.slice p W.length c)) := h.rf
  obtain ⟨_, _, h1⟩ := hs.inb.u
  obtain ⟨_, _, h2⟩ := hs.inb.n
  intro j hj
  refine ⟨fun e => ?_, fun e => ?_, fun e => ?_, fun e => ?_, fun e => ?_⟩
  · exact h.rg.ne hs.box (fun _ _ e2 => by simp at e2) (by rw [hj, e])
  · exact h.rg.ne hs.inb.bx (fun _ _ e2 => by simp at e2) (by rw [hj, e])
  · exact h.rg.ne h1 (fun _ _ e2 => by simp at e2) (by rw [hj, e])
  · exact h.rg.ne h2 (fun _ _ e2 => by simp at e2) (by rw [hj, e])
  · exact h.rg.ne h' (fun _ _ e2 => by simp at e2) (by rw [hj, e])
/-- The code's calls leave the document's part. -/
theorem Rp.ot (h : Rp w k s b p c W) (hs : Su w k.A k.B k.cu k.cn s') (ho : Ot k.A k.B k.cu k.cn w w') : Rp w' k s b p c W := by
  obtain ⟨n1, n2, n3, n4⟩ := h.neS hs
  refine ⟨(ho.block _ (some_lt h.rf) n1 n2 n3 n4).trans h.rf, h.rg.kept fun j hj => ?_, fun y hy => (h.en y hy).keep ho.size fun j hj hl => ⟨ho.block j hl hj.2.1 hj.2.2.1 hj.2.2.2.1 hj.2.2.2.2.1, hj⟩⟩
  obtain ⟨m1, m2, m3, m4, _⟩ := h.neG hs j hj
  exact ho.block j (h.rg.lt j hj).2 m1 m2 m3 m4
/-- The document's calls leave the code's stub. -/
theorem Su.ao (hs : Su w k.A k.B k.cu k.cn s') (h : Rp w k s b p c W) (ho : Ao k.R w w') : Su w' k.A k.B k.cu k.cn s' := by
  obtain ⟨n1, n2, n3, n4⟩ := h.neS hs
  obtain ⟨l1, l2, l3, l4⟩ := hs.lts
  exact ⟨(ho.block _ l1 (Ne.symm n1)).trans hs.box, hs.inb.up (ho.block _ l2 (Ne.symm n2)) (ho.block _ l3 (Ne.symm n3)) (ho.block _ l4 (Ne.symm n4))⟩
theorem Su.ag (hs : Su w k.A k.B k.cu k.cn s') (h : Rp w k s b p c W) (ho : Ag k.R (.slice p W.length c) w w') : Su w' k.A k.B k.cu k.cn s' := by
  obtain ⟨n1, n2, n3, n4⟩ := h.neS hs
  obtain ⟨l1, l2, l3, l4⟩ := hs.lts
  have g := h.neG hs
  exact ⟨(ho.block _ l1 (Ne.symm n1) (fun e => (g _ e).1 rfl)).trans hs.box, hs.inb.up (ho.block _ l2 (Ne.symm n2) (fun e => (g _ e).2.1 rfl)) (ho.block _ l3 (Ne.symm n3) (fun e => (g _ e).2.2.1 rfl)) (ho.block _ l4 (Ne.symm n4) (fun e => (g _ e).2.2.2.1 rfl))⟩
theorem Rp.ao (h : Rp w k s b p c W) (hs : Su w k.A k.B k.cu k.cn s') (hf : Rf w' k.R s' b' (.slice p W.length c)) (ho : Ao k.R w w') : Rp w' k s' b' p c W := by
  refine ⟨hf, h.rg.kept fun j hj => ho.block j (h.rg.lt j hj).2 (h.neG hs j hj).2.2.2.2, fun y hy => (h.en y hy).keep ho.size fun j hj hl => ⟨ho.block j hl hj.2.2.2.2.2.1, hj⟩⟩
theorem Ao.below {n : Nat} {A : Nat} {w0 : World} (h : Ao A w w') (h0 : Below n w0 w) (hn : n ≤ w.heap.size) (h1 : n ≤ A) : Below n w0 w' :=
  ⟨h.os.trans h0.os, h.tape.trans h0.tape, h.output.trans h0.output, Nat.le_trans h0.size h.size, fun k hk => (h.block k (by omega) (by omega)).trans (h0.block k hk)⟩
theorem Ag.below {n : Nat} {A : Nat} {lv : Value} {w0 : World} (h : Ag A lv w w') (h0 : Below n w0 w) (hn : n ≤ w.heap.size) (h1 : n ≤ A) (h2 : ∀ j, lv.ownBlock = some j → n ≤ j) : Below n w0 w' :=
  ⟨h.os.trans h0.os, h.tape.trans h0.tape, h.output.trans h0.output, Nat.le_trans h0.size h.size, fun k hk => (h.block k (by omega) (by omega) (fun e => by have := h2 k e; omega)).trans (h0.block k hk)⟩
/-- An answer is taken by the document. -/
theorem Rp.set {q : Int} {d : ByteArray} {lv' : Value} {y : Wa} (h : Rp w k s b p c W) (hs : Su w k.A k.B k.cu k.cn s') (hlo : k.n0 ≤ w.heap.size) (h1 : Rf w' k.R (setS s q d) b lv') (h2 : Rg w' k.n0 lv' (W ++ [y])) (h4 : At Ns.EE (fun j => w.heap.size ≤ j ∧ lv'.ownBlock ≠ some j) w' (.slice y.p y.r.ents.length y.c) y.r.ents) (h5 : lv'.ownBlock = Value.ownBlock (.slice p W.length c) ∨ ∀ j, lv'.ownBlock = some j → w.heap.size ≤ j) (ho : Ag k.R (.slice p W.length c) w w') : ∃ p' c', Rp w' k (setS s q d) b p' c' (W ++ [y]) := by
  obtain ⟨p', c', rfl⟩ := h2.slice
  have hl := hs.lts
  have hR := some_lt h.rf
  refine ⟨p', c', h1, h2, fun z hz => ?_⟩
  rcases List.mem_append.1 hz with hz | hz
  · refine (h.en z hz).keep ho.size fun j hj hlt => ⟨ho.block j hlt hj.2.2.2.2.2.1 hj.2.2.2.2.2.2, hj.1, hj.2.1, hj.2.2.1, hj.2.2.2.1, hj.2.2.2.2.1, hj.2.2.2.2.2.1, fun e => ?_⟩
    rcases h5 with h5 | h5
    · exact hj.2.2.2.2.2.2 (by rw [← h5]; exact e)
    · have := h5 j e; omega
  · obtain rfl : z = y := by simpa using hz
    exact h4.imp fun j hj _ => ⟨by have := hj.1; omega, by have := hj.1; omega, by have := hj.1; omega, by have := hj.1; omega, by have := hj.1; omega, by have := hj.1; omega, hj.2⟩
/-- The first is taken out of the document's list. -/
theorem Rp.pop {y : Wa} {g off n : Nat} (h : Rp w k s b (some ⟨g, off, none⟩) c (y :: W)) (hn : n = (y :: W).length) (hs : Su w k.A k.B k.cu k.cn s') {l : List ByteArray} : (1 ≤ c ∧ n ≤ c) ∧ Rp (w.setCell ⟨k.R, 8, none⟩ (.slice (if c = 1 then some ⟨g, off, none⟩ else some ⟨g, off + 11, none⟩) W.length (c - 1))) k { s with L := l } b (if c = 1 then some ⟨g, off, none⟩ else some ⟨g, off + 11, none⟩) (c - 1) W := by
  have hg := h.rg
  rw [← hn] at hg
  obtain ⟨e1, e2, e3, e4⟩ := hg.tail
  have hne := h.neG hs
  have ow : Value.ownBlock (.slice (if c = 1 then some ⟨g, off, none⟩ else some ⟨g, off + 11, none⟩) W.length (c - 1)) = some g := by split <;> rfl
  have ow2 : Value.ownBlock (.slice (some ⟨g, off, none⟩) (y :: W).length c) = some g := rfl
  refine ⟨⟨e2, e3⟩, h.rf.set rfl, e4.kept fun j hj => Below.heap_setCell _ _ _ _ ?_, fun z hz => (h.en z (List.mem_cons_of_mem _ hz)).keep (by simp [World.setCell]) fun j hj _ => ⟨Below.heap_setCell _ _ _ _ hj.2.2.2.2.2.1, hj.1, hj.2.1, hj.2.2.1, hj.2.2.2.1, hj.2.2.2.2.1, hj.2.2.2.2.2.1, by rw [ow]; have := hj.2.2.2.2.2.2; rw [ow2] at this; exact this⟩⟩
  rw [ow] at hj
  obtain rfl : g = j := by simpa using hj
  exact (hne g ow2).2.2.2.2
end
end Go.Proofs.YtkdhbjmpjbdobaaGreatDoor
/- SAll -/
namespace Go.Proofs.YtkdhbjmpjbdobaaGreatDoor
open Go.ChangeShapes Go.WideShapes Go.ChangeAt Go.RowKit Go.Deep Sk
set_option maxRecDepth 100000
namespace Sk
def hB (s : Sb) (k : Int) (x : ByteArray) : Bool := letB s k x && (!((Me.unpM x).o == 0) && setB s (Me.unpM x).o (Me.unpM x).d)
def hS (f : Int) (s : Sb) (k : Int) (x : ByteArray) : Sb := if letB s k x then (if (Me.unpM x).o = 0 then folS f s (Me.unpM x).v else if setB s (Me.unpM x).o (Me.unpM x).d then setS s (Me.unpM x).o (Me.unpM x).d else s) else s
end Sk
section
variable {w w' : World} {K : Bl} {s s1 : Sb} {b : ByteArray} {p : Option Addr} {c : Nat} {W : List Wa}
theorem step_ot {j : Nat} {y : Stp} (hs : Su w K.A K.B K.cu K.cn s) (ho : Ot K.A K.B K.cu K.cn w w') (h : w.heap[j]? = some (BX y)) : w'.heap[j]? = some (BX y) := by
  obtain ⟨_, _, h1⟩ := hs.inb.u
  obtain ⟨_, _, h2⟩ := hs.inb.n
  refine (ho.block j (some_lt h) (fun e => ?_) (fun e => ?_) (fun e => ?_) (fun e => ?_)).trans h
  · rw [e, hs.box] at h; simp at h
  · rw [e, hs.inb.bx] at h; simp at h
  · rw [e, h1] at h; simp at h
  · rw [e, h2] at h; simp at h
theorem step_ne {j : Nat} {y : Stp} (hp : Rp w K s b p c W) (h : w.heap[j]? = some (BX y)) : j ≠ K.R ∧ Value.ownBlock (.slice p W.length c) ≠ some j := by
  refine ⟨fun e => ?_, hp.rg.ne h (fun _ _ e => by simp at e)⟩
  have h' : w.heap[K.R]? = some (BRf s b (.slice p W.length c)) := hp.rf
  rw [e, h'] at h
  simp at h
theorem step_ao {j : Nat} {y : Stp} (hp : Rp w K s b p c W) (ho : Ao K.R w w') (h : w.heap[j]? = some (BX y)) : w'.heap[j]? = some (BX y) := (ho.block j (some_lt h) (step_ne hp h).1).trans h
theorem step_ag {j : Nat} {y : Stp} (hp : Rp w K s b p c W) (ho : Ag K.R (.slice p W.length c) w w') (h : w.heap[j]? = some (BX y)) : w'.heap[j]? = some (BX y) := (ho.block j (some_lt h) (step_ne hp h).1 (step_ne hp h).2).trans h
end
theorem letter_all {f : Int} (k : Int) (x : ByteArray) (A B cu cn : Nat) (s : Sb) (w : World) (h : Su w A B cu cn s) (hT : Po.Tab w) (hn : Pn.Is s.n f) (hL : bz s = true → s.L.length < 64) : Calls Tryz.prog 12 #[.pointer (some ⟨A, 0, none⟩), .int .i64 k, .string x] w fun e w' => e = .returned (.bool (hB s k x)) ∧ Su w' A B cu cn (hS f s k x) ∧ Ot A B cu cn w w' := by
  unfold hB hS
  cases hl : letB s k x with
  | false =>
    rw [Bool.false_and, if_neg (by decide)]
    exact letter_no k x A B cu cn s w h hT hn hl
  | true =>
    rw [Bool.true_and, if_pos rfl]
    by_cases ho : (Me.unpM x).o = 0
    · have e1 : ((Me.unpM x).o == 0) = true := by simpa using ho
      rw [if_pos ho, e1, Bool.not_true, Bool.false_and]
      exact letter_fol k x A B cu cn s w h hT hn hl ho
    · have e1 : ((Me.unpM x).o == 0) = false := by simpa using ho
      rw [if_neg ho, e1, Bool.not_false, Bool.true_and]
      cases hb : setB s (Me.unpM x).o (Me.unpM x).d with
      | false =>
        rw [if_neg (by decide)]
        exact letter_non k x A B cu cn s w h hT hn hl ho hb
      | true =>
        rw [if_pos rfl]
        exact letter_set k x A B cu cn s w h hT hn hl ho hb (hL (setB_parts hb).1)
theorem hear_all {f : Int} (k : Int) (x : ByteArray) (K : Bl) (s s1 : Sb) (b : ByteArray) (p : Option Addr) (c : Nat) (W : List Wa) (w0 w : World) (h : Rp w K s b p c W) (hs : Su w K.A K.B K.cu K.cn s1) (hb0 : Below K.n0 w0 w) (h0 : K.n0 ≤ w.heap.size) (hR : K.n0 ≤ K.R) (bi : Bi f s b W) : Calls Tryz.prog 13 #[.pointer (some ⟨K.R, 0, none⟩), .int .i64 k, .string x] w fun e w' => e = .returned (.bool (hB s k x)) ∧ (∃ p' c' W', Rp w' K (hS f s k x) b p' c' W' ∧ Bi f (hS f s k x) b W') ∧ Su w' K.A K.B K.cu K.cn s1 ∧ Below K.n0 w0 w' ∧ (∀ (j : Nat) (y : Stp), w.heap[j]? = some (BX y) → w'.heap[j]? = some (BX y)) := by
  have low : ∀ {w'}, Below w.heap.size w w' → (∃ p' c' W', Rp w' K s b p' c' W' ∧ Bi f s b W') ∧ Su w' K.A K.B K.cu K.cn s1 ∧ Below K.n0 w0 w' ∧ (∀ (j : Nat) (y : Stp), w.heap[j]? = some (BX y) → w'.heap[j]? = some (BX y)) := fun {w'} hb => ⟨⟨p, c, W, h.up hb, bi⟩, hs.up hb, hb0.trans (hb.mono h0), fun j y hj => (hb.block j (some_lt hj)).trans hj⟩
  unfold hB hS
  cases hl : letB s k x with
  | false =>
    rw [Bool.false_and, if_neg (by decide)]
    exact (rhear_no k x K.R s b _ w h.rf bi.is hl).mono fun e w' ⟨he, hb⟩ => ⟨he, low hb⟩
  | true =>
    rw [Bool.true_and, if_pos rfl]
    by_cases ho : (Me.unpM x).o = 0
    · have e1 : ((Me.unpM x).o == 0) = true := by simpa using ho
      rw [if_pos ho, e1, Bool.not_true, Bool.false_and]
      refine (rhear_fol k x K.R s b _ w h.rf bi.is hl ho).mono fun e w' ⟨he, hf, hao⟩ => ⟨he, ⟨p, c, W, ?_, bi.fol⟩, hs.ao h hao, hao.below hb0 h0 hR, fun j y hj => step_ao h hao hj⟩
      refine ⟨hf, h.rg.kept fun j hj => hao.block j (h.rg.lt j hj).2 (h.neG hs j hj).2.2.2.2, fun y hy => (h.en y hy).keep hao.size fun j hj hl => ⟨hao.block j hl hj.2.2.2.2.2.1, hj⟩⟩
    · have e1 : ((Me.unpM x).o == 0) = false := by simpa using ho
      rw [if_neg ho, e1, Bool.not_false, Bool.true_and]
      cases hb : setB s (Me.unpM x).o (Me.unpM x).d with
      | false =>
        rw [if_neg (by decide)]
        exact (rhear_non k x K.R s b _ w h.rf bi.is hl ho hb).mono fun e w' ⟨he, hb⟩ => ⟨he, low hb⟩
      | true =>
        rw [if_pos rfl]
        have hW : W.length ≤ 64 := by have := bi.m.len; have := bi.l; omega
        have hd := (unp_nums (letB_iff.1 hl).1).2.2
        refine (rhear_set k x K.n0 K.R s b p c W w h.rf h.rg h0 hW bi.is hl ho hb).mono ?_
        rintro e w' ⟨lv', y, he, a1, a2, a3, a4, a5, a6⟩
        obtain ⟨p', c', h7⟩ := h.set hs h0 a1 a2 a4 a5 a6
        exact ⟨he, ⟨p', c', W ++ [y], h7, bi.set hb hd a3⟩, hs.ag h a6, a6.below hb0 h0 hR (fun j hj => (h.rg.lt j hj).1), fun j z hj => step_ag h a6 hj⟩
set_option maxRecDepth 100000 in
set_option maxHeartbeats 2000000 in
theorem sent_any (v : Value) (D R : Nat) (s : Sb) (b : ByteArray) (lv : Value) (w : World) (ho : Out1 w v D s.t s.lt) (h : Rf w R s b lv) (hid : 0 ≤ s.id ∧ s.id ≤ 31) (hr : 0 ≤ s.r ∧ s.r ≤ 1099511627776) (hb : b.size ≤ 8192) (hlt : s.lt = Me.packed (mk 1 0 s.r s.id b)) : Calls Tryz.prog 11 #[v, .pointer (some ⟨R, 0, none⟩)] w fun e w' => e = .returned (.bool true) ∧ Below w.heap.size w w' := by
  obtain rfl := ho.is
  obtain ⟨a0, a1⟩ := ho.cells
  obtain ⟨c0, c1, c2, c3, c4, c5, c6, c7, c8⟩ := h.cells
  have X0 := fun q : Grw w => q.cell a0
  have X1 := fun q : Grw w => q.cell a1
  have X2 := fun q : Grw w => q.cell c2
  have HLT : Hid (∀ q : Grw w, Calls Tryz.prog 32 #[.pointer (some ⟨R, 0, none⟩)] q.out fun e w' => e = .returned (.string s.lt) ∧ Below q.out.heap.size q.out w') := fun q => by
    rw [hlt]
    exact rletter_any R s b lv q.out (h.up q.below) hid hr hb
  have hne9 : Nonempty (Grw w) := grw_some w
  have hpo : (s.lt.toList == s.lt.toList) = true := beq_self_eq_true _
  clear h hid hr hb hlt ho a0 a1 c0 c1 c2 c3 c4 c5 c6 c7 c8
  generalize s.lt = lt at *
  generalize s.t = st at *
  go_enter Tryz.func11, Tryz.ntmps11
  go_wp2
  refine wp_region_grw (by kernel_rfl) (by kernel_rfl) ?_
  repeat (go_big_quiet_step (first
    | (go_at_call 32; with_reducible refine calls_grw (Grw.grown _) (HLT.out _))))
  rintro w9 ⟨p9, rfl⟩
  have HB9 : Hid (Below w.heap.size w p9.out) := p9.below
  go_wp2
  go_ret
  exact ⟨rfl, HB9.out⟩
end Go.Proofs.YtkdhbjmpjbdobaaGreatDoor
/- RSame -/
namespace Go.Proofs.YtkdhbjmpjbdobaaGreatDoor.Ns
open Go.ChangeShapes Go.WideShapes Go.ChangeAt Go.RowKit Go.Deep
set_option maxRecDepth 100000
open Ak

set_option maxRecDepth 100000 in
set_option maxHeartbeats 1000000 in
theorem entries_same {S T : Nat → Prop} (u v : Value) (l : List (ByteArray × Int × Int × Int)) (w : World) (hu : At EE S w u l) (hv : At EE T w v l) :
    Calls Tryz.prog 42 #[u, v] w fun e w' => e = .returned (.bool true) ∧ Below w.heap.size w w' := by
  obtain ⟨ao, cap, rfl, hm, hx⟩ := hu.open
  obtain ⟨bo, cap', rfl, _, hy⟩ := hv.open
  clear hu hv
  unfold maxLen at hm
  obtain ⟨n, hn⟩ : ∃ n, l.length = n := ⟨_, rfl⟩
  rw [hn] at hm ⊢
  have HN : Hid (l.length = n) := hn
  have HX : Hid (∀ i x, l[i]? = some x → ∃ b off, ao = some ⟨b, off, none⟩ ∧ S b ∧ b < w.heap.size ∧ ∀ k u, (EE.cells x)[k]? = some u → w.cell? ⟨b, off + (i * 4 + k), none⟩ = some u) := hx
  have HY : Hid (∀ i x, l[i]? = some x → ∃ b off, bo = some ⟨b, off, none⟩ ∧ T b ∧ b < w.heap.size ∧ ∀ k u, (EE.cells x)[k]? = some u → w.cell? ⟨b, off + (i * 4 + k), none⟩ = some u) := hy
  clear hn hx hy
  go_enter Tryz.func42, Tryz.ntmps42
  go_wp2
  go_loopw [8] (fun i wr => ∃ k : Nat, k ≤ n ∧ i = .int .i64 k ∧ Below w.heap.size w wr) (fun i _ => n - (intOf i).toNat)
  case atStart => exact ⟨0, Nat.zero_le _, rfl, Below.refl _ _⟩
  case round =>
    obtain ⟨k, hk, rfl, hbl⟩ := hrel
    by_cases hlt : k < n
    · obtain ⟨y, hyk⟩ : ∃ y, l[k]? = some y := ⟨_, List.getElem?_eq_getElem (by rw [HN.out]; exact hlt)⟩
      obtain ⟨b, off, rfl, _, hB, hc⟩ := HX.out k y hyk
      obtain ⟨b', off', rfl, _, hB', hc'⟩ := HY.out k y hyk
      have c0 := hc 0 _ rfl
      have c1 := hc 1 _ rfl
      have c2 := hc 2 _ rfl
      have c3 := hc 3 _ rfl
      have d0 := hc' 0 _ rfl
      have d1 := hc' 1 _ rfl
      have d2 := hc' 2 _ rfl
      have d3 := hc' 3 _ rfl
      rw [← hbl.cell (p := ⟨b, off + (k * 4 + 0), none⟩) hB, Nat.add_zero] at c0
      rw [← hbl.cell (p := ⟨b, off + (k * 4 + 1), none⟩) hB, ← Nat.add_assoc] at c1
      rw [← hbl.cell (p := ⟨b, off + (k * 4 + 2), none⟩) hB, ← Nat.add_assoc] at c2
      rw [← hbl.cell (p := ⟨b, off + (k * 4 + 3), none⟩) hB, ← Nat.add_assoc] at c3
      rw [← hbl.cell (p := ⟨b', off' + (k * 4 + 0), none⟩) hB', Nat.add_zero] at d0
      rw [← hbl.cell (p := ⟨b', off' + (k * 4 + 1), none⟩) hB', ← Nat.add_assoc] at d1
      rw [← hbl.cell (p := ⟨b', off' + (k * 4 + 2), none⟩) hB', ← Nat.add_assoc] at d2
      rw [← hbl.cell (p := ⟨b', off' + (k * 4 + 3), none⟩) hB', ← Nat.add_assoc] at d3
      obtain ⟨y0, y1, y2, y3⟩ := y
      simp only at c0 c1 c2 c3 d0 d1 d2 d3
      have hlt' : (k : Int) < (n : Int) := by omega
      have hge : decide ((n : Int) ≤ (k : Int)) = false := by simp; omega
      have hge2 : decide (n ≤ k) = false := by simp; omega
      clear hyk hc hc'
      go_wp2
      go_quiet (fail)
      go_wp2
      go_roundw
      case rel => exact ⟨k + 1, by omega, by go_num, Go.below_drewN hbl _⟩
      case measure => simp [intOf]; omega
    · obtain rfl : k = n := by omega
      go_wp2
      go_ret
      exact ⟨by simp, hbl⟩
set_option maxRecDepth 100000 in
set_option maxHeartbeats 1000000 in
theorem entries_none (u : Value) (l : List Ent) (w : World) (hu : AtW EE w u l) (hl : l ≠ []) :
    Calls Tryz.prog 42 #[u, .slice none 0 0] w fun e w' => e = .returned (.bool false) ∧ Below w.heap.size w w' := by
  obtain ⟨ao, cap, rfl, hm, hx⟩ := hu.open
  clear hu
  unfold maxLen at hm
  obtain ⟨n, hn⟩ : ∃ n, l.length = n := ⟨_, rfl⟩
  have hp : 0 < n := by
    rw [← hn]
    cases l with
    | nil => exact absurd rfl hl
    | cons x l => simp
  rw [hn] at hm ⊢
  have hp' : (0 : Int) < (n : Int) := by omega
  have hge : decide ((0 : Int) ≤ (0 : Int)) = true := rfl
  clear hn hx hl
  go_enter Tryz.func42, Tryz.ntmps42
  go_wp2
  refine wp_loop_rounds 1 ?_
  rw [rounds_succ]
  go_wp2
  go_quiet (fail)
  go_wp2
  go_ret
  exact ⟨rfl, Go.below_drewN (Below.refl _ _) _⟩
theorem eql_hand (no gen : Int) (w : World) : (binOp .eql 32 (VH no gen) (VH no gen)).run Tryz.prog w = .ok (.bool true) w := by
  have t1 : (no == no) = true := beq_self_eq_true _
  have t2 : (gen == gen) = true := beq_self_eq_true _
  go_simp
theorem eql_hand0 (no gen : Int) (w : World) (h : hnz no gen = true) : (binOp .eql 32 (VH no gen) (VH 0 0)).run Tryz.prog w = .ok (.bool false) w := by
  unfold hnz at h
  cases h1 : (no == 0) <;> cases h2 : (gen == 0) <;> simp [h1, h2] at h <;> go_simp <;> simp [h1, h2]
theorem eql_attr (k l s t : Int) (w : World) : (binOp .eql 45 (VA k l s t) (VA k l s t)).run Tryz.prog w = .ok (.bool true) w := by
  have t1 : (k == k) = true := beq_self_eq_true _
  have t2 : (l == l) = true := beq_self_eq_true _
  have t3 : (s == s) = true := beq_self_eq_true _
  have t4 : (t == t) = true := beq_self_eq_true _
  go_simp
theorem eql_attr0 (k l s t : Int) (w : World) (h : Re.anz k l s t = true) : (binOp .eql 45 (VA k l s t) (VA 0 0 0 0)).run Tryz.prog w = .ok (.bool false) w := by
  unfold Re.anz at h
  cases h1 : (k == 0) <;> cases h2 : (l == 0) <;> cases h3 : (s == 0) <;> cases h4 : (t == 0) <;> simp [h1, h2, h3, h4] at h <;> go_simp <;> simp [h1, h2, h3, h4]
set_option maxRecDepth 100000 in
set_option maxHeartbeats 2000000 in
theorem reply_same {S U : Nat → Prop} (r : Rep) (u v : Value) (w : World) (hu : At EE S w u r.ents) (hv : At EE U w v r.ents) : Calls Tryz.prog 17 #[VR r u, VR r v] w fun e w' => e = .returned (.bool true) ∧ Below w.heap.size w w' := by
  obtain ⟨e, no, gen, k, l, s, t, data, ents, n⟩ := r
  have HU : Hid (At EE S w u ents) := hu
  have HV : Hid (At EE U w v ents) := hv
  obtain ⟨ao, cap, rfl, -, -⟩ := HU.out.open
  obtain ⟨bo, cap', rfl, -, -⟩ := HV.out.open
  obtain ⟨z, hz⟩ : ∃ z, ents.length = z := ⟨_, rfl⟩
  rw [hz] at HU HV ⊢
  have t0 : (e == e) = true := beq_self_eq_true _
  have t1 : ∀ w', (binOp .eql 32 (VH no gen) (VH no gen)).run Tryz.prog w' = .ok (.bool true) w' := eql_hand no gen
  have t2 : ∀ w', (binOp .eql 45 (VA k l s t) (VA k l s t)).run Tryz.prog w' = .ok (.bool true) w' := eql_attr k l s t
  have t3 : (data.toList == data.toList) = true := beq_self_eq_true _
  have t4 : (n == n) = true := beq_self_eq_true _
  clear hu hv hz
  go_enter Tryz.func17, Tryz.ntmps17
  go_wp2_with fail
  refine (entries_same _ _ ents _ ((HU.out.al _).al _) ((HV.out.al _).al _)).mono ?_
  rintro e' w1 ⟨rfl, hb1⟩
  go_wp2
  go_ret
  exact ⟨rfl, (((Below.refl _ _).alloc (Nat.le_refl _) _).alloc (by simp) _).trans (hb1.mono (by simp; omega))⟩
set_option maxRecDepth 100000 in
set_option maxHeartbeats 4000000 in
theorem reply_zero (r : Rep) (u : Value) (b : Bool) (w : World) (hu : AtW EE w u r.ents) (hb : b = true ↔ r = Re.zero) : Calls Tryz.prog 17 #[VR r u, VR Re.zero (.slice none 0 0)] w fun e w' => e = .returned (.bool b) ∧ Below w.heap.size w w' := by
  by_cases hr : r = Re.zero
  · rw [hb.2 hr]
    subst hr
    exact reply_same Re.zero u _ w hu (At.nil (S := fun _ => True))
  have hbf : b = false := by rw [Bool.eq_false_iff]; exact fun h => hr (hb.1 h)
  rw [hbf]
  clear hb hbf
  obtain ⟨e, no, gen, k, l, s, t, data, ents, n⟩ := r
  have HU : Hid (AtW EE w u ents) := hu
  obtain ⟨ao, cap, rfl, -, -⟩ := HU.out.open
  obtain ⟨z, hz⟩ : ∃ z, ents.length = z := ⟨_, rfl⟩
  rw [hz] at HU ⊢
  clear hu hz
  show Calls Tryz.prog 17 #[VR ⟨e, no, gen, k, l, s, t, data, ents, n⟩ (.slice ao z cap), .agg #[.int .i64 0, .int .i64 0, .int .i64 0, .int .i64 0, .int .i64 0, .int .i64 0, .int .i64 0, .string ⟨#[]⟩, .slice none 0 0, .int .i64 0]] w _
  by_cases h0 : e = 0
  case neg =>
    have t0 : (e == 0) = false := by simpa using h0
    clear hr h0
    go_enter Tryz.func17, Tryz.ntmps17
    go_wp2
    go_ret
    exact ⟨rfl, ((Below.refl _ _).alloc (Nat.le_refl _) _).alloc (by simp) _⟩
  cases h1 : hnz no gen with
  | true =>
    have t1 : ∀ w', (binOp .eql 32 (VH no gen) (VH 0 0)).run Tryz.prog w' = .ok (.bool false) w' := fun w' => eql_hand0 no gen w' h1
    subst h0
    clear hr h1
    go_enter Tryz.func17, Tryz.ntmps17
    go_wp2
    go_ret
    exact ⟨rfl, ((Below.refl _ _).alloc (Nat.le_refl _) _).alloc (by simp) _⟩
  | false =>
  obtain ⟨e1, e2⟩ := hz_of h1
  cases h2 : Re.anz k l s t with
  | true =>
    have t1 : ∀ w', (binOp .eql 45 (VA k l s t) (VA 0 0 0 0)).run Tryz.prog w' = .ok (.bool false) w' := fun w' => eql_attr0 k l s t w' h2
    subst h0
    subst e1
    subst e2
    clear hr h1 h2
    go_enter Tryz.func17, Tryz.ntmps17
    go_wp2
    go_ret
    exact ⟨rfl, ((Below.refl _ _).alloc (Nat.le_refl _) _).alloc (by simp) _⟩
  | false =>
  obtain ⟨a1, a2, a3, a4⟩ : k = 0 ∧ l = 0 ∧ s = 0 ∧ t = 0 := by unfold Re.anz at h2; simpa using h2
  by_cases h3 : data = ⟨#[]⟩
  case neg =>
    have t3 : data.toList.isEmpty = false := by
      rw [ByteArray.toList_eq, List.isEmpty_eq_false_iff]
      intro he
      apply h3
      rw [← Pl.txt_toList data, he]
      rfl
    subst h0
    subst e1
    subst e2
    subst a1
    subst a2
    subst a3
    subst a4
    clear hr h1 h2 h3
    go_enter Tryz.func17, Tryz.ntmps17
    go_wp2
    go_ret
    exact ⟨rfl, ((Below.refl _ _).alloc (Nat.le_refl _) _).alloc (by simp) _⟩
  by_cases h4 : n = 0
  case neg =>
    have t4 : (n == 0) = false := by simpa using h4
    subst h0
    subst e1
    subst e2
    subst a1
    subst a2
    subst a3
    subst a4
    subst h3
    clear hr h1 h2 h4
    go_enter Tryz.func17, Tryz.ntmps17
    go_wp2
    go_ret
    exact ⟨rfl, ((Below.refl _ _).alloc (Nat.le_refl _) _).alloc (by simp) _⟩
  have HE : Hid (ents ≠ []) := by
    intro he
    apply hr
    rw [h0, e1, e2, a1, a2, a3, a4, h3, h4, he]
    rfl
  subst h0
  subst e1
  subst e2
  subst a1
  subst a2
  subst a3
  subst a4
  subst h3
  subst h4
  clear hr h1 h2
  go_enter Tryz.func17, Tryz.ntmps17
  go_wp2_with fail
  refine (entries_none _ ents _ ((HU.out.al _).al _) HE.out).mono ?_
  rintro e' w1 ⟨rfl, hb1⟩
  go_wp2
  go_ret
  exact ⟨rfl, (((Below.refl _ _).alloc (Nat.le_refl _) _).alloc (by simp) _).trans (hb1.mono (by simp; omega))⟩
end Go.Proofs.YtkdhbjmpjbdobaaGreatDoor.Ns
