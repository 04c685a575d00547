/-
  The document's Add.
-/
import Derived.Test.YtceeafmahoelfaaDoorHRefA
import Derived.Test.YtceeafmahoelfaaDoorLate
import Derived.Test.YtceeafmahoelfaaDoorHRSp
namespace Go.Proofs.YtceeafmahoelfaaDoor
open Go.ChangeShapes Go.WideShapes Go.ChangeAt Go.RowKit

/-- What stands behind each of the regions. -/
def RSt (V w : World) (B R X : Nat) (m : Sh.Mf) (L : List Sh.Sd) (o n : Int) (d : ByteArray) (k0 : Int) : Prop := (RAt V B R m L ∧ Below w.heap.size w V) ∧ V.cell? ⟨X, 0, none⟩ = some (.int .i64 o) ∧ V.cell? ⟨X, 1, none⟩ = some (.int .i64 n) ∧ V.cell? ⟨X, 2, none⟩ = some (.string d) ∧ V.cell? ⟨X, 3, none⟩ = some (.int .i64 k0)
theorem RSt.up {V V' w : World} {B R X : Nat} {m : Sh.Mf} {L : List Sh.Sd} {o n : Int} {d : ByteArray} {k0 : Int} (h : RSt V w B R X m L o n d k0) (hb : Below V.heap.size V V') : RSt V' w B R X m L o n d k0 := by
  have hX := World.block_lt_of_cell? _ _ h.2.1
  refine ⟨⟨h.1.1.up hb, bup h.1.2 hb⟩, ?_, ?_, ?_, ?_⟩
  · exact (hb.cell (p := ⟨X, 0, none⟩) hX).trans h.2.1
  · exact (hb.cell (p := ⟨X, 1, none⟩) hX).trans h.2.2.1
  · exact (hb.cell (p := ⟨X, 2, none⟩) hX).trans h.2.2.2.1
  · exact (hb.cell (p := ⟨X, 3, none⟩) hX).trans h.2.2.2.2
theorem RSt.drew {V w : World} {B R X : Nat} {m : Sh.Mf} {L : List Sh.Sd} {o n : Int} {d : ByteArray} {k0 : Int} (h : RSt V w B R X m L o n d k0) (q : Nat) : RSt (V.drewN q) w B R X m L o n d k0 := ⟨⟨h.1.1, Go.below_drewN h.1.2 q⟩, h.2⟩
theorem wp_row {α : Type} {P : Program} {w : World} {o : Oper} {a : Act} {K : Act → World → Prop} {Q : Exit → Act → World → Prop} (s x : Operand) (t : TypeId)
    (ho : o.op = .call { callee := .builtin .append, args := #[s, x], argTypes := #[t, t] }) (E : Enc α) (S : Nat → Prop)
    (B : Nat) (e : TypeId) (i : TypeInfo) (z : Value) (bytes : Nat) (ht : P.underlying t = some (.slice e)) (hi : P.info? e = some i) (hz : i.zero = some z) (hsize : i.size = E.sz) (hby : i.bytes = bytes) (hzs : z.cells.size = E.sz)
    (v : Value) (ls : List α) (hv : a.eval s = v) (hrow : Row E w B e v ls) (xv : Value) (xs : List α) (hxv : a.eval x = xv) (hx : At E S w xv xs) (h63 : ls.length + xs.length ≤ maxLen) (hbytes : (ls.length + xs.length + (ls.length + xs.length) / 4 + 192) * bytes ≤ 281474976710656) (hbase : B ≤ w.heap.size)
    (h : ∀ v' w', Row E w' B e v' (ls ++ xs) → w.grownBy w' v.ownBlock → K (a.put o.dst v') w') : Oper.wp P o a w K Q := by
  obtain ⟨v', w', hr, h2, h3, _⟩ := Row.append_run (P := P) w E S B t o.type e i z bytes ht hi hz hsize hby hzs v ls hrow xv xs hx h63 hbytes hbase
  unfold Oper.wp execOp
  simp only [ho, resolve, invoke, builtin, Sem.run_bind, Sem.run_pure, Result.andThen_ok, List.map_toArray, List.map_cons, List.map_nil, hv, hxv, hr]
  exact h v' w' h2 h3
set_option maxRecDepth 100000 in
set_option maxRecDepth 100000 in
set_option maxHeartbeats 2000000 in
theorem radd_mixed (B R : Nat) (o n u k0 : Int) (m : Nat) (d : ByteArray) (o' : Int) (L : List Sh.Sd) (w : World) (hR : RAt w B R ⟨o', m, u⟩ L) (hB : B ≤ w.heap.size) (_hL : L.length ≤ 200) (hm : Sh.okM ⟨o', m, u⟩ = true) (hd : d.size ≤ maxLen) (h1 : ¬ o = o') :
    Calls Tryd.prog 17 #[.pointer (some ⟨R, 0, none⟩), .agg #[.int .i64 o, .int .i64 n, .string d, .int .i64 k0]] w fun e w' => e = .returned (.tuple #[.bool false, .int .i64 190]) ∧ RAt w' B R ⟨o', m, u⟩ L ∧ Below B w w' := by
  have h1' : (o != o') = true := by simpa using h1
  clear h1
  have hmk := Sh.okM_size hm
  have hm1 : 1 ≤ m ∧ m ≤ 65535 := by obtain ⟨k, h1, h2, h3⟩ := hmk; simp at h1; omega
  unfold maxLen at hd
  have HB : Hid (B ≤ w.heap.size) := hB
  have ST0 : Hid (RSt (w.alloc (.cells #[.int .i64 o, .int .i64 n, .string d, .int .i64 k0] 34)) w B R w.heap.size ⟨o', m, u⟩ L o n d k0) := ⟨⟨hR.up (below_alloc _ _), below_alloc _ _⟩, by simp, by simp, by simp, by simp⟩
  have hP : Hid (∀ v : World, Calls Tryd.prog 30 #[.int .i64 m, .int .i64 n] v fun e w' => e = .returned (.int .i64 (Sh.psz m n)) ∧ w' = v) := fun v => length_any m n _ (by omega)
  have hS : Hid (∀ v : World, Calls Tryd.prog 28 #[.string d] v fun e w' => e = .returned (.int .i64 (Sh.sum d)) ∧ w' = v) := fun v => refSum_any d _ (by unfold maxLen; omega)
  obtain ⟨_, pw, cw, _, _, _, c3w, hroww⟩ := hR.open
  have HRWW : Hid (Row SE w B 34 (.slice pw L.length cw) L ∧ w.cell? ⟨R, 3, none⟩ = some (.slice pw L.length cw) ∧ R < w.heap.size) := ⟨hroww, c3w, World.block_lt_of_cell? _ _ c3w⟩
  clear hR hm hmk hB c3w hroww
  go_enter Tryd.func17, Tryd.ntmps17
  obtain ⟨X, hX⟩ : ∃ X, w.heap.size = X := ⟨_, rfl⟩
  have HX : Hid (w.heap.size = X) := hX
  go_wp2
  rw [hX] at ST0
  clear hX
  generalize w.alloc (.cells #[.int .i64 o, .int .i64 n, .string d, .int .i64 k0] 34) = V at *
  have sV := ST0
  clear ST0
  obtain ⟨d0, d1, d2, d3⟩ := sV.out.2
  obtain ⟨hRl, p, c, c0, c1, c2, c3, _⟩ := sV.out.1.1.open
  simp only at c0 c1 c2
  go_quiet (fail)
  obtain ⟨V2, sV2, hV⟩ : ∃ V0, Hid (RSt V0 w B R X ⟨o', m, u⟩ L o n d k0) ∧ V.drewN nq = V0 := ⟨_, sV.out.drew nq, rfl⟩
  rw [hV]
  clear hV d0 d1 d2 d3 c0 c1 c2 c3 hRl sV
  obtain ⟨d0, d1, d2, d3⟩ := sV2.out.2
  obtain ⟨hRl, p, c, c0, c1, c2, c3, _⟩ := sV2.out.1.1.open
  simp only at c0 c1 c2
  go_wp2
  go_ret2
  exact ⟨rfl, sV2.out.1.1, sV2.out.1.2.mono HB.out⟩
set_option maxRecDepth 100000 in
set_option maxRecDepth 100000 in
set_option maxHeartbeats 2000000 in
theorem radd_none (B R : Nat) (o n u k0 : Int) (m : Nat) (d : ByteArray) (o' : Int) (L : List Sh.Sd) (w : World) (hR : RAt w B R ⟨o', m, u⟩ L) (hB : B ≤ w.heap.size) (_hL : L.length ≤ 200) (hm : Sh.okM ⟨o', m, u⟩ = true) (hd : d.size ≤ maxLen) (h1 : o = o') (h2 : Sh.psz m n = 0) :
    Calls Tryd.prog 17 #[.pointer (some ⟨R, 0, none⟩), .agg #[.int .i64 o, .int .i64 n, .string d, .int .i64 k0]] w fun e w' => e = .returned (.tuple #[.bool false, .int .i64 4]) ∧ RAt w' B R ⟨o', m, u⟩ L ∧ Below B w w' := by
  have h1' : (o != o') = false := by simpa using h1
  have H2 : Hid (Sh.psz m n = 0) := h2
  clear h1 h2
  have hmk := Sh.okM_size hm
  have hm1 : 1 ≤ m ∧ m ≤ 65535 := by obtain ⟨k, h1, h2, h3⟩ := hmk; simp at h1; omega
  unfold maxLen at hd
  have HB : Hid (B ≤ w.heap.size) := hB
  have ST0 : Hid (RSt (w.alloc (.cells #[.int .i64 o, .int .i64 n, .string d, .int .i64 k0] 34)) w B R w.heap.size ⟨o', m, u⟩ L o n d k0) := ⟨⟨hR.up (below_alloc _ _), below_alloc _ _⟩, by simp, by simp, by simp, by simp⟩
  have hP : Hid (∀ v : World, Calls Tryd.prog 30 #[.int .i64 m, .int .i64 n] v fun e w' => e = .returned (.int .i64 (Sh.psz m n)) ∧ w' = v) := fun v => length_any m n _ (by omega)
  have hS : Hid (∀ v : World, Calls Tryd.prog 28 #[.string d] v fun e w' => e = .returned (.int .i64 (Sh.sum d)) ∧ w' = v) := fun v => refSum_any d _ (by unfold maxLen; omega)
  obtain ⟨_, pw, cw, _, _, _, c3w, hroww⟩ := hR.open
  have HRWW : Hid (Row SE w B 34 (.slice pw L.length cw) L ∧ w.cell? ⟨R, 3, none⟩ = some (.slice pw L.length cw) ∧ R < w.heap.size) := ⟨hroww, c3w, World.block_lt_of_cell? _ _ c3w⟩
  clear hR hm hmk hB c3w hroww
  go_enter Tryd.func17, Tryd.ntmps17
  obtain ⟨X, hX⟩ : ∃ X, w.heap.size = X := ⟨_, rfl⟩
  have HX : Hid (w.heap.size = X) := hX
  go_wp2
  rw [hX] at ST0
  clear hX
  generalize w.alloc (.cells #[.int .i64 o, .int .i64 n, .string d, .int .i64 k0] 34) = V at *
  have sV := ST0
  clear ST0
  obtain ⟨d0, d1, d2, d3⟩ := sV.out.2
  obtain ⟨hRl, p, c, c0, c1, c2, c3, _⟩ := sV.out.1.1.open
  simp only at c0 c1 c2
  rw [H2.out] at hP
  go_quiet (fail)
  obtain ⟨V2, sV2, hV⟩ : ∃ V0, Hid (RSt V0 w B R X ⟨o', m, u⟩ L o n d k0) ∧ V.drewN nq = V0 := ⟨_, sV.out.drew nq, rfl⟩
  rw [hV]
  clear hV d0 d1 d2 d3 c0 c1 c2 c3 hRl sV
  obtain ⟨d0, d1, d2, d3⟩ := sV2.out.2
  obtain ⟨hRl, p, c, c0, c1, c2, c3, _⟩ := sV2.out.1.1.open
  simp only at c0 c1 c2
  go_wp2
  go_quiet ((go_at_call 30; exact Calls.quiet_of_same (hP.out _)))
  obtain ⟨V3, sV3, hV⟩ : ∃ V0, Hid (RSt V0 w B R X ⟨o', m, u⟩ L o n d k0) ∧ V2.drewN nq = V0 := ⟨_, sV2.out.drew nq, rfl⟩
  rw [hV]
  clear hV d0 d1 d2 d3 c0 c1 c2 c3 hRl sV2
  obtain ⟨d0, d1, d2, d3⟩ := sV3.out.2
  obtain ⟨hRl, p, c, c0, c1, c2, c3, _⟩ := sV3.out.1.1.open
  simp only at c0 c1 c2
  go_wp2
  go_ret2
  exact ⟨rfl, sV3.out.1.1, sV3.out.1.2.mono HB.out⟩
set_option maxRecDepth 100000 in
set_option maxRecDepth 100000 in
set_option maxHeartbeats 2000000 in
theorem radd_size (B R : Nat) (o n u k0 : Int) (m : Nat) (d : ByteArray) (o' : Int) (L : List Sh.Sd) (w : World) (hR : RAt w B R ⟨o', m, u⟩ L) (hB : B ≤ w.heap.size) (_hL : L.length ≤ 200) (hm : Sh.okM ⟨o', m, u⟩ = true) (hd : d.size ≤ maxLen) (h1 : o = o') (h2 : ¬ Sh.psz m n = 0) (h3 : ¬ (d.size : Int) = Sh.psz m n) :
    Calls Tryd.prog 17 #[.pointer (some ⟨R, 0, none⟩), .agg #[.int .i64 o, .int .i64 n, .string d, .int .i64 k0]] w fun e w' => e = .returned (.tuple #[.bool false, .int .i64 4]) ∧ RAt w' B R ⟨o', m, u⟩ L ∧ Below B w w' := by
  have h1' : (o != o') = false := by simpa using h1
  have h2' : (Sh.psz m n == 0) = false := by simpa using h2
  have h3' : ((d.size : Int) != Sh.psz m n) = true := by simpa using h3
  clear h1 h2 h3
  have hmk := Sh.okM_size hm
  have hm1 : 1 ≤ m ∧ m ≤ 65535 := by obtain ⟨k, h1, h2, h3⟩ := hmk; simp at h1; omega
  unfold maxLen at hd
  have HB : Hid (B ≤ w.heap.size) := hB
  have ST0 : Hid (RSt (w.alloc (.cells #[.int .i64 o, .int .i64 n, .string d, .int .i64 k0] 34)) w B R w.heap.size ⟨o', m, u⟩ L o n d k0) := ⟨⟨hR.up (below_alloc _ _), below_alloc _ _⟩, by simp, by simp, by simp, by simp⟩
  have hP : Hid (∀ v : World, Calls Tryd.prog 30 #[.int .i64 m, .int .i64 n] v fun e w' => e = .returned (.int .i64 (Sh.psz m n)) ∧ w' = v) := fun v => length_any m n _ (by omega)
  have hS : Hid (∀ v : World, Calls Tryd.prog 28 #[.string d] v fun e w' => e = .returned (.int .i64 (Sh.sum d)) ∧ w' = v) := fun v => refSum_any d _ (by unfold maxLen; omega)
  obtain ⟨_, pw, cw, _, _, _, c3w, hroww⟩ := hR.open
  have HRWW : Hid (Row SE w B 34 (.slice pw L.length cw) L ∧ w.cell? ⟨R, 3, none⟩ = some (.slice pw L.length cw) ∧ R < w.heap.size) := ⟨hroww, c3w, World.block_lt_of_cell? _ _ c3w⟩
  clear hR hm hmk hB c3w hroww
  go_enter Tryd.func17, Tryd.ntmps17
  obtain ⟨X, hX⟩ : ∃ X, w.heap.size = X := ⟨_, rfl⟩
  have HX : Hid (w.heap.size = X) := hX
  go_wp2
  rw [hX] at ST0
  clear hX
  generalize w.alloc (.cells #[.int .i64 o, .int .i64 n, .string d, .int .i64 k0] 34) = V at *
  have sV := ST0
  clear ST0
  obtain ⟨d0, d1, d2, d3⟩ := sV.out.2
  obtain ⟨hRl, p, c, c0, c1, c2, c3, _⟩ := sV.out.1.1.open
  simp only at c0 c1 c2
  generalize Sh.psz m n = z at *
  go_quiet (fail)
  obtain ⟨V2, sV2, hV⟩ : ∃ V0, Hid (RSt V0 w B R X ⟨o', m, u⟩ L o n d k0) ∧ V.drewN nq = V0 := ⟨_, sV.out.drew nq, rfl⟩
  rw [hV]
  clear hV d0 d1 d2 d3 c0 c1 c2 c3 hRl sV
  obtain ⟨d0, d1, d2, d3⟩ := sV2.out.2
  obtain ⟨hRl, p, c, c0, c1, c2, c3, _⟩ := sV2.out.1.1.open
  simp only at c0 c1 c2
  go_wp2
  go_quiet ((go_at_call 30; exact Calls.quiet_of_same (hP.out _)))
  obtain ⟨V3, sV3, hV⟩ : ∃ V0, Hid (RSt V0 w B R X ⟨o', m, u⟩ L o n d k0) ∧ V2.drewN nq = V0 := ⟨_, sV2.out.drew nq, rfl⟩
  rw [hV]
  clear hV d0 d1 d2 d3 c0 c1 c2 c3 hRl sV2
  obtain ⟨d0, d1, d2, d3⟩ := sV3.out.2
  obtain ⟨hRl, p, c, c0, c1, c2, c3, _⟩ := sV3.out.1.1.open
  simp only at c0 c1 c2
  go_wp2
  go_ret2
  exact ⟨rfl, sV3.out.1.1, sV3.out.1.2.mono HB.out⟩
set_option maxRecDepth 100000 in
set_option maxRecDepth 100000 in
set_option maxHeartbeats 2000000 in
theorem radd_sum (B R : Nat) (o n u k0 : Int) (m : Nat) (d : ByteArray) (o' : Int) (L : List Sh.Sd) (w : World) (hR : RAt w B R ⟨o', m, u⟩ L) (hB : B ≤ w.heap.size) (_hL : L.length ≤ 200) (hm : Sh.okM ⟨o', m, u⟩ = true) (hd : d.size ≤ maxLen) (h1 : o = o') (h2 : ¬ Sh.psz m n = 0) (h3 : (d.size : Int) = Sh.psz m n) (h4 : ¬ k0 = (Sh.sum d : Int)) :
    Calls Tryd.prog 17 #[.pointer (some ⟨R, 0, none⟩), .agg #[.int .i64 o, .int .i64 n, .string d, .int .i64 k0]] w fun e w' => e = .returned (.tuple #[.bool false, .int .i64 20]) ∧ RAt w' B R ⟨o', m, u⟩ L ∧ Below B w w' := by
  have h1' : (o != o') = false := by simpa using h1
  have h2' : (Sh.psz m n == 0) = false := by simpa using h2
  have h3' : ((d.size : Int) != Sh.psz m n) = false := by simpa using h3
  have h4' : ((Sh.sum d : Int) != k0) = true := by simpa using Ne.symm h4
  clear h1 h2 h3 h4
  have hmk := Sh.okM_size hm
  have hm1 : 1 ≤ m ∧ m ≤ 65535 := by obtain ⟨k, h1, h2, h3⟩ := hmk; simp at h1; omega
  unfold maxLen at hd
  have HB : Hid (B ≤ w.heap.size) := hB
  have ST0 : Hid (RSt (w.alloc (.cells #[.int .i64 o, .int .i64 n, .string d, .int .i64 k0] 34)) w B R w.heap.size ⟨o', m, u⟩ L o n d k0) := ⟨⟨hR.up (below_alloc _ _), below_alloc _ _⟩, by simp, by simp, by simp, by simp⟩
  have hP : Hid (∀ v : World, Calls Tryd.prog 30 #[.int .i64 m, .int .i64 n] v fun e w' => e = .returned (.int .i64 (Sh.psz m n)) ∧ w' = v) := fun v => length_any m n _ (by omega)
  have hS : Hid (∀ v : World, Calls Tryd.prog 28 #[.string d] v fun e w' => e = .returned (.int .i64 (Sh.sum d)) ∧ w' = v) := fun v => refSum_any d _ (by unfold maxLen; omega)
  obtain ⟨_, pw, cw, _, _, _, c3w, hroww⟩ := hR.open
  have HRWW : Hid (Row SE w B 34 (.slice pw L.length cw) L ∧ w.cell? ⟨R, 3, none⟩ = some (.slice pw L.length cw) ∧ R < w.heap.size) := ⟨hroww, c3w, World.block_lt_of_cell? _ _ c3w⟩
  clear hR hm hmk hB c3w hroww
  go_enter Tryd.func17, Tryd.ntmps17
  obtain ⟨X, hX⟩ : ∃ X, w.heap.size = X := ⟨_, rfl⟩
  have HX : Hid (w.heap.size = X) := hX
  go_wp2
  rw [hX] at ST0
  clear hX
  generalize w.alloc (.cells #[.int .i64 o, .int .i64 n, .string d, .int .i64 k0] 34) = V at *
  have sV := ST0
  clear ST0
  obtain ⟨d0, d1, d2, d3⟩ := sV.out.2
  obtain ⟨hRl, p, c, c0, c1, c2, c3, _⟩ := sV.out.1.1.open
  simp only at c0 c1 c2
  generalize Sh.psz m n = z at *
  generalize Sh.sum d = y at *
  go_quiet (fail)
  obtain ⟨V2, sV2, hV⟩ : ∃ V0, Hid (RSt V0 w B R X ⟨o', m, u⟩ L o n d k0) ∧ V.drewN nq = V0 := ⟨_, sV.out.drew nq, rfl⟩
  rw [hV]
  clear hV d0 d1 d2 d3 c0 c1 c2 c3 hRl sV
  obtain ⟨d0, d1, d2, d3⟩ := sV2.out.2
  obtain ⟨hRl, p, c, c0, c1, c2, c3, _⟩ := sV2.out.1.1.open
  simp only at c0 c1 c2
  go_wp2
  go_quiet ((go_at_call 30; exact Calls.quiet_of_same (hP.out _)))
  obtain ⟨V3, sV3, hV⟩ : ∃ V0, Hid (RSt V0 w B R X ⟨o', m, u⟩ L o n d k0) ∧ V2.drewN nq = V0 := ⟨_, sV2.out.drew nq, rfl⟩
  rw [hV]
  clear hV d0 d1 d2 d3 c0 c1 c2 c3 hRl sV2
  obtain ⟨d0, d1, d2, d3⟩ := sV3.out.2
  obtain ⟨hRl, p, c, c0, c1, c2, c3, _⟩ := sV3.out.1.1.open
  simp only at c0 c1 c2
  go_wp2
  go_quiet ((go_at_call 28; exact Calls.quiet_of_same (hS.out _)))
  obtain ⟨V4, sV4, hV⟩ : ∃ V0, Hid (RSt V0 w B R X ⟨o', m, u⟩ L o n d k0) ∧ V3.drewN nq = V0 := ⟨_, sV3.out.drew nq, rfl⟩
  rw [hV]
  clear hV d0 d1 d2 d3 c0 c1 c2 c3 hRl sV3
  obtain ⟨d0, d1, d2, d3⟩ := sV4.out.2
  obtain ⟨hRl, p, c, c0, c1, c2, c3, _⟩ := sV4.out.1.1.open
  simp only at c0 c1 c2
  go_wp2
  go_ret2
  exact ⟨rfl, sV4.out.1.1, sV4.out.1.2.mono HB.out⟩
set_option maxRecDepth 100000 in
set_option maxRecDepth 100000 in
set_option maxHeartbeats 2000000 in
theorem radd_have (B R : Nat) (o n u k0 : Int) (m : Nat) (d : ByteArray) (o' : Int) (L : List Sh.Sd) (w : World) (hR : RAt w B R ⟨o', m, u⟩ L) (hB : B ≤ w.heap.size) (_hL : L.length ≤ 200) (hm : Sh.okM ⟨o', m, u⟩ = true) (hd : d.size ≤ maxLen) (h1 : o = o') (h2 : ¬ Sh.psz m n = 0) (h3 : (d.size : Int) = Sh.psz m n) (h4 : k0 = (Sh.sum d : Int)) (h5 : Sh.hasL L n = true) :
    Calls Tryd.prog 17 #[.pointer (some ⟨R, 0, none⟩), .agg #[.int .i64 o, .int .i64 n, .string d, .int .i64 k0]] w fun e w' => e = .returned (.tuple #[.bool false, .int .i64 0]) ∧ RAt w' B R ⟨o', m, u⟩ L ∧ Below B w w' := by
  have h1' : (o != o') = false := by simpa using h1
  have h2' : (Sh.psz m n == 0) = false := by simpa using h2
  have h3' : ((d.size : Int) != Sh.psz m n) = false := by simpa using h3
  have h4' : ((Sh.sum d : Int) != k0) = false := by simpa using h4.symm
  have HH : Hid (∀ v : World, RAt v B R ⟨o', m, u⟩ L → Calls Tryd.prog 31 #[.pointer (some ⟨R, 0, none⟩), .int .i64 n] v fun e w' => e = .returned (.bool (Sh.hasL L n)) ∧ Below v.heap.size v w') := fun v hv => has_any B R _ L n v hv (by omega)
  have H5 : Hid (Sh.hasL L n = true) := h5
  clear h1 h2 h3 h4 h5
  have hmk := Sh.okM_size hm
  have hm1 : 1 ≤ m ∧ m ≤ 65535 := by obtain ⟨k, h1, h2, h3⟩ := hmk; simp at h1; omega
  unfold maxLen at hd
  have HB : Hid (B ≤ w.heap.size) := hB
  have ST0 : Hid (RSt (w.alloc (.cells #[.int .i64 o, .int .i64 n, .string d, .int .i64 k0] 34)) w B R w.heap.size ⟨o', m, u⟩ L o n d k0) := ⟨⟨hR.up (below_alloc _ _), below_alloc _ _⟩, by simp, by simp, by simp, by simp⟩
  have hP : Hid (∀ v : World, Calls Tryd.prog 30 #[.int .i64 m, .int .i64 n] v fun e w' => e = .returned (.int .i64 (Sh.psz m n)) ∧ w' = v) := fun v => length_any m n _ (by omega)
  have hS : Hid (∀ v : World, Calls Tryd.prog 28 #[.string d] v fun e w' => e = .returned (.int .i64 (Sh.sum d)) ∧ w' = v) := fun v => refSum_any d _ (by unfold maxLen; omega)
  obtain ⟨_, pw, cw, _, _, _, c3w, hroww⟩ := hR.open
  have HRWW : Hid (Row SE w B 34 (.slice pw L.length cw) L ∧ w.cell? ⟨R, 3, none⟩ = some (.slice pw L.length cw) ∧ R < w.heap.size) := ⟨hroww, c3w, World.block_lt_of_cell? _ _ c3w⟩
  clear hR hm hmk hB c3w hroww
  go_enter Tryd.func17, Tryd.ntmps17
  obtain ⟨X, hX⟩ : ∃ X, w.heap.size = X := ⟨_, rfl⟩
  have HX : Hid (w.heap.size = X) := hX
  go_wp2
  rw [hX] at ST0
  clear hX
  generalize w.alloc (.cells #[.int .i64 o, .int .i64 n, .string d, .int .i64 k0] 34) = V at *
  have sV := ST0
  clear ST0
  obtain ⟨d0, d1, d2, d3⟩ := sV.out.2
  obtain ⟨hRl, p, c, c0, c1, c2, c3, _⟩ := sV.out.1.1.open
  simp only at c0 c1 c2
  generalize Sh.psz m n = z at *
  generalize Sh.sum d = y at *
  go_quiet (fail)
  obtain ⟨V2, sV2, hV⟩ : ∃ V0, Hid (RSt V0 w B R X ⟨o', m, u⟩ L o n d k0) ∧ V.drewN nq = V0 := ⟨_, sV.out.drew nq, rfl⟩
  rw [hV]
  clear hV d0 d1 d2 d3 c0 c1 c2 c3 hRl sV
  obtain ⟨d0, d1, d2, d3⟩ := sV2.out.2
  obtain ⟨hRl, p, c, c0, c1, c2, c3, _⟩ := sV2.out.1.1.open
  simp only at c0 c1 c2
  go_wp2
  go_quiet ((go_at_call 30; exact Calls.quiet_of_same (hP.out _)))
  obtain ⟨V3, sV3, hV⟩ : ∃ V0, Hid (RSt V0 w B R X ⟨o', m, u⟩ L o n d k0) ∧ V2.drewN nq = V0 := ⟨_, sV2.out.drew nq, rfl⟩
  rw [hV]
  clear hV d0 d1 d2 d3 c0 c1 c2 c3 hRl sV2
  obtain ⟨d0, d1, d2, d3⟩ := sV3.out.2
  obtain ⟨hRl, p, c, c0, c1, c2, c3, _⟩ := sV3.out.1.1.open
  simp only at c0 c1 c2
  go_wp2
  go_quiet ((go_at_call 28; exact Calls.quiet_of_same (hS.out _)))
  obtain ⟨V4, sV4, hV⟩ : ∃ V0, Hid (RSt V0 w B R X ⟨o', m, u⟩ L o n d k0) ∧ V3.drewN nq = V0 := ⟨_, sV3.out.drew nq, rfl⟩
  rw [hV]
  clear hV d0 d1 d2 d3 c0 c1 c2 c3 hRl sV3
  obtain ⟨d0, d1, d2, d3⟩ := sV4.out.2
  obtain ⟨hRl, p, c, c0, c1, c2, c3, _⟩ := sV4.out.1.1.open
  simp only at c0 c1 c2
  go_wp2_with fail
  refine (HH.out _ sV4.out.1.1).mono ?_
  rintro e w5 ⟨rfl, hb5⟩
  rw [H5.out]
  have s5 : Hid (RSt w5 w B R X ⟨o', m, u⟩ L o n d k0) := sV4.out.up hb5
  clear hb5 d0 d1 d2 d3 c0 c1 c2 c3 sV4 hRl
  go_wp2
  go_ret2
  exact ⟨rfl, s5.out.1.1, s5.out.1.2.mono HB.out⟩
set_option maxRecDepth 100000 in
set_option maxRecDepth 100000 in
set_option maxHeartbeats 2000000 in
theorem radd_new (B R : Nat) (o n u k0 : Int) (m : Nat) (d : ByteArray) (o' : Int) (L : List Sh.Sd) (w : World) (hR : RAt w B R ⟨o', m, u⟩ L) (hB : B ≤ w.heap.size) (_hL : L.length ≤ 200) (hm : Sh.okM ⟨o', m, u⟩ = true) (hd : d.size ≤ maxLen) (h1 : o = o') (h2 : ¬ Sh.psz m n = 0) (h3 : (d.size : Int) = Sh.psz m n) (h4 : k0 = (Sh.sum d : Int)) (h5 : Sh.hasL L n = false) :
    Calls Tryd.prog 17 #[.pointer (some ⟨R, 0, none⟩), .agg #[.int .i64 o, .int .i64 n, .string d, .int .i64 k0]] w fun e w' => e = .returned (.tuple #[.bool true, .int .i64 0]) ∧ RAt w' B R ⟨o', m, u⟩ (L ++ [⟨o, n, d, k0⟩]) ∧ Below B w w' := by
  have h1' : (o != o') = false := by simpa using h1
  have h2' : (Sh.psz m n == 0) = false := by simpa using h2
  have h3' : ((d.size : Int) != Sh.psz m n) = false := by simpa using h3
  have h4' : ((Sh.sum d : Int) != k0) = false := by simpa using h4.symm
  have HH : Hid (∀ v : World, RAt v B R ⟨o', m, u⟩ L → Calls Tryd.prog 31 #[.pointer (some ⟨R, 0, none⟩), .int .i64 n] v fun e w' => e = .returned (.bool (Sh.hasL L n)) ∧ Below v.heap.size v w') := fun v hv => has_any B R _ L n v hv (by omega)
  have H5 : Hid (Sh.hasL L n = false) := h5
  clear h1 h2 h3 h4 h5
  have hmk := Sh.okM_size hm
  have hm1 : 1 ≤ m ∧ m ≤ 65535 := by obtain ⟨k, h1, h2, h3⟩ := hmk; simp at h1; omega
  unfold maxLen at hd
  have HB : Hid (B ≤ w.heap.size) := hB
  have ST0 : Hid (RSt (w.alloc (.cells #[.int .i64 o, .int .i64 n, .string d, .int .i64 k0] 34)) w B R w.heap.size ⟨o', m, u⟩ L o n d k0) := ⟨⟨hR.up (below_alloc _ _), below_alloc _ _⟩, by simp, by simp, by simp, by simp⟩
  have hP : Hid (∀ v : World, Calls Tryd.prog 30 #[.int .i64 m, .int .i64 n] v fun e w' => e = .returned (.int .i64 (Sh.psz m n)) ∧ w' = v) := fun v => length_any m n _ (by omega)
  have hS : Hid (∀ v : World, Calls Tryd.prog 28 #[.string d] v fun e w' => e = .returned (.int .i64 (Sh.sum d)) ∧ w' = v) := fun v => refSum_any d _ (by unfold maxLen; omega)
  obtain ⟨_, pw, cw, _, _, _, c3w, hroww⟩ := hR.open
  have HRWW : Hid (Row SE w B 34 (.slice pw L.length cw) L ∧ w.cell? ⟨R, 3, none⟩ = some (.slice pw L.length cw) ∧ R < w.heap.size) := ⟨hroww, c3w, World.block_lt_of_cell? _ _ c3w⟩
  clear hR hm hmk hB c3w hroww
  go_enter Tryd.func17, Tryd.ntmps17
  obtain ⟨X, hX⟩ : ∃ X, w.heap.size = X := ⟨_, rfl⟩
  have HX : Hid (w.heap.size = X) := hX
  go_wp2
  rw [hX] at ST0
  clear hX
  generalize w.alloc (.cells #[.int .i64 o, .int .i64 n, .string d, .int .i64 k0] 34) = V at *
  have sV := ST0
  clear ST0
  obtain ⟨d0, d1, d2, d3⟩ := sV.out.2
  obtain ⟨hRl, p, c, c0, c1, c2, c3, _⟩ := sV.out.1.1.open
  simp only at c0 c1 c2
  generalize Sh.psz m n = z at *
  generalize Sh.sum d = y at *
  go_quiet (fail)
  obtain ⟨V2, sV2, hV⟩ : ∃ V0, Hid (RSt V0 w B R X ⟨o', m, u⟩ L o n d k0) ∧ V.drewN nq = V0 := ⟨_, sV.out.drew nq, rfl⟩
  rw [hV]
  clear hV d0 d1 d2 d3 c0 c1 c2 c3 hRl sV
  obtain ⟨d0, d1, d2, d3⟩ := sV2.out.2
  obtain ⟨hRl, p, c, c0, c1, c2, c3, _⟩ := sV2.out.1.1.open
  simp only at c0 c1 c2
  go_wp2
  go_quiet ((go_at_call 30; exact Calls.quiet_of_same (hP.out _)))
  obtain ⟨V3, sV3, hV⟩ : ∃ V0, Hid (RSt V0 w B R X ⟨o', m, u⟩ L o n d k0) ∧ V2.drewN nq = V0 := ⟨_, sV2.out.drew nq, rfl⟩
  rw [hV]
  clear hV d0 d1 d2 d3 c0 c1 c2 c3 hRl sV2
  obtain ⟨d0, d1, d2, d3⟩ := sV3.out.2
  obtain ⟨hRl, p, c, c0, c1, c2, c3, _⟩ := sV3.out.1.1.open
  simp only at c0 c1 c2
  go_wp2
  go_quiet ((go_at_call 28; exact Calls.quiet_of_same (hS.out _)))
  obtain ⟨V4, sV4, hV⟩ : ∃ V0, Hid (RSt V0 w B R X ⟨o', m, u⟩ L o n d k0) ∧ V3.drewN nq = V0 := ⟨_, sV3.out.drew nq, rfl⟩
  rw [hV]
  clear hV d0 d1 d2 d3 c0 c1 c2 c3 hRl sV3
  obtain ⟨d0, d1, d2, d3⟩ := sV4.out.2
  obtain ⟨hRl, p, c, c0, c1, c2, c3, _⟩ := sV4.out.1.1.open
  simp only at c0 c1 c2
  go_wp2_with fail
  refine (HH.out _ sV4.out.1.1).mono ?_
  rintro e w5 ⟨rfl, hb5⟩
  rw [H5.out]
  have s5 : Hid (RSt w5 w B R X ⟨o', m, u⟩ L o n d k0) := sV4.out.up hb5
  clear hb5 d0 d1 d2 d3 c0 c1 c2 c3 sV4 hRl
  obtain ⟨e0, e1, e2, e3⟩ := s5.out.2
  obtain ⟨hRl5, p5, cp5, c0, c1, c2, c3, hrow5⟩ := s5.out.1.1.open
  have HRW : Hid (Row SE w5 B 34 (.slice p5 L.length cp5) L) := hrow5
  have hXl := World.block_lt_of_cell? _ _ e0
  have hBR : B ≤ R := s5.out.1.1.1
  have hpe : (Value.slice p5 L.length cp5) = .slice pw L.length cw := by
    have h := (s5.out.1.2.cell (p := ⟨R, 3, none⟩) HRWW.out.2.2).trans HRWW.out.2.1
    rw [c3] at h
    exact Option.some.inj h
  have HOB : Hid (∀ q, (Value.slice p5 L.length cp5).ownBlock = some q → B ≤ q ∧ q < X) := fun q hq => by
    rw [hpe] at hq
    have := HRWW.out.1.lt q hq
    rw [HX.out] at this
    exact this
  clear hpe
  obtain ⟨i0, hi, hz0, hz1, hz2⟩ := info_parts info_rsd
  clear hrow5 c0 c1 c2
  go_wp2
  have hS0 : w5.drew.cell? ⟨R, 3, none⟩ = some (.slice p5 L.length cp5) ∧ w5.drew.cell? ⟨X, 0, none⟩ = some (.int .i64 o) ∧ w5.drew.cell? ⟨X, 1, none⟩ = some (.int .i64 n) ∧ w5.drew.cell? ⟨X, 2, none⟩ = some (.string d) ∧ w5.drew.cell? ⟨X, 3, none⟩ = some (.int .i64 k0) := ⟨c3, e0, e1, e2, e3⟩
  refine Late.start (fun V => V.cell? ⟨R, 3, none⟩ = some (.slice p5 L.length cp5) ∧ V.cell? ⟨X, 0, none⟩ = some (.int .i64 o) ∧ V.cell? ⟨X, 1, none⟩ = some (.int .i64 n) ∧ V.cell? ⟨X, 2, none⟩ = some (.string d) ∧ V.cell? ⟨X, 3, none⟩ = some (.int .i64 k0)) 10 (by kernel_rfl) ?_
  refine Late.take 0 (.pointer (some ⟨R, 0, none⟩)) rfl (by kernel_rfl) (by kernel_rfl) (by kernel_rfl) (by kernel_rfl) rfl (fun V hV => by obtain ⟨hV1, hV2, hV3, hV4, hV5⟩ := hV; go_simp) hS0 ?_
  refine Late.take 1 (.pointer (some ⟨R, 0, none⟩)) rfl (by kernel_rfl) (by kernel_rfl) (by kernel_rfl) (by kernel_rfl) rfl (fun V hV => by obtain ⟨hV1, hV2, hV3, hV4, hV5⟩ := hV; go_simp) hS0 ?_
  refine Late.take 2 (.pointer (some ⟨R, 0, none⟩)) rfl (by kernel_rfl) (by kernel_rfl) (by kernel_rfl) (by kernel_rfl) rfl (fun V hV => by obtain ⟨hV1, hV2, hV3, hV4, hV5⟩ := hV; go_simp) hS0 ?_
  refine Late.take 3 (.pointer (some ⟨R, 3, none⟩)) rfl (by kernel_rfl) (by kernel_rfl) (by kernel_rfl) (by kernel_rfl) rfl (fun V hV => by obtain ⟨hV1, hV2, hV3, hV4, hV5⟩ := hV; go_simp) hS0 ?_
  refine Late.take 4 (.slice p5 L.length cp5) rfl (by kernel_rfl) (by kernel_rfl) (by kernel_rfl) (by kernel_rfl) rfl (fun V hV => by obtain ⟨hV1, hV2, hV3, hV4, hV5⟩ := hV; go_simp) hS0 ?_
  refine Late.take 5 (.agg #[.int .i64 o, .int .i64 n, .string d, .int .i64 k0]) rfl (by kernel_rfl) (by kernel_rfl) (by kernel_rfl) (by kernel_rfl) rfl (fun V hV => by obtain ⟨hV1, hV2, hV3, hV4, hV5⟩ := hV; go_simp) hS0 ?_
  refine Late.one 6 rfl (by kernel_rfl) rfl ?_
  simp only [List.getElem_toArray, List.getElem_cons_succ, List.getElem_cons_zero]
  go_simp
  have hb6 : Below w5.heap.size w5 (w5.alloc (.cells #[.int .i64 o, .int .i64 n, .string d, .int .i64 k0] 34)).drew := Go.below_drewN (below_alloc w5 _) 1
  have s6 : Hid (RSt (w5.alloc (.cells #[.int .i64 o, .int .i64 n, .string d, .int .i64 k0] 34)).drew w B R X ⟨o', m, u⟩ L o n d k0) := s5.out.up hb6
  have HRW6 : Hid (Row SE (w5.alloc (.cells #[.int .i64 o, .int .i64 n, .string d, .int .i64 k0] 34)).drew B 34 (.slice p5 L.length cp5) L) := HRW.out.up hb6
  have HAT : Hid (At SE (fun _ => True) (w5.alloc (.cells #[.int .i64 o, .int .i64 n, .string d, .int .i64 k0] 34)).drew (.slice (some ⟨w5.heap.size, 0, none⟩) 1 1) [⟨o, n, d, k0⟩]) := one_sd w5 ⟨o, n, d, k0⟩ _ rfl _
  have hc36 : (w5.alloc (.cells #[.int .i64 o, .int .i64 n, .string d, .int .i64 k0] 34)).drew.cell? ⟨R, 3, none⟩ = some (.slice p5 L.length cp5) := (hb6.cell (p := ⟨R, 3, none⟩) hRl5).trans c3
  have hB6 : B ≤ (w5.alloc (.cells #[.int .i64 o, .int .i64 n, .string d, .int .i64 k0] 34)).drew.heap.size := by have := s5.out.1.2.size; have := HB.out; simp; omega
  have hR6 : R < (w5.alloc (.cells #[.int .i64 o, .int .i64 n, .string d, .int .i64 k0] 34)).drew.heap.size := by simp; omega
  have hX6 : X < (w5.alloc (.cells #[.int .i64 o, .int .i64 n, .string d, .int .i64 k0] 34)).drew.heap.size := by simp; omega
  clear hb6 HRW s5
  obtain ⟨W6, hW6⟩ : ∃ W6, (w5.alloc (.cells #[.int .i64 o, .int .i64 n, .string d, .int .i64 k0] 34)).drew = W6 := ⟨_, rfl⟩
  rw [hW6] at s6 HRW6 HAT hc36 hB6 hR6 hX6 ⊢
  clear hW6 hS0
  refine Late.one 7 rfl (by kernel_rfl) rfl ?_
  simp only [List.getElem_toArray, List.getElem_cons_succ, List.getElem_cons_zero]
  refine wp_row (.tmp 46) (.tmp 48) 30 rfl SE (fun _ => True) B 34 i0 _ 40 Tryd.underlying30 hi hz0 hz1 hz2 rfl (.slice p5 L.length cp5) L (by simp [Act.eval]) HRW6.out (.slice (some ⟨w5.heap.size, 0, none⟩) 1 1) [⟨o, n, d, k0⟩] (by simp [Act.eval]) HAT.out (by unfold maxLen; simp; omega) (by simp; omega) hB6 ?_
  intro v7 w7 hrow7 hg7
  obtain ⟨p7, c7, hv7⟩ := hrow7.slice
  subst hv7
  have hRn : ¬ some R = (Value.slice p5 L.length cp5).ownBlock := fun h => by
    have := HOB.out R h.symm
    rcases HRW6.out with ⟨hv, _⟩ | ⟨g, cap, cur, hv, _, hh, _⟩
    · rw [hv] at h
      cases h
    · rw [hv] at h
      simp [Value.ownBlock] at h
      obtain ⟨_, v9, hb9, _⟩ := s6.out.1.1
      rw [h, hh] at hb9
      cases hb9
  have hXn : ¬ some X = (Value.slice p5 L.length cp5).ownBlock := fun h => by have := HOB.out X h.symm; omega
  have kR : ∀ j, w7.cell? ⟨R, j, none⟩ = W6.cell? ⟨R, j, none⟩ := fun j => cell_block (p := ⟨R, j, none⟩) (hg7.block R hR6 hRn)
  have kX : ∀ j, w7.cell? ⟨X, j, none⟩ = W6.cell? ⟨X, j, none⟩ := fun j => cell_block (p := ⟨X, j, none⟩) (hg7.block X hX6 hXn)
  have hbR : w7.heap[R]? = W6.heap[R]? := hg7.block R hR6 hRn
  have hS7 : w7.cell? ⟨R, 3, none⟩ = some (.slice p5 L.length cp5) ∧ w7.cell? ⟨X, 0, none⟩ = some (.int .i64 o) ∧ w7.cell? ⟨X, 1, none⟩ = some (.int .i64 n) ∧ w7.cell? ⟨X, 2, none⟩ = some (.string d) ∧ w7.cell? ⟨X, 3, none⟩ = some (.int .i64 k0) := by
    rw [kR, kX, kX, kX, kX]
    exact ⟨hc36, s6.out.2⟩
  have HB7 : Hid (Below B w w7) := (s6.out.1.2.mono HB.out).grown hg7 hB6 (fun j hj => (HOB.out j hj).1)
  have HRB : Hid (∃ v, w7.heap[R]? = some (.cells #[.int .i64 o', .int .i64 m, .int .i64 u, v] 45 (0, 0))) := by
    obtain ⟨_, v9, hb9, _⟩ := s6.out.1.1
    exact ⟨v9, hbR.trans hb9⟩
  have HRW7 : Hid (Row SE w7 B 34 (.slice p7 (L ++ [(⟨o, n, d, k0⟩ : Sh.Sd)]).length c7) (L ++ [⟨o, n, d, k0⟩])) := hrow7
  have c37 := hS7.1
  have f37 : w7.frozen? ⟨R, 3, none⟩ = false := by obtain ⟨v9, hb9⟩ := HRB.out; simp [World.frozen?, hb9]
  refine ⟨fun _ => hS7, ?_⟩
  clear kR kX hbR hrow7 hg7 hc36
  obtain ⟨q0, q1, q2, q3, q4⟩ := hS7
  refine Late.one 8 rfl (by kernel_rfl) rfl ?_
  simp only [List.getElem_toArray, List.getElem_cons_succ, List.getElem_cons_zero]
  go_simp
  refine Late.one 9 rfl (by kernel_rfl) rfl ?_
  simp only [List.getElem_toArray, List.getElem_cons_succ, List.getElem_cons_zero]
  go_simp
  clear q1 q2 q3 q4
  refine Late.one 10 rfl (by kernel_rfl) rfl ?_
  simp only [List.getElem_toArray, List.getElem_cons_succ, List.getElem_cons_zero]
  go_simp
  refine Late.done (by kernel_rfl) ?_
  simp only [Exit.then]
  go_wp2
  go_ret2
  refine ⟨rfl, ⟨hBR, .slice p7 (L ++ [(⟨o, n, d, k0⟩ : Sh.Sd)]).length c7, ?_, ?_⟩, ?_⟩
  · obtain ⟨v9, hb9⟩ := HRB.out
    simp [World.setCell, Array.getElem?_modify, hb9]
  · refine HRW7.out.kept (grown_setCell w7 R 3 _) ?_
    cases hq : (Value.slice p7 (L ++ [(⟨o, n, d, k0⟩ : Sh.Sd)]).length c7).ownBlock with
    | none => exact .inl rfl
    | some q =>
      right
      intro e
      cases e
      rcases HRW7.out with ⟨hv, _⟩ | ⟨g, cap, cur, hv, _, hh, _⟩
      · rw [hv] at hq
        cases hq
      · rw [hv] at hq
        simp [Value.ownBlock] at hq
        obtain ⟨v9, hb9⟩ := HRB.out
        rw [← hq, hh] at hb9
        cases hb9
  · exact HB7.out.setCell hBR _
def Sh.addL (m : Sh.Mf) (L : List Sh.Sd) (s : Sh.Sd) : List Sh.Sd := if Sh.addB m (Sh.gat L) s then L ++ [s] else L
theorem Sh.addL_gat {m : Sh.Mf} {L : List Sh.Sd} {s : Sh.Sd} (i : Nat) : Sh.gat (Sh.addL m L s) i = Sh.addF m (Sh.gat L) s i := by
  unfold Sh.addL Sh.addF
  cases hb : Sh.addB m (Sh.gat L) s with
  | false => rfl
  | true =>
    have hb2 := hb
    unfold Sh.addB at hb2
    simp only [Bool.and_eq_true, decide_eq_true_eq] at hb2
    obtain ⟨_, h2, _, _⟩ := Sh.addE_zero hb2.1
    have hn := Classical.not_not.1 (mt Sh.psz_zero.2 h2)
    have h0 := hb2.2
    rw [Sh.gat_size] at h0
    have hnil := List.eq_nil_of_length_eq_zero h0
    rw [if_pos rfl, if_pos rfl]
    apply Sh.ba_ext
    rw [Sh.gat_list, Sh.gatL_append, Sh.gatL_one]
    by_cases e : i = s.number.toNat
    · subst e
      rw [if_pos (by omega), if_pos rfl, hnil, List.nil_append]
    · rw [if_neg (by omega), if_neg e, List.append_nil, ← Sh.gat_list]
theorem Sh.addL_ne {m : Sh.Mf} {L : List Sh.Sd} {s : Sh.Sd} (h : ∀ t ∈ L, t.data.size ≠ 0) : ∀ t ∈ Sh.addL m L s, t.data.size ≠ 0 := by
  unfold Sh.addL
  cases hb : Sh.addB m (Sh.gat L) s with
  | false => exact h
  | true =>
    intro t ht
    rcases List.mem_append.1 ht with ht | ht
    · exact h t ht
    · obtain rfl : t = s := by simpa using ht
      unfold Sh.addB at hb
      simp only [Bool.and_eq_true, decide_eq_true_eq] at hb
      obtain ⟨_, h2, h3, _⟩ := Sh.addE_zero hb.1
      omega
theorem Sh.addL_len (m : Sh.Mf) (L : List Sh.Sd) (s : Sh.Sd) : (Sh.addL m L s).length ≤ L.length + 1 := by
  unfold Sh.addL
  split <;> simp
/-- Add, whatever is handed in. -/
theorem radd_any (B R : Nat) (m : Sh.Mf) (s : Sh.Sd) (L : List Sh.Sd) (w : World) (hR : RAt w B R m L) (hB : B ≤ w.heap.size) (hL : L.length ≤ 200) (hm : Sh.okM m = true) (hd : s.data.size ≤ maxLen) (hne : ∀ t ∈ L, t.data.size ≠ 0) :
    Calls Tryd.prog 17 #[.pointer (some ⟨R, 0, none⟩), s.val] w fun e w' => e = .returned (.tuple #[.bool (Sh.addB m (Sh.gat L) s), .int .i64 (Sh.addE m (Sh.gat L) s)]) ∧ RAt w' B R m (Sh.addL m L s) ∧ Below B w w' := by
  have hLn : Sh.addB m (Sh.gat L) s = false → Sh.addL m L s = L := fun h => by unfold Sh.addL; rw [h]; rfl
  have hLy : Sh.addB m (Sh.gat L) s = true → Sh.addL m L s = L ++ [s] := fun h => by unfold Sh.addL; rw [h]; rfl
  obtain ⟨k, hk, hk1, hk2⟩ := Sh.okM_size hm
  obtain ⟨o', n', u⟩ := m
  obtain ⟨o, n, d, k0⟩ := s
  simp only at hk hd
  subst hk
  unfold Sh.Sd.val
  by_cases h1 : o = o'
  · by_cases h2 : Sh.psz k n = 0
    · have hE : Sh.addE ⟨o', k, u⟩ (Sh.gat L) ⟨o, n, d, k0⟩ = 4 := by unfold Sh.addE; simp [h1, h2]
      have hb := sameB (m := ⟨o', k, u⟩) (f := Sh.gat L) (s := ⟨o, n, d, k0⟩) (by rw [hE]; decide)
      rw [hLn hb, hE, hb]
      exact radd_none B R o n u k0 k d o' L w hR hB hL hm hd h1 h2
    · by_cases h3 : (d.size : Int) = Sh.psz k n
      · by_cases h4 : k0 = (Sh.sum d : Int)
        · have hE : Sh.addE ⟨o', k, u⟩ (Sh.gat L) ⟨o, n, d, k0⟩ = 0 := by unfold Sh.addE; simp [h1, h2, h3, h4]
          have hn := Classical.not_not.1 (mt Sh.psz_zero.2 h2)
          have hh := Sh.has_gat hne n.toNat
          rw [show ((n.toNat : Nat) : Int) = n from by omega] at hh
          by_cases h5 : (Sh.gat L n.toNat).size = 0
          · have hb : Sh.addB ⟨o', k, u⟩ (Sh.gat L) ⟨o, n, d, k0⟩ = true := by unfold Sh.addB; rw [hE]; simp [h5]
            rw [hLy hb, hE, hb]
            exact radd_new B R o n u k0 k d o' L w hR hB hL hm hd h1 h2 h3 h4 (by rw [hh]; simp [h5])
          · have hb : Sh.addB ⟨o', k, u⟩ (Sh.gat L) ⟨o, n, d, k0⟩ = false := by unfold Sh.addB; rw [hE]; simp [h5]
            rw [hLn hb, hE, hb]
            exact radd_have B R o n u k0 k d o' L w hR hB hL hm hd h1 h2 h3 h4 (by rw [hh]; simp [h5])
        · have hE : Sh.addE ⟨o', k, u⟩ (Sh.gat L) ⟨o, n, d, k0⟩ = 20 := by unfold Sh.addE; simp [h1, h2, h3, h4]
          have hb := sameB (m := ⟨o', k, u⟩) (f := Sh.gat L) (s := ⟨o, n, d, k0⟩) (by rw [hE]; decide)
          rw [hLn hb, hE, hb]
          exact radd_sum B R o n u k0 k d o' L w hR hB hL hm hd h1 h2 h3 h4
      · have hE : Sh.addE ⟨o', k, u⟩ (Sh.gat L) ⟨o, n, d, k0⟩ = 4 := by unfold Sh.addE; simp [h1, h3]
        have hb := sameB (m := ⟨o', k, u⟩) (f := Sh.gat L) (s := ⟨o, n, d, k0⟩) (by rw [hE]; decide)
        rw [hLn hb, hE, hb]
        exact radd_size B R o n u k0 k d o' L w hR hB hL hm hd h1 h2 h3
  · have hE : Sh.addE ⟨o', k, u⟩ (Sh.gat L) ⟨o, n, d, k0⟩ = 190 := by unfold Sh.addE; simp [h1]
    have hb := sameB (m := ⟨o', k, u⟩) (f := Sh.gat L) (s := ⟨o, n, d, k0⟩) (by rw [hE]; decide)
    rw [hLn hb, hE, hb]
    exact radd_mixed B R o n u k0 k d o' L w hR hB hL hm hd h1
end Go.Proofs.YtceeafmahoelfaaDoor
