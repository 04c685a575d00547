/-
  slices.Grow at nil, slices.Concat of three lists: what they answer.
-/
import Derived.Test.YtaojdndhhgmdmaaPlace
import Derived.Lib.AppendZeros
namespace Go.Proofs.Ytaojdndhhgmdmaa
open Go.ChangeShapes Go.WideShapes Go.ChangeAt Go.RowKit Go.Deep
theorem wpList_app {P : Program} {w w' : World} {ops : Array Oper} {rest : List Oper} {o : Oper} {a : Act} {Q : Exit → Act → World → Prop} (hgd : o.guard = none) (s x : Operand) (t tn : TypeId)
    (ho : o.op = .call { callee := .builtin .append, args := #[s, x], argTypes := #[t, tn] }) {v xv v' : Value} (hv : a.eval s = v) (hxv : a.eval x = xv) (hr : ∀ ty, (Builtin.append_ #[t, tn] ty #[v, xv]).run P w = .ok v' w')
    (h : wpList P ops Q rest (a.put o.dst v') w') : wpList P ops Q (o :: rest) a w :=
  wpList_plain hgd fun _ hK => by
    unfold Oper.wp execOp
    simp only [ho, resolve, invoke, builtin, Sem.run_bind, Sem.run_pure, Result.andThen_ok, List.map_toArray, List.map_cons, List.map_nil, hv, hxv, hr]
    exact hK _ _ h
theorem grow_nil (n : Nat) (hn : n ≤ 4398046511104) (w : World) : Calls Try.prog 26 #[.slice none 0 0, .int .i64 n] w fun e w' => ∃ v, e = .returned v ∧ Row ES w' w.heap.size 48 v [] ∧ Below w.heap.size w w' := by
  by_cases h0 : n = 0
  · subst h0
    go_enter Try.func26, Try.ntmps26
    go_wp2
    go_ret
    exact ⟨_, rfl, Row.nil _ _ _ _, Below.refl _ _⟩
  · obtain ⟨j0, hj, hy0, hy1, hy2⟩ := info_parts infoS
    have happ := fun ty => Lib.run_append_nil_zeros (P := Try.prog) w 22 3 ty 48 j0 _ .i64 .i64 Try.underlying22 Try.underlying3 hj hy0 n (by omega) (by rw [hy1]; decide) (by omega) (by rw [hy2]; omega)
    have hge := grownCap_ge w n 0 48
    have hcm : grownCap w n 0 48 ≤ maxLen := grownCap_le_maxLen w n 0 48 (by unfold maxLen; omega)
    have hcs : (Builtin.zeroCells (Value.agg #[.int .i64 0, .int .i64 0, .string ⟨#[]⟩]).cells n ++ Builtin.zeroCells (Value.agg #[.int .i64 0, .int .i64 0, .string ⟨#[]⟩]).cells (grownCap w n 0 48 - n)).size = grownCap w n 0 48 * 3 := by
      rw [Array.size_append, size_zeroCells, size_zeroCells, show (Value.agg #[.int .i64 0, .int .i64 0, .string ⟨#[]⟩]).cells.size = 3 from rfl]
      omega
    generalize (Builtin.zeroCells (Value.agg #[.int .i64 0, .int .i64 0, .string ⟨#[]⟩]).cells n ++ Builtin.zeroCells (Value.agg #[.int .i64 0, .int .i64 0, .string ⟨#[]⟩]).cells (grownCap w n 0 48 - n)) = cur at happ hcs
    generalize grownCap w n 0 48 = C at happ hge hcm hcs
    have hn0 : 0 < (n : Int) := by omega
    have HEND : Hid (Row ES (w.drew.alloc (.cells cur 48)) w.heap.size 48 (.slice (some ⟨w.heap.size, 0, none⟩) 0 C) []) := .inr ⟨w.heap.size, C, cur, rfl, Nat.le_refl _, heap_alloc_new w.drew _, Nat.zero_le _, hcm, by rw [hcs]; exact Nat.le_refl _, by simp [Enc.flat]⟩
    unfold maxLen at hcm
    have HAPP : Hid (∀ ty, (Builtin.append_ #[22, 3] ty #[.slice none 0 0, .int .i64 n]).run Try.prog w = .ok (.slice (some ⟨w.heap.size, 0, none⟩) n C) (w.drew.alloc (.cells cur 48))) := happ
    clear hj hy0 hy1 hy2 h0 hcs happ
    go_enter Try.func26, Try.ntmps26
    go_wp2_with (at_builtin; refine wpList_app rfl _ _ 22 3 rfl rfl rfl HAPP.out ?_)
    go_ret
    exact ⟨_, rfl, HEND.out, ⟨rfl, rfl, rfl, by simp, fun k hk => Below.heap_alloc w.drew _ k hk⟩⟩
set_option maxHeartbeats 2000000 in
theorem concat_three (g : Nat) (v1 v2 v3 : Value) (l1 l2 l3 : List Sea) (w : World) (hg : g < w.heap.size) (c0 : w.cell? ⟨g, 0, none⟩ = some v1) (c1 : w.cell? ⟨g, 1, none⟩ = some v2) (c2 : w.cell? ⟨g, 2, none⟩ = some v3) (h1 : AtW ES w v1 l1) (h2 : AtW ES w v2 l2) (h3 : AtW ES w v3 l3) (hl : l1.length + l2.length + l3.length ≤ 2199023255552) :
    Calls Try.prog 20 #[.slice (some ⟨g, 0, none⟩) 3 3] w fun e w' => ∃ u, e = .returned u ∧ Row ES w' w.heap.size 48 u (l1 ++ l2 ++ l3) ∧ Below w.heap.size w w' := by
  have H1 : Hid (At ES (fun b => b < w.heap.size) w v1 l1) := h1.imp fun b _ hb => hb
  have H2 : Hid (At ES (fun b => b < w.heap.size) w v2 l2) := h2.imp fun b _ hb => hb
  have H3 : Hid (At ES (fun b => b < w.heap.size) w v3 l3) := h3.imp fun b _ hb => hb
  obtain ⟨a1, q1, rfl, -, -⟩ := h1.open
  obtain ⟨a2, q2, rfl, -, -⟩ := h2.open
  obtain ⟨a3, q3, rfl, -, -⟩ := h3.open
  clear h1 h2 h3
  obtain ⟨n1, hn1⟩ : ∃ n, l1.length = n := ⟨_, rfl⟩
  obtain ⟨n2, hn2⟩ : ∃ n, l2.length = n := ⟨_, rfl⟩
  obtain ⟨n3, hn3⟩ : ∃ n, l3.length = n := ⟨_, rfl⟩
  rw [hn1, hn2, hn3] at hl
  rw [hn1] at c0 H1
  rw [hn2] at c1 H2
  rw [hn3] at c2 H3
  have HN : Hid (l1.length = n1 ∧ l2.length = n2 ∧ l3.length = n3) := ⟨hn1, hn2, hn3⟩
  clear hn1 hn2 hn3
  obtain ⟨j0, hj, hy0, hy1, hy2⟩ := info_parts infoS
  go_enter Try.func20, Try.ntmps20
  go_wp2
  refine wp_loop_rounds 4 ?_
  rw [rounds_succ]
  go_wp2
  rw [rounds_succ]
  go_wp2
  rw [rounds_succ]
  go_wp2
  rw [rounds_succ]
  go_wp2_with fail
  rw [show (n1 : Int) + (n2 : Int) + (n3 : Int) = ((n1 + n2 + n3 : Nat) : Int) by omega]
  refine (grow_nil (n1 + n2 + n3) (by omega) _).mono ?_
  rintro e w1 ⟨u1, rfl, hr1, hb1⟩
  have HB1 : Hid (Below w.heap.size w w1) := hb1
  have HR1 : Hid (Row ES w1 w.heap.size 48 u1 []) := hr1
  have d0 := cell_next c0 hb1 hg
  have H1' : Hid (At ES (fun b => b < w.heap.size) w1 (.slice a1 n1 q1) l1) := H1.out.up hb1
  have hs1 := hb1.size
  clear hb1 hr1 H1
  go_wp2
  refine wp_loop_rounds 4 ?_
  rw [rounds_succ]
  go_wp2_with (at_builtin; refine wpList_row _ rfl _ _ 22 rfl ES (fun b => b < w.heap.size) w.heap.size 48 j0 _ 32 Try.underlying22 hj hy0 hy1 hy2 rfl _ [] rfl HR1.out _ l1 rfl H1'.out (by have := HN.out; unfold maxLen; simp only [List.length_nil]; omega) (by have := HN.out; simp only [List.length_nil]; omega) (by omega) ?_; intro v7 w7 hrow7 hg7 hloc7)
  have HB7 : Hid (Below w.heap.size w w7) := HB1.out.grown hg7 hs1 (fun k hk => (HR1.out.lt k hk).1)
  have HR7 : Hid (Row ES w7 w.heap.size 48 v7 l1) := by show Row ES w7 w.heap.size 48 v7 l1; simpa using hrow7
  have d1 := cell_next c1 HB7.out hg
  have H2' : Hid (At ES (fun b => b < w.heap.size) w7 (.slice a2 n2 q2) l2) := H2.out.up HB7.out
  have hs7 := HB7.out.size
  clear hrow7 hg7 hloc7 d0
  rw [rounds_succ]
  go_wp2_with (at_builtin; refine wpList_row _ rfl _ _ 22 rfl ES (fun b => b < w.heap.size) w.heap.size 48 j0 _ 32 Try.underlying22 hj hy0 hy1 hy2 rfl _ l1 rfl HR7.out _ l2 rfl H2'.out (by have := HN.out; unfold maxLen; omega) (by have := HN.out; omega) (by omega) ?_; intro v8 w8 hrow8 hg8 hloc8)
  have HB8 : Hid (Below w.heap.size w w8) := HB7.out.grown hg8 hs7 (fun k hk => (HR7.out.lt k hk).1)
  have HR8 : Hid (Row ES w8 w.heap.size 48 v8 (l1 ++ l2)) := hrow8
  have d2 := cell_next c2 HB8.out hg
  have H3' : Hid (At ES (fun b => b < w.heap.size) w8 (.slice a3 n3 q3) l3) := H3.out.up HB8.out
  have hs8 := HB8.out.size
  clear hrow8 hg8 hloc8 d1
  rw [rounds_succ]
  go_wp2_with (at_builtin; refine wpList_row _ rfl _ _ 22 rfl ES (fun b => b < w.heap.size) w.heap.size 48 j0 _ 32 Try.underlying22 hj hy0 hy1 hy2 rfl _ (l1 ++ l2) rfl HR8.out _ l3 rfl H3'.out (by have := HN.out; unfold maxLen; rw [List.length_append]; omega) (by have := HN.out; rw [List.length_append]; omega) (by omega) ?_; intro v9 w9 hrow9 hg9 hloc9)
  have HB9 : Hid (Below w.heap.size w w9) := HB8.out.grown hg9 hs8 (fun k hk => (HR8.out.lt k hk).1)
  have HR9 : Hid (Row ES w9 w.heap.size 48 v9 (l1 ++ l2 ++ l3)) := hrow9
  clear hrow9 hg9 hloc9
  rw [rounds_succ]
  go_wp2
  go_ret
  exact ⟨_, rfl, HR9.out, HB9.out⟩
set_option maxHeartbeats 2000000 in
theorem concat_two (g : Nat) (v1 v2 : Value) (l1 l2 : List Sea) (w : World) (hg : g < w.heap.size) (c0 : w.cell? ⟨g, 0, none⟩ = some v1) (c1 : w.cell? ⟨g, 1, none⟩ = some v2) (h1 : AtW ES w v1 l1) (h2 : AtW ES w v2 l2) (hl : l1.length + l2.length ≤ 2199023255552) :
    Calls Try.prog 20 #[.slice (some ⟨g, 0, none⟩) 2 2] w fun e w' => ∃ u, e = .returned u ∧ Row ES w' w.heap.size 48 u (l1 ++ l2) ∧ Below w.heap.size w w' := by
  have H1 : Hid (At ES (fun b => b < w.heap.size) w v1 l1) := h1.imp fun b _ hb => hb
  have H2 : Hid (At ES (fun b => b < w.heap.size) w v2 l2) := h2.imp fun b _ hb => hb
  obtain ⟨a1, q1, rfl, -, -⟩ := h1.open
  obtain ⟨a2, q2, rfl, -, -⟩ := h2.open
  clear h1 h2
  obtain ⟨n1, hn1⟩ : ∃ n, l1.length = n := ⟨_, rfl⟩
  obtain ⟨n2, hn2⟩ : ∃ n, l2.length = n := ⟨_, rfl⟩
  rw [hn1, hn2] at hl
  rw [hn1] at c0 H1
  rw [hn2] at c1 H2
  have HN : Hid (l1.length = n1 ∧ l2.length = n2) := ⟨hn1, hn2⟩
  clear hn1 hn2
  obtain ⟨j0, hj, hy0, hy1, hy2⟩ := info_parts infoS
  go_enter Try.func20, Try.ntmps20
  go_wp2
  refine wp_loop_rounds 3 ?_
  rw [rounds_succ]
  go_wp2
  rw [rounds_succ]
  go_wp2
  rw [rounds_succ]
  go_wp2_with fail
  rw [show (n1 : Int) + (n2 : Int) = ((n1 + n2 : Nat) : Int) by omega]
  refine (grow_nil (n1 + n2) (by omega) _).mono ?_
  rintro e w1 ⟨u1, rfl, hr1, hb1⟩
  have HB1 : Hid (Below w.heap.size w w1) := hb1
  have HR1 : Hid (Row ES w1 w.heap.size 48 u1 []) := hr1
  have d0 := cell_next c0 hb1 hg
  have H1' : Hid (At ES (fun b => b < w.heap.size) w1 (.slice a1 n1 q1) l1) := H1.out.up hb1
  have hs1 := hb1.size
  clear hb1 hr1 H1
  go_wp2
  refine wp_loop_rounds 3 ?_
  rw [rounds_succ]
  go_wp2_with (at_builtin; refine wpList_row _ rfl _ _ 22 rfl ES (fun b => b < w.heap.size) w.heap.size 48 j0 _ 32 Try.underlying22 hj hy0 hy1 hy2 rfl _ [] rfl HR1.out _ l1 rfl H1'.out (by have := HN.out; unfold maxLen; simp only [List.length_nil]; omega) (by have := HN.out; simp only [List.length_nil]; omega) (by omega) ?_; intro v7 w7 hrow7 hg7 hloc7)
  have HB7 : Hid (Below w.heap.size w w7) := HB1.out.grown hg7 hs1 (fun k hk => (HR1.out.lt k hk).1)
  have HR7 : Hid (Row ES w7 w.heap.size 48 v7 l1) := by show Row ES w7 w.heap.size 48 v7 l1; simpa using hrow7
  have d1 := cell_next c1 HB7.out hg
  have H2' : Hid (At ES (fun b => b < w.heap.size) w7 (.slice a2 n2 q2) l2) := H2.out.up HB7.out
  have hs7 := HB7.out.size
  clear hrow7 hg7 hloc7 d0
  rw [rounds_succ]
  go_wp2_with (at_builtin; refine wpList_row _ rfl _ _ 22 rfl ES (fun b => b < w.heap.size) w.heap.size 48 j0 _ 32 Try.underlying22 hj hy0 hy1 hy2 rfl _ l1 rfl HR7.out _ l2 rfl H2'.out (by have := HN.out; unfold maxLen; omega) (by have := HN.out; omega) (by omega) ?_; intro v8 w8 hrow8 hg8 hloc8)
  have HB8 : Hid (Below w.heap.size w w8) := HB7.out.grown hg8 hs7 (fun k hk => (HR7.out.lt k hk).1)
  have HR8 : Hid (Row ES w8 w.heap.size 48 v8 (l1 ++ l2)) := hrow8
  have hs8 := HB8.out.size
  clear hrow8 hg8 hloc8 d1
  rw [rounds_succ]
  go_wp2
  go_ret
  exact ⟨_, rfl, HR8.out, HB8.out⟩
theorem At.cut {α : Type} {E : Enc α} {S : Nat → Prop} {w : World} {ao : Option Addr} {m cap : Nat} {l : List α} (h : At E S w (.slice ao m cap) l) {lo hi : Nat} (h1 : lo ≤ hi) (h2 : hi ≤ m) : At E S w (sliced ao lo hi cap E.sz) ((l.take hi).drop lo) := by
  by_cases he : hi = lo
  · have hz : (l.take hi).drop lo = [] := by
      apply List.eq_nil_of_length_eq_zero
      simp
      omega
    unfold sliced
    rw [hz, show hi - lo = 0 by omega]
    exact .inl ⟨_, _, rfl, rfl⟩
  · rcases h with ⟨ao, c, hv, rfl⟩ | ⟨b, off, c', hv, hS, hb, hp, hc, hm, hx⟩
    · simp only [Value.slice.injEq] at hv
      omega
    · simp only [Value.slice.injEq] at hv
      obtain ⟨rfl, rfl, rfl⟩ := hv
      have hlen : ((l.take hi).drop lo).length = hi - lo := by simp; omega
      refine .inr ⟨b, off + lo * E.sz, cap - lo, ?_, hS, hb, by omega, by omega, by omega, fun j u hj => ?_⟩
      · rw [hlen]
        unfold sliced
        rw [if_neg (by omega)]
        simp [WideShapes.add_plain]
      · have e : l = l.take lo ++ ((l.take hi).drop lo ++ l.drop hi) := by
          have e1 : l.take lo = (l.take hi).take lo := by rw [List.take_take, Nat.min_eq_left h1]
          rw [← List.append_assoc, e1, List.take_append_drop, List.take_append_drop]
        have hlt := (List.getElem?_eq_some_iff.1 hj).1
        have hl0 : (E.flat (l.take lo)).length = lo * E.sz := by rw [E.flat_length, List.length_take, Nat.min_eq_left (by omega)]
        have := hx (lo * E.sz + j) u (by
          rw [e, E.flat_append, E.flat_append, List.getElem?_append_right (by omega), hl0, show lo * E.sz + j - lo * E.sz = j by omega, List.getElem?_append_left hlt]
          exact hj)
        rwa [← Nat.add_assoc] at this
theorem run_cut_h (w : World) (a : Option Addr) (m cap k : Nat) (hk : k ≤ cap) : (Instr.slice 22 (.slice a m cap) none (some (.int .i64 (k : Int))) none).run Try.prog w = .ok (sliced a 0 k cap ES.sz) w := by
  rw [run_slice_h (P := Try.prog) w 22 a m cap Try.underlying22 .i64 (k : Int) (by omega) (by omega)]
  rfl
theorem run_cut_l (w : World) (a : Option Addr) (m cap k : Nat) (hk : k ≤ m) : (Instr.slice 22 (.slice a m cap) (some (.int .i64 (k : Int))) none none).run Try.prog w = .ok (sliced a k m cap ES.sz) w := by
  rw [run_slice_l (P := Try.prog) w 22 a m cap Try.underlying22 .i64 (k : Int) (by omega) (by omega), show ((k : Int)).toNat = k by omega]
  rfl
theorem Row.slice3 {α : Type} {E : Enc α} {w : World} {B : Nat} {e : TypeId} {v : Value} {ls : List α} (h : Row E w B e v ls) : ∃ p n c, v = .slice p n c := by
  obtain ⟨p, c, h⟩ := h.slice
  exact ⟨p, _, c, h⟩
theorem At.capd {α : Type} {E : Enc α} {S : Nat → Prop} {w : World} {a : Option Addr} {m cap : Nat} {l : List α} (h : At E S w (.slice a m cap) l) (h0 : 0 < m) : m ≤ cap ∧ cap ≤ maxLen := by
  rcases h with ⟨ao, c, hv, rfl⟩ | ⟨b', off', c', hv, hS, hb, hp, hc, hm, hx⟩
  · simp only [Value.slice.injEq] at hv
    omega
  · simp only [Value.slice.injEq] at hv
    omega
end Go.Proofs.Ytaojdndhhgmdmaa
