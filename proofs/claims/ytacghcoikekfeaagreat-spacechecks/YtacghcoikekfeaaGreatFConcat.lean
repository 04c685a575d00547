/-
  slices.Grow at nil, slices.Concat of two lists: what they answer.
-/
import Derived.Test.YtacghcoikekfeaaGreatFFindB
import Derived.Lib.AppendZeros
namespace Go.Proofs.YtacghcoikekfeaaGreat
open Go.ChangeShapes Go.WideShapes Go.ChangeAt Go.RowKit Go.Deep
set_option maxRecDepth 100000
theorem finfoE : (Tryz.prog.info? 69).map (fun i => (i.zero, i.size, i.bytes)) = some (some (.agg #[.string ⟨#[]⟩, .int .i64 0, .int .i64 0, .int .i64 0]), 4, 40) := by kernel_rfl
theorem wpList_app {P : Program} {w w' : World} {ops : Array Oper} {rest : List Oper} {o : Oper} {a : Act} {Q : Exit → Act → World → Prop} (hgd : o.guard = none) (s x : Operand) (t tn : TypeId)
    (ho : o.op = .call { callee := .builtin .append, args := #[s, x], argTypes := #[t, tn] }) {v xv v' : Value} (hv : a.eval s = v) (hxv : a.eval x = xv) (hr : ∀ ty, (Builtin.append_ #[t, tn] ty #[v, xv]).run P w = .ok v' w')
    (h : wpList P ops Q rest (a.put o.dst v') w') : wpList P ops Q (o :: rest) a w :=
  wpList_plain hgd fun _ hK => by
    unfold Oper.wp execOp
    simp only [ho, resolve, invoke, builtin, Sem.run_bind, Sem.run_pure, Result.andThen_ok, List.map_toArray, List.map_cons, List.map_nil, hv, hxv, hr]
    exact hK _ _ h
theorem grow_nil (n : Nat) (hn : n ≤ 4398046511104) (w : World) : Calls Tryz.prog 137 #[.slice none 0 0, .int .i64 n] w fun e w' => ∃ v, e = .returned v ∧ Row EE w' w.heap.size 69 v [] ∧ Below w.heap.size w w' := by
  by_cases h0 : n = 0
  · subst h0
    go_enter Tryz.func137, Tryz.ntmps137
    go_wp2
    go_ret
    exact ⟨_, rfl, Row.nil _ _ _ _, Below.refl _ _⟩
  · obtain ⟨j0, hj, hy0, hy1, hy2⟩ := info_parts finfoE
    have happ := fun ty => Lib.run_append_nil_zeros (P := Tryz.prog) w 63 3 ty 69 j0 _ .i64 .i64 Tryz.underlying63 Tryz.underlying3 hj hy0 n (by omega) (by rw [hy1]; decide) (by omega) (by rw [hy2]; omega)
    have hge := grownCap_ge w n 0 69
    have hcm : grownCap w n 0 69 ≤ maxLen := grownCap_le_maxLen w n 0 69 (by unfold maxLen; omega)
    have hcs : (Builtin.zeroCells (Value.agg #[.string ⟨#[]⟩, .int .i64 0, .int .i64 0, .int .i64 0]).cells n ++ Builtin.zeroCells (Value.agg #[.string ⟨#[]⟩, .int .i64 0, .int .i64 0, .int .i64 0]).cells (grownCap w n 0 69 - n)).size = grownCap w n 0 69 * 4 := by
      rw [Array.size_append, size_zeroCells, size_zeroCells, show (Value.agg #[.string ⟨#[]⟩, .int .i64 0, .int .i64 0, .int .i64 0]).cells.size = 4 from rfl]
      omega
    generalize (Builtin.zeroCells (Value.agg #[.string ⟨#[]⟩, .int .i64 0, .int .i64 0, .int .i64 0]).cells n ++ Builtin.zeroCells (Value.agg #[.string ⟨#[]⟩, .int .i64 0, .int .i64 0, .int .i64 0]).cells (grownCap w n 0 69 - n)) = cur at happ hcs
    generalize grownCap w n 0 69 = C at happ hge hcm hcs
    have hn0 : 0 < (n : Int) := by omega
    have HEND : Hid (Row EE (w.drew.alloc (.cells cur 69)) w.heap.size 69 (.slice (some ⟨w.heap.size, 0, none⟩) 0 C) []) := .inr ⟨w.heap.size, C, cur, rfl, Nat.le_refl _, heap_alloc_new w.drew _, Nat.zero_le _, hcm, by rw [hcs]; exact Nat.le_refl _, by simp [Enc.flat]⟩
    unfold maxLen at hcm
    have HAPP : Hid (∀ ty, (Builtin.append_ #[63, 3] ty #[.slice none 0 0, .int .i64 n]).run Tryz.prog w = .ok (.slice (some ⟨w.heap.size, 0, none⟩) n C) (w.drew.alloc (.cells cur 69))) := happ
    clear hj hy0 hy1 hy2 h0 hcs happ
    go_enter Tryz.func137, Tryz.ntmps137
    go_wp2_with (at_builtin; refine wpList_app rfl _ _ 63 3 rfl rfl rfl HAPP.out ?_)
    go_ret
    exact ⟨_, rfl, HEND.out, ⟨rfl, rfl, rfl, by simp, fun k hk => Below.heap_alloc w.drew _ k hk⟩⟩
set_option maxRecDepth 100000 in
set_option maxHeartbeats 2000000 in
theorem concat_two (g : Nat) (v1 v2 : Value) (l1 l2 : List Ent) (w : World) (hg : g < w.heap.size) (c0 : w.cell? ⟨g, 0, none⟩ = some v1) (c1 : w.cell? ⟨g, 1, none⟩ = some v2) (h1 : AtW EE w v1 l1) (h2 : AtW EE w v2 l2) (hl : l1.length + l2.length ≤ 2199023255552) :
    Calls Tryz.prog 121 #[.slice (some ⟨g, 0, none⟩) 2 2] w fun e w' => ∃ u, e = .returned u ∧ Row EE w' w.heap.size 69 u (l1 ++ l2) ∧ Below w.heap.size w w' := by
  have H1 : Hid (At EE (fun b => b < w.heap.size) w v1 l1) := h1.imp fun b _ hb => hb
  have H2 : Hid (At EE (fun b => b < w.heap.size) w v2 l2) := h2.imp fun b _ hb => hb
  obtain ⟨a1, q1, rfl, -, -⟩ := h1.open
  obtain ⟨a2, q2, rfl, -, -⟩ := h2.open
  have HL : Hid (l1.length + l2.length ≤ 2199023255552) := hl
  clear h1 h2
  obtain ⟨n1, hn1⟩ : ∃ n, l1.length = n := ⟨_, rfl⟩
  obtain ⟨n2, hn2⟩ : ∃ n, l2.length = n := ⟨_, rfl⟩
  rw [hn1, hn2] at hl
  rw [hn1] at c0 H1
  rw [hn2] at c1 H2
  have HN : Hid (l1.length = n1 ∧ l2.length = n2) := ⟨hn1, hn2⟩
  clear hn1 hn2
  obtain ⟨j0, hj, hy0, hy1, hy2⟩ := info_parts finfoE
  go_enter Tryz.func121, Tryz.ntmps121
  go_wp2
  refine wp_loop_rounds 3 ?_
  rw [rounds_succ]
  go_wp2
  rw [rounds_succ]
  go_wp2
  rw [rounds_succ]
  go_wp2_with fail
  rw [show (n1 : Int) + (n2 : Int) = ((n1 + n2 : Nat) : Int) by omega]
  refine (grow_nil (n1 + n2) (by omega) _).mono ?_
  rintro e w1 ⟨u1, rfl, hr1, hb1⟩
  have HB1 : Hid (Below w.heap.size w w1) := hb1
  have HR1 : Hid (Row EE w1 w.heap.size 69 u1 []) := hr1
  have d0 := cell_next c0 hb1 hg
  have H1' : Hid (At EE (fun b => b < w.heap.size) w1 (.slice a1 n1 q1) l1) := H1.out.up hb1
  have hs1 := hb1.size
  clear hb1 hr1 H1
  go_wp2
  refine wp_loop_rounds 3 ?_
  rw [rounds_succ]
  go_wp2_with (at_builtin; refine wpList_row _ rfl _ _ 63 rfl EE (fun b => b < w.heap.size) w.heap.size 69 j0 _ 40 Tryz.underlying63 hj hy0 hy1 hy2 rfl _ [] rfl HR1.out _ l1 rfl H1'.out (by have := HN.out; unfold maxLen; simp; omega) (by have := HN.out; simp; omega) (by omega) ?_; intro v7 w7 hrow7 hg7 hloc7)
  have HB7 : Hid (Below w.heap.size w w7) := HB1.out.grown hg7 hs1 (fun k hk => (HR1.out.lt k hk).1)
  have HR7 : Hid (Row EE w7 w.heap.size 69 v7 ([] ++ l1)) := hrow7
  have d1 := cell_next c1 HB7.out hg
  have H2' : Hid (At EE (fun b => b < w.heap.size) w7 (.slice a2 n2 q2) l2) := H2.out.up HB7.out
  have hs7 := HB7.out.size
  clear hrow7 hg7 hloc7 d0
  rw [rounds_succ]
  go_wp2_with (at_builtin; refine wpList_row _ rfl _ _ 63 rfl EE (fun b => b < w.heap.size) w.heap.size 69 j0 _ 40 Tryz.underlying63 hj hy0 hy1 hy2 rfl _ ([] ++ l1) rfl HR7.out _ l2 rfl H2'.out (by have := HN.out; unfold maxLen; simp; omega) (by have := HN.out; simp; omega) (by omega) ?_; intro v8 w8 hrow8 hg8 hloc8)
  have HB8 : Hid (Below w.heap.size w w8) := HB7.out.grown hg8 hs7 (fun k hk => (HR7.out.lt k hk).1)
  have HR8 : Hid (Row EE w8 w.heap.size 69 v8 (l1 ++ l2)) := by show Row EE w8 w.heap.size 69 v8 (l1 ++ l2); simpa using hrow8
  clear hrow8 hg8 hloc8
  rw [rounds_succ]
  go_wp2
  go_ret
  exact ⟨_, rfl, HR8.out, HB8.out⟩
end Go.Proofs.YtacghcoikekfeaaGreat
