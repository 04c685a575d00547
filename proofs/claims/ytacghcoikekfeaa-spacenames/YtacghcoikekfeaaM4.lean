/-
  The texts FConcat, FAddA, FAdd, FRem, SpF, Sp3, SAttr, Again, as one.
-/
import Derived.Lib.AppendZeros
import Derived.Test.YtacghcoikekfeaaM3
/- FConcat -/
namespace Go.Proofs.Ytacghcoikekfeaa
open Go.ChangeShapes Go.WideShapes Go.ChangeAt Go.RowKit Go.Deep
set_option maxRecDepth 100000
theorem finfoE : (Try.prog.info? 62).map (fun i => (i.zero, i.size, i.bytes)) = some (some (.agg #[.string ⟨#[]⟩, .int .i64 0, .int .i64 0, .int .i64 0]), 4, 40) := by kernel_rfl
theorem wpList_app {P : Program} {w w' : World} {ops : Array Oper} {rest : List Oper} {o : Oper} {a : Act} {Q : Exit → Act → World → Prop} (hgd : o.guard = none) (s x : Operand) (t tn : TypeId)
    (ho : o.op = .call { callee := .builtin .append, args := #[s, x], argTypes := #[t, tn] }) {v xv v' : Value} (hv : a.eval s = v) (hxv : a.eval x = xv) (hr : ∀ ty, (Builtin.append_ #[t, tn] ty #[v, xv]).run P w = .ok v' w')
    (h : wpList P ops Q rest (a.put o.dst v') w') : wpList P ops Q (o :: rest) a w :=
  wpList_plain hgd fun _ hK => by
    unfold Oper.wp execOp
    simp only [ho, resolve, invoke, builtin, Sem.run_bind, Sem.run_pure, Result.andThen_ok, List.map_toArray, List.map_cons, List.map_nil, hv, hxv, hr]
    exact hK _ _ h
theorem grow_nil (n : Nat) (hn : n ≤ 4398046511104) (w : World) : Calls Try.prog 93 #[.slice none 0 0, .int .i64 n] w fun e w' => ∃ v, e = .returned v ∧ Row EE w' w.heap.size 62 v [] ∧ Below w.heap.size w w' := by
  by_cases h0 : n = 0
  · subst h0
    go_enter Try.func93, Try.ntmps93
    go_wp2
    go_ret
    exact ⟨_, rfl, Row.nil _ _ _ _, Below.refl _ _⟩
  · obtain ⟨j0, hj, hy0, hy1, hy2⟩ := info_parts finfoE
    have happ := fun ty => Lib.run_append_nil_zeros (P := Try.prog) w 48 3 ty 62 j0 _ .i64 .i64 Try.underlying48 Try.underlying3 hj hy0 n (by omega) (by rw [hy1]; decide) (by omega) (by rw [hy2]; omega)
    have hge := grownCap_ge w n 0 62
    have hcm : grownCap w n 0 62 ≤ maxLen := grownCap_le_maxLen w n 0 62 (by unfold maxLen; omega)
    have hcs : (Builtin.zeroCells (Value.agg #[.string ⟨#[]⟩, .int .i64 0, .int .i64 0, .int .i64 0]).cells n ++ Builtin.zeroCells (Value.agg #[.string ⟨#[]⟩, .int .i64 0, .int .i64 0, .int .i64 0]).cells (grownCap w n 0 62 - n)).size = grownCap w n 0 62 * 4 := by
      rw [Array.size_append, size_zeroCells, size_zeroCells, show (Value.agg #[.string ⟨#[]⟩, .int .i64 0, .int .i64 0, .int .i64 0]).cells.size = 4 from rfl]
      omega
    generalize (Builtin.zeroCells (Value.agg #[.string ⟨#[]⟩, .int .i64 0, .int .i64 0, .int .i64 0]).cells n ++ Builtin.zeroCells (Value.agg #[.string ⟨#[]⟩, .int .i64 0, .int .i64 0, .int .i64 0]).cells (grownCap w n 0 62 - n)) = cur at happ hcs
    generalize grownCap w n 0 62 = C at happ hge hcm hcs
    have hn0 : 0 < (n : Int) := by omega
    have HEND : Hid (Row EE (w.drew.alloc (.cells cur 62)) w.heap.size 62 (.slice (some ⟨w.heap.size, 0, none⟩) 0 C) []) := .inr ⟨w.heap.size, C, cur, rfl, Nat.le_refl _, heap_alloc_new w.drew _, Nat.zero_le _, hcm, by rw [hcs]; exact Nat.le_refl _, by simp [Enc.flat]⟩
    unfold maxLen at hcm
    have HAPP : Hid (∀ ty, (Builtin.append_ #[48, 3] ty #[.slice none 0 0, .int .i64 n]).run Try.prog w = .ok (.slice (some ⟨w.heap.size, 0, none⟩) n C) (w.drew.alloc (.cells cur 62))) := happ
    clear hj hy0 hy1 hy2 h0 hcs happ
    go_enter Try.func93, Try.ntmps93
    go_wp2_with (at_builtin; refine wpList_app rfl _ _ 48 3 rfl rfl rfl HAPP.out ?_)
    go_ret
    exact ⟨_, rfl, HEND.out, ⟨rfl, rfl, rfl, by simp, fun k hk => Below.heap_alloc w.drew _ k hk⟩⟩
set_option maxRecDepth 100000 in
set_option maxHeartbeats 2000000 in
theorem concat_two (g : Nat) (v1 v2 : Value) (l1 l2 : List Ent) (w : World) (hg : g < w.heap.size) (c0 : w.cell? ⟨g, 0, none⟩ = some v1) (c1 : w.cell? ⟨g, 1, none⟩ = some v2) (h1 : AtW EE w v1 l1) (h2 : AtW EE w v2 l2) (hl : l1.length + l2.length ≤ 2199023255552) :
    Calls Try.prog 73 #[.slice (some ⟨g, 0, none⟩) 2 2] w fun e w' => ∃ u, e = .returned u ∧ Row EE w' w.heap.size 62 u (l1 ++ l2) ∧ Below w.heap.size w w' := by
  have H1 : Hid (At EE (fun b => b < w.heap.size) w v1 l1) := h1.imp fun b _ hb => hb
  have H2 : Hid (At EE (fun b => b < w.heap.size) w v2 l2) := h2.imp fun b _ hb => hb
  obtain ⟨a1, q1, rfl, -, -⟩ := h1.open
  obtain ⟨a2, q2, rfl, -, -⟩ := h2.open
  have HL : Hid (l1.length + l2.length ≤ 2199023255552) := hl
  clear h1 h2
  obtain ⟨n1, hn1⟩ : ∃ n, l1.length = n := ⟨_, rfl⟩
  obtain ⟨n2, hn2⟩ : ∃ n, l2.length = n := ⟨_, rfl⟩
  rw [hn1, hn2] at hl
  rw [hn1] at c0 H1
  rw [hn2] at c1 H2
  have HN : Hid (l1.length = n1 ∧ l2.length = n2) := ⟨hn1, hn2⟩
  clear hn1 hn2
  obtain ⟨j0, hj, hy0, hy1, hy2⟩ := info_parts finfoE
  go_enter Try.func73, Try.ntmps73
  go_wp2
  refine wp_loop_rounds 3 ?_
  rw [rounds_succ]
  go_wp2
  rw [rounds_succ]
  go_wp2
  rw [rounds_succ]
  go_wp2_with fail
  rw [show (n1 : Int) + (n2 : Int) = ((n1 + n2 : Nat) : Int) by omega]
  refine (grow_nil (n1 + n2) (by omega) _).mono ?_
  rintro e w1 ⟨u1, rfl, hr1, hb1⟩
  have HB1 : Hid (Below w.heap.size w w1) := hb1
  have HR1 : Hid (Row EE w1 w.heap.size 62 u1 []) := hr1
  have d0 := cell_next c0 hb1 hg
  have H1' : Hid (At EE (fun b => b < w.heap.size) w1 (.slice a1 n1 q1) l1) := H1.out.up hb1
  have hs1 := hb1.size
  clear hb1 hr1 H1
  go_wp2
  refine wp_loop_rounds 3 ?_
  rw [rounds_succ]
  go_wp2_with (at_builtin; refine wpList_row _ rfl _ _ 48 rfl EE (fun b => b < w.heap.size) w.heap.size 62 j0 _ 40 Try.underlying48 hj hy0 hy1 hy2 rfl _ [] rfl HR1.out _ l1 rfl H1'.out (by have := HN.out; unfold maxLen; simp; omega) (by have := HN.out; simp; omega) (by omega) ?_; intro v7 w7 hrow7 hg7 hloc7)
  have HB7 : Hid (Below w.heap.size w w7) := HB1.out.grown hg7 hs1 (fun k hk => (HR1.out.lt k hk).1)
  have HR7 : Hid (Row EE w7 w.heap.size 62 v7 ([] ++ l1)) := hrow7
  have d1 := cell_next c1 HB7.out hg
  have H2' : Hid (At EE (fun b => b < w.heap.size) w7 (.slice a2 n2 q2) l2) := H2.out.up HB7.out
  have hs7 := HB7.out.size
  clear hrow7 hg7 hloc7 d0
  rw [rounds_succ]
  go_wp2_with (at_builtin; refine wpList_row _ rfl _ _ 48 rfl EE (fun b => b < w.heap.size) w.heap.size 62 j0 _ 40 Try.underlying48 hj hy0 hy1 hy2 rfl _ ([] ++ l1) rfl HR7.out _ l2 rfl H2'.out (by have := HN.out; unfold maxLen; simp; omega) (by have := HN.out; simp; omega) (by omega) ?_; intro v8 w8 hrow8 hg8 hloc8)
  have HB8 : Hid (Below w.heap.size w w8) := HB7.out.grown hg8 hs7 (fun k hk => (HR7.out.lt k hk).1)
  have HR8 : Hid (Row EE w8 w.heap.size 62 v8 (l1 ++ l2)) := by show Row EE w8 w.heap.size 62 v8 (l1 ++ l2); simpa using hrow8
  clear hrow8 hg8 hloc8
  rw [rounds_succ]
  go_wp2
  go_ret
  exact ⟨_, rfl, HR8.out, HB8.out⟩
end Go.Proofs.Ytacghcoikekfeaa
/- FAddA -/
namespace Go.Proofs.Ytacghcoikekfeaa
open Go.ChangeShapes Go.WideShapes Go.ChangeAt Go.RowKit Go.Deep
set_option maxRecDepth 100000
namespace Fo
noncomputable def addErr (l : List Ent) (next : Int) (s : ByteArray) (no gen : Int) : Int :=
  if ask l next s = 0 then (if Ho no gen then (if at' (called s) l = -1 then (if next = 1099511627776 then 407 else 0) else 403) else 1) else ask l next s
theorem add_ask {l : List Ent} {next : Int} {s : ByteArray} {no gen e : Int} (h : ask l next s = e) (he : e ≠ 0) : addErr l next s no gen = e := by unfold addErr; rw [if_neg (by rw [h]; exact he), h]
theorem add_ho {l : List Ent} {next : Int} {s : ByteArray} {no gen : Int} (h : ask l next s = 0) (ho : ¬ Ho no gen) : addErr l next s no gen = 1 := by unfold addErr; rw [if_pos h, if_neg ho]
theorem add_has {l : List Ent} {next : Int} {s : ByteArray} {no gen : Int} {k : Nat} (h : ask l next s = 0) (ho : Ho no gen) (ha : at' (called s) l = k) : addErr l next s no gen = 403 := by unfold addErr; rw [if_pos h, if_pos ho, if_neg (by rw [ha]; omega)]
theorem add_full {l : List Ent} {next : Int} {s : ByteArray} {no gen : Int} (h : ask l next s = 0) (ho : Ho no gen) (ha : at' (called s) l = -1) (hn : next = 1099511627776) : addErr l next s no gen = 407 := by unfold addErr; rw [if_pos h, if_pos ho, if_pos ha, if_pos hn]
theorem add_ok {l : List Ent} {next : Int} {s : ByteArray} {no gen : Int} (h : ask l next s = 0) (ho : Ho no gen) (ha : at' (called s) l = -1) (hn : ¬ next = 1099511627776) : addErr l next s no gen = 0 := by unfold addErr; rw [if_pos h, if_pos ho, if_pos ha, if_neg hn]
end Fo
theorem contains_yes (v : Value) (l : List Ent) (s : ByteArray) (b k : Nat) (w : World) (hv : AtW EE w v l) (hb : b < w.heap.size) (hc : w.cell? ⟨b, 0, none⟩ = some (.string s)) (hk : Fo.at' (Fo.called s) l = k) :
    Calls Try.prog 91 #[v, VF 99 b] w fun e w' => e = .returned (.bool true) ∧ Below w.heap.size w w' := by
  have HV : Hid (AtW EE w v l) := hv
  have HC : Hid (w.cell? ⟨b, 0, none⟩ = some (.string s)) := hc
  have HK : Hid (Fo.at' (Fo.called s) l = k) := hk
  clear hv hc hk
  go_enter Try.func91, Try.ntmps91
  go_wp2_with fail
  refine (index_named v l s b _ HV.out hb HC.out).mono ?_
  rintro e w1 ⟨rfl, hb1⟩
  rw [HK.out]
  go_wp2
  go_ret
  exact ⟨rfl, hb1⟩
theorem contains_no (v : Value) (l : List Ent) (s : ByteArray) (b : Nat) (w : World) (hv : AtW EE w v l) (hb : b < w.heap.size) (hc : w.cell? ⟨b, 0, none⟩ = some (.string s)) (hk : Fo.at' (Fo.called s) l = -1) :
    Calls Try.prog 91 #[v, VF 99 b] w fun e w' => e = .returned (.bool false) ∧ Below w.heap.size w w' := by
  have HV : Hid (AtW EE w v l) := hv
  have HC : Hid (w.cell? ⟨b, 0, none⟩ = some (.string s)) := hc
  have HK : Hid (Fo.at' (Fo.called s) l = -1) := hk
  clear hv hc hk
  go_enter Try.func91, Try.ntmps91
  go_wp2_with fail
  refine (index_named v l s b _ HV.out hb HC.out).mono ?_
  rintro e w1 ⟨rfl, hb1⟩
  rw [HK.out]
  go_wp2
  go_ret
  exact ⟨rfl, hb1⟩
theorem two_boxes (w : World) (v : Value) (next no gen : Int) : ((w.alloc (BD v next)).alloc (BHf no gen)).cell? ⟨w.heap.size, 0, none⟩ = some v ∧ ((w.alloc (BD v next)).alloc (BHf no gen)).cell? ⟨w.heap.size, 1, none⟩ = some (.int .i64 next) ∧
    ((w.alloc (BD v next)).alloc (BHf no gen)).cell? ⟨w.heap.size + 1, 0, none⟩ = some (.int .i64 no) ∧ ((w.alloc (BD v next)).alloc (BHf no gen)).cell? ⟨w.heap.size + 1, 1, none⟩ = some (.int .i64 gen) := by
  have hb := box_cells w v next
  have hh := heap_alloc_new (w.alloc (BD v next)) (BHf no gen)
  rw [show (w.alloc (BD v next)).heap.size = w.heap.size + 1 by simp] at hh
  refine ⟨(cell_older (by simp) _ _).trans hb.1, (cell_older (by simp) _ _).trans hb.2, ?_, ?_⟩ <;> simp only [World.cell?, hh] <;> rfl
set_option maxHeartbeats 2000000 in
theorem refuseAdd_any (v : Value) (l : List Ent) (next : Int) (s : ByteArray) (no gen : Int) (w : World) (hv : AtW EE w v l) (hs : ∀ x ∈ l, x.1.size ≤ maxLen) (hn : s.size ≤ maxLen) :
    Calls Try.prog 72 #[VD v next, .string s, VHf no gen] w fun e w' => e = .returned (.int .i64 (Fo.addErr l next s no gen)) ∧ Below w.heap.size w w' := by
  obtain ⟨W, hW⟩ : ∃ W, W = (w.alloc (BD v next)).alloc (BHf no gen) := ⟨_, rfl⟩
  have HB0 : Hid (Below w.heap.size w W) := by show Below w.heap.size w W; rw [hW]; exact ((Below.refl _ w).alloc (Nat.le_refl _) _).alloc (by simp) _
  have hws : w.heap.size + 1 < W.heap.size := by rw [hW]; simp
  obtain ⟨a0, a1, a2, a3⟩ := two_boxes w v next no gen
  rw [← hW] at a0 a1 a2 a3
  have HV : Hid (AtW EE W v l) := hv.up HB0.out
  have HS : Hid (∀ x ∈ l, x.1.size ≤ maxLen) := hs
  have HNN : Hid (s.size ≤ maxLen) := hn
  clear hv hs hn
  rcases Fo.ask_or l next s with ⟨ha, -, -⟩ | ⟨ha, -⟩ | ⟨ha, -, -⟩
  · have HA : Hid (Fo.ask l next s = 0) := ha
    by_cases ho : Ho no gen
    · have HD : Hid (decide (Ho no gen) = true) := decide_eq_true ho
      rcases Fo.at_or (Fo.called s) l with ⟨ht, -⟩ | ⟨k, x, ht, -, -, -⟩
      · have HT : Hid (Fo.at' (Fo.called s) l = -1) := ht
        by_cases hx : next = 1099511627776
        · have HE : Hid (Fo.addErr l next s no gen = 407) := Fo.add_full ha ho ht hx
          have hx' : (next == 1099511627776) = true := by simp [hx]
          clear ha ho ht hx
          go_enter Try.func72, Try.ntmps72
          go_wp2_with fail
          rw [← hW]
          refine (frefuse_any v l next s _ HV.out HS.out HNN.out).mono ?_
          rintro e w1 ⟨rfl, hb⟩
          rw [HA.out]
          have HB1 : Hid (Below w.heap.size w w1) := HB0.out.trans (hb.mono HB0.out.size)
          have e0 := cell_next a0 hb (by omega)
          have e1 := cell_next a1 hb (by omega)
          have e2 := cell_next a2 hb (by omega)
          have e3 := cell_next a3 hb (by omega)
          have HV1 : Hid (AtW EE w1 v l) := HV.out.up hb
          have hs1 := hb.size
          clear hb hW a0 a1 a2 a3
          go_wp2_with fail
          refine (rightTo_any no gen _).mono ?_
          rintro e w2 ⟨rfl, rfl⟩
          rw [HD.out]
          have HB2 : Hid (Below w.heap.size w (w1.alloc (BHf no gen))) := HB1.out.alloc HB1.out.size _
          have HV2 : Hid (AtW EE (w1.alloc (BHf no gen)) v l) := HV1.out.up ((Below.refl _ _).alloc (Nat.le_refl _) _)
          have f0 := (cell_older (by omega) (BHf no gen) 0).trans e0
          have f1 := (cell_older (by omega) (BHf no gen) 1).trans e1
          have HSS : Hid ((w1.alloc (BHf no gen)).cell? ⟨w.heap.size, 0, none⟩ = some v) := f0
          generalize w1.alloc (BHf no gen) = w2 at *
          clear e0 e1 e2 e3
          go_wp2_with fail
          go_region_held3 (fun w' => w'.cell? ⟨w.heap.size, 0, none⟩ = some v) (first | exact HSS.out | exact cell_step (by assumption) (by assumption)) (first
            | (go_at_call 92; refine (named_any s _).mono ?_; rintro e w3 ⟨bx, rfl, hbx, hcx, hb3⟩)
            | (go_at_call 91; refine (contains_no _ l s bx _ (HV2.out.up (undrew hb3)) hbx hcx HT.out).mono ?_; rintro e w4 ⟨rfl, hb4⟩))
          have HB4 : Hid (Below w.heap.size w w4) := by
            have h2 := HB2.out.trans ((undrew hb3).mono HB2.out.size)
            exact h2.trans (hb4.mono h2.size)
          have g1 := cell_step (cell_step f1 (undrew hb3)) hb4
          clear hb3 hb4 hbx hcx f0 f1
          go_wp2
          go_ret
          rw [HE.out]
          exact ⟨rfl, HB4.out⟩
        · have HE : Hid (Fo.addErr l next s no gen = 0) := Fo.add_ok ha ho ht hx
          have hx' : (next == 1099511627776) = false := by simp [hx]
          clear ha ho ht hx
          go_enter Try.func72, Try.ntmps72
          go_wp2_with fail
          rw [← hW]
          refine (frefuse_any v l next s _ HV.out HS.out HNN.out).mono ?_
          rintro e w1 ⟨rfl, hb⟩
          rw [HA.out]
          have HB1 : Hid (Below w.heap.size w w1) := HB0.out.trans (hb.mono HB0.out.size)
          have e0 := cell_next a0 hb (by omega)
          have e1 := cell_next a1 hb (by omega)
          have e2 := cell_next a2 hb (by omega)
          have e3 := cell_next a3 hb (by omega)
          have HV1 : Hid (AtW EE w1 v l) := HV.out.up hb
          have hs1 := hb.size
          clear hb hW a0 a1 a2 a3
          go_wp2_with fail
          refine (rightTo_any no gen _).mono ?_
          rintro e w2 ⟨rfl, rfl⟩
          rw [HD.out]
          have HB2 : Hid (Below w.heap.size w (w1.alloc (BHf no gen))) := HB1.out.alloc HB1.out.size _
          have HV2 : Hid (AtW EE (w1.alloc (BHf no gen)) v l) := HV1.out.up ((Below.refl _ _).alloc (Nat.le_refl _) _)
          have f0 := (cell_older (by omega) (BHf no gen) 0).trans e0
          have f1 := (cell_older (by omega) (BHf no gen) 1).trans e1
          have HSS : Hid ((w1.alloc (BHf no gen)).cell? ⟨w.heap.size, 0, none⟩ = some v) := f0
          generalize w1.alloc (BHf no gen) = w2 at *
          clear e0 e1 e2 e3
          go_wp2_with fail
          go_region_held3 (fun w' => w'.cell? ⟨w.heap.size, 0, none⟩ = some v) (first | exact HSS.out | exact cell_step (by assumption) (by assumption)) (first
            | (go_at_call 92; refine (named_any s _).mono ?_; rintro e w3 ⟨bx, rfl, hbx, hcx, hb3⟩)
            | (go_at_call 91; refine (contains_no _ l s bx _ (HV2.out.up (undrew hb3)) hbx hcx HT.out).mono ?_; rintro e w4 ⟨rfl, hb4⟩))
          have HB4 : Hid (Below w.heap.size w w4) := by
            have h2 := HB2.out.trans ((undrew hb3).mono HB2.out.size)
            exact h2.trans (hb4.mono h2.size)
          have g1 := cell_step (cell_step f1 (undrew hb3)) hb4
          clear hb3 hb4 hbx hcx f0 f1
          go_wp2
          go_ret
          rw [HE.out]
          exact ⟨rfl, HB4.out⟩
      · have HT : Hid (Fo.at' (Fo.called s) l = k) := ht
        have HE : Hid (Fo.addErr l next s no gen = 403) := Fo.add_has ha ho ht
        clear ha ho ht
        go_enter Try.func72, Try.ntmps72
        go_wp2_with fail
        rw [← hW]
        refine (frefuse_any v l next s _ HV.out HS.out HNN.out).mono ?_
        rintro e w1 ⟨rfl, hb⟩
        rw [HA.out]
        have HB1 : Hid (Below w.heap.size w w1) := HB0.out.trans (hb.mono HB0.out.size)
        have e0 := cell_next a0 hb (by omega)
        have e1 := cell_next a1 hb (by omega)
        have e2 := cell_next a2 hb (by omega)
        have e3 := cell_next a3 hb (by omega)
        have HV1 : Hid (AtW EE w1 v l) := HV.out.up hb
        have hs1 := hb.size
        clear hb hW a0 a1 a2 a3
        go_wp2_with fail
        refine (rightTo_any no gen _).mono ?_
        rintro e w2 ⟨rfl, rfl⟩
        rw [HD.out]
        have HB2 : Hid (Below w.heap.size w (w1.alloc (BHf no gen))) := HB1.out.alloc HB1.out.size _
        have HV2 : Hid (AtW EE (w1.alloc (BHf no gen)) v l) := HV1.out.up ((Below.refl _ _).alloc (Nat.le_refl _) _)
        have f0 := (cell_older (by omega) (BHf no gen) 0).trans e0
        have f1 := (cell_older (by omega) (BHf no gen) 1).trans e1
        have HSS : Hid ((w1.alloc (BHf no gen)).cell? ⟨w.heap.size, 0, none⟩ = some v) := f0
        generalize w1.alloc (BHf no gen) = w2 at *
        clear e0 e1 e2 e3
        go_wp2_with fail
        go_region_held3 (fun w' => w'.cell? ⟨w.heap.size, 0, none⟩ = some v) (first | exact HSS.out | exact cell_step (by assumption) (by assumption)) (first
          | (go_at_call 92; refine (named_any s _).mono ?_; rintro e w3 ⟨bx, rfl, hbx, hcx, hb3⟩)
          | (go_at_call 91; refine (contains_yes _ l s bx k _ (HV2.out.up (undrew hb3)) hbx hcx HT.out).mono ?_; rintro e w4 ⟨rfl, hb4⟩))
        have HB4 : Hid (Below w.heap.size w w4) := by
          have h2 := HB2.out.trans ((undrew hb3).mono HB2.out.size)
          exact h2.trans (hb4.mono h2.size)
        have g1 := cell_step (cell_step f1 (undrew hb3)) hb4
        clear hb3 hb4 hbx hcx f0 f1
        go_wp2
        go_ret
        rw [HE.out]
        exact ⟨rfl, HB4.out⟩
    · have HD : Hid (decide (Ho no gen) = false) := decide_eq_false ho
      have HE : Hid (Fo.addErr l next s no gen = 1) := Fo.add_ho ha ho
      clear ha ho
      go_enter Try.func72, Try.ntmps72
      go_wp2_with fail
      rw [← hW]
      refine (frefuse_any v l next s _ HV.out HS.out HNN.out).mono ?_
      rintro e w1 ⟨rfl, hb⟩
      rw [HA.out]
      have HB1 : Hid (Below w.heap.size w w1) := HB0.out.trans (hb.mono HB0.out.size)
      have e0 := cell_next a0 hb (by omega)
      have e1 := cell_next a1 hb (by omega)
      have e2 := cell_next a2 hb (by omega)
      have e3 := cell_next a3 hb (by omega)
      have HV1 : Hid (AtW EE w1 v l) := HV.out.up hb
      have hs1 := hb.size
      clear hb hW a0 a1 a2 a3
      go_wp2_with fail
      refine (rightTo_any no gen _).mono ?_
      rintro e w2 ⟨rfl, rfl⟩
      rw [HD.out]
      go_wp2
      go_ret
      rw [HE.out]
      exact ⟨rfl, HB1.out.alloc HB1.out.size _⟩
  · have HA : Hid (Fo.ask l next s = 4) := ha
    have HE : Hid (Fo.addErr l next s no gen = 4) := Fo.add_ask ha (by decide)
    rw [HE.out]
    clear ha
    go_enter Try.func72, Try.ntmps72
    go_wp2_with fail
    rw [← hW]
    refine (frefuse_any v l next s _ HV.out HS.out HNN.out).mono ?_
    rintro e w1 ⟨rfl, hb⟩
    rw [HA.out]
    have HB1 : Hid (Below w.heap.size w w1) := HB0.out.trans (hb.mono HB0.out.size)
    go_wp2
    go_ret
    exact ⟨rfl, HB1.out⟩
  · have HA : Hid (Fo.ask l next s = 409) := ha
    have HE : Hid (Fo.addErr l next s no gen = 409) := Fo.add_ask ha (by decide)
    rw [HE.out]
    clear ha
    go_enter Try.func72, Try.ntmps72
    go_wp2_with fail
    rw [← hW]
    refine (frefuse_any v l next s _ HV.out HS.out HNN.out).mono ?_
    rintro e w1 ⟨rfl, hb⟩
    rw [HA.out]
    have HB1 : Hid (Below w.heap.size w w1) := HB0.out.trans (hb.mono HB0.out.size)
    go_wp2
    go_ret
    exact ⟨rfl, HB1.out⟩
end Go.Proofs.Ytacghcoikekfeaa
/- FAdd -/
namespace Go.Proofs.Ytacghcoikekfeaa
open Go.ChangeShapes Go.WideShapes Go.ChangeAt Go.RowKit Go.Deep
set_option maxRecDepth 100000
abbrev BZD : Obj := .cells #[.slice none 0 0, .int .i64 0] 87
theorem dir_of {w : World} {A : Nat} {v : Value} {n : Int} (h : w.heap[A]? = some (BD v n)) :
    (w.cell? ⟨A, 0, none⟩ = some v ∧ w.cell? ⟨A, 1, none⟩ = some (.int .i64 n)) ∧ ∀ j, w.frozen? ⟨A, j, none⟩ = false := by
  refine ⟨⟨?_, ?_⟩, fun j => ?_⟩ <;> simp [World.cell?, World.frozen?, h]
namespace Fo
theorem right_len {l : List Ent} {next : Int} (h : Right l next) : (l.length : Int) ≤ next := by
  have key : ∀ k : Nat, k ≤ l.length → (k : Int) ≤ lastC l k := fun k => by
    induction k with
    | zero => intro _; exact Int.le_refl _
    | succ k ih =>
      intro hk
      have hx : l[k]? = some l[k] := List.getElem?_eq_getElem (by omega)
      have hg := h.2.1 k (by omega) _ hx
      have := ih (by omega)
      rw [lastC_succ hx]
      omega
  have h1 := key l.length (Nat.le_refl _)
  have h2 := (lastC_bd h.2.1 (Nat.le_refl _) h.1.1).2
  omega
theorem add_zero {l : List Ent} {next : Int} {s : ByteArray} {no gen : Int} (h : addErr l next s no gen = 0) : Right l next ∧ Nm.ok s ∧ Ho no gen ∧ at' (called s) l = -1 ∧ next ≠ 1099511627776 := by
  rcases ask_or l next s with ⟨ha, hr, ho⟩ | ⟨ha, -⟩ | ⟨ha, -, -⟩
  · by_cases hh : Ho no gen
    · rcases at_or (called s) l with ⟨ht, -⟩ | ⟨k, x, ht, -, -, -⟩
      · by_cases hx : next = 1099511627776
        · rw [add_full ha hh ht hx] at h
          cases h
        · exact ⟨hr, ho, hh, ht, hx⟩
      · rw [add_has ha hh ht] at h
        cases h
    · rw [add_ho ha hh] at h
      cases h
  · rw [add_ask ha (by decide)] at h
    cases h
  · rw [add_ask ha (by decide)] at h
    cases h
end Fo
/-- The five cells that Add's last region reads. -/
abbrev Five (D X : Nat) (v : Value) (x : Ent) (w : World) : Prop := w.cell? ⟨D, 0, none⟩ = some v ∧ w.cell? ⟨X, 0, none⟩ = some (.string x.1) ∧ w.cell? ⟨X, 1, none⟩ = some (.int .i64 x.2.1) ∧ w.cell? ⟨X, 2, none⟩ = some (.int .i64 x.2.2.1) ∧ w.cell? ⟨X, 3, none⟩ = some (.int .i64 x.2.2.2)
theorem five_step {D X : Nat} {v : Value} {x : Ent} {w w' : World} (h : Five D X v x w) (hb : Below w.heap.size w w') : Five D X v x w' :=
  ⟨cell_step h.1 hb, cell_step h.2.1 hb, cell_step h.2.2.1 hb, cell_step h.2.2.2.1 hb, cell_step h.2.2.2.2 hb⟩
theorem five_alloc {D X : Nat} {v : Value} {x : Ent} {w : World} (h : Five D X v x w) (o : Obj) : Five D X v x (w.alloc o) := five_step h ((Below.refl _ _).alloc (Nat.le_refl _) _)
theorem five_drew {D X : Nat} {v : Value} {x : Ent} {w : World} (h : Five D X v x w) : Five D X v x w.drew := h
theorem three_boxes (w : World) (v : Value) (next no gen : Int) : Below w.heap.size w (((w.alloc (BD v next)).alloc (BHf no gen)).alloc BZD) ∧ w.heap.size + 2 < (((w.alloc (BD v next)).alloc (BHf no gen)).alloc BZD).heap.size ∧
    (((w.alloc (BD v next)).alloc (BHf no gen)).alloc BZD).cell? ⟨w.heap.size, 0, none⟩ = some v ∧ (((w.alloc (BD v next)).alloc (BHf no gen)).alloc BZD).cell? ⟨w.heap.size, 1, none⟩ = some (.int .i64 next) ∧
    (((w.alloc (BD v next)).alloc (BHf no gen)).alloc BZD).cell? ⟨w.heap.size + 1, 0, none⟩ = some (.int .i64 no) ∧ (((w.alloc (BD v next)).alloc (BHf no gen)).alloc BZD).cell? ⟨w.heap.size + 1, 1, none⟩ = some (.int .i64 gen) ∧
    (((w.alloc (BD v next)).alloc (BHf no gen)).alloc BZD).heap[w.heap.size + 2]? = some BZD := by
  obtain ⟨h0, h1, h2, h3⟩ := two_boxes w v next no gen
  refine ⟨(((Below.refl _ w).alloc (Nat.le_refl _) _).alloc (by simp) _).alloc (by simp; omega) _, by simp, (cell_older (by simp; omega) _ _).trans h0, (cell_older (by simp; omega) _ _).trans h1, (cell_older (by simp) _ _).trans h2, (cell_older (by simp) _ _).trans h3, ?_⟩
  have hh := heap_alloc_new ((w.alloc (BD v next)).alloc (BHf no gen)) BZD
  rwa [show ((w.alloc (BD v next)).alloc (BHf no gen)).heap.size = w.heap.size + 2 by simp] at hh
theorem five_set {D X : Nat} {v : Value} {x : Ent} {w : World} (h : Five D X v x w) {p : Addr} (hD : D ≠ p.block) (hX : X ≠ p.block) (u : Value) : Five D X v x (w.setCell p u) :=
  ⟨(cell_block (Below.heap_setCell _ _ _ _ hD)).trans h.1, (cell_block (Below.heap_setCell _ _ _ _ hX)).trans h.2.1, (cell_block (Below.heap_setCell _ _ _ _ hX)).trans h.2.2.1, (cell_block (Below.heap_setCell _ _ _ _ hX)).trans h.2.2.2.1, (cell_block (Below.heap_setCell _ _ _ _ hX)).trans h.2.2.2.2⟩
theorem At.setCellF {α : Type} {E : Enc α} {S : Nat → Prop} {w : World} {v : Value} {l : List α} (h : At E S w v l) {p : Addr} (hp : ¬ S p.block) (u : Value) : At E S (w.setCell p u) v l :=
  h.keep (by simp [World.setCell]) fun b hS _ => ⟨Below.heap_setCell _ _ _ _ (fun e => hp (e ▸ hS)), hS⟩
/-- One entry in a block of its own. -/
theorem at_one {w : World} {B : Nat} {x : Ent} (h : w.heap[B]? = some (BE x)) : AtW EE w (.slice (some ⟨B, 0, none⟩) 1 1) [x] := by
  refine .inr ⟨B, 0, 1, rfl, trivial, (Array.getElem?_eq_some_iff.1 h).1, by simp, by simp, by decide, fun j u hj => ?_⟩
  simp only [World.cell?, h, Nat.zero_add]
  simpa [Enc.flat, EE] using hj
theorem concat_add (w1 : World) (v : Value) (l : List Ent) (x : Ent) (hv : AtW EE w1 v l) (hl : l.length + 1 ≤ 2199023255552) :
    Calls Try.prog 73 #[.slice (some ⟨w1.heap.size + 1 + 1, 0, none⟩) 2 2] (((w1.alloc (BE x)).alloc (BE x)).alloc (.cells #[v, .slice (some ⟨w1.heap.size + 1, 0, none⟩) 1 1] 48)).drew
      fun e w' => ∃ u, e = .returned u ∧ Row EE w' (w1.heap.size + 1 + 1 + 1) 62 u (l ++ [x]) ∧ Below (((w1.alloc (BE x)).alloc (BE x)).alloc (.cells #[v, .slice (some ⟨w1.heap.size + 1, 0, none⟩) 1 1] 48)).drew.heap.size (((w1.alloc (BE x)).alloc (BE x)).alloc (.cells #[v, .slice (some ⟨w1.heap.size + 1, 0, none⟩) 1 1] 48)).drew w' := by
  have hh := heap_alloc_new ((w1.alloc (BE x)).alloc (BE x)) (.cells #[v, .slice (some ⟨w1.heap.size + 1, 0, none⟩) 1 1] 48)
  have h2 := heap_alloc_new (w1.alloc (BE x)) (BE x)
  have z1 : (w1.alloc (BE x)).heap.size = w1.heap.size + 1 := by simp
  have z2 : ((w1.alloc (BE x)).alloc (BE x)).heap.size = w1.heap.size + 1 + 1 := by simp
  rw [z1] at h2
  rw [z2] at hh
  have hb1 : Below w1.heap.size w1 (((w1.alloc (BE x)).alloc (BE x)).alloc (.cells #[v, .slice (some ⟨w1.heap.size + 1, 0, none⟩) 1 1] 48)) := (((Below.refl _ w1).alloc (Nat.le_refl _) _).alloc (by simp) _).alloc (by simp; omega) _
  have h2' := (Below.heap_alloc ((w1.alloc (BE x)).alloc (BE x)) (.cells #[v, .slice (some ⟨w1.heap.size + 1, 0, none⟩) 1 1] 48) (w1.heap.size + 1) (by rw [z2]; omega)).trans h2
  have z3 : (((w1.alloc (BE x)).alloc (BE x)).alloc (.cells #[v, .slice (some ⟨w1.heap.size + 1, 0, none⟩) 1 1] 48)).heap.size = w1.heap.size + 1 + 1 + 1 := by simp
  have hv3 := hv.up hb1
  have h1 := at_one h2'
  generalize ((w1.alloc (BE x)).alloc (BE x)).alloc (.cells #[v, .slice (some ⟨w1.heap.size + 1, 0, none⟩) 1 1] 48) = w3 at *
  have hc := concat_two (w1.heap.size + 1 + 1) v _ l [x] w3.drew (by show _ < w3.heap.size; omega) (by simp only [World.cell?]; rw [show w3.drew.heap[w1.heap.size + 1 + 1]? = w3.heap[w1.heap.size + 1 + 1]? from rfl, hh]; rfl) (by simp only [World.cell?]; rw [show w3.drew.heap[w1.heap.size + 1 + 1]? = w3.heap[w1.heap.size + 1 + 1]? from rfl, hh]; rfl) hv3 h1 (by simpa using hl)
  refine hc.mono ?_
  rintro e w5 ⟨u, rfl, hr, hb⟩
  refine ⟨u, rfl, ?_, hb⟩
  rw [← z3]
  exact hr
set_option maxHeartbeats 2000000 in
theorem add_any (v : Value) (l : List Ent) (next : Int) (s : ByteArray) (no gen : Int) (w : World) (hv : AtW EE w v l) (hs : ∀ x ∈ l, x.1.size ≤ maxLen) (hn : s.size ≤ maxLen) :
    Calls Try.prog 46 #[VD v next, .string s, VHf no gen] w fun e w' => ∃ u, e = .returned (.tuple #[VD u (if Fo.addErr l next s no gen = 0 then next + 1 else 0), .int .i64 (Fo.addErr l next s no gen)]) ∧
      At EE (fun b => w.heap.size ≤ b) w' u (if Fo.addErr l next s no gen = 0 then l ++ [(s, next + 1, no, gen)] else []) ∧ Below w.heap.size w w' := by
  have hv0 := hv
  obtain ⟨ao, cap, rfl, hm, -⟩ := hv0.open
  clear hv0
  unfold maxLen at hm
  obtain ⟨m, hlm⟩ : ∃ m, l.length = m := ⟨_, rfl⟩
  rw [hlm] at hm hv ⊢
  have HLM : Hid (l.length = m) := hlm
  clear hlm
  obtain ⟨v, hvv⟩ : ∃ v, v = Value.slice ao m cap := ⟨_, rfl⟩
  rw [← hvv] at hv ⊢
  obtain ⟨hb0, hws, a0, a1, a2, a3, a4⟩ := three_boxes w v next no gen
  obtain ⟨W, hW⟩ : ∃ W, W = ((w.alloc (BD v next)).alloc (BHf no gen)).alloc BZD := ⟨_, rfl⟩
  rw [← hW] at hb0 hws a0 a1 a2 a3 a4
  have HB0 : Hid (Below w.heap.size w W) := hb0
  have HA0 : Hid (W.heap[w.heap.size + 2]? = some BZD) := a4
  have HV : Hid (AtW EE W v l) := hv.up HB0.out
  have HS : Hid (∀ x ∈ l, x.1.size ≤ maxLen) := hs
  have HNN : Hid (s.size ≤ maxLen) := hn
  clear hv hs hn hb0 a4
  obtain ⟨fe, hfe⟩ : ∃ fe, Fo.addErr l next s no gen = fe := ⟨_, rfl⟩
  have HE : Hid (Fo.addErr l next s no gen = fe) := hfe
  rw [hfe]
  by_cases hz : fe = 0
  · have HR : Hid (Fo.Right l next ∧ next < 1099511627776) := by
      have h0 := Fo.add_zero (hfe.trans hz)
      have h1 := h0.1.1.2
      exact ⟨h0.1, by have := h0.2.2.2.2; omega⟩
    obtain ⟨hn0, hn1⟩ : 0 ≤ next ∧ next < 1099511627776 := ⟨HR.out.1.1.1, HR.out.2⟩
    subst hz
    subst hvv
    rw [if_pos rfl, if_pos rfl]
    clear hfe
    go_enter Try.func46, Try.ntmps46
    go_wp2_with fail
    rw [← hW]
    refine (refuseAdd_any _ l next s no gen _ HV.out HS.out HNN.out).mono ?_
    rintro e w1 ⟨rfl, hb⟩
    rw [HE.out]
    have HB1 : Hid (Below w.heap.size w w1) := HB0.out.trans (hb.mono HB0.out.size)
    have HA1 : Hid (w1.heap[w.heap.size + 2]? = some BZD) := (hb.block _ hws).trans HA0.out
    have e0 := cell_next a0 hb (by omega)
    have e1 := cell_next a1 hb (by omega)
    have e2 := cell_next a2 hb (by omega)
    have e3 := cell_next a3 hb (by omega)
    have HV1 : Hid (AtW EE w1 (.slice ao m cap) l) := HV.out.up hb
    have hs1 := hb.size
    clear hb hW a0 a1 a2 a3
    have HSS : Hid (Five w.heap.size w1.heap.size (.slice ao m cap) (s, next + 1, no, gen) (w1.alloc (BE (s, next + 1, no, gen)))) := by
      have hh := heap_alloc_new w1 (BE (s, next + 1, no, gen))
      refine ⟨(cell_older (by omega) _ _).trans e0, ?_, ?_, ?_, ?_⟩ <;> simp only [World.cell?, hh] <;> rfl
    have HRL : Hid (l.length ≤ 1099511627776) := by
      have := Fo.right_len HR.out.1
      show l.length ≤ 1099511627776
      omega
    have HZ : Hid (∀ w5, Below (((w1.alloc (BE (s, next + 1, no, gen))).alloc (BE (s, next + 1, no, gen))).alloc (.cells #[.slice ao m cap, .slice (some ⟨w1.heap.size + 1, 0, none⟩) 1 1] 48)).drew.heap.size (((w1.alloc (BE (s, next + 1, no, gen))).alloc (BE (s, next + 1, no, gen))).alloc (.cells #[.slice ao m cap, .slice (some ⟨w1.heap.size + 1, 0, none⟩) 1 1] 48)).drew w5 → w5.heap[w.heap.size + 2]? = some BZD) := fun w5 hb => by
      have hl := (Array.getElem?_eq_some_iff.1 HA1.out).1
      rw [hb.block _ (by show _ < Array.size _; simp; omega)]
      exact (Below.heap_alloc _ _ _ (by simp; omega)).trans ((Below.heap_alloc _ _ _ (by simp; omega)).trans ((Below.heap_alloc _ _ _ hl).trans HA1.out))
    have hne1 : w.heap.size ≠ w.heap.size + 2 := by omega
    have hne2 : w1.heap.size ≠ w.heap.size + 2 := by omega
    go_wp2_with fail
    go_region_held3 (fun w' => w'.cell? ⟨w.heap.size, 0, none⟩ = some (.slice ao m cap) ∧ w'.cell? ⟨w1.heap.size, 0, none⟩ = some (.string s) ∧ w'.cell? ⟨w1.heap.size, 1, none⟩ = some (.int .i64 (next + 1)) ∧ w'.cell? ⟨w1.heap.size, 2, none⟩ = some (.int .i64 no) ∧ w'.cell? ⟨w1.heap.size, 3, none⟩ = some (.int .i64 gen)) (first | exact HSS.out | exact five_drew HSS.out | exact five_drew (five_alloc HSS.out _) | exact five_drew (five_alloc (five_alloc HSS.out _) _) | exact five_alloc HSS.out _ | exact five_alloc (five_alloc HSS.out _) _ | exact five_step (five_drew (five_alloc (five_alloc HSS.out _) _)) (by assumption) | exact five_set (five_step (five_drew (five_alloc (five_alloc HSS.out _) _)) (by assumption)) hne1 hne2 _ | exact five_set (five_set (five_step (five_drew (five_alloc (five_alloc HSS.out _) _)) (by assumption)) hne1 hne2 _) hne1 hne2 _) (first
      | (go_at_call 73; refine (concat_add w1 _ l (s, next + 1, no, gen) HV1.out (by have := HLM.out; have := HRL.out; omega)).mono ?_; rintro e w5 ⟨u, rfl, hr, hb5⟩; obtain ⟨pu, cu, rfl⟩ := hr.slice; obtain ⟨⟨z0, z1⟩, zf⟩ := dir_of (HZ.out w5 hb5)))
    have HEND : Hid (At EE (fun b => w1.heap.size ≤ b) w5 (.slice pu (l.length + 1) cu) (l ++ [(s, next + 1, no, gen)]) ∧ Below w.heap.size w w5 ∧ w.heap.size + 2 < w1.heap.size) := by
      have hl := (Array.getElem?_eq_some_iff.1 HA1.out).1
      have h := hr.at.imp (T := fun b => w1.heap.size ≤ b) (fun b hb _ => by omega)
      rw [List.length_append, List.length_singleton] at h
      have h3 : Below w.heap.size w (((w1.alloc (BE (s, next + 1, no, gen))).alloc (BE (s, next + 1, no, gen))).alloc (.cells #[.slice ao m cap, .slice (some ⟨w1.heap.size + 1, 0, none⟩) 1 1] 48)) := ((HB1.out.alloc (by omega) _).alloc (by simp; omega) _).alloc (by simp; omega) _
      exact ⟨h, h3.trans ((undrew hb5).mono h3.size), hl⟩
    clear hr hb5 e0 e1 e2 e3
    go_wp2
    (try simp only [Exit.inBlock, Exit.then])
    refine bodyPost_ret (v := .tuple #[VD (.slice pu (l.length + 1) cu) (next + 1), .int .i64 0]) ?_ rfl ⟨.slice pu (l.length + 1) cu, rfl, ?_, ?_⟩
    · rw [results_cell_tmp rfl]
      go_simp
    · have hS := HEND.out.2.2
      refine At.imp (S := fun b => w1.heap.size ≤ b) ?_ (fun b hb _ => by omega)
      repeat (refine At.setCellF ?_ (by simp; omega) _)
      exact HEND.out.1
    · repeat (refine Below.setCell ?_ (by simp; omega) _)
      exact HEND.out.2.1
  · rw [if_neg hz, if_neg hz]
    have hz' : (fe == 0) = false := beq_eq_false_iff_ne.2 hz
    subst hvv
    clear hfe hz
    go_enter Try.func46, Try.ntmps46
    go_wp2_with fail
    rw [← hW]
    refine (refuseAdd_any _ l next s no gen _ HV.out HS.out HNN.out).mono ?_
    rintro e w1 ⟨rfl, hb⟩
    rw [HE.out]
    have HB1 : Hid (Below w.heap.size w w1) := HB0.out.trans (hb.mono HB0.out.size)
    have HA1 : Hid (w1.heap[w.heap.size + 2]? = some BZD) := (hb.block _ hws).trans HA0.out
    obtain ⟨⟨z0, z1⟩, zf⟩ := dir_of HA1.out
    clear hb hW a0 a1 a2 a3
    go_wp2
    (try simp only [Exit.inBlock, Exit.then])
    refine bodyPost_ret (v := .tuple #[VD (.slice none 0 0) 0, .int .i64 fe]) ?_ rfl ⟨.slice none 0 0, rfl, At.nil, ?_⟩
    · rw [results_cell_tmp rfl]
      go_simp
    · repeat (refine Below.setCell ?_ (by simp; omega) _)
      exact HB1.out
end Go.Proofs.Ytacghcoikekfeaa
/- FRem -/
namespace Go.Proofs.Ytacghcoikekfeaa
open Go.ChangeShapes Go.WideShapes Go.ChangeAt Go.RowKit Go.Deep
set_option maxRecDepth 100000
abbrev Two (D : Nat) (v : Value) (n : Int) (w : World) : Prop := w.cell? ⟨D, 0, none⟩ = some v ∧ w.cell? ⟨D, 1, none⟩ = some (.int .i64 n)
theorem tw_step {D : Nat} {v : Value} {n : Int} {w w' : World} (h : Two D v n w) (hb : Below w.heap.size w w') : Two D v n w' := ⟨cell_step h.1 hb, cell_step h.2 hb⟩
theorem tw_alloc {D : Nat} {v : Value} {n : Int} {w : World} (h : Two D v n w) (o : Obj) : Two D v n (w.alloc o) := tw_step h ((Below.refl _ _).alloc (Nat.le_refl _) _)
theorem tw_drew {D : Nat} {v : Value} {n : Int} {w : World} (h : Two D v n w) : Two D v n w.drew := h
theorem tw_set {D : Nat} {v : Value} {n : Int} {w : World} (h : Two D v n w) {p : Addr} (hD : D ≠ p.block) (u : Value) : Two D v n (w.setCell p u) :=
  ⟨(cell_block (Below.heap_setCell _ _ _ _ hD)).trans h.1, (cell_block (Below.heap_setCell _ _ _ _ hD)).trans h.2⟩
theorem At.cut {α : Type} {E : Enc α} {S : Nat → Prop} {w : World} {b off m cap : Nat} {l : List α} (h : At E S w (.slice (some ⟨b, off, none⟩) m cap) l) {lo hi : Nat} (h1 : lo ≤ hi) (h2 : hi ≤ m) : At E S w (sliced (some ⟨b, off, none⟩) lo hi cap E.sz) ((l.take hi).drop lo) := by
  by_cases he : hi = lo
  · have hz : (l.take hi).drop lo = [] := by
      apply List.eq_nil_of_length_eq_zero
      simp
      omega
    unfold sliced
    rw [hz, show hi - lo = 0 by omega]
    exact .inl ⟨_, _, rfl, rfl⟩
  · rcases h with ⟨ao, c, hv, rfl⟩ | ⟨b', off', c', hv, hS, hb, hp, hc, hm, hx⟩
    · simp only [Value.slice.injEq] at hv
      omega
    · simp only [Value.slice.injEq, Option.some.injEq, Addr.mk.injEq, and_true] at hv
      obtain ⟨⟨rfl, rfl⟩, rfl, rfl⟩ := hv
      have hlen : ((l.take hi).drop lo).length = hi - lo := by simp; omega
      refine .inr ⟨b, off + lo * E.sz, cap - lo, ?_, hS, hb, by omega, by omega, by omega, fun j u hj => ?_⟩
      · rw [hlen]
        unfold sliced
        rw [if_neg (by omega)]
        simp [WideShapes.add_plain]
      · have e : l = l.take lo ++ ((l.take hi).drop lo ++ l.drop hi) := by
          have e1 : l.take lo = (l.take hi).take lo := by rw [List.take_take, Nat.min_eq_left h1]
          rw [← List.append_assoc, e1, List.take_append_drop, List.take_append_drop]
        have hlt := (List.getElem?_eq_some_iff.1 hj).1
        have hl0 : (E.flat (l.take lo)).length = lo * E.sz := by rw [E.flat_length, List.length_take, Nat.min_eq_left (by omega)]
        have := hx (lo * E.sz + j) u (by
          rw [e, E.flat_append, E.flat_append, List.getElem?_append_right (by omega), hl0, show lo * E.sz + j - lo * E.sz = j by omega, List.getElem?_append_left hlt]
          exact hj)
        rwa [← Nat.add_assoc] at this
set_option maxRecDepth 100000 in
theorem run_cut_h (w : World) (a : Option Addr) (m cap k : Nat) (hk : k ≤ cap) : (Instr.slice 48 (.slice a m cap) none (some (.int .i64 (k : Int))) none).run Try.prog w = .ok (sliced a 0 k cap EE.sz) w := by
  rw [run_slice_h (P := Try.prog) w 48 a m cap Try.underlying48 .i64 (k : Int) (by omega) (by omega)]
  rfl
set_option maxRecDepth 100000 in
theorem run_cut_l (w : World) (a : Option Addr) (m cap k : Nat) (hk : k + 1 ≤ m) : (Instr.slice 48 (.slice a m cap) (some (.int .i64 ((k : Int) + 1))) none none).run Try.prog w = .ok (sliced a (k + 1) m cap EE.sz) w := by
  rw [run_slice_l (P := Try.prog) w 48 a m cap Try.underlying48 .i64 ((k : Int) + 1) (by omega) (by omega), show ((k : Int) + 1).toNat = k + 1 by omega]
  rfl
theorem concat_rem (w1 : World) (v1 v2 : Value) (l1 l2 : List Ent) (h1 : AtW EE w1 v1 l1) (h2 : AtW EE w1 v2 l2) (hl : l1.length + l2.length ≤ 2199023255552) :
    Calls Try.prog 73 #[.slice (some ⟨w1.heap.size, 0, none⟩) 2 2] (w1.alloc (.cells #[v1, v2] 48)).drew
      fun e w' => ∃ u, e = .returned u ∧ Row EE w' (w1.heap.size + 1) 62 u (l1 ++ l2) ∧ Below (w1.alloc (.cells #[v1, v2] 48)).drew.heap.size (w1.alloc (.cells #[v1, v2] 48)).drew w' := by
  have hh := heap_alloc_new w1 (.cells #[v1, v2] 48)
  have z3 : (w1.alloc (.cells #[v1, v2] 48)).heap.size = w1.heap.size + 1 := by simp
  have hb : Below w1.heap.size w1 (w1.alloc (.cells #[v1, v2] 48)) := (Below.refl _ _).alloc (Nat.le_refl _) _
  have k1 := h1.up hb
  have k2 := h2.up hb
  generalize w1.alloc (.cells #[v1, v2] 48) = w3 at *
  have hc := concat_two w1.heap.size v1 v2 l1 l2 w3.drew (by show _ < w3.heap.size; omega) (by simp only [World.cell?]; rw [show w3.drew.heap[w1.heap.size]? = w3.heap[w1.heap.size]? from rfl, hh]; rfl) (by simp only [World.cell?]; rw [show w3.drew.heap[w1.heap.size]? = w3.heap[w1.heap.size]? from rfl, hh]; rfl) k1 k2 hl
  refine hc.mono ?_
  rintro e w5 ⟨u, rfl, hr, hb⟩
  refine ⟨u, rfl, ?_, hb⟩
  rw [← z3]
  exact hr
theorem Row.slice3 {α : Type} {E : Enc α} {w : World} {B : Nat} {e : TypeId} {v : Value} {ls : List α} (h : Row E w B e v ls) : ∃ p n c, v = .slice p n c := by
  obtain ⟨p, c, h⟩ := h.slice
  exact ⟨p, _, c, h⟩
theorem At.capd {α : Type} {E : Enc α} {S : Nat → Prop} {w : World} {a : Option Addr} {m cap : Nat} {l : List α} (h : At E S w (.slice a m cap) l) (h0 : 0 < m) : m ≤ cap ∧ cap ≤ maxLen := by
  rcases h with ⟨ao, c, hv, rfl⟩ | ⟨b', off', c', hv, hS, hb, hp, hc, hm, hx⟩
  · simp only [Value.slice.injEq] at hv
    omega
  · simp only [Value.slice.injEq] at hv
    omega
set_option maxHeartbeats 2000000 in
theorem remove_any (v : Value) (l : List Ent) (next : Int) (s : ByteArray) (w : World) (hv : AtW EE w v l) (hs : ∀ x ∈ l, x.1.size ≤ maxLen) (hn : s.size ≤ maxLen) :
    Calls Try.prog 52 #[VD v next, .string s] w fun e w' => ∃ u, e = .returned (.tuple #[VD u (if Fo.findErr l next s = 0 then next else 0), .int .i64 (Fo.findErr l next s)]) ∧
      At EE (fun b => w.heap.size ≤ b) w' u (if Fo.findErr l next s = 0 then l.eraseIdx (Fo.plc l next s).toNat else []) ∧ Below w.heap.size w w' := by
  have hv0 := hv
  obtain ⟨ao, cap, rfl, hm, hx⟩ := hv0.open
  clear hv0
  unfold maxLen at hm
  obtain ⟨m, hlm⟩ : ∃ m, l.length = m := ⟨_, rfl⟩
  rw [hlm] at hm hv ⊢
  have HLM : Hid (l.length = m) := hlm
  clear hlm
  obtain ⟨v, hvv⟩ : ∃ v, v = Value.slice ao m cap := ⟨_, rfl⟩
  rw [← hvv] at hv ⊢
  obtain ⟨W, hW⟩ : ∃ W, W = (w.alloc (BD v next)).alloc BZD := ⟨_, rfl⟩
  have HB0 : Hid (Below w.heap.size w W) := by show Below w.heap.size w W; rw [hW]; exact ((Below.refl _ w).alloc (Nat.le_refl _) _).alloc (by simp) _
  have HA0 : Hid (W.heap[w.heap.size + 1]? = some BZD) := by
    have := heap_alloc_new (w.alloc (BD v next)) BZD
    rw [← hW] at this
    rwa [show (w.alloc (BD v next)).heap.size = w.heap.size + 1 by simp] at this
  have hws : w.heap.size + 1 < W.heap.size := by rw [hW]; simp
  obtain ⟨a0, a1⟩ : W.cell? ⟨w.heap.size, 0, none⟩ = some v ∧ W.cell? ⟨w.heap.size, 1, none⟩ = some (.int .i64 next) := by
    have := box_cells w v next
    rw [hW]
    exact ⟨(cell_older (by simp) _ _).trans this.1, (cell_older (by simp) _ _).trans this.2⟩
  have HV : Hid (AtW EE W v l) := hv.up HB0.out
  have HS : Hid (∀ x ∈ l, x.1.size ≤ maxLen) := hs
  have HNN : Hid (s.size ≤ maxLen) := hn
  have HCAP : Hid (v = .slice ao m cap ∧ AtW EE w v l) := ⟨hvv, hv⟩
  clear hv hs hn
  rcases Fo.findErr_or l next s with ⟨k, x, he, hp, hxk, -, -, hr, -⟩ | ⟨hp, he⟩
  · have HE : Hid (Fo.findErr l next s = 0) := he
    have HP : Hid (Fo.plc l next s = k) := hp
    have hk := (List.getElem?_eq_some_iff.1 hxk).1
    rw [HLM.out] at hk
    obtain ⟨bb, off, rfl, -, hB, -⟩ := hx k x hxk
    have hcap := (show At EE (fun _ => True) w (.slice (some ⟨bb, off, none⟩) m cap) l from by have := HCAP.out; rw [← this.1]; exact this.2).capd (by omega)
    unfold maxLen at hcap
    have HRL : Hid (l.length ≤ 1099511627776) := by
      have := Fo.right_len hr
      have := hr.1.2
      show l.length ≤ 1099511627776
      omega
    rw [HE.out, HP.out, if_pos rfl, if_pos rfl]
    obtain ⟨q1, c1, hs1⟩ : ∃ q c, sliced (some ⟨bb, off, none⟩) 0 k cap EE.sz = .slice q k c := ⟨_, _, rfl⟩
    obtain ⟨q2, c2, hs2⟩ : ∃ q c, sliced (some ⟨bb, off, none⟩) (k + 1) m cap EE.sz = .slice q (m - (k + 1)) c := ⟨_, _, rfl⟩
    have hsl1 : ∀ w', (Instr.slice 48 (.slice (some ⟨bb, off, none⟩) m cap) none (some (.int .i64 (k : Int))) none).run Try.prog w' = .ok (.slice q1 k c1) w' := fun w' => by rw [run_cut_h w' _ m cap k (by omega), hs1]
    have hsl2 : ∀ w', (Instr.slice 48 (.slice (some ⟨bb, off, none⟩) m cap) (some (.int .i64 ((k : Int) + 1))) none none).run Try.prog w' = .ok (.slice q2 (m - (k + 1)) c2) w' := fun w' => by rw [run_cut_l w' _ m cap k (by omega), hs2]
    have HCUT : Hid (∀ w', AtW EE w' (.slice (some ⟨bb, off, none⟩) m cap) l → AtW EE w' (.slice q1 k c1) (l.take k) ∧ AtW EE w' (.slice q2 (m - (k + 1)) c2) (l.drop (k + 1))) := fun w' h => by
      have g1 := h.cut (lo := 0) (hi := k) (Nat.zero_le _) (by omega)
      have g2 := h.cut (lo := k + 1) (hi := m) (by omega) (Nat.le_refl _)
      rw [hs1] at g1
      rw [hs2, ← HLM.out, List.take_length] at g2
      rw [← HLM.out]
      exact ⟨by simpa using g1, g2⟩
    obtain ⟨n2, hn2⟩ : ∃ n2, m - (k + 1) = n2 := ⟨_, rfl⟩
    rw [hn2] at hsl2 HCUT
    have hle : l.length - (k + 1) + k ≤ l.length := by have := HLM.out; omega
    have HKL : Hid ((l.take k).length + (l.drop (k + 1)).length ≤ 2199023255552) := by
      show (l.take k).length + (l.drop (k + 1)).length ≤ 2199023255552
      have := HRL.out
      simp only [List.length_take, List.length_drop]
      omega
    have k4 : IntKind.i64.wrap ((k : Int) + 1) = (k : Int) + 1 := by rw [IntKind.wrap_i64]; omega
    clear hs1 hs2 hn2 hcap hle
    subst hvv
    clear he hp hx hxk hr
    go_enter Try.func52, Try.ntmps52
    go_wp2_with fail
    rw [← hW]
    refine (place_any _ l next s _ HV.out HS.out HNN.out).mono ?_
    rintro e w1 ⟨rfl, hb⟩
    rw [HE.out, HP.out]
    have HB1 : Hid (Below w.heap.size w w1) := HB0.out.trans (hb.mono HB0.out.size)
    have HA1 : Hid (w1.heap[w.heap.size + 1]? = some BZD) := (hb.block _ hws).trans HA0.out
    have HSS : Hid (Two w.heap.size (.slice (some ⟨bb, off, none⟩) m cap) next w1) := tw_step ⟨a0, a1⟩ hb
    have HV1 : Hid (AtW EE w1 (.slice (some ⟨bb, off, none⟩) m cap) l) := HV.out.up hb
    have hs1 := hb.size
    clear hb hW a0 a1
    have HZ : Hid (∀ w5, Below (w1.alloc (.cells #[.slice q1 k c1, .slice q2 n2 c2] 48)).drew.heap.size (w1.alloc (.cells #[.slice q1 k c1, .slice q2 n2 c2] 48)).drew w5 → w5.heap[w.heap.size + 1]? = some BZD) := fun w5 hb => by
      have hl := (Array.getElem?_eq_some_iff.1 HA1.out).1
      rw [hb.block _ (by show _ < Array.size _; simp; omega)]
      exact (Below.heap_alloc _ _ _ hl).trans HA1.out
    have hne1 : w.heap.size ≠ w.heap.size + 1 := by omega
    go_wp2_with fail
    go_region_held3 (fun w' => w'.cell? ⟨w.heap.size, 0, none⟩ = some (.slice (some ⟨bb, off, none⟩) m cap) ∧ w'.cell? ⟨w.heap.size, 1, none⟩ = some (.int .i64 next)) (first | exact HSS.out | exact tw_drew HSS.out | exact tw_drew (tw_alloc HSS.out _) | exact tw_alloc HSS.out _ | exact tw_step (tw_drew (tw_alloc HSS.out _)) (by assumption) | exact tw_set (tw_set (tw_step (tw_drew (tw_alloc HSS.out _)) (by assumption)) hne1 _) hne1 _) (first
      | (go_at_call 73; refine (concat_rem w1 _ _ _ _ (HCUT.out _ HV1.out).1 (HCUT.out _ HV1.out).2 HKL.out).mono ?_; rintro e w5 ⟨u, rfl, hr, hb5⟩; obtain ⟨pu, nu, cu, rfl⟩ := hr.slice3; obtain ⟨⟨z0, z1⟩, zf⟩ := dir_of (HZ.out w5 hb5)))
    have HEND : Hid (At EE (fun b => w1.heap.size ≤ b) w5 (.slice pu nu cu) (l.eraseIdx k) ∧ Below w.heap.size w w5 ∧ w.heap.size + 1 < w1.heap.size) := by
      have hl := (Array.getElem?_eq_some_iff.1 HA1.out).1
      have h := hr.at.imp (T := fun b => w1.heap.size ≤ b) (fun b hb _ => by omega)
      rw [← List.eraseIdx_eq_take_drop_succ] at h
      have h3 : Below w.heap.size w (w1.alloc (.cells #[.slice q1 k c1, .slice q2 n2 c2] 48)) := HB1.out.alloc (by omega) _
      exact ⟨h, h3.trans ((undrew hb5).mono h3.size), hl⟩
    clear hr hb5 hsl1 hsl2
    go_wp2
    (try simp only [Exit.inBlock, Exit.then])
    refine bodyPost_ret (v := .tuple #[VD (.slice pu nu cu) next, .int .i64 0]) ?_ rfl ⟨.slice pu nu cu, rfl, ?_, ?_⟩
    · rw [results_cell_tmp rfl]
      go_simp
    · have hS := HEND.out.2.2
      rw [show ((k : Int)).toNat = k from by omega]
      refine At.imp (S := fun b => w1.heap.size ≤ b) ?_ (fun b hb _ => by omega)
      repeat (refine At.setCellF ?_ (by simp; omega) _)
      exact HEND.out.1
    · repeat (refine Below.setCell ?_ (by simp) _)
      exact HEND.out.2.1
  · obtain ⟨fe, hfe⟩ : ∃ fe, Fo.findErr l next s = fe := ⟨_, rfl⟩
    have HE : Hid (Fo.findErr l next s = fe) := hfe
    have HP : Hid (Fo.plc l next s = 0) := hp
    rw [hfe] at he
    have hz : fe ≠ 0 := by omega
    rw [HE.out, if_neg hz, if_neg hz]
    have hz' : (fe == 0) = false := beq_eq_false_iff_ne.2 hz
    subst hvv
    clear hfe hz he hx hp
    go_enter Try.func52, Try.ntmps52
    go_wp2_with fail
    rw [← hW]
    refine (place_any _ l next s _ HV.out HS.out HNN.out).mono ?_
    rintro e w1 ⟨rfl, hb⟩
    rw [HE.out, HP.out]
    have HB1 : Hid (Below w.heap.size w w1) := HB0.out.trans (hb.mono HB0.out.size)
    have HA1 : Hid (w1.heap[w.heap.size + 1]? = some BZD) := (hb.block _ hws).trans HA0.out
    obtain ⟨⟨z0, z1⟩, zf⟩ := dir_of HA1.out
    clear hb hW a0 a1
    go_wp2
    (try simp only [Exit.inBlock, Exit.then])
    refine bodyPost_ret (v := .tuple #[VD (.slice none 0 0) 0, .int .i64 fe]) ?_ rfl ⟨.slice none 0 0, rfl, At.nil, ?_⟩
    · rw [results_cell_tmp rfl]
      go_simp
    · repeat (refine Below.setCell ?_ (by simp) _)
      exact HB1.out
end Go.Proofs.Ytacghcoikekfeaa
/- SpF -/
namespace Go.Proofs.Ytacghcoikekfeaa
open Go.ChangeShapes Go.WideShapes Go.ChangeAt Go.RowKit Go.Deep It
set_option maxRecDepth 100000
set_option maxHeartbeats 2000000 in
theorem findOwn_any {S : Nat → Prop} (v : Value) (L : List Rw) (a b : Int) (w : World) (hv : TabAt S w v L) :
    Calls Try.prog 54 #[v, .agg #[.int .i64 a, .int .i64 b]] w fun e w' => ∃ x : Rw, e = .returned (.tuple #[VI x, .int .i64 (findErr (pl L) a b)]) ∧ x.i = findI (pl L) a b ∧ Good (fun b => w.heap.size ≤ b) w' x ∧ Below w.heap.size w w' := by
  obtain ⟨W, hW⟩ : ∃ W, W = (w.alloc (BH a b)).alloc BZ := ⟨_, rfl⟩
  have HB0 : Hid (Below w.heap.size w W) := by show Below w.heap.size w W; rw [hW]; exact ((Below.refl _ w).alloc (Nat.le_refl _) _).alloc (by simp) _
  have HA0 : Hid (W.heap[w.heap.size]? = some (BH a b) ∧ W.heap[w.heap.size + 1]? = some BZ) := by
    rw [hW]
    refine ⟨(Below.heap_alloc _ _ _ (by simp)).trans (heap_alloc_new _ _), ?_⟩
    have := heap_alloc_new (w.alloc (BH a b)) BZ
    rwa [show (w.alloc (BH a b)).heap.size = w.heap.size + 1 by simp] at this
  have hws : w.heap.size + 1 < W.heap.size := by rw [hW]; simp
  have HV : Hid (TabAt S W v L) := hv.up HB0.out
  obtain ⟨⟨a0, a1⟩, _⟩ := two_of HA0.out.1
  obtain ⟨ao, cap, rfl, _, _⟩ := hv.open
  clear hv
  obtain ⟨fe, hfe⟩ : ∃ fe, findErr (pl L) a b = fe := ⟨_, rfl⟩
  have HFE : Hid (findErr (pl L) a b = fe) := hfe
  rw [hfe]
  by_cases hz : fe = 0
  · rw [hz] at hfe HFE
    subst hz
    obtain ⟨hr, hn⟩ := It.right_of_find hfe
    obtain ⟨k, x, rfl, hxk, hg, hk, hkl⟩ := It.named hn
    have HX : Hid (findI (pl L) k b = x.i) := by
      show findI (pl L) k b = x.i
      unfold findI
      rw [if_pos hfe, show ((k : Int)).toNat = k from by omega, It.pl_get hxk]
      rfl
    obtain ⟨m, hm⟩ : ∃ m, L.length = m := ⟨_, rfl⟩
    have hkI : (k : Int) < (m : Int) := by omega
    rw [hm] at HV ⊢
    have HXK : Hid (L[k]? = some x) := hxk
    clear hfe hr hn hxk hg hk hkl hm
    go_enter Try.func54, Try.ntmps54
    go_wp2_with fail
    rw [← hW]
    refine (refuse_any _ L k b _ HV.out).mono ?_
    rintro e w1 ⟨rfl, hb1⟩
    rw [HFE.out]
    have HB1 : Hid (Below w.heap.size w w1) := HB0.out.trans (hb1.mono HB0.out.size)
    have HA1 : Hid (w1.heap[w.heap.size]? = some (BH k b) ∧ w1.heap[w.heap.size + 1]? = some BZ) := ⟨(hb1.block _ (by omega)).trans HA0.out.1, (hb1.block _ (by omega)).trans HA0.out.2⟩
    have HV1 : Hid (TabAt S w1 (.slice ao m cap) L) := HV.out.up hb1
    have hws1 : w.heap.size + 1 < w1.heap.size := by have := hb1.size; omega
    obtain ⟨⟨e0, e1⟩, _⟩ := two_of HA1.out.1
    obtain ⟨ao', cap', hv', _, hx'⟩ := HV1.out.open
    obtain ⟨⟨bb, off, hbo, hB, hc⟩, hgx⟩ := hx' k x HXK.out
    simp only [Value.slice.injEq] at hv'
    obtain ⟨rfl, _, rfl⟩ := hv'
    subst hbo
    obtain ⟨c0, c1, c2, c3, c4, c5, c6, c7⟩ := hc
    have HGX : Hid (Good S w1 x) := hgx
    clear hb1 hx' hgx hW a0 a1 HV HA0
    go_wp2_with fail
    refine (own_any x _ HGX.out).mono ?_
    rintro e w2 ⟨y, rfl, hyi, hyg, hb2⟩
    have HB2 : Hid (Below w.heap.size w w2) := HB1.out.trans (hb2.mono HB1.out.size)
    have HA2 : Hid (w2.heap[w.heap.size + 1]? = some BZ) := (hb2.block _ hws1).trans HA1.out.2
    have HY : Hid (y.i = findI (pl L) k b ∧ Good (fun b => w1.heap.size ≤ b) w2 y) := ⟨hyi.trans HX.out.symm, hyg⟩
    have HS1 : Hid (w.heap.size + 1 < w1.heap.size) := hws1
    obtain ⟨⟨z0, z1, z2, z3, z4, z5, z6, z7⟩, zf⟩ := eight_of HA2.out
    obtain ⟨⟨g, kk, l, s, t, rs, es, nx⟩, rp, rn, rc, ep, en, ec⟩ := y
    clear hyi hyg hb2 e0 e1 c0 c1 c2 c3 c4 c5 c6 c7
    go_wp2
    (try simp only [Exit.inBlock, Exit.then])
    refine bodyPost_ret (v := .tuple #[.agg #[.int .i64 g, .int .i64 kk, .int .i64 l, .int .i64 s, .int .i64 t, .slice rp rn rc, .slice ep en ec, .int .i64 nx], .int .i64 0]) ?_ rfl ⟨⟨⟨g, kk, l, s, t, rs, es, nx⟩, rp, rn, rc, ep, en, ec⟩, rfl, HY.out.1, ?_, ?_⟩
    · rw [results_cell_tmp rfl]
      go_simp
    · have hS := HS1.out
      refine ⟨?_, ?_, HY.out.2.2.2⟩
      · refine At.imp (S := fun b => w1.heap.size ≤ b) ?_ (fun b hb _ => by show w.heap.size ≤ b; have hb : w1.heap.size ≤ b := hb; omega)
        repeat (refine At.setCell ?_ (by simp; omega) _)
        exact HY.out.2.1
      · refine At.imp (S := fun b => w1.heap.size ≤ b) ?_ (fun b hb _ => by show w.heap.size ≤ b; have hb : w1.heap.size ≤ b := hb; omega)
        repeat (refine At.setCell ?_ (by simp; omega) _)
        exact HY.out.2.2.1
    · repeat (refine Below.setCell ?_ (by simp) _)
      exact HB2.out
  · have HX : Hid (findI (pl L) a b = zeroI) := by
      show findI (pl L) a b = zeroI
      unfold findI
      rw [if_neg (by rw [hfe]; exact hz)]
    have hz' : (fe == 0) = false := by simp [hz]
    clear hz hfe
    go_enter Try.func54, Try.ntmps54
    go_wp2_with fail
    rw [← hW]
    refine (refuse_any _ L a b _ HV.out).mono ?_
    rintro e w1 ⟨rfl, hb1⟩
    rw [HFE.out]
    have HB1 : Hid (Below w.heap.size w w1) := HB0.out.trans (hb1.mono HB0.out.size)
    have HA1 : Hid (w1.heap[w.heap.size + 1]? = some BZ) := (hb1.block _ (by omega)).trans HA0.out.2
    obtain ⟨⟨z0, z1, z2, z3, z4, z5, z6, z7⟩, zf⟩ := eight_of HA1.out
    clear hb1 hW a0 a1
    go_wp2
    (try simp only [Exit.inBlock, Exit.then])
    refine bodyPost_ret (v := .tuple #[.agg #[.int .i64 0, .int .i64 0, .int .i64 0, .int .i64 0, .int .i64 0, .slice none 0 0, .slice none 0 0, .int .i64 0], .int .i64 fe]) ?_ rfl ⟨zeroR, rfl, HX.out.symm, good_zero _ _, ?_⟩
    · rw [results_cell_tmp rfl]
      go_simp
    · repeat (refine Below.setCell ?_ (by simp) _)
      exact HB1.out

end Go.Proofs.Ytacghcoikekfeaa
/- Sp3 -/
namespace Go.Proofs.Ytacghcoikekfeaa
open Go.ChangeShapes Go.WideShapes Go.ChangeAt Go.RowKit Go.Deep It
set_option maxRecDepth 100000
namespace Sp
def dirErr (L : List Ino) (a b : Int) : Int := if findErr L a b = 0 then (if (findI L a b).kind = 2 then 0 else 404) else findErr L a b
def dirEnts (L : List Ino) (a b : Int) : List Ent := if dirErr L a b = 0 then (findI L a b).ents else []
def dirNext (L : List Ino) (a b : Int) : Int := if dirErr L a b = 0 then (findI L a b).next else 0
theorem dirErr_find {L : List Ino} {a b e : Int} (h : findErr L a b = e) (he : e ≠ 0) : dirErr L a b = e ∧ dirEnts L a b = [] ∧ dirNext L a b = 0 := by
  have : dirErr L a b = e := by unfold dirErr; rw [if_neg (by rw [h]; exact he), h]
  exact ⟨this, by unfold dirEnts; rw [if_neg (by rw [this]; exact he)], by unfold dirNext; rw [if_neg (by rw [this]; exact he)]⟩
theorem dirErr_file {L : List Ino} {a b : Int} (h : findErr L a b = 0) (hk : (findI L a b).kind ≠ 2) : dirErr L a b = 404 ∧ dirEnts L a b = [] ∧ dirNext L a b = 0 := by
  have : dirErr L a b = 404 := by unfold dirErr; rw [if_pos h, if_neg hk]
  exact ⟨this, by unfold dirEnts; rw [if_neg (by rw [this]; decide)], by unfold dirNext; rw [if_neg (by rw [this]; decide)]⟩
theorem dirErr_hit {L : List Ino} {a b : Int} (h : findErr L a b = 0) (hk : (findI L a b).kind = 2) : dirErr L a b = 0 ∧ dirEnts L a b = (findI L a b).ents ∧ dirNext L a b = (findI L a b).next := by
  have : dirErr L a b = 0 := by unfold dirErr; rw [if_pos h, if_pos hk]
  exact ⟨this, by unfold dirEnts; rw [if_pos this], by unfold dirNext; rw [if_pos this]⟩
theorem okN_find {L : List Rw} (h : okN L) (a b : Int) : ∀ e ∈ (findI (pl L) a b).ents, e.1.size ≤ maxLen := by
  unfold findI
  split
  · cases hx : (pl L)[a.toNat]? with
    | none => intro e he; simp [zeroI] at he
    | some x =>
      rw [List.getElem?_map] at hx
      cases hy : L[a.toNat]? with
      | none => rw [hy] at hx; cases hx
      | some y =>
        rw [hy] at hx
        obtain rfl : y.i = x := by simpa using hx
        exact h y (List.mem_of_getElem? hy)
  · intro e he
    simp [zeroI] at he
theorem okN_dir {L : List Rw} (h : okN L) (a b : Int) : ∀ e ∈ dirEnts (pl L) a b, e.1.size ≤ maxLen := by
  unfold dirEnts
  split
  · exact okN_find h a b
  · intro e he
    cases he
noncomputable def lookErr (L : List Ino) (a b : Int) (s : ByteArray) : Int := if dirErr L a b = 0 then Fo.findErr (dirEnts L a b) (dirNext L a b) s else dirErr L a b
noncomputable def lookH (L : List Ino) (a b : Int) (s : ByteArray) : Int × Int := if dirErr L a b = 0 then (Fo.found (dirEnts L a b) (dirNext L a b) s).2.2 else (0, 0)
noncomputable def nameErr (L : List Ino) (a b : Int) (s : ByteArray) : Int := if lookErr L a b s = 0 then 403 else if lookErr L a b s = 402 then 0 else lookErr L a b s
end Sp
theorem set_two {α : Type} {E : Enc α} {B C D : Nat} {w : World} {v : Value} {l : List α} (h : At E (fun b => B ≤ b) w v l) (hC : C < B) (hD : D < B) (j k : Nat) (y z : Value) : AtW E ((w.setCell ⟨C, j, none⟩ y).setCell ⟨D, k, none⟩ z) v l := by
  refine At.wide (S := fun b => B ≤ b) ?_
  refine At.setCell (At.setCell h ?_ _) ?_ _
  · simp; omega
  · simp; omega
theorem two_ofD {w : World} {B : Nat} {v : Value} {n : Int} (h : w.heap[B]? = some (.cells #[v, .int .i64 n] 87)) : (w.cell? ⟨B, 0, none⟩ = some v ∧ w.cell? ⟨B, 1, none⟩ = some (.int .i64 n)) ∧ ∀ j, w.frozen? ⟨B, j, none⟩ = false := by
  refine ⟨⟨?_, ?_⟩, fun j => ?_⟩ <;> simp only [World.cell?, World.frozen?, h] <;> rfl
set_option maxHeartbeats 2000000 in
theorem folderOf_any {S : Nat → Prop} (v : Value) (L : List Rw) (a b : Int) (w : World) (hv : TabAt S w v L) :
    Calls Try.prog 49 #[v, .agg #[.int .i64 a, .int .i64 b]] w fun e w' => ∃ u, e = .returned (.tuple #[VD u (Sp.dirNext (pl L) a b), .int .i64 (Sp.dirErr (pl L) a b)]) ∧ AtW EE w' u (Sp.dirEnts (pl L) a b) ∧ Below w.heap.size w w' := by
  obtain ⟨W, hW⟩ : ∃ W, W = (w.alloc (BH a b)).alloc BZD := ⟨_, rfl⟩
  have HB0 : Hid (Below w.heap.size w W) := by show Below w.heap.size w W; rw [hW]; exact ((Below.refl _ w).alloc (Nat.le_refl _) _).alloc (by simp) _
  have HA0 : Hid (W.heap[w.heap.size]? = some (BH a b) ∧ W.heap[w.heap.size + 1]? = some BZD) := by
    rw [hW]
    refine ⟨(Below.heap_alloc _ _ _ (by simp)).trans (heap_alloc_new _ _), ?_⟩
    have := heap_alloc_new (w.alloc (BH a b)) BZD
    rwa [show (w.alloc (BH a b)).heap.size = w.heap.size + 1 by simp] at this
  have hws : w.heap.size + 1 < W.heap.size := by rw [hW]; simp
  have HV : Hid (TabAt S W v L) := hv.up HB0.out
  obtain ⟨⟨a0, a1⟩, _⟩ := two_of HA0.out.1
  obtain ⟨ao, cap, rfl, _, _⟩ := hv.open
  clear hv
  obtain ⟨fe, hfe⟩ : ∃ fe, findErr (pl L) a b = fe := ⟨_, rfl⟩
  have HFE : Hid (findErr (pl L) a b = fe) := hfe
  by_cases hz : fe = 0
  · subst hz
    by_cases hk : (findI (pl L) a b).kind = 2
    · obtain ⟨d0, d1, d2⟩ := Sp.dirErr_hit hfe hk
      have HK : Hid ((findI (pl L) a b).kind = 2) := hk
      rw [d0, d1, d2]
      clear d0 d1 d2 hk hfe
      go_enter Try.func49, Try.ntmps49
      go_wp2_with fail
      rw [← hW]
      refine (findOwn_any _ L a b _ HV.out).mono ?_
      rintro e w1 ⟨x, rfl, hxi, hxg, hb1⟩
      rw [HFE.out]
      have HXI : Hid (x.i = findI (pl L) a b) := hxi
      have HK2 : Hid (x.i.kind = 2) := by show x.i.kind = 2; rw [hxi]; exact HK.out
      have HB1 : Hid (Below w.heap.size w w1) := HB0.out.trans (hb1.mono HB0.out.size)
      have HA1 : Hid (w1.heap[w.heap.size + 1]? = some BZD) := (hb1.block _ (by omega)).trans HA0.out.2
      have hws1 : w.heap.size + 1 < w1.heap.size := by have := hb1.size; omega
      obtain ⟨⟨q0, q1, q2, q3, q4, q5, q6, q7⟩, -⟩ := eight_of (heap_alloc_new w1 (BIx x))
      have HE : Hid (At EE (fun b => W.heap.size ≤ b) w1 (.slice x.ep x.en x.ec) x.i.ents) := hxg.2.1
      clear hxg hb1 hW a0 a1 HV HA0 hxi HK
      go_wp2_with fail
      refine (isDir_any x _).mono ?_
      rintro e w2 ⟨rfl, hw2⟩
      rw [HK2.out]
      have hb2 : Below w1.heap.size w1 w2 := by rw [hw2]; exact ((Below.refl _ _).alloc (Nat.le_refl _) _).alloc (by simp) _
      have hb2' : Below (w1.alloc (BIx x)).heap.size (w1.alloc (BIx x)) w2 := by rw [hw2]; exact (Below.refl _ _).alloc (Nat.le_refl _) _
      obtain ⟨r0, r1, r2, r3, r4, r5, r6, r7⟩ : eight w2 w1.heap.size 0 x := eight_block (b := w1.heap.size) (o := 0) ⟨q0, q1, q2, q3, q4, q5, q6, q7⟩ hb2' (by simp)
      simp only [Nat.zero_add] at r1 r2 r3 r4 r5 r6 r7
      have HB2 : Hid (Below w.heap.size w w2) := HB1.out.trans (hb2.mono HB1.out.size)
      have HA2 : Hid (w2.heap[w.heap.size + 1]? = some BZD) := (hb2.block _ (by omega)).trans HA1.out
      have HE2 : Hid (At EE (fun b => W.heap.size ≤ b) w2 (.slice x.ep x.en x.ec) x.i.ents) := HE.out.up hb2
      have hws2 : w.heap.size + 1 < w2.heap.size := by have := hb2.size; omega
      clear q0 q1 q2 q3 q4 q5 q6 q7 hw2 hb2 hb2' HE HA1 HB1
      go_wp2_with fail
      refine (dirOf_any x _).mono ?_
      rintro e w3 ⟨rfl, hb3⟩
      have HB3 : Hid (Below w.heap.size w w3) := HB2.out.trans (hb3.mono HB2.out.size)
      have HA3 : Hid (w3.heap[w.heap.size + 1]? = some BZD) := (hb3.block _ hws2).trans HA2.out
      have HE3 : Hid (At EE (fun b => W.heap.size ≤ b) w3 (.slice x.ep x.en x.ec) x.i.ents) := HE2.out.up hb3
      obtain ⟨⟨z0, z1⟩, zf⟩ := two_ofD HA3.out
      clear r0 r1 r2 r3 r4 r5 r6 r7 hb3 HE2 HA2 HB2
      go_wp2
      (try simp only [Exit.inBlock, Exit.then])
      refine bodyPost_ret (v := .tuple #[VD (.slice x.ep x.en x.ec) x.i.next, .int .i64 0]) ?_ rfl ⟨_, by rw [← HXI.out], ?_, ?_⟩
      · rw [results_cell_tmp rfl]
        go_simp
      · rw [← HXI.out]
        exact set_two HE3.out (by omega) (by omega) _ _ _ _
      · repeat (refine Below.setCell ?_ (by simp) _)
        exact HB3.out
    · obtain ⟨d0, d1, d2⟩ := Sp.dirErr_file hfe hk
      have HK : Hid ((findI (pl L) a b).kind ≠ 2) := hk
      rw [d0, d1, d2]
      clear d0 d1 d2 hk hfe
      go_enter Try.func49, Try.ntmps49
      go_wp2_with fail
      rw [← hW]
      refine (findOwn_any _ L a b _ HV.out).mono ?_
      rintro e w1 ⟨x, rfl, hxi, hxg, hb1⟩
      rw [HFE.out]
      have HK2 : Hid ((x.i.kind == 2) = false) := by show (x.i.kind == 2) = false; rw [hxi]; exact beq_eq_false_iff_ne.2 HK.out
      have HB1 : Hid (Below w.heap.size w w1) := HB0.out.trans (hb1.mono HB0.out.size)
      have HA1 : Hid (w1.heap[w.heap.size + 1]? = some BZD) := (hb1.block _ (by omega)).trans HA0.out.2
      have hws1 : w.heap.size + 1 < w1.heap.size := by have := hb1.size; omega
      obtain ⟨⟨q0, q1, q2, q3, q4, q5, q6, q7⟩, -⟩ := eight_of (heap_alloc_new w1 (BIx x))
      clear hxg hb1 hW a0 a1 HV HA0 hxi HK
      go_wp2_with fail
      refine (isDir_any x _).mono ?_
      rintro e w2 ⟨rfl, hw2⟩
      rw [HK2.out]
      have hb2 : Below w1.heap.size w1 w2 := by rw [hw2]; exact ((Below.refl _ _).alloc (Nat.le_refl _) _).alloc (by simp) _
      have HB3 : Hid (Below w.heap.size w w2) := HB1.out.trans (hb2.mono HB1.out.size)
      have HA2 : Hid (w2.heap[w.heap.size + 1]? = some BZD) := (hb2.block _ (by omega)).trans HA1.out
      obtain ⟨⟨z0, z1⟩, zf⟩ := two_ofD HA2.out
      clear q0 q1 q2 q3 q4 q5 q6 q7 hw2 hb2 HA1 HB1
      go_wp2
      (try simp only [Exit.inBlock, Exit.then])
      refine bodyPost_ret (v := .tuple #[VD (.slice none 0 0) 0, .int .i64 404]) ?_ rfl ⟨_, rfl, At.nil, ?_⟩
      · rw [results_cell_tmp rfl]
        go_simp
      · repeat (refine Below.setCell ?_ (by simp) _)
        exact HB3.out
  · obtain ⟨d0, d1, d2⟩ := Sp.dirErr_find hfe hz
    rw [d0, d1, d2]
    have hz' : (fe != 0) = true := by simpa using hz
    clear d0 d1 d2 hfe hz
    go_enter Try.func49, Try.ntmps49
    go_wp2_with fail
    rw [← hW]
    refine (findOwn_any _ L a b _ HV.out).mono ?_
    rintro e w1 ⟨x, rfl, hxi, hxg, hb1⟩
    rw [HFE.out]
    have HB1 : Hid (Below w.heap.size w w1) := HB0.out.trans (hb1.mono HB0.out.size)
    have HA1 : Hid (w1.heap[w.heap.size + 1]? = some BZD) := (hb1.block _ (by omega)).trans HA0.out.2
    have hws1 : w.heap.size + 1 < w1.heap.size := by have := hb1.size; omega
    obtain ⟨⟨z0, z1⟩, zf⟩ := two_ofD HA1.out
    clear hxg hb1 hW a0 a1 HV HA0 hxi
    go_wp2
    (try simp only [Exit.inBlock, Exit.then])
    refine bodyPost_ret (v := .tuple #[VD (.slice none 0 0) 0, .int .i64 fe]) ?_ rfl ⟨_, rfl, At.nil, ?_⟩
    · rw [results_cell_tmp rfl]
      go_simp
    · have hs1 := HB1.out.size
      repeat (first | exact HB1.out | refine Below.setCell ?_ (by simp) _ | refine Below.alloc ?_ (by simp; omega) _)
set_option maxHeartbeats 2000000 in
theorem sfind_any {S : Nat → Prop} (v : Value) (L : List Rw) (a b : Int) (s : ByteArray) (w : World) (hv : TabAt S w v L) (hok : Sp.okN L) (hs : s.size ≤ maxLen) :
    Calls Try.prog 25 #[v, .agg #[.int .i64 a, .int .i64 b], .string s] w fun e w' => e = .returned (.tuple #[.agg #[.int .i64 (Sp.lookH (pl L) a b s).1, .int .i64 (Sp.lookH (pl L) a b s).2], .int .i64 (Sp.lookErr (pl L) a b s)]) ∧ Below w.heap.size w w' := by
  obtain ⟨W, hW⟩ : ∃ W, W = (w.alloc (BH a b)).alloc (BH 0 0) := ⟨_, rfl⟩
  have HB0 : Hid (Below w.heap.size w W) := by show Below w.heap.size w W; rw [hW]; exact ((Below.refl _ w).alloc (Nat.le_refl _) _).alloc (by simp) _
  have HA0 : Hid (W.heap[w.heap.size]? = some (BH a b) ∧ W.heap[w.heap.size + 1]? = some (BH 0 0)) := by
    rw [hW]
    refine ⟨(Below.heap_alloc _ _ _ (by simp)).trans (heap_alloc_new _ _), ?_⟩
    have := heap_alloc_new (w.alloc (BH a b)) (BH 0 0)
    rwa [show (w.alloc (BH a b)).heap.size = w.heap.size + 1 by simp] at this
  have hws : w.heap.size + 1 < W.heap.size := by rw [hW]; simp
  have HV : Hid (TabAt S W v L) := hv.up HB0.out
  obtain ⟨⟨a0, a1⟩, _⟩ := two_of HA0.out.1
  obtain ⟨ao, cap, rfl, _, _⟩ := hv.open
  have HOK : Hid (∀ e ∈ Sp.dirEnts (pl L) a b, e.1.size ≤ maxLen) := Sp.okN_dir hok a b
  have HSM : Hid (s.size ≤ maxLen) := hs
  clear hv hok hs
  obtain ⟨de, hde⟩ : ∃ de, Sp.dirErr (pl L) a b = de := ⟨_, rfl⟩
  have HDE : Hid (Sp.dirErr (pl L) a b = de) := hde
  by_cases hz : de = 0
  · subst hz
    obtain ⟨es, hes⟩ : ∃ es, Sp.dirEnts (pl L) a b = es := ⟨_, rfl⟩
    obtain ⟨nx, hnx⟩ : ∃ nx, Sp.dirNext (pl L) a b = nx := ⟨_, rfl⟩
    have HES : Hid (Sp.dirEnts (pl L) a b = es ∧ Sp.dirNext (pl L) a b = nx) := ⟨hes, hnx⟩
    rw [hes] at HOK
    obtain ⟨xx, hxx⟩ : ∃ xx, Fo.found es nx s = xx := ⟨_, rfl⟩
    obtain ⟨fe, hfe⟩ : ∃ fe, Fo.findErr es nx s = fe := ⟨_, rfl⟩
    have HF : Hid (Fo.found es nx s = xx ∧ Fo.findErr es nx s = fe) := ⟨hxx, hfe⟩
    rw [show Sp.lookErr (pl L) a b s = fe by unfold Sp.lookErr; rw [if_pos hde, hes, hnx, hfe], show Sp.lookH (pl L) a b s = xx.2.2 by unfold Sp.lookH; rw [if_pos hde, hes, hnx, hxx]]
    clear hes hnx hxx hfe hde
    go_enter Try.func25, Try.ntmps25
    go_wp2_with fail
    rw [← hW]
    refine (folderOf_any _ L a b _ HV.out).mono ?_
    rintro e w1 ⟨u, rfl, hu, hb1⟩
    rw [HDE.out, HES.out.2]
    rw [HES.out.1] at hu
    obtain ⟨uo, uc, rfl, _, _⟩ := hu.open
    generalize es.length = un at hu ⊢
    have HB1 : Hid (Below w.heap.size w w1) := HB0.out.trans (hb1.mono HB0.out.size)
    have HA1 : Hid (w1.heap[w.heap.size + 1]? = some (BH 0 0)) := (hb1.block _ (by omega)).trans HA0.out.2
    have hws1 : w.heap.size + 1 < w1.heap.size := by have := hb1.size; omega
    have HB2 : Hid (Below w1.heap.size w1 (w1.alloc (BD (.slice uo un uc) nx))) := (Below.refl _ _).alloc (Nat.le_refl _) _
    have HU : Hid (AtW EE (w1.alloc (BD (.slice uo un uc) nx)) (.slice uo un uc) es) := hu.up HB2.out
    obtain ⟨e0, e1⟩ := box_cells w1 (.slice uo un uc) nx
    clear hb1 hW a0 a1 HV HA0 hu
    go_wp2_with fail
    refine (ffind_any _ es nx s _ HU.out HOK.out HSM.out).mono ?_
    rintro e w2 ⟨rfl, hb2⟩
    rw [HF.out.1, HF.out.2]
    have HB3 : Hid (Below w.heap.size w w2) := (HB1.out.trans (HB2.out.mono HB1.out.size)).trans (hb2.mono (by simp; omega))
    have HA2 : Hid (w2.heap[w.heap.size + 1]? = some (BH 0 0)) := (hb2.block _ (by simp; omega)).trans ((HB2.out.block _ (by omega)).trans HA1.out)
    have hws2 : w.heap.size + 1 < w2.heap.size := by have := hb2.size; simp at this; omega
    obtain ⟨⟨z0, z1⟩, zf⟩ := two_of HA2.out
    obtain ⟨⟨y0, y1, y2, y3⟩, -⟩ := four_of (heap_alloc_new w2 (BE xx))
    clear hb2 e0 e1 HU
    go_wp2
    (try simp only [Exit.inBlock, Exit.then])
    refine bodyPost_ret (v := .tuple #[.agg #[.int .i64 xx.2.2.1, .int .i64 xx.2.2.2], .int .i64 fe]) ?_ rfl ⟨rfl, ?_⟩
    · rw [results_cell_tmp rfl]
      go_simp
    · have hs1 := HB3.out.size
      repeat (first | exact HB3.out | refine Below.setCell ?_ (by simp) _ | refine Below.alloc ?_ (by simp; omega) _)
  · rw [show Sp.lookErr (pl L) a b s = de by unfold Sp.lookErr; rw [if_neg (by rw [hde]; exact hz), hde], show Sp.lookH (pl L) a b s = (0, 0) by unfold Sp.lookH; rw [if_neg (by rw [hde]; exact hz)]]
    have hz' : (de != 0) = true := by simpa using hz
    clear hz hde
    go_enter Try.func25, Try.ntmps25
    go_wp2_with fail
    rw [← hW]
    refine (folderOf_any _ L a b _ HV.out).mono ?_
    rintro e w1 ⟨u, rfl, hu, hb1⟩
    rw [HDE.out]
    obtain ⟨nx, hnx⟩ : ∃ nx, Sp.dirNext (pl L) a b = nx := ⟨_, rfl⟩
    rw [hnx]
    obtain ⟨uo, uc, rfl, _, _⟩ := hu.open
    generalize (Sp.dirEnts (pl L) a b).length = un
    have HB1 : Hid (Below w.heap.size w w1) := HB0.out.trans (hb1.mono HB0.out.size)
    have HA1 : Hid (w1.heap[w.heap.size + 1]? = some (BH 0 0)) := (hb1.block _ (by omega)).trans HA0.out.2
    have hws1 : w.heap.size + 1 < w1.heap.size := by have := hb1.size; omega
    obtain ⟨⟨z0, z1⟩, zf⟩ := two_of HA1.out
    clear hb1 hW a0 a1 HV HA0 hu hnx
    go_wp2
    (try simp only [Exit.inBlock, Exit.then])
    refine bodyPost_ret (v := .tuple #[.agg #[.int .i64 0, .int .i64 0], .int .i64 de]) ?_ rfl ⟨rfl, ?_⟩
    · rw [results_cell_tmp rfl]
      go_simp
    · have hs1 := HB1.out.size
      repeat (first | exact HB1.out | refine Below.setCell ?_ (by simp) _ | refine Below.alloc ?_ (by simp; omega) _)
end Go.Proofs.Ytacghcoikekfeaa
/- SAttr -/
namespace Go.Proofs.Ytacghcoikekfeaa
open Go.ChangeShapes Go.WideShapes Go.ChangeAt Go.RowKit Go.Deep
set_option maxRecDepth 100000

/-- What Link tells. -/
def At.linkErr (k l s t n st : Int) : Int :=
  if At.right k l s t then
    if (n = 1 ∨ n = -1) ∧ (t ≤ st ∧ st ≤ 1099511627776) then
      if k = 1 then if 64 < l + n then 5 else if l + n < 0 then 6 else 0
      else 7
    else 1
  else 70
def At.linkOut (k l s t n st : Int) : Value := if At.linkErr k l s t n st = 0 then VA k (l + n) s st else VA 0 0 0 0
set_option maxHeartbeats 2000000 in
theorem alinkErr_any (k l s t n st : Int) (w : World) : Calls Try.prog 77 #[VA k l s t, .int .i64 n, .int .i64 st] w fun e w' => e = .returned (.int .i64 (At.linkErr k l s t n st)) ∧ w' = (w.alloc (BA k l s t)).alloc (BA k l s t) := by
  obtain ⟨y, hy⟩ : ∃ y, At.linkErr k l s t n st = y := ⟨_, rfl⟩
  have HY : Hid (At.linkErr k l s t n st = y) := hy
  rw [hy]
  clear hy
  by_cases hr : At.right k l s t = true
  · have HR : Hid (At.right k l s t = true) := hr
    have HP : Hid (At.rightP k l s t) := At.right_iff.1 hr
    by_cases hn : n = 1 ∨ n = -1
    · by_cases hw : t ≤ st ∧ st ≤ 1099511627776
      · have HW : Hid (t ≤ st ∧ st ≤ 1099511627776) := hw
        by_cases hk : k = 1
        · have hlb : 0 ≤ l ∧ l ≤ 64 := by have := HP.out; unfold At.rightP at this; omega
          by_cases h5 : 64 < l + n
          · have H : Hid (y = 5) := by show y = 5; rw [← HY.out]; unfold At.linkErr; rw [if_pos hr, if_pos ⟨hn, hw⟩, if_pos hk, if_pos h5]
            clear hr hw HP
            subst hk
            obtain rfl : n = 1 := by omega
            all_goals
              go_enter Try.func77, Try.ntmps77
              go_wp2_with fail
              refine (acheck_yes 1 l s t _ HR.out).mono ?_
              rintro e w1 ⟨rfl, rfl⟩
              go_wp2_with fail
              refine (awithin_yes _ _ _ _ HW.out).mono ?_
              rintro e w1 ⟨rfl, rfl⟩
              go_wp2
              go_ret
              rw [H.out]
              exact ⟨rfl, rfl⟩
          · by_cases h6 : l + n < 0
            · have H : Hid (y = 6) := by show y = 6; rw [← HY.out]; unfold At.linkErr; rw [if_pos hr, if_pos ⟨hn, hw⟩, if_pos hk, if_neg h5, if_pos h6]
              clear hr hw HP
              subst hk
              obtain rfl : n = -1 := by omega
              all_goals
                go_enter Try.func77, Try.ntmps77
                go_wp2_with fail
                refine (acheck_yes 1 l s t _ HR.out).mono ?_
                rintro e w1 ⟨rfl, rfl⟩
                go_wp2_with fail
                refine (awithin_yes _ _ _ _ HW.out).mono ?_
                rintro e w1 ⟨rfl, rfl⟩
                go_wp2
                go_ret
                rw [H.out]
                exact ⟨rfl, rfl⟩
            · have H : Hid (y = 0) := by show y = 0; rw [← HY.out]; unfold At.linkErr; rw [if_pos hr, if_pos ⟨hn, hw⟩, if_pos hk, if_neg h5, if_neg h6]
              clear hr hw HP
              subst hk
              rcases hn with rfl | rfl
              all_goals
                go_enter Try.func77, Try.ntmps77
                go_wp2_with fail
                refine (acheck_yes 1 l s t _ HR.out).mono ?_
                rintro e w1 ⟨rfl, rfl⟩
                go_wp2_with fail
                refine (awithin_yes _ _ _ _ HW.out).mono ?_
                rintro e w1 ⟨rfl, rfl⟩
                go_wp2
                go_ret
                rw [H.out]
                exact ⟨rfl, rfl⟩
        · have H : Hid (y = 7) := by show y = 7; rw [← HY.out]; unfold At.linkErr; rw [if_pos hr, if_pos ⟨hn, hw⟩, if_neg hk]
          clear hr hw HP
          rcases hn with rfl | rfl
          all_goals
            go_enter Try.func77, Try.ntmps77
            go_wp2_with fail
            refine (acheck_yes k l s t _ HR.out).mono ?_
            rintro e w1 ⟨rfl, rfl⟩
            go_wp2_with fail
            refine (awithin_yes _ _ _ _ HW.out).mono ?_
            rintro e w1 ⟨rfl, rfl⟩
            go_wp2
            go_ret
            rw [H.out]
            exact ⟨rfl, rfl⟩
      · have HW : Hid (¬ (t ≤ st ∧ st ≤ 1099511627776)) := hw
        have H : Hid (y = 1) := by
          show y = 1
          rw [← HY.out]
          unfold At.linkErr
          rw [if_pos hr, if_neg (fun h => hw h.2)]
        clear hr hw HP
        rcases hn with rfl | rfl
        all_goals
          go_enter Try.func77, Try.ntmps77
          go_wp2_with fail
          refine (acheck_yes k l s t _ HR.out).mono ?_
          rintro e w1 ⟨rfl, rfl⟩
          go_wp2_with fail
          refine (awithin_no _ _ _ _ HW.out).mono ?_
          rintro e w1 ⟨rfl, rfl⟩
          go_wp2
          go_ret
          rw [H.out]
          exact ⟨rfl, rfl⟩
    · have H : Hid (y = 1) := by
        show y = 1
        rw [← HY.out]
        unfold At.linkErr
        rw [if_pos hr, if_neg (fun h => hn h.1)]
      have h1 : (n != 1) = true := by simpa using fun h => hn (.inl h)
      have h2 : (n != -1) = true := by simpa using fun h => hn (.inr h)
      clear hr hn HP
      go_enter Try.func77, Try.ntmps77
      go_wp2_with fail
      refine (acheck_yes k l s t _ HR.out).mono ?_
      rintro e w1 ⟨rfl, rfl⟩
      go_wp2
      go_ret
      rw [H.out]
      exact ⟨rfl, rfl⟩
  · have hr' : At.right k l s t = false := by simpa using hr
    have HR : Hid (At.right k l s t = false) := hr'
    have H : Hid (y = 70) := by show y = 70; rw [← HY.out]; simp [At.linkErr, hr']
    clear hr hr'
    go_enter Try.func77, Try.ntmps77
    go_wp2_with fail
    refine (acheck_no k l s t _ HR.out).mono ?_
    rintro e w1 ⟨rfl, rfl⟩
    go_wp2
    go_ret
    rw [H.out]
    exact ⟨rfl, rfl⟩
set_option maxHeartbeats 1000000 in
theorem link_any (k l s t n st : Int) (w : World) : Calls Try.prog 55 #[VA k l s t, .int .i64 n, .int .i64 st] w fun e w' => e = .returned (.tuple #[At.linkOut k l s t n st, .int .i64 (At.linkErr k l s t n st)]) ∧ Below w.heap.size w w' := by
  by_cases he : At.linkErr k l s t n st = 0
  · have HE : Hid (At.linkErr k l s t n st = 0) := he
    have HO : Hid (At.linkOut k l s t n st = VA k (l + n) s st) := by show At.linkOut k l s t n st = _; unfold At.linkOut; rw [if_pos he]
    have hb : 0 ≤ l + n ∧ l + n ≤ 64 := by
      unfold At.linkErr at he
      split at he
      · split at he
        · split at he
          · split at he
            · cases he
            · split at he
              · cases he
              · omega
          · cases he
        · cases he
      · cases he
    obtain ⟨hb0, hb1⟩ := hb
    clear he
    rw [HE.out, HO.out]
    go_enter Try.func55, Try.ntmps55
    go_wp2_with fail
    refine (alinkErr_any k l s t n st _).mono ?_
    rintro e w1 ⟨rfl, rfl⟩
    rw [HE.out]
    go_wp2
    refine bodyPost_ret (v := .tuple #[VA k (l + n) s st, .int .i64 0]) (by simp [results, Try.results55, go_sem]) rfl ⟨rfl, ?_⟩
    exact ((((Below.refl _ _).alloc (Nat.le_refl _) _).alloc (by simp) _).alloc (by simp; omega) _).alloc (by simp; omega) _
  · have HO : Hid (At.linkOut k l s t n st = VA 0 0 0 0) := by show At.linkOut k l s t n st = _; unfold At.linkOut; rw [if_neg he]
    rw [HO.out]
    obtain ⟨y, hy⟩ : ∃ y, At.linkErr k l s t n st = y := ⟨_, rfl⟩
    rw [hy] at he ⊢
    have HY : Hid (At.linkErr k l s t n st = y) := hy
    clear hy
    go_enter Try.func55, Try.ntmps55
    go_wp2_with fail
    refine (alinkErr_any k l s t n st _).mono ?_
    rintro e w1 ⟨rfl, rfl⟩
    rw [HY.out]
    go_wp2
    refine bodyPost_ret (v := .tuple #[VA 0 0 0 0, .int .i64 y]) (by simp [results, Try.results55, go_sem]) rfl ⟨rfl, ?_⟩
    exact ((((Below.refl _ _).alloc (Nat.le_refl _) _).alloc (by simp) _).alloc (by simp; omega) _).alloc (by simp; omega) _
/-- What Grow tells. -/
def At.growErr (k l s t n st : Int) : Int :=
  if At.right k l s t then
    if t ≤ st ∧ st ≤ 1099511627776 then
      if k = 0 then 7 else if 0 ≤ n ∧ n ≤ 1048576 then 0 else 408
    else 1
  else 70
def At.growOut (k l s t n st : Int) : Value := if At.growErr k l s t n st = 0 then VA k l n st else VA 0 0 0 0
set_option maxHeartbeats 2000000 in
theorem grow_any (k l s t n st : Int) (w : World) : Calls Try.prog 74 #[VA k l s t, .int .i64 n, .int .i64 st] w fun e w' => e = .returned (.tuple #[At.growOut k l s t n st, .int .i64 (At.growErr k l s t n st)]) ∧ Below w.heap.size w w' := by
  have HO : Hid (At.growOut k l s t n st = if At.growErr k l s t n st = 0 then VA k l n st else VA 0 0 0 0) := rfl
  obtain ⟨z, hz⟩ : ∃ z, At.growOut k l s t n st = z := ⟨_, rfl⟩
  obtain ⟨y, hy⟩ : ∃ y, At.growErr k l s t n st = y := ⟨_, rfl⟩
  rw [hz, hy] at HO
  have HY : Hid (At.growErr k l s t n st = y) := hy
  rw [hy, hz]
  clear hy hz
  by_cases hr : At.right k l s t = true
  · have HR : Hid (At.right k l s t = true) := hr
    by_cases hw : t ≤ st ∧ st ≤ 1099511627776
    · have HW : Hid (t ≤ st ∧ st ≤ 1099511627776) := hw
      by_cases hk : k = 0
      · have H : Hid (y = 7) := by show y = 7; rw [← HY.out]; unfold At.growErr; rw [if_pos hr, if_pos hw, if_pos hk]
        have HZ : Hid (z = VA 0 0 0 0) := by have := HO.out; rw [H.out, if_neg (by decide)] at this; exact this
        have hk' : (k == 0) = true := by simp [hk]
        clear hr hw hk
        go_enter Try.func74, Try.ntmps74
        go_wp2_with fail
        refine (acheck_yes k l s t _ HR.out).mono ?_
        rintro e w1 ⟨rfl, rfl⟩
        go_wp2_with fail
        refine (awithin_yes _ _ _ _ HW.out).mono ?_
        rintro e w1 ⟨rfl, rfl⟩
        go_wp2
        refine bodyPost_ret (v := .tuple #[VA 0 0 0 0, .int .i64 7]) (by simp [results, Try.results74, go_sem]) rfl ⟨by rw [H.out, HZ.out], ?_⟩
        exact (((Below.refl _ _).alloc (Nat.le_refl _) _).alloc (by simp) _).alloc (by simp; omega) _
      · have hk' : (k == 0) = false := beq_eq_false_iff_ne.2 hk
        by_cases hn : 0 ≤ n ∧ n ≤ 1048576
        · have HN : Hid (0 ≤ n ∧ n ≤ 1048576) := hn
          have H : Hid (y = 0) := by show y = 0; rw [← HY.out]; unfold At.growErr; rw [if_pos hr, if_pos hw, if_neg hk, if_pos hn]
          have HZ : Hid (z = VA k l n st) := by have := HO.out; rw [H.out, if_pos rfl] at this; exact this
          clear hr hw hk hn
          go_enter Try.func74, Try.ntmps74
          go_wp2_with fail
          refine (acheck_yes k l s t _ HR.out).mono ?_
          rintro e w1 ⟨rfl, rfl⟩
          go_wp2_with fail
          refine (awithin_yes _ _ _ _ HW.out).mono ?_
          rintro e w1 ⟨rfl, rfl⟩
          go_wp2_with fail
          refine (awithin_yes _ _ _ _ HN.out).mono ?_
          rintro e w1 ⟨rfl, rfl⟩
          go_wp2
          refine bodyPost_ret (v := .tuple #[VA k l n st, .int .i64 0]) (by simp [results, Try.results74, go_sem]) rfl ⟨by rw [H.out, HZ.out], ?_⟩
          exact (((Below.refl _ _).alloc (Nat.le_refl _) _).alloc (by simp) _).alloc (by simp; omega) _
        · have HN : Hid (¬ (0 ≤ n ∧ n ≤ 1048576)) := hn
          have H : Hid (y = 408) := by show y = 408; rw [← HY.out]; unfold At.growErr; rw [if_pos hr, if_pos hw, if_neg hk, if_neg hn]
          have HZ : Hid (z = VA 0 0 0 0) := by have := HO.out; rw [H.out, if_neg (by decide)] at this; exact this
          clear hr hw hk hn
          go_enter Try.func74, Try.ntmps74
          go_wp2_with fail
          refine (acheck_yes k l s t _ HR.out).mono ?_
          rintro e w1 ⟨rfl, rfl⟩
          go_wp2_with fail
          refine (awithin_yes _ _ _ _ HW.out).mono ?_
          rintro e w1 ⟨rfl, rfl⟩
          go_wp2_with fail
          refine (awithin_no _ _ _ _ HN.out).mono ?_
          rintro e w1 ⟨rfl, rfl⟩
          go_wp2
          refine bodyPost_ret (v := .tuple #[VA 0 0 0 0, .int .i64 408]) (by simp [results, Try.results74, go_sem]) rfl ⟨by rw [H.out, HZ.out], ?_⟩
          exact (((Below.refl _ _).alloc (Nat.le_refl _) _).alloc (by simp) _).alloc (by simp; omega) _
    · have HW : Hid (¬ (t ≤ st ∧ st ≤ 1099511627776)) := hw
      have H : Hid (y = 1) := by show y = 1; rw [← HY.out]; unfold At.growErr; rw [if_pos hr, if_neg hw]
      have HZ : Hid (z = VA 0 0 0 0) := by have := HO.out; rw [H.out, if_neg (by decide)] at this; exact this
      clear hr hw
      go_enter Try.func74, Try.ntmps74
      go_wp2_with fail
      refine (acheck_yes k l s t _ HR.out).mono ?_
      rintro e w1 ⟨rfl, rfl⟩
      go_wp2_with fail
      refine (awithin_no _ _ _ _ HW.out).mono ?_
      rintro e w1 ⟨rfl, rfl⟩
      go_wp2
      refine bodyPost_ret (v := .tuple #[VA 0 0 0 0, .int .i64 1]) (by simp [results, Try.results74, go_sem]) rfl ⟨by rw [H.out, HZ.out], ?_⟩
      exact (((Below.refl _ _).alloc (Nat.le_refl _) _).alloc (by simp) _).alloc (by simp; omega) _
  · have hr' : At.right k l s t = false := by simpa using hr
    have HR : Hid (At.right k l s t = false) := hr'
    have H : Hid (y = 70) := by show y = 70; rw [← HY.out]; simp [At.growErr, hr']
    have HZ : Hid (z = VA 0 0 0 0) := by have := HO.out; rw [H.out, if_neg (by decide)] at this; exact this
    clear hr hr'
    go_enter Try.func74, Try.ntmps74
    go_wp2_with fail
    refine (acheck_no k l s t _ HR.out).mono ?_
    rintro e w1 ⟨rfl, rfl⟩
    go_wp2
    refine bodyPost_ret (v := .tuple #[VA 0 0 0 0, .int .i64 70]) (by simp [results, Try.results74, go_sem]) rfl ⟨by rw [H.out, HZ.out], ?_⟩
    exact (((Below.refl _ _).alloc (Nat.le_refl _) _).alloc (by simp) _).alloc (by simp; omega) _

end Go.Proofs.Ytacghcoikekfeaa
/- Again -/
namespace Go.Proofs.Ytacghcoikekfeaa
open Go.ChangeShapes Go.WideShapes Go.ChangeAt Go.RowKit Go.Deep It
set_option maxRecDepth 100000

end Go.Proofs.Ytacghcoikekfeaa
