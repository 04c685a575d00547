/-
  OpensBack: for every list of open files, every client and every handle the call answers true, and the arguments read as before. No condition.
-/
import Derived.Test.YtlikcijoejgkkaaSame
import Derived.Test.YtlikcijoejgkkaaTwo
import Derived.Test.YtlikcijoejgkkaaPlainB
import Derived.Test.YtlikcijoejgkkaaOpenA
import Derived.Test.YtlikcijoejgkkaaLaw
import Derived.ChangeMaps5
namespace Go.Proofs.Ytlikcijoejgkkaa
open Go.ChangeShapes Go.WideShapes Go.ChangeAt Go.RowKit Go.Deep
/-- Any world grown from w. -/
structure Grw (w : World) where
  out : World
  grown : w.grownBy out none
theorem grw_some (w : World) : Nonempty (Grw w) := ⟨⟨w, grown_refl _ _⟩⟩
/-- A region that only reads, and whose callees read and lay blocks of their own, walked once. -/
theorem wp_region_grw {P : Program} {id : Nat} {Q : Exit → Act → World → Prop} {a : Act} {w : World} {l : List Oper} (hm : P.follows .mixedOrders = true) (hB : Region.lexB .any l.toArray = true)
    (h : wpQuiet P l.toArray (fun w' => ∃ p : Grw w, w' = p.out) (fun a' => ∀ w', (∃ p : Grw w, w' = p.out) → Q .normal a' w') l a) : (Code.region id l.toArray true).wp P Q a w :=
  wp_region_quiet (C := fun w' => ∃ p : Grw w, w' = p.out) hm hB ⟨⟨w.drew, ⟨rfl, rfl, rfl, Nat.le_refl _, fun _ _ _ => rfl⟩⟩, rfl⟩ (by simpa using h)
theorem calls_grw {P : Program} {f : FuncId} {args : Array Value} {w W : World} {v : Value} (hg : w.grownBy W none)
    (h : Calls P f args W fun e w' => e = .returned v ∧ Below W.heap.size W w') : Calls P f args W fun e w'' => e = .returned v ∧ ∃ p : Grw w, w'' = p.out :=
  h.mono fun _ w' ⟨he, hw⟩ => ⟨he, ⟨w', grown_trans hg (grown_of_below hw none)⟩, rfl⟩
theorem Grw.below {w : World} (p : Grw w) : Below w.heap.size w p.out := below_none p.grown (Nat.le_refl _)
theorem Grw.cell {w : World} (p : Grw w) {b j : Nat} {v : Value} (h : w.cell? ⟨b, j, none⟩ = some v) : p.out.cell? ⟨b, j, none⟩ = some v := cell_step h p.below
set_option maxHeartbeats 8000000 in
theorem back_any (v : Value) (l : List Opn) (c no gen : Int) (w : World) (hv : AtW EO w v l) :
    Calls Try.prog 6 #[v, .int .i64 c, VH no gen] w fun e w' => e = .returned (.bool true) ∧ Below w.heap.size w w' := by
  have hv0 := hv
  obtain ⟨ao, cap, rfl, hm, -⟩ := hv0.open
  clear hv0
  unfold maxLen at hm
  obtain ⟨m, hlm⟩ : ∃ m, l.length = m := ⟨_, rfl⟩
  rw [hlm] at hm hv ⊢
  have HLM : Hid (l.length = m) := hlm
  have HA0 : Hid ((w.alloc (BH no gen)).heap[w.heap.size]? = some (BH no gen)) := heap_alloc_new w (BH no gen)
  have HB0 : Hid (Below w.heap.size w (w.alloc (BH no gen))) := (Below.refl _ w).alloc (Nat.le_refl _) _
  have HV0 : Hid (AtW EO (w.alloc (BH no gen)) (.slice ao m cap) l) := hv.up HB0.out
  obtain ⟨h0, h1⟩ := hand_of HA0.out
  clear hv hlm
  by_cases he : Op.openErr l c no gen = 0
  · have HE : Hid (Op.openErr l c no gen = 0) := he
    obtain ⟨-, -, -, -, hl16, -, -⟩ := Op.op_facts he
    have HAR : Hid (Op.right 0 (Op.opened l c no gen) = true) := Op.op_right he
    have HAL : Hid ((Op.opened l c no gen).length = l.length + 1) := Op.op_len he
    have HAH : Hid (Op.held (Op.opened l c no gen) no gen = Op.held l no gen + 1) := Op.op_held he
    have HAA : Hid (Op.ask (Op.opened l c no gen) c = 0) := Op.op_ask he
    have HCL : Hid (Op.closed (Op.opened l c no gen) c (Op.openFd l c no gen) = l ∧ Op.closeErr (Op.opened l c no gen) c (Op.openFd l c no gen) = 0 ∧ Op.closeOf (Op.opened l c no gen) c (Op.openFd l c no gen) = (no, gen)) := Op.op_closed he
    have HLL : Hid (l.length < 16) := hl16
    rw [HLM.out] at hl16
    obtain ⟨a, haa⟩ : ∃ a, Op.opened l c no gen = a := ⟨_, rfl⟩
    obtain ⟨fd, hfd⟩ : ∃ fd, Op.openFd l c no gen = fd := ⟨_, rfl⟩
    have HF : Hid (Op.openFd l c no gen = fd) := hfd
    have HAE : Hid (Op.opened l c no gen = a) := haa
    rw [haa] at HAR HAL HAH HAA HCL
    rw [hfd] at HCL
    obtain ⟨hd, hhd⟩ : ∃ hd, Op.held l no gen = hd := ⟨_, rfl⟩
    have HHD : Hid (Op.held l no gen = hd) := hhd
    rw [hhd] at HAH
    have hdl : hd ≤ 16 := by have h1 : Op.held l no gen ≤ l.length := List.countP_le_length; have := HLL.out; omega
    clear he haa hfd hhd
    go_enter Try.func6, Try.ntmps6
    go_wp2_with fail
    refine (open_any _ l c no gen _ HV0.out).mono ?_
    rintro e w1 ⟨p1, n1, q1, rfl, hu1, hb1⟩
    rw [HF.out, HE.out]
    rw [HAE.out] at hu1
    have HN1 : Hid (n1 = m + 1) := by show n1 = m + 1; rw [hu1.lenq, HAL.out, HLM.out]
    have t1'' : ((n1 : Int) != (m : Int) + 1) = false := by rw [HN1.out]; simp
    have HB1 : Hid (Below w.heap.size w w1) := HB0.out.trans (hb1.mono HB0.out.size)
    have g0 := fun p : Grw w1 => p.cell (cell_step h0 hb1)
    have g1 := fun p : Grw w1 => p.cell (cell_step h1 hb1)
    have k0 := cell_step h0 hb1
    have k1 := cell_step h1 hb1
    have HU1 : Hid (∀ V, w1.grownBy V none → AtW EO V (.slice p1 n1 q1) a) := fun V hV => hu1.wide.up (below_none hV (Nat.le_refl _))
    have HV1 : Hid (∀ V, w1.grownBy V none → AtW EO V (.slice ao m cap) l) := fun V hV => (HV0.out.up hb1).up (below_none hV (Nat.le_refl _))
    have HC1 : Hid (∀ V, w1.grownBy V none → Calls Try.prog 8 #[.slice p1 n1 q1] V fun e w' => e = .returned (.int .i64 0) ∧ Below V.heap.size V w') := fun V hV => by
      have := check_any _ a V (HU1.out V hV)
      rwa [if_pos HAR.out] at this
    have HC2 : Hid (∀ V, w1.grownBy V none → Calls Try.prog 10 #[.slice p1 n1 q1, VH no gen] V fun e w' => e = .returned (.int .i64 ((hd : Int) + 1)) ∧ Below V.heap.size V w') := fun V hV => by
      have := held_any _ a no gen V (HU1.out V hV)
      rw [HAH.out] at this
      exact this
    have HC3 : Hid (∀ V, w1.grownBy V none → Calls Try.prog 10 #[.slice ao m cap, VH no gen] V fun e w' => e = .returned (.int .i64 (hd : Int)) ∧ Below V.heap.size V w') := fun V hV => by
      have := held_any _ l no gen V (HV1.out V hV)
      rw [HHD.out] at this
      exact this
    have hne9 : Nonempty (Grw w1) := grw_some w1
    have t2 : ((hd : Int) + 1 == (hd : Int) + 1) = true := by simp
    clear hu1 hb1 h0 h1
    go_wp2_with fail
    refine wp_region_grw (by kernel_rfl) (by kernel_rfl) ?_
    repeat (go_big_quiet_step (first
      | (go_at_call 8; refine calls_grw (Grw.grown _) (HC1.out _ (Grw.grown _)))
      | (go_at_call 10; with_reducible refine calls_grw (Grw.grown _) (HC2.out _ (Grw.grown _)))
      | (go_at_call 10; with_reducible refine calls_grw (Grw.grown _) (HC3.out _ (Grw.grown _)))))
    rintro w9 ⟨p9, rfl⟩
    have HB2 : Hid (Below w.heap.size w p9.out) := HB1.out.trans (p9.below.mono HB1.out.size)
    have HU2 : Hid (AtW EO p9.out (.slice p1 n1 q1) a) := HU1.out _ p9.grown
    have HV2 : Hid (AtW EO p9.out (.slice ao m cap) l) := HV1.out _ p9.grown
    have l0 := g0 p9
    have l1 := g1 p9
    clear g0 g1 k0 k1 hne9
    generalize p9.out = w2 at *
    clear p9 HU1 HV1 HC1 HC2 HC3
    go_wp2_with fail
    refine (close_any _ a c fd _ HU2.out).mono ?_
    rintro e w3 ⟨p3, n3, q3, rfl, hu3, hb3⟩
    rw [HCL.out.2.1, HCL.out.2.2]
    rw [HCL.out.1] at hu3
    have hb3' := HB2.out.trans (hb3.mono HB2.out.size)
    have hup := (Below.refl _ w3).alloc (Nat.le_refl _) (BH no gen)
    have HB3 : Hid (Below w.heap.size w (w3.alloc (BH no gen))) := hb3'.alloc hb3'.size _
    have HU3 : Hid (AtW EO (w3.alloc (BH no gen)) (.slice p1 n1 q1) a ∧ AtW EO (w3.alloc (BH no gen)) (.slice ao m cap) l ∧ AtW EO (w3.alloc (BH no gen)) (.slice p3 n3 q3) l) := ⟨(HU2.out.up hb3).up hup, (HV2.out.up hb3).up hup, hu3.wide.up hup⟩
    have i0 := cell_step (cell_step l0 hb3) hup
    have i1 := cell_step (cell_step l1 hb3) hup
    obtain ⟨j0, j1⟩ := hand_of (heap_alloc_new w3 (BH no gen))
    clear hu3 hb3 hb3' hup l0 l1
    go_wp2_with fail
    refine (leave_any _ a c _ HU3.out.1).mono ?_
    rintro e w4 ⟨p4, n4, q4, p4', n4', q4', rfl, hu4, hh4, hb4⟩
    rw [HAA.out]
    have HB4 : Hid (Below w.heap.size w w4) := HB3.out.trans (hb4.mono HB3.out.size)
    have HU4 : Hid (AtW EO w4 (.slice p1 n1 q1) a ∧ AtW EO w4 (.slice ao m cap) l ∧ AtW EO w4 (.slice p3 n3 q3) l ∧ AtW EO w4 (.slice p4 n4 q4) (Op.left a c)) := ⟨HU3.out.1.up hb4, HU3.out.2.1.up hb4, HU3.out.2.2.up hb4, hu4.wide⟩
    have hn4 := hu4.lenq
    have hn4' := hh4.lenq
    have hsum : n4 + n4' = n1 := by rw [hn4, hn4', (Op.left_len HAA.out).1, HAL.out, HLM.out, HN1.out]
    have HGL : Hid (n4' = (Op.owned a c).length) := by rw [hn4']; exact (Op.left_len HAA.out).2
    have r0 := cell_step i0 hb4
    have r1 := cell_step i1 hb4
    have r2 := cell_step j0 hb4
    have r3 := cell_step j1 hb4
    have t3 : ((n4 : Int) + (n4' : Int) == (n1 : Int)) = true := by rw [beq_iff_eq]; omega
    have heq : ∀ w', (binOp .eql 24 (VH no gen) (VH no gen)).run Try.prog w' = .ok (.bool true) w' := fun w' => by rw [eql_hand]; simp
    have HLA : Hid (a.length ≤ 17) := by have := HAL.out; have := HLL.out; show a.length ≤ 17; omega
    have hl17 : n4 ≤ 17 ∧ n4' ≤ 17 := by have := HLA.out; have := HAL.out; have := HLM.out; have := HN1.out; omega
    obtain ⟨hl4, hl4'⟩ := hl17
    clear hu4 hh4 hb4 i0 i1 j0 j1 hn4 hn4' hsum
    go_wp2_with fail
    refine (opens_same _ _ l _ HU4.out.2.2.1 HU4.out.2.1).mono ?_
    rintro e w5 ⟨rfl, hb5⟩
    have HB5 : Hid (Below w.heap.size w w5) := HB4.out.trans (hb5.mono HB4.out.size)
    have HU5 : Hid (AtW EO w5 (.slice p1 n1 q1) a ∧ AtW EO w5 (.slice p4 n4 q4) (Op.left a c)) := ⟨HU4.out.1.up hb5, HU4.out.2.2.2.up hb5⟩
    clear hb5 r0 r1 r2 r3
    go_wp2_with fail
    refine (of_any _ (Op.left a c) c _ HU5.out.2 (by have := (Op.left_len HAA.out).1; have := HLA.out; omega)).mono ?_
    rintro e w6 ⟨p6, n6, q6, rfl, hu6, hb6⟩
    rw [Op.left_own HAA.out] at hu6
    obtain rfl : n6 = 0 := hu6.lenq
    have HB6 : Hid (Below w.heap.size w w6) := HB5.out.trans (hb6.mono HB5.out.size)
    have HU6 : Hid (AtW EO w6 (.slice p1 n1 q1) a) := HU5.out.1.up hb6
    clear hb6 hu6
    go_wp2_with fail
    refine (of_any _ a c _ HU6.out (by have := HLA.out; omega)).mono ?_
    rintro e w7 ⟨p7, n7, q7, rfl, hu7, hb7⟩
    obtain rfl : n7 = n4' := by rw [hu7.lenq, HGL.out, List.length_map]
    have HB7 : Hid (Below w.heap.size w w7) := HB6.out.trans (hb7.mono HB6.out.size)
    have t4 : ((n7 : Int) == (n7 : Int)) = true := by simp
    clear hb7 hu7
    go_wp2_with fail
    refine (two_any _).mono ?_
    rintro e w8 ⟨rfl, hb8⟩
    have HB8 : Hid (Below w.heap.size w w8) := HB7.out.trans (hb8.mono HB7.out.size)
    clear hb8
    go_wp2
    go_ret
    exact ⟨rfl, HB8.out⟩
  · have HP : Hid (Op.opened l c no gen = []) := if_neg he
    obtain ⟨er, her⟩ : ∃ er, Op.openErr l c no gen = er := ⟨_, rfl⟩
    have HER : Hid (Op.openErr l c no gen = er) := her
    rw [her] at he
    have hne : (er == 0) = false := beq_eq_false_iff_ne.2 he
    clear he her
    go_enter Try.func6, Try.ntmps6
    go_wp2_with fail
    refine (open_any _ l c no gen _ HV0.out).mono ?_
    rintro e w1 ⟨p1, n1, q1, rfl, hu1, hb1⟩
    rw [HER.out]
    rw [HP.out] at hu1
    obtain rfl : n1 = 0 := hu1.lenq
    have HB1 : Hid (Below w.heap.size w w1) := HB0.out.trans (hb1.mono HB0.out.size)
    clear hu1 hb1 h0 h1
    go_wp2_with fail
    refine (two_any _).mono ?_
    rintro e w8 ⟨rfl, hb8⟩
    have HB8 : Hid (Below w.heap.size w w8) := HB1.out.trans (hb8.mono HB1.out.size)
    clear hb8
    go_wp2
    go_ret
    exact ⟨rfl, HB8.out⟩

set_option maxRecDepth 100000 in
theorem opensBack_lifted (os : Os) (started : os.Started) (H : Type) (enc : TypeId × Value → H) :
    ReturnsInHanded {} Try.checked os 6 .any (Rows.opensBackSpec.pre6 enc Try.prog Try.f6 Rows.opensBackRow.domain false) (Rows.opensBackSpec.post enc Try.prog Try.f6 false true false false) := by
  refine returnsInHanded_of_change_sized (C := Try.checked) own started (by kernel_rfl) Try.func6
    (ChangeSpec.witness6 (enc := enc) (C := Try.checked) false ⟨#[], #[.slice none 0 0, .int .i64 0, .agg #[.int .i64 0, .int .i64 0]], []⟩ 8 (by kernel_rfl) (by kernel_rfl) (by kernel_rfl) (by kernel_rfl)) ?_
  intro W base args ds gs before hval0 hW hcnd hsized _
  have hval : ∀ (j : Nat) t v, Try.f6.params[j]? = some t → args[j]? = some v → Value.okWide Try.prog W .any base t v := hval0
  have hW' := hW
  have hlt : ∀ x ∈ before, x.block < W.heap.size := fun x hx => by simpa using hW'.lt x hx
  obtain ⟨p, q, hA0, hV, rfl, hfz, hnd⟩ := hW
  have hA : DataW.TrodAll enc Try.prog W 0 (fun _ => true) true Try.f6.params.toList args.toList ds p := hA0
  rw [Try.params6] at hA hval
  obtain ⟨v0, v1, v2, d0, d1, d2, p0, p1, p2, rfl, rfl, rfl, h0, h1, h2⟩ := trodAll_three hA
  obtain ⟨rfl, rfl⟩ := trodVars_none hV
  have hwt0 : ∀ n ∈ d0.weights Try.prog 22, n ≤ reachBytes := fun n hn => by
    have := List.all_eq_true.1 hsized n (DataW.weights_mem_each (j := 0) (t := 22) (d := d0) rfl rfl n hn)
    simpa using this
  obtain ⟨l, hl, hln⟩ := open_opens (okWide_slice Try.underlying22 (hval 0 22 v0 rfl rfl)) h0 hwt0
  obtain ⟨c, rfl, -, -, -⟩ := open_int Try.underlying3 (hval 1 3 v1 rfl rfl) h1
  obtain ⟨no, gen, rfl⟩ := open_handle (hval 2 24 v2 rfl rfl) h2
  refine (back_any v0 l c no gen W hl).mono fun e W' ⟨he, hg⟩ => ⟨_, he, ?_⟩
  exact Law.post laidOut (by kernel_rfl) rfl Try.underlying4 hW' rfl rfl hg

theorem opensBack_holds : Rows.OpensBackSaid :=
  OpenClaim.holds_of_wide 6 Try.f6 rfl rfl rfl rfl rfl rfl rfl ⟨rfl, rfl, rfl, rfl, rfl⟩ rfl rfl rfl rfl rfl (by kernel_rfl) Try.func6 (by kernel_rfl)
    (of_decide_eq_true (by kernel_rfl)) (by unfold Func.isWrapper; first | (rw [if_pos (by decide +kernel)]; kernel_rfl) | (rw [if_neg (by decide +kernel)]; exact ⟨rfl, rfl⟩))
    (fun os started H enc _ => opensBack_lifted os started H enc)
#print axioms opensBack_holds
end Go.Proofs.Ytlikcijoejgkkaa
