/-
  For any memo sextonlaw22.MemoPacks returns true, whatever the memory that holds the table halves as the text of the program lays it: which memos are right, and their bytes. No other condition.
-/
import Derived.Test.YtlmoibicepppmaaDoorCards
import Derived.Test.YtlmoibicepppmaaDoorTie
import Derived.Test.YtlmoibicepppmaaDoorWLaw
namespace Go.Proofs.YtlmoibicepppmaaDoor
open Go.ChangeShapes Go.WideShapes Go.ChangeAt Go.RowKit Go.Deep Me
set_option maxRecDepth 100000
open Go.ChangeMaps (open_string)

theorem ite_eq (b : Bool) : (((if b = true then (0 : Int) else 4) == 0) == b) = true := by cases b <;> rfl
set_option maxRecDepth 100000 in
set_option maxRecDepth 100000 in
set_option maxHeartbeats 4000000 in
theorem packs_law (m : Mm) (u z : Value) (w : World) (hv : MAt w m u z) (ht : Po.Tab w) : Calls Tryd.prog 3 #[VM m u z] w fun e w' => e = .returned (.bool true) ∧ Below w.heap.size w w' := by
  obtain ⟨p1, d1, rfl, -, -⟩ := hv.lives.open
  obtain ⟨p2, d2, rfl, -, -⟩ := hv.items.open
  obtain ⟨n1, hn1⟩ : ∃ n, m.lives.length = n := ⟨_, rfl⟩
  obtain ⟨n2, hn2⟩ : ∃ n, m.items.length = n := ⟨_, rfl⟩
  rw [hn1, hn2] at hv ⊢
  have HV : Hid (MAt w m (.slice p1 n1 d1) (.slice p2 n2 d2)) := hv
  have HT : Hid (Po.Tab w) := ht
  obtain ⟨W, hW⟩ : ∃ W, w.alloc (BM m (.slice p1 n1 d1) (.slice p2 n2 d2)) = W := ⟨_, rfl⟩
  have HW : Hid (w.alloc (BM m (.slice p1 n1 d1) (.slice p2 n2 d2)) = W) := hW
  have HBW : Hid (Below w.heap.size w W) := by rw [← hW]; exact below_alloc _ _
  have HX : Hid (W.heap[w.heap.size]? = some (BM m (.slice p1 n1 d1) (.slice p2 n2 d2))) := by rw [← hW]; exact heap_alloc_new _ _
  clear hv ht hn1 hn2
  obtain ⟨c0, c1, c2, c3, c4, c5, c6, c7, c8, c9, c10, c11, c12, c13, c14⟩ := mm_of (heap_alloc_new w (BM m (.slice p1 n1 d1) (.slice p2 n2 d2)))
  rw [hW] at c0 c1 c2 c3 c4 c5 c6 c7 c8 c9 c10 c11 c12 c13 c14
  clear hW
  go_enter Tryd.func3, Tryd.ntmps3
  go_wp2_with fail
  rw [HW.out]
  refine (large_any m _ _ _ (HV.out.up HBW.out)).mono ?_
  rintro e w1 ⟨⟨lb, rfl⟩, hb1⟩
  have HB1 : Hid (Below w.heap.size w w1) := bup HBW.out hb1
  have HX1 : Hid (w1.heap[w.heap.size]? = some (BM m (.slice p1 n1 d1) (.slice p2 n2 d2))) := blk HX.out hb1
  clear hb1 c0 c1 c2 c3 c4 c5 c6 c7 c8 c9 c10 c11 c12 c13 c14
  cases lb with
  | true =>
    go_wp2_with fail
    refine (change_any _ (tab_up HT.out HB1.out)).mono ?_
    rintro e w2 ⟨rfl, hb2⟩
    have HB2 : Hid (Below w.heap.size w w2) := bup HB1.out hb2
    clear hb2
    go_wp2
    go_ret
    exact ⟨rfl, HB2.out⟩
  | false =>
    obtain ⟨c0, c1, c2, c3, c4, c5, c6, c7, c8, c9, c10, c11, c12, c13, c14⟩ := mm_of HX1.out
    go_wp2_with fail
    refine (mPack_any m _ _ _ (HV.out.up HB1.out) (tab_up HT.out HB1.out)).mono ?_
    rintro e w2 ⟨rfl, hb2⟩
    have HB2 : Hid (Below w.heap.size w w2) := bup HB1.out hb2
    have HX2 : Hid (w2.heap[w.heap.size]? = some (BM m (.slice p1 n1 d1) (.slice p2 n2 d2))) := blk HX1.out hb2
    clear hb2 c0 c1 c2 c3 c4 c5 c6 c7 c8 c9 c10 c11 c12 c13 c14
    obtain ⟨c0, c1, c2, c3, c4, c5, c6, c7, c8, c9, c10, c11, c12, c13, c14⟩ := mm_of HX2.out
    go_wp2_with fail
    refine (mref_any m _ _ ⟨_, _, _, rfl⟩ ⟨_, _, _, rfl⟩ _).mono ?_
    rintro e w3 ⟨rfl, hb3⟩
    have HB3 : Hid (Below w.heap.size w w3) := bup HB2.out hb3
    have HX3 : Hid (w3.heap[w.heap.size]? = some (BM m (.slice p1 n1 d1) (.slice p2 n2 d2))) := blk HX2.out hb3
    clear hb3 c0 c1 c2 c3 c4 c5 c6 c7 c8 c9 c10 c11 c12 c13 c14
    go_wp2_with fail
    refine (rPack_any m _ _ _ (HV.out.up HB3.out)).mono ?_
    rintro e w4 ⟨rfl, hb4⟩
    have HB4 : Hid (Below w.heap.size w w4) := bup HB3.out hb4
    obtain ⟨c0, c1, c2, c3, c4, c5, c6, c7, c8, c9, c10, c11, c12, c13, c14⟩ := mm_of (blk HX3.out hb4)
    clear hb4
    have X0 := fun p : Grw w4 => p.cell c0
    have X1 := fun p : Grw w4 => p.cell c1
    have X2 := fun p : Grw w4 => p.cell c2
    have X3 := fun p : Grw w4 => p.cell c3
    have X4 := fun p : Grw w4 => p.cell c4
    have X5 := fun p : Grw w4 => p.cell c5
    have X6 := fun p : Grw w4 => p.cell c6
    have X7 := fun p : Grw w4 => p.cell c7
    have X8 := fun p : Grw w4 => p.cell c8
    have X9 := fun p : Grw w4 => p.cell c9
    have X10 := fun p : Grw w4 => p.cell c10
    have X11 := fun p : Grw w4 => p.cell c11
    have X12 := fun p : Grw w4 => p.cell c12
    have X13 := fun p : Grw w4 => p.cell c13
    have X14 := fun p : Grw w4 => p.cell c14
    have HCH : Hid (∀ p : Grw w4, Calls Tryd.prog 11 #[VM m (.slice p1 n1 d1) (.slice p2 n2 d2)] p.out fun e w' => e = .returned (.int .i64 (if right m = true then 0 else 4)) ∧ Below p.out.heap.size p.out w') := fun p => mCheck_any m _ _ _ (HV.out.up (bup HB4.out p.below))
    have HRF : Hid (∀ v : World, Calls Tryd.prog 10 #[VM m (.slice p1 n1 d1) (.slice p2 n2 d2)] v fun e w' => e = .returned (VM m (.slice p1 n1 d1) (.slice p2 n2 d2)) ∧ Below v.heap.size v w') := fun v => mref_any m _ _ ⟨_, _, _, rfl⟩ ⟨_, _, _, rfl⟩ v
    have HRI : Hid (∀ p : Grw w4, Calls Tryd.prog 12 #[VM m (.slice p1 n1 d1) (.slice p2 n2 d2)] p.out fun e w' => e = .returned (.bool (right m)) ∧ Below p.out.heap.size p.out w') := fun p => rright_any m _ _ _ (HV.out.up (bup HB4.out p.below))
    have HTW : Hid (∀ p : Grw w4, Calls Tryd.prog 7 #[] p.out fun e w' => e = .returned (.bool true) ∧ Below p.out.heap.size p.out w') := fun p => change_any _ (p.tab (tab_up HT.out HB4.out))
    have hok := ite_eq (right m)
    have hne9 : Nonempty (Grw w4) := grw_some w4
    generalize (if right m = true then (0 : Int) else 4) = ce at *
    generalize right m = cb at *
    generalize packOut m = po at *
    generalize packErr m = pe at *
    have hpo : (po.toList == po.toList) = true := beq_self_eq_true _
    clear c0 c1 c2 c3 c4 c5 c6 c7 c8 c9 c10 c11 c12 c13 c14
    go_wp2
    refine wp_region_grw (by kernel_rfl) (by kernel_rfl) ?_
    repeat (go_big_quiet_step (first
      | (go_at_call 11; with_reducible refine calls_grw (Grw.grown _) (HCH.out _))
      | (go_at_call 10; with_reducible refine calls_grw (Grw.grown _) (HRF.out _))
      | (go_at_call 12; with_reducible refine calls_grw (Grw.grown _) (HRI.out _))
      | (go_at_call 7; with_reducible refine calls_grw (Grw.grown _) (HTW.out _))))
    rintro w9 ⟨p9, rfl⟩
    have HB9 : Hid (Below w.heap.size w p9.out) := bup HB4.out p9.below
    clear X0 X1 X2 X3 X4 X5 X6 X7 X8 X9 X10 X11 X12 X13 X14
    go_wp2
    go_ret
    exact ⟨rfl, HB9.out⟩

theorem memoPacks_contract (H : Type) (enc : TypeId × Value → H) (W : World) (base : Nat) (args : Array Value) (ds gs : List (DataW H)) (before : List MemPlace)
    (hval : ∀ (j : Nat) t v, Tryd.f3.params[j]? = some t → args[j]? = some v → Value.okWide Tryd.prog W .any base t v)
    (hW : DataW.Whole enc Tryd.prog Tryd.f3.params.toList Rows.memoPacksSpec.vars false W args.toList ds gs before) (hL : laidMetH Tryd.prog Rows.memoPacksRow.laid W) :
    Calls Tryd.prog 3 args W fun e W' => ∃ v, e = .returned v ∧ Rows.memoPacksSpec.post enc Tryd.prog Tryd.f3 false true false false W args v W' := by
  have hW' := hW
  obtain ⟨p, q, hA0, hV, rfl, hfz, hnd⟩ := hW
  have hA : DataW.TrodAll enc Tryd.prog W 0 (fun _ => true) true Tryd.f3.params.toList args.toList ds p := hA0
  rw [Tryd.params3] at hA hval
  obtain ⟨v0, d0, rfl, rfl, h0⟩ := trodAll_one hA
  obtain ⟨rfl, rfl⟩ := trodVars_none hV
  obtain ⟨a0, u0, z0, rfl, w0⟩ := open_memo (hval 0 27 v0 rfl rfl) h0
  refine (packs_law a0 u0 z0 W w0 (table hL)).mono fun e W' ⟨he, hg⟩ => ⟨_, he, ?_⟩
  exact Law.post laidOut (by kernel_rfl) rfl Tryd.underlying4 hW' rfl rfl hg
theorem memoPacks_laid_met (os : Os) : laidMet Tryd.prog Rows.memoPacksRow.laid ((laidWorld Tryd.prog os).forCall (fun _ _ => 0) ⟨#[], #[.agg #[.int .i64 0, .int .i64 0, .int .i64 0, .int .i64 0, .int .i64 0, .int .i64 0, .int .i64 0, .int .i64 0, .slice none 0 0, .slice none 0 0, .int .i64 0, .int .i64 0, .int .i64 0, .int .i64 0, .string .empty]], []⟩).memory :=
  laidMet_of_run' 8 (by kernel_rfl) (by kernel_rfl)
theorem memoPacks_reads (os : Os) {H : Type} (enc : TypeId × Value → H) : ∃ places, DataW.whole enc Tryd.prog ((laidWorld Tryd.prog os).forCall (fun _ _ => 0) ⟨#[], #[.agg #[.int .i64 0, .int .i64 0, .int .i64 0, .int .i64 0, .int .i64 0, .int .i64 0, .int .i64 0, .int .i64 0, .slice none 0 0, .slice none 0 0, .int .i64 0, .int .i64 0, .int .i64 0, .int .i64 0, .string .empty]], []⟩).memory Tryd.f3.params.toList Rows.memoPacksSpec.vars false (#[.agg #[.int .i64 0, .int .i64 0, .int .i64 0, .int .i64 0, .int .i64 0, .int .i64 0, .int .i64 0, .int .i64 0, .slice none 0 0, .slice none 0 0, .int .i64 0, .int .i64 0, .int .i64 0, .int .i64 0, .string .empty]] : Array Value).toList 8 = some ([.agg [.lit (.int .i64 0), .lit (.int .i64 0), .lit (.int .i64 0), .lit (.int .i64 0), .lit (.int .i64 0), .lit (.int .i64 0), .lit (.int .i64 0), .lit (.int .i64 0), .nil, .nil, .agg [.lit (.int .i64 0), .lit (.int .i64 0), .lit (.int .i64 0)], .lit (.int .i64 0), .lit (.string [])]], [], places) :=
  ⟨[], by kernel_rfl⟩

set_option maxRecDepth 100000 in
theorem memoPacks_lifted (os : Os) (started : os.Started) (H : Type) (enc : TypeId × Value → H) (F : Stop.Interp) :
    ReturnsInHanded {} Tryd.checked os 3 .any ((OpenSpec.ofChange Rows.memoPacksSpec).preRow enc Tryd.prog Tryd.f3 Rows.memoPacksRow.domain false Rows.memoPacksRow.laid) (((OpenSpec.ofChange Rows.memoPacksSpec).at F).post enc Tryd.prog Tryd.f3 false true false false) := by
  obtain ⟨places, hx⟩ := memoPacks_reads os enc
  refine returnsInHanded_of_row (C := Tryd.checked) (s := OpenSpec.ofChange Rows.memoPacksSpec) own started (by kernel_rfl) Tryd.func3
    (witness_row_at (enc := enc) (C := Tryd.checked) false (laidWorld Tryd.prog os) #[.agg #[.int .i64 0, .int .i64 0, .int .i64 0, .int .i64 0, .int .i64 0, .int .i64 0, .int .i64 0, .int .i64 0, .slice none 0 0, .slice none 0 0, .int .i64 0, .int .i64 0, .int .i64 0, .int .i64 0, .string .empty]] rfl (by kernel_rfl) (by kernel_rfl) (by kernel_rfl)
      (OpenSpec.preRow_of_cond 8 hx (by kernel_rfl) (fun k hk => by cases hk) (by kernel_rfl) (memoPacks_laid_met os))) ?_
  intro W base args ds gs before hval hW _ _ _ hL _ _
  exact memoPacks_contract H enc W base args ds gs before hval hW hL

theorem memoPacks_said : Rows.MemoPacksSaid :=
  OpenClaim.holds_of_cond 3 Tryd.f3 rfl rfl rfl rfl rfl rfl rfl ⟨rfl, rfl, rfl, rfl, rfl⟩ rfl rfl rfl rfl rfl (by kernel_rfl) Tryd.func3 (by kernel_rfl)
    (of_decide_eq_true (by kernel_rfl)) (by unfold Func.isWrapper; first | (rw [if_pos (by decide +kernel)]; kernel_rfl) | (rw [if_neg (by decide +kernel)]; exact ⟨rfl, rfl⟩))
    (fun os started H enc _ F => by rw [OpenClaim.pre_eq_preRow]; exact memoPacks_lifted os started H enc F)

theorem memoPacks_plain (f : FuncId) (fn : Func) (hf : Tryd.pinned.checked.prog.funcNamed "sexton/sextonlaw22.MemoPacks" = some f) (hfn : Tryd.pinned.checked.prog.funcs[f]? = some fn) :
    true = Tryd.pinned.checked.prog.looks [] ∧ ∀ (j : Nat) t, fn.params[j]? = some t → Tryd.pinned.checked.prog.wantsStandIn t = false := by
  obtain rfl : f = 3 := Option.some.inj ((show Tryd.prog.funcNamed "sexton/sextonlaw22.MemoPacks" = some 3 by kernel_rfl).symm.trans hf) |>.symm
  obtain rfl : fn = Tryd.f3 := (Option.some.inj (Tryd.func3.symm.trans hfn)).symm
  refine ⟨by kernel_rfl, fun j t ht => ?_⟩
  rw [Tryd.params3] at ht
  obtain rfl : t = 27 := by simpa using Array.mem_of_getElem? ht
  exact (show Tryd.prog.wantsStandIn 27 = false by kernel_rfl)

theorem memoPacks_card : Rows.MemoPacksCardSaid :=
  Claim7.holds_tied_plain_at .later [] _ _ _ _ memoPacks_said (fun _ h => by cases h) (by kernel_rfl) (fun _ h => by cases h) memoPacks_row_tie rfl ⟨rfl, rfl⟩ (by kernel_rfl) rfl memoPacks_plain (by kernel_rfl)
#print axioms memoPacks_card
end Go.Proofs.YtlmoibicepppmaaDoor
