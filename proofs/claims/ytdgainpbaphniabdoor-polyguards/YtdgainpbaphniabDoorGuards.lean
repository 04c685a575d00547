/-
  For any string s sextonlaw02.PolyGuards returns true, whatever the memory that holds the table halves as the program's text lays it: poly.Guard and poly.Unguard answer what the document's answer, and what is guarded is unguarded. No other condition.
-/
import Derived.Test.YtdgainpbaphniabDoorCards
import Derived.Test.YtdgainpbaphniabDoorTie
import Derived.Test.YtdgainpbaphniabDoorLaw
import Derived.Test.YtdgainpbaphniabDoorFrame
import Derived.Test.YtdgainpbaphniabDoorGuard
import Derived.SizedLaws
namespace Go.Proofs.YtdgainpbaphniabDoor
open Go.ChangeShapes Go.WideShapes Go.ChangeAt Go.RowKit
open Go.ChangeMaps (open_string)

set_option maxHeartbeats 1000000 in
theorem guards_law (s : ByteArray) (w : World) (hs : s.size ≤ 140737488351232) (ht : Tab w) :
    Calls Tryd.prog 6 #[.string s] w fun e w' => e = .returned (.bool true) ∧ Below w.heap.size w w' := by
  have HT : Hid (Tab w) := ht
  have HS : Hid (s.size ≤ 1125899906842624 ∧ (Pl.guardOf s).size ≤ 1125899906842624) := ⟨by omega, by rw [Pl.guardOf_size]; omega⟩
  have HU : Hid (Pl.ungOut (Pl.guardOf s) = s ∧ Pl.ungErr (Pl.guardOf s) = 0) := ung_guard s
  clear ht
  go_enter Tryd.func6, Tryd.ntmps6
  go_wp2_with fail
  refine (unguard_any s _ HS.out.1 HT.out).mono ?_
  rintro e w1 ⟨rfl, hb1⟩
  go_wp2_with fail
  refine (refUnguard_any s _ HS.out.1).mono ?_
  rintro e w2 ⟨rfl, hb2⟩
  have hb02 : Below w.heap.size w w2 := hb1.trans (hb2.mono hb1.size)
  clear hb1 hb2
  generalize Pl.ungOut s = a
  generalize Pl.ungErr s = f
  go_wp2_with fail
  refine (guard_any s _ HS.out.1 (HT.out.below hb02)).mono ?_
  rintro e w3 ⟨rfl, hb3⟩
  have hb03 : Below w.heap.size w w3 := hb02.trans (hb3.mono hb02.size)
  clear hb3 hb02
  go_wp2_with fail
  refine (unguard_any (Pl.guardOf s) _ HS.out.2 (HT.out.below hb03)).mono ?_
  rintro e w4 ⟨rfl, hb4⟩
  have hb04 : Below w.heap.size w w4 := hb03.trans (hb4.mono hb03.size)
  clear hb4 hb03
  rw [HU.out.1, HU.out.2]
  go_wp2_with fail
  refine (guard_any s _ HS.out.1 (HT.out.below hb04)).mono ?_
  rintro e w5 ⟨rfl, hb5⟩
  have hb05 : Below w.heap.size w w5 := hb04.trans (hb5.mono hb04.size)
  clear hb5 hb04
  go_wp2_with fail
  refine (refGuard_any s _ HS.out.1).mono ?_
  rintro e w6 ⟨rfl, hb6⟩
  have hb06 : Below w.heap.size w w6 := hb05.trans (hb6.mono hb05.size)
  clear hb6 hb05
  generalize Pl.guardOf s = g at *
  go_wp2_with fail
  refine (nine_any _ (HT.out.below hb06)).mono ?_
  rintro e w7 ⟨rfl, rfl⟩
  go_wp2
  go_ret
  exact ⟨rfl, hb06⟩

theorem guards_contract (H : Type) (enc : TypeId × Value → H) (W : World) (base : Nat) (args : Array Value) (ds gs : List (DataW H)) (before : List MemPlace)
    (hval : ∀ (j : Nat) t v, Tryd.f6.params[j]? = some t → args[j]? = some v → Value.okWide Tryd.prog W .any base t v)
    (hW : DataW.Whole enc Tryd.prog Tryd.f6.params.toList Rows.polyGuardsSpec.vars false W args.toList ds gs before) (hsz : (DataW.weightsEach Tryd.prog (Tryd.f6.params.toList ++ Rows.polyGuardsSpec.plain.varTypes Tryd.prog) (ds ++ gs)).all (· ≤ reachBytes) = true) (hL : laidMetH Tryd.prog Rows.polyGuardsRow.laid W) :
    Calls Tryd.prog 6 args W fun e W' => ∃ v, e = .returned v ∧ Rows.polyGuardsSpec.post enc Tryd.prog Tryd.f6 false true false false W args v W' := by
  have hW' := hW
  obtain ⟨p, q, hA0, hV, rfl, hfz, hnd⟩ := hW
  have hA : DataW.TrodAll enc Tryd.prog W 0 (fun _ => true) true Tryd.f6.params.toList args.toList ds p := hA0
  rw [Tryd.params6] at hA hval hsz
  obtain ⟨v0, d0, rfl, rfl, h0⟩ := trodAll_one hA
  obtain ⟨rfl, rfl⟩ := trodVars_none hV
  obtain ⟨s, rfl, rfl, rfl, hs⟩ := open_string Tryd.underlying9 (hval 0 9 v0 rfl rfl) h0
  have zs : s.size ≤ 140737488351232 := by
    have := sized_string hsz (j := 0) rfl rfl
    rw [Array.length_toList] at this
    exact this
  refine (guards_law s W zs (table hL)).mono fun e W' ⟨he, hg⟩ => ⟨_, he, ?_⟩
  exact Law.post laidOut (by kernel_rfl) rfl Tryd.underlying4 hW' rfl rfl hg

theorem guards_laid_met (os : Os) : laidMet Tryd.prog Rows.polyGuardsRow.laid ((laidWorld Tryd.prog os).forCall (fun _ _ => 0) ⟨#[], #[.string .empty], []⟩).memory :=
  laidMet_of_run' 8 (by kernel_rfl) (by kernel_rfl)
theorem guards_reads (os : Os) {H : Type} (enc : TypeId × Value → H) : ∃ places, DataW.whole enc Tryd.prog ((laidWorld Tryd.prog os).forCall (fun _ _ => 0) ⟨#[], #[.string .empty], []⟩).memory Tryd.f6.params.toList Rows.polyGuardsSpec.vars false #[Value.string .empty].toList 8 = some ([.lit (.string [])], [], places) :=
  ⟨[], by kernel_rfl⟩

set_option maxRecDepth 100000 in
theorem guards_lifted (os : Os) (started : os.Started) (H : Type) (enc : TypeId × Value → H) (F : Stop.Interp) :
    ReturnsInHanded {} Tryd.checked os 6 .any ((OpenSpec.ofChange Rows.polyGuardsSpec).preRow enc Tryd.prog Tryd.f6 Rows.polyGuardsRow.domain false Rows.polyGuardsRow.laid) (((OpenSpec.ofChange Rows.polyGuardsSpec).at F).post enc Tryd.prog Tryd.f6 false true false false) := by
  obtain ⟨places, hx⟩ := guards_reads os enc
  refine returnsInHanded_of_row (C := Tryd.checked) (s := OpenSpec.ofChange Rows.polyGuardsSpec) own started (by kernel_rfl) Tryd.func6
    (witness_row_at (enc := enc) (C := Tryd.checked) false (laidWorld Tryd.prog os) #[.string .empty] rfl (by kernel_rfl) (by kernel_rfl) (by kernel_rfl)
      (OpenSpec.preRow_of_cond 8 hx (by kernel_rfl) (fun k hk => by cases hk) (by kernel_rfl) (guards_laid_met os))) ?_
  intro W base args ds gs before hval hW _ _ hsz hL _ _
  exact guards_contract H enc W base args ds gs before hval hW hsz hL

theorem guards_said : Rows.PolyGuardsSaid :=
  OpenClaim.holds_of_cond 6 Tryd.f6 rfl rfl rfl rfl rfl rfl rfl ⟨rfl, rfl, rfl, rfl, rfl⟩ rfl rfl rfl rfl rfl (by kernel_rfl) Tryd.func6 (by kernel_rfl)
    (of_decide_eq_true (by kernel_rfl)) (by unfold Func.isWrapper; first | (rw [if_pos (by decide +kernel)]; kernel_rfl) | (rw [if_neg (by decide +kernel)]; exact ⟨rfl, rfl⟩))
    (fun os started H enc _ F => by rw [OpenClaim.pre_eq_preRow]; exact guards_lifted os started H enc F)

theorem guards_plain (f : FuncId) (fn : Func) (hf : Tryd.pinned.checked.prog.funcNamed "sexton/sextonlaw02.PolyGuards" = some f) (hfn : Tryd.pinned.checked.prog.funcs[f]? = some fn) :
    false = Tryd.pinned.checked.prog.looks [] ∧ ∀ (j : Nat) t, fn.params[j]? = some t → Tryd.pinned.checked.prog.wantsStandIn t = false := by
  obtain rfl : f = 6 := Option.some.inj ((show Tryd.prog.funcNamed "sexton/sextonlaw02.PolyGuards" = some 6 by kernel_rfl).symm.trans hf) |>.symm
  obtain rfl : fn = Tryd.f6 := (Option.some.inj (Tryd.func6.symm.trans hfn)).symm
  refine ⟨by kernel_rfl, fun j t ht => ?_⟩
  rw [Tryd.params6] at ht
  obtain rfl : t = 9 := by simpa using Array.mem_of_getElem? ht
  exact (show Tryd.prog.wantsStandIn 9 = false by kernel_rfl)

theorem polyGuards_card : Rows.PolyGuardsCardSaid :=
  Claim7.holds_tied_plain_at .later [] _ _ _ _ guards_said (fun _ h => by cases h) (by kernel_rfl) (fun _ h => by cases h) polyGuards_row_tie rfl ⟨rfl, rfl⟩ (by kernel_rfl) rfl guards_plain (by kernel_rfl)
#print axioms polyGuards_card
end Go.Proofs.YtdgainpbaphniabDoor
