/-
  The statement ShotPacks: for every input that reads as rows say, in a world whose table is as the program's text lays it, the call answers true, and the input reads as it did.
-/
import Derived.ChangeMaps5
import Derived.OpenShut
import Derived.Deep.DeepHandedRow
import Derived.Lib.LaidTab
import Derived.Test.YtggoccfddnpelaaGreatDoorRows
import Derived.Test.YtggoccfddnpelaaGreatDoorCards
import Derived.Test.YtggoccfddnpelaaGreatDoorTie
import Derived.Test.YtggoccfddnpelaaGreatDoorR1
import Derived.Test.YtggoccfddnpelaaGreatDoorR2
import Derived.Test.YtggoccfddnpelaaGreatDoorR3
import Derived.Test.YtggoccfddnpelaaGreatDoorR4
import Derived.Test.YtggoccfddnpelaaGreatDoorR5
import Derived.Test.YtggoccfddnpelaaGreatDoorR6
import Derived.Test.YtggoccfddnpelaaGreatDoorR7
import Derived.Test.YtggoccfddnpelaaGreatDoorR8
import Derived.Test.YtggoccfddnpelaaGreatDoorR9
import Derived.Test.YtggoccfddnpelaaGreatDoorR10
import Derived.Test.YtggoccfddnpelaaGreatDoorR11
import Derived.Test.YtggoccfddnpelaaGreatDoorR12
import Derived.Test.YtggoccfddnpelaaGreatDoorR13
import Derived.Test.YtggoccfddnpelaaGreatDoorR14
import Derived.Test.YtggoccfddnpelaaGreatDoorR15
import Derived.Test.YtggoccfddnpelaaGreatDoorR16
import Derived.Test.YtggoccfddnpelaaGreatDoorR17
import Derived.Test.YtggoccfddnpelaaGreatDoorR18
import Derived.Test.YtggoccfddnpelaaGreatDoorR19
import Derived.Test.YtggoccfddnpelaaGreatDoorR20
import Derived.Test.YtggoccfddnpelaaGreatDoorR21
import Derived.Test.YtggoccfddnpelaaGreatDoorR22
import Derived.Test.YtggoccfddnpelaaGreatDoorR23
import Derived.Test.YtggoccfddnpelaaGreatDoorR24
import Derived.Test.YtggoccfddnpelaaGreatDoorR25
import Derived.Test.YtggoccfddnpelaaGreatDoorR26
import Derived.Test.YtggoccfddnpelaaGreatDoorR27
import Derived.Test.YtggoccfddnpelaaGreatDoorR28
import Derived.Test.YtggoccfddnpelaaGreatDoorR29
import Derived.Test.YtggoccfddnpelaaGreatDoorR30
import Derived.Test.YtggoccfddnpelaaGreatDoorR31
import Derived.Test.YtggoccfddnpelaaGreatDoorR32
import Derived.Test.YtggoccfddnpelaaGreatDoorR33
import Derived.Test.YtggoccfddnpelaaGreatDoorR34
import Derived.Test.YtggoccfddnpelaaGreatDoorR35
import Derived.Test.YtggoccfddnpelaaGreatDoorR36
import Derived.Test.YtggoccfddnpelaaGreatDoorR37
import Derived.Test.YtggoccfddnpelaaGreatDoorR38
import Derived.Test.YtggoccfddnpelaaGreatDoorR39
import Derived.Test.YtggoccfddnpelaaGreatDoorR40
namespace Go.Proofs.YtggoccfddnpelaaGreatDoor
open Go.ChangeShapes Go.WideShapes Go.ChangeAt Go.RowKit Go.Deep It
set_option maxRecDepth 100000
theorem gTab : Tryz.prog.globalNamed "sexton/poly.halves" = some 0 := by kernel_rfl
theorem gTabType : (Tryz.prog.globals[0]?).map (·.type) = some 128 := by kernel_rfl
theorem cellsTab : Tryz.prog.cellsOf 128 = 16 := by kernel_rfl
theorem cellsU32 : Tryz.prog.cellsOf 90 = 1 := by kernel_rfl
theorem table {W : World} (h : laidMetH Tryz.prog Rows.shotPacksRow.laid W) : Po.Tab W := by
  have h1 : Lib.TabIs Tryz.prog W "sexton/poly.halves" .u32 Po.Pl.tab := Lib.tabIs_of_head (rest := []) gTab gTabType Tryz.underlying128 Tryz.underlying90 cellsU32 cellsTab h
  intro j hj
  have h2 := h1.cell gTab j (by simpa [Po.Pl.tab] using hj)
  rw [Po.Pl.tab_half j hj] at h2
  exact h2
/-- A world for the witness: the settled one, the table (block 0) holding what its initialiser lays. -/
def fillTab : Obj → Obj
  | .cells _ t frozen => .cells (Po.Pl.tab.map fun z => Value.int .u32 z).toArray t frozen
  | o => o
def laidWorld (P : Program) (os : Os) : World := { World.holding P os ⟨#[], #[], []⟩ with heap := (World.holding P os ⟨#[], #[], []⟩).heap.modify 0 fillTab }
theorem shotPacks_contract (H : Type) (enc : TypeId × Value → H) (W : World) (base : Nat) (args : Array Value) (ds gs : List (DataW H)) (before : List MemPlace)
    (hval : ∀ (j : Nat) t v, Tryz.f3.params[j]? = some t → args[j]? = some v → Value.okWide Tryz.prog W .any base t v)
    (hW : DataW.Whole enc Tryz.prog Tryz.f3.params.toList Rows.shotPacksSpec.vars false W args.toList ds gs before)
    (hsized : (DataW.weightsEach Tryz.prog (Tryz.f3.params.toList ++ (OpenSpec.ofChange Rows.shotPacksSpec).bare.plain.varTypes Tryz.prog) (ds ++ gs)).all (· ≤ reachBytes) = true) (hL : laidMetH Tryz.prog Rows.shotPacksRow.laid W) :
    Calls Tryz.prog 3 args W fun e W' => ∃ v, e = .returned v ∧ Rows.shotPacksSpec.post enc Tryz.prog Tryz.f3 false true false false W args v W' := by
  have hW' := hW
  obtain ⟨p, q, hA0, hV, rfl, hfz, hnd⟩ := hW
  have hA : DataW.TrodAll enc Tryz.prog W 0 (fun _ => true) true Tryz.f3.params.toList args.toList ds p := hA0
  rw [Tryz.params3] at hA hval
  obtain ⟨v0, d0, rfl, rfl, h0⟩ := trodAll_one hA
  obtain ⟨rfl, rfl⟩ := trodVars_none hV
  have hwt0 : ∀ n ∈ d0.weights Tryz.prog 26, n ≤ reachBytes := fun n hn => by
    have := List.all_eq_true.1 hsized n (DataW.weights_mem_each (j := 0) (t := 26) (d := d0) rfl rfl n hn)
    simpa using this
  obtain ⟨vi, vo, sp, sn, sc, dn, L, O, Z, rfl, hL2, hk, hO, hZ⟩ := open_state (hval 0 26 v0 rfl rfl) h0 hwt0
  refine (shPacks_any vi vo sp sn sc dn L O Z W hL2 hk hO hZ (table hL)).mono fun e W' ⟨he, hg⟩ => ⟨_, he, ?_⟩
  exact Law.post laidOut (by kernel_rfl) rfl Tryz.underlying4 hW' rfl rfl hg
theorem shotPacks_laid_met (os : Os) : laidMet Tryz.prog Rows.shotPacksRow.laid ((laidWorld Tryz.prog os).forCall (fun _ _ => 0) ⟨#[], #[.agg #[.slice none 0 0, .slice none 0 0, .slice none 0 0, .int .i64 0]], []⟩).memory :=
  laidMet_of_run' 8 (by kernel_rfl) (by kernel_rfl)
theorem shotPacks_reads (os : Os) {H : Type} (enc : TypeId × Value → H) : ∃ places, DataW.whole enc Tryz.prog ((laidWorld Tryz.prog os).forCall (fun _ _ => 0) ⟨#[], #[.agg #[.slice none 0 0, .slice none 0 0, .slice none 0 0, .int .i64 0]], []⟩).memory Tryz.f3.params.toList Rows.shotPacksSpec.vars false (#[.agg #[.slice none 0 0, .slice none 0 0, .slice none 0 0, .int .i64 0]] : Array Value).toList 8 = some ([.agg [.nil, .nil, .nil, .lit (.int .i64 0)]], [], places) :=
  ⟨[], by kernel_rfl⟩
set_option maxRecDepth 100000 in
theorem shotPacks_lifted (os : Os) (started : os.Started) (H : Type) (enc : TypeId × Value → H) (F : Stop.Interp) :
    ReturnsInHanded {} Tryz.checked os 3 .any ((OpenSpec.ofChange Rows.shotPacksSpec).preRow enc Tryz.prog Tryz.f3 Rows.shotPacksRow.domain false Rows.shotPacksRow.laid) (((OpenSpec.ofChange Rows.shotPacksSpec).at F).post enc Tryz.prog Tryz.f3 false true false false) := by
  obtain ⟨places, hx⟩ := shotPacks_reads os enc
  refine returnsInHanded_of_row (C := Tryz.checked) (s := OpenSpec.ofChange Rows.shotPacksSpec) own started (by kernel_rfl) Tryz.func3
    (witness_row_at (enc := enc) (C := Tryz.checked) false (laidWorld Tryz.prog os) #[.agg #[.slice none 0 0, .slice none 0 0, .slice none 0 0, .int .i64 0]] rfl (by kernel_rfl) (by kernel_rfl) (by kernel_rfl)
      (OpenSpec.preRow_of_cond 8 hx (by kernel_rfl) (fun k hk => by cases hk) (by kernel_rfl) (shotPacks_laid_met os))) ?_
  intro W base args ds gs before hval hW _ _ hsized hL _ _
  exact shotPacks_contract H enc W base args ds gs before hval hW hsized hL
theorem shotPacks_said : Rows.ShotPacksSaid :=
  OpenClaim.holds_of_cond 3 Tryz.f3 rfl rfl rfl rfl rfl rfl rfl ⟨rfl, rfl, rfl, rfl, rfl⟩ rfl rfl rfl rfl rfl (by kernel_rfl) Tryz.func3 (by kernel_rfl)
    (of_decide_eq_true (by kernel_rfl)) (by unfold Func.isWrapper; first | (rw [if_pos (by decide +kernel)]; kernel_rfl) | (rw [if_neg (by decide +kernel)]; exact ⟨rfl, rfl⟩))
    (fun os started H enc _ F => by rw [OpenClaim.pre_eq_preRow]; exact shotPacks_lifted os started H enc F)
theorem shotPacks_plain (f : FuncId) (fn : Func) (hf : Tryz.pinned.checked.prog.funcNamed "sexton/sextonlaw18.ShotPacks" = some f) (hfn : Tryz.pinned.checked.prog.funcs[f]? = some fn) :
    false = Tryz.pinned.checked.prog.looks [] ∧ ∀ (j : Nat) t, fn.params[j]? = some t → Tryz.pinned.checked.prog.wantsStandIn t = false := by
  obtain rfl : f = 3 := Option.some.inj ((show Tryz.prog.funcNamed "sexton/sextonlaw18.ShotPacks" = some 3 by kernel_rfl).symm.trans hf) |>.symm
  obtain rfl : fn = Tryz.f3 := (Option.some.inj (Tryz.func3.symm.trans hfn)).symm
  refine ⟨by kernel_rfl, fun j t ht => ?_⟩
  rw [Tryz.params3] at ht
  obtain rfl : t = 26 := by simpa using Array.mem_of_getElem? ht
  exact (show Tryz.prog.wantsStandIn 26 = false by kernel_rfl)
theorem shotPacks_card : Rows.ShotPacksCardSaid :=
  Claim7.holds_tied_plain_at .later [] _ _ _ _ shotPacks_said (fun _ h => by cases h) (by kernel_rfl) (fun _ h => by cases h) shotPacks_row_tie rfl ⟨rfl, rfl⟩ (by kernel_rfl) rfl shotPacks_plain (by kernel_rfl)
#print axioms shotPacks_card
end Go.Proofs.YtggoccfddnpelaaGreatDoor
