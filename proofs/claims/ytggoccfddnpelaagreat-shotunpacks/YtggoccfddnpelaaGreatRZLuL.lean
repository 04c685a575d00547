/-
  The statement ShotUnpacks: for every input the call answers true, and the input reads as it did.
-/
import Derived.ChangeMaps5
import Derived.Test.YtggoccfddnpelaaGreatRows
import Derived.Test.YtggoccfddnpelaaGreatR1
import Derived.Test.YtggoccfddnpelaaGreatR2
import Derived.Test.YtggoccfddnpelaaGreatR3
import Derived.Test.YtggoccfddnpelaaGreatR4
import Derived.Test.YtggoccfddnpelaaGreatR5
import Derived.Test.YtggoccfddnpelaaGreatR6
import Derived.Test.YtggoccfddnpelaaGreatR7
import Derived.Test.YtggoccfddnpelaaGreatR8
import Derived.Test.YtggoccfddnpelaaGreatR9
import Derived.Test.YtggoccfddnpelaaGreatR10
import Derived.Test.YtggoccfddnpelaaGreatR11
import Derived.Test.YtggoccfddnpelaaGreatR12
import Derived.Test.YtggoccfddnpelaaGreatR13
import Derived.Test.YtggoccfddnpelaaGreatR14
import Derived.Test.YtggoccfddnpelaaGreatR15
import Derived.Test.YtggoccfddnpelaaGreatR16
import Derived.Test.YtggoccfddnpelaaGreatR17
import Derived.Test.YtggoccfddnpelaaGreatR18
import Derived.Test.YtggoccfddnpelaaGreatR19
import Derived.Test.YtggoccfddnpelaaGreatR20
import Derived.Test.YtggoccfddnpelaaGreatR21
import Derived.Test.YtggoccfddnpelaaGreatR22
import Derived.Test.YtggoccfddnpelaaGreatR23
import Derived.Test.YtggoccfddnpelaaGreatR24
import Derived.Test.YtggoccfddnpelaaGreatR25
import Derived.Test.YtggoccfddnpelaaGreatR26
import Derived.Test.YtggoccfddnpelaaGreatR27
import Derived.Test.YtggoccfddnpelaaGreatR28
import Derived.Test.YtggoccfddnpelaaGreatR29
import Derived.Test.YtggoccfddnpelaaGreatR30
import Derived.Test.YtggoccfddnpelaaGreatR31
import Derived.Test.YtggoccfddnpelaaGreatR32
import Derived.Test.YtggoccfddnpelaaGreatR33
import Derived.Test.YtggoccfddnpelaaGreatR34
import Derived.Test.YtggoccfddnpelaaGreatR35
import Derived.Test.YtggoccfddnpelaaGreatR36
import Derived.Test.YtggoccfddnpelaaGreatR37
import Derived.Test.YtggoccfddnpelaaGreatR38
import Derived.Test.YtggoccfddnpelaaGreatR39
import Derived.Test.YtggoccfddnpelaaGreatR40
import Derived.Test.YtggoccfddnpelaaGreatR41
namespace Go.Proofs.YtggoccfddnpelaaGreat
open Go.ChangeShapes Go.WideShapes Go.ChangeAt Go.RowKit Go.Deep It
set_option maxRecDepth 100000
set_option maxRecDepth 100000 in
theorem shotUnpacks_lifted (os : Os) (started : os.Started) (H : Type) (enc : TypeId × Value → H) :
    ReturnsInHanded {} Tryz.checked os 3 .any (Rows.shotUnpacksSpec.pre6 enc Tryz.prog Tryz.f3 Rows.shotUnpacksRow.domain false) (Rows.shotUnpacksSpec.post enc Tryz.prog Tryz.f3 false true false false) := by
  refine returnsInHanded_of_change_sized (C := Tryz.checked) own started (by kernel_rfl) Tryz.func3
    (ChangeSpec.witness6 (enc := enc) (C := Tryz.checked) false ⟨#[], #[.string ⟨#[]⟩], []⟩ 8 (by kernel_rfl) (by kernel_rfl) (by kernel_rfl) (by kernel_rfl)) ?_
  intro W base args ds gs before hval0 hW hcnd hsized _
  have hval : ∀ (j : Nat) t v, Tryz.f3.params[j]? = some t → args[j]? = some v → Value.okWide Tryz.prog W .any base t v := hval0
  have hW' := hW
  obtain ⟨p, q, hA0, hV, rfl, hfz, hnd⟩ := hW
  have hA : DataW.TrodAll enc Tryz.prog W 0 (fun _ => true) true Tryz.f3.params.toList args.toList ds p := hA0
  rw [Tryz.params3] at hA hval
  obtain ⟨v0, d0, rfl, rfl, h0⟩ := trodAll_one hA
  obtain ⟨rfl, rfl⟩ := trodVars_none hV
  obtain ⟨s, rfl, rfl, rfl, hS⟩ := Go.ChangeMaps.open_string Tryz.underlying9 (hval 0 9 v0 rfl rfl) h0
  refine (shUnpacks_any s W).mono fun e W' ⟨he, hg⟩ => ⟨_, he, ?_⟩
  exact Law.post laidOut (by kernel_rfl) rfl Tryz.underlying4 hW' rfl rfl hg
theorem shotUnpacks_holds : Rows.ShotUnpacksSaid :=
  OpenClaim.holds_of_wide 3 Tryz.f3 rfl rfl rfl rfl rfl rfl rfl ⟨rfl, rfl, rfl, rfl, rfl⟩ rfl rfl rfl rfl rfl (by kernel_rfl) Tryz.func3 (by kernel_rfl)
    (of_decide_eq_true (by kernel_rfl)) (by unfold Func.isWrapper; first | (rw [if_pos (by decide +kernel)]; kernel_rfl) | (rw [if_neg (by decide +kernel)]; exact ⟨rfl, rfl⟩))
    (fun os started H enc _ => shotUnpacks_lifted os started H enc)
#print axioms shotUnpacks_holds
end Go.Proofs.YtggoccfddnpelaaGreat
