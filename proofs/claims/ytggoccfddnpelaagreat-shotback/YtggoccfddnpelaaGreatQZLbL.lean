/-
  The statement ShotBack: for every input the call answers true, and the input reads as it did.
-/
import Derived.ChangeMaps5
import Derived.Test.YtggoccfddnpelaaGreatRows
import Derived.Test.YtggoccfddnpelaaGreatQ1
import Derived.Test.YtggoccfddnpelaaGreatQ2
import Derived.Test.YtggoccfddnpelaaGreatQ3
import Derived.Test.YtggoccfddnpelaaGreatQ4
import Derived.Test.YtggoccfddnpelaaGreatQ5
import Derived.Test.YtggoccfddnpelaaGreatQ6
import Derived.Test.YtggoccfddnpelaaGreatQ7
import Derived.Test.YtggoccfddnpelaaGreatQ8
import Derived.Test.YtggoccfddnpelaaGreatQ9
import Derived.Test.YtggoccfddnpelaaGreatQ10
import Derived.Test.YtggoccfddnpelaaGreatQ11
import Derived.Test.YtggoccfddnpelaaGreatQ12
import Derived.Test.YtggoccfddnpelaaGreatQ13
import Derived.Test.YtggoccfddnpelaaGreatQ14
import Derived.Test.YtggoccfddnpelaaGreatQ15
import Derived.Test.YtggoccfddnpelaaGreatQ16
import Derived.Test.YtggoccfddnpelaaGreatQ17
import Derived.Test.YtggoccfddnpelaaGreatQ18
import Derived.Test.YtggoccfddnpelaaGreatQ19
import Derived.Test.YtggoccfddnpelaaGreatQ20
import Derived.Test.YtggoccfddnpelaaGreatQ21
import Derived.Test.YtggoccfddnpelaaGreatQ22
import Derived.Test.YtggoccfddnpelaaGreatQ23
import Derived.Test.YtggoccfddnpelaaGreatQ24
import Derived.Test.YtggoccfddnpelaaGreatQ25
import Derived.Test.YtggoccfddnpelaaGreatQ26
import Derived.Test.YtggoccfddnpelaaGreatQ27
import Derived.Test.YtggoccfddnpelaaGreatQ28
namespace Go.Proofs.YtggoccfddnpelaaGreat
open Go.ChangeShapes Go.WideShapes Go.ChangeAt Go.RowKit Go.Deep It
set_option maxRecDepth 100000
set_option maxRecDepth 100000 in
theorem shotBack_lifted (os : Os) (started : os.Started) (H : Type) (enc : TypeId × Value → H) :
    ReturnsInHanded {} Tryz.checked os 4 .any (Rows.shotBackSpec.pre6 enc Tryz.prog Tryz.f4 Rows.shotBackRow.domain false) (Rows.shotBackSpec.post enc Tryz.prog Tryz.f4 false true false false) := by
  refine returnsInHanded_of_change_sized (C := Tryz.checked) own started (by kernel_rfl) Tryz.func4
    (ChangeSpec.witness6 (enc := enc) (C := Tryz.checked) false ⟨#[], #[.agg #[.slice none 0 0, .slice none 0 0, .slice none 0 0, .int .i64 0], .string ⟨#[]⟩], []⟩ 8 (by kernel_rfl) (by kernel_rfl) (by kernel_rfl) (by kernel_rfl)) ?_
  intro W base args ds gs before hval0 hW hcnd hsized _
  have hval : ∀ (j : Nat) t v, Tryz.f4.params[j]? = some t → args[j]? = some v → Value.okWide Tryz.prog W .any base t v := hval0
  have hW' := hW
  obtain ⟨p, q, hA0, hV, rfl, hfz, hnd⟩ := hW
  have hA : DataW.TrodAll enc Tryz.prog W 0 (fun _ => true) true Tryz.f4.params.toList args.toList ds p := hA0
  rw [Tryz.params4] at hA hval
  obtain ⟨v0, v1, d0, d1, p0, p1, rfl, rfl, rfl, h0, h1⟩ := trodAll_two hA
  obtain ⟨rfl, rfl⟩ := trodVars_none hV
  have hwt0 : ∀ n ∈ d0.weights Tryz.prog 27, n ≤ reachBytes := fun n hn => by
    have := List.all_eq_true.1 hsized n (DataW.weights_mem_each (j := 0) (t := 27) (d := d0) rfl rfl n hn)
    simpa using this
  obtain ⟨vi, vo, sp, sn, sc, dn, L, O, Z, rfl, hL, hk, hO, hZ⟩ := open_state (hval 0 27 v0 rfl rfl) h0 hwt0
  obtain ⟨s, rfl, rfl, rfl, hS⟩ := Go.ChangeMaps.open_string Tryz.underlying9 (hval 1 9 v1 rfl rfl) h1
  refine (shBack_any vi vo sp sn sc dn L O Z s W hL hk hO hZ).mono fun e W' ⟨he, hg⟩ => ⟨_, he, ?_⟩
  exact Law.post laidOut (by kernel_rfl) rfl Tryz.underlying4 hW' rfl rfl hg
theorem shotBack_holds : Rows.ShotBackSaid :=
  OpenClaim.holds_of_wide 4 Tryz.f4 rfl rfl rfl rfl rfl rfl rfl ⟨rfl, rfl, rfl, rfl, rfl⟩ rfl rfl rfl rfl rfl (by kernel_rfl) Tryz.func4 (by kernel_rfl)
    (of_decide_eq_true (by kernel_rfl)) (by unfold Func.isWrapper; first | (rw [if_pos (by decide +kernel)]; kernel_rfl) | (rw [if_neg (by decide +kernel)]; exact ⟨rfl, rfl⟩))
    (fun os started H enc _ => shotBack_lifted os started H enc)
#print axioms shotBack_holds
end Go.Proofs.YtggoccfddnpelaaGreat
