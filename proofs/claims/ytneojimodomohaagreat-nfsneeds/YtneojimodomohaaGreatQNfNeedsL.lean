/-
  The statement NfsNeeds: for every input the call answers true, and the input reads as it did.
-/
import Derived.Test.YtneojimodomohaaGreatRows
import Derived.Test.YtneojimodomohaaGreatQ1
import Derived.Test.YtneojimodomohaaGreatQ2
import Derived.Test.YtneojimodomohaaGreatQ3
import Derived.Test.YtneojimodomohaaGreatQ4
import Derived.Test.YtneojimodomohaaGreatQ5
import Derived.Test.YtneojimodomohaaGreatQ6
import Derived.Test.YtneojimodomohaaGreatQ7
import Derived.Test.YtneojimodomohaaGreatQ8
import Derived.Test.YtneojimodomohaaGreatQ9
import Derived.Test.YtneojimodomohaaGreatQ10
import Derived.Test.YtneojimodomohaaGreatQ11
import Derived.Test.YtneojimodomohaaGreatQ12
import Derived.Test.YtneojimodomohaaGreatQ13
import Derived.Test.YtneojimodomohaaGreatQ14
import Derived.Test.YtneojimodomohaaGreatQ15
import Derived.Test.YtneojimodomohaaGreatQ16
import Derived.Test.YtneojimodomohaaGreatQ17
import Derived.Test.YtneojimodomohaaGreatQ18
import Derived.Test.YtneojimodomohaaGreatQ19
import Derived.Test.YtneojimodomohaaGreatQ20
import Derived.Test.YtneojimodomohaaGreatQ21
import Derived.Test.YtneojimodomohaaGreatQ22
import Derived.Test.YtneojimodomohaaGreatQ23
import Derived.Test.YtneojimodomohaaGreatQ24
import Derived.Test.YtneojimodomohaaGreatQ25
import Derived.Test.YtneojimodomohaaGreatQ26
import Derived.Test.YtneojimodomohaaGreatQ27
import Derived.Test.YtneojimodomohaaGreatQ28
import Derived.Test.YtneojimodomohaaGreatQ29
import Derived.Test.YtneojimodomohaaGreatQ30
import Derived.Test.YtneojimodomohaaGreatQ31
import Derived.Test.YtneojimodomohaaGreatQ32
import Derived.Test.YtneojimodomohaaGreatQ33
import Derived.Test.YtneojimodomohaaGreatQ34
import Derived.Test.YtneojimodomohaaGreatQ35
import Derived.Test.YtneojimodomohaaGreatQ36
import Derived.Test.YtneojimodomohaaGreatQ37
import Derived.Test.YtneojimodomohaaGreatQ38
namespace Go.Proofs.YtneojimodomohaaGreat
open Go.ChangeShapes Go.WideShapes Go.ChangeAt Go.RowKit Go.Deep It
set_option maxRecDepth 100000
set_option maxRecDepth 100000 in
theorem nfsNeeds_lifted (os : Os) (started : os.Started) (H : Type) (enc : TypeId × Value → H) :
    ReturnsInHanded {} Tryz.checked os 8 .any (Rows.nfsNeedsSpec.pre6 enc Tryz.prog Tryz.f8 Rows.nfsNeedsRow.domain false) (Rows.nfsNeedsSpec.post enc Tryz.prog Tryz.f8 false true false false) := by
  refine returnsInHanded_of_change_sized (C := Tryz.checked) own started (by kernel_rfl) Tryz.func8
    (ChangeSpec.witness6 (enc := enc) (C := Tryz.checked) false ⟨#[], #[.agg #[.slice none 0 0, .slice none 0 0, .slice none 0 0, .int .i64 0], .agg #[.int .i64 0, .int .i64 0, .int .i64 0, .int .i64 0, .int .i64 0, .int .i64 0, .string ⟨#[]⟩, .string ⟨#[]⟩, .int .i64 0, .int .i64 0, .string ⟨#[]⟩]], []⟩ 8 (by kernel_rfl) (by kernel_rfl) (by kernel_rfl) (by kernel_rfl)) ?_
  intro W base args ds gs before hval0 hW hcnd hsized _
  have hval : ∀ (j : Nat) t v, Tryz.f8.params[j]? = some t → args[j]? = some v → Value.okWide Tryz.prog W .any base t v := hval0
  have hW' := hW
  obtain ⟨p, q, hA0, hV, rfl, hfz, hnd⟩ := hW
  have hA : DataW.TrodAll enc Tryz.prog W 0 (fun _ => true) true Tryz.f8.params.toList args.toList ds p := hA0
  rw [Tryz.params8] at hA hval
  obtain ⟨v0, v1, d0, d1, p0, p1, rfl, rfl, rfl, h0, h1⟩ := trodAll_two hA
  obtain ⟨rfl, rfl⟩ := trodVars_none hV
  have hwt0 : ∀ n ∈ d0.weights Tryz.prog 26, n ≤ reachBytes := fun n hn => by
    have := List.all_eq_true.1 hsized n (DataW.weights_mem_each (j := 0) (t := 26) (d := d0) rfl rfl n hn)
    simpa using this
  obtain ⟨vi, vo, sp, sn, sc, dn, L, O, Z, rfl, hL, hk, hO, hZ⟩ := open_state (hval 0 26 v0 rfl rfl) h0 hwt0
  obtain ⟨x, rfl, hf⟩ := open_do (hval 1 32 v1 rfl rfl) h1
  refine (nneeds_any vi vo sp sn sc dn x.1 x.2 L O Z W hL hk hO hZ hf).mono fun e W' ⟨he, hg⟩ => ⟨_, he, ?_⟩
  exact Law.post laidOut (by kernel_rfl) rfl Tryz.underlying4 hW' rfl rfl hg
theorem nfsNeeds_holds : Rows.NfsNeedsSaid :=
  OpenClaim.holds_of_wide 8 Tryz.f8 rfl rfl rfl rfl rfl rfl rfl ⟨rfl, rfl, rfl, rfl, rfl⟩ rfl rfl rfl rfl rfl (by kernel_rfl) Tryz.func8 (by kernel_rfl)
    (of_decide_eq_true (by kernel_rfl)) (by unfold Func.isWrapper; first | (rw [if_pos (by decide +kernel)]; kernel_rfl) | (rw [if_neg (by decide +kernel)]; exact ⟨rfl, rfl⟩))
    (fun os started H enc _ => nfsNeeds_lifted os started H enc)
#print axioms nfsNeeds_holds
end Go.Proofs.YtneojimodomohaaGreat
