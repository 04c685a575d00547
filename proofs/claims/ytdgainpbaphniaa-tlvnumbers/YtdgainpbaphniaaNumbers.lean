/-
  For any string s sextonlaw01.TlvNumbers returns true, whatever the memory: tlv.Number answers what the document's Number answers. No condition.
-/
import Derived.Test.YtdgainpbaphniaaRows
import Derived.Test.YtdgainpbaphniaaLaw
import Derived.Test.YtdgainpbaphniaaNumber
namespace Go.Proofs.Ytdgainpbaphniaa
open Go.ChangeShapes Go.WideShapes Go.ChangeAt Go.RowKit Go.Deep
open Go.ChangeMaps (open_string)

theorem number_two : Pl.numVal ⟨#[1, 2]⟩ = 258 ∧ Pl.numberErr ⟨#[1, 2]⟩ = 0 := by decide

set_option maxHeartbeats 400000 in
theorem numbers_any (s : ByteArray) (w : World) (hs : s.size ≤ maxLen) :
    Calls Try.prog 6 #[.string s] w fun e w' => e = .returned (.bool true) ∧ Below w.heap.size w w' := by
  have H : Hid (Pl.numVal ⟨#[1, 2]⟩ = 258 ∧ Pl.numberErr ⟨#[1, 2]⟩ = 0) := number_two
  go_enter Try.func6, Try.ntmps6
  go_wp2_with fail
  refine (number_any s _ hs).mono ?_
  rintro e w1 ⟨rfl, rfl⟩
  go_wp2_with fail
  refine (refNumber_any s _ hs).mono ?_
  rintro e w2 ⟨rfl, rfl⟩
  generalize Pl.numVal s = n
  generalize Pl.numberErr s = f
  go_wp2_with fail
  refine (number_any ⟨#[1, 2]⟩ _ (by decide)).mono ?_
  rintro e w3 ⟨rfl, rfl⟩
  rw [H.out.1, H.out.2]
  go_wp2
  go_ret
  exact ⟨rfl, Below.refl _ _⟩

set_option maxRecDepth 100000 in
theorem tlvNumbers_lifted (os : Os) (started : os.Started) (H : Type) (enc : TypeId × Value → H) :
    ReturnsInHanded {} Try.checked os 6 .any (Rows.tlvNumbersSpec.pre6 enc Try.prog Try.f6 Rows.tlvNumbersRow.domain false) (Rows.tlvNumbersSpec.post enc Try.prog Try.f6 false true false false) := by
  refine returnsInHanded_of_change (C := Try.checked) own started (by kernel_rfl) Try.func6
    (ChangeSpec.witness6 (enc := enc) (C := Try.checked) false ⟨#[], #[.string .empty], []⟩ 8 (by kernel_rfl) (by kernel_rfl) (by kernel_rfl) (by kernel_rfl)) ?_
  intro W base args ds gs before hval0 hW hcnd _
  have hval : ∀ (j : Nat) t v, Try.f6.params[j]? = some t → args[j]? = some v → Value.okWide Try.prog W .any base t v := hval0
  have hW' := hW
  obtain ⟨p, q, hA0, hV, rfl, hfz, hnd⟩ := hW
  have hA : DataW.TrodAll enc Try.prog W 0 (fun _ => true) true Try.f6.params.toList args.toList ds p := hA0
  rw [Try.params6] at hA hval
  obtain ⟨v0, d0, rfl, rfl, h0⟩ := trodAll_one hA
  obtain ⟨rfl, rfl⟩ := trodVars_none hV
  obtain ⟨s, rfl, rfl, rfl, hs⟩ := open_string Try.underlying9 (hval 0 9 v0 rfl rfl) h0
  refine (numbers_any s W hs).mono fun e W' ⟨he, hg⟩ => ⟨_, he, ?_⟩
  exact Law.post laidOut (by kernel_rfl) rfl Try.underlying4 hW' rfl rfl hg

theorem tlvNumbers_holds : Rows.TlvNumbersSaid :=
  OpenClaim.holds_of_wide 6 Try.f6 rfl rfl rfl rfl rfl rfl rfl ⟨rfl, rfl, rfl, rfl, rfl⟩ rfl rfl rfl rfl rfl (by kernel_rfl) Try.func6 (by kernel_rfl)
    (of_decide_eq_true (by kernel_rfl)) (by unfold Func.isWrapper; first | (rw [if_pos (by decide +kernel)]; kernel_rfl) | (rw [if_neg (by decide +kernel)]; exact ⟨rfl, rfl⟩))
    (fun os started H enc _ => tlvNumbers_lifted os started H enc)
#print axioms tlvNumbers_holds
end Go.Proofs.Ytdgainpbaphniaa
