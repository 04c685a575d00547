/-
  TallyNil: for every bid the call answers true, and the argument reads as before. No condition.
-/
import Derived.Test.YtdcknokggjbebaaYOpen
import Derived.Test.YtdcknokggjbebaaLaw
namespace Go.Proofs.Ytdcknokggjbebaa
open Go.ChangeShapes Go.WideShapes Go.ChangeAt Go.RowKit Go.Deep

set_option maxRecDepth 100000 in
set_option maxHeartbeats 8000000 in
theorem nil_any (b : Bd) (w : World) : Calls Try.prog 5 #[VB b] w fun e w' => e = .returned (.bool true) ∧ Below w.heap.size w w' := by
  obtain ⟨W, hW⟩ : ∃ W, w.alloc (BB b) = W := ⟨_, rfl⟩
  have HW : Hid (w.alloc (BB b) = W) := hW
  have HBW : Hid (Below w.heap.size w W) := by rw [← hW]; exact (Below.refl _ _).alloc (Nat.le_refl _) _
  obtain ⟨A, hA⟩ : ∃ A, w.heap.size = A := ⟨_, rfl⟩
  have HA : Hid (w.heap.size = A) := hA
  have HX : Hid (W.heap[A]? = some (BB b)) := by rw [← hW, ← hA]; exact heap_alloc_new _ _
  clear hW hA
  go_enter Try.func5, Try.ntmps5
  go_wp2_with fail
  rw [HW.out, HA.out]
  refine (tadd_nil _ _).mono ?_
  rintro e w1 ⟨rfl, hg⟩
  have HB1 : Hid (Below w.heap.size w w1) := HBW.out.trans ((below_none hg (Nat.le_refl _)).mono HBW.out.size)
  obtain ⟨⟨c0, -, -⟩, -⟩ := bid_of ((hg.block A (Array.getElem?_eq_some_iff.1 HX.out).1 (by simp)).trans HX.out)
  clear hg
  go_wp2_with fail
  refine (tforget_nil _ _).mono ?_
  rintro e w2 ⟨rfl, rfl⟩
  clear c0
  go_wp2_with fail
  refine (tbest_nil _).mono ?_
  rintro e w3 ⟨rfl, hg⟩
  have HB3 : Hid (Below w.heap.size w (w3.alloc (BB (0, 0, 0)))) := (HB1.out.trans ((below_none hg (Nat.le_refl _)).mono HB1.out.size)).alloc (Nat.le_trans HB1.out.size hg.size) _
  clear hg
  go_wp2_with fail
  refine (tclear_nil _).mono ?_
  rintro e w4 ⟨rfl, rfl⟩
  go_wp2_with fail
  refine (tCount_nil _).mono ?_
  rintro e w4 ⟨rfl, rfl⟩
  go_wp2_with fail
  refine (tEnough_nil _).mono ?_
  rintro e w4 ⟨rfl, rfl⟩
  go_wp2_with fail
  refine (tNodes_nil _).mono ?_
  rintro e w4 ⟨rfl, rfl⟩
  go_wp2_with fail
  refine (two_any _).mono ?_
  rintro e w5 ⟨rfl, hb⟩
  have HB5 : Hid (Below w.heap.size w w5) := HB3.out.trans (hb.mono HB3.out.size)
  clear hb
  go_wp2
  go_ret
  exact ⟨rfl, HB5.out⟩

set_option maxRecDepth 100000 in
theorem tallyNil_lifted (os : Os) (started : os.Started) (H : Type) (enc : TypeId × Value → H) :
    ReturnsInHanded {} Try.checked os 5 .any (Rows.tallyNilSpec.pre6 enc Try.prog Try.f5 Rows.tallyNilRow.domain false) (Rows.tallyNilSpec.post enc Try.prog Try.f5 false true false false) := by
  refine returnsInHanded_of_change (C := Try.checked) own started (by kernel_rfl) Try.func5
    (ChangeSpec.witness6 (enc := enc) (C := Try.checked) false ⟨#[], #[.agg #[.int .i64 0, .int .i64 0, .int .i64 0]], []⟩ 8 (by kernel_rfl) (by kernel_rfl) (by kernel_rfl) (by kernel_rfl)) ?_
  intro W base args ds gs before hval0 hW hcnd _
  have hval : ∀ (j : Nat) t v, Try.f5.params[j]? = some t → args[j]? = some v → Value.okWide Try.prog W .any base t v := hval0
  have hW' := hW
  obtain ⟨p, q, hA0, hV, rfl, hfz, hnd⟩ := hW
  have hA : DataW.TrodAll enc Try.prog W 0 (fun _ => true) true Try.f5.params.toList args.toList ds p := hA0
  rw [Try.params5] at hA hval
  obtain ⟨v0, d0, rfl, rfl, h0⟩ := trodAll_one hA
  obtain ⟨rfl, rfl⟩ := trodVars_none hV
  obtain ⟨x0, rfl⟩ := open_bid (hval 0 32 v0 rfl rfl) h0
  refine (nil_any x0 W).mono fun e W' ⟨he, hg⟩ => ⟨_, he, ?_⟩
  exact Law.post laidOut (by kernel_rfl) rfl Try.underlying4 hW' rfl rfl hg

theorem tallyNil_holds : Rows.TallyNilSaid :=
  OpenClaim.holds_of_wide 5 Try.f5 rfl rfl rfl rfl rfl rfl rfl ⟨rfl, rfl, rfl, rfl, rfl⟩ rfl rfl rfl rfl rfl (by kernel_rfl) Try.func5 (by kernel_rfl)
    (of_decide_eq_true (by kernel_rfl)) (by unfold Func.isWrapper; first | (rw [if_pos (by decide +kernel)]; kernel_rfl) | (rw [if_neg (by decide +kernel)]; exact ⟨rfl, rfl⟩))
    (fun os started H enc _ => tallyNil_lifted os started H enc)
#print axioms tallyNil_holds
end Go.Proofs.Ytdcknokggjbebaa
