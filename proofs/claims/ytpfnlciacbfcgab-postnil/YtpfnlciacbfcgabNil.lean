/-
  For any int and any string sextonlaw04.PostNil returns true, whatever the memory: a nil post has no letters. No condition.
-/
import Derived.Test.YtpfnlciacbfcgabTwice
import Derived.Test.YtpfnlciacbfcgabLaw
namespace Go.Proofs.Ytpfnlciacbfcgab
open Go.ChangeShapes Go.WideShapes Go.ChangeAt Go.RowKit
open Go.ChangeMaps (open_string)

theorem flip_nil (n bit : Int) (w : World) : Calls Try.prog 12 #[.pointer none, .int .i64 n, .int .i64 bit] w fun e w' => e = .returned (.int .i64 6) ∧ w.grownBy w' none := by
  go_enter Try.func12, Try.ntmps12
  go_wp2_with fail
  refine (find_nil n _).mono ?_
  rintro e w1 ⟨rfl, hg⟩
  have HG : Hid (w.grownBy w1 none) := hg
  clear hg
  go_wp2
  go_ret
  exact ⟨rfl, HG.out⟩

set_option maxHeartbeats 1000000 in
set_option maxRecDepth 100000 in
theorem nil_any (n : Int) (b : ByteArray) (w : World) : Calls Try.prog 5 #[.int .i64 n, .string b] w fun e w' => e = .returned (.bool true) ∧ Below w.heap.size w w' := by
  go_enter Try.func5, Try.ntmps5
  go_wp2_with fail
  refine (send_nil _ _ _ _).mono ?_
  rintro e w1 ⟨rfl, rfl⟩
  go_wp2_with fail
  refine (take_nil _ _).mono ?_
  rintro e w2 ⟨rfl, hg⟩
  have HG2 : Hid (w1.grownBy w2 none) := hg
  clear hg
  unfold letter
  simp only
  go_wp2_with fail
  have ga := World.grownBy_alloc w2 (.cells #[.int .i64 0, .int .i64 0, .int .i64 0, .string ⟨#[]⟩] 35) none
  refine (again_nil _ _).mono ?_
  rintro e w3 ⟨rfl, hg⟩
  have HG3 : Hid (w1.grownBy w3 none) := grown_trans HG2.out (grown_trans ga hg)
  clear hg ga HG2
  go_wp2_with fail
  refine (see_nil _ _).mono ?_
  rintro e w4 ⟨rfl, hg⟩
  have HG4 : Hid (w1.grownBy w4 none) := grown_trans HG3.out hg
  clear hg HG3
  unfold letter
  simp only
  go_wp2_with fail
  have ga := World.grownBy_alloc w4 (.cells #[.int .i64 0, .int .i64 0, .int .i64 0, .string ⟨#[]⟩] 35) none
  refine (lose_nil _ _).mono ?_
  rintro e w5 ⟨rfl, hg⟩
  have HG5 : Hid (w1.grownBy w5 none) := grown_trans HG4.out (grown_trans ga hg)
  clear hg ga HG4
  go_wp2_with fail
  refine (flip_nil _ _ _).mono ?_
  rintro e w6 ⟨rfl, hg⟩
  have HG6 : Hid (w1.grownBy w6 none) := grown_trans HG5.out hg
  clear hg HG5
  go_wp2_with fail
  refine (waiting_nil _).mono ?_
  rintro e w7 ⟨rfl, rfl⟩
  go_wp2_with fail
  refine (twice_any _).mono ?_
  rintro e w8 ⟨rfl, hg⟩
  have HG8 : Hid (w1.grownBy w8 none) := grown_trans HG6.out hg
  clear hg HG6
  go_wp2
  go_ret
  exact ⟨rfl, below_none HG8.out (Nat.le_refl _)⟩

set_option maxRecDepth 100000 in
theorem postNil_lifted (os : Os) (started : os.Started) (H : Type) (enc : TypeId × Value → H) :
    ReturnsInHanded {} Try.checked os 5 .any (Rows.postNilSpec.pre6 enc Try.prog Try.f5 Rows.postNilRow.domain false) (Rows.postNilSpec.post enc Try.prog Try.f5 false true false false) := by
  refine returnsInHanded_of_change (C := Try.checked) own started (by kernel_rfl) Try.func5
    (ChangeSpec.witness6 (enc := enc) (C := Try.checked) false ⟨#[], #[.int .i64 0, .string ⟨#[]⟩], []⟩ 8 (by kernel_rfl) (by kernel_rfl) (by kernel_rfl) (by kernel_rfl)) ?_
  intro W base args ds gs before hval0 hW hcnd _
  have hval : ∀ (j : Nat) t v, Try.f5.params[j]? = some t → args[j]? = some v → Value.okWide Try.prog W .any base t v := hval0
  have hW' := hW
  obtain ⟨p, q, hA0, hV, rfl, hfz, hnd⟩ := hW
  have hA : DataW.TrodAll enc Try.prog W 0 (fun _ => true) true Try.f5.params.toList args.toList ds p := hA0
  rw [Try.params5] at hA hval
  obtain ⟨v0, v1, d0, d1, p0, p1, rfl, rfl, rfl, h0, h1⟩ := trodAll_two hA
  obtain ⟨rfl, rfl⟩ := trodVars_none hV
  obtain ⟨a, rfl, rfl, rfl, w0⟩ := open_int Try.underlying3 (hval 0 3 v0 rfl rfl) h0
  obtain ⟨b, rfl, rfl, rfl, w1⟩ := open_string Try.underlying9 (hval 1 9 v1 rfl rfl) h1
  refine (nil_any a b W).mono fun e W' ⟨he, hg⟩ => ⟨_, he, ?_⟩
  exact Law.post laidOut (by kernel_rfl) rfl Try.underlying4 hW' rfl rfl hg

theorem postNil_holds : Rows.PostNilSaid :=
  OpenClaim.holds_of_wide 5 Try.f5 rfl rfl rfl rfl rfl rfl rfl ⟨rfl, rfl, rfl, rfl, rfl⟩ rfl rfl rfl rfl rfl (by kernel_rfl) Try.func5 (by kernel_rfl)
    (of_decide_eq_true (by kernel_rfl)) (by unfold Func.isWrapper; first | (rw [if_pos (by decide +kernel)]; kernel_rfl) | (rw [if_neg (by decide +kernel)]; exact ⟨rfl, rfl⟩))
    (fun os started H enc _ => postNil_lifted os started H enc)
#print axioms postNil_holds
end Go.Proofs.Ytpfnlciacbfcgab
