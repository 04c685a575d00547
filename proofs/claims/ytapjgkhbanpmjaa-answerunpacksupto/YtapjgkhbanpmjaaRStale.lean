/-
  The small case: a reply that a handle is stale.
-/
import Derived.Test.YtapjgkhbanpmjaaRUnpack
namespace Go.Proofs.Ytapjgkhbanpmjaa
open Go.ChangeShapes Go.WideShapes Go.ChangeAt Go.RowKit Go.Deep
open Ak

namespace Re
def r0 : Rep := ⟨401, 0, 0, 0, 0, 0, 0, ⟨#[]⟩, [], 0⟩
theorem r0_right : rightP r0 := ⟨by decide, by decide, by decide, by decide, ⟨by decide, trivial⟩, by decide⟩
theorem r0_fields : fields r0 = [(1, Pl.numOut 401 2)] := by
  have hs : snz ⟨#[]⟩ = false := by unfold snz; rw [ByteArray.toList_eq]; rfl
  unfold fields f5 f4 f3 f2 f1 ef opt r0
  simp [hnz, anz, hs]
theorem r0_bytes : Pl.encs [((1 : Int), Pl.numOut 401 2)] = [1, 0, 2, 1, 145] := by decide +kernel
theorem r0_out : packOut r0 = ⟨#[1, 0, 2, 1, 145]⟩ ∧ packErr r0 = 0 ∧ unpR [1, 0, 2, 1, 145] = r0 ∧ unpE [1, 0, 2, 1, 145] = 0 := by
  have hr := right_iff.2 r0_right
  have hb := back hr
  rw [r0_fields, r0_bytes] at hb
  refine ⟨?_, ?_, hb.1, hb.2.1⟩
  · rw [packOut, if_pos hr, r0_fields, r0_bytes]; rfl
  · rw [packErr, if_pos hr]
end Re
set_option maxRecDepth 100000 in
set_option maxHeartbeats 1000000 in
theorem stale_any (w : World) : Calls Try.prog 10 #[] w fun e w' => e = .returned (.bool true) ∧ Below w.heap.size w w' := by
  have HL : Hid (Re.packOut Re.r0 = ⟨#[1, 0, 2, 1, 145]⟩ ∧ Re.packErr Re.r0 = 0 ∧ Re.unpR [1, 0, 2, 1, 145] = Re.r0 ∧ Re.unpE [1, 0, 2, 1, 145] = 0) := Re.r0_out
  go_enter Try.func10, Try.ntmps10
  go_wp2_with fail
  refine (repPack_any Re.r0 _ _ At.nil (fun x hx => by cases hx)).mono ?_
  rintro e w1 ⟨rfl, hb1⟩
  rw [HL.out.1, HL.out.2.1]
  go_wp2_with fail
  refine (repUnpack_any ⟨#[1, 0, 2, 1, 145]⟩ _ (by decide)).mono ?_
  rintro e w2 ⟨v, rfl, hv, hb2⟩
  have HB2 : Hid (Below w.heap.size w w2) := hb1.trans (hb2.mono hb1.size)
  have hsz := HB2.out.size
  have e1 : (⟨#[1, 0, 2, 1, 145]⟩ : ByteArray).data.toList = [1, 0, 2, 1, 145] := rfl
  rw [e1, HL.out.2.2.1] at hv
  rw [e1, HL.out.2.2.1, HL.out.2.2.2]
  obtain ⟨ao, cap, rfl, -, -⟩ := (show AtW EE w2 v Re.r0.ents from hv).open
  clear hb1 hb2 hv e1
  go_wp2
  go_ret
  exact ⟨rfl, HB2.out.alloc hsz _⟩
end Go.Proofs.Ytapjgkhbanpmjaa
