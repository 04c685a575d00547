/-
  For any string of at most 1048576 bytes sextonlaw14.AnswerUnpacks returns true, whatever the memory: answer.Unpack answers what the document says. One condition: the bulk.
-/
import Derived.Test.YtapjgkhbanpmjaaROpen
import Derived.Test.YtapjgkhbanpmjaaRStale
import Derived.Test.YtapjgkhbanpmjaaRSame
import Derived.Test.YtapjgkhbanpmjaaRRefUn
import Derived.Test.YtapjgkhbanpmjaaBulk
import Derived.JoinedCond
namespace Go.Proofs.Ytapjgkhbanpmjaa
open Go.ChangeShapes Go.WideShapes Go.ChangeAt Go.RowKit Go.Deep
open Ak

set_option maxRecDepth 100000 in
set_option maxHeartbeats 8000000 in
theorem unpacks_any (s : ByteArray) (w : World) (hs : s.size ≤ 1048576) : Calls Try.prog 4 #[.string s] w fun e w' => e = .returned (.bool true) ∧ Below w.heap.size w w' := by
  have HS : Hid (s.size ≤ 1048576) := hs
  clear hs
  obtain ⟨d, hd⟩ : ∃ d, Re.unpR s.data.toList = d := ⟨_, rfl⟩
  obtain ⟨E, hE⟩ : ∃ E, Re.unpE s.data.toList = E := ⟨_, rfl⟩
  have HDE : Hid (Re.unpR s.data.toList = d ∧ Re.unpE s.data.toList = E) := ⟨hd, hE⟩
  clear hd hE
  have t1 : (E == E) = true := beq_self_eq_true _
  go_enter Try.func4, Try.ntmps4
  go_wp2_with fail
  refine (repUnpack_any s _ HS.out).mono ?_
  rintro e w1 ⟨v1, rfl, hv1, hb1⟩
  rw [HDE.out.1] at hv1
  rw [HDE.out.1, HDE.out.2]
  obtain ⟨ao1, cap1, rfl, -, -⟩ := (show AtW EE w1 v1 d.ents from hv1).open
  obtain ⟨z1, hz1⟩ : ∃ z, d.ents.length = z := ⟨_, rfl⟩
  rw [hz1] at hv1 ⊢
  have HB1 : Hid (Below w.heap.size w (w1.alloc (BR d (.slice ao1 z1 cap1)))) := (hb1).alloc (hb1).size _
  have HD1 : Hid ((w1.alloc (BR d (.slice ao1 z1 cap1))).heap[w1.heap.size]? = some (BR d (.slice ao1 z1 cap1))) := heap_alloc_new w1 _
  have HV1 : Hid (AtW EE (w1.alloc (BR d (.slice ao1 z1 cap1))) (.slice ao1 z1 cap1) d.ents) := (show AtW EE w1 _ d.ents from hv1).al _
  clear hb1 hv1 hz1
  go_wp2_with fail
  refine (repRefUnpack_any s _ HS.out).mono ?_
  rintro e w2 ⟨v2, rfl, hv2, hb2⟩
  rw [HDE.out.1] at hv2
  rw [HDE.out.1, HDE.out.2]
  obtain ⟨ao2, cap2, rfl, -, -⟩ := (show AtW EE w2 v2 d.ents from hv2).open
  obtain ⟨z2, hz2⟩ : ∃ z, d.ents.length = z := ⟨_, rfl⟩
  rw [hz2] at hv2 ⊢
  have HB2 : Hid (Below w.heap.size w (w2.alloc (BR d (.slice ao2 z2 cap2)))) := (HB1.out.trans (hb2.mono HB1.out.size)).alloc (HB1.out.trans (hb2.mono HB1.out.size)).size _
  have HD2 : Hid ((w2.alloc (BR d (.slice ao2 z2 cap2))).heap[w2.heap.size]? = some (BR d (.slice ao2 z2 cap2))) := heap_alloc_new w2 _
  have HV2 : Hid (AtW EE (w2.alloc (BR d (.slice ao2 z2 cap2))) (.slice ao2 z2 cap2) d.ents) := (show AtW EE w2 _ d.ents from hv2).al _
  have HA2 : Hid ((w2.alloc (BR d (.slice ao2 z2 cap2))).heap[w1.heap.size]? = some (BR d (.slice ao1 z1 cap1))) := (Below.heap_alloc _ _ _ (block_lt (block_step HD1.out hb2))).trans (block_step HD1.out hb2)
  have HW2 : Hid (AtW EE (w2.alloc (BR d (.slice ao2 z2 cap2))) (.slice ao1 z1 cap1) d.ents) := (HV1.out.up hb2).al _
  clear hb2 hv2 hz2
  obtain ⟨a0, a1, a2, a3, a4, a5, a6, a7, a8, a9⟩ := ten_of HA2.out
  obtain ⟨b0, b1, b2, b3, b4, b5, b6, b7, b8, b9⟩ := ten_of HD2.out
  go_wp2_with fail
  refine (reply_same d _ _ _ HW2.out HV2.out).mono ?_
  rintro e w3 ⟨rfl, hb3⟩
  have HB3 : Hid (Below w.heap.size w w3) := HB2.out.trans (hb3.mono HB2.out.size)
  clear hb3 a0 a1 a2 a3 a4 a5 a6 a7 a8 a9 b0 b1 b2 b3 b4 b5 b6 b7 b8 b9
  go_wp2_with fail
  refine (stale_any _).mono ?_
  rintro e w4 ⟨rfl, hb4⟩
  go_wp2
  go_ret
  exact ⟨rfl, HB3.out.trans (hb4.mono HB3.out.size)⟩

set_option maxRecDepth 100000 in
theorem answerUnpacks_lifted (os : Os) (started : os.Started) (H : Type) (enc : TypeId × Value → H) (F : Stop.Interp) :
    ReturnsInHanded {} Try.checked os 4 .any ((Rows.OpenSpec.upto Rows.answerUnpacksSpec).pre6 enc Try.prog Try.f4 Rows.answerUnpacksUptoRow.domain false) (((Rows.OpenSpec.upto Rows.answerUnpacksSpec).at F).post enc Try.prog Try.f4 false true false false) := by
  refine returnsInHanded_of_cond (C := Try.checked) (s := Rows.OpenSpec.upto Rows.answerUnpacksSpec) (k := Rows.uptoSmall) rfl own started (by kernel_rfl) Try.func4
    (OpenSpec.witness (enc := enc) (C := Try.checked) (s := Rows.OpenSpec.upto Rows.answerUnpacksSpec) (k := Rows.uptoSmall) rfl false ⟨#[], #[.string ⟨#[]⟩], []⟩ 8 (by kernel_rfl) (by kernel_rfl) (by kernel_rfl)
      (x := ([.lit (.string [])], [], [])) (by kernel_rfl) rfl (by kernel_rfl)) ?_
  intro W base args ds gs before hval0 hW _ hk _
  have hval : ∀ (j : Nat) t v, Try.f4.params[j]? = some t → args[j]? = some v → Value.okWide Try.prog W .any base t v := hval0
  have hW' := hW
  obtain ⟨p, q, hA0, hV, rfl, hfz, hnd⟩ := hW
  have hA : DataW.TrodAll enc Try.prog W 0 (fun _ => true) true Try.f4.params.toList args.toList ds p := hA0
  rw [Try.params4] at hA hval
  obtain ⟨v0, d0, rfl, rfl, h0⟩ := trodAll_one hA
  obtain ⟨rfl, rfl⟩ := trodVars_none hV
  obtain ⟨s, rfl, rfl, rfl, hS⟩ := Go.ChangeMaps.open_string Try.underlying9 (hval 0 9 v0 rfl rfl) h0
  refine (unpacks_any s W (small_string hk)).mono fun e W' ⟨he, hg⟩ => ⟨_, he, ?_⟩
  exact Law.post laidOut (by kernel_rfl) rfl Try.underlying4 hW' rfl rfl hg

theorem answerUnpacksUpto_holds : Rows.AnswerUnpacksUptoSaid :=
  OpenClaim.holds_of_cond 4 Try.f4 rfl rfl rfl rfl rfl rfl rfl ⟨rfl, rfl, rfl, rfl, rfl⟩ rfl rfl rfl rfl rfl (by kernel_rfl) Try.func4 (by kernel_rfl)
    (of_decide_eq_true (by kernel_rfl)) (by unfold Func.isWrapper; first | (rw [if_pos (by decide +kernel)]; kernel_rfl) | (rw [if_neg (by decide +kernel)]; exact ⟨rfl, rfl⟩))
    (fun os started H enc _ F => answerUnpacks_lifted os started H enc F)
#print axioms answerUnpacksUpto_holds
end Go.Proofs.Ytapjgkhbanpmjaa
