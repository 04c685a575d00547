/-
  For any string of bulk at most 1048576 sextonlaw01.TlvUnpacks returns true, whatever the memory: tlv.Unpack answers what the document's Unpack answers. One condition: the bulk.
-/
import Derived.Test.YtdgainpbaphniaaRows
import Derived.Test.YtdgainpbaphniaaLaw
import Derived.Test.YtdgainpbaphniaaBulk
import Derived.Test.YtdgainpbaphniaaUnpack
import Derived.Test.YtdgainpbaphniaaRefUnpack
import Derived.Test.YtdgainpbaphniaaSame
import Derived.JoinedCond
namespace Go.Proofs.Ytdgainpbaphniaa
open Go.ChangeShapes Go.WideShapes Go.ChangeAt Go.RowKit Go.Deep
open Go.ChangeMaps (open_string)

theorem lit_unpack : Pl.unpOut [1, 0, 1, 97] = [(1, ⟨#[97]⟩)] ∧ Pl.unpErr [1, 0, 1, 97] = 0 := by decide

set_option maxHeartbeats 1000000 in
theorem unpacks_any (s : ByteArray) (w : World) (hs : s.size ≤ 1048576) :
    Calls Try.prog 4 #[.string s] w fun e w' => e = .returned (.bool true) ∧ Below w.heap.size w w' := by
  have HL : Hid (Pl.unpOut [1, 0, 1, 97] = [(1, ⟨#[97]⟩)] ∧ Pl.unpErr [1, 0, 1, 97] = 0) := lit_unpack
  go_enter Try.func4, Try.ntmps4
  go_wp2_with fail
  refine (unpack_any s _ hs).mono ?_
  rintro e w1 ⟨r1, rfl, hown1, hb1⟩
  have hF1 : FieldsAt w1.heap.size w1 r1 (Pl.unpOut s.data.toList) := FieldsAt.of_own hown1
  clear hown1
  go_wp2_with fail
  refine (refUnpack_any s _ hs).mono ?_
  rintro e w2 ⟨r2, rfl, hown2, hb2⟩
  have hF2 : FieldsAt w2.heap.size w2 r2 (Pl.unpOut s.data.toList) := FieldsAt.of_own hown2
  have hF12 := (hF1.below hb2 (Nat.le_refl _)).mono hb2.size
  have hb02 : Below w.heap.size w w2 := hb1.trans (hb2.mono hb1.size)
  clear hown2 hF1 hb1 hb2
  go_wp2_with fail
  refine (unpack_any ⟨#[1, 0, 1, 97]⟩ _ (by decide)).mono ?_
  rintro e w3 ⟨r3, rfl, hown3, hb3⟩
  rw [show (Pl.unpErr (ByteArray.mk #[1, 0, 1, 97]).data.toList) = 0 from HL.out.2]
  have hF3 : FieldsAt w3.heap.size w3 r3 [(1, ⟨#[97]⟩)] := by
    have := FieldsAt.of_own hown3
    rwa [show (Pl.unpOut (ByteArray.mk #[1, 0, 1, 97]).data.toList) = [(1, ⟨#[97]⟩)] from HL.out.1] at this
  have hb03 : Below w.heap.size w w3 := hb02.trans (hb3.mono hb02.size)
  have hF13 := (hF12.below hb3 (Nat.le_refl _)).mono hb3.size
  have hF23 := (hF2.below hb3 (Nat.le_refl _)).mono hb3.size
  clear hown3 hF12 hF2 hb02 hb3
  rcases hF3 with ⟨_, _, _, h⟩ | ⟨b, off, cap, rfl, hB, _, hlc, hm, hx⟩
  · cases h
  · obtain ⟨_, c1⟩ := hx 0 (by simp)
    unfold maxLen at hm
    simp only [List.length_cons, List.length_nil, Nat.zero_add, List.getD_cons_zero, Nat.zero_mul, Nat.add_zero] at c1 hlc ⊢
    have HC : Hid (w3.cell? ⟨b, off + 1, none⟩ = some (.string ⟨#[97]⟩)) := c1
    clear hx c1
    generalize Pl.unpOut s.data.toList = l at *
    generalize Pl.unpErr s.data.toList = f at *
    go_wp2_with fail
    refine (same_any _ _ l _ hF13 hF23).mono ?_
    rintro e w4 ⟨rfl, hb4⟩
    have hb04 : Below w.heap.size w w4 := hb03.trans (hb4.mono hb03.size)
    have c4 : w4.cell? ⟨b, off + 1, none⟩ = some (.string ⟨#[97]⟩) := by
      rw [hb4.cell (p := ⟨b, off + 1, none⟩) hB]; exact HC.out
    go_wp2
    go_ret
    exact ⟨rfl, hb04⟩

set_option maxRecDepth 100000 in
theorem tlvUnpacks_lifted (os : Os) (started : os.Started) (H : Type) (enc : TypeId × Value → H) (F : Stop.Interp) :
    ReturnsInHanded {} Try.checked os 4 .any ((Rows.OpenSpec.upto Rows.tlvUnpacksSpec).pre6 enc Try.prog Try.f4 Rows.tlvUnpacksUptoRow.domain false) (((Rows.OpenSpec.upto Rows.tlvUnpacksSpec).at F).post enc Try.prog Try.f4 false true false false) := by
  refine returnsInHanded_of_cond (C := Try.checked) (s := Rows.OpenSpec.upto Rows.tlvUnpacksSpec) (k := Rows.uptoSmall) rfl own started (by kernel_rfl) Try.func4
    (OpenSpec.witness (enc := enc) (C := Try.checked) (s := Rows.OpenSpec.upto Rows.tlvUnpacksSpec) (k := Rows.uptoSmall) rfl false ⟨#[], #[.string .empty], []⟩ 8 (by kernel_rfl) (by kernel_rfl) (by kernel_rfl)
      (x := ([.lit (.string [])], [], [])) (by kernel_rfl) rfl (by kernel_rfl)) ?_
  intro W base args ds gs before hval0 hW _ hk _
  have hval : ∀ (j : Nat) t v, Try.f4.params[j]? = some t → args[j]? = some v → Value.okWide Try.prog W .any base t v := hval0
  have hW' := hW
  obtain ⟨p, q, hA0, hV, rfl, hfz, hnd⟩ := hW
  have hA : DataW.TrodAll enc Try.prog W 0 (fun _ => true) true Try.f4.params.toList args.toList ds p := hA0
  rw [Try.params4] at hA hval
  obtain ⟨v0, d0, rfl, rfl, h0⟩ := trodAll_one hA
  obtain ⟨rfl, rfl⟩ := trodVars_none hV
  obtain ⟨s, rfl, rfl, rfl, hs⟩ := open_string Try.underlying9 (hval 0 9 v0 rfl rfl) h0
  refine (unpacks_any s W (small_string hk)).mono fun e W' ⟨he, hg⟩ => ⟨_, he, ?_⟩
  exact Law.post laidOut (by kernel_rfl) rfl Try.underlying4 hW' rfl rfl hg

theorem tlvUnpacksUpto_holds : Rows.TlvUnpacksUptoSaid :=
  OpenClaim.holds_of_cond 4 Try.f4 rfl rfl rfl rfl rfl rfl rfl ⟨rfl, rfl, rfl, rfl, rfl⟩ rfl rfl rfl rfl rfl (by kernel_rfl) Try.func4 (by kernel_rfl)
    (of_decide_eq_true (by kernel_rfl)) (by unfold Func.isWrapper; first | (rw [if_pos (by decide +kernel)]; kernel_rfl) | (rw [if_neg (by decide +kernel)]; exact ⟨rfl, rfl⟩))
    (fun os started H enc _ F => tlvUnpacks_lifted os started H enc F)
#print axioms tlvUnpacksUpto_holds
end Go.Proofs.Ytdgainpbaphniaa
