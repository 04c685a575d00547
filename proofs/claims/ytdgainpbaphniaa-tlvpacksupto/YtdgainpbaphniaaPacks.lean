/-
  For any slice of fields of bulk at most 1048576 sextonlaw01.TlvPacks returns true, whatever the memory: tlv.Pack answers what the document's Pack answers. One condition: the bulk.
-/
import Derived.Test.YtdgainpbaphniaaRows
import Derived.Test.YtdgainpbaphniaaLaw
import Derived.Test.YtdgainpbaphniaaBulk
import Derived.Test.YtdgainpbaphniaaPack
import Derived.Test.YtdgainpbaphniaaRef
import Derived.Test.YtdgainpbaphniaaRefPack
import Derived.JoinedCond
namespace Go.Proofs.Ytdgainpbaphniaa
open Go.ChangeShapes Go.WideShapes Go.ChangeAt Go.RowKit Go.Deep

def litFields : List (Int × ByteArray) := [(1, ⟨#[97, 98]⟩), (1, ⟨#[]⟩), (7, ⟨#[120]⟩)]
theorem fields_three (w : World) (T : TypeId) : FieldsAt (w.alloc (.cells #[.int .i64 1, .string ⟨#[97, 98]⟩, .int .i64 1, .string ⟨#[]⟩, .int .i64 7, .string ⟨#[120]⟩] T)).heap.size (w.alloc (.cells #[.int .i64 1, .string ⟨#[97, 98]⟩, .int .i64 1, .string ⟨#[]⟩, .int .i64 7, .string ⟨#[120]⟩] T)) (.slice (some ⟨w.heap.size, 0, none⟩) 3 3) litFields := by
  refine .inr ⟨w.heap.size, 0, 3, rfl, by simp, by simp [litFields], by simp [litFields], by decide, fun i hi => ?_⟩
  match i, hi with
  | 0, _ => simp [litFields]
  | 1, _ => simp [litFields]
  | 2, _ => simp [litFields]
  | i + 3, hi => exact absurd hi (by simp [litFields])
theorem lit_pack : Pl.packOut litFields = ⟨#[1, 0, 2, 97, 98, 1, 0, 0, 7, 0, 1, 120]⟩ ∧ Pl.packErr 1 litFields = 0 ∧ (Pl.encs litFields).length ≤ 1099511627776 := by decide

set_option maxHeartbeats 1000000 in
theorem packs_any (v : Value) (l : List (Int × ByteArray)) (w : World) (hv : FieldsAt w.heap.size w v l) (hE : (Pl.encs l).length ≤ 1048576) :
    Calls Try.prog 3 #[v] w fun e w' => e = .returned (.bool true) ∧ Below w.heap.size w w' := by
  have HE : Hid ((Pl.encs l).length ≤ 1099511627776) := Nat.le_trans hE (by decide)
  have HR : Hid (l.length * 24 ≤ 140737488351232) := by have := encs_ge l; show l.length * 24 ≤ _; omega
  have HL : Hid (Pl.packOut litFields = ⟨#[1, 0, 2, 97, 98, 1, 0, 0, 7, 0, 1, 120]⟩ ∧ Pl.packErr 1 litFields = 0 ∧ (Pl.encs litFields).length ≤ 1099511627776) := lit_pack
  have HV : Hid (FieldsAt w.heap.size w v l) := hv
  clear hv hE
  go_enter Try.func3, Try.ntmps3
  go_wp2_with fail
  refine (pack_any _ l _ HV.out HE.out).mono ?_
  rintro e w1 ⟨rfl, hb1⟩
  go_wp2_with fail
  refine (ref_any _ l _ ((HV.out.below hb1 (Nat.le_refl _)).mono hb1.size) HR.out).mono ?_
  rintro e w2 ⟨r, rfl, hown, hb2⟩
  have hF2 : FieldsAt w2.heap.size w2 r l := FieldsAt.of_own hown
  clear hown
  have hb02 : Below w.heap.size w w2 := hb1.trans (hb2.mono hb1.size)
  go_wp2_with fail
  refine (refPack_any _ l _ hF2 HE.out).mono ?_
  rintro e w3 ⟨rfl, hb3⟩
  have hb03 : Below w.heap.size w w3 := hb02.trans (hb3.mono hb02.size)
  generalize Pl.packOut l = s
  generalize Pl.packErr 1 l = f
  clear hF2 hb1 hb2 hb3 hb02
  go_wp2_with fail
  refine (pack_any _ litFields _ (fields_three w3 31) HL.out.2.2).mono ?_
  rintro e w4 ⟨rfl, hb4⟩
  rw [HL.out.1, HL.out.2.1]
  have hb04 : Below w.heap.size w w4 := (hb03.alloc hb03.size _).trans (hb4.mono (by have := hb03.size; simp; omega))
  go_wp2
  go_ret
  exact ⟨rfl, hb04⟩

theorem cells31 : Try.prog.cellsOf 31 = 2 := by kernel_rfl
theorem cells3 : Try.prog.cellsOf 3 = 1 := by kernel_rfl
theorem cells9 : Try.prog.cellsOf 9 = 1 := by kernel_rfl

set_option maxRecDepth 100000 in
theorem tlvPacks_lifted (os : Os) (started : os.Started) (H : Type) (enc : TypeId × Value → H) (F : Stop.Interp) :
    ReturnsInHanded {} Try.checked os 3 .any ((Rows.OpenSpec.upto Rows.tlvPacksSpec).pre6 enc Try.prog Try.f3 Rows.tlvPacksUptoRow.domain false) (((Rows.OpenSpec.upto Rows.tlvPacksSpec).at F).post enc Try.prog Try.f3 false true false false) := by
  refine returnsInHanded_of_cond (C := Try.checked) (s := Rows.OpenSpec.upto Rows.tlvPacksSpec) (k := Rows.uptoSmall) rfl own started (by kernel_rfl) Try.func3
    (OpenSpec.witness (enc := enc) (C := Try.checked) (s := Rows.OpenSpec.upto Rows.tlvPacksSpec) (k := Rows.uptoSmall) rfl false ⟨#[], #[.slice none 0 0], []⟩ 8 (by kernel_rfl) (by kernel_rfl) (by kernel_rfl)
      (x := ([.nil], [], [])) (by kernel_rfl) rfl (by kernel_rfl)) ?_
  intro W base args ds gs before hval0 hW _ hk _
  have hval : ∀ (j : Nat) t v, Try.f3.params[j]? = some t → args[j]? = some v → Value.okWide Try.prog W .any base t v := hval0
  have hW' := hW
  obtain ⟨p, q, hA0, hV, rfl, hfz, hnd⟩ := hW
  have hA : DataW.TrodAll enc Try.prog W 0 (fun _ => true) true Try.f3.params.toList args.toList ds p := hA0
  rw [Try.params3] at hA hval
  obtain ⟨v0, d0, rfl, rfl, h0⟩ := trodAll_one hA
  obtain ⟨rfl, rfl⟩ := trodVars_none hV
  have hlt : ∀ x ∈ p, x.block < W.heap.size := fun x hx => hW'.lt x (by simp [hx])
  obtain ⟨l, sp, hl, hok, hd⟩ := open_fields Try.underlying22 Try.underlying31 cells31 rfl rfl cells3 cells9 Try.underlying3 Try.underlying9 (okWide_slice Try.underlying22 (hval 0 22 v0 rfl rfl)) hlt h0
  refine (packs_any v0 l W hl (small_fields hd hk)).mono fun e W' ⟨he, hg⟩ => ⟨_, he, ?_⟩
  exact Law.post laidOut (by kernel_rfl) rfl Try.underlying4 hW' rfl rfl hg

theorem tlvPacksUpto_holds : Rows.TlvPacksUptoSaid :=
  OpenClaim.holds_of_cond 3 Try.f3 rfl rfl rfl rfl rfl rfl rfl ⟨rfl, rfl, rfl, rfl, rfl⟩ rfl rfl rfl rfl rfl (by kernel_rfl) Try.func3 (by kernel_rfl)
    (of_decide_eq_true (by kernel_rfl)) (by unfold Func.isWrapper; first | (rw [if_pos (by decide +kernel)]; kernel_rfl) | (rw [if_neg (by decide +kernel)]; exact ⟨rfl, rfl⟩))
    (fun os started H enc _ F => tlvPacks_lifted os started H enc F)
#print axioms tlvPacksUpto_holds
end Go.Proofs.Ytdgainpbaphniaa
