/-
  For any slice of fields of bulk at most 1048576 sextonlaw01.TlvBack returns true, whatever the memory: what tlv.Pack packs tlv.Unpack unpacks. One condition: the bulk.
-/
import Derived.Test.YtdgainpbaphniaaRows
import Derived.Test.YtdgainpbaphniaaLaw
import Derived.Test.YtdgainpbaphniaaBulk
import Derived.Test.YtdgainpbaphniaaPack
import Derived.Test.YtdgainpbaphniaaRef
import Derived.Test.YtdgainpbaphniaaUnpack
import Derived.Test.YtdgainpbaphniaaSame
import Derived.Test.YtdgainpbaphniaaPlainK
import Derived.JoinedCond
namespace Go.Proofs.Ytdgainpbaphniaa
open Go.ChangeShapes Go.WideShapes Go.ChangeAt Go.RowKit Go.Deep

set_option maxHeartbeats 1000000 in
theorem back_any (v : Value) (l : List (Int × ByteArray)) (w : World) (hv : FieldsAt w.heap.size w v l) (hE : (Pl.encs l).length ≤ 1048576) :
    Calls Try.prog 8 #[v] w fun e w' => e = .returned (.bool true) ∧ Below w.heap.size w w' := by
  have HE : Hid ((Pl.encs l).length ≤ 1099511627776) := Nat.le_trans hE (by decide)
  have HR : Hid (l.length * 24 ≤ 140737488351232) := by have := encs_ge l; show l.length * 24 ≤ _; omega
  have HV : Hid (FieldsAt w.heap.size w v l) := hv
  clear hv
  by_cases hp : Pl.packErr 1 l = 0
  · have HO : Hid (Pl.packOut l = Pl.txt (Pl.encs l) ∧ Pl.packErr 1 l = 0) := ⟨by rw [Pl.packOut, hp, if_pos rfl], hp⟩
    have HU : Hid (Pl.unpOut (Pl.txt (Pl.encs l)).data.toList = l ∧ Pl.unpErr (Pl.txt (Pl.encs l)).data.toList = 0) := by rw [Pl.txt_data]; exact Pl.unp_encs l hp
    have HS : Hid ((Pl.txt (Pl.encs l)).size ≤ 1048576) := by show (Pl.txt (Pl.encs l)).size ≤ _; rw [Pl.txt_size]; exact hE
    clear hp hE
    go_enter Try.func8, Try.ntmps8
    go_wp2_with fail
    refine (pack_any _ l _ HV.out HE.out).mono ?_
    rintro e w1 ⟨rfl, hb1⟩
    rw [HO.out.1, HO.out.2]
    go_wp2_with fail
    refine (unpack_any _ _ HS.out).mono ?_
    rintro e w2 ⟨r2, rfl, hown2, hb2⟩
    rw [HU.out.2]
    have hF2 : FieldsAt w2.heap.size w2 r2 l := by
      have := FieldsAt.of_own hown2
      rwa [HU.out.1] at this
    have hb02 : Below w.heap.size w w2 := hb1.trans (hb2.mono hb1.size)
    clear hown2 hb1 hb2
    go_wp2_with fail
    refine (ref_any _ l _ ((HV.out.below hb02 (Nat.le_refl _)).mono hb02.size) HR.out).mono ?_
    rintro e w3 ⟨r3, rfl, hown3, hb3⟩
    have hF3 : FieldsAt w3.heap.size w3 r3 l := FieldsAt.of_own hown3
    have hF23 := (hF2.below hb3 (Nat.le_refl _)).mono hb3.size
    have hb03 : Below w.heap.size w w3 := hb02.trans (hb3.mono hb02.size)
    clear hown3 hF2 hb3 hb02
    go_wp2_with fail
    refine (same_any _ _ l _ hF23 hF3).mono ?_
    rintro e w4 ⟨rfl, hb4⟩
    have hb04 : Below w.heap.size w w4 := hb03.trans (hb4.mono hb03.size)
    clear hF23 hF3 hb4 hb03
    go_wp2_with fail
    refine (small_any _).mono ?_
    rintro e w5 ⟨rfl, hb5⟩
    go_wp2
    go_ret
    exact ⟨rfl, hb04.trans (hb5.mono hb04.size)⟩
  · have HO : Hid (Pl.packOut l = ⟨#[]⟩) := by show Pl.packOut l = _; rw [Pl.packOut, if_neg hp]; rfl
    have hne : (Pl.packErr 1 l != 0) = true := by simp [hp]
    have hne2 : (Pl.packErr 1 l == 0) = false := by simp [hp]
    clear hp hE
    generalize hf : Pl.packErr 1 l = f at *
    have HF : Hid (Pl.packErr 1 l = f) := hf
    clear hf
    go_enter Try.func8, Try.ntmps8
    go_wp2_with fail
    refine (pack_any _ l _ HV.out HE.out).mono ?_
    rintro e w1 ⟨rfl, hb1⟩
    rw [HO.out, HF.out]
    go_wp2_with fail
    refine (small_any _).mono ?_
    rintro e w5 ⟨rfl, hb5⟩
    go_wp2
    go_ret
    exact ⟨rfl, hb1.trans (hb5.mono hb1.size)⟩

theorem cells31 : Try.prog.cellsOf 31 = 2 := by kernel_rfl
theorem cells3 : Try.prog.cellsOf 3 = 1 := by kernel_rfl
theorem cells9 : Try.prog.cellsOf 9 = 1 := by kernel_rfl

set_option maxRecDepth 100000 in
theorem tlvBack_lifted (os : Os) (started : os.Started) (H : Type) (enc : TypeId × Value → H) (F : Stop.Interp) :
    ReturnsInHanded {} Try.checked os 8 .any ((Rows.OpenSpec.upto Rows.tlvBackSpec).pre6 enc Try.prog Try.f8 Rows.tlvBackUptoRow.domain false) (((Rows.OpenSpec.upto Rows.tlvBackSpec).at F).post enc Try.prog Try.f8 false true false false) := by
  refine returnsInHanded_of_cond (C := Try.checked) (s := Rows.OpenSpec.upto Rows.tlvBackSpec) (k := Rows.uptoSmall) rfl own started (by kernel_rfl) Try.func8
    (OpenSpec.witness (enc := enc) (C := Try.checked) (s := Rows.OpenSpec.upto Rows.tlvBackSpec) (k := Rows.uptoSmall) rfl false ⟨#[], #[.slice none 0 0], []⟩ 8 (by kernel_rfl) (by kernel_rfl) (by kernel_rfl)
      (x := ([.nil], [], [])) (by kernel_rfl) rfl (by kernel_rfl)) ?_
  intro W base args ds gs before hval0 hW _ hk _
  have hval : ∀ (j : Nat) t v, Try.f8.params[j]? = some t → args[j]? = some v → Value.okWide Try.prog W .any base t v := hval0
  have hW' := hW
  obtain ⟨p, q, hA0, hV, rfl, hfz, hnd⟩ := hW
  have hA : DataW.TrodAll enc Try.prog W 0 (fun _ => true) true Try.f8.params.toList args.toList ds p := hA0
  rw [Try.params8] at hA hval
  obtain ⟨v0, d0, rfl, rfl, h0⟩ := trodAll_one hA
  obtain ⟨rfl, rfl⟩ := trodVars_none hV
  have hlt : ∀ x ∈ p, x.block < W.heap.size := fun x hx => hW'.lt x (by simp [hx])
  obtain ⟨l, sp, hl, hok, hd⟩ := open_fields Try.underlying22 Try.underlying31 cells31 rfl rfl cells3 cells9 Try.underlying3 Try.underlying9 (okWide_slice Try.underlying22 (hval 0 22 v0 rfl rfl)) hlt h0
  refine (back_any v0 l W hl (small_fields hd hk)).mono fun e W' ⟨he, hg⟩ => ⟨_, he, ?_⟩
  exact Law.post laidOut (by kernel_rfl) rfl Try.underlying4 hW' rfl rfl hg

theorem tlvBackUpto_holds : Rows.TlvBackUptoSaid :=
  OpenClaim.holds_of_cond 8 Try.f8 rfl rfl rfl rfl rfl rfl rfl ⟨rfl, rfl, rfl, rfl, rfl⟩ rfl rfl rfl rfl rfl (by kernel_rfl) Try.func8 (by kernel_rfl)
    (of_decide_eq_true (by kernel_rfl)) (by unfold Func.isWrapper; first | (rw [if_pos (by decide +kernel)]; kernel_rfl) | (rw [if_neg (by decide +kernel)]; exact ⟨rfl, rfl⟩))
    (fun os started H enc _ F => tlvBack_lifted os started H enc F)
#print axioms tlvBackUpto_holds
end Go.Proofs.Ytdgainpbaphniaa
