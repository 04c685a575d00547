/-
  For any string and two ints of bulk at most 1048576 sextonlaw01.TlvAgain returns true, whatever the memory: what tlv.Unpack unpacks tlv.Pack packs as the bytes that it was, and a number is what it was made of. One condition: the bulk.
-/
import Derived.Test.YtdgainpbaphniabRows
import Derived.Test.YtdgainpbaphniabLaw
import Derived.Test.YtdgainpbaphniabBulk
import Derived.Test.YtdgainpbaphniabPack
import Derived.Test.YtdgainpbaphniabUnpack
import Derived.Test.YtdgainpbaphniabNumber
import Derived.Test.YtdgainpbaphniabPlainA
import Derived.JoinedCond
namespace Go.Proofs.Ytdgainpbaphniab
open Go.ChangeShapes Go.WideShapes Go.ChangeAt Go.RowKit Go.Deep
open Go.ChangeMaps (open_string)

theorem txt_maxLen {n size : Int} (h : ((Pl.numOut n size).size : Int) = size) (h8 : size ≤ 8) : (Pl.numOut n size).size ≤ maxLen := by unfold maxLen; omega

set_option maxHeartbeats 2000000 in
theorem again_any (s : ByteArray) (n size : Int) (w : World) (hs : s.size ≤ 1048576) (hn : n ≤ 9223372036854775807) :
    Calls Try.prog 3 #[.string s, .int .i64 n, .int .i64 size] w fun e w' => e = .returned (.bool true) ∧ Below w.heap.size w w' := by
  have H8 : Hid (Pl.numErr n size = 0 → size ≤ 8) := by
    intro h
    unfold Pl.numErr at h
    split at h
    · cases h
    · rename_i hb
      simp [Pl.numBad] at hb
      omega
  have HU : Hid (Pl.unpErr s.data.toList = 0 → Pl.packErr 1 (Pl.unpOut s.data.toList) = 0 ∧ Pl.encs (Pl.unpOut s.data.toList) = s.data.toList) := Pl.again s.data.toList
  have HT : Hid (Pl.txt s.data.toList = s) := Pl.txt_toList s
  have HLN : Hid (s.data.toList.length ≤ 1099511627776) := by show s.data.toList.length ≤ _; simp; omega
  by_cases hu : Pl.unpErr s.data.toList = 0
  · have HUE : Hid (Pl.unpErr s.data.toList = 0) := hu
    have HP : Hid (Pl.packErr 1 (Pl.unpOut s.data.toList) = 0 ∧ Pl.packOut (Pl.unpOut s.data.toList) = s ∧ (Pl.encs (Pl.unpOut s.data.toList)).length ≤ 1099511627776) := by
      obtain ⟨a, b⟩ := HU.out hu
      exact ⟨a, by rw [Pl.packOut, a, if_pos rfl, b]; exact HT.out, by rw [b]; exact HLN.out⟩
    clear hu HU
    by_cases hg : Pl.numErr n size = 0
    · have HN : Hid (Pl.numErr n size = 0 ∧ Pl.numVal (Pl.numOut n size) = n ∧ Pl.numberErr (Pl.numOut n size) = 0 ∧ ((Pl.numOut n size).size : Int) = size ∧ (Pl.numOut n size).size ≤ maxLen) := by
        obtain ⟨a, b, c⟩ := Pl.num_back hn hg
        exact ⟨hg, a, b, c, txt_maxLen c (H8.out hg)⟩
      clear hg H8
      go_enter Try.func3, Try.ntmps3
      go_wp2_with fail
      refine (unpack_any s _ hs).mono ?_
      rintro e w1 ⟨r1, rfl, hown1, hb1⟩
      rw [HUE.out]
      have hF1 : FieldsAt w1.heap.size w1 r1 (Pl.unpOut s.data.toList) := FieldsAt.of_own hown1
      clear hown1
      go_wp2_with fail
      refine (pack_any _ _ _ hF1 HP.out.2.2).mono ?_
      rintro e w2 ⟨rfl, hb2⟩
      rw [HP.out.1, HP.out.2.1]
      have hb02 : Below w.heap.size w w2 := hb1.trans (hb2.mono hb1.size)
      clear hF1 hb1 hb2
      go_wp2_with fail
      refine (num_any n size _ hn).mono ?_
      rintro e w3 ⟨rfl, hb3⟩
      have hb03 : Below w.heap.size w w3 := hb02.trans (hb3.mono hb02.size)
      rw [HN.out.1]
      clear hb3 hb02
      go_wp2_with fail
      refine (number_any _ _ HN.out.2.2.2.2).mono ?_
      rintro e w4 ⟨rfl, rfl⟩
      rw [HN.out.2.1, HN.out.2.2.1]
      have hsz := HN.out.2.2.2.1
      generalize Pl.numOut n size = b at *
      go_wp2_with fail
      refine (small_any _).mono ?_
      rintro e w5 ⟨rfl, hb5⟩
      go_wp2
      go_ret
      exact ⟨rfl, hb03.trans (hb5.mono hb03.size)⟩
    · have HO : Hid (Pl.numOut n size = ⟨#[]⟩) := by
        show Pl.numOut n size = _
        unfold Pl.numOut
        unfold Pl.numErr at hg
        split at hg
        · rename_i hb; rw [if_pos hb]; rfl
        · exact absurd rfl hg
      have hne : (Pl.numErr n size != 0) = true := by simp [hg]
      have hne2 : (Pl.numErr n size == 0) = false := by simp [hg]
      clear hg H8
      generalize hf : Pl.numErr n size = f at *
      have HF : Hid (Pl.numErr n size = f) := hf
      clear hf
      go_enter Try.func3, Try.ntmps3
      go_wp2_with fail
      refine (unpack_any s _ hs).mono ?_
      rintro e w1 ⟨r1, rfl, hown1, hb1⟩
      rw [HUE.out]
      have hF1 : FieldsAt w1.heap.size w1 r1 (Pl.unpOut s.data.toList) := FieldsAt.of_own hown1
      clear hown1
      go_wp2_with fail
      refine (pack_any _ _ _ hF1 HP.out.2.2).mono ?_
      rintro e w2 ⟨rfl, hb2⟩
      rw [HP.out.1, HP.out.2.1]
      have hb02 : Below w.heap.size w w2 := hb1.trans (hb2.mono hb1.size)
      clear hF1 hb1 hb2
      go_wp2_with fail
      refine (num_any n size _ hn).mono ?_
      rintro e w3 ⟨rfl, hb3⟩
      have hb03 : Below w.heap.size w w3 := hb02.trans (hb3.mono hb02.size)
      rw [HF.out, HO.out]
      clear hb3 hb02
      go_wp2_with fail
      refine (small_any _).mono ?_
      rintro e w5 ⟨rfl, hb5⟩
      go_wp2
      go_ret
      exact ⟨rfl, hb03.trans (hb5.mono hb03.size)⟩
  · have hue : (Pl.unpErr s.data.toList == 0) = false := by simp [hu]
    clear hu HU
    generalize hq : Pl.unpErr s.data.toList = q at *
    have HQ : Hid (Pl.unpErr s.data.toList = q) := hq
    clear hq
    by_cases hg : Pl.numErr n size = 0
    · have HN : Hid (Pl.numErr n size = 0 ∧ Pl.numVal (Pl.numOut n size) = n ∧ Pl.numberErr (Pl.numOut n size) = 0 ∧ ((Pl.numOut n size).size : Int) = size ∧ (Pl.numOut n size).size ≤ maxLen) := by
        obtain ⟨a, b, c⟩ := Pl.num_back hn hg
        exact ⟨hg, a, b, c, txt_maxLen c (H8.out hg)⟩
      clear hg H8
      go_enter Try.func3, Try.ntmps3
      go_wp2_with fail
      refine (unpack_any s _ hs).mono ?_
      rintro e w1 ⟨r1, rfl, hown1, hb1⟩
      rw [HQ.out]
      clear hown1
      go_wp2_with fail
      refine (num_any n size _ hn).mono ?_
      rintro e w3 ⟨rfl, hb3⟩
      have hb03 : Below w.heap.size w w3 := hb1.trans (hb3.mono hb1.size)
      rw [HN.out.1]
      clear hb3 hb1
      go_wp2_with fail
      refine (number_any _ _ HN.out.2.2.2.2).mono ?_
      rintro e w4 ⟨rfl, rfl⟩
      rw [HN.out.2.1, HN.out.2.2.1]
      have hsz := HN.out.2.2.2.1
      generalize Pl.numOut n size = b at *
      go_wp2_with fail
      refine (small_any _).mono ?_
      rintro e w5 ⟨rfl, hb5⟩
      go_wp2
      go_ret
      exact ⟨rfl, hb03.trans (hb5.mono hb03.size)⟩
    · have HO : Hid (Pl.numOut n size = ⟨#[]⟩) := by
        show Pl.numOut n size = _
        unfold Pl.numOut
        unfold Pl.numErr at hg
        split at hg
        · rename_i hb; rw [if_pos hb]; rfl
        · exact absurd rfl hg
      have hne : (Pl.numErr n size != 0) = true := by simp [hg]
      have hne2 : (Pl.numErr n size == 0) = false := by simp [hg]
      clear hg H8
      generalize hf : Pl.numErr n size = f at *
      have HF : Hid (Pl.numErr n size = f) := hf
      clear hf
      go_enter Try.func3, Try.ntmps3
      go_wp2_with fail
      refine (unpack_any s _ hs).mono ?_
      rintro e w1 ⟨r1, rfl, hown1, hb1⟩
      rw [HQ.out]
      clear hown1
      go_wp2_with fail
      refine (num_any n size _ hn).mono ?_
      rintro e w3 ⟨rfl, hb3⟩
      have hb03 : Below w.heap.size w w3 := hb1.trans (hb3.mono hb1.size)
      rw [HF.out, HO.out]
      clear hb3 hb1
      go_wp2_with fail
      refine (small_any _).mono ?_
      rintro e w5 ⟨rfl, hb5⟩
      go_wp2
      go_ret
      exact ⟨rfl, hb03.trans (hb5.mono hb03.size)⟩

set_option maxRecDepth 100000 in
theorem tlvAgain_lifted (os : Os) (started : os.Started) (H : Type) (enc : TypeId × Value → H) (F : Stop.Interp) :
    ReturnsInHanded {} Try.checked os 3 .any ((Rows.OpenSpec.upto Rows.tlvAgainSpec).pre6 enc Try.prog Try.f3 Rows.tlvAgainUptoRow.domain false) (((Rows.OpenSpec.upto Rows.tlvAgainSpec).at F).post enc Try.prog Try.f3 false true false false) := by
  refine returnsInHanded_of_cond (C := Try.checked) (s := Rows.OpenSpec.upto Rows.tlvAgainSpec) (k := Rows.uptoSmall) rfl own started (by kernel_rfl) Try.func3
    (OpenSpec.witness (enc := enc) (C := Try.checked) (s := Rows.OpenSpec.upto Rows.tlvAgainSpec) (k := Rows.uptoSmall) rfl false ⟨#[], #[.string .empty, .int .i64 0, .int .i64 0], []⟩ 8 (by kernel_rfl) (by kernel_rfl) (by kernel_rfl)
      (x := ([.lit (.string []), .lit (.int .i64 0), .lit (.int .i64 0)], [], [])) (by kernel_rfl) rfl (by kernel_rfl)) ?_
  intro W base args ds gs before hval0 hW _ hk _
  have hval : ∀ (j : Nat) t v, Try.f3.params[j]? = some t → args[j]? = some v → Value.okWide Try.prog W .any base t v := hval0
  have hW' := hW
  obtain ⟨p, q, hA0, hV, rfl, hfz, hnd⟩ := hW
  have hA : DataW.TrodAll enc Try.prog W 0 (fun _ => true) true Try.f3.params.toList args.toList ds p := hA0
  rw [Try.params3] at hA hval
  obtain ⟨v0, v1, v2, d0, d1, d2, p0, p1, p2, rfl, rfl, rfl, h0, h1, h2⟩ := trodAll_three hA
  obtain ⟨rfl, rfl⟩ := trodVars_none hV
  obtain ⟨s, rfl, rfl, rfl, hs⟩ := open_string Try.underlying9 (hval 0 9 v0 rfl rfl) h0
  obtain ⟨a, rfl, rfl, rfl, w1⟩ := open_int Try.underlying3 (hval 1 3 v1 rfl rfl) h1
  obtain ⟨b, rfl, rfl, rfl, w2⟩ := open_int Try.underlying3 (hval 2 3 v2 rfl rfl) h2
  refine (again_any s a b W (small_string hk) (i64_le w1).2).mono fun e W' ⟨he, hg⟩ => ⟨_, he, ?_⟩
  exact Law.post laidOut (by kernel_rfl) rfl Try.underlying4 hW' rfl rfl hg

theorem tlvAgainUpto_holds : Rows.TlvAgainUptoSaid :=
  OpenClaim.holds_of_cond 3 Try.f3 rfl rfl rfl rfl rfl rfl rfl ⟨rfl, rfl, rfl, rfl, rfl⟩ rfl rfl rfl rfl rfl (by kernel_rfl) Try.func3 (by kernel_rfl)
    (of_decide_eq_true (by kernel_rfl)) (by unfold Func.isWrapper; first | (rw [if_pos (by decide +kernel)]; kernel_rfl) | (rw [if_neg (by decide +kernel)]; exact ⟨rfl, rfl⟩))
    (fun os started H enc _ F => tlvAgain_lifted os started H enc F)
#print axioms tlvAgainUpto_holds
end Go.Proofs.Ytdgainpbaphniab
