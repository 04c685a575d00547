/-
  For any runs, any int and any string sextonlaw08.BlobBack returns true, whatever the memory: what was written is read, and elsewhere what was there; and the runs stay right. No condition.
-/
import Derived.Test.YtkkaendfcfkbbaaKit
import Derived.Test.YtkkaendfcfkbbaaPlainW
namespace Go.Proofs.Ytkkaendfcfkbbaa
open Go.ChangeShapes Go.WideShapes Go.ChangeAt Go.RowKit Go.Deep
open Go.ChangeMaps (open_string)

set_option maxHeartbeats 4000000 in
theorem back_law (v : Value) (l : List Bl.R) (at_ : Int) (d : ByteArray) (w : World) (hv : FieldsAt w.heap.size w v l) (hok : okFields l) (ha : at_ ≤ 9223372036854775807) (hd : d.size ≤ maxLen) :
    Calls Try.prog 7 #[v, .int .i64 at_, .string d] w fun e w' => e = .returned (.bool true) ∧ Below w.heap.size w w' := by
  have HV : Hid (FieldsAt w.heap.size w v l) := hv
  obtain ⟨ao, cap, rfl, hm, _⟩ := hv.open
  clear hv
  obtain ⟨n, hn⟩ : ∃ n, l.length = n := ⟨_, rfl⟩
  rw [hn] at HV ⊢
  have HO : Hid (okFields l ∧ d.size ≤ maxLen) := ⟨hok, hd⟩
  unfold maxLen at hd hm
  rw [hn] at hm
  clear hn hok
  go_enter Try.func7, Try.ntmps7
  go_wp2_with fail
  refine (heavy_any _ l _ _ HV.out).mono ?_
  rintro e w1 ⟨b, rfl, hb1⟩
  have HB1 : Hid (Below w.heap.size w w1) := hb1
  have HF1 : Hid (FieldsAt w1.heap.size w1 (.slice ao n cap) l) := HV.out.up hb1
  clear hb1
  cases b with
  | true =>
    go_wp2_with fail
    refine (five_any _).mono ?_
    rintro e w2 ⟨rfl, hb2⟩
    have HB2 : Hid (Below w.heap.size w w2) := HB1.out.trans (hb2.mono HB1.out.size)
    clear hb2
    go_wp2
    go_ret
    exact ⟨rfl, HB2.out⟩
  | false =>
    by_cases h5 : (512 : Int) < (d.size : Int)
    · go_wp2_with fail
      refine (five_any _).mono ?_
      rintro e w2 ⟨rfl, hb2⟩
      have HB2 : Hid (Below w.heap.size w w2) := HB1.out.trans (hb2.mono HB1.out.size)
      clear hb2
      go_wp2
      go_ret
      exact ⟨rfl, HB2.out⟩
    · go_wp2_with fail
      refine (write_any _ l at_ d _ HF1.out HO.out.1 HO.out.2).mono ?_
      rintro e w2 ⟨r, rfl, hown, hb2⟩
      have HB2 : Hid (Below w.heap.size w w2) := HB1.out.trans (hb2.mono HB1.out.size)
      by_cases he : Bl.wErr l at_ d = 0
      · obtain ⟨hr, e1, e2⟩ := Bl.wErr_ok he
        have ho : Bl.wOut l at_ d = Bl.write l at_ d := by unfold Bl.wOut; rw [if_pos he]
        rw [ho] at hown
        have HF2 : Hid (FieldsAt w2.heap.size w2 (.slice ao n cap) l ∧ FieldsAt w2.heap.size w2 r (Bl.write l at_ d)) := ⟨HF1.out.up hb2, FieldsAt.of_own hown⟩
        have HR : Hid (Bl.right (-1) l ∧ Bl.right (-1) (Bl.write l at_ d)) := ⟨hr, Bl.write_right hr e1 e2⟩
        rw [he]
        clear hown hb2 ho he hr
        have HR1 : Hid (Bl.rErr (Bl.write l at_ d) 1048576 at_ d.size = 0 ∧ Bl.rOut (Bl.write l at_ d) 1048576 at_ d.size = d) := by
          refine ⟨Bl.rErr_ok HR.out.2 (by omega), ?_⟩
          rw [Bl.rOut_ok HR.out.2 (by omega), show (min (d.size : Int) (1048576 - at_)).toNat = d.size by omega, Bl.over_same HR.out.1, Bl.txt_bs]
        go_wp2_with fail
        refine (read_any _ (Bl.write l at_ d) 1048576 at_ d.size _ HF2.out.2 (ok_of_right HR.out.2)).mono ?_
        rintro e w3 ⟨rfl, hb3⟩
        have HB3 : Hid (Below w.heap.size w w3) := HB2.out.trans (hb3.mono HB2.out.size)
        have HF3 : Hid (FieldsAt w3.heap.size w3 (.slice ao n cap) l ∧ FieldsAt w3.heap.size w3 r (Bl.write l at_ d)) := ⟨HF2.out.1.up hb3, HF2.out.2.up hb3⟩
        clear hb3
        rw [HR1.out.1, HR1.out.2]
        go_wp2_with fail
        refine (check_any _ (Bl.write l at_ d) _ HF3.out.2 (ok_of_right HR.out.2)).mono ?_
        rintro e w4 ⟨rfl, hb4⟩
        rw [Bl.err_zero HR.out.2]
        have HB4 : Hid (Below w.heap.size w w4) := HB3.out.trans (hb4.mono HB3.out.size)
        have HF4 : Hid (FieldsAt w4.heap.size w4 (.slice ao n cap) l ∧ FieldsAt w4.heap.size w4 r (Bl.write l at_ d)) := ⟨HF3.out.1.up hb4, HF3.out.2.up hb4⟩
        clear hb4
        have HC : Hid (Bl.rOut (Bl.write l at_ d) 1048576 (at_ + (d.size : Int)) 100 = Bl.rOut l 1048576 (at_ + (d.size : Int)) 100) := by
          show Bl.rOut (Bl.write l at_ d) 1048576 (at_ + (d.size : Int)) 100 = _
          rw [Bl.rOut_ok HR.out.2 (by omega), Bl.rOut_ok HR.out.1 (by omega), Bl.over_else HR.out.1 (.inr (Int.le_refl _))]
        by_cases hf : at_ - 100 < 0
        · have hf' : at_ - 0 = at_ := by omega
          have HA : Hid (Bl.rOut (Bl.write l at_ d) 1048576 0 at_ = Bl.rOut l 1048576 0 at_) := by
            show Bl.rOut (Bl.write l at_ d) 1048576 0 at_ = _
            rw [Bl.rOut_ok HR.out.2 (by omega), Bl.rOut_ok HR.out.1 (by omega), Bl.over_else HR.out.1 (.inl (by omega))]
          go_wp2_with fail
          refine (read_any _ l 1048576 0 at_ _ HF4.out.1 HO.out.1).mono ?_
          rintro e w5 ⟨rfl, hb5⟩
          have HB5 : Hid (Below w.heap.size w w5) := HB4.out.trans (hb5.mono HB4.out.size)
          have HF5 : Hid (FieldsAt w5.heap.size w5 (.slice ao n cap) l ∧ FieldsAt w5.heap.size w5 r (Bl.write l at_ d)) := ⟨HF4.out.1.up hb5, HF4.out.2.up hb5⟩
          clear hb5
          go_wp2_with fail
          refine (read_any _ (Bl.write l at_ d) 1048576 0 at_ _ HF5.out.2 (ok_of_right HR.out.2)).mono ?_
          rintro e w6 ⟨rfl, hb6⟩
          have HB6 : Hid (Below w.heap.size w w6) := HB5.out.trans (hb6.mono HB5.out.size)
          have HF6 : Hid (FieldsAt w6.heap.size w6 (.slice ao n cap) l ∧ FieldsAt w6.heap.size w6 r (Bl.write l at_ d)) := ⟨HF5.out.1.up hb6, HF5.out.2.up hb6⟩
          clear hb6
          rw [HA.out]
          generalize Bl.rOut l 1048576 0 at_ = S1
          generalize Bl.rErr l 1048576 0 at_ = z1
          generalize Bl.rErr (Bl.write l at_ d) 1048576 0 at_ = z2
          go_wp2_with fail
          refine (read_any _ l 1048576 (at_ + (d.size : Int)) 100 _ HF6.out.1 HO.out.1).mono ?_
          rintro e w7 ⟨rfl, hb7⟩
          have HB7 : Hid (Below w.heap.size w w7) := HB6.out.trans (hb7.mono HB6.out.size)
          have HF7 : Hid (FieldsAt w7.heap.size w7 (.slice ao n cap) l ∧ FieldsAt w7.heap.size w7 r (Bl.write l at_ d)) := ⟨HF6.out.1.up hb7, HF6.out.2.up hb7⟩
          clear hb7
          go_wp2_with fail
          refine (read_any _ (Bl.write l at_ d) 1048576 (at_ + (d.size : Int)) 100 _ HF7.out.2 (ok_of_right HR.out.2)).mono ?_
          rintro e w8 ⟨rfl, hb8⟩
          have HB8 : Hid (Below w.heap.size w w8) := HB7.out.trans (hb8.mono HB7.out.size)
          have HF8 : Hid (FieldsAt w8.heap.size w8 (.slice ao n cap) l ∧ FieldsAt w8.heap.size w8 r (Bl.write l at_ d)) := ⟨HF7.out.1.up hb8, HF7.out.2.up hb8⟩
          clear hb8
          rw [HC.out]
          generalize Bl.rOut l 1048576 (at_ + (d.size : Int)) 100 = S2
          generalize Bl.rErr l 1048576 (at_ + (d.size : Int)) 100 = z3
          generalize Bl.rErr (Bl.write l at_ d) 1048576 (at_ + (d.size : Int)) 100 = z4
          go_wp2_with fail
          refine (five_any _).mono ?_
          rintro e w9 ⟨rfl, hb9⟩
          have HB9 : Hid (Below w.heap.size w w9) := HB8.out.trans (hb9.mono HB8.out.size)
          clear hb9
          go_wp2
          go_ret
          exact ⟨rfl, HB9.out⟩
        · have hf' : at_ - (at_ - 100) = 100 := by omega
          have HA : Hid (Bl.rOut (Bl.write l at_ d) 1048576 (at_ - 100) 100 = Bl.rOut l 1048576 (at_ - 100) 100) := by
            show Bl.rOut (Bl.write l at_ d) 1048576 (at_ - 100) 100 = _
            rw [Bl.rOut_ok HR.out.2 (by omega), Bl.rOut_ok HR.out.1 (by omega), Bl.over_else HR.out.1 (.inl (by omega))]
          go_wp2_with fail
          refine (read_any _ l 1048576 (at_ - 100) 100 _ HF4.out.1 HO.out.1).mono ?_
          rintro e w5 ⟨rfl, hb5⟩
          have HB5 : Hid (Below w.heap.size w w5) := HB4.out.trans (hb5.mono HB4.out.size)
          have HF5 : Hid (FieldsAt w5.heap.size w5 (.slice ao n cap) l ∧ FieldsAt w5.heap.size w5 r (Bl.write l at_ d)) := ⟨HF4.out.1.up hb5, HF4.out.2.up hb5⟩
          clear hb5
          go_wp2_with fail
          refine (read_any _ (Bl.write l at_ d) 1048576 (at_ - 100) 100 _ HF5.out.2 (ok_of_right HR.out.2)).mono ?_
          rintro e w6 ⟨rfl, hb6⟩
          have HB6 : Hid (Below w.heap.size w w6) := HB5.out.trans (hb6.mono HB5.out.size)
          have HF6 : Hid (FieldsAt w6.heap.size w6 (.slice ao n cap) l ∧ FieldsAt w6.heap.size w6 r (Bl.write l at_ d)) := ⟨HF5.out.1.up hb6, HF5.out.2.up hb6⟩
          clear hb6
          rw [HA.out]
          generalize Bl.rOut l 1048576 (at_ - 100) 100 = S1
          generalize Bl.rErr l 1048576 (at_ - 100) 100 = z1
          generalize Bl.rErr (Bl.write l at_ d) 1048576 (at_ - 100) 100 = z2
          go_wp2_with fail
          refine (read_any _ l 1048576 (at_ + (d.size : Int)) 100 _ HF6.out.1 HO.out.1).mono ?_
          rintro e w7 ⟨rfl, hb7⟩
          have HB7 : Hid (Below w.heap.size w w7) := HB6.out.trans (hb7.mono HB6.out.size)
          have HF7 : Hid (FieldsAt w7.heap.size w7 (.slice ao n cap) l ∧ FieldsAt w7.heap.size w7 r (Bl.write l at_ d)) := ⟨HF6.out.1.up hb7, HF6.out.2.up hb7⟩
          clear hb7
          go_wp2_with fail
          refine (read_any _ (Bl.write l at_ d) 1048576 (at_ + (d.size : Int)) 100 _ HF7.out.2 (ok_of_right HR.out.2)).mono ?_
          rintro e w8 ⟨rfl, hb8⟩
          have HB8 : Hid (Below w.heap.size w w8) := HB7.out.trans (hb8.mono HB7.out.size)
          have HF8 : Hid (FieldsAt w8.heap.size w8 (.slice ao n cap) l ∧ FieldsAt w8.heap.size w8 r (Bl.write l at_ d)) := ⟨HF7.out.1.up hb8, HF7.out.2.up hb8⟩
          clear hb8
          rw [HC.out]
          generalize Bl.rOut l 1048576 (at_ + (d.size : Int)) 100 = S2
          generalize Bl.rErr l 1048576 (at_ + (d.size : Int)) 100 = z3
          generalize Bl.rErr (Bl.write l at_ d) 1048576 (at_ + (d.size : Int)) 100 = z4
          go_wp2_with fail
          refine (five_any _).mono ?_
          rintro e w9 ⟨rfl, hb9⟩
          have HB9 : Hid (Below w.heap.size w w9) := HB8.out.trans (hb9.mono HB8.out.size)
          clear hb9
          go_wp2
          go_ret
          exact ⟨rfl, HB9.out⟩
      · obtain ⟨y, hy⟩ : ∃ y, Bl.wErr l at_ d = y := ⟨_, rfl⟩
        have ho : Bl.wOut l at_ d = [] := by unfold Bl.wOut; rw [if_neg he]
        rw [ho] at hown
        obtain ⟨pr, cr, rfl⟩ : ∃ p c, r = .slice p 0 c := by
          rcases hown.2 with ⟨rfl, _⟩ | ⟨g, c, _, rfl, _⟩
          · exact ⟨_, _, rfl⟩
          · exact ⟨_, _, rfl⟩
        rw [hy] at he ⊢
        have he' : (y == 0) = false := beq_eq_false_iff_ne.2 he
        clear hown hb2 ho hy he
        go_wp2_with fail
        refine (five_any _).mono ?_
        rintro e w3 ⟨rfl, hb3⟩
        have HB3 : Hid (Below w.heap.size w w3) := HB2.out.trans (hb3.mono HB2.out.size)
        clear hb3
        go_wp2
        go_ret
        exact ⟨rfl, HB3.out⟩

set_option maxRecDepth 100000 in
theorem blobBack_lifted (os : Os) (started : os.Started) (H : Type) (enc : TypeId × Value → H) :
    ReturnsInHanded {} Try.checked os 7 .any (Rows.blobBackSpec.pre6 enc Try.prog Try.f7 Rows.blobBackRow.domain false) (Rows.blobBackSpec.post enc Try.prog Try.f7 false true false false) := by
  refine returnsInHanded_of_change (C := Try.checked) own started (by kernel_rfl) Try.func7
    (ChangeSpec.witness6 (enc := enc) (C := Try.checked) false ⟨#[], #[.slice none 0 0, .int .i64 0, .string .empty], []⟩ 8 (by kernel_rfl) (by kernel_rfl) (by kernel_rfl) (by kernel_rfl)) ?_
  intro W base args ds gs before hval0 hW hcnd _
  have hval : ∀ (j : Nat) t v, Try.f7.params[j]? = some t → args[j]? = some v → Value.okWide Try.prog W .any base t v := hval0
  have hW' := hW
  have hlt : ∀ x ∈ before, x.block < W.heap.size := fun x hx => by simpa using hW'.lt x hx
  obtain ⟨p, q, hA0, hV, rfl, hfz, hnd⟩ := hW
  have hA : DataW.TrodAll enc Try.prog W 0 (fun _ => true) true Try.f7.params.toList args.toList ds p := hA0
  rw [Try.params7] at hA hval
  obtain ⟨v0, v1, v2, d0, d1, d2, p0, p1, p2, rfl, rfl, rfl, h0, h1, h2⟩ := trodAll_three hA
  obtain ⟨rfl, rfl⟩ := trodVars_none hV
  obtain ⟨l, sp, hF, hok, _⟩ := open_fields Try.underlying22 Try.underlying24 (by kernel_rfl) rfl rfl (by kernel_rfl) (by kernel_rfl) Try.underlying3 Try.underlying9 (okWide_slice Try.underlying22 (hval 0 22 v0 rfl rfl)) (fun x hx => hlt x (by simp [hx])) h0
  obtain ⟨a1, rfl, rfl, rfl, w1⟩ := open_int Try.underlying3 (hval 1 3 v1 rfl rfl) h1
  obtain ⟨s2, rfl, rfl, rfl, z2⟩ := open_string Try.underlying9 (hval 2 9 v2 rfl rfl) h2
  refine (back_law v0 l a1 s2 W hF hok (i64_le w1).2 z2).mono fun e W' ⟨he, hg⟩ => ⟨_, he, ?_⟩
  exact Law.post laidOut (by kernel_rfl) rfl Try.underlying4 hW' rfl rfl hg

theorem blobBack_holds : Rows.BlobBackSaid :=
  OpenClaim.holds_of_wide 7 Try.f7 rfl rfl rfl rfl rfl rfl rfl ⟨rfl, rfl, rfl, rfl, rfl⟩ rfl rfl rfl rfl rfl (by kernel_rfl) Try.func7 (by kernel_rfl)
    (of_decide_eq_true (by kernel_rfl)) (by unfold Func.isWrapper; first | (rw [if_pos (by decide +kernel)]; kernel_rfl) | (rw [if_neg (by decide +kernel)]; exact ⟨rfl, rfl⟩))
    (fun os started H enc _ => blobBack_lifted os started H enc)
#print axioms blobBack_holds
end Go.Proofs.Ytkkaendfcfkbbaa
