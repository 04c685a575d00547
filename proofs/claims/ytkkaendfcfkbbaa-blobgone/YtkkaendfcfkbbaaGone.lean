/-
  For any runs and any int sextonlaw08.BlobGone returns true, whatever the memory: what was cut away is 0 when it is read again, all ahead is as it was, and to cut again changes nothing. No condition.
-/
import Derived.Test.YtkkaendfcfkbbaaKit
import Derived.Test.YtkkaendfcfkbbaaEnd
namespace Go.Proofs.Ytkkaendfcfkbbaa
open Go.ChangeShapes Go.WideShapes Go.ChangeAt Go.RowKit Go.Deep
open Go.ChangeMaps (open_string)

set_option maxHeartbeats 4000000 in
theorem gone_law (v : Value) (l : List Bl.R) (size : Int) (w : World) (hv : FieldsAt w.heap.size w v l) (hok : okFields l) :
    Calls Try.prog 8 #[v, .int .i64 size] w fun e w' => e = .returned (.bool true) ∧ Below w.heap.size w w' := by
  have HV : Hid (FieldsAt w.heap.size w v l) := hv
  obtain ⟨ao, cap, rfl, hm, _⟩ := hv.open
  clear hv
  obtain ⟨n, hn⟩ : ∃ n, l.length = n := ⟨_, rfl⟩
  rw [hn] at HV hm ⊢
  have HO : Hid (okFields l) := hok
  clear hn hok
  have hmk : ∀ w, (Instr.makeSlice 47 (.int .i64 512) (.int .i64 512)).run Try.prog w = .ok (.slice (some ⟨w.heap.size, 0, none⟩) 512 512) (w.alloc (.cells (madeCells #[.int .u8 0] 512) 5)) := run_make_row' (P := Try.prog) 47 5 (.int .u8 0) 1 Try.underlying47 info5 rfl .i64 .i64 512 (by decide) (by decide)
  have hcv0 : ∀ W : World, (convert 47 9 (.slice (some ⟨W.heap.size, 0, none⟩) 512 512)).run Try.prog (W.alloc (.cells (madeCells #[.int .u8 0] 512) 5)) = .ok (.string (Bl.txt (List.replicate 512 0))) (W.alloc (.cells (madeCells #[.int .u8 0] 512) 5)) := fun W => conv_bytes _ W.heap.size 512 512 (List.replicate 512 0) (by rw [List.length_replicate]) (by rw [← made_zero]; exact heap_alloc_new _ _)
  obtain ⟨ob, hob⟩ : ∃ ob, Obj.cells (madeCells #[.int .u8 0] 512) 5 = ob := ⟨_, rfl⟩
  obtain ⟨Z, hZ⟩ : ∃ Z, Bl.txt (List.replicate 512 0) = Z := ⟨_, rfl⟩
  rw [hob] at hmk hcv0
  rw [hZ] at hcv0
  have HCV : Hid (True ∧ ∀ W : World, (convert 47 9 (.slice (some ⟨W.heap.size, 0, none⟩) 512 512)).run Try.prog (W.alloc ob) = .ok (.string Z) (W.alloc ob)) := ⟨trivial, hcv0⟩
  have HZZ : Hid (Bl.txt (List.replicate 512 0) = Z) := hZ
  clear hob hZ hcv0
  go_enter Try.func8, Try.ntmps8
  go_wp2_with fail
  refine (heavy_any _ l _ _ HV.out).mono ?_
  rintro e w1 ⟨b, rfl, hb1⟩
  have HB1 : Hid (Below w.heap.size w w1) := hb1
  have HF1 : Hid (FieldsAt w1.heap.size w1 (.slice ao n cap) l) := HV.out.up hb1
  clear hb1
  cases b with
  | true =>
    go_wp2_with fail
    refine (five_any _).mono ?_
    rintro e w2 ⟨rfl, hb2⟩
    have HB2 : Hid (Below w.heap.size w w2) := HB1.out.trans (hb2.mono HB1.out.size)
    clear hb2
    go_wp2
    go_ret
    exact ⟨rfl, HB2.out⟩
  | false =>
    go_wp2_with fail
    refine (cut_any _ l size _ HF1.out HO.out).mono ?_
    rintro e w2 ⟨r, rfl, hown, hb2⟩
    have HB2 : Hid (Below w.heap.size w w2) := HB1.out.trans (hb2.mono HB1.out.size)
    by_cases he : Bl.cErr l size = 0
    · have hrs : Bl.right (-1) l ∧ 0 ≤ size := by
        unfold Bl.cErr at he
        split at he
        · split at he
          · cases he
          · exact ⟨‹_›, by omega⟩
        · cases he
      have ho : Bl.cOut l size = Bl.within 0 size l := by unfold Bl.cOut; rw [if_pos he]
      rw [ho] at hown
      obtain ⟨hr, hs0⟩ := hrs
      have HF2 : Hid (FieldsAt w2.heap.size w2 (.slice ao n cap) l ∧ FieldsAt w2.heap.size w2 r (Bl.within 0 size l)) := ⟨HF1.out.up hb2, FieldsAt.of_own hown⟩
      have HR : Hid (Bl.right (-1) l ∧ Bl.right (-1) (Bl.within 0 size l)) := ⟨hr, Bl.right_within 0 size l (-1) (-1) hr (Int.le_refl _)⟩
      rw [he]
      clear hown hb2 ho he hr
      by_cases hbig : 1047976 < size
      · go_wp2_with fail
        refine (five_any _).mono ?_
        rintro e w3 ⟨rfl, hb3⟩
        have HB3 : Hid (Below w.heap.size w w3) := HB2.out.trans (hb3.mono HB2.out.size)
        clear hb3
        go_wp2
        go_ret
        exact ⟨rfl, HB3.out⟩
      · have HC : Hid (Bl.cErr (Bl.within 0 size l) size = 0 ∧ Bl.cOut (Bl.within 0 size l) size = Bl.within 0 size l) := by
          have h1 : Bl.cErr (Bl.within 0 size l) size = 0 := by unfold Bl.cErr; rw [if_pos HR.out.2, if_neg (by omega)]
          exact ⟨h1, by unfold Bl.cOut; rw [if_pos h1, Bl.cut_twice HR.out.1]⟩
        have HS : Hid (Bl.rErr (Bl.within 0 size l) 1048576 size 512 = 0 ∧ Bl.rOut (Bl.within 0 size l) 1048576 size 512 = Z) := by
          refine ⟨Bl.rErr_ok HR.out.2 (by omega), ?_⟩
          rw [Bl.rOut_ok HR.out.2 (by omega), show (min (512 : Int) (1048576 - size)).toNat = 512 by omega, Bl.over_gone, HZZ.out]
        have HEN : Hid (Bl.endOf (Bl.within 0 size l) ≤ size) := by
          show Bl.endOf (Bl.within 0 size l) ≤ size
          unfold Bl.endOf
          rw [if_pos HR.out.2]
          exact Bl.lastEnd_within 0 size l hs0
        go_wp2_with fail
        refine (cut_any _ (Bl.within 0 size l) size _ HF2.out.2 (ok_of_right HR.out.2)).mono ?_
        rintro e w3 ⟨r3, rfl, hown3, hb3⟩
        rw [HC.out.2] at hown3
        have HB3 : Hid (Below w.heap.size w w3) := HB2.out.trans (hb3.mono HB2.out.size)
        have HF3 : Hid (FieldsAt w3.heap.size w3 (.slice ao n cap) l ∧ FieldsAt w3.heap.size w3 r (Bl.within 0 size l)) := ⟨HF2.out.1.up hb3, HF2.out.2.up hb3⟩
        have HG3 : Hid (FieldsAt w3.heap.size w3 r3 (Bl.within 0 size l)) := FieldsAt.of_own hown3
        clear hb3 hown3
        rw [HC.out.1]
        go_wp2_with fail
        refine (read_any _ (Bl.within 0 size l) 1048576 size 512 _ HF3.out.2 (ok_of_right HR.out.2)).mono ?_
        rintro e w4 ⟨rfl, hb4⟩
        have HB4 : Hid (Below w.heap.size w w4) := HB3.out.trans (hb4.mono HB3.out.size)
        have HF4 : Hid (FieldsAt w4.heap.size w4 (.slice ao n cap) l ∧ FieldsAt w4.heap.size w4 r (Bl.within 0 size l)) := ⟨HF3.out.1.up hb4, HF3.out.2.up hb4⟩
        have HG4 : Hid (FieldsAt w4.heap.size w4 r3 (Bl.within 0 size l)) := HG3.out.up hb4
        clear hb4
        rw [HS.out.1, HS.out.2]
        go_wp2_with fail
        refine (runs_same _ _ (Bl.within 0 size l) _ HG4.out HF4.out.2).mono ?_
        rintro e w5 ⟨rfl, hb5⟩
        have HB5 : Hid (Below w.heap.size w w5) := HB4.out.trans (hb5.mono HB4.out.size)
        have HF5 : Hid (FieldsAt w5.heap.size w5 (.slice ao n cap) l ∧ FieldsAt w5.heap.size w5 r (Bl.within 0 size l)) := ⟨HF4.out.1.up hb5, HF4.out.2.up hb5⟩
        clear hb5
        have hcv := HCV.out.2 w5
        have HB6 : Hid (Below w.heap.size w (w5.alloc ob)) := HB5.out.alloc HB5.out.size _
        have HF6 : Hid (FieldsAt (w5.alloc ob).heap.size (w5.alloc ob) (.slice ao n cap) l ∧ FieldsAt (w5.alloc ob).heap.size (w5.alloc ob) r (Bl.within 0 size l)) := by
          have hb : Below w5.heap.size w5 (w5.alloc ob) := (Below.refl _ _).alloc (Nat.le_refl _) _
          exact ⟨HF5.out.1.up hb, HF5.out.2.up hb⟩
        go_wp2_with fail
        refine (End_any _ (Bl.within 0 size l) _ HF6.out.2 (ok_of_right HR.out.2)).mono ?_
        rintro e w7 ⟨rfl, hb7⟩
        have HB7 : Hid (Below w.heap.size w w7) := HB6.out.trans (hb7.mono HB6.out.size)
        have HF7 : Hid (FieldsAt w7.heap.size w7 (.slice ao n cap) l ∧ FieldsAt w7.heap.size w7 r (Bl.within 0 size l)) := ⟨HF6.out.1.up hb7, HF6.out.2.up hb7⟩
        clear hb7 hcv
        have hen := HEN.out
        generalize Bl.endOf (Bl.within 0 size l) = en at hen ⊢
        have hen' : ¬ size < en := by omega
        by_cases hf : size - 512 < 0
        · have hf' : size - 0 = size := by omega
          have HA : Hid (Bl.rOut (Bl.within 0 size l) 1048576 0 size = Bl.rOut l 1048576 0 size) := by
            show Bl.rOut (Bl.within 0 size l) 1048576 0 size = _
            rw [Bl.rOut_ok HR.out.2 (by omega), Bl.rOut_ok HR.out.1 (by omega), Bl.over_cut HR.out.1 (by omega)]
          go_wp2_with fail
          refine (read_any _ l 1048576 0 size _ HF7.out.1 HO.out).mono ?_
          rintro e w8 ⟨rfl, hb8⟩
          have HB8 : Hid (Below w.heap.size w w8) := HB7.out.trans (hb8.mono HB7.out.size)
          have HF8 : Hid (FieldsAt w8.heap.size w8 (.slice ao n cap) l ∧ FieldsAt w8.heap.size w8 r (Bl.within 0 size l)) := ⟨HF7.out.1.up hb8, HF7.out.2.up hb8⟩
          clear hb8
          go_wp2_with fail
          refine (read_any _ (Bl.within 0 size l) 1048576 0 size _ HF8.out.2 (ok_of_right HR.out.2)).mono ?_
          rintro e w9 ⟨rfl, hb9⟩
          have HB9 : Hid (Below w.heap.size w w9) := HB8.out.trans (hb9.mono HB8.out.size)
          have HF9 : Hid (FieldsAt w9.heap.size w9 (.slice ao n cap) l ∧ FieldsAt w9.heap.size w9 r (Bl.within 0 size l)) := ⟨HF8.out.1.up hb9, HF8.out.2.up hb9⟩
          clear hb9
          rw [HA.out]
          generalize Bl.rOut l 1048576 0 size = S1
          generalize Bl.rErr l 1048576 0 size = z1
          generalize Bl.rErr (Bl.within 0 size l) 1048576 0 size = z2
          go_wp2_with fail
          refine (five_any _).mono ?_
          rintro e w10 ⟨rfl, hb10⟩
          have HB10 : Hid (Below w.heap.size w w10) := HB9.out.trans (hb10.mono HB9.out.size)
          clear hb10
          go_wp2
          go_ret
          exact ⟨rfl, HB10.out⟩
        · have hf' : size - (size - 512) = 512 := by omega
          have HA : Hid (Bl.rOut (Bl.within 0 size l) 1048576 (size - 512) 512 = Bl.rOut l 1048576 (size - 512) 512) := by
            show Bl.rOut (Bl.within 0 size l) 1048576 (size - 512) 512 = _
            rw [Bl.rOut_ok HR.out.2 (by omega), Bl.rOut_ok HR.out.1 (by omega), Bl.over_cut HR.out.1 (by omega)]
          go_wp2_with fail
          refine (read_any _ l 1048576 (size - 512) 512 _ HF7.out.1 HO.out).mono ?_
          rintro e w8 ⟨rfl, hb8⟩
          have HB8 : Hid (Below w.heap.size w w8) := HB7.out.trans (hb8.mono HB7.out.size)
          have HF8 : Hid (FieldsAt w8.heap.size w8 (.slice ao n cap) l ∧ FieldsAt w8.heap.size w8 r (Bl.within 0 size l)) := ⟨HF7.out.1.up hb8, HF7.out.2.up hb8⟩
          clear hb8
          go_wp2_with fail
          refine (read_any _ (Bl.within 0 size l) 1048576 (size - 512) 512 _ HF8.out.2 (ok_of_right HR.out.2)).mono ?_
          rintro e w9 ⟨rfl, hb9⟩
          have HB9 : Hid (Below w.heap.size w w9) := HB8.out.trans (hb9.mono HB8.out.size)
          have HF9 : Hid (FieldsAt w9.heap.size w9 (.slice ao n cap) l ∧ FieldsAt w9.heap.size w9 r (Bl.within 0 size l)) := ⟨HF8.out.1.up hb9, HF8.out.2.up hb9⟩
          clear hb9
          rw [HA.out]
          generalize Bl.rOut l 1048576 (size - 512) 512 = S1
          generalize Bl.rErr l 1048576 (size - 512) 512 = z1
          generalize Bl.rErr (Bl.within 0 size l) 1048576 (size - 512) 512 = z2
          go_wp2_with fail
          refine (five_any _).mono ?_
          rintro e w10 ⟨rfl, hb10⟩
          have HB10 : Hid (Below w.heap.size w w10) := HB9.out.trans (hb10.mono HB9.out.size)
          clear hb10
          go_wp2
          go_ret
          exact ⟨rfl, HB10.out⟩
    · obtain ⟨y, hy⟩ : ∃ y, Bl.cErr l size = y := ⟨_, rfl⟩
      rw [hy] at he ⊢
      have he' : (y != 0) = true := by simpa using he
      clear hown hb2 hy he
      go_wp2_with fail
      refine (five_any _).mono ?_
      rintro e w3 ⟨rfl, hb3⟩
      have HB3 : Hid (Below w.heap.size w w3) := HB2.out.trans (hb3.mono HB2.out.size)
      clear hb3
      go_wp2
      go_ret
      exact ⟨rfl, HB3.out⟩

set_option maxRecDepth 100000 in
theorem blobGone_lifted (os : Os) (started : os.Started) (H : Type) (enc : TypeId × Value → H) :
    ReturnsInHanded {} Try.checked os 8 .any (Rows.blobGoneSpec.pre6 enc Try.prog Try.f8 Rows.blobGoneRow.domain false) (Rows.blobGoneSpec.post enc Try.prog Try.f8 false true false false) := by
  refine returnsInHanded_of_change (C := Try.checked) own started (by kernel_rfl) Try.func8
    (ChangeSpec.witness6 (enc := enc) (C := Try.checked) false ⟨#[], #[.slice none 0 0, .int .i64 0], []⟩ 8 (by kernel_rfl) (by kernel_rfl) (by kernel_rfl) (by kernel_rfl)) ?_
  intro W base args ds gs before hval0 hW hcnd _
  have hval : ∀ (j : Nat) t v, Try.f8.params[j]? = some t → args[j]? = some v → Value.okWide Try.prog W .any base t v := hval0
  have hW' := hW
  have hlt : ∀ x ∈ before, x.block < W.heap.size := fun x hx => by simpa using hW'.lt x hx
  obtain ⟨p, q, hA0, hV, rfl, hfz, hnd⟩ := hW
  have hA : DataW.TrodAll enc Try.prog W 0 (fun _ => true) true Try.f8.params.toList args.toList ds p := hA0
  rw [Try.params8] at hA hval
  obtain ⟨v0, v1, d0, d1, p0, p1, rfl, rfl, rfl, h0, h1⟩ := trodAll_two hA
  obtain ⟨rfl, rfl⟩ := trodVars_none hV
  obtain ⟨l, sp, hF, hok, _⟩ := open_fields Try.underlying22 Try.underlying24 (by kernel_rfl) rfl rfl (by kernel_rfl) (by kernel_rfl) Try.underlying3 Try.underlying9 (okWide_slice Try.underlying22 (hval 0 22 v0 rfl rfl)) (fun x hx => hlt x (by simp [hx])) h0
  obtain ⟨a1, rfl, rfl, rfl, w1⟩ := open_int Try.underlying3 (hval 1 3 v1 rfl rfl) h1
  refine (gone_law v0 l a1 W hF hok).mono fun e W' ⟨he, hg⟩ => ⟨_, he, ?_⟩
  exact Law.post laidOut (by kernel_rfl) rfl Try.underlying4 hW' rfl rfl hg

theorem blobGone_holds : Rows.BlobGoneSaid :=
  OpenClaim.holds_of_wide 8 Try.f8 rfl rfl rfl rfl rfl rfl rfl ⟨rfl, rfl, rfl, rfl, rfl⟩ rfl rfl rfl rfl rfl (by kernel_rfl) Try.func8 (by kernel_rfl)
    (of_decide_eq_true (by kernel_rfl)) (by unfold Func.isWrapper; first | (rw [if_pos (by decide +kernel)]; kernel_rfl) | (rw [if_neg (by decide +kernel)]; exact ⟨rfl, rfl⟩))
    (fun os started H enc _ => blobGone_lifted os started H enc)
#print axioms blobGone_holds
end Go.Proofs.Ytkkaendfcfkbbaa
