/-
  For any attributes sextonlaw07.AttrBack returns true, whatever the memory: what was packed is unpacked; a link more and one less is as it was, but for the stamp. No condition.
-/
import Derived.Test.YtdbfhhkbjlednaaRows
import Derived.Test.YtdbfhhkbjlednaaLaw
import Derived.Test.YtdbfhhkbjlednaaLink
import Derived.Test.YtdbfhhkbjlednaaPlainC
import Derived.Lib.SmallJoins
namespace Go.Proofs.Ytdbfhhkbjlednaa
open Go.ChangeShapes Go.WideShapes Go.ChangeAt Go.RowKit Go.Deep
open Go.ChangeMaps (open_string)

theorem At.link_up {k l s t : Int} (h : At.right k l s t = true) : At.linkErr k l s t 1 1099511627776 = if k = 1 then if l = 64 then 5 else 0 else 7 := by
  have hp := At.right_iff.1 h
  unfold At.rightP at hp
  unfold At.linkErr
  rw [if_pos h, if_pos ⟨.inl rfl, by omega, by omega⟩]
  by_cases hk : k = 1
  · rw [if_pos hk, if_pos hk]
    by_cases hl : l = 64
    · rw [if_pos hl, if_pos (by omega)]
    · rw [if_neg hl, if_neg (by omega), if_neg (by omega)]
  · rw [if_neg hk, if_neg hk]
theorem At.link_down {l s : Int} (h0 : 0 ≤ l) (h1 : l < 64) (h2 : 0 ≤ s ∧ s ≤ 1048576) : At.linkErr 1 (l + 1) s 1099511627776 (-1) 1099511627776 = 0 ∧ At.linkOut 1 (l + 1) s 1099511627776 (-1) 1099511627776 = VA 1 l s 1099511627776 := by
  have hr : At.right 1 (l + 1) s 1099511627776 = true := At.right_iff.2 (.inr ⟨h2, by decide, .inl ⟨rfl, by omega, by omega⟩⟩)
  have he : At.linkErr 1 (l + 1) s 1099511627776 (-1) 1099511627776 = 0 := by
    unfold At.linkErr
    rw [if_pos hr, if_pos ⟨.inr rfl, by decide, by decide⟩, if_pos rfl, if_neg (by omega), if_neg (by omega)]
  refine ⟨he, ?_⟩
  unfold At.linkOut
  rw [if_pos he, show l + 1 + -1 = l from by omega]

set_option maxHeartbeats 4000000 in
theorem back_any (k l s t : Int) (w : World) (hs : s ≤ 9223372036854775807) (ht : t ≤ 9223372036854775807) (hk : k ≤ 9223372036854775807) (hl : l ≤ 9223372036854775807) :
    Calls Try.prog 6 #[VA k l s t] w fun e w' => e = .returned (.bool true) ∧ Below w.heap.size w w' := by
  by_cases hr : At.right k l s t = true
  · obtain ⟨b1, b2, b3⟩ := At.back hr
    have HP : Hid (At.packErr k l s t = 0 ∧ At.unpErr (At.packOut k l s t) = 0 ∧ At.unpOut (At.packOut k l s t) = VA k l s t) := ⟨by simp [At.packErr, hr], b2, b3⟩
    have hlu := At.link_up hr
    have hp := At.right_iff.1 hr
    unfold At.rightP at hp
    clear b2 b3
    obtain ⟨S, hS⟩ : ∃ S, At.packOut k l s t = S := ⟨_, rfl⟩
    have HS : Hid (At.packOut k l s t = S) := hS
    rw [hS] at HP b1
    clear hS hr
    by_cases k1 : k = 1
    · by_cases l1 : l = 64
      · have HL : Hid (At.linkOut k l s t 1 1099511627776 = VA 0 0 0 0 ∧ At.linkErr k l s t 1 1099511627776 = 5) := by
          rw [if_pos k1, if_pos l1] at hlu
          exact ⟨by unfold At.linkOut; rw [hlu]; rfl, hlu⟩
        subst k1
        subst l1
        clear hlu hp
        go_enter Try.func6, Try.ntmps6
        go_wp2_with fail
        refine (pack_any 1 64 s t _ hs ht hk hl).mono ?_
        rintro e w1 ⟨rfl, hb1⟩
        rw [HS.out, HP.out.1]
        have hs1 : w.heap.size < w1.heap.size := by have := hb1.size; simp at this; omega
        have HX1 : Hid (w1.heap[w.heap.size]? = some (BA 1 64 s t)) := four_below (four_cells w 1 64 s t) hb1 (by simp)
        obtain ⟨c0, c1, c2, c3⟩ := four_of HX1.out
        have HB1 : Hid (Below w.heap.size w w1) := ((Below.refl _ _).alloc (Nat.le_refl _) _).trans (hb1.mono (by simp))
        clear hb1
        go_wp2_with fail
        refine (unpack_any S _).mono ?_
        rintro e w2 ⟨rfl, hb2⟩
        rw [HP.out.2.1, HP.out.2.2]
        have hs2 : w.heap.size < w2.heap.size := by have := hb2.size; omega
        have HX2 : Hid (w2.heap[w.heap.size]? = some (BA 1 64 s t)) := four_below HX1.out hb2 hs1
        have HB2 : Hid (Below w.heap.size w w2) := HB1.out.trans (hb2.mono HB1.out.size)
        clear hb2 c0 c1 c2 c3
        obtain ⟨c0, c1, c2, c3⟩ := four_of HX2.out
        go_wp2_with fail
        refine (link_any 1 64 s t 1 1099511627776 _).mono ?_
        rintro e w3 ⟨rfl, hb3⟩
        have hs3 : w.heap.size < w3.heap.size := by have := hb3.size; simp at this; omega
        have HX3 : Hid (w3.heap[w.heap.size]? = some (BA 1 64 s t)) := four_below ((Below.heap_alloc w2 _ _ hs2).trans HX2.out) hb3 (by simp; omega)
        have HB3 : Hid (Below w.heap.size w w3) := (HB2.out.alloc HB2.out.size _).trans (hb3.mono (by have := HB2.out.size; simp; omega))
        clear hb3 c0 c1 c2 c3
        obtain ⟨c0, c1, c2, c3⟩ := four_of HX3.out
        rw [HL.out.1, HL.out.2]
        go_wp2_with fail
        refine (one_any _).mono ?_
        rintro e w4 ⟨rfl, hb4⟩
        have HB4 : Hid (Below w.heap.size w w4) := (HB3.out.alloc HB3.out.size _).trans (hb4.mono (by have := HB3.out.size; simp; omega))
        clear hb4
        go_wp2
        go_ret
        exact ⟨rfl, HB4.out⟩
      · have HL : Hid (At.linkOut k l s t 1 1099511627776 = VA k (l + 1) s 1099511627776 ∧ At.linkErr k l s t 1 1099511627776 = 0) := by
          rw [if_pos k1, if_neg l1] at hlu
          exact ⟨by unfold At.linkOut; rw [hlu]; rfl, hlu⟩
        have HD : Hid (At.linkErr 1 (l + 1) s 1099511627776 (-1) 1099511627776 = 0 ∧ At.linkOut 1 (l + 1) s 1099511627776 (-1) 1099511627776 = VA 1 l s 1099511627776) := At.link_down (by omega) (by omega) (by omega)
        have hl0 : 0 ≤ l := by omega
        have hl1 : l < 64 := by omega
        subst k1
        clear hlu hp l1
        go_enter Try.func6, Try.ntmps6
        go_wp2_with fail
        refine (pack_any 1 l s t _ hs ht hk hl).mono ?_
        rintro e w1 ⟨rfl, hb1⟩
        rw [HS.out, HP.out.1]
        have hs1 : w.heap.size < w1.heap.size := by have := hb1.size; simp at this; omega
        have HX1 : Hid (w1.heap[w.heap.size]? = some (BA 1 l s t)) := four_below (four_cells w 1 l s t) hb1 (by simp)
        obtain ⟨c0, c1, c2, c3⟩ := four_of HX1.out
        have HB1 : Hid (Below w.heap.size w w1) := ((Below.refl _ _).alloc (Nat.le_refl _) _).trans (hb1.mono (by simp))
        clear hb1
        go_wp2_with fail
        refine (unpack_any S _).mono ?_
        rintro e w2 ⟨rfl, hb2⟩
        rw [HP.out.2.1, HP.out.2.2]
        have hs2 : w.heap.size < w2.heap.size := by have := hb2.size; omega
        have HX2 : Hid (w2.heap[w.heap.size]? = some (BA 1 l s t)) := four_below HX1.out hb2 hs1
        have HB2 : Hid (Below w.heap.size w w2) := HB1.out.trans (hb2.mono HB1.out.size)
        clear hb2 c0 c1 c2 c3
        obtain ⟨c0, c1, c2, c3⟩ := four_of HX2.out
        go_wp2_with fail
        refine (link_any 1 l s t 1 1099511627776 _).mono ?_
        rintro e w3 ⟨rfl, hb3⟩
        have hs3 : w.heap.size < w3.heap.size := by have := hb3.size; simp at this; omega
        have HX3 : Hid (w3.heap[w.heap.size]? = some (BA 1 l s t)) := four_below ((Below.heap_alloc w2 _ _ hs2).trans HX2.out) hb3 (by simp; omega)
        have HB3 : Hid (Below w.heap.size w w3) := (HB2.out.alloc HB2.out.size _).trans (hb3.mono (by have := HB2.out.size; simp; omega))
        clear hb3 c0 c1 c2 c3
        obtain ⟨c0, c1, c2, c3⟩ := four_of HX3.out
        rw [HL.out.1, HL.out.2]
        go_wp2_with fail
        refine (link_any 1 (l + 1) s 1099511627776 (-1) 1099511627776 _).mono ?_
        rintro e w4 ⟨rfl, hb4⟩
        rw [HD.out.1, HD.out.2]
        have hs4 : w3.heap.size < w4.heap.size := by have := hb4.size; simp at this; omega
        have hs5 : w.heap.size < w4.heap.size := by omega
        have HB4 : Hid (Below w.heap.size w w4) := (HB3.out.alloc HB3.out.size _).trans (hb4.mono (by have := HB3.out.size; simp; omega))
        obtain ⟨f0, f1, f2, f3⟩ := four_of (four_below (four_cells w3 1 (l + 1) s 1099511627776) hb4 (by simp))
        obtain ⟨g0, g1, g2, g3⟩ := four_of (four_below ((Below.heap_alloc w3 _ _ hs3).trans HX3.out) hb4 (by simp; omega))
        clear hb4 c0 c1 c2 c3
        go_wp2_with fail
        refine (one_any _).mono ?_
        rintro e w5 ⟨rfl, hb5⟩
        have HB5 : Hid (Below w.heap.size w w5) := (HB4.out.alloc HB4.out.size _).trans (hb5.mono (by have := HB4.out.size; simp; omega))
        clear hb5
        go_wp2
        go_ret
        exact ⟨rfl, HB5.out⟩
    · have HL : Hid (At.linkOut k l s t 1 1099511627776 = VA 0 0 0 0 ∧ At.linkErr k l s t 1 1099511627776 = 7) := by
        rw [if_neg k1] at hlu
        exact ⟨by unfold At.linkOut; rw [hlu]; rfl, hlu⟩
      have k1' : (k != 1) = true := by simpa using k1
      clear hlu hp k1
      go_enter Try.func6, Try.ntmps6
      go_wp2_with fail
      refine (pack_any k l s t _ hs ht hk hl).mono ?_
      rintro e w1 ⟨rfl, hb1⟩
      rw [HS.out, HP.out.1]
      have hs1 : w.heap.size < w1.heap.size := by have := hb1.size; simp at this; omega
      have HX1 : Hid (w1.heap[w.heap.size]? = some (BA k l s t)) := four_below (four_cells w k l s t) hb1 (by simp)
      obtain ⟨c0, c1, c2, c3⟩ := four_of HX1.out
      have HB1 : Hid (Below w.heap.size w w1) := ((Below.refl _ _).alloc (Nat.le_refl _) _).trans (hb1.mono (by simp))
      clear hb1
      go_wp2_with fail
      refine (unpack_any S _).mono ?_
      rintro e w2 ⟨rfl, hb2⟩
      rw [HP.out.2.1, HP.out.2.2]
      have hs2 : w.heap.size < w2.heap.size := by have := hb2.size; omega
      have HX2 : Hid (w2.heap[w.heap.size]? = some (BA k l s t)) := four_below HX1.out hb2 hs1
      have HB2 : Hid (Below w.heap.size w w2) := HB1.out.trans (hb2.mono HB1.out.size)
      clear hb2 c0 c1 c2 c3
      obtain ⟨c0, c1, c2, c3⟩ := four_of HX2.out
      go_wp2_with fail
      refine (link_any k l s t 1 1099511627776 _).mono ?_
      rintro e w3 ⟨rfl, hb3⟩
      have hs3 : w.heap.size < w3.heap.size := by have := hb3.size; simp at this; omega
      have HX3 : Hid (w3.heap[w.heap.size]? = some (BA k l s t)) := four_below ((Below.heap_alloc w2 _ _ hs2).trans HX2.out) hb3 (by simp; omega)
      have HB3 : Hid (Below w.heap.size w w3) := (HB2.out.alloc HB2.out.size _).trans (hb3.mono (by have := HB2.out.size; simp; omega))
      clear hb3 c0 c1 c2 c3
      obtain ⟨c0, c1, c2, c3⟩ := four_of HX3.out
      rw [HL.out.1, HL.out.2]
      go_wp2_with fail
      refine (one_any _).mono ?_
      rintro e w4 ⟨rfl, hb4⟩
      have HB4 : Hid (Below w.heap.size w w4) := (HB3.out.alloc HB3.out.size _).trans (hb4.mono (by have := HB3.out.size; simp; omega))
      clear hb4
      go_wp2
      go_ret
      exact ⟨rfl, HB4.out⟩
  · have hr' : At.right k l s t = false := by simpa using hr
    have HP : Hid (At.packOut k l s t = ⟨#[]⟩ ∧ At.packErr k l s t = 70) := ⟨by simp [At.packOut, hr'], by simp [At.packErr, hr']⟩
    clear hr hr'
    go_enter Try.func6, Try.ntmps6
    go_wp2_with fail
    refine (pack_any k l s t _ hs ht hk hl).mono ?_
    rintro e w1 ⟨rfl, hb1⟩
    rw [HP.out.1, HP.out.2]
    have HB1 : Hid (Below w.heap.size w w1) := ((Below.refl _ _).alloc (Nat.le_refl _) _).trans (hb1.mono (by simp))
    clear hb1
    go_wp2_with fail
    refine (one_any _).mono ?_
    rintro e w2 ⟨rfl, hb2⟩
    have HB2 : Hid (Below w.heap.size w w2) := HB1.out.trans (hb2.mono HB1.out.size)
    clear hb2
    go_wp2
    go_ret
    exact ⟨rfl, HB2.out⟩

set_option maxRecDepth 100000 in
theorem attrBack_lifted (os : Os) (started : os.Started) (H : Type) (enc : TypeId × Value → H) :
    ReturnsInHanded {} Try.checked os 6 .any (Rows.attrBackSpec.pre6 enc Try.prog Try.f6 Rows.attrBackRow.domain false) (Rows.attrBackSpec.post enc Try.prog Try.f6 false true false false) := by
  refine returnsInHanded_of_change (C := Try.checked) own started (by kernel_rfl) Try.func6
    (ChangeSpec.witness6 (enc := enc) (C := Try.checked) false ⟨#[], #[.agg #[.int .i64 0, .int .i64 0, .int .i64 0, .int .i64 0]], []⟩ 8 (by kernel_rfl) (by kernel_rfl) (by kernel_rfl) (by kernel_rfl)) ?_
  intro W base args ds gs before hval0 hW hcnd _
  have hval : ∀ (j : Nat) t v, Try.f6.params[j]? = some t → args[j]? = some v → Value.okWide Try.prog W .any base t v := hval0
  have hW' := hW
  obtain ⟨p, q, hA0, hV, rfl, hfz, hnd⟩ := hW
  have hA : DataW.TrodAll enc Try.prog W 0 (fun _ => true) true Try.f6.params.toList args.toList ds p := hA0
  rw [Try.params6] at hA hval
  obtain ⟨v0, d0, rfl, rfl, h0⟩ := trodAll_one hA
  obtain ⟨rfl, rfl⟩ := trodVars_none hV
  obtain ⟨c0, c1, c2, c3, y0, y1, y2, y3, m, rfl, rfl, rfl, g0, g1, g2, g3⟩ := Joins.open_agg4 Try.underlying23 (by kernel_rfl) (by kernel_rfl) (hval 0 23 v0 rfl rfl) h0
  obtain ⟨k, e0, _, w0⟩ := DataW.trod_int Try.underlying3 g0
  obtain ⟨l, e1, _, w1⟩ := DataW.trod_int Try.underlying3 g1
  obtain ⟨s, e2, _, w2⟩ := DataW.trod_int Try.underlying3 g2
  obtain ⟨t, e3, _, w3⟩ := DataW.trod_int Try.underlying3 g3
  simp only [List.cons.injEq, and_true] at e0 e1 e2 e3
  subst e0
  subst e1
  subst e2
  subst e3
  refine (back_any k l s t W (i64_le w2).2 (i64_le w3).2 (i64_le w0).2 (i64_le w1).2).mono fun e W' ⟨he, hg⟩ => ⟨_, he, ?_⟩
  exact Law.post laidOut (by kernel_rfl) rfl Try.underlying4 hW' rfl rfl hg

theorem attrBack_holds : Rows.AttrBackSaid :=
  OpenClaim.holds_of_wide 6 Try.f6 rfl rfl rfl rfl rfl rfl rfl ⟨rfl, rfl, rfl, rfl, rfl⟩ rfl rfl rfl rfl rfl (by kernel_rfl) Try.func6 (by kernel_rfl)
    (of_decide_eq_true (by kernel_rfl)) (by unfold Func.isWrapper; first | (rw [if_pos (by decide +kernel)]; kernel_rfl) | (rw [if_neg (by decide +kernel)]; exact ⟨rfl, rfl⟩))
    (fun os started H enc _ => attrBack_lifted os started H enc)
#print axioms attrBack_holds
end Go.Proofs.Ytdbfhhkbjlednaa
