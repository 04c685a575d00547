/-
  For any attributes and any ints n and stamp sextonlaw07.AttrStamps returns true, whatever the memory: no stamp falls, and a change leaves all else as it was. No condition.
-/
import Derived.Test.YtdbfhhkbjlednaaRows
import Derived.Test.YtdbfhhkbjlednaaLaw
import Derived.Test.YtdbfhhkbjlednaaGrow
import Derived.Test.YtdbfhhkbjlednaaLink
import Derived.Test.YtdbfhhkbjlednaaUnp
import Derived.Lib.SmallJoins
namespace Go.Proofs.Ytdbfhhkbjlednaa
open Go.ChangeShapes Go.WideShapes Go.ChangeAt Go.RowKit Go.Deep
open Go.ChangeMaps (open_string)

theorem At.grow_ok {k l s t n st : Int} (h : At.growErr k l s t n st = 0) : At.growOut k l s t n st = VA k l n st ∧ t ≤ st := by
  refine ⟨by unfold At.growOut; rw [if_pos h], ?_⟩
  unfold At.growErr at h
  split at h
  · split at h
    · rename_i hw; exact hw.1
    · cases h
  · cases h
theorem At.grow_bad {k l s t n st : Int} (h : ¬ At.growErr k l s t n st = 0) : At.growOut k l s t n st = VA 0 0 0 0 := by unfold At.growOut; rw [if_neg h]
theorem At.link_ok {k l s t n st : Int} (h : At.linkErr k l s t n st = 0) : At.linkOut k l s t n st = VA k (l + n) s st ∧ t ≤ st ∧ 0 ≤ l + n ∧ l + n ≤ 64 := by
  refine ⟨by unfold At.linkOut; rw [if_pos h], ?_⟩
  unfold At.linkErr at h
  split at h
  · split at h
    · rename_i hw
      split at h
      · split at h
        · cases h
        · split at h
          · cases h
          · exact ⟨hw.2.1, by omega, by omega⟩
      · cases h
    · cases h
  · cases h
theorem At.link_bad {k l s t n st : Int} (h : ¬ At.linkErr k l s t n st = 0) : At.linkOut k l s t n st = VA 0 0 0 0 := by unfold At.linkOut; rw [if_neg h]

set_option maxHeartbeats 4000000 in
theorem stamps_any (k l s t n st : Int) (w : World) : Calls Try.prog 7 #[VA k l s t, .int .i64 n, .int .i64 st] w fun e w' => e = .returned (.bool true) ∧ Below w.heap.size w w' := by
  by_cases hg : At.growErr k l s t n st = 0
  · obtain ⟨hgo, hts⟩ := At.grow_ok hg
    have HG : Hid (At.growOut k l s t n st = VA k l n st ∧ At.growErr k l s t n st = 0) := ⟨hgo, hg⟩
    have hts' : ¬ st < t := by omega
    clear hg hgo
    by_cases hl : At.linkErr k l s t n st = 0
    · obtain ⟨hlo, _, hl0, hl1⟩ := At.link_ok hl
      have HL : Hid (At.linkOut k l s t n st = VA k (l + n) s st ∧ At.linkErr k l s t n st = 0) := ⟨hlo, hl⟩
      clear hl hlo
      go_enter Try.func7, Try.ntmps7
      go_wp2_with fail
      refine (grow_any k l s t n st _).mono ?_
      rintro e w1 ⟨rfl, hb1⟩
      rw [HG.out.1, HG.out.2]
      have hs1 : w.heap.size < w1.heap.size := by have := hb1.size; simp at this; omega
      obtain ⟨c0, c1, c2, c3⟩ := four_of (four_below (four_cells w k l s t) hb1 (by simp))
      have HX : Hid (w1.heap[w.heap.size]? = some (BA k l s t)) := four_below (four_cells w k l s t) hb1 (by simp)
      have HB1 : Hid (Below w.heap.size w w1) := ((Below.refl _ _).alloc (Nat.le_refl _) _).trans (hb1.mono (by simp))
      clear hb1
      go_wp2_with fail
      refine (link_any k l s t n st _).mono ?_
      rintro e w2 ⟨rfl, hb2⟩
      rw [HL.out.1, HL.out.2]
      have hs2 : w1.heap.size < w2.heap.size := by have := hb2.size; simp at this; omega
      have hs3 : w.heap.size < w2.heap.size := by omega
      obtain ⟨f0, f1, f2, f3⟩ := four_of (four_below (four_cells w1 k l n st) hb2 (by simp))
      obtain ⟨g0, g1, g2, g3⟩ := four_of (four_below ((Below.heap_alloc w1 _ _ hs1).trans HX.out) hb2 (by simp; omega))
      have HB2 : Hid (Below w.heap.size w w2) := (HB1.out.alloc HB1.out.size _).trans (hb2.mono (by have := HB1.out.size; simp; omega))
      clear hb2 c0 c1 c2 c3
      go_wp2_with fail
      refine (one_any _).mono ?_
      rintro e w3 ⟨rfl, hb3⟩
      have HB3 : Hid (Below w.heap.size w w3) := (HB2.out.alloc HB2.out.size _).trans (hb3.mono (by have := HB2.out.size; simp; omega))
      clear hb3
      go_wp2
      go_ret
      exact ⟨rfl, HB3.out⟩
    · obtain ⟨z, hz⟩ : ∃ z, At.linkErr k l s t n st = z := ⟨_, rfl⟩
      have HL : Hid (At.linkOut k l s t n st = VA 0 0 0 0 ∧ At.linkErr k l s t n st = z) := ⟨At.link_bad hl, hz⟩
      rw [hz] at hl
      have hz0 : (z == 0) = false := beq_eq_false_iff_ne.2 hl
      clear hz hl
      go_enter Try.func7, Try.ntmps7
      go_wp2_with fail
      refine (grow_any k l s t n st _).mono ?_
      rintro e w1 ⟨rfl, hb1⟩
      rw [HG.out.1, HG.out.2]
      have hs1 : w.heap.size < w1.heap.size := by have := hb1.size; simp at this; omega
      obtain ⟨c0, c1, c2, c3⟩ := four_of (four_below (four_cells w k l s t) hb1 (by simp))
      have HX : Hid (w1.heap[w.heap.size]? = some (BA k l s t)) := four_below (four_cells w k l s t) hb1 (by simp)
      have HB1 : Hid (Below w.heap.size w w1) := ((Below.refl _ _).alloc (Nat.le_refl _) _).trans (hb1.mono (by simp))
      clear hb1
      go_wp2_with fail
      refine (link_any k l s t n st _).mono ?_
      rintro e w2 ⟨rfl, hb2⟩
      rw [HL.out.1, HL.out.2]
      have hs2 : w1.heap.size < w2.heap.size := by have := hb2.size; simp at this; omega
      have hs3 : w.heap.size < w2.heap.size := by omega
      obtain ⟨f0, f1, f2, f3⟩ := four_of (four_below (four_cells w1 k l n st) hb2 (by simp))
      obtain ⟨g0, g1, g2, g3⟩ := four_of (four_below ((Below.heap_alloc w1 _ _ hs1).trans HX.out) hb2 (by simp; omega))
      have HB2 : Hid (Below w.heap.size w w2) := (HB1.out.alloc HB1.out.size _).trans (hb2.mono (by have := HB1.out.size; simp; omega))
      clear hb2 c0 c1 c2 c3
      go_wp2_with fail
      refine (one_any _).mono ?_
      rintro e w3 ⟨rfl, hb3⟩
      have HB3 : Hid (Below w.heap.size w w3) := (HB2.out.alloc HB2.out.size _).trans (hb3.mono (by have := HB2.out.size; simp; omega))
      clear hb3
      go_wp2
      go_ret
      exact ⟨rfl, HB3.out⟩
  · obtain ⟨y, hy⟩ : ∃ y, At.growErr k l s t n st = y := ⟨_, rfl⟩
    have HG : Hid (At.growOut k l s t n st = VA 0 0 0 0 ∧ At.growErr k l s t n st = y) := ⟨At.grow_bad hg, hy⟩
    rw [hy] at hg
    have hy0 : (y == 0) = false := beq_eq_false_iff_ne.2 hg
    clear hy hg
    by_cases hl : At.linkErr k l s t n st = 0
    · obtain ⟨hlo, hts, hl0, hl1⟩ := At.link_ok hl
      have HL : Hid (At.linkOut k l s t n st = VA k (l + n) s st ∧ At.linkErr k l s t n st = 0) := ⟨hlo, hl⟩
      have hts' : ¬ st < t := by omega
      clear hl hlo
      go_enter Try.func7, Try.ntmps7
      go_wp2_with fail
      refine (grow_any k l s t n st _).mono ?_
      rintro e w1 ⟨rfl, hb1⟩
      rw [HG.out.1, HG.out.2]
      have hs1 : w.heap.size < w1.heap.size := by have := hb1.size; simp at this; omega
      obtain ⟨c0, c1, c2, c3⟩ := four_of (four_below (four_cells w k l s t) hb1 (by simp))
      have HX : Hid (w1.heap[w.heap.size]? = some (BA k l s t)) := four_below (four_cells w k l s t) hb1 (by simp)
      have HB1 : Hid (Below w.heap.size w w1) := ((Below.refl _ _).alloc (Nat.le_refl _) _).trans (hb1.mono (by simp))
      clear hb1
      go_wp2_with fail
      refine (link_any k l s t n st _).mono ?_
      rintro e w2 ⟨rfl, hb2⟩
      rw [HL.out.1, HL.out.2]
      have hs2 : w1.heap.size < w2.heap.size := by have := hb2.size; simp at this; omega
      have hs3 : w.heap.size < w2.heap.size := by omega
      obtain ⟨f0, f1, f2, f3⟩ := four_of (four_below (four_cells w1 0 0 0 0) hb2 (by simp))
      obtain ⟨g0, g1, g2, g3⟩ := four_of (four_below ((Below.heap_alloc w1 _ _ hs1).trans HX.out) hb2 (by simp; omega))
      have HB2 : Hid (Below w.heap.size w w2) := (HB1.out.alloc HB1.out.size _).trans (hb2.mono (by have := HB1.out.size; simp; omega))
      clear hb2 c0 c1 c2 c3
      go_wp2_with fail
      refine (one_any _).mono ?_
      rintro e w3 ⟨rfl, hb3⟩
      have HB3 : Hid (Below w.heap.size w w3) := (HB2.out.alloc HB2.out.size _).trans (hb3.mono (by have := HB2.out.size; simp; omega))
      clear hb3
      go_wp2
      go_ret
      exact ⟨rfl, HB3.out⟩
    · obtain ⟨z, hz⟩ : ∃ z, At.linkErr k l s t n st = z := ⟨_, rfl⟩
      have HL : Hid (At.linkOut k l s t n st = VA 0 0 0 0 ∧ At.linkErr k l s t n st = z) := ⟨At.link_bad hl, hz⟩
      rw [hz] at hl
      have hz0 : (z == 0) = false := beq_eq_false_iff_ne.2 hl
      clear hz hl
      go_enter Try.func7, Try.ntmps7
      go_wp2_with fail
      refine (grow_any k l s t n st _).mono ?_
      rintro e w1 ⟨rfl, hb1⟩
      rw [HG.out.1, HG.out.2]
      have hs1 : w.heap.size < w1.heap.size := by have := hb1.size; simp at this; omega
      obtain ⟨c0, c1, c2, c3⟩ := four_of (four_below (four_cells w k l s t) hb1 (by simp))
      have HX : Hid (w1.heap[w.heap.size]? = some (BA k l s t)) := four_below (four_cells w k l s t) hb1 (by simp)
      have HB1 : Hid (Below w.heap.size w w1) := ((Below.refl _ _).alloc (Nat.le_refl _) _).trans (hb1.mono (by simp))
      clear hb1
      go_wp2_with fail
      refine (link_any k l s t n st _).mono ?_
      rintro e w2 ⟨rfl, hb2⟩
      rw [HL.out.1, HL.out.2]
      have hs2 : w1.heap.size < w2.heap.size := by have := hb2.size; simp at this; omega
      have hs3 : w.heap.size < w2.heap.size := by omega
      obtain ⟨f0, f1, f2, f3⟩ := four_of (four_below (four_cells w1 0 0 0 0) hb2 (by simp))
      obtain ⟨g0, g1, g2, g3⟩ := four_of (four_below ((Below.heap_alloc w1 _ _ hs1).trans HX.out) hb2 (by simp; omega))
      have HB2 : Hid (Below w.heap.size w w2) := (HB1.out.alloc HB1.out.size _).trans (hb2.mono (by have := HB1.out.size; simp; omega))
      clear hb2 c0 c1 c2 c3
      go_wp2_with fail
      refine (one_any _).mono ?_
      rintro e w3 ⟨rfl, hb3⟩
      have HB3 : Hid (Below w.heap.size w w3) := (HB2.out.alloc HB2.out.size _).trans (hb3.mono (by have := HB2.out.size; simp; omega))
      clear hb3
      go_wp2
      go_ret
      exact ⟨rfl, HB3.out⟩

set_option maxRecDepth 100000 in
theorem attrStamps_lifted (os : Os) (started : os.Started) (H : Type) (enc : TypeId × Value → H) :
    ReturnsInHanded {} Try.checked os 7 .any (Rows.attrStampsSpec.pre6 enc Try.prog Try.f7 Rows.attrStampsRow.domain false) (Rows.attrStampsSpec.post enc Try.prog Try.f7 false true false false) := by
  refine returnsInHanded_of_change (C := Try.checked) own started (by kernel_rfl) Try.func7
    (ChangeSpec.witness6 (enc := enc) (C := Try.checked) false ⟨#[], #[.agg #[.int .i64 0, .int .i64 0, .int .i64 0, .int .i64 0], .int .i64 0, .int .i64 0], []⟩ 8 (by kernel_rfl) (by kernel_rfl) (by kernel_rfl) (by kernel_rfl)) ?_
  intro W base args ds gs before hval0 hW hcnd _
  have hval : ∀ (j : Nat) t v, Try.f7.params[j]? = some t → args[j]? = some v → Value.okWide Try.prog W .any base t v := hval0
  have hW' := hW
  obtain ⟨p, q, hA0, hV, rfl, hfz, hnd⟩ := hW
  have hA : DataW.TrodAll enc Try.prog W 0 (fun _ => true) true Try.f7.params.toList args.toList ds p := hA0
  rw [Try.params7] at hA hval
  obtain ⟨v0, v1, v2, d0, d1, d2, p0, p1, p2, rfl, rfl, rfl, h0, h1, h2⟩ := trodAll_three hA
  obtain ⟨rfl, rfl⟩ := trodVars_none hV
  obtain ⟨c0, c1, c2, c3, y0, y1, y2, y3, m, rfl, rfl, rfl, g0, g1, g2, g3⟩ := Joins.open_agg4 Try.underlying23 (by kernel_rfl) (by kernel_rfl) (hval 0 23 v0 rfl rfl) h0
  obtain ⟨k, e0, _, w0⟩ := DataW.trod_int Try.underlying3 g0
  obtain ⟨l, e1, _, w1⟩ := DataW.trod_int Try.underlying3 g1
  obtain ⟨s, e2, _, w2⟩ := DataW.trod_int Try.underlying3 g2
  obtain ⟨t, e3, _, w3⟩ := DataW.trod_int Try.underlying3 g3
  simp only [List.cons.injEq, and_true] at e0 e1 e2 e3
  subst e0
  subst e1
  subst e2
  subst e3
  obtain ⟨n, rfl, rfl, rfl, wn⟩ := open_int Try.underlying3 (hval 1 3 v1 rfl rfl) h1
  obtain ⟨st, rfl, rfl, rfl, ws⟩ := open_int Try.underlying3 (hval 2 3 v2 rfl rfl) h2
  refine (stamps_any k l s t n st W).mono fun e W' ⟨he, hg⟩ => ⟨_, he, ?_⟩
  exact Law.post laidOut (by kernel_rfl) rfl Try.underlying4 hW' rfl rfl hg

theorem attrStamps_holds : Rows.AttrStampsSaid :=
  OpenClaim.holds_of_wide 7 Try.f7 rfl rfl rfl rfl rfl rfl rfl ⟨rfl, rfl, rfl, rfl, rfl⟩ rfl rfl rfl rfl rfl (by kernel_rfl) Try.func7 (by kernel_rfl)
    (of_decide_eq_true (by kernel_rfl)) (by unfold Func.isWrapper; first | (rw [if_pos (by decide +kernel)]; kernel_rfl) | (rw [if_neg (by decide +kernel)]; exact ⟨rfl, rfl⟩))
    (fun os started H enc _ => attrStamps_lifted os started H enc)
#print axioms attrStamps_holds
end Go.Proofs.Ytdbfhhkbjlednaa
