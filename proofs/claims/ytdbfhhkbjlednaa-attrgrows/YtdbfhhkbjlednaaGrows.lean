/-
  For any attributes and any ints size and stamp sextonlaw07.AttrGrows returns true, whatever the memory: attr.Grow answers what the document's Grow answers. No condition.
-/
import Derived.Test.YtdbfhhkbjlednaaRows
import Derived.Test.YtdbfhhkbjlednaaLaw
import Derived.Test.YtdbfhhkbjlednaaGrow
import Derived.Test.YtdbfhhkbjlednaaLink
import Derived.Test.YtdbfhhkbjlednaaUnp
import Derived.Lib.SmallJoins
namespace Go.Proofs.Ytdbfhhkbjlednaa
open Go.ChangeShapes Go.WideShapes Go.ChangeAt Go.RowKit Go.Deep
open Go.ChangeMaps (open_string)

theorem At.grow_form (k l s t n st : Int) : ∃ a b c d, At.growOut k l s t n st = VA a b c d := by
  unfold At.growOut
  split <;> exact ⟨_, _, _, _, rfl⟩

set_option maxHeartbeats 1000000 in
theorem grows_any (k l s t n st : Int) (w : World) : Calls Try.prog 5 #[VA k l s t, .int .i64 n, .int .i64 st] w fun e w' => e = .returned (.bool true) ∧ Below w.heap.size w w' := by
  obtain ⟨x0, x1, x2, x3, hz⟩ := At.grow_form k l s t n st
  have HZ : Hid (At.growOut k l s t n st = VA x0 x1 x2 x3) := hz
  clear hz
  obtain ⟨y, hy⟩ : ∃ y, At.growErr k l s t n st = y := ⟨_, rfl⟩
  have HY : Hid (At.growErr k l s t n st = y) := hy
  clear hy
  go_enter Try.func5, Try.ntmps5
  go_wp2_with fail
  refine (grow_any k l s t n st _).mono ?_
  rintro e w1 ⟨rfl, hb1⟩
  rw [HZ.out, HY.out]
  have hs1 : w.heap.size < w1.heap.size := by have := hb1.size; simp at this; omega
  obtain ⟨c0, c1, c2, c3⟩ := four_of (four_below (four_cells w k l s t) hb1 (by simp))
  have HB1 : Hid (Below w.heap.size w w1) := ((Below.refl _ _).alloc (Nat.le_refl _) _).trans (hb1.mono (by simp))
  clear hb1
  go_wp2_with fail
  refine (refGrow_any k l s t n st _).mono ?_
  rintro e w2 ⟨rfl, hb2⟩
  rw [HZ.out, HY.out]
  have hs2 : w1.heap.size < w2.heap.size := by have := hb2.size; simp at this; omega
  obtain ⟨f0, f1, f2, f3⟩ := four_of (four_below (four_cells w1 x0 x1 x2 x3) hb2 (by simp))
  have HB2 : Hid (Below w.heap.size w w2) := (HB1.out.alloc HB1.out.size _).trans (hb2.mono (by have := HB1.out.size; simp; omega))
  clear hb2 c0 c1 c2 c3
  go_wp2_with fail
  refine (one_any _).mono ?_
  rintro e w3 ⟨rfl, hb3⟩
  have HB3 : Hid (Below w.heap.size w w3) := (HB2.out.alloc HB2.out.size _).trans (hb3.mono (by have := HB2.out.size; simp; omega))
  clear hb3
  go_wp2
  go_ret
  exact ⟨rfl, HB3.out⟩

set_option maxRecDepth 100000 in
theorem attrGrows_lifted (os : Os) (started : os.Started) (H : Type) (enc : TypeId × Value → H) :
    ReturnsInHanded {} Try.checked os 5 .any (Rows.attrGrowsSpec.pre6 enc Try.prog Try.f5 Rows.attrGrowsRow.domain false) (Rows.attrGrowsSpec.post enc Try.prog Try.f5 false true false false) := by
  refine returnsInHanded_of_change (C := Try.checked) own started (by kernel_rfl) Try.func5
    (ChangeSpec.witness6 (enc := enc) (C := Try.checked) false ⟨#[], #[.agg #[.int .i64 0, .int .i64 0, .int .i64 0, .int .i64 0], .int .i64 0, .int .i64 0], []⟩ 8 (by kernel_rfl) (by kernel_rfl) (by kernel_rfl) (by kernel_rfl)) ?_
  intro W base args ds gs before hval0 hW hcnd _
  have hval : ∀ (j : Nat) t v, Try.f5.params[j]? = some t → args[j]? = some v → Value.okWide Try.prog W .any base t v := hval0
  have hW' := hW
  obtain ⟨p, q, hA0, hV, rfl, hfz, hnd⟩ := hW
  have hA : DataW.TrodAll enc Try.prog W 0 (fun _ => true) true Try.f5.params.toList args.toList ds p := hA0
  rw [Try.params5] at hA hval
  obtain ⟨v0, v1, v2, d0, d1, d2, p0, p1, p2, rfl, rfl, rfl, h0, h1, h2⟩ := trodAll_three hA
  obtain ⟨rfl, rfl⟩ := trodVars_none hV
  obtain ⟨c0, c1, c2, c3, y0, y1, y2, y3, m, rfl, rfl, rfl, g0, g1, g2, g3⟩ := Joins.open_agg4 Try.underlying23 (by kernel_rfl) (by kernel_rfl) (hval 0 23 v0 rfl rfl) h0
  obtain ⟨k, e0, _, w0⟩ := DataW.trod_int Try.underlying3 g0
  obtain ⟨l, e1, _, w1⟩ := DataW.trod_int Try.underlying3 g1
  obtain ⟨s, e2, _, w2⟩ := DataW.trod_int Try.underlying3 g2
  obtain ⟨t, e3, _, w3⟩ := DataW.trod_int Try.underlying3 g3
  simp only [List.cons.injEq, and_true] at e0 e1 e2 e3
  subst e0
  subst e1
  subst e2
  subst e3
  obtain ⟨n, rfl, rfl, rfl, wn⟩ := open_int Try.underlying3 (hval 1 3 v1 rfl rfl) h1
  obtain ⟨st, rfl, rfl, rfl, ws⟩ := open_int Try.underlying3 (hval 2 3 v2 rfl rfl) h2
  refine (grows_any k l s t n st W).mono fun e W' ⟨he, hg⟩ => ⟨_, he, ?_⟩
  exact Law.post laidOut (by kernel_rfl) rfl Try.underlying4 hW' rfl rfl hg

theorem attrGrows_holds : Rows.AttrGrowsSaid :=
  OpenClaim.holds_of_wide 5 Try.f5 rfl rfl rfl rfl rfl rfl rfl ⟨rfl, rfl, rfl, rfl, rfl⟩ rfl rfl rfl rfl rfl (by kernel_rfl) Try.func5 (by kernel_rfl)
    (of_decide_eq_true (by kernel_rfl)) (by unfold Func.isWrapper; first | (rw [if_pos (by decide +kernel)]; kernel_rfl) | (rw [if_neg (by decide +kernel)]; exact ⟨rfl, rfl⟩))
    (fun os started H enc _ => attrGrows_lifted os started H enc)
#print axioms attrGrows_holds
end Go.Proofs.Ytdbfhhkbjlednaa
