/-
  For any int and any item sextonlaw05.OplogNil returns true, whatever the memory: a nil log has no items. No condition.
-/
import Derived.Test.YtbjcleeiobaegaaTwo
import Derived.Test.YtbjcleeiobaegaaLaw
import Derived.Lib.SmallJoins
namespace Go.Proofs.Ytbjcleeiobaegaa
open Go.ChangeShapes Go.WideShapes Go.ChangeAt Go.RowKit

set_option maxHeartbeats 1000000 in
theorem refRight_any (x : Ol.It) (w : World) : Calls Try.prog 24 #[item x] w fun e w' => e = .returned (.bool (decide (Ol.right x))) ∧ w.grownBy w' none := by
  obtain ⟨a, b, c, d⟩ := x
  unfold item
  simp only
  by_cases h : Ol.right (a, b, c, d)
  · have e : decide (Ol.right (a, b, c, d)) = true := by simpa using h
    rw [e]
    obtain ⟨⟨h1, h2⟩, ⟨h3, h4⟩, ⟨h5, h6⟩, h7⟩ := h
    simp only at h1 h2 h3 h4 h5 h6 h7
    have h7' : (d.size : Int) ≤ 4096 := by omega
    clear e h7
    go_enter Try.func24, Try.ntmps24
    go_wp2
    go_ret
    exact ⟨by simp, World.grownBy_alloc _ _ _⟩
  · have e : decide (Ol.right (a, b, c, d)) = false := by simpa using h
    rw [e]
    have hc : (¬ 0 ≤ a) ∨ (0 ≤ a ∧ ¬ a ≤ 1099511627776) ∨ (0 ≤ a ∧ a ≤ 1099511627776 ∧ ¬ 0 ≤ b) ∨ (0 ≤ a ∧ a ≤ 1099511627776 ∧ 0 ≤ b ∧ ¬ b ≤ 1099511627776) ∨ (0 ≤ a ∧ a ≤ 1099511627776 ∧ 0 ≤ b ∧ b ≤ 1099511627776 ∧ ¬ 1 ≤ c) ∨ (0 ≤ a ∧ a ≤ 1099511627776 ∧ 0 ≤ b ∧ b ≤ 1099511627776 ∧ 1 ≤ c ∧ ¬ c ≤ 1099511627776) ∨ (0 ≤ a ∧ a ≤ 1099511627776 ∧ 0 ≤ b ∧ b ≤ 1099511627776 ∧ 1 ≤ c ∧ c ≤ 1099511627776 ∧ ¬ (d.size : Int) ≤ 4096) := by
      unfold Ol.right at h
      simp only at h
      omega
    clear h e
    rcases hc with h1 | ⟨h1, h2⟩ | ⟨h1, h2, h3⟩ | ⟨h1, h2, h3, h4⟩ | ⟨h1, h2, h3, h4, h5⟩ | ⟨h1, h2, h3, h4, h5, h6⟩ | ⟨h1, h2, h3, h4, h5, h6, h7⟩
    all_goals
      go_enter Try.func24, Try.ntmps24
      go_wp2
      go_ret
      exact ⟨by first | rfl | (simp; omega), World.grownBy_alloc _ _ _⟩
set_option maxHeartbeats 4000000 in
set_option maxRecDepth 100000 in
theorem nil_any (n : Int) (x : Ol.It) (w : World) : Calls Try.prog 6 #[.int .i64 n, item x] w fun e w' => e = .returned (.bool true) ∧ Below w.heap.size w w' := by
  obtain ⟨x0, x1, x2, x3⟩ := x
  obtain ⟨a, ha⟩ : ∃ a : Int, a = Ol.nilErr (x0, x1, x2, x3) := ⟨_, rfl⟩
  have HA : Hid (a = Ol.nilErr (x0, x1, x2, x3)) := ha
  have HA2 : Hid ((decide (Ol.right (x0, x1, x2, x3)) = true ∧ a = 5) ∨ (decide (Ol.right (x0, x1, x2, x3)) = false ∧ a = 4)) := by
    show _ ∨ _
    rw [ha]
    unfold Ol.nilErr
    by_cases h : Ol.right (x0, x1, x2, x3) <;> simp [h]
  clear ha
  have IT : Hid (item (x0, x1, x2, x3) = .agg #[.int .i64 x0, .int .i64 x1, .int .i64 x2, .string x3]) := rfl
  rw [IT.out]
  have HB0 : Hid (Below w.heap.size w (w.alloc (B4 x0 x1 x2 x3))) := (Below.refl _ _).alloc (Nat.le_refl _) _
  have HX0 : Hid ((w.alloc (B4 x0 x1 x2 x3)).heap[w.heap.size]? = some (B4 x0 x1 x2 x3)) := heap_alloc_new _ _
  go_enter Try.func6, Try.ntmps6
  go_wp2_with fail
  refine Calls.mono (show Calls Try.prog 18 #[.pointer none, .agg #[.int .i64 x0, .int .i64 x1, .int .i64 x2, .string x3]] _ _ from add_nil (x0, x1, x2, x3) _) ?_
  rintro e w1 ⟨rfl, hg⟩
  rw [← HA.out]
  have hx1 : w1.heap[w.heap.size]? = some (B4 x0 x1 x2 x3) := (hg.block _ (by simp) (by simp)).trans HX0.out
  have HX1 : Hid (w1.heap[w.heap.size]? = some (B4 x0 x1 x2 x3)) := hx1
  have HB1 : Hid (Below w.heap.size w w1) := HB0.out.trans (below_none hg HB0.out.size)
  clear hg hx1 HX0 HB0
  go_wp2_with fail
  refine (get_nil _ _).mono ?_
  rintro e w2 ⟨rfl, hg⟩
  have hx2 : (w2.alloc Z4).heap[w.heap.size]? = some (B4 x0 x1 x2 x3) := by
    have hlt := (Array.getElem?_eq_some_iff.1 HX1.out).1
    exact ((World.grownBy_alloc w2 Z4 none).block _ (Nat.lt_of_lt_of_le hlt hg.size) (by simp)).trans ((hg.block _ hlt (by simp)).trans HX1.out)
  have HX2 : Hid ((w2.alloc Z4).heap[w.heap.size]? = some (B4 x0 x1 x2 x3)) := hx2
  have HB2 : Hid (Below w.heap.size w (w2.alloc Z4)) := HB1.out.trans (below_none (grown_trans hg (World.grownBy_alloc _ _ _)) HB1.out.size)
  clear hg hx2 HX1 HB1
  unfold item
  simp only
  have hn : (∃ g : Int, (g = 1 ∧ n < 0 ∨ g = 6 ∧ ¬ n < 0) ∧ ∀ W, Calls Try.prog 21 #[.pointer none, .int .i64 n, .int .i64 n] W fun e w' => e = .returned (.tuple #[.slice none 0 0, .int .i64 g]) ∧ w' = W) := by
    by_cases h : n < 0
    · exact ⟨1, .inl ⟨rfl, h⟩, fun W => behind_arg none n n W h⟩
    · exact ⟨6, .inr ⟨rfl, h⟩, fun W => behind_nil n n W (by omega)⟩
  obtain ⟨g, hgn, hcb⟩ := hn
  have HCB : Hid (∀ W, Calls Try.prog 21 #[.pointer none, .int .i64 n, .int .i64 n] W fun e w' => e = .returned (.tuple #[.slice none 0 0, .int .i64 g]) ∧ w' = W) := hcb
  clear hcb
  go_wp2_with fail
  refine (HCB.out _).mono ?_
  rintro e w3 ⟨rfl, rfl⟩
  obtain ⟨⟨b0, b1, b2, b3⟩, _⟩ := four_of HX2.out
  go_wp2_with fail
  refine Calls.mono (show Calls Try.prog 24 #[.agg #[.int .i64 x0, .int .i64 x1, .int .i64 x2, .string x3]] _ _ from refRight_any (x0, x1, x2, x3) _) ?_
  rintro e w4 ⟨rfl, hg⟩
  have HB4 : Hid (Below w.heap.size w w4) := HB2.out.trans (below_none hg HB2.out.size)
  clear hg HB2 HX2 b0 b1 b2 b3
  rcases HA2.out with ⟨hd, rfl⟩ | ⟨hd, rfl⟩ <;> rcases hgn with ⟨rfl, hn⟩ | ⟨rfl, hn⟩
  all_goals
    rw [hd]
    clear hd HA HA2
    go_wp2_with fail
    refine (cut_nil _ _).mono ?_
    rintro e w5 ⟨rfl, rfl⟩
    go_wp2_with fail
    refine (trim_nil _ _).mono ?_
    rintro e w5 ⟨rfl, rfl⟩
    go_wp2_with fail
    refine (put_nil _ _ _).mono ?_
    rintro e w5 ⟨rfl, rfl⟩
    go_wp2_with fail
    refine (base_nil _).mono ?_
    rintro e w5 ⟨rfl, rfl⟩
    go_wp2_with fail
    refine (last_nil _).mono ?_
    rintro e w5 ⟨rfl, rfl⟩
    go_wp2_with fail
    refine (view_nil _).mono ?_
    rintro e w6 ⟨rfl, hg⟩
    have HB6 : Hid (Below w.heap.size w w6) := HB4.out.trans (below_none hg HB4.out.size)
    clear hg
    go_wp2_with fail
    refine (two_any _).mono ?_
    rintro e w7 ⟨rfl, hg⟩
    have HB7 : Hid (Below w.heap.size w w7) := HB6.out.trans (below_none hg HB6.out.size)
    clear hg
    go_wp2
    go_ret
    exact ⟨rfl, HB7.out⟩

set_option maxRecDepth 100000 in
theorem oplogNil_lifted (os : Os) (started : os.Started) (H : Type) (enc : TypeId × Value → H) :
    ReturnsInHanded {} Try.checked os 6 .any (Rows.oplogNilSpec.pre6 enc Try.prog Try.f6 Rows.oplogNilRow.domain false) (Rows.oplogNilSpec.post enc Try.prog Try.f6 false true false false) := by
  refine returnsInHanded_of_change (C := Try.checked) own started (by kernel_rfl) Try.func6
    (ChangeSpec.witness6 (enc := enc) (C := Try.checked) false ⟨#[], #[.int .i64 0, .agg #[.int .i64 0, .int .i64 0, .int .i64 0, .string ⟨#[]⟩]], []⟩ 8 (by kernel_rfl) (by kernel_rfl) (by kernel_rfl) (by kernel_rfl)) ?_
  intro W base args ds gs before hval0 hW hcnd _
  have hval : ∀ (j : Nat) t v, Try.f6.params[j]? = some t → args[j]? = some v → Value.okWide Try.prog W .any base t v := hval0
  have hW' := hW
  obtain ⟨p, q, hA0, hV, rfl, hfz, hnd⟩ := hW
  have hA : DataW.TrodAll enc Try.prog W 0 (fun _ => true) true Try.f6.params.toList args.toList ds p := hA0
  rw [Try.params6] at hA hval
  obtain ⟨v0, v1, d0, d1, p0, p1, rfl, rfl, rfl, h0, h1⟩ := trodAll_two hA
  obtain ⟨rfl, rfl⟩ := trodVars_none hV
  obtain ⟨a, rfl, rfl, rfl, w0⟩ := open_int Try.underlying3 (hval 0 3 v0 rfl rfl) h0
  obtain ⟨c0, c1, c2, c3, y0, y1, y2, y3, n, rfl, _, _, t0, t1, t2, t3⟩ := Joins.open_agg4 Try.underlying32 (by kernel_rfl) (by kernel_rfl) (hval 1 32 v1 rfl rfl) h1
  obtain ⟨x0, e0, _, _⟩ := DataW.trod_int Try.underlying3 t0
  obtain ⟨x1, e1, _, _⟩ := DataW.trod_int Try.underlying3 t1
  obtain ⟨x2, e2, _, _⟩ := DataW.trod_int Try.underlying3 t2
  obtain ⟨x3, e3, _, _⟩ := DataW.trod_string Try.underlying9 t3
  simp only [List.cons.injEq, and_true] at e0 e1 e2 e3
  subst e0 e1 e2 e3
  refine Calls.mono (show Calls Try.prog 6 #[.int .i64 a, .agg #[.int .i64 x0, .int .i64 x1, .int .i64 x2, .string x3]] W _ from nil_any a (x0, x1, x2, x3) W) fun e W' ⟨he, hg⟩ => ⟨_, he, ?_⟩
  exact Law.post laidOut (by kernel_rfl) rfl Try.underlying4 hW' rfl rfl hg

theorem oplogNil_holds : Rows.OplogNilSaid :=
  OpenClaim.holds_of_wide 6 Try.f6 rfl rfl rfl rfl rfl rfl rfl ⟨rfl, rfl, rfl, rfl, rfl⟩ rfl rfl rfl rfl rfl (by kernel_rfl) Try.func6 (by kernel_rfl)
    (of_decide_eq_true (by kernel_rfl)) (by unfold Func.isWrapper; first | (rw [if_pos (by decide +kernel)]; kernel_rfl) | (rw [if_neg (by decide +kernel)]; exact ⟨rfl, rfl⟩))
    (fun os started H enc _ => oplogNil_lifted os started H enc)
#print axioms oplogNil_holds
end Go.Proofs.Ytbjcleeiobaegaa
