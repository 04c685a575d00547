/-
  For any attributes and any string sextonlaw07.AttrCodes returns true, whatever the memory: attr.Check, Pack and Unpack answer what the document's do. No condition.
-/
import Derived.Test.YtdbfhhkbjlednaaRows
import Derived.Test.YtdbfhhkbjlednaaLaw
import Derived.Test.YtdbfhhkbjlednaaLink
import Derived.Test.YtdbfhhkbjlednaaUnp
import Derived.Lib.SmallJoins
namespace Go.Proofs.Ytdbfhhkbjlednaa
open Go.ChangeShapes Go.WideShapes Go.ChangeAt Go.RowKit Go.Deep
open Go.ChangeMaps (open_string)

theorem At.unp_form (S : ByteArray) : ∃ a b c d, At.unpOut S = VA a b c d := by
  unfold At.unpOut
  split <;> exact ⟨_, _, _, _, rfl⟩
theorem twelve_next {A B C : Nat} {k l s t x0 x1 x2 x3 : Int} {w' w'' : World} (h : w'.cell? ⟨A, 0, none⟩ = some (.int .i64 k) ∧ w'.cell? ⟨A, 1, none⟩ = some (.int .i64 l) ∧ w'.cell? ⟨A, 2, none⟩ = some (.int .i64 s) ∧ w'.cell? ⟨A, 3, none⟩ = some (.int .i64 t) ∧ w'.cell? ⟨B, 0, none⟩ = some (.int .i64 x0) ∧ w'.cell? ⟨B, 1, none⟩ = some (.int .i64 x1) ∧ w'.cell? ⟨B, 2, none⟩ = some (.int .i64 x2) ∧ w'.cell? ⟨B, 3, none⟩ = some (.int .i64 x3) ∧ w'.cell? ⟨C, 0, none⟩ = some (.int .i64 x0) ∧ w'.cell? ⟨C, 1, none⟩ = some (.int .i64 x1) ∧ w'.cell? ⟨C, 2, none⟩ = some (.int .i64 x2) ∧ w'.cell? ⟨C, 3, none⟩ = some (.int .i64 x3) ∧ A < w'.heap.size ∧ B < w'.heap.size ∧ C < w'.heap.size) (hb : Below w'.heap.size w' w'') : w''.cell? ⟨A, 0, none⟩ = some (.int .i64 k) ∧ w''.cell? ⟨A, 1, none⟩ = some (.int .i64 l) ∧ w''.cell? ⟨A, 2, none⟩ = some (.int .i64 s) ∧ w''.cell? ⟨A, 3, none⟩ = some (.int .i64 t) ∧ w''.cell? ⟨B, 0, none⟩ = some (.int .i64 x0) ∧ w''.cell? ⟨B, 1, none⟩ = some (.int .i64 x1) ∧ w''.cell? ⟨B, 2, none⟩ = some (.int .i64 x2) ∧ w''.cell? ⟨B, 3, none⟩ = some (.int .i64 x3) ∧ w''.cell? ⟨C, 0, none⟩ = some (.int .i64 x0) ∧ w''.cell? ⟨C, 1, none⟩ = some (.int .i64 x1) ∧ w''.cell? ⟨C, 2, none⟩ = some (.int .i64 x2) ∧ w''.cell? ⟨C, 3, none⟩ = some (.int .i64 x3) ∧ A < w''.heap.size ∧ B < w''.heap.size ∧ C < w''.heap.size := by
  obtain ⟨a0, a1, a2, a3, b0, b1, b2, b3, c0, c1, c2, c3, hA, hB, hC⟩ := h
  have z := hb.size
  have up : ∀ {R o : Nat} {u : Value}, w'.cell? ⟨R, o, none⟩ = some u → R < w'.heap.size → w''.cell? ⟨R, o, none⟩ = some u := fun {R o u} hc hR => (hb.cell (p := ⟨R, o, none⟩) hR).trans hc
  exact ⟨up a0 hA, up a1 hA, up a2 hA, up a3 hA, up b0 hB, up b1 hB, up b2 hB, up b3 hB, up c0 hC, up c1 hC, up c2 hC, up c3 hC, by omega, by omega, by omega⟩
theorem check_b (k l s t y : Int) (w : World) (h : y = if At.right k l s t then 0 else 70) : Calls Try.prog 12 #[VA k l s t] w fun e w' => e = .returned (.int .i64 y) ∧ Below w.heap.size w w' := by
  by_cases hr : At.right k l s t = true
  · rw [h, if_pos hr]
    exact (check_yes k l s t w hr).mono fun _ _ ⟨he, hw⟩ => ⟨he, by rw [hw]; exact (Below.refl _ _).alloc (Nat.le_refl _) _⟩
  · rw [h, if_neg hr]
    exact (check_no k l s t w (by simpa using hr)).mono fun _ _ ⟨he, hw⟩ => ⟨he, by rw [hw]; exact (Below.refl _ _).alloc (Nat.le_refl _) _⟩
theorem right_b (k l s t : Int) (b : Bool) (w : World) (h : At.right k l s t = b) : Calls Try.prog 13 #[VA k l s t] w fun e w' => e = .returned (.bool b) ∧ Below w.heap.size w w' :=
  (right_any k l s t w).mono fun _ _ ⟨he, hw⟩ => ⟨by rw [he, h], by rw [hw]; exact (Below.refl _ _).alloc (Nat.le_refl _) _⟩

set_option maxHeartbeats 8000000 in
theorem codes_any (k l s t : Int) (S : ByteArray) (w : World) (hs : s ≤ 9223372036854775807) (ht : t ≤ 9223372036854775807) (hk : k ≤ 9223372036854775807) (hl : l ≤ 9223372036854775807) :
    Calls Try.prog 3 #[VA k l s t, .string S] w fun e w' => e = .returned (.bool true) ∧ Below w.heap.size w w' := by
  obtain ⟨x0, x1, x2, x3, hz⟩ := At.unp_form S
  obtain ⟨p, hp⟩ : ∃ p, At.packOut k l s t = p := ⟨_, rfl⟩
  obtain ⟨q, hq⟩ : ∃ q, At.packErr k l s t = q := ⟨_, rfl⟩
  obtain ⟨u, hu⟩ : ∃ u, At.unpErr S = u := ⟨_, rfl⟩
  have HZ : Hid (At.unpOut S = VA x0 x1 x2 x3 ∧ At.unpErr S = u) := ⟨hz, hu⟩
  have HP : Hid (At.packOut k l s t = p ∧ At.packErr k l s t = q) := ⟨hp, hq⟩
  clear hz hp hq hu
  have key : ∃ (b : Bool) (y : Int), At.right k l s t = b ∧ (y = if At.right k l s t then 0 else 70) ∧ (b = true ∧ y = 0 ∨ b = false ∧ y = 70) := by
    by_cases hr : At.right k l s t = true
    · exact ⟨true, 0, hr, by rw [if_pos hr], .inl ⟨rfl, rfl⟩⟩
    · exact ⟨false, 70, by simpa using hr, by rw [if_neg hr], .inr ⟨rfl, rfl⟩⟩
  obtain ⟨b, y, hb, hy, hby⟩ := key
  have HK : Hid (At.right k l s t = b ∧ (y = if At.right k l s t then 0 else 70)) := ⟨hb, hy⟩
  clear hb hy
  go_enter Try.func3, Try.ntmps3
  go_wp2_with fail
  refine (pack_any k l s t _ hs ht hk hl).mono ?_
  rintro e w1 ⟨rfl, hb1⟩
  rw [HP.out.1, HP.out.2]
  have hs1 : w.heap.size < w1.heap.size := by have := hb1.size; simp at this; omega
  have HX1 : Hid (w1.heap[w.heap.size]? = some (BA k l s t)) := four_below (four_cells w k l s t) hb1 (by simp)
  obtain ⟨c0, c1, c2, c3⟩ := four_of HX1.out
  have HB1 : Hid (Below w.heap.size w w1) := ((Below.refl _ _).alloc (Nat.le_refl _) _).trans (hb1.mono (by simp))
  clear hb1
  go_wp2_with fail
  refine (refPack_any k l s t _ hs ht hk hl).mono ?_
  rintro e w2 ⟨rfl, hb2⟩
  rw [HP.out.1, HP.out.2]
  have hs2 : w.heap.size < w2.heap.size := by have := hb2.size; omega
  have HX2 : Hid (w2.heap[w.heap.size]? = some (BA k l s t)) := four_below HX1.out hb2 hs1
  have HB2 : Hid (Below w.heap.size w w2) := HB1.out.trans (hb2.mono HB1.out.size)
  clear hb2 c0 c1 c2 c3
  go_wp2_with fail
  refine (unpack_any S _).mono ?_
  rintro e w3 ⟨rfl, hb3⟩
  rw [HZ.out.1, HZ.out.2]
  have hs3 : w.heap.size < w3.heap.size := by have := hb3.size; omega
  have HX3 : Hid (w3.heap[w.heap.size]? = some (BA k l s t)) := four_below HX2.out hb3 hs2
  have HB3 : Hid (Below w.heap.size w w3) := HB2.out.trans (hb3.mono HB2.out.size)
  clear hb3
  go_wp2_with fail
  refine (refUnpack_any S _).mono ?_
  rintro e w4 ⟨rfl, hb4⟩
  rw [HZ.out.1, HZ.out.2]
  have hs4 : w3.heap.size < w4.heap.size := by have := hb4.size; simp at this; omega
  have HX4 : Hid (w4.heap[w.heap.size]? = some (BA k l s t) ∧ w4.heap[w3.heap.size]? = some (BA x0 x1 x2 x3)) := ⟨four_below ((Below.heap_alloc w3 _ _ hs3).trans HX3.out) hb4 (by simp; omega), four_below (four_cells w3 x0 x1 x2 x3) hb4 (by simp)⟩
  have HB4 : Hid (Below w.heap.size w (w4.alloc (BA x0 x1 x2 x3))) := by
    have h := (HB3.out.alloc HB3.out.size (BA x0 x1 x2 x3)).trans (hb4.mono (by have := HB3.out.size; simp; omega))
    exact h.alloc h.size _
  have HS : Hid ((w4.alloc (BA x0 x1 x2 x3)).cell? ⟨w.heap.size, 0, none⟩ = some (.int .i64 k) ∧ (w4.alloc (BA x0 x1 x2 x3)).cell? ⟨w.heap.size, 1, none⟩ = some (.int .i64 l) ∧ (w4.alloc (BA x0 x1 x2 x3)).cell? ⟨w.heap.size, 2, none⟩ = some (.int .i64 s) ∧ (w4.alloc (BA x0 x1 x2 x3)).cell? ⟨w.heap.size, 3, none⟩ = some (.int .i64 t) ∧ (w4.alloc (BA x0 x1 x2 x3)).cell? ⟨w3.heap.size, 0, none⟩ = some (.int .i64 x0) ∧ (w4.alloc (BA x0 x1 x2 x3)).cell? ⟨w3.heap.size, 1, none⟩ = some (.int .i64 x1) ∧ (w4.alloc (BA x0 x1 x2 x3)).cell? ⟨w3.heap.size, 2, none⟩ = some (.int .i64 x2) ∧ (w4.alloc (BA x0 x1 x2 x3)).cell? ⟨w3.heap.size, 3, none⟩ = some (.int .i64 x3) ∧ (w4.alloc (BA x0 x1 x2 x3)).cell? ⟨w4.heap.size, 0, none⟩ = some (.int .i64 x0) ∧ (w4.alloc (BA x0 x1 x2 x3)).cell? ⟨w4.heap.size, 1, none⟩ = some (.int .i64 x1) ∧ (w4.alloc (BA x0 x1 x2 x3)).cell? ⟨w4.heap.size, 2, none⟩ = some (.int .i64 x2) ∧ (w4.alloc (BA x0 x1 x2 x3)).cell? ⟨w4.heap.size, 3, none⟩ = some (.int .i64 x3) ∧ w.heap.size < (w4.alloc (BA x0 x1 x2 x3)).heap.size ∧ w3.heap.size < (w4.alloc (BA x0 x1 x2 x3)).heap.size ∧ w4.heap.size < (w4.alloc (BA x0 x1 x2 x3)).heap.size) := by
    have hs5 : w.heap.size < w4.heap.size := by omega
    obtain ⟨a0, a1, a2, a3⟩ := four_of ((Below.heap_alloc w4 (BA x0 x1 x2 x3) _ hs5).trans HX4.out.1)
    obtain ⟨b0, b1, b2, b3⟩ := four_of ((Below.heap_alloc w4 (BA x0 x1 x2 x3) _ hs4).trans HX4.out.2)
    obtain ⟨d0, d1, d2, d3⟩ := four_of (four_cells w4 x0 x1 x2 x3)
    exact ⟨a0, a1, a2, a3, b0, b1, b2, b3, d0, d1, d2, d3, by simp; omega, by simp; omega, by simp⟩
  clear hb4 HX4 HX3 HX2 HX1 HB1 HB2 HB3
  go_wp2_with fail
  obtain ⟨W, hW⟩ : ∃ W, w4.alloc (BA x0 x1 x2 x3) = W := ⟨_, rfl⟩
  obtain ⟨A, hA⟩ : ∃ A, w.heap.size = A := ⟨_, rfl⟩
  obtain ⟨B, hB⟩ : ∃ B, w3.heap.size = B := ⟨_, rfl⟩
  obtain ⟨C, hC⟩ : ∃ C, w4.heap.size = C := ⟨_, rfl⟩
  rw [hW, hA, hB, hC] at HS
  rw [hW] at HB4
  rw [hW, hA, hB, hC]
  rcases hby with ⟨rfl, rfl⟩ | ⟨rfl, rfl⟩
  all_goals
    go_region_held3 (fun w' => w'.cell? ⟨A, 0, none⟩ = some (.int .i64 k) ∧ w'.cell? ⟨A, 1, none⟩ = some (.int .i64 l) ∧ w'.cell? ⟨A, 2, none⟩ = some (.int .i64 s) ∧ w'.cell? ⟨A, 3, none⟩ = some (.int .i64 t) ∧ w'.cell? ⟨B, 0, none⟩ = some (.int .i64 x0) ∧ w'.cell? ⟨B, 1, none⟩ = some (.int .i64 x1) ∧ w'.cell? ⟨B, 2, none⟩ = some (.int .i64 x2) ∧ w'.cell? ⟨B, 3, none⟩ = some (.int .i64 x3) ∧ w'.cell? ⟨C, 0, none⟩ = some (.int .i64 x0) ∧ w'.cell? ⟨C, 1, none⟩ = some (.int .i64 x1) ∧ w'.cell? ⟨C, 2, none⟩ = some (.int .i64 x2) ∧ w'.cell? ⟨C, 3, none⟩ = some (.int .i64 x3) ∧ A < w'.heap.size ∧ B < w'.heap.size ∧ C < w'.heap.size) (first | exact HS.out | assumption | exact twelve_next (by assumption) (by assumption)) (first
      | (go_at_call 12; refine (check_b k l s t _ _ HK.out.2).mono ?_; rintro e w5 ⟨rfl, hb5⟩)
      | (go_at_call 13; refine (right_b k l s t _ _ HK.out.1).mono ?_; rintro e w6 ⟨rfl, hb6⟩)
      | (go_at_call 14; refine (one_any _).mono ?_; rintro e w7 ⟨rfl, hb7⟩))
    all_goals
      have HF : Hid (Below w.heap.size w w7) := by
        have h1 := HB4.out
        have b5 : Below W.heap.size W w5 := ⟨hb5.os, hb5.tape, hb5.output, hb5.size, hb5.block⟩
        have h2 := h1.trans (b5.mono h1.size)
        have h3 := h2.trans (hb6.mono h2.size)
        exact h3.trans (hb7.mono h3.size)
      go_wp2
      go_ret
      exact ⟨rfl, HF.out⟩

set_option maxRecDepth 100000 in
theorem attrCodes_lifted (os : Os) (started : os.Started) (H : Type) (enc : TypeId × Value → H) :
    ReturnsInHanded {} Try.checked os 3 .any (Rows.attrCodesSpec.pre6 enc Try.prog Try.f3 Rows.attrCodesRow.domain false) (Rows.attrCodesSpec.post enc Try.prog Try.f3 false true false false) := by
  refine returnsInHanded_of_change (C := Try.checked) own started (by kernel_rfl) Try.func3
    (ChangeSpec.witness6 (enc := enc) (C := Try.checked) false ⟨#[], #[.agg #[.int .i64 0, .int .i64 0, .int .i64 0, .int .i64 0], .string .empty], []⟩ 8 (by kernel_rfl) (by kernel_rfl) (by kernel_rfl) (by kernel_rfl)) ?_
  intro W base args ds gs before hval0 hW hcnd _
  have hval : ∀ (j : Nat) t v, Try.f3.params[j]? = some t → args[j]? = some v → Value.okWide Try.prog W .any base t v := hval0
  have hW' := hW
  obtain ⟨p, q, hA0, hV, rfl, hfz, hnd⟩ := hW
  have hA : DataW.TrodAll enc Try.prog W 0 (fun _ => true) true Try.f3.params.toList args.toList ds p := hA0
  rw [Try.params3] at hA hval
  obtain ⟨v0, v1, d0, d1, p0, p1, rfl, rfl, rfl, h0, h1⟩ := trodAll_two hA
  obtain ⟨rfl, rfl⟩ := trodVars_none hV
  obtain ⟨c0, c1, c2, c3, y0, y1, y2, y3, m, rfl, rfl, rfl, g0, g1, g2, g3⟩ := Joins.open_agg4 Try.underlying23 (by kernel_rfl) (by kernel_rfl) (hval 0 23 v0 rfl rfl) h0
  obtain ⟨k, e0, _, w0⟩ := DataW.trod_int Try.underlying3 g0
  obtain ⟨l, e1, _, w1⟩ := DataW.trod_int Try.underlying3 g1
  obtain ⟨s, e2, _, w2⟩ := DataW.trod_int Try.underlying3 g2
  obtain ⟨t, e3, _, w3⟩ := DataW.trod_int Try.underlying3 g3
  simp only [List.cons.injEq, and_true] at e0 e1 e2 e3
  subst e0
  subst e1
  subst e2
  subst e3
  obtain ⟨S, rfl, rfl, rfl, hS⟩ := open_string Try.underlying9 (hval 1 9 v1 rfl rfl) h1
  refine (codes_any k l s t S W (i64_le w2).2 (i64_le w3).2 (i64_le w0).2 (i64_le w1).2).mono fun e W' ⟨he, hg⟩ => ⟨_, he, ?_⟩
  exact Law.post laidOut (by kernel_rfl) rfl Try.underlying4 hW' rfl rfl hg

theorem attrCodes_holds : Rows.AttrCodesSaid :=
  OpenClaim.holds_of_wide 3 Try.f3 rfl rfl rfl rfl rfl rfl rfl ⟨rfl, rfl, rfl, rfl, rfl⟩ rfl rfl rfl rfl rfl (by kernel_rfl) Try.func3 (by kernel_rfl)
    (of_decide_eq_true (by kernel_rfl)) (by unfold Func.isWrapper; first | (rw [if_pos (by decide +kernel)]; kernel_rfl) | (rw [if_neg (by decide +kernel)]; exact ⟨rfl, rfl⟩))
    (fun os started H enc _ => attrCodes_lifted os started H enc)
#print axioms attrCodes_holds
end Go.Proofs.Ytdbfhhkbjlednaa
