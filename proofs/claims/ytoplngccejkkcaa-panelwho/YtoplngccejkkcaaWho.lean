/-
  For any three ints sextonlaw06.PanelWho returns true, whatever the memory: which panels there are, who is a replica, whose turn each view is. No condition.
-/
import Derived.Test.YtoplngccejkkcaaFive
import Derived.Test.YtoplngccejkkcaaLaw
namespace Go.Proofs.Ytoplngccejkkcaa
open Go.ChangeShapes Go.WideShapes Go.ChangeAt Go.RowKit

theorem Pn.Is.bounds {n f : Int} (h : Pn.Is n f) : 0 ≤ f ∧ f ≤ 3 ∧ n = 2 * f + 1 := by
  rcases h with ⟨rfl, rfl⟩ | ⟨rfl, rfl⟩ | ⟨rfl, rfl⟩ | ⟨rfl, rfl⟩ <;> omega
/-- panel's Turn and the document's tell the same. -/
theorem turn_both (n v k : Int) : ∃ t i : Int, (∀ w, Calls Try.prog 12 #[.int .i64 n, .int .i64 v, .int .i64 k] w fun e w' => e = .returned (.tuple #[.int .i64 t, .int .i64 i]) ∧ w' = w) ∧ (∀ w, Calls Try.prog 13 #[.int .i64 n, .int .i64 v, .int .i64 k] w fun e w' => e = .returned (.tuple #[.int .i64 t, .int .i64 i]) ∧ w' = w) := by
  rcases Pn.either n with h | ⟨f, h⟩
  · exact ⟨0, 1, fun w => turn_no v k w h, fun w => refTurn_no v k w h⟩
  by_cases hv : v < 0 ∨ 1099511627776 < v
  · exact ⟨0, 1, fun w => turn_view v k w h hv, fun w => refTurn_arg v k w h (by omega)⟩
  by_cases hk : k < 0 ∨ f < k
  · exact ⟨0, 1, fun w => turn_node v k w h (by omega) (by omega) hk, fun w => refTurn_arg v k w h (by omega)⟩
  by_cases hb : 1099511627776 < Pn.nxt f v k
  · refine ⟨0, 6, fun w => ?_, fun w => ?_⟩
    · have := turn_yes v k w h (by omega) (by omega) (by omega) (by omega)
      rw [if_pos hb] at this
      exact this
    · have := refTurn_yes v k w h (by omega) (by omega) (by omega) (by omega)
      rw [if_pos hb] at this
      exact this
  · refine ⟨Pn.nxt f v k, 0, fun w => ?_, fun w => ?_⟩
    · have := turn_yes v k w h (by omega) (by omega) (by omega) (by omega)
      rw [if_neg hb] at this
      exact this
    · have := refTurn_yes v k w h (by omega) (by omega) (by omega) (by omega)
      rw [if_neg hb] at this
      exact this
theorem primary_both {n f : Int} (v : Int) (h : Pn.Is n f) : ∃ p e q : Int, ((e = 0 ∧ 0 ≤ q ∧ p = q) ∨ (e = 1 ∧ q = -1 ∧ p = 0)) ∧ (∀ w, Calls Try.prog 11 #[.int .i64 n, .int .i64 v] w fun x w' => x = .returned (.tuple #[.int .i64 p, .int .i64 e]) ∧ w' = w) ∧ (∀ w, Calls Try.prog 16 #[.int .i64 n, .int .i64 v] w fun x w' => x = .returned (.int .i64 q) ∧ w' = w) := by
  by_cases hv : v < 0 ∨ 1099511627776 < v
  · exact ⟨0, 1, -1, .inr ⟨rfl, rfl, rfl⟩, fun w => primary_arg v w h hv, fun w => refPrimary_arg v w h hv⟩
  · refine ⟨v % (f + 1), 0, v % (f + 1), .inl ⟨rfl, Int.emod_nonneg _ (by have := h.bounds; omega), rfl⟩, fun w => primary_yes v w h (by omega) (by omega), fun w => refPrimary_yes v w h (by omega) (by omega)⟩
theorem replica_both {n f : Int} (k : Int) (h : Pn.Is n f) : ∃ (b : Bool) (e : Int), ((e = 0 ∧ 0 ≤ k ∧ k < n ∧ b = decide (k ≤ f)) ∨ (e = 1 ∧ (k < 0 ∨ n ≤ k) ∧ b = false)) ∧ (∀ w, Calls Try.prog 10 #[.int .i64 n, .int .i64 k] w fun x w' => x = .returned (.tuple #[.bool b, .int .i64 e]) ∧ w' = w) := by
  by_cases hk : k < 0 ∨ n ≤ k
  · exact ⟨false, 1, .inr ⟨rfl, hk, rfl⟩, fun w => replica_arg k w h hk⟩
  · refine ⟨decide (k < f + 1), 0, .inl ⟨rfl, by omega, by omega, by simp; omega⟩, fun w => replica_yes k w h (by omega) (by omega)⟩

set_option maxHeartbeats 1000000 in
set_option maxRecDepth 100000 in
theorem who_no (n k v : Int) (w : World) (h : Pn.No n) : Calls Try.prog 3 #[.int .i64 n, .int .i64 k, .int .i64 v] w fun e w' => e = .returned (.bool true) ∧ Below w.heap.size w w' := by
  have H : Hid (Pn.No n) := h
  obtain ⟨t, i, c1, c2⟩ := turn_both n v k
  have C1 : Hid _ := c1
  have C2 : Hid _ := c2
  clear c1 c2 h
  go_enter Try.func3, Try.ntmps3
  go_wp2_with fail
  refine (faults_no _ H.out).mono ?_
  rintro e w1 ⟨rfl, rfl⟩
  go_wp2_with fail
  refine (replica_no _ _ H.out).mono ?_
  rintro e w1 ⟨rfl, rfl⟩
  go_wp2_with fail
  refine (primary_no _ _ H.out).mono ?_
  rintro e w1 ⟨rfl, rfl⟩
  go_wp2_with fail
  refine (C1.out _).mono ?_
  rintro e w1 ⟨rfl, rfl⟩
  go_wp2_with fail
  refine (C2.out _).mono ?_
  rintro e w1 ⟨rfl, rfl⟩
  go_wp2_with fail
  refine (refFaults_no _ H.out).mono ?_
  rintro e w1 ⟨rfl, rfl⟩
  go_wp2_with fail
  refine (five_any _).mono ?_
  rintro e w2 ⟨rfl, hb⟩
  have HB : Hid (Below w1.heap.size w1 w2) := hb
  clear hb
  go_wp2
  go_ret
  exact ⟨rfl, HB.out⟩

set_option maxHeartbeats 4000000 in
set_option maxRecDepth 100000 in
theorem who_is (n f k v : Int) (w : World) (h : Pn.Is n f) : Calls Try.prog 3 #[.int .i64 n, .int .i64 k, .int .i64 v] w fun e w' => e = .returned (.bool true) ∧ Below w.heap.size w w' := by
  have H : Hid (Pn.Is n f) := h
  have HF : Hid (0 ≤ f ∧ f ≤ 3 ∧ n = 2 * f + 1) := h.bounds
  obtain ⟨t, i, c1, c2⟩ := turn_both n v k
  obtain ⟨p, pe, q, cp, c3, c4⟩ := primary_both v h
  obtain ⟨b, be, cb, c5⟩ := replica_both k h
  have C1 : Hid _ := c1
  have C2 : Hid _ := c2
  have C3 : Hid _ := c3
  have C4 : Hid _ := c4
  have C5 : Hid _ := c5
  have CP : Hid _ := cp
  have CB : Hid _ := cb
  clear c1 c2 c3 c4 c5 h cp cb
  go_enter Try.func3, Try.ntmps3
  go_wp2_with fail
  refine (faults_yes _ H.out).mono ?_
  rintro e w1 ⟨rfl, rfl⟩
  go_wp2_with fail
  refine (C5.out _).mono ?_
  rintro e w1 ⟨rfl, rfl⟩
  go_wp2_with fail
  refine (C3.out _).mono ?_
  rintro e w1 ⟨rfl, rfl⟩
  go_wp2_with fail
  refine (C1.out _).mono ?_
  rintro e w1 ⟨rfl, rfl⟩
  go_wp2_with fail
  refine (C2.out _).mono ?_
  rintro e w1 ⟨rfl, rfl⟩
  go_wp2_with fail
  refine (refFaults_yes _ H.out).mono ?_
  rintro e w1 ⟨rfl, rfl⟩
  have f0 : ¬ f < 0 := by have := HF.out; omega
  have hk : (k < 0) ∨ (0 ≤ k ∧ k ≤ f) ∨ (f < k ∧ k < n) ∨ n ≤ k := by omega
  have cb := CB.out
  clear CB C5 C3 C1 C2
  rcases hk with k1 | ⟨k1, k2⟩ | ⟨k1, k2⟩ | k1
  · obtain ⟨rfl, rfl⟩ : be = 1 ∧ b = false := by rcases cb with ⟨rfl, b1, b2, b3⟩ | ⟨rfl, b1, b2⟩ <;> first | omega | exact ⟨rfl, b2⟩
    clear cb HF
    have k1' : ¬ 0 ≤ k := by omega
    go_wp2_with fail
    refine (C4.out _).mono ?_
    rintro e w1 ⟨rfl, rfl⟩
    rcases CP.out with ⟨rfl, q0, rfl⟩ | ⟨rfl, rfl, rfl⟩
    all_goals
      go_wp2_with fail
      refine (five_any _).mono ?_
      rintro e w2 ⟨rfl, hb⟩
      have HB : Hid (Below w1.heap.size w1 w2) := hb
      clear hb
      go_wp2
      go_ret
      exact ⟨rfl, HB.out⟩
  · obtain ⟨rfl, rfl⟩ : be = 0 ∧ b = true := by rcases cb with ⟨rfl, b1, b2, b3⟩ | ⟨rfl, b1, b2⟩ <;> first | (have := HF.out; omega) | exact ⟨rfl, by rw [b3]; simpa using k2⟩
    have k3 : k < n := by have := HF.out; omega
    clear cb HF
    go_wp2_with fail
    refine (C4.out _).mono ?_
    rintro e w1 ⟨rfl, rfl⟩
    rcases CP.out with ⟨rfl, q0, rfl⟩ | ⟨rfl, rfl, rfl⟩
    all_goals
      go_wp2_with fail
      refine (five_any _).mono ?_
      rintro e w2 ⟨rfl, hb⟩
      have HB : Hid (Below w1.heap.size w1 w2) := hb
      clear hb
      go_wp2
      go_ret
      exact ⟨rfl, HB.out⟩
  · obtain ⟨rfl, rfl⟩ : be = 0 ∧ b = false := by rcases cb with ⟨rfl, b1, b2, b3⟩ | ⟨rfl, b1, b2⟩ <;> first | (have := HF.out; omega) | exact ⟨rfl, by rw [b3]; simpa using k1⟩
    have k3 : 0 ≤ k := by have := HF.out; omega
    have k4 : ¬ k ≤ f := by omega
    clear cb HF
    go_wp2_with fail
    refine (C4.out _).mono ?_
    rintro e w1 ⟨rfl, rfl⟩
    rcases CP.out with ⟨rfl, q0, rfl⟩ | ⟨rfl, rfl, rfl⟩
    all_goals
      go_wp2_with fail
      refine (five_any _).mono ?_
      rintro e w2 ⟨rfl, hb⟩
      have HB : Hid (Below w1.heap.size w1 w2) := hb
      clear hb
      go_wp2
      go_ret
      exact ⟨rfl, HB.out⟩
  · obtain ⟨rfl, rfl⟩ : be = 1 ∧ b = false := by rcases cb with ⟨rfl, b1, b2, b3⟩ | ⟨rfl, b1, b2⟩ <;> first | omega | exact ⟨rfl, b2⟩
    have k3 : 0 ≤ k := by have := HF.out; omega
    have k4 : ¬ k ≤ f := by have := HF.out; omega
    have k5 : ¬ k < n := by omega
    clear cb HF
    go_wp2_with fail
    refine (C4.out _).mono ?_
    rintro e w1 ⟨rfl, rfl⟩
    rcases CP.out with ⟨rfl, q0, rfl⟩ | ⟨rfl, rfl, rfl⟩
    all_goals
      go_wp2_with fail
      refine (five_any _).mono ?_
      rintro e w2 ⟨rfl, hb⟩
      have HB : Hid (Below w1.heap.size w1 w2) := hb
      clear hb
      go_wp2
      go_ret
      exact ⟨rfl, HB.out⟩

theorem who_any (n k v : Int) (w : World) : Calls Try.prog 3 #[.int .i64 n, .int .i64 k, .int .i64 v] w fun e w' => e = .returned (.bool true) ∧ Below w.heap.size w w' := by
  rcases Pn.either n with h | ⟨f, h⟩
  · exact who_no n k v w h
  · exact who_is n f k v w h

set_option maxRecDepth 100000 in
theorem panelWho_lifted (os : Os) (started : os.Started) (H : Type) (enc : TypeId × Value → H) :
    ReturnsInHanded {} Try.checked os 3 .any (Rows.panelWhoSpec.pre6 enc Try.prog Try.f3 Rows.panelWhoRow.domain false) (Rows.panelWhoSpec.post enc Try.prog Try.f3 false true false false) := by
  refine returnsInHanded_of_change (C := Try.checked) own started (by kernel_rfl) Try.func3
    (ChangeSpec.witness6 (enc := enc) (C := Try.checked) false ⟨#[], #[.int .i64 0, .int .i64 0, .int .i64 0], []⟩ 8 (by kernel_rfl) (by kernel_rfl) (by kernel_rfl) (by kernel_rfl)) ?_
  intro W base args ds gs before hval0 hW hcnd _
  have hval : ∀ (j : Nat) t v, Try.f3.params[j]? = some t → args[j]? = some v → Value.okWide Try.prog W .any base t v := hval0
  have hW' := hW
  obtain ⟨p, q, hA0, hV, rfl, hfz, hnd⟩ := hW
  have hA : DataW.TrodAll enc Try.prog W 0 (fun _ => true) true Try.f3.params.toList args.toList ds p := hA0
  rw [Try.params3] at hA hval
  obtain ⟨v0, v1, v2, d0, d1, d2, p0, p1, p2, rfl, rfl, rfl, h0, h1, h2⟩ := trodAll_three hA
  obtain ⟨rfl, rfl⟩ := trodVars_none hV
  obtain ⟨a, rfl, rfl, rfl, w0⟩ := open_int Try.underlying3 (hval 0 3 v0 rfl rfl) h0
  obtain ⟨b, rfl, rfl, rfl, w1⟩ := open_int Try.underlying3 (hval 1 3 v1 rfl rfl) h1
  obtain ⟨c, rfl, rfl, rfl, w2⟩ := open_int Try.underlying3 (hval 2 3 v2 rfl rfl) h2
  refine (who_any a b c W).mono fun e W' ⟨he, hg⟩ => ⟨_, he, ?_⟩
  exact Law.post laidOut (by kernel_rfl) rfl Try.underlying4 hW' rfl rfl hg

theorem panelWho_holds : Rows.PanelWhoSaid :=
  OpenClaim.holds_of_wide 3 Try.f3 rfl rfl rfl rfl rfl rfl rfl ⟨rfl, rfl, rfl, rfl, rfl⟩ rfl rfl rfl rfl rfl (by kernel_rfl) Try.func3 (by kernel_rfl)
    (of_decide_eq_true (by kernel_rfl)) (by unfold Func.isWrapper; first | (rw [if_pos (by decide +kernel)]; kernel_rfl) | (rw [if_neg (by decide +kernel)]; exact ⟨rfl, rfl⟩))
    (fun os started H enc _ => panelWho_lifted os started H enc)
#print axioms panelWho_holds
end Go.Proofs.Ytoplngccejkkcaa
