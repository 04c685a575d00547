/-
  For any two ints sextonlaw06.PanelSets returns true, whatever the memory: which sets are enough, and their nodes. No condition.
-/
import Derived.Test.YtoplngccejkkcaaNodes
import Derived.Test.YtoplngccejkkcaaLaw
namespace Go.Proofs.Ytoplngccejkkcaa
open Go.ChangeShapes Go.WideShapes Go.ChangeAt Go.RowKit

theorem owns_slice {w : World} {base : Nat} {e : TypeId} {size : Nat} {v : Value} {n : Nat} {xs : List Value} (h : w.ownsRow base e size v n xs) : ∃ p c, v = .slice p n c := by
  rcases h.2 with ⟨rfl, rfl⟩ | ⟨g, cap, cur, rfl, _⟩
  · exact ⟨_, _, rfl⟩
  · exact ⟨_, _, rfl⟩
set_option maxHeartbeats 400000 in
theorem sets_no (n s : Int) (w : World) (h : Pn.No n) : Calls Try.prog 4 #[.int .i64 n, .int .i64 s] w fun e w' => e = .returned (.bool true) ∧ Below w.heap.size w w' := by
  have H : Hid (Pn.No n) := h
  clear h
  go_enter Try.func4, Try.ntmps4
  go_wp2_with fail
  refine (enough_no _ _ H.out).mono ?_
  rintro e w' ⟨rfl, rfl⟩
  go_wp2_with fail
  refine (nodes_no _ _ H.out).mono ?_
  rintro e w' ⟨rfl, rfl⟩
  go_wp2_with fail
  refine (refNodes_no _ _ H.out).mono ?_
  rintro e w' ⟨rfl, rfl⟩
  go_wp2_with fail
  refine (five_any _).mono ?_
  rintro x w3 ⟨rfl, hb⟩
  have HB3 : Hid (Below w'.heap.size w' w3) := hb
  clear hb
  go_wp2
  go_ret
  exact ⟨rfl, HB3.out⟩
set_option maxHeartbeats 400000 in
theorem sets_neg (n f s : Int) (w : World) (h : Pn.Is n f) (hs : s < 0) : Calls Try.prog 4 #[.int .i64 n, .int .i64 s] w fun e w' => e = .returned (.bool true) ∧ Below w.heap.size w w' := by
  have H : Hid (Pn.Is n f) := h
  have HS : Hid (s < 0) := hs
  clear h hs
  go_enter Try.func4, Try.ntmps4
  go_wp2_with fail
  refine (enough_arg _ _ H.out (.inl HS.out)).mono ?_
  rintro e w' ⟨rfl, rfl⟩
  go_wp2_with fail
  refine (nodes_arg _ _ H.out (.inl HS.out)).mono ?_
  rintro e w' ⟨rfl, rfl⟩
  go_wp2_with fail
  refine (refNodes_neg _ _ H.out HS.out).mono ?_
  rintro e w' ⟨rfl, rfl⟩
  go_wp2_with fail
  refine (five_any _).mono ?_
  rintro x w3 ⟨rfl, hb⟩
  have HB3 : Hid (Below w'.heap.size w' w3) := hb
  clear hb
  go_wp2
  go_ret
  exact ⟨rfl, HB3.out⟩
set_option maxHeartbeats 400000 in
theorem sets_big (n f : Int) (s : Nat) (w : World) (h : Pn.Is n f) (hs : ¬ s < 2 ^ n.toNat) (h63 : (s : Int) ≤ 9223372036854775807) : Calls Try.prog 4 #[.int .i64 n, .int .i64 s] w fun e w' => e = .returned (.bool true) ∧ Below w.heap.size w w' := by
  have H : Hid (Pn.Is n f) := h
  have hsI : (2 : Int) ^ n.toNat ≤ (s : Int) := by
    have : ((2 ^ n.toNat : Nat) : Int) ≤ (s : Int) := by omega
    simpa using this
  have HS : Hid ((2 : Int) ^ n.toNat ≤ (s : Int) ∧ (s : Int) ≤ 9223372036854775807) := ⟨hsI, h63⟩
  have HD : Hid (decide (s < 2 ^ n.toNat) = false) := show decide (s < 2 ^ n.toNat) = false by simpa using hs
  clear h hs hsI h63
  go_enter Try.func4, Try.ntmps4
  go_wp2_with fail
  refine (enough_arg _ _ H.out (.inr HS.out.1)).mono ?_
  rintro e w' ⟨rfl, rfl⟩
  go_wp2_with fail
  refine (nodes_arg _ _ H.out (.inr HS.out.1)).mono ?_
  rintro e w' ⟨rfl, rfl⟩
  go_wp2_with fail
  refine (refNodes_any _ _ H.out HS.out.2).mono ?_
  rintro e w2 ⟨v, rfl, hrow, hb⟩
  rw [HD.out]
  have HB2 : Hid (Below w'.heap.size w' w2) := hb
  clear hb hrow
  go_wp2_with fail
  refine (five_any _).mono ?_
  rintro x w3 ⟨rfl, hb⟩
  have HB3 : Hid (Below w'.heap.size w' w3) := HB2.out.trans (hb.mono HB2.out.size)
  clear hb
  go_wp2
  go_ret
  exact ⟨rfl, HB3.out⟩
set_option maxHeartbeats 1000000 in
theorem sets_ok (n f : Int) (s : Nat) (w : World) (h : Pn.Is n f) (hs : s < 2 ^ n.toNat) (h63 : (s : Int) ≤ 9223372036854775807) : Calls Try.prog 4 #[.int .i64 n, .int .i64 s] w fun e w' => e = .returned (.bool true) ∧ Below w.heap.size w w' := by
  have H : Hid (Pn.Is n f) := h
  have HS : Hid (s < 2 ^ n.toNat ∧ (s : Int) ≤ 9223372036854775807) := ⟨hs, h63⟩
  have HD : Hid (decide (s < 2 ^ n.toNat) = true) := show decide (s < 2 ^ n.toNat) = true by simpa using hs
  have HL : Hid _ := Pn.nodes_length s n.toNat
  clear h hs h63
  go_enter Try.func4, Try.ntmps4
  go_wp2_with fail
  refine (enough_yes _ _ H.out HS.out.1).mono ?_
  rintro e w' ⟨rfl, rfl⟩
  rw [← HL.out]
  go_wp2_with fail
  refine (nodes_yes _ _ H.out HS.out.1).mono ?_
  rintro e w1 ⟨v1, rfl, hrow1, hb1⟩
  have HR1 : Hid (IntsAt w1 v1 (Pn.nodes s n.toNat)) := IntsAt.of_own hrow1
  have HB1 : Hid (Below w'.heap.size w' w1) := hb1
  obtain ⟨p1, k1, rfl⟩ := owns_slice hrow1
  clear hb1 hrow1
  go_wp2_with fail
  refine (refNodes_any _ _ H.out HS.out.2).mono ?_
  rintro e w2 ⟨v2, rfl, hrow2, hb2⟩
  rw [HD.out]
  have HR2 : Hid (IntsAt w2 v2 (Pn.nodes s n.toNat)) := IntsAt.of_own hrow2
  have HR1' : Hid (IntsAt w2 _ (Pn.nodes s n.toNat)) := IntsAt.kept HR1.out hb2 (Nat.le_refl _)
  have HB2 : Hid (Below w'.heap.size w' w2) := HB1.out.trans (hb2.mono HB1.out.size)
  obtain ⟨p2, k2, rfl⟩ := owns_slice hrow2
  clear hb2 hrow2 HR1 HB1
  go_wp2_with fail
  refine (refFaults_yes _ H.out).mono ?_
  rintro e w3 ⟨rfl, rfl⟩
  clear HL HS HD
  generalize Pn.nodes s n.toNat = l at *
  by_cases hq : f + 1 ≤ (l.length : Int)
  · have hq' : f < (l.length : Int) := by omega
    go_wp2_with fail
    refine (ints_same _ _ l _ HR1'.out HR2.out).mono ?_
    rintro x w4 ⟨rfl, hb⟩
    have HB4 : Hid (Below w'.heap.size w' w4) := HB2.out.trans (hb.mono HB2.out.size)
    clear hb
    go_wp2_with fail
    refine (five_any _).mono ?_
    rintro x w5 ⟨rfl, hb⟩
    have HB5 : Hid (Below w'.heap.size w' w5) := HB4.out.trans (hb.mono HB4.out.size)
    clear hb
    go_wp2
    go_ret
    exact ⟨rfl, HB5.out⟩
  · have hq' : ¬ f < (l.length : Int) := by omega
    go_wp2_with fail
    refine (ints_same _ _ l _ HR1'.out HR2.out).mono ?_
    rintro x w4 ⟨rfl, hb⟩
    have HB4 : Hid (Below w'.heap.size w' w4) := HB2.out.trans (hb.mono HB2.out.size)
    clear hb
    go_wp2_with fail
    refine (five_any _).mono ?_
    rintro x w5 ⟨rfl, hb⟩
    have HB5 : Hid (Below w'.heap.size w' w5) := HB4.out.trans (hb.mono HB4.out.size)
    clear hb
    go_wp2
    go_ret
    exact ⟨rfl, HB5.out⟩

theorem sets_any (n s : Int) (w : World) (h63 : s ≤ 9223372036854775807) : Calls Try.prog 4 #[.int .i64 n, .int .i64 s] w fun e w' => e = .returned (.bool true) ∧ Below w.heap.size w w' := by
  rcases Pn.either n with h | ⟨f, h⟩
  · exact sets_no n s w h
  by_cases hs : s < 0
  · exact sets_neg n f s w h hs
  obtain ⟨k, rfl⟩ : ∃ k : Nat, s = k := ⟨s.toNat, by omega⟩
  by_cases hk : k < 2 ^ n.toNat
  · exact sets_ok n f k w h hk h63
  · exact sets_big n f k w h hk h63
theorem wf_le {a : Int} (h : (Lit.int .i64 a).wf = true) : -9223372036854775808 ≤ a ∧ a ≤ 9223372036854775807 := by
  simp [Lit.wf, IntKind.min, IntKind.max, IntKind.signed, IntKind.bits] at h
  omega

set_option maxRecDepth 100000 in
theorem panelSets_lifted (os : Os) (started : os.Started) (H : Type) (enc : TypeId × Value → H) :
    ReturnsInHanded {} Try.checked os 4 .any (Rows.panelSetsSpec.pre6 enc Try.prog Try.f4 Rows.panelSetsRow.domain false) (Rows.panelSetsSpec.post enc Try.prog Try.f4 false true false false) := by
  refine returnsInHanded_of_change (C := Try.checked) own started (by kernel_rfl) Try.func4
    (ChangeSpec.witness6 (enc := enc) (C := Try.checked) false ⟨#[], #[.int .i64 0, .int .i64 0], []⟩ 8 (by kernel_rfl) (by kernel_rfl) (by kernel_rfl) (by kernel_rfl)) ?_
  intro W base args ds gs before hval0 hW hcnd _
  have hval : ∀ (j : Nat) t v, Try.f4.params[j]? = some t → args[j]? = some v → Value.okWide Try.prog W .any base t v := hval0
  have hW' := hW
  obtain ⟨p, q, hA0, hV, rfl, hfz, hnd⟩ := hW
  have hA : DataW.TrodAll enc Try.prog W 0 (fun _ => true) true Try.f4.params.toList args.toList ds p := hA0
  rw [Try.params4] at hA hval
  obtain ⟨v0, v1, d0, d1, p0, p1, rfl, rfl, rfl, h0, h1⟩ := trodAll_two hA
  obtain ⟨rfl, rfl⟩ := trodVars_none hV
  obtain ⟨a, rfl, rfl, rfl, w0⟩ := open_int Try.underlying3 (hval 0 3 v0 rfl rfl) h0
  obtain ⟨b, rfl, rfl, rfl, w1⟩ := open_int Try.underlying3 (hval 1 3 v1 rfl rfl) h1
  refine (sets_any a b W (wf_le w1).2).mono fun e W' ⟨he, hg⟩ => ⟨_, he, ?_⟩
  exact Law.post laidOut (by kernel_rfl) rfl Try.underlying4 hW' rfl rfl hg

theorem panelSets_holds : Rows.PanelSetsSaid :=
  OpenClaim.holds_of_wide 4 Try.f4 rfl rfl rfl rfl rfl rfl rfl ⟨rfl, rfl, rfl, rfl, rfl⟩ rfl rfl rfl rfl rfl (by kernel_rfl) Try.func4 (by kernel_rfl)
    (of_decide_eq_true (by kernel_rfl)) (by unfold Func.isWrapper; first | (rw [if_pos (by decide +kernel)]; kernel_rfl) | (rw [if_neg (by decide +kernel)]; exact ⟨rfl, rfl⟩))
    (fun os started H enc _ => panelSets_lifted os started H enc)
#print axioms panelSets_holds
end Go.Proofs.Ytoplngccejkkcaa
