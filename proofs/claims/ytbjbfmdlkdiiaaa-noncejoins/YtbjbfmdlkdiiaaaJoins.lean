/-
  For any three slices of ints sextonlaw20.NonceJoins returns true, whatever the memory: merging is the same whichever is first, and however often; what is merged covers both, and whoever covers both covers it. No condition.
-/
import Derived.Test.YtbjbfmdlkdiiaaaRBe
import Derived.Test.YtbjbfmdlkdiiaaaLaw
namespace Go.Proofs.Ytbjbfmdlkdiiaaa
open Go.ChangeShapes Go.WideShapes Go.ChangeAt Go.RowKit

/-- A slice of ints that came in. -/
theorem open_intsAt {H : Type} {enc : TypeId × Value → H} {W : World} {base : Nat} {v : Value} {d : DataW H} {p : List MemPlace} (hv : Value.okWide Try.prog W .any base 22 v) (h : DataW.Trod enc Try.prog W 0 (fun _ => true) true 22 v d p) : ∃ l, IntsAt W v l := by
  obtain ⟨a, len, cap, rfl⟩ := okWide_slice Try.underlying22 hv
  obtain ⟨fuel, hf⟩ := h
  rcases open_ints Try.underlying22 Try.underlying3 (by kernel_rfl) (by simpa [Value.cells] using hf) with ⟨hcs, _⟩ | ⟨a', len', cap', zs, hcs, _, hl, hm, hz, _, hcell, hwz⟩
  · simp at hcs
    obtain ⟨rfl, rfl, rfl⟩ := hcs
    exact ⟨[], .inl ⟨_, _, rfl, rfl⟩⟩
  · simp at hcs
    obtain ⟨rfl, rfl, rfl⟩ := hcs
    have hz' : zs.length = cap := by simpa using hz
    refine ⟨zs.take len, ?_⟩
    have hlen : (zs.take len).length = len := by simp; omega
    by_cases hp : 0 < len
    · have h0 := hcell 0 (by omega)
      obtain ⟨b, off, spot⟩ := a'
      have hspot : spot = none := by simpa [Addr.add] using World.cell?_spot h0
      subst hspot
      refine .inr ⟨b, off, cap, by rw [hlen], World.block_lt_of_cell? _ _ h0, by omega, by omega, hm, fun i hi => ?_⟩
      have := hcell i (by omega)
      rw [WideShapes.add_plain] at this
      rw [this]
      simp only [List.getD_eq_getElem?_getD]
      rw [List.getElem?_take_of_lt (by omega)]
    · have : len = 0 := by omega
      subst this
      exact .inl ⟨_, _, rfl, by simp⟩

theorem Nc.mxs_comm (a b : List Int) : Nc.mxs a b = Nc.mxs b a := by
  unfold Nc.mxs
  rw [Nc.two_comm b a]
  cases h : Nc.two a b with
  | false => rfl
  | true => rw [if_pos rfl, if_pos rfl, Nc.mx_comm, (Nc.two_iff.1 h).2.2]
theorem Nc.e2_comm (a b : List Int) : Nc.e2 a b = Nc.e2 b a := by unfold Nc.e2; rw [Nc.two_comm]
theorem Nc.join_facts {a b : List Int} (h : Nc.two a b = true) (c : List Int) : Nc.e2 (Nc.mxs a b) b = 0 ∧ Nc.mxs (Nc.mxs a b) b = Nc.mxs a b ∧ (Nc.grs (Nc.mxs a b) b).length = 0 ∧ Nc.e2 (Nc.mxs a b) a = 0 ∧ Nc.covB (Nc.mxs a b) a = true ∧ Nc.covB (Nc.mxs a b) b = true ∧
    Nc.e2 c b = Nc.e2 c a ∧ Nc.e2 c (Nc.mxs a b) = Nc.e2 c a ∧ Nc.covB c (Nc.mxs a b) = (Nc.covB c a && Nc.covB c b) := by
  have hl := (Nc.two_iff.1 h).2.2
  rw [Nc.mxs_yes h]
  have h1 := Nc.two_mx_b h
  have h2 := Nc.two_mx_a h
  obtain ⟨h3, h4⟩ := Nc.two_c (c := c) h
  refine ⟨Nc.e2_yes h1, ?_, ?_, Nc.e2_yes h2, ?_, ?_, ?_, ?_, ?_⟩
  · rw [Nc.mxs_yes h1, Nc.mx_length, Nc.mx_again]
  · rw [Nc.grs_yes h1, Nc.mx_length, Nc.grew_again]; rfl
  · unfold Nc.covB; rw [h2, Nc.mx_length, Nc.cov_mx_a]; rfl
  · unfold Nc.covB; rw [h1, Nc.mx_length, Nc.cov_mx_b]; rfl
  · unfold Nc.e2; rw [h3]
  · unfold Nc.e2; rw [h4]
  · unfold Nc.covB
    rw [h4, ← h3]
    cases hc : Nc.two c a with
    | false => rfl
    | true =>
      rw [(Nc.two_iff.1 hc).2.2, Nc.cov_mx]
      rfl
set_option maxRecDepth 100000 in
set_option maxHeartbeats 1000000 in
theorem joins_law (u v x : Value) (a b c : List Int) (w : World) (hu : IntsAt w u a) (hv : IntsAt w v b) (hx : IntsAt w x c) : Calls Try.prog 6 #[u, v, x] w fun e w' => e = .returned (.bool true) ∧ Below w.heap.size w w' := by
  have HU : Hid (IntsAt w u a) := hu
  have HV : Hid (IntsAt w v b) := hv
  have HX : Hid (IntsAt w x c) := hx
  obtain ⟨ao, ca, rfl, hma⟩ := hu.slice
  obtain ⟨bo, cb, rfl, hmb⟩ := hv.slice
  obtain ⟨co, cc, rfl, hmc⟩ := hx.slice
  clear hu hv hx
  have HC1 : Hid (Nc.mxs b a = Nc.mxs a b) := Nc.mxs_comm b a
  have HC2 : Hid (Nc.e2 b a = Nc.e2 a b) := Nc.e2_comm b a
  go_enter Try.func6, Try.ntmps6
  go_wp2_with fail
  refine (merge_any _ _ a b _ HU.out HV.out).mono ?_
  rintro e w1 ⟨m, g, rfl, hm, hg, hb1⟩
  have HM1 : Hid (IntsAt w1 m (Nc.mxs a b)) := hm
  have HB1 : Hid (Below w.heap.size w w1) := hb1
  obtain ⟨p1, c1, hh1, _⟩ := hm.slice
  subst hh1
  clear hm hg hb1
  go_wp2_with fail
  refine (merge_any _ _ b a _ (HV.out.up HB1.out) (HU.out.up HB1.out)).mono ?_
  rintro e w2 ⟨n, h, rfl, hn, hh, hb2⟩
  rw [HC1.out] at hn
  rw [HC2.out]
  have HM2 : Hid (IntsAt w2 (.slice p1 (Nc.mxs a b).length c1) (Nc.mxs a b)) := HM1.out.up hb2
  have HN2 : Hid (IntsAt w2 n (Nc.mxs a b)) := hn
  have HB2 : Hid (Below w.heap.size w w2) := bup HB1.out hb2
  clear hn hh hb2 HM1 HB1 HC1 HC2
  cases ht : Nc.two a b with
  | false =>
    have HE : Hid (Nc.e2 a b = 4) := Nc.e2_no ht
    have HZ : Hid ((Nc.mxs a b).length = 0) := show (Nc.mxs a b).length = 0 by rw [Nc.mxs_no ht]; rfl
    clear ht
    rw [HE.out]
    go_wp2_with fail
    refine (ints_same _ _ _ _ HM2.out HN2.out).mono ?_
    rintro e w3 ⟨rfl, hb3⟩
    have HB3 : Hid (Below w.heap.size w w3) := bup HB2.out hb3
    clear hb3 HM2 HN2 HB2
    rw [HZ.out]
    go_wp2_with fail
    refine (three_any _).mono ?_
    rintro e w4 ⟨rfl, hb4⟩
    have HB4 : Hid (Below w.heap.size w w4) := bup HB3.out hb4
    clear hb4
    go_wp2
    go_ret
    exact ⟨rfl, HB4.out⟩
  | true =>
    have HE : Hid (Nc.e2 a b = 0) := Nc.e2_yes ht
    have HJ : Hid _ := Nc.join_facts ht c
    clear ht
    rw [HE.out]
    go_wp2_with fail
    refine (ints_same _ _ _ _ HM2.out HN2.out).mono ?_
    rintro e w3 ⟨rfl, hb3⟩
    have HM3 : Hid (IntsAt w3 (.slice p1 (Nc.mxs a b).length c1) (Nc.mxs a b)) := HM2.out.up hb3
    have HB3 : Hid (Below w.heap.size w w3) := bup HB2.out hb3
    clear hb3 HM2 HN2 HB2
    go_wp2_with fail
    refine (merge_any _ _ _ b _ HM3.out (HV.out.up HB3.out)).mono ?_
    rintro e w4 ⟨ag, gr, rfl, hag, hgr, hb4⟩
    rw [HJ.out.1]
    rw [HJ.out.2.1] at hag
    obtain ⟨p2, c2, hh2, _⟩ := hgr.slice
    subst hh2
    rw [HJ.out.2.2.1]
    have HM4 : Hid (IntsAt w4 (.slice p1 (Nc.mxs a b).length c1) (Nc.mxs a b)) := HM3.out.up hb4
    have HA4 : Hid (IntsAt w4 ag (Nc.mxs a b)) := hag
    have HB4 : Hid (Below w.heap.size w w4) := bup HB3.out hb4
    clear hag hgr hb4 HM3 HB3
    go_wp2_with fail
    refine (covers_any _ _ _ a _ HM4.out (HU.out.up HB4.out)).mono ?_
    rintro e w5 ⟨rfl, q5, hw⟩
    rw [HJ.out.2.2.2.1, HJ.out.2.2.2.2.1]
    have hb5 : Below w4.heap.size w4 w5 := by rw [hw]; exact Go.below_drewN (Below.refl _ _) q5
    have HM5 : Hid (IntsAt w5 (.slice p1 (Nc.mxs a b).length c1) (Nc.mxs a b)) := HM4.out.up hb5
    have HA5 : Hid (IntsAt w5 ag (Nc.mxs a b)) := HA4.out.up hb5
    have HB5 : Hid (Below w.heap.size w w5) := bup HB4.out hb5
    clear hb5 hw HM4 HA4 HB4
    go_wp2_with fail
    refine (covers_any _ _ _ b _ HM5.out (HV.out.up HB5.out)).mono ?_
    rintro e w6 ⟨rfl, q6, hw⟩
    rw [HJ.out.1, HJ.out.2.2.2.2.2.1]
    have hb6 : Below w5.heap.size w5 w6 := by rw [hw]; exact Go.below_drewN (Below.refl _ _) q6
    have HM6 : Hid (IntsAt w6 (.slice p1 (Nc.mxs a b).length c1) (Nc.mxs a b)) := HM5.out.up hb6
    have HA6 : Hid (IntsAt w6 ag (Nc.mxs a b)) := HA5.out.up hb6
    have HB6 : Hid (Below w.heap.size w w6) := bup HB5.out hb6
    clear hb6 hw HM5 HA5 HB5
    go_wp2_with fail
    refine (ints_same _ _ _ _ HA6.out HM6.out).mono ?_
    rintro e w7 ⟨rfl, hb7⟩
    have HM7 : Hid (IntsAt w7 (.slice p1 (Nc.mxs a b).length c1) (Nc.mxs a b)) := HM6.out.up hb7
    have HB7 : Hid (Below w.heap.size w w7) := bup HB6.out hb7
    clear hb7 HM6 HA6 HB6
    go_wp2_with fail
    refine (covers_any _ _ c a _ (HX.out.up HB7.out) (HU.out.up HB7.out)).mono ?_
    rintro e w8 ⟨rfl, q8, hw⟩
    have hb8 : Below w7.heap.size w7 w8 := by rw [hw]; exact Go.below_drewN (Below.refl _ _) q8
    have HM8 : Hid (IntsAt w8 (.slice p1 (Nc.mxs a b).length c1) (Nc.mxs a b)) := HM7.out.up hb8
    have HB8 : Hid (Below w.heap.size w w8) := bup HB7.out hb8
    clear hb8 hw HM7 HB7
    go_wp2_with fail
    refine (covers_any _ _ c b _ (HX.out.up HB8.out) (HV.out.up HB8.out)).mono ?_
    rintro e w9 ⟨rfl, q9, hw⟩
    rw [HJ.out.2.2.2.2.2.2.1]
    have hb9 : Below w8.heap.size w8 w9 := by rw [hw]; exact Go.below_drewN (Below.refl _ _) q9
    have HM9 : Hid (IntsAt w9 (.slice p1 (Nc.mxs a b).length c1) (Nc.mxs a b)) := HM8.out.up hb9
    have HB9 : Hid (Below w.heap.size w w9) := bup HB8.out hb9
    clear hb9 hw HM8 HB8
    go_wp2_with fail
    refine (covers_any _ _ c _ _ (HX.out.up HB9.out) HM9.out).mono ?_
    rintro e w10 ⟨rfl, q10, hw⟩
    rw [HJ.out.2.2.2.2.2.2.2.1, HJ.out.2.2.2.2.2.2.2.2]
    have HB10 : Hid (Below w.heap.size w w10) := bup HB9.out (by rw [hw]; exact Go.below_drewN (Below.refl _ _) q10)
    clear hw HM9 HB9 HJ
    generalize Nc.e2 c a = y at *
    generalize Nc.covB c a = r1 at *
    generalize Nc.covB c b = r2 at *
    cases r1 <;> cases r2
    all_goals
      go_wp2_with fail
      refine (three_any _).mono ?_
      rintro e w11 ⟨rfl, hb11⟩
      have HB11 : Hid (Below w.heap.size w w11) := bup HB10.out hb11
      clear hb11
      go_wp2
      go_ret
      exact ⟨rfl, HB11.out⟩

set_option maxRecDepth 100000 in
theorem nonceJoins_lifted (os : Os) (started : os.Started) (H : Type) (enc : TypeId × Value → H) :
    ReturnsInHanded {} Try.checked os 6 .any (Rows.nonceJoinsSpec.pre6 enc Try.prog Try.f6 Rows.nonceJoinsRow.domain false) (Rows.nonceJoinsSpec.post enc Try.prog Try.f6 false true false false) := by
  refine returnsInHanded_of_change (C := Try.checked) own started (by kernel_rfl) Try.func6
    (ChangeSpec.witness6 (enc := enc) (C := Try.checked) false ⟨#[], #[.slice none 0 0, .slice none 0 0, .slice none 0 0], []⟩ 8 (by kernel_rfl) (by kernel_rfl) (by kernel_rfl) (by kernel_rfl)) ?_
  intro W base args ds gs before hval0 hW hcnd _
  have hval : ∀ (j : Nat) t v, Try.f6.params[j]? = some t → args[j]? = some v → Value.okWide Try.prog W .any base t v := hval0
  have hW' := hW
  obtain ⟨p, q, hA0, hV, rfl, hfz, hnd⟩ := hW
  have hA : DataW.TrodAll enc Try.prog W 0 (fun _ => true) true Try.f6.params.toList args.toList ds p := hA0
  rw [Try.params6] at hA hval
  obtain ⟨v0, v1, v2, d0, d1, d2, p0, p1, p2, rfl, rfl, rfl, h0, h1, h2⟩ := trodAll_three hA
  obtain ⟨rfl, rfl⟩ := trodVars_none hV
  obtain ⟨l0, hl0⟩ := open_intsAt (hval 0 22 v0 rfl rfl) h0
  obtain ⟨l1, hl1⟩ := open_intsAt (hval 1 22 v1 rfl rfl) h1
  obtain ⟨l2, hl2⟩ := open_intsAt (hval 2 22 v2 rfl rfl) h2
  refine (joins_law v0 v1 v2 l0 l1 l2 W hl0 hl1 hl2).mono fun e W' ⟨he, hg⟩ => ⟨_, he, ?_⟩
  exact Law.post laidOut (by kernel_rfl) rfl Try.underlying4 hW' rfl rfl hg

theorem nonceJoins_holds : Rows.NonceJoinsSaid :=
  OpenClaim.holds_of_wide 6 Try.f6 rfl rfl rfl rfl rfl rfl rfl ⟨rfl, rfl, rfl, rfl, rfl⟩ rfl rfl rfl rfl rfl (by kernel_rfl) Try.func6 (by kernel_rfl)
    (of_decide_eq_true (by kernel_rfl)) (by unfold Func.isWrapper; first | (rw [if_pos (by decide +kernel)]; kernel_rfl) | (rw [if_neg (by decide +kernel)]; exact ⟨rfl, rfl⟩))
    (fun os started H enc _ => nonceJoins_lifted os started H enc)
#print axioms nonceJoins_holds
end Go.Proofs.Ytbjbfmdlkdiiaaa
