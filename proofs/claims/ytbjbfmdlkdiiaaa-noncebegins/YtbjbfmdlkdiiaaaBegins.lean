/-
  For any slice of ints and any two ints sextonlaw20.NonceBegins returns true, whatever the memory: which vectors there are, a new one, and that with which a life begins. No condition.
-/
import Derived.Test.YtbjbfmdlkdiiaaaRBe
import Derived.Test.YtbjbfmdlkdiiaaaLaw
namespace Go.Proofs.Ytbjbfmdlkdiiaaa
open Go.ChangeShapes Go.WideShapes Go.ChangeAt Go.RowKit

/-- A slice of ints that came in. -/
theorem open_intsAt {H : Type} {enc : TypeId × Value → H} {W : World} {base : Nat} {v : Value} {d : DataW H} {p : List MemPlace} (hv : Value.okWide Try.prog W .any base 22 v) (h : DataW.Trod enc Try.prog W 0 (fun _ => true) true 22 v d p) : ∃ l, IntsAt W v l := by
  obtain ⟨a, len, cap, rfl⟩ := okWide_slice Try.underlying22 hv
  obtain ⟨fuel, hf⟩ := h
  rcases open_ints Try.underlying22 Try.underlying3 (by kernel_rfl) (by simpa [Value.cells] using hf) with ⟨hcs, _⟩ | ⟨a', len', cap', zs, hcs, _, hl, hm, hz, _, hcell, hwz⟩
  · simp at hcs
    obtain ⟨rfl, rfl, rfl⟩ := hcs
    exact ⟨[], .inl ⟨_, _, rfl, rfl⟩⟩
  · simp at hcs
    obtain ⟨rfl, rfl, rfl⟩ := hcs
    have hz' : zs.length = cap := by simpa using hz
    refine ⟨zs.take len, ?_⟩
    have hlen : (zs.take len).length = len := by simp; omega
    by_cases hp : 0 < len
    · have h0 := hcell 0 (by omega)
      obtain ⟨b, off, spot⟩ := a'
      have hspot : spot = none := by simpa [Addr.add] using World.cell?_spot h0
      subst hspot
      refine .inr ⟨b, off, cap, by rw [hlen], World.block_lt_of_cell? _ _ h0, by omega, by omega, hm, fun i hi => ?_⟩
      have := hcell i (by omega)
      rw [WideShapes.add_plain] at this
      rw [this]
      simp only [List.getD_eq_getElem?_getD]
      rw [List.getElem?_take_of_lt (by omega)]
    · have : len = 0 := by omega
      subst this
      exact .inl ⟨_, _, rfl, by simp⟩

theorem Nc.chk_zero (l : List Int) : (Nc.chk l == 0) = Nc.vec l := by
  cases h : Nc.vec l with
  | false => rw [Nc.chk_no h]; rfl
  | true => rw [Nc.chk_yes h]; rfl
set_option maxRecDepth 100000 in
set_option maxHeartbeats 1000000 in
theorem begins_law (u : Value) (a : List Int) (node x : Int) (w : World) (hu : IntsAt w u a) : Calls Try.prog 3 #[u, .int .i64 node, .int .i64 x] w fun e w' => e = .returned (.bool true) ∧ Below w.heap.size w w' := by
  have HU : Hid (IntsAt w u a) := hu
  obtain ⟨ao, ca, rfl, hma⟩ := hu.slice
  unfold maxLen at hma
  clear hu
  go_enter Try.func3, Try.ntmps3
  go_wp2_with fail
  refine (new_any _ _).mono ?_
  rintro e w1 ⟨v1, rfl, hv1, hb1⟩
  have HV1 : Hid (IntsAt w1 v1 (Nc.zer a.length)) := hv1
  have HB1 : Hid (Below w.heap.size w w1) := hb1
  obtain ⟨p1, c1, hh1, _⟩ := hv1.slice
  subst hh1
  clear hv1 hb1
  go_wp2_with fail
  refine (begin_any _ _ _ _).mono ?_
  rintro e w2 ⟨v2, rfl, hv2, hb2⟩
  have HV12 : Hid (IntsAt w2 (.slice p1 (Nc.zer a.length).length c1) (Nc.zer a.length)) := HV1.out.up hb2
  have HV22 : Hid (IntsAt w2 v2 (Nc.begL a.length node x)) := hv2
  have HB2 : Hid (Below w.heap.size w w2) := bup HB1.out hb2
  clear hv2 hb2 HB1 HV1
  go_wp2_with fail
  refine (rbegin_any _ _ _ _).mono ?_
  rintro e w3 ⟨v3, rfl, hv3, hb3⟩
  have HV13 : Hid (IntsAt w3 (.slice p1 (Nc.zer a.length).length c1) (Nc.zer a.length)) := HV12.out.up hb3
  have HV23 : Hid (IntsAt w3 v2 (Nc.begL a.length node x)) := HV22.out.up hb3
  have HV33 : Hid (IntsAt w3 v3 (Nc.begL a.length node x)) := hv3
  have HB3 : Hid (Below w.heap.size w w3) := bup HB2.out hb3
  have HU3 : Hid (IntsAt w3 (.slice ao a.length ca) a) := HU.out.up HB3.out
  clear hv3 hb3 HV12 HV22 HB2
  go_wp2_with fail
  refine (check_any _ a _ HU3.out).mono ?_
  rintro e w4 ⟨rfl, rfl⟩
  have hq := Nc.chk_zero a
  generalize Nc.chk a = c at *
  go_wp2_with fail
  refine (right_any _ a _ HU3.out).mono ?_
  rintro e w5 ⟨rfl, rfl⟩
  generalize Nc.vec a = d at *
  subst hq
  go_wp2_with fail
  refine (ints_same _ _ _ _ HV23.out HV33.out).mono ?_
  rintro e w6 ⟨rfl, hb6⟩
  have HV16 : Hid (IntsAt w6 (.slice p1 (Nc.zer a.length).length c1) (Nc.zer a.length)) := HV13.out.up hb6
  have HB6 : Hid (Below w.heap.size w w6) := bup HB3.out hb6
  clear hb6 HV13 HV23 HV33 HB3 HU3
  generalize Nc.begE a.length node x = y at *
  go_wp2_with fail
  refine (panel_any _ _).mono ?_
  rintro e w7 ⟨rfl, rfl⟩
  cases hC : Nc.isC a.length with
  | false =>
    have HE : Hid (Nc.newE a.length = 1) := show Nc.newE a.length = 1 by unfold Nc.newE; rw [hC]; rfl
    have HZ : Hid ((Nc.zer a.length).length = 0) := show (Nc.zer a.length).length = 0 by unfold Nc.zer; rw [hC]; rfl
    clear hC
    rw [HE.out, HZ.out]
    go_wp2_with fail
    refine (three_any _).mono ?_
    rintro e w8 ⟨rfl, hb8⟩
    have HB8 : Hid (Below w.heap.size w w8) := bup HB6.out hb8
    clear hb8
    go_wp2
    go_ret
    exact ⟨rfl, HB8.out⟩
  | true =>
    have HE : Hid (Nc.newE a.length = 0) := show Nc.newE a.length = 0 by unfold Nc.newE; rw [hC]; rfl
    have hZ : Nc.zer a.length = List.replicate a.length 0 := by unfold Nc.zer; rw [hC]; rfl
    have hn := Nc.isC_le hC
    have hl : (Nc.zer a.length).length = a.length := by rw [hZ]; simp
    rw [hl] at HV16 ⊢
    obtain ⟨b, off, cap, hv, hB, hlc, hcm, hx⟩ := HV16.out.pos (by omega)
    rw [hl] at hv
    cases hv
    have HX : Hid (∀ i, i < a.length → w7.cell? ⟨b, off + i, none⟩ = some (.int .i64 0)) := fun i hi => by
      rw [hx i (by omega), hZ]
      simp [List.getD, hi]
    clear hC hl hx hlc HV16 hZ
    rw [HE.out]
    generalize a.length = n at *
    go_wp2
    go_loop [70] (fun t => ∃ k : Nat, k ≤ n ∧ t = .int .i64 k) (fun t => n - (intOf t).toNat)
    case atStart => exact ⟨0, Nat.zero_le _, rfl⟩
    case round =>
      obtain ⟨k, hk, rfl⟩ := hrel
      by_cases hlt : k < n
      · have c0 := HX.out k hlt
        have hltI : (k : Int) < (n : Int) := by omega
        go_wp2
        go_round
        case rel => exact ⟨k + 1, by omega, by go_num⟩
        case measure => simp [intOf]; omega
      · obtain rfl : n = k := by omega
        go_wp2_with fail
        refine (three_any _).mono ?_
        rintro e w8 ⟨rfl, hb8⟩
        have HB8 : Hid (Below w.heap.size w w8) := bup HB6.out hb8
        clear hb8
        go_wp2
        go_ret
        exact ⟨rfl, HB8.out⟩

set_option maxRecDepth 100000 in
theorem nonceBegins_lifted (os : Os) (started : os.Started) (H : Type) (enc : TypeId × Value → H) :
    ReturnsInHanded {} Try.checked os 3 .any (Rows.nonceBeginsSpec.pre6 enc Try.prog Try.f3 Rows.nonceBeginsRow.domain false) (Rows.nonceBeginsSpec.post enc Try.prog Try.f3 false true false false) := by
  refine returnsInHanded_of_change (C := Try.checked) own started (by kernel_rfl) Try.func3
    (ChangeSpec.witness6 (enc := enc) (C := Try.checked) false ⟨#[], #[.slice none 0 0, .int .i64 0, .int .i64 0], []⟩ 8 (by kernel_rfl) (by kernel_rfl) (by kernel_rfl) (by kernel_rfl)) ?_
  intro W base args ds gs before hval0 hW hcnd _
  have hval : ∀ (j : Nat) t v, Try.f3.params[j]? = some t → args[j]? = some v → Value.okWide Try.prog W .any base t v := hval0
  have hW' := hW
  obtain ⟨p, q, hA0, hV, rfl, hfz, hnd⟩ := hW
  have hA : DataW.TrodAll enc Try.prog W 0 (fun _ => true) true Try.f3.params.toList args.toList ds p := hA0
  rw [Try.params3] at hA hval
  obtain ⟨v0, v1, v2, d0, d1, d2, p0, p1, p2, rfl, rfl, rfl, h0, h1, h2⟩ := trodAll_three hA
  obtain ⟨rfl, rfl⟩ := trodVars_none hV
  obtain ⟨l0, hl0⟩ := open_intsAt (hval 0 22 v0 rfl rfl) h0
  obtain ⟨a1, rfl, rfl, rfl, w1⟩ := open_int Try.underlying3 (hval 1 3 v1 rfl rfl) h1
  obtain ⟨a2, rfl, rfl, rfl, w2⟩ := open_int Try.underlying3 (hval 2 3 v2 rfl rfl) h2
  refine (begins_law v0 l0 a1 a2 W hl0).mono fun e W' ⟨he, hg⟩ => ⟨_, he, ?_⟩
  exact Law.post laidOut (by kernel_rfl) rfl Try.underlying4 hW' rfl rfl hg

theorem nonceBegins_holds : Rows.NonceBeginsSaid :=
  OpenClaim.holds_of_wide 3 Try.f3 rfl rfl rfl rfl rfl rfl rfl ⟨rfl, rfl, rfl, rfl, rfl⟩ rfl rfl rfl rfl rfl (by kernel_rfl) Try.func3 (by kernel_rfl)
    (of_decide_eq_true (by kernel_rfl)) (by unfold Func.isWrapper; first | (rw [if_pos (by decide +kernel)]; kernel_rfl) | (rw [if_neg (by decide +kernel)]; exact ⟨rfl, rfl⟩))
    (fun os started H enc _ => nonceBegins_lifted os started H enc)
#print axioms nonceBegins_holds
end Go.Proofs.Ytbjbfmdlkdiiaaa
