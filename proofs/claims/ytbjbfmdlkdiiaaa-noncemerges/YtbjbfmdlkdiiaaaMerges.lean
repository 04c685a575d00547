/-
  For any two slices of ints sextonlaw20.NonceMerges returns true, whatever the memory: the greater nonces of two vectors, and whose grew; and which covers which. No condition.
-/
import Derived.Test.YtbjbfmdlkdiiaaaRBe
import Derived.Test.YtbjbfmdlkdiiaaaLaw
namespace Go.Proofs.Ytbjbfmdlkdiiaaa
open Go.ChangeShapes Go.WideShapes Go.ChangeAt Go.RowKit

/-- A slice of ints that came in. -/
theorem open_intsAt {H : Type} {enc : TypeId × Value → H} {W : World} {base : Nat} {v : Value} {d : DataW H} {p : List MemPlace} (hv : Value.okWide Try.prog W .any base 22 v) (h : DataW.Trod enc Try.prog W 0 (fun _ => true) true 22 v d p) : ∃ l, IntsAt W v l := by
  obtain ⟨a, len, cap, rfl⟩ := okWide_slice Try.underlying22 hv
  obtain ⟨fuel, hf⟩ := h
  rcases open_ints Try.underlying22 Try.underlying3 (by kernel_rfl) (by simpa [Value.cells] using hf) with ⟨hcs, _⟩ | ⟨a', len', cap', zs, hcs, _, hl, hm, hz, _, hcell, hwz⟩
  · simp at hcs
    obtain ⟨rfl, rfl, rfl⟩ := hcs
    exact ⟨[], .inl ⟨_, _, rfl, rfl⟩⟩
  · simp at hcs
    obtain ⟨rfl, rfl, rfl⟩ := hcs
    have hz' : zs.length = cap := by simpa using hz
    refine ⟨zs.take len, ?_⟩
    have hlen : (zs.take len).length = len := by simp; omega
    by_cases hp : 0 < len
    · have h0 := hcell 0 (by omega)
      obtain ⟨b, off, spot⟩ := a'
      have hspot : spot = none := by simpa [Addr.add] using World.cell?_spot h0
      subst hspot
      refine .inr ⟨b, off, cap, by rw [hlen], World.block_lt_of_cell? _ _ h0, by omega, by omega, hm, fun i hi => ?_⟩
      have := hcell i (by omega)
      rw [WideShapes.add_plain] at this
      rw [this]
      simp only [List.getD_eq_getElem?_getD]
      rw [List.getElem?_take_of_lt (by omega)]
    · have : len = 0 := by omega
      subst this
      exact .inl ⟨_, _, rfl, by simp⟩

theorem Nc.covB_eq (a b : List Int) : Nc.covB a b = (decide (Nc.e2 a b = 0) && decide ((Nc.grs a b).length = 0)) := by
  unfold Nc.covB
  cases h : Nc.two a b with
  | false => rw [Nc.e2_no h]; rfl
  | true => rw [Nc.e2_yes h, Nc.grs_yes h, Nc.cov_grew]; simp
set_option maxRecDepth 100000 in
set_option maxHeartbeats 1000000 in
theorem merges_law (u v : Value) (a b : List Int) (w : World) (hu : IntsAt w u a) (hv : IntsAt w v b) : Calls Try.prog 4 #[u, v] w fun e w' => e = .returned (.bool true) ∧ Below w.heap.size w w' := by
  have HU : Hid (IntsAt w u a) := hu
  have HV : Hid (IntsAt w v b) := hv
  obtain ⟨ao, ca, rfl, hma⟩ := hu.slice
  obtain ⟨bo, cb, rfl, hmb⟩ := hv.slice
  clear hu hv
  go_enter Try.func4, Try.ntmps4
  go_wp2_with fail
  refine (merge_any _ _ a b _ HU.out HV.out).mono ?_
  rintro e w1 ⟨m, g, rfl, hm, hg, hb1⟩
  have HM : Hid (IntsAt w1 m (Nc.mxs a b)) := hm
  have HG : Hid (IntsAt w1 g (Nc.grs a b)) := hg
  have HB1 : Hid (Below w.heap.size w w1) := hb1
  clear hm hg hb1
  go_wp2_with fail
  refine (rmerge_any _ _ a b _ (HU.out.up HB1.out) (HV.out.up HB1.out)).mono ?_
  rintro e w2 ⟨n, h, rfl, hn, hh, hb2⟩
  have HM2 : Hid (IntsAt w2 m (Nc.mxs a b)) := HM.out.up hb2
  have HG2 : Hid (IntsAt w2 g (Nc.grs a b)) := HG.out.up hb2
  have HN2 : Hid (IntsAt w2 n (Nc.mxs a b)) := hn
  have HH2 : Hid (IntsAt w2 h (Nc.grs a b)) := hh
  have HB2 : Hid (Below w.heap.size w w2) := bup HB1.out hb2
  obtain ⟨p4, c4, hh4, _⟩ := hh.slice
  subst hh4
  clear hn hh hb2 HM HG HB1
  go_wp2_with fail
  refine (covers_any _ _ a b _ (HU.out.up HB2.out) (HV.out.up HB2.out)).mono ?_
  rintro e w3 ⟨rfl, q3, hw⟩
  have hb3 : Below w2.heap.size w2 w3 := by rw [hw]; exact Go.below_drewN (Below.refl _ _) q3
  have HM3 : Hid (IntsAt w3 m (Nc.mxs a b)) := HM2.out.up hb3
  have HN3 : Hid (IntsAt w3 n (Nc.mxs a b)) := HN2.out.up hb3
  have HG3 : Hid (IntsAt w3 g (Nc.grs a b)) := HG2.out.up hb3
  have HH3 : Hid (IntsAt w3 (.slice p4 (Nc.grs a b).length c4) (Nc.grs a b)) := HH2.out.up hb3
  have HB3 : Hid (Below w.heap.size w w3) := bup HB2.out hb3
  clear hw hb3 HM2 HN2 HG2 HH2 HB2
  go_wp2_with fail
  refine (ints_same _ _ _ _ HM3.out HN3.out).mono ?_
  rintro e w4 ⟨rfl, hb4⟩
  have HG4 : Hid (IntsAt w4 g (Nc.grs a b)) := HG3.out.up hb4
  have HH4 : Hid (IntsAt w4 (.slice p4 (Nc.grs a b).length c4) (Nc.grs a b)) := HH3.out.up hb4
  have HB4 : Hid (Below w.heap.size w w4) := bup HB3.out hb4
  clear hb4 HG3 HH3 HB3 HM3 HN3
  go_wp2_with fail
  refine (ints_same _ _ _ _ HG4.out HH4.out).mono ?_
  rintro e w5 ⟨rfl, hb5⟩
  have HB5 : Hid (Below w.heap.size w w5) := bup HB4.out hb5
  clear hb5 HG4 HH4 HB4
  have hq := Nc.covB_eq a b
  generalize Nc.covB a b = c at *
  generalize (Nc.grs a b).length = z at *
  by_cases he : Nc.e2 a b = 0
  · rw [he] at hq ⊢
    by_cases hz : z = 0
    · subst hz
      have hc : c = true := by simpa using hq
      subst hc
      clear hq he
      go_wp2_with fail
      refine (three_any _).mono ?_
      rintro e w6 ⟨rfl, hb6⟩
      have HB6 : Hid (Below w.heap.size w w6) := bup HB5.out hb6
      clear hb6
      go_wp2
      go_ret
      exact ⟨rfl, HB6.out⟩
    · have hc : c = false := by simpa [hz] using hq
      subst hc
      have hz' : ((z : Int) == 0) = false := by simp; omega
      clear hq hz he
      go_wp2_with fail
      refine (three_any _).mono ?_
      rintro e w6 ⟨rfl, hb6⟩
      have HB6 : Hid (Below w.heap.size w w6) := bup HB5.out hb6
      clear hb6
      go_wp2
      go_ret
      exact ⟨rfl, HB6.out⟩
  · have hc : c = false := by simpa [he] using hq
    subst hc
    have he' : (Nc.e2 a b == 0) = false := by simpa using he
    generalize Nc.e2 a b = y at *
    clear hq he
    go_wp2_with fail
    refine (three_any _).mono ?_
    rintro e w6 ⟨rfl, hb6⟩
    have HB6 : Hid (Below w.heap.size w w6) := bup HB5.out hb6
    clear hb6
    go_wp2
    go_ret
    exact ⟨rfl, HB6.out⟩

set_option maxRecDepth 100000 in
theorem nonceMerges_lifted (os : Os) (started : os.Started) (H : Type) (enc : TypeId × Value → H) :
    ReturnsInHanded {} Try.checked os 4 .any (Rows.nonceMergesSpec.pre6 enc Try.prog Try.f4 Rows.nonceMergesRow.domain false) (Rows.nonceMergesSpec.post enc Try.prog Try.f4 false true false false) := by
  refine returnsInHanded_of_change (C := Try.checked) own started (by kernel_rfl) Try.func4
    (ChangeSpec.witness6 (enc := enc) (C := Try.checked) false ⟨#[], #[.slice none 0 0, .slice none 0 0], []⟩ 8 (by kernel_rfl) (by kernel_rfl) (by kernel_rfl) (by kernel_rfl)) ?_
  intro W base args ds gs before hval0 hW hcnd _
  have hval : ∀ (j : Nat) t v, Try.f4.params[j]? = some t → args[j]? = some v → Value.okWide Try.prog W .any base t v := hval0
  have hW' := hW
  obtain ⟨p, q, hA0, hV, rfl, hfz, hnd⟩ := hW
  have hA : DataW.TrodAll enc Try.prog W 0 (fun _ => true) true Try.f4.params.toList args.toList ds p := hA0
  rw [Try.params4] at hA hval
  obtain ⟨v0, v1, d0, d1, p0, p1, rfl, rfl, rfl, h0, h1⟩ := trodAll_two hA
  obtain ⟨rfl, rfl⟩ := trodVars_none hV
  obtain ⟨l0, hl0⟩ := open_intsAt (hval 0 22 v0 rfl rfl) h0
  obtain ⟨l1, hl1⟩ := open_intsAt (hval 1 22 v1 rfl rfl) h1
  refine (merges_law v0 v1 l0 l1 W hl0 hl1).mono fun e W' ⟨he, hg⟩ => ⟨_, he, ?_⟩
  exact Law.post laidOut (by kernel_rfl) rfl Try.underlying4 hW' rfl rfl hg

theorem nonceMerges_holds : Rows.NonceMergesSaid :=
  OpenClaim.holds_of_wide 4 Try.f4 rfl rfl rfl rfl rfl rfl rfl ⟨rfl, rfl, rfl, rfl, rfl⟩ rfl rfl rfl rfl rfl (by kernel_rfl) Try.func4 (by kernel_rfl)
    (of_decide_eq_true (by kernel_rfl)) (by unfold Func.isWrapper; first | (rw [if_pos (by decide +kernel)]; kernel_rfl) | (rw [if_neg (by decide +kernel)]; exact ⟨rfl, rfl⟩))
    (fun os started H enc _ => nonceMerges_lifted os started H enc)
#print axioms nonceMerges_holds
end Go.Proofs.Ytbjbfmdlkdiiaaa
