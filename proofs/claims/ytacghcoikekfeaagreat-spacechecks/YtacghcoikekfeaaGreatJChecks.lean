/-
  SpaceChecks.
-/
import Derived.Test.YtacghcoikekfeaaGreatRows
import Derived.Test.YtacghcoikekfeaaGreatM16
namespace Go.Proofs.YtacghcoikekfeaaGreat
open Go.ChangeShapes Go.WideShapes Go.ChangeAt Go.RowKit Go.Deep It
set_option maxRecDepth 100000
set_option maxHeartbeats 4000000 in
theorem checks_any (v : Value) (L : List Rw) (w : World) (hv : TabW w v L) (hok : Sp.okN L) :
    Calls Tryz.prog 3 #[v] w fun e w' => e = .returned (.bool true) ∧ Below w.heap.size w w' := by
  have HV : Hid (TabW w v L) := hv
  have HOK : Hid (Sp.okN L) := hok
  obtain ⟨ao, cap, rfl, -, -⟩ := hv.open
  obtain ⟨n, hn⟩ : ∃ n, L.length = n := ⟨_, rfl⟩
  rw [hn] at HV ⊢
  clear hv hok hn
  go_enter Tryz.func3, Tryz.ntmps3
  go_wp2_with fail
  refine (large_any _ L _ HV.out).mono ?_
  rintro e w1 ⟨b, rfl, hb1⟩
  have HB1 : Hid (Below w.heap.size w w1) := hb1
  clear hb1
  cases b
  · obtain ⟨r, hr⟩ : ∃ r, Sp.isSp (pl L) = r := ⟨_, rfl⟩
    obtain ⟨c, hc⟩ : ∃ c, Sp.chk Sp.isSp (pl L) = c := ⟨_, rfl⟩
    have HC : Hid (Sp.chk Sp.isSp (pl L) = c ∧ Sp.isSp (pl L) = r) := ⟨hc, hr⟩
    have hcr : ((c == 0) == r) = true := by
      rw [← hc]
      unfold Sp.chk
      rw [hr]
      cases r <;> rfl
    clear hr hc
    go_wp2_with fail
    refine (scheck_any _ _ L _ (HV.out.up HB1.out) HOK.out).mono ?_
    rintro e w2 ⟨rfl, hb2⟩
    rw [HC.out.1]
    have HB2 : Hid (Below w.heap.size w w2) := HB1.out.trans (hb2.mono HB1.out.size)
    clear hb2
    go_wp2_with fail
    refine (rspace_any _ _ L _ (HV.out.up HB2.out) HOK.out).mono ?_
    rintro e w3 ⟨rfl, hb3⟩
    rw [HC.out.2]
    have HB3 : Hid (Below w.heap.size w w3) := HB2.out.trans (hb3.mono HB2.out.size)
    clear hb3
    go_wp2_with fail
    refine (paths_any _ L _ (HV.out.up HB3.out) HOK.out).mono ?_
    rintro e w4 ⟨u4, rfl, ho4, hb4⟩
    rw [Sp.paths_same] at ho4
    have HB4 : Hid (Below w.heap.size w w4) := HB3.out.trans (hb4.mono HB3.out.size)
    have HO4 : Hid (AtW ETx w4 u4 (Sp.pathsR (pl L))) := ho4
    obtain ⟨p4, c4, rfl, -, -⟩ := ho4.open
    clear ho4 hb4
    go_wp2_with fail
    refine (rpaths_any _ L _ (HV.out.up HB4.out) HOK.out).mono ?_
    rintro e w5 ⟨u5, rfl, ho5, hb5⟩
    have HB5 : Hid (Below w.heap.size w w5) := HB4.out.trans (hb5.mono HB4.out.size)
    have HO5 : Hid (AtW ETx w5 (.slice p4 (Sp.pathsR (pl L)).length c4) (Sp.pathsR (pl L)) ∧ AtW ETx w5 u5 (Sp.pathsR (pl L))) := ⟨HO4.out.up hb5, ho5⟩
    obtain ⟨p5, c5, rfl, -, -⟩ := ho5.open
    clear ho5 hb5
    go_wp2_with fail
    refine (texts_same _ _ _ _ HO5.out.1 HO5.out.2).mono ?_
    rintro e w6 ⟨rfl, hb6⟩
    have HB6 : Hid (Below w.heap.size w w6) := HB5.out.trans (hb6.mono HB5.out.size)
    clear hb6
    go_wp2_with fail
    refine (little_any _).mono ?_
    rintro e w7 ⟨rfl, hb7⟩
    have HB7 : Hid (Below w.heap.size w w7) := HB6.out.trans (hb7.mono HB6.out.size)
    clear hb7
    go_wp2
    go_ret
    exact ⟨rfl, HB7.out⟩
  · go_wp2_with fail
    refine (little_any _).mono ?_
    rintro e w7 ⟨rfl, hb7⟩
    have HB7 : Hid (Below w.heap.size w w7) := HB1.out.trans (hb7.mono HB1.out.size)
    clear hb7
    go_wp2
    go_ret
    exact ⟨rfl, HB7.out⟩

set_option maxRecDepth 100000 in
theorem spaceChecks_lifted (os : Os) (started : os.Started) (H : Type) (enc : TypeId × Value → H) :
    ReturnsInHanded {} Tryz.checked os 3 .any (Rows.spaceChecksSpec.pre6 enc Tryz.prog Tryz.f3 Rows.spaceChecksRow.domain false) (Rows.spaceChecksSpec.post enc Tryz.prog Tryz.f3 false true false false) := by
  refine returnsInHanded_of_change_sized (C := Tryz.checked) own started (by kernel_rfl) Tryz.func3
    (ChangeSpec.witness6 (enc := enc) (C := Tryz.checked) false ⟨#[], #[.slice none 0 0], []⟩ 8 (by kernel_rfl) (by kernel_rfl) (by kernel_rfl) (by kernel_rfl)) ?_
  intro W base args ds gs before hval0 hW hcnd hsized _
  have hval : ∀ (j : Nat) t v, Tryz.f3.params[j]? = some t → args[j]? = some v → Value.okWide Tryz.prog W .any base t v := hval0
  have hW' := hW
  have hlt : ∀ x ∈ before, x.block < W.heap.size := fun x hx => by simpa using hW'.lt x hx
  obtain ⟨p, q, hA0, hV, rfl, hfz, hnd⟩ := hW
  have hA : DataW.TrodAll enc Tryz.prog W 0 (fun _ => true) true Tryz.f3.params.toList args.toList ds p := hA0
  rw [Tryz.params3] at hA hval
  obtain ⟨v0, d0, rfl, rfl, h0⟩ := trodAll_one hA
  obtain ⟨rfl, rfl⟩ := trodVars_none hV
  have hwt0 : ∀ n ∈ d0.weights Tryz.prog 22, n ≤ reachBytes := fun n hn => by
    have := List.all_eq_true.1 hsized n (DataW.weights_mem_each (j := 0) (t := 22) (d := d0) rfl rfl n hn)
    simpa using this
  obtain ⟨L, hL, hLn⟩ := sopen_tab (okWide_slice Tryz.underlying22 (hval 0 22 v0 rfl rfl)) h0 hwt0
  refine (checks_any v0 L W hL hLn).mono fun e W' ⟨he, hg⟩ => ⟨_, he, ?_⟩
  exact Law.post laidOut (by kernel_rfl) rfl Tryz.underlying4 hW' rfl rfl hg

theorem spaceChecks_holds : Rows.SpaceChecksSaid :=
  OpenClaim.holds_of_wide 3 Tryz.f3 rfl rfl rfl rfl rfl rfl rfl ⟨rfl, rfl, rfl, rfl, rfl⟩ rfl rfl rfl rfl rfl (by kernel_rfl) Tryz.func3 (by kernel_rfl)
    (of_decide_eq_true (by kernel_rfl)) (by unfold Func.isWrapper; first | (rw [if_pos (by decide +kernel)]; kernel_rfl) | (rw [if_neg (by decide +kernel)]; exact ⟨rfl, rfl⟩))
    (fun os started H enc _ => spaceChecks_lifted os started H enc)
#print axioms spaceChecks_holds
end Go.Proofs.YtacghcoikekfeaaGreat
