/-
  SeatAsks: for all seats, every client and every request the call answers true, and the arguments read as before. No condition.
-/
import Derived.Test.YtaojdndhhgmdmaaRefP
import Derived.Test.YtaojdndhhgmdmaaOne
import Derived.Test.YtaojdndhhgmdmaaOpenA
import Derived.Test.YtaojdndhhgmdmaaLaw
namespace Go.Proofs.Ytaojdndhhgmdmaa
open Go.ChangeShapes Go.WideShapes Go.ChangeAt Go.RowKit Go.Deep
set_option maxHeartbeats 4000000 in
theorem asks_any (v : Value) (l : List Sea) (c r : Int) (w : World) (hv : AtW ES w v l) :
    Calls Try.prog 3 #[v, .int .i64 c, .int .i64 r] w fun e w' => e = .returned (.bool true) ∧ Below w.heap.size w w' := by
  have HV : Hid (AtW ES w v l) := hv
  clear hv
  obtain ⟨wh, hwh⟩ : ∃ wh, Se.what l c r = wh := ⟨_, rfl⟩
  obtain ⟨td, htd⟩ : ∃ td, Se.told l c r = td := ⟨_, rfl⟩
  obtain ⟨re, hre⟩ : ∃ re, Se.rErr l c r = re := ⟨_, rfl⟩
  obtain ⟨de, hde⟩ : ∃ de, Se.dropErr l c = de := ⟨_, rfl⟩
  have HF : Hid (Se.what l c r = wh ∧ Se.told l c r = td ∧ Se.rErr l c r = re ∧ Se.dropErr l c = de) := ⟨hwh, htd, hre, hde⟩
  have t1 : (wh == wh) = true := beq_self_eq_true wh
  have t2 : (re == re) = true := beq_self_eq_true re
  have t3 : (de == de) = true := beq_self_eq_true de
  have t4 : (td.toList == td.toList) = true := beq_self_eq_true _
  clear hwh htd hre hde
  obtain ⟨ck, hck⟩ : ∃ ck : Bool, Se.ok l = ck := ⟨_, rfl⟩
  have HCK : Hid (Se.ok l = ck) := hck
  have HCE : Hid ((if Se.ok l = true then (0 : Int) else 4) = (if ck = true then 0 else 4)) := by show (if Se.ok l = true then (0 : Int) else 4) = _; rw [hck]
  clear hck
  go_enter Try.func3, Try.ntmps3
  go_wp2_with fail
  refine (ask_any v l c r _ HV.out).mono ?_
  rintro e w1 ⟨rfl, hb⟩
  rw [HF.out.1, HF.out.2.1, HF.out.2.2.1]
  have HB1 : Hid (Below w.heap.size w w1) := hb
  clear hb
  go_wp2_with fail
  refine (rask_any v l c r _ (HV.out.up HB1.out)).mono ?_
  rintro e w2 ⟨rfl, hb⟩
  rw [HF.out.1, HF.out.2.1, HF.out.2.2.1]
  have HB2 : Hid (Below w.heap.size w w2) := HB1.out.trans (hb.mono HB1.out.size)
  clear hb
  go_wp2_with fail
  refine (drop_any v l c _ (HV.out.up HB2.out)).mono ?_
  rintro e w3 ⟨p3, n3, q3, rfl, hu, hb⟩
  rw [HF.out.2.2.2]
  have HB3 : Hid (Below w.heap.size w w3) := HB2.out.trans (hb.mono HB2.out.size)
  have HU3 : Hid (AtW ES w3 (.slice p3 n3 q3) (Se.dropped l c)) := hu.wide
  clear hb hu
  go_wp2_with fail
  refine (rdrop_any v l c _ (HV.out.up HB3.out)).mono ?_
  rintro e w4 ⟨p4, n4, q4, rfl, hu, hb⟩
  rw [HF.out.2.2.2]
  have HB4 : Hid (Below w.heap.size w w4) := HB3.out.trans (hb.mono HB3.out.size)
  have HU4 : Hid (AtW ES w4 (.slice p3 n3 q3) (Se.dropped l c) ∧ AtW ES w4 (.slice p4 n4 q4) (Se.dropped l c)) := ⟨HU3.out.up hb, hu.wide⟩
  clear hb hu
  go_wp2_with fail
  refine (check_any v l _ (HV.out.up HB4.out)).mono ?_
  rintro e w5 ⟨rfl, hb⟩
  rw [HCE.out]
  have HB5 : Hid (Below w.heap.size w w5) := HB4.out.trans (hb.mono HB4.out.size)
  have HU5 : Hid (AtW ES w5 (.slice p3 n3 q3) (Se.dropped l c) ∧ AtW ES w5 (.slice p4 n4 q4) (Se.dropped l c)) := ⟨HU4.out.1.up hb, HU4.out.2.up hb⟩
  clear hb
  cases ck with
  | true =>
    simp only [if_true]
    go_wp2_with fail
    refine (rright_any v l _ (HV.out.up HB5.out)).mono ?_
    rintro e w6 ⟨rfl, hb⟩
    rw [HCK.out]
    have HB6 : Hid (Below w.heap.size w w6) := HB5.out.trans (hb.mono HB5.out.size)
    have HU6 : Hid (AtW ES w6 (.slice p3 n3 q3) (Se.dropped l c) ∧ AtW ES w6 (.slice p4 n4 q4) (Se.dropped l c)) := ⟨HU5.out.1.up hb, HU5.out.2.up hb⟩
    clear hb
    go_wp2_with fail
    refine (seats_same _ _ (Se.dropped l c) _ HU6.out.1 HU6.out.2).mono ?_
    rintro e w7 ⟨rfl, hb⟩
    have HB7 : Hid (Below w.heap.size w w7) := HB6.out.trans (hb.mono HB6.out.size)
    clear hb
    go_wp2_with fail
    refine (one_any _).mono ?_
    rintro e w8 ⟨rfl, hb⟩
    have HB8 : Hid (Below w.heap.size w w8) := HB7.out.trans (hb.mono HB7.out.size)
    clear hb
    go_wp2
    go_ret
    exact ⟨rfl, HB8.out⟩
  | false =>
    simp only [Bool.false_eq_true, if_false]
    go_wp2_with fail
    refine (rright_any v l _ (HV.out.up HB5.out)).mono ?_
    rintro e w6 ⟨rfl, hb⟩
    rw [HCK.out]
    have HB6 : Hid (Below w.heap.size w w6) := HB5.out.trans (hb.mono HB5.out.size)
    have HU6 : Hid (AtW ES w6 (.slice p3 n3 q3) (Se.dropped l c) ∧ AtW ES w6 (.slice p4 n4 q4) (Se.dropped l c)) := ⟨HU5.out.1.up hb, HU5.out.2.up hb⟩
    clear hb
    go_wp2_with fail
    refine (seats_same _ _ (Se.dropped l c) _ HU6.out.1 HU6.out.2).mono ?_
    rintro e w7 ⟨rfl, hb⟩
    have HB7 : Hid (Below w.heap.size w w7) := HB6.out.trans (hb.mono HB6.out.size)
    clear hb
    go_wp2_with fail
    refine (one_any _).mono ?_
    rintro e w8 ⟨rfl, hb⟩
    have HB8 : Hid (Below w.heap.size w w8) := HB7.out.trans (hb.mono HB7.out.size)
    clear hb
    go_wp2
    go_ret
    exact ⟨rfl, HB8.out⟩

set_option maxRecDepth 100000 in
theorem seatAsks_lifted (os : Os) (started : os.Started) (H : Type) (enc : TypeId × Value → H) :
    ReturnsInHanded {} Try.checked os 3 .any (Rows.seatAsksSpec.pre6 enc Try.prog Try.f3 Rows.seatAsksRow.domain false) (Rows.seatAsksSpec.post enc Try.prog Try.f3 false true false false) := by
  refine returnsInHanded_of_change_sized (C := Try.checked) own started (by kernel_rfl) Try.func3
    (ChangeSpec.witness6 (enc := enc) (C := Try.checked) false ⟨#[], #[.slice none 0 0, .int .i64 0, .int .i64 0], []⟩ 8 (by kernel_rfl) (by kernel_rfl) (by kernel_rfl) (by kernel_rfl)) ?_
  intro W base args ds gs before hval0 hW hcnd hsized _
  have hval : ∀ (j : Nat) t v, Try.f3.params[j]? = some t → args[j]? = some v → Value.okWide Try.prog W .any base t v := hval0
  have hW' := hW
  obtain ⟨p, q, hA0, hV, rfl, hfz, hnd⟩ := hW
  have hA : DataW.TrodAll enc Try.prog W 0 (fun _ => true) true Try.f3.params.toList args.toList ds p := hA0
  rw [Try.params3] at hA hval
  obtain ⟨v0, v1, v2, d0, d1, d2, p0, p1, p2, rfl, rfl, rfl, h0, h1, h2⟩ := trodAll_three hA
  obtain ⟨rfl, rfl⟩ := trodVars_none hV
  obtain ⟨l, hl⟩ := open_seats (okWide_slice Try.underlying22 (hval 0 22 v0 rfl rfl)) h0
  obtain ⟨c, rfl, -, -, -⟩ := open_int Try.underlying3 (hval 1 3 v1 rfl rfl) h1
  obtain ⟨r, rfl, -, -, -⟩ := open_int Try.underlying3 (hval 2 3 v2 rfl rfl) h2
  refine (asks_any v0 l c r W hl).mono fun e W' ⟨he, hg⟩ => ⟨_, he, ?_⟩
  exact Law.post laidOut (by kernel_rfl) rfl Try.underlying4 hW' rfl rfl hg

theorem seatAsks_holds : Rows.SeatAsksSaid :=
  OpenClaim.holds_of_wide 3 Try.f3 rfl rfl rfl rfl rfl rfl rfl ⟨rfl, rfl, rfl, rfl, rfl⟩ rfl rfl rfl rfl rfl (by kernel_rfl) Try.func3 (by kernel_rfl)
    (of_decide_eq_true (by kernel_rfl)) (by unfold Func.isWrapper; first | (rw [if_pos (by decide +kernel)]; kernel_rfl) | (rw [if_neg (by decide +kernel)]; exact ⟨rfl, rfl⟩))
    (fun os started H enc _ => seatAsks_lifted os started H enc)
#print axioms seatAsks_holds
end Go.Proofs.Ytaojdndhhgmdmaa
