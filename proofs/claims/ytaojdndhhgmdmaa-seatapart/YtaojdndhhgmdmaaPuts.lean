/-
  SeatPuts: for all seats and every request the call answers true, and the arguments read as before. No condition.
-/
import Derived.Test.YtaojdndhhgmdmaaRefP
import Derived.Test.YtaojdndhhgmdmaaOne
import Derived.Test.YtaojdndhhgmdmaaOpenA
import Derived.Test.YtaojdndhhgmdmaaLaw
namespace Go.Proofs.Ytaojdndhhgmdmaa
open Go.ChangeShapes Go.WideShapes Go.ChangeAt Go.RowKit Go.Deep
abbrev BQ (x : Sea) : Obj := .cells #[.int .i64 x.1, .int .i64 x.2.1, .string x.2.2] 38
theorem req_of {w : World} {A : Nat} {x : Sea} (h : w.heap[A]? = some (BQ x)) : Thr A x w := by
  refine ⟨?_, ?_, ?_⟩ <;> simp [World.cell?, h]
set_option maxHeartbeats 4000000 in
theorem puts_any (v : Value) (l : List Sea) (x : Sea) (w : World) (hv : AtW ES w v l) :
    Calls Try.prog 4 #[v, VS x] w fun e w' => e = .returned (.bool true) ∧ Below w.heap.size w w' := by
  obtain ⟨W, hW⟩ : ∃ W, W = w.alloc (BQ x) := ⟨_, rfl⟩
  have HB0 : Hid (Below w.heap.size w W) := by show Below w.heap.size w W; rw [hW]; exact (Below.refl _ w).alloc (Nat.le_refl _) _
  have HA0 : Hid (Thr w.heap.size x W) := by show Thr w.heap.size x W; rw [hW]; exact req_of (heap_alloc_new w (BQ x))
  have HV : Hid (AtW ES W v l) := hv.up HB0.out
  clear hv
  obtain ⟨pe, hpe⟩ : ∃ pe, Se.putErr l x.1 x.2.1 x.2.2 = pe := ⟨_, rfl⟩
  have HF : Hid (Se.putErr l x.1 x.2.1 x.2.2 = pe) := hpe
  have t1 : (pe == pe) = true := beq_self_eq_true pe
  clear hpe
  obtain ⟨z0, z1, z2⟩ := HA0.out
  go_enter Try.func4, Try.ntmps4
  go_wp2_with fail
  simp only [← hW]
  go_wp2_with fail
  refine (put_any v l x.1 x.2.1 x.2.2 _ HV.out).mono ?_
  rintro e w1 ⟨p1, n1, q1, rfl, hu, hb⟩
  rw [HF.out]
  have HB1 : Hid (Below w.heap.size w w1) := HB0.out.trans (hb.mono HB0.out.size)
  have HV1 : Hid (AtW ES w1 v l) := HV.out.up hb
  have HU1 : Hid (AtW ES w1 (.slice p1 n1 q1) (Se.put l x.1 x.2.1 x.2.2)) := hu.wide
  obtain ⟨y0, y1, y2⟩ := thr_step HA0.out hb
  clear hb hu z0 z1 z2 hW
  go_wp2_with fail
  refine (rput_any v l x.1 x.2.1 x.2.2 _ HV1.out).mono ?_
  rintro e w2 ⟨p2, n2, q2, rfl, hu, hb⟩
  rw [HF.out]
  have HB2 : Hid (Below w.heap.size w w2) := HB1.out.trans (hb.mono HB1.out.size)
  have HU2 : Hid (AtW ES w2 (.slice p1 n1 q1) (Se.put l x.1 x.2.1 x.2.2) ∧ AtW ES w2 (.slice p2 n2 q2) (Se.put l x.1 x.2.1 x.2.2)) := ⟨HU1.out.up hb, hu.wide⟩
  clear hb hu y0 y1 y2
  go_wp2_with fail
  refine (seats_same _ _ (Se.put l x.1 x.2.1 x.2.2) _ HU2.out.1 HU2.out.2).mono ?_
  rintro e w3 ⟨rfl, hb⟩
  have HB3 : Hid (Below w.heap.size w w3) := HB2.out.trans (hb.mono HB2.out.size)
  clear hb
  go_wp2_with fail
  refine (one_any _).mono ?_
  rintro e w4 ⟨rfl, hb⟩
  have HB4 : Hid (Below w.heap.size w w4) := HB3.out.trans (hb.mono HB3.out.size)
  clear hb
  go_wp2
  go_ret
  exact ⟨rfl, HB4.out⟩

set_option maxRecDepth 100000 in
theorem seatPuts_lifted (os : Os) (started : os.Started) (H : Type) (enc : TypeId × Value → H) :
    ReturnsInHanded {} Try.checked os 4 .any (Rows.seatPutsSpec.pre6 enc Try.prog Try.f4 Rows.seatPutsRow.domain false) (Rows.seatPutsSpec.post enc Try.prog Try.f4 false true false false) := by
  refine returnsInHanded_of_change_sized (C := Try.checked) own started (by kernel_rfl) Try.func4
    (ChangeSpec.witness6 (enc := enc) (C := Try.checked) false ⟨#[], #[.slice none 0 0, .agg #[.int .i64 0, .int .i64 0, .string ⟨#[]⟩]], []⟩ 8 (by kernel_rfl) (by kernel_rfl) (by kernel_rfl) (by kernel_rfl)) ?_
  intro W base args ds gs before hval0 hW hcnd hsized _
  have hval : ∀ (j : Nat) t v, Try.f4.params[j]? = some t → args[j]? = some v → Value.okWide Try.prog W .any base t v := hval0
  have hW' := hW
  obtain ⟨p, q, hA0, hV, rfl, hfz, hnd⟩ := hW
  have hA : DataW.TrodAll enc Try.prog W 0 (fun _ => true) true Try.f4.params.toList args.toList ds p := hA0
  rw [Try.params4] at hA hval
  obtain ⟨v0, v1, d0, d1, p0, p1, rfl, rfl, rfl, h0, h1⟩ := trodAll_two hA
  obtain ⟨rfl, rfl⟩ := trodVars_none hV
  obtain ⟨l, hl⟩ := open_seats (okWide_slice Try.underlying22 (hval 0 22 v0 rfl rfl)) h0
  obtain ⟨x, rfl⟩ := open_ask (hval 1 38 v1 rfl rfl) h1
  refine (puts_any v0 l x W hl).mono fun e W' ⟨he, hg⟩ => ⟨_, he, ?_⟩
  exact Law.post laidOut (by kernel_rfl) rfl Try.underlying4 hW' rfl rfl hg

theorem seatPuts_holds : Rows.SeatPutsSaid :=
  OpenClaim.holds_of_wide 4 Try.f4 rfl rfl rfl rfl rfl rfl rfl ⟨rfl, rfl, rfl, rfl, rfl⟩ rfl rfl rfl rfl rfl (by kernel_rfl) Try.func4 (by kernel_rfl)
    (of_decide_eq_true (by kernel_rfl)) (by unfold Func.isWrapper; first | (rw [if_pos (by decide +kernel)]; kernel_rfl) | (rw [if_neg (by decide +kernel)]; exact ⟨rfl, rfl⟩))
    (fun os started H enc _ => seatPuts_lifted os started H enc)
#print axioms seatPuts_holds
end Go.Proofs.Ytaojdndhhgmdmaa
