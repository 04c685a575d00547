/-
  OpensOpens: for every list of open files, every client and every handle the call answers true, and the arguments read as before. No condition.
-/
import Derived.Test.YtlikcijoejgkkaaRefO
import Derived.Test.YtlikcijoejgkkaaSame
import Derived.Test.YtlikcijoejgkkaaTwo
import Derived.Test.YtlikcijoejgkkaaOpenA
import Derived.Test.YtlikcijoejgkkaaLaw
namespace Go.Proofs.Ytlikcijoejgkkaa
open Go.ChangeShapes Go.WideShapes Go.ChangeAt Go.RowKit Go.Deep
set_option maxHeartbeats 4000000 in
theorem opens_any (v : Value) (l : List Opn) (c no gen : Int) (w : World) (hv : AtW EO w v l) :
    Calls Try.prog 4 #[v, .int .i64 c, VH no gen] w fun e w' => e = .returned (.bool true) ∧ Below w.heap.size w w' := by
  have HA0 : Hid ((w.alloc (BH no gen)).heap[w.heap.size]? = some (BH no gen)) := heap_alloc_new w (BH no gen)
  have HB0 : Hid (Below w.heap.size w (w.alloc (BH no gen))) := (Below.refl _ w).alloc (Nat.le_refl _) _
  have HV0 : Hid (AtW EO (w.alloc (BH no gen)) v l) := hv.up HB0.out
  obtain ⟨h0, h1⟩ := hand_of HA0.out
  clear hv
  obtain ⟨fd, hfd⟩ : ∃ fd, Op.openFd l c no gen = fd := ⟨_, rfl⟩
  obtain ⟨er, her⟩ : ∃ er, Op.openErr l c no gen = er := ⟨_, rfl⟩
  obtain ⟨ak, hak⟩ : ∃ ak, Op.ask l c = ak := ⟨_, rfl⟩
  have HF : Hid (Op.openFd l c no gen = fd ∧ Op.openErr l c no gen = er ∧ Op.ask l c = ak) := ⟨hfd, her, hak⟩
  have t1 : (fd == fd) = true := beq_self_eq_true fd
  have t2 : (er == er) = true := beq_self_eq_true er
  have t3 : (ak == ak) = true := beq_self_eq_true ak
  clear hfd her hak
  go_enter Try.func4, Try.ntmps4
  go_wp2_with fail
  refine (open_any v l c no gen _ HV0.out).mono ?_
  rintro e w1 ⟨p1, n1, q1, rfl, hu1, hb1⟩
  rw [HF.out.1, HF.out.2.1]
  have HB1 : Hid (Below w.heap.size w w1) := HB0.out.trans (hb1.mono HB0.out.size)
  have HU1 : Hid (AtW EO w1 (.slice p1 n1 q1) (Op.opened l c no gen)) := hu1.wide
  have HV1 : Hid (AtW EO w1 v l) := HV0.out.up hb1
  have g0 := cell_step h0 hb1
  have g1 := cell_step h1 hb1
  clear hu1 hb1 h0 h1
  go_wp2_with fail
  refine (ropen_any v l c no gen _ HV1.out).mono ?_
  rintro e w2 ⟨p2, n2, q2, rfl, hu2, hb2⟩
  rw [HF.out.1, HF.out.2.1]
  have HB2 : Hid (Below w.heap.size w w2) := HB1.out.trans (hb2.mono HB1.out.size)
  have HU2 : Hid (AtW EO w2 (.slice p1 n1 q1) (Op.opened l c no gen) ∧ AtW EO w2 (.slice p2 n2 q2) (Op.opened l c no gen)) := ⟨HU1.out.up hb2, hu2.wide⟩
  have HV2 : Hid (AtW EO w2 v l) := HV1.out.up hb2
  clear hu2 hb2 g0 g1
  go_wp2_with fail
  refine (leave_any v l c _ HV2.out).mono ?_
  rintro e w3 ⟨p3, n3, q3, p3', n3', q3', rfl, hu3, hh3, hb3⟩
  rw [HF.out.2.2]
  have HB3 : Hid (Below w.heap.size w w3) := HB2.out.trans (hb3.mono HB2.out.size)
  have HU3 : Hid ((AtW EO w3 (.slice p1 n1 q1) (Op.opened l c no gen) ∧ AtW EO w3 (.slice p2 n2 q2) (Op.opened l c no gen)) ∧ AtW EO w3 (.slice p3 n3 q3) (Op.left l c) ∧ AtW EH w3 (.slice p3' n3' q3') (Op.leftOf l c)) := ⟨⟨HU2.out.1.up hb3, HU2.out.2.up hb3⟩, hu3.wide, hh3.wide⟩
  have HV3 : Hid (AtW EO w3 v l) := HV2.out.up hb3
  clear hu3 hh3 hb3
  go_wp2_with fail
  refine (rleave_any v l c _ HV3.out).mono ?_
  rintro e w4 ⟨p4, n4, q4, p4', n4', q4', rfl, hu4, hh4, hb4⟩
  rw [HF.out.2.2]
  have HB4 : Hid (Below w.heap.size w w4) := HB3.out.trans (hb4.mono HB3.out.size)
  have HU4 : Hid ((AtW EO w4 (.slice p1 n1 q1) (Op.opened l c no gen) ∧ AtW EO w4 (.slice p2 n2 q2) (Op.opened l c no gen)) ∧ (AtW EO w4 (.slice p3 n3 q3) (Op.left l c) ∧ AtW EO w4 (.slice p4 n4 q4) (Op.left l c)) ∧ (AtW EH w4 (.slice p3' n3' q3') (Op.leftOf l c) ∧ AtW EH w4 (.slice p4' n4' q4') (Op.leftOf l c))) := ⟨⟨HU3.out.1.1.up hb4, HU3.out.1.2.up hb4⟩, ⟨HU3.out.2.1.up hb4, hu4.wide⟩, HU3.out.2.2.up hb4, hh4.wide⟩
  clear hu4 hh4 hb4
  go_wp2_with fail
  refine (opens_same _ _ (Op.opened l c no gen) _ HU4.out.1.1 HU4.out.1.2).mono ?_
  rintro e w5 ⟨rfl, hb5⟩
  have HB5 : Hid (Below w.heap.size w w5) := HB4.out.trans (hb5.mono HB4.out.size)
  have HU5 : Hid ((AtW EO w5 (.slice p3 n3 q3) (Op.left l c) ∧ AtW EO w5 (.slice p4 n4 q4) (Op.left l c)) ∧ (AtW EH w5 (.slice p3' n3' q3') (Op.leftOf l c) ∧ AtW EH w5 (.slice p4' n4' q4') (Op.leftOf l c))) := ⟨⟨HU4.out.2.1.1.up hb5, HU4.out.2.1.2.up hb5⟩, HU4.out.2.2.1.up hb5, HU4.out.2.2.2.up hb5⟩
  clear hb5
  go_wp2_with fail
  refine (opens_same _ _ (Op.left l c) _ HU5.out.1.1 HU5.out.1.2).mono ?_
  rintro e w6 ⟨rfl, hb6⟩
  have HB6 : Hid (Below w.heap.size w w6) := HB5.out.trans (hb6.mono HB5.out.size)
  have HU6 : Hid (AtW EH w6 (.slice p3' n3' q3') (Op.leftOf l c) ∧ AtW EH w6 (.slice p4' n4' q4') (Op.leftOf l c)) := ⟨HU5.out.2.1.up hb6, HU5.out.2.2.up hb6⟩
  clear hb6
  go_wp2_with fail
  refine (handles_same _ _ (Op.leftOf l c) _ HU6.out.1 HU6.out.2).mono ?_
  rintro e w7 ⟨rfl, hb7⟩
  have HB7 : Hid (Below w.heap.size w w7) := HB6.out.trans (hb7.mono HB6.out.size)
  clear hb7
  go_wp2_with fail
  refine (two_any _).mono ?_
  rintro e w8 ⟨rfl, hb8⟩
  have HB8 : Hid (Below w.heap.size w w8) := HB7.out.trans (hb8.mono HB7.out.size)
  clear hb8
  go_wp2
  go_ret
  exact ⟨rfl, HB8.out⟩

set_option maxRecDepth 100000 in
theorem opensOpens_lifted (os : Os) (started : os.Started) (H : Type) (enc : TypeId × Value → H) :
    ReturnsInHanded {} Try.checked os 4 .any (Rows.opensOpensSpec.pre6 enc Try.prog Try.f4 Rows.opensOpensRow.domain false) (Rows.opensOpensSpec.post enc Try.prog Try.f4 false true false false) := by
  refine returnsInHanded_of_change_sized (C := Try.checked) own started (by kernel_rfl) Try.func4
    (ChangeSpec.witness6 (enc := enc) (C := Try.checked) false ⟨#[], #[.slice none 0 0, .int .i64 0, .agg #[.int .i64 0, .int .i64 0]], []⟩ 8 (by kernel_rfl) (by kernel_rfl) (by kernel_rfl) (by kernel_rfl)) ?_
  intro W base args ds gs before hval0 hW hcnd hsized _
  have hval : ∀ (j : Nat) t v, Try.f4.params[j]? = some t → args[j]? = some v → Value.okWide Try.prog W .any base t v := hval0
  have hW' := hW
  have hlt : ∀ x ∈ before, x.block < W.heap.size := fun x hx => by simpa using hW'.lt x hx
  obtain ⟨p, q, hA0, hV, rfl, hfz, hnd⟩ := hW
  have hA : DataW.TrodAll enc Try.prog W 0 (fun _ => true) true Try.f4.params.toList args.toList ds p := hA0
  rw [Try.params4] at hA hval
  obtain ⟨v0, v1, v2, d0, d1, d2, p0, p1, p2, rfl, rfl, rfl, h0, h1, h2⟩ := trodAll_three hA
  obtain ⟨rfl, rfl⟩ := trodVars_none hV
  have hwt0 : ∀ n ∈ d0.weights Try.prog 22, n ≤ reachBytes := fun n hn => by
    have := List.all_eq_true.1 hsized n (DataW.weights_mem_each (j := 0) (t := 22) (d := d0) rfl rfl n hn)
    simpa using this
  obtain ⟨l, hl, hln⟩ := open_opens (okWide_slice Try.underlying22 (hval 0 22 v0 rfl rfl)) h0 hwt0
  obtain ⟨c, rfl, -, -, -⟩ := open_int Try.underlying3 (hval 1 3 v1 rfl rfl) h1
  obtain ⟨no, gen, rfl⟩ := open_handle (hval 2 24 v2 rfl rfl) h2
  refine (opens_any v0 l c no gen W hl).mono fun e W' ⟨he, hg⟩ => ⟨_, he, ?_⟩
  exact Law.post laidOut (by kernel_rfl) rfl Try.underlying4 hW' rfl rfl hg

theorem opensOpens_holds : Rows.OpensOpensSaid :=
  OpenClaim.holds_of_wide 4 Try.f4 rfl rfl rfl rfl rfl rfl rfl ⟨rfl, rfl, rfl, rfl, rfl⟩ rfl rfl rfl rfl rfl (by kernel_rfl) Try.func4 (by kernel_rfl)
    (of_decide_eq_true (by kernel_rfl)) (by unfold Func.isWrapper; first | (rw [if_pos (by decide +kernel)]; kernel_rfl) | (rw [if_neg (by decide +kernel)]; exact ⟨rfl, rfl⟩))
    (fun os started H enc _ => opensOpens_lifted os started H enc)
#print axioms opensOpens_holds
end Go.Proofs.Ytlikcijoejgkkaa
