/-
  OpensCloses: for every list of open files, every client and every number the call answers true, and the arguments read as before. No condition.
-/
import Derived.Test.YtlikcijoejgkkaaRefC
import Derived.Test.YtlikcijoejgkkaaSame
import Derived.Test.YtlikcijoejgkkaaTwo
import Derived.Test.YtlikcijoejgkkaaOpenA
import Derived.Test.YtlikcijoejgkkaaLaw
namespace Go.Proofs.Ytlikcijoejgkkaa
open Go.ChangeShapes Go.WideShapes Go.ChangeAt Go.RowKit Go.Deep
set_option maxHeartbeats 4000000 in
theorem closes_any (v : Value) (l : List Opn) (c fd : Int) (w : World) (hv : AtW EO w v l) :
    Calls Try.prog 5 #[v, .int .i64 c, .int .i64 fd] w fun e w' => e = .returned (.bool true) ∧ Below w.heap.size w w' := by
  have HV0 : Hid (AtW EO w v l) := hv
  clear hv
  obtain ⟨o1, ho1⟩ : ∃ o1, (Op.closeOf l c fd).1 = o1 := ⟨_, rfl⟩
  obtain ⟨o2, ho2⟩ : ∃ o2, (Op.closeOf l c fd).2 = o2 := ⟨_, rfl⟩
  obtain ⟨er, her⟩ : ∃ er, Op.closeErr l c fd = er := ⟨_, rfl⟩
  have HF : Hid ((Op.closeOf l c fd).1 = o1 ∧ (Op.closeOf l c fd).2 = o2 ∧ Op.closeErr l c fd = er) := ⟨ho1, ho2, her⟩
  have t2 : (er == er) = true := beq_self_eq_true er
  have t3 : ∀ w', (binOp .eql 24 (VH o1 o2) (VH o1 o2)).run Try.prog w' = .ok (.bool true) w' := fun w' => by rw [eql_hand]; simp
  clear ho1 ho2 her
  go_enter Try.func5, Try.ntmps5
  go_wp2_with fail
  refine (close_any v l c fd _ HV0.out).mono ?_
  rintro e w1 ⟨p1, n1, q1, rfl, hu1, hb1⟩
  rw [HF.out.1, HF.out.2.1, HF.out.2.2]
  have HB1 : Hid (Below w.heap.size w (w1.alloc (BH o1 o2))) := hb1.alloc hb1.size _
  have HA1 : Hid ((w1.alloc (BH o1 o2)).heap[w1.heap.size]? = some (BH o1 o2)) := heap_alloc_new w1 _
  have HU1 : Hid (AtW EO (w1.alloc (BH o1 o2)) (.slice p1 n1 q1) (Op.closed l c fd)) := hu1.wide.up ((Below.refl _ _).alloc (Nat.le_refl _) _)
  have HV1 : Hid (AtW EO (w1.alloc (BH o1 o2)) v l) := (HV0.out.up hb1).up ((Below.refl _ _).alloc (Nat.le_refl _) _)
  obtain ⟨g0, g1⟩ := hand_of HA1.out
  clear hu1 hb1
  go_wp2_with fail
  refine (rclose_any v l c fd _ HV1.out).mono ?_
  rintro e w2 ⟨p2, n2, q2, rfl, hu2, hb2⟩
  rw [HF.out.1, HF.out.2.1, HF.out.2.2]
  have hb2' := HB1.out.trans (hb2.mono HB1.out.size)
  have HB2 : Hid (Below w.heap.size w (w2.alloc (BH o1 o2))) := hb2'.alloc hb2'.size _
  have HU2 : Hid (AtW EO (w2.alloc (BH o1 o2)) (.slice p1 n1 q1) (Op.closed l c fd) ∧ AtW EO (w2.alloc (BH o1 o2)) (.slice p2 n2 q2) (Op.closed l c fd)) := ⟨(HU1.out.up hb2).up ((Below.refl _ _).alloc (Nat.le_refl _) _), hu2.wide.up ((Below.refl _ _).alloc (Nat.le_refl _) _)⟩
  have k0 := (cell_older (cell_lt (cell_step g0 hb2)) (BH o1 o2) 0).trans (cell_step g0 hb2)
  have k1 := (cell_older (cell_lt (cell_step g1 hb2)) (BH o1 o2) 1).trans (cell_step g1 hb2)
  obtain ⟨m0, m1⟩ := hand_of (heap_alloc_new w2 (BH o1 o2))
  clear hu2 hb2 hb2' g0 g1
  go_wp2_with fail
  refine (opens_same _ _ (Op.closed l c fd) _ HU2.out.1 HU2.out.2).mono ?_
  rintro e w5 ⟨rfl, hb5⟩
  have HB5 : Hid (Below w.heap.size w w5) := HB2.out.trans (hb5.mono HB2.out.size)
  have i0 := cell_step k0 hb5
  have i1 := cell_step k1 hb5
  have i2 := cell_step m0 hb5
  have i3 := cell_step m1 hb5
  clear hb5 k0 k1 m0 m1
  go_wp2_with fail
  refine (two_any _).mono ?_
  rintro e w8 ⟨rfl, hb8⟩
  have HB8 : Hid (Below w.heap.size w w8) := HB5.out.trans (hb8.mono HB5.out.size)
  clear hb8
  go_wp2
  go_ret
  exact ⟨rfl, HB8.out⟩

set_option maxRecDepth 100000 in
theorem opensCloses_lifted (os : Os) (started : os.Started) (H : Type) (enc : TypeId × Value → H) :
    ReturnsInHanded {} Try.checked os 5 .any (Rows.opensClosesSpec.pre6 enc Try.prog Try.f5 Rows.opensClosesRow.domain false) (Rows.opensClosesSpec.post enc Try.prog Try.f5 false true false false) := by
  refine returnsInHanded_of_change_sized (C := Try.checked) own started (by kernel_rfl) Try.func5
    (ChangeSpec.witness6 (enc := enc) (C := Try.checked) false ⟨#[], #[.slice none 0 0, .int .i64 0, .int .i64 0], []⟩ 8 (by kernel_rfl) (by kernel_rfl) (by kernel_rfl) (by kernel_rfl)) ?_
  intro W base args ds gs before hval0 hW hcnd hsized _
  have hval : ∀ (j : Nat) t v, Try.f5.params[j]? = some t → args[j]? = some v → Value.okWide Try.prog W .any base t v := hval0
  have hW' := hW
  have hlt : ∀ x ∈ before, x.block < W.heap.size := fun x hx => by simpa using hW'.lt x hx
  obtain ⟨p, q, hA0, hV, rfl, hfz, hnd⟩ := hW
  have hA : DataW.TrodAll enc Try.prog W 0 (fun _ => true) true Try.f5.params.toList args.toList ds p := hA0
  rw [Try.params5] at hA hval
  obtain ⟨v0, v1, v2, d0, d1, d2, p0, p1, p2, rfl, rfl, rfl, h0, h1, h2⟩ := trodAll_three hA
  obtain ⟨rfl, rfl⟩ := trodVars_none hV
  have hwt0 : ∀ n ∈ d0.weights Try.prog 22, n ≤ reachBytes := fun n hn => by
    have := List.all_eq_true.1 hsized n (DataW.weights_mem_each (j := 0) (t := 22) (d := d0) rfl rfl n hn)
    simpa using this
  obtain ⟨l, hl, hln⟩ := open_opens (okWide_slice Try.underlying22 (hval 0 22 v0 rfl rfl)) h0 hwt0
  obtain ⟨c, rfl, -, -, -⟩ := open_int Try.underlying3 (hval 1 3 v1 rfl rfl) h1
  obtain ⟨fd, rfl, -, -, -⟩ := open_int Try.underlying3 (hval 2 3 v2 rfl rfl) h2
  refine (closes_any v0 l c fd W hl).mono fun e W' ⟨he, hg⟩ => ⟨_, he, ?_⟩
  exact Law.post laidOut (by kernel_rfl) rfl Try.underlying4 hW' rfl rfl hg

theorem opensCloses_holds : Rows.OpensClosesSaid :=
  OpenClaim.holds_of_wide 5 Try.f5 rfl rfl rfl rfl rfl rfl rfl ⟨rfl, rfl, rfl, rfl, rfl⟩ rfl rfl rfl rfl rfl (by kernel_rfl) Try.func5 (by kernel_rfl)
    (of_decide_eq_true (by kernel_rfl)) (by unfold Func.isWrapper; first | (rw [if_pos (by decide +kernel)]; kernel_rfl) | (rw [if_neg (by decide +kernel)]; exact ⟨rfl, rfl⟩))
    (fun os started H enc _ => opensCloses_lifted os started H enc)
#print axioms opensCloses_holds
end Go.Proofs.Ytlikcijoejgkkaa
