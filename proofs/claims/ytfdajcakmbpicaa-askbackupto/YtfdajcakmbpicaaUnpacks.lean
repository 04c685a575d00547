/-
  For any string of at most 1048576 bytes (with the int, bulk at most 1048576) and any int sextonlaw13.AskUnpacks returns true, whatever the memory: ask.Unpack and ask.Needs answer what the document says. One condition: the bulk.
-/
import Derived.Test.YtfdajcakmbpicaaKOpen
import Derived.Test.YtfdajcakmbpicaaKRefU
import Derived.Test.YtfdajcakmbpicaaKNeeds
import Derived.Test.YtfdajcakmbpicaaBulk
import Derived.JoinedCond
namespace Go.Proofs.Ytfdajcakmbpicaa
open Go.ChangeShapes Go.WideShapes Go.ChangeAt Go.RowKit Go.Deep
open Ak

theorem eql_call (w : World) (c : Cl) : (binOp .eql 25 (VC c) (VC c)).run Try.prog w = .ok (.bool true) w := by
  obtain ⟨k, no, gen, no2, gen2, nm, nm2, pl, n, data⟩ := c
  have t0 : (k == k) = true := beq_self_eq_true _
  have t1 : (no == no) = true := beq_self_eq_true _
  have t2 : (gen == gen) = true := beq_self_eq_true _
  have t3 : (no2 == no2) = true := beq_self_eq_true _
  have t4 : (gen2 == gen2) = true := beq_self_eq_true _
  have t5 : (nm.toList == nm.toList) = true := beq_self_eq_true _
  have t6 : (nm2.toList == nm2.toList) = true := beq_self_eq_true _
  have t7 : (pl == pl) = true := beq_self_eq_true _
  have t8 : (n == n) = true := beq_self_eq_true _
  have t9 : (data.toList == data.toList) = true := beq_self_eq_true _
  go_simp
theorem neq_call (w : World) (c : Cl) : (binOp .neq 25 (VC c) (VC c)).run Try.prog w = .ok (.bool false) w := by
  obtain ⟨k, no, gen, no2, gen2, nm, nm2, pl, n, data⟩ := c
  have t0 : (k == k) = true := beq_self_eq_true _
  have t1 : (no == no) = true := beq_self_eq_true _
  have t2 : (gen == gen) = true := beq_self_eq_true _
  have t3 : (no2 == no2) = true := beq_self_eq_true _
  have t4 : (gen2 == gen2) = true := beq_self_eq_true _
  have t5 : (nm.toList == nm.toList) = true := beq_self_eq_true _
  have t6 : (nm2.toList == nm2.toList) = true := beq_self_eq_true _
  have t7 : (pl == pl) = true := beq_self_eq_true _
  have t8 : (n == n) = true := beq_self_eq_true _
  have t9 : (data.toList == data.toList) = true := beq_self_eq_true _
  go_simp
set_option maxHeartbeats 8000000 in
theorem unpacks_any (s : ByteArray) (kind : Int) (w : World) (hs : s.size ≤ 1048576) : Calls Try.prog 4 #[.string s, .int .i64 kind] w fun e w' => e = .returned (.bool true) ∧ Below w.heap.size w w' := by
  have HS : Hid (s.size ≤ 1048576) := hs
  clear hs
  obtain ⟨c, hc⟩ : ∃ c, unpC s.data.toList = c := ⟨_, rfl⟩
  obtain ⟨E, hE⟩ : ∃ E, unpE s.data.toList = E := ⟨_, rfl⟩
  obtain ⟨g, hg⟩ : ∃ g, Ak.needsErr kind = g := ⟨_, rfl⟩
  have HCE : Hid (unpC s.data.toList = c ∧ unpE s.data.toList = E ∧ Ak.needsErr kind = g) := ⟨hc, hE, hg⟩
  clear hc hE hg
  go_enter Try.func4, Try.ntmps4
  go_wp2_with fail
  refine (askUnpack_any s _ HS.out).mono ?_
  rintro e w1 ⟨rfl, hb1⟩
  rw [HCE.out.1, HCE.out.2.1]
  have HB1 : Hid (Below w.heap.size w (w1.alloc (BC c))) := hb1.alloc hb1.size _
  have HA1 : Hid ((w1.alloc (BC c)).heap[w1.heap.size]? = some (BC c)) := heap_alloc_new w1 _
  clear hb1
  go_wp2_with fail
  refine (askRefUnpack_any s _ HS.out).mono ?_
  rintro e w2 ⟨rfl, hb2⟩
  rw [HCE.out.1, HCE.out.2.1]
  have HA2 : Hid ((w2.alloc (BC c)).heap[w1.heap.size]? = some (BC c)) := (Below.heap_alloc _ _ _ (block_lt (block_step HA1.out hb2))).trans (block_step HA1.out hb2)
  have HD2 : Hid ((w2.alloc (BC c)).heap[w2.heap.size]? = some (BC c)) := heap_alloc_new w2 _
  have HB2 : Hid (Below w.heap.size w (w2.alloc (BC c))) := (HB1.out.trans (hb2.mono HB1.out.size)).alloc (HB1.out.trans (hb2.mono HB1.out.size)).size _
  clear hb2
  go_wp2_with fail
  refine (needs_any kind _).mono ?_
  rintro e w3 ⟨v3, rfl, hi3, hb3⟩
  rw [HCE.out.2.2]
  have HA3 : Hid (w3.heap[w1.heap.size]? = some (BC c)) := block_step HA2.out hb3
  have HD3 : Hid (w3.heap[w2.heap.size]? = some (BC c)) := block_step HD2.out hb3
  have HB3 : Hid (Below w.heap.size w w3) := HB2.out.trans (hb3.mono HB2.out.size)
  have HI3 : Hid (IntsAt w3 v3 (Ak.needs kind)) := hi3
  clear hb3 hi3
  go_wp2_with fail
  refine (rneeds_any kind _).mono ?_
  rintro e w4 ⟨v4, rfl, hi4, hb4⟩
  rw [HCE.out.2.2]
  have HA4 : Hid (w4.heap[w1.heap.size]? = some (BC c)) := block_step HA3.out hb4
  have HD4 : Hid (w4.heap[w2.heap.size]? = some (BC c)) := block_step HD3.out hb4
  have HB4 : Hid (Below w.heap.size w w4) := HB3.out.trans (hb4.mono HB3.out.size)
  have HI4 : Hid (IntsAt w4 v3 (Ak.needs kind) ∧ IntsAt w4 v4 (Ak.needs kind)) := ⟨HI3.out.up hb4, hi4⟩
  clear hb4 hi4 HI3 HA3 HD3 HA2 HD2 HA1
  obtain ⟨a0, a1, a2, a3, a4, a5, a6, a7, a8, a9⟩ := ten_of HA4.out
  obtain ⟨d0, d1, d2, d3, d4, d5, d6, d7, d8, d9⟩ := ten_of HD4.out
  have heq : ∀ w', (binOp .eql 25 (VC c) (VC c)).run Try.prog w' = .ok (.bool true) w' := fun w' => eql_call w' c
  have t1 : (E == E) = true := beq_self_eq_true _
  have t2 : (g == g) = true := beq_self_eq_true _
  go_wp2_with fail
  refine (ints_same _ _ _ _ HI4.out.1 HI4.out.2).mono ?_
  rintro e w5 ⟨rfl, hb5⟩
  have HB5 : Hid (Below w.heap.size w w5) := HB4.out.trans (hb5.mono HB4.out.size)
  clear hb5 a0 a1 a2 a3 a4 a5 a6 a7 a8 a9 d0 d1 d2 d3 d4 d5 d6 d7 d8 d9
  go_wp2_with fail
  refine (look_any _).mono ?_
  rintro e w6 ⟨rfl, hb6⟩
  go_wp2
  go_ret
  exact ⟨rfl, HB5.out.trans (hb6.mono HB5.out.size)⟩

set_option maxRecDepth 100000 in
theorem askUnpacks_lifted (os : Os) (started : os.Started) (H : Type) (enc : TypeId × Value → H) (F : Stop.Interp) :
    ReturnsInHanded {} Try.checked os 4 .any ((Rows.OpenSpec.upto Rows.askUnpacksSpec).pre6 enc Try.prog Try.f4 Rows.askUnpacksUptoRow.domain false) (((Rows.OpenSpec.upto Rows.askUnpacksSpec).at F).post enc Try.prog Try.f4 false true false false) := by
  refine returnsInHanded_of_cond (C := Try.checked) (s := Rows.OpenSpec.upto Rows.askUnpacksSpec) (k := Rows.uptoSmall) rfl own started (by kernel_rfl) Try.func4
    (OpenSpec.witness (enc := enc) (C := Try.checked) (s := Rows.OpenSpec.upto Rows.askUnpacksSpec) (k := Rows.uptoSmall) rfl false ⟨#[], #[.string ⟨#[]⟩, .int .i64 0], []⟩ 8 (by kernel_rfl) (by kernel_rfl) (by kernel_rfl)
      (x := ([.lit (.string []), .lit (.int .i64 0)], [], [])) (by kernel_rfl) rfl (by kernel_rfl)) ?_
  intro W base args ds gs before hval0 hW _ hk _
  have hval : ∀ (j : Nat) t v, Try.f4.params[j]? = some t → args[j]? = some v → Value.okWide Try.prog W .any base t v := hval0
  have hW' := hW
  obtain ⟨p, q, hA0, hV, rfl, hfz, hnd⟩ := hW
  have hA : DataW.TrodAll enc Try.prog W 0 (fun _ => true) true Try.f4.params.toList args.toList ds p := hA0
  rw [Try.params4] at hA hval
  obtain ⟨v0, v1, d0, d1, p0, p1, rfl, rfl, rfl, h0, h1⟩ := trodAll_two hA
  obtain ⟨rfl, rfl⟩ := trodVars_none hV
  obtain ⟨s, rfl, rfl, rfl, hS⟩ := Go.ChangeMaps.open_string Try.underlying9 (hval 0 9 v0 rfl rfl) h0
  obtain ⟨n, rfl, rfl, rfl, wn⟩ := open_int Try.underlying3 (hval 1 3 v1 rfl rfl) h1
  refine (unpacks_any s n W (small_string hk)).mono fun e W' ⟨he, hg⟩ => ⟨_, he, ?_⟩
  exact Law.post laidOut (by kernel_rfl) rfl Try.underlying4 hW' rfl rfl hg

theorem askUnpacksUpto_holds : Rows.AskUnpacksUptoSaid :=
  OpenClaim.holds_of_cond 4 Try.f4 rfl rfl rfl rfl rfl rfl rfl ⟨rfl, rfl, rfl, rfl, rfl⟩ rfl rfl rfl rfl rfl (by kernel_rfl) Try.func4 (by kernel_rfl)
    (of_decide_eq_true (by kernel_rfl)) (by unfold Func.isWrapper; first | (rw [if_pos (by decide +kernel)]; kernel_rfl) | (rw [if_neg (by decide +kernel)]; exact ⟨rfl, rfl⟩))
    (fun os started H enc _ F => askUnpacks_lifted os started H enc F)
#print axioms askUnpacksUpto_holds
end Go.Proofs.Ytfdajcakmbpicaa
