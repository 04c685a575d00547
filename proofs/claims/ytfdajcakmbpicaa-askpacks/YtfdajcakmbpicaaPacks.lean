/-
  For any call sextonlaw13.AskPacks returns true, whatever the memory: ask.Check and ask.Pack answer what the document says. No condition.
-/
import Derived.Test.YtfdajcakmbpicaaKOpen
import Derived.Test.YtfdajcakmbpicaaKPack
import Derived.Test.YtfdajcakmbpicaaKRef
import Derived.JoinedCond
namespace Go.Proofs.Ytfdajcakmbpicaa
open Go.ChangeShapes Go.WideShapes Go.ChangeAt Go.RowKit Go.Deep
open Ak

set_option maxHeartbeats 8000000 in
theorem packs_any (c : Cl) (w : World) : Calls Try.prog 3 #[VC c] w fun e w' => e = .returned (.bool true) ∧ Below w.heap.size w w' := by
  obtain ⟨p, hp⟩ : ∃ p, packOut c = p := ⟨_, rfl⟩
  obtain ⟨q, hq⟩ : ∃ q, packErr c = q := ⟨_, rfl⟩
  have HP : Hid (packOut c = p ∧ packErr c = q) := ⟨hp, hq⟩
  clear hp hq
  have key : ∃ (b : Bool) (y : Int), Hid (right c = b) ∧ Hid ((if right c then (0 : Int) else 413) = y) ∧ (b = true ∧ y = 0 ∨ b = false ∧ y = 413) := by
    by_cases hr : right c = true
    · exact ⟨true, 0, hr, by show (if right c then (0 : Int) else 413) = 0; rw [if_pos hr], .inl ⟨rfl, rfl⟩⟩
    · exact ⟨false, 413, by simpa [Hid] using hr, by show (if right c then (0 : Int) else 413) = 413; rw [if_neg hr], .inr ⟨rfl, rfl⟩⟩
  obtain ⟨b, y, HR, HY, hby⟩ := key
  go_enter Try.func3, Try.ntmps3
  go_wp2_with fail
  refine (askPack_any c _).mono ?_
  rintro e w1 ⟨rfl, hb1⟩
  rw [HP.out.1, HP.out.2]
  have HB1 : Hid (Below w.heap.size w w1) := ((Below.refl _ _).alloc (Nat.le_refl _) _).trans (hb1.mono (by simp))
  have HA1 : Hid (w1.heap[w.heap.size]? = some (BC c)) := block_step (heap_alloc_new w (BC c)) hb1
  obtain ⟨c0, c1, c2, c3, c4, c5, c6, c7, c8, c9⟩ := ten_of HA1.out
  clear hb1
  go_wp2_with fail
  refine (askRefPack_any c _).mono ?_
  rintro e w2 ⟨rfl, hb2⟩
  rw [HP.out.1, HP.out.2]
  have HB2 : Hid (Below w.heap.size w w2) := HB1.out.trans (hb2.mono HB1.out.size)
  have HA2 : Hid (w2.heap[w.heap.size]? = some (BC c)) := block_step HA1.out hb2
  clear hb2 c0 c1 c2 c3 c4 c5 c6 c7 c8 c9
  obtain ⟨d0, d1, d2, d3, d4, d5, d6, d7, d8, d9⟩ := ten_of HA2.out
  have e0 := fun p : Grw w2 => p.cell d0
  have e1 := fun p : Grw w2 => p.cell d1
  have e2 := fun p : Grw w2 => p.cell d2
  have e3 := fun p : Grw w2 => p.cell d3
  have e4 := fun p : Grw w2 => p.cell d4
  have e5 := fun p : Grw w2 => p.cell d5
  have e6 := fun p : Grw w2 => p.cell d6
  have e7 := fun p : Grw w2 => p.cell d7
  have e8 := fun p : Grw w2 => p.cell d8
  have e9 := fun p : Grw w2 => p.cell d9
  clear d0 d1 d2 d3 d4 d5 d6 d7 d8 d9
  have HC1 : Hid (∀ V, Calls Try.prog 8 #[VC c] V fun e w' => e = .returned (.int .i64 y) ∧ Below V.heap.size V w') := fun V => check_is c V y HY
  have HC2 : Hid (∀ V, Calls Try.prog 9 #[VC c] V fun e w' => e = .returned (.bool b) ∧ Below V.heap.size V w') := fun V => rright_is c V b HR
  have HC3 : Hid (∀ V, Calls Try.prog 10 #[] V fun e w' => e = .returned (.bool true) ∧ Below V.heap.size V w') := fun V => look_any V
  have hne9 : Nonempty (Grw w2) := grw_some w2
  have t1 : (q == q) = true := beq_self_eq_true q
  have t2 : (p.toList == p.toList) = true := beq_self_eq_true _
  go_wp2_with fail
  rcases hby with ⟨rfl, rfl⟩ | ⟨rfl, rfl⟩
  all_goals
    refine wp_region_grw (by kernel_rfl) (by kernel_rfl) ?_
    repeat (go_big_quiet_step (first
      | (go_at_call 8; with_reducible refine calls_grw (Grw.grown _) (HC1.out _))
      | (go_at_call 9; with_reducible refine calls_grw (Grw.grown _) (HC2.out _))
      | (go_at_call 10; with_reducible refine calls_grw (Grw.grown _) (HC3.out _))))
    rintro w9 ⟨p9, rfl⟩
    have HB : Hid (Below w.heap.size w p9.out) := HB2.out.trans (p9.below.mono HB2.out.size)
    go_wp2
    go_ret
    exact ⟨rfl, HB.out⟩

set_option maxRecDepth 100000 in
theorem askPacks_lifted (os : Os) (started : os.Started) (H : Type) (enc : TypeId × Value → H) :
    ReturnsInHanded {} Try.checked os 3 .any (Rows.askPacksSpec.pre6 enc Try.prog Try.f3 Rows.askPacksRow.domain false) (Rows.askPacksSpec.post enc Try.prog Try.f3 false true false false) := by
  refine returnsInHanded_of_change (C := Try.checked) own started (by kernel_rfl) Try.func3
    (ChangeSpec.witness6 (enc := enc) (C := Try.checked) false ⟨#[], #[.agg #[.int .i64 0, .int .i64 0, .int .i64 0, .int .i64 0, .int .i64 0, .string ⟨#[]⟩, .string ⟨#[]⟩, .int .i64 0, .int .i64 0, .string ⟨#[]⟩]], []⟩ 8 (by kernel_rfl) (by kernel_rfl) (by kernel_rfl) (by kernel_rfl)) ?_
  intro W base args ds gs before hval0 hW hcnd _
  have hval : ∀ (j : Nat) t v, Try.f3.params[j]? = some t → args[j]? = some v → Value.okWide Try.prog W .any base t v := hval0
  have hW' := hW
  obtain ⟨p, q, hA0, hV, rfl, hfz, hnd⟩ := hW
  have hA : DataW.TrodAll enc Try.prog W 0 (fun _ => true) true Try.f3.params.toList args.toList ds p := hA0
  rw [Try.params3] at hA hval
  obtain ⟨v0, d0, rfl, rfl, h0⟩ := trodAll_one hA
  obtain ⟨rfl, rfl⟩ := trodVars_none hV
  obtain ⟨c, rfl⟩ := open_call (hval 0 25 v0 rfl rfl) h0
  refine (packs_any c W).mono fun e W' ⟨he, hg⟩ => ⟨_, he, ?_⟩
  exact Law.post laidOut (by kernel_rfl) rfl Try.underlying4 hW' rfl rfl hg

theorem askPacks_holds : Rows.AskPacksSaid :=
  OpenClaim.holds_of_wide 3 Try.f3 rfl rfl rfl rfl rfl rfl rfl ⟨rfl, rfl, rfl, rfl, rfl⟩ rfl rfl rfl rfl rfl (by kernel_rfl) Try.func3 (by kernel_rfl)
    (of_decide_eq_true (by kernel_rfl)) (by unfold Func.isWrapper; first | (rw [if_pos (by decide +kernel)]; kernel_rfl) | (rw [if_neg (by decide +kernel)]; exact ⟨rfl, rfl⟩))
    (fun os started H enc _ => askPacks_lifted os started H enc)
#print axioms askPacks_holds
end Go.Proofs.Ytfdajcakmbpicaa
