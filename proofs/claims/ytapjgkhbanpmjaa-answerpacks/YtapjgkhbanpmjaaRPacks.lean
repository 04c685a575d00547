/-
  For any reply sextonlaw14.AnswerPacks returns true, whatever the memory: answer.Check and answer.Pack answer what the document says. No condition.
-/
import Derived.Test.YtapjgkhbanpmjaaROpen
import Derived.Test.YtapjgkhbanpmjaaRStale
import Derived.Test.YtapjgkhbanpmjaaRRefPk
import Derived.JoinedCond
namespace Go.Proofs.Ytapjgkhbanpmjaa
open Go.ChangeShapes Go.WideShapes Go.ChangeAt Go.RowKit Go.Deep
open Ak

set_option maxRecDepth 100000 in
set_option maxHeartbeats 8000000 in
theorem packs_any (r : Rep) (u : Value) (w : World) (hv : AtW EE w u r.ents) (hs : ∀ x ∈ r.ents, x.1.size ≤ maxLen) : Calls Try.prog 3 #[VR r u] w fun e w' => e = .returned (.bool true) ∧ Below w.heap.size w w' := by
  obtain ⟨p, hp⟩ : ∃ p, Re.packOut r = p := ⟨_, rfl⟩
  obtain ⟨q, hq⟩ : ∃ q, Re.packErr r = q := ⟨_, rfl⟩
  have HP : Hid (Re.packOut r = p ∧ Re.packErr r = q) := ⟨hp, hq⟩
  clear hp hq
  have key : ∃ (b : Bool) (y : Int), Hid (Re.right r = b) ∧ Hid ((if Re.right r then (0 : Int) else 4) = y) ∧ (b = true ∧ y = 0 ∨ b = false ∧ y = 4) := by
    by_cases hr : Re.right r = true
    · exact ⟨true, 0, hr, by show (if Re.right r then (0 : Int) else 4) = 0; rw [if_pos hr], .inl ⟨rfl, rfl⟩⟩
    · exact ⟨false, 4, by simpa [Hid] using hr, by show (if Re.right r then (0 : Int) else 4) = 4; rw [if_neg hr], .inr ⟨rfl, rfl⟩⟩
  obtain ⟨b, y, HR, HY, hby⟩ := key
  obtain ⟨ao, cap, rfl, -, -⟩ := (show AtW EE w u r.ents from hv).open
  have HV : Hid (AtW EE w (.slice ao r.ents.length cap) r.ents) := hv
  have HS : Hid (∀ x ∈ r.ents, x.1.size ≤ maxLen) := hs
  obtain ⟨z, hz⟩ : ∃ z, r.ents.length = z := ⟨_, rfl⟩
  rw [hz] at HV ⊢
  clear hv hs hz
  go_enter Try.func3, Try.ntmps3
  go_wp2_with fail
  refine (repPack_any r _ _ (HV.out.al _) HS.out).mono ?_
  rintro e w1 ⟨rfl, hb1⟩
  rw [HP.out.1, HP.out.2]
  have HB1 : Hid (Below w.heap.size w w1) := ((Below.refl _ _).alloc (Nat.le_refl _) _).trans (hb1.mono (by simp))
  have HA1 : Hid (w1.heap[w.heap.size]? = some (BR r (.slice ao z cap))) := block_step (heap_alloc_new w _) hb1
  obtain ⟨c0, c1, c2, c3, c4, c5, c6, c7, c8, c9⟩ := ten_of HA1.out
  clear hb1
  go_wp2_with fail
  refine (repRefPack_any r _ _ (HV.out.up HB1.out) HS.out).mono ?_
  rintro e w2 ⟨rfl, hb2⟩
  rw [HP.out.1, HP.out.2]
  have HB2 : Hid (Below w.heap.size w w2) := HB1.out.trans (hb2.mono HB1.out.size)
  have HA2 : Hid (w2.heap[w.heap.size]? = some (BR r (.slice ao z cap))) := block_step HA1.out hb2
  clear hb2 c0 c1 c2 c3 c4 c5 c6 c7 c8 c9
  obtain ⟨d0, d1, d2, d3, d4, d5, d6, d7, d8, d9⟩ := ten_of HA2.out
  have e0 := fun p : Grw w2 => p.cell d0
  have e1 := fun p : Grw w2 => p.cell d1
  have e2 := fun p : Grw w2 => p.cell d2
  have e3 := fun p : Grw w2 => p.cell d3
  have e4 := fun p : Grw w2 => p.cell d4
  have e5 := fun p : Grw w2 => p.cell d5
  have e6 := fun p : Grw w2 => p.cell d6
  have e7 := fun p : Grw w2 => p.cell d7
  have e8 := fun p : Grw w2 => p.cell d8
  have e9 := fun p : Grw w2 => p.cell d9
  clear d0 d1 d2 d3 d4 d5 d6 d7 d8 d9
  have HVV : Hid (∀ V, w2.grownBy V none → AtW EE V (.slice ao z cap) r.ents) := fun V hV => (HV.out.up HB2.out).up (below_none hV (Nat.le_refl _))
  have HC1 : Hid (∀ V, w2.grownBy V none → Calls Try.prog 8 #[VR r (.slice ao z cap)] V fun e w' => e = .returned (.int .i64 y) ∧ Below V.heap.size V w') := fun V hV => check_is r _ V y (HVV.out V hV) HS.out HY
  have HC2 : Hid (∀ V, w2.grownBy V none → Calls Try.prog 9 #[VR r (.slice ao z cap)] V fun e w' => e = .returned (.bool b) ∧ Below V.heap.size V w') := fun V hV => rright_is r _ V b (HVV.out V hV) HS.out HR
  have HC3 : Hid (∀ V, w2.grownBy V none → Calls Try.prog 10 #[] V fun e w' => e = .returned (.bool true) ∧ Below V.heap.size V w') := fun V _ => stale_any V
  have hne9 : Nonempty (Grw w2) := grw_some w2
  have t1 : (q == q) = true := beq_self_eq_true q
  have t2 : (p.toList == p.toList) = true := beq_self_eq_true _
  go_wp2_with fail
  rcases hby with ⟨rfl, rfl⟩ | ⟨rfl, rfl⟩
  all_goals
    refine wp_region_grw (by kernel_rfl) (by kernel_rfl) ?_
    repeat (go_big_quiet_step (first
      | (go_at_call 8; with_reducible refine calls_grw (Grw.grown _) (HC1.out _ (Grw.grown _)))
      | (go_at_call 9; with_reducible refine calls_grw (Grw.grown _) (HC2.out _ (Grw.grown _)))
      | (go_at_call 10; with_reducible refine calls_grw (Grw.grown _) (HC3.out _ (Grw.grown _)))))
    rintro w9 ⟨p9, rfl⟩
    have HB : Hid (Below w.heap.size w p9.out) := HB2.out.trans (p9.below.mono HB2.out.size)
    go_wp2
    go_ret
    exact ⟨rfl, HB.out⟩

set_option maxRecDepth 100000 in
theorem answerPacks_lifted (os : Os) (started : os.Started) (H : Type) (enc : TypeId × Value → H) :
    ReturnsInHanded {} Try.checked os 3 .any (Rows.answerPacksSpec.pre6 enc Try.prog Try.f3 Rows.answerPacksRow.domain false) (Rows.answerPacksSpec.post enc Try.prog Try.f3 false true false false) := by
  refine returnsInHanded_of_change (C := Try.checked) own started (by kernel_rfl) Try.func3
    (ChangeSpec.witness6 (enc := enc) (C := Try.checked) false ⟨#[], #[.agg #[.int .i64 0, .int .i64 0, .int .i64 0, .int .i64 0, .int .i64 0, .int .i64 0, .int .i64 0, .string ⟨#[]⟩, .slice none 0 0, .int .i64 0]], []⟩ 8 (by kernel_rfl) (by kernel_rfl) (by kernel_rfl) (by kernel_rfl)) ?_
  intro W base args ds gs before hval0 hW hcnd _
  have hval : ∀ (j : Nat) t v, Try.f3.params[j]? = some t → args[j]? = some v → Value.okWide Try.prog W .any base t v := hval0
  have hW' := hW
  obtain ⟨p, q, hA0, hV, rfl, hfz, hnd⟩ := hW
  have hA : DataW.TrodAll enc Try.prog W 0 (fun _ => true) true Try.f3.params.toList args.toList ds p := hA0
  rw [Try.params3] at hA hval
  obtain ⟨v0, d0, rfl, rfl, h0⟩ := trodAll_one hA
  obtain ⟨rfl, rfl⟩ := trodVars_none hV
  obtain ⟨r, u, rfl, hu, hs⟩ := open_reply (hval 0 29 v0 rfl rfl) h0
  refine (packs_any r u W hu hs).mono fun e W' ⟨he, hg⟩ => ⟨_, he, ?_⟩
  exact Law.post laidOut (by kernel_rfl) rfl Try.underlying4 hW' rfl rfl hg

theorem answerPacks_holds : Rows.AnswerPacksSaid :=
  OpenClaim.holds_of_wide 3 Try.f3 rfl rfl rfl rfl rfl rfl rfl ⟨rfl, rfl, rfl, rfl, rfl⟩ rfl rfl rfl rfl rfl (by kernel_rfl) Try.func3 (by kernel_rfl)
    (of_decide_eq_true (by kernel_rfl)) (by unfold Func.isWrapper; first | (rw [if_pos (by decide +kernel)]; kernel_rfl) | (rw [if_neg (by decide +kernel)]; exact ⟨rfl, rfl⟩))
    (fun os started H enc _ => answerPacks_lifted os started H enc)
#print axioms answerPacks_holds
end Go.Proofs.Ytapjgkhbanpmjaa
