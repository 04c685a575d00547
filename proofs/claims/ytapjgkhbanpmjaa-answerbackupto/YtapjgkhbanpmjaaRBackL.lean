/-
  For any reply and any string (bulk at most 1048576) sextonlaw14.AnswerBack returns true, whatever the memory: what answer.Pack packs answer.Unpack unpacks, what is unpacked is packed so, and the zero reply alone has no bytes. One condition: the bulk.
-/
import Derived.Test.YtapjgkhbanpmjaaROpen
import Derived.Test.YtapjgkhbanpmjaaRStale
import Derived.Test.YtapjgkhbanpmjaaRSame
import Derived.Test.YtapjgkhbanpmjaaBulk
import Derived.JoinedCond
namespace Go.Proofs.Ytapjgkhbanpmjaa
open Go.ChangeShapes Go.WideShapes Go.ChangeAt Go.RowKit Go.Deep
open Ak

theorem small_two {H : Type} {d : DataW H} {s : ByteArray} (hk : Rows.uptoSmall H [d, .lit (.string s.data.toList)] = true) : s.size ≤ 1048576 := by
  have h : Rows.uptoBulkAll [d, DataW.lit (H := H) (.string s.data.toList)] ≤ 1048576 := of_decide_eq_true hk
  simp only [Rows.uptoBulkAll, Rows.uptoBulk] at h
  have e : s.data.toList.length = s.size := by rw [Array.length_toList]; rfl
  omega
theorem Re.unp_ents (L : List UInt8) : ∀ x ∈ (Re.unpR L).ents, x.1.size ≤ maxLen := by
  unfold Re.unpR
  split
  · exact Re.ent_small (parse_small _ _ _)
  · intro x hx; cases hx
set_option maxRecDepth 100000 in
set_option maxHeartbeats 8000000 in
theorem back_any (r : Rep) (u : Value) (s : ByteArray) (w : World) (hv : AtW EE w u r.ents) (hse : ∀ x ∈ r.ents, x.1.size ≤ maxLen) (hs : s.size ≤ 1048576) : Calls Try.prog 5 #[VR r u, .string s] w fun e w' => e = .returned (.bool true) ∧ Below w.heap.size w w' := by
  have HS : Hid (s.size ≤ 1048576) := hs
  clear hs
  obtain ⟨d, hd⟩ : ∃ d, Re.unpR s.data.toList = d := ⟨_, rfl⟩
  obtain ⟨E, hE⟩ : ∃ E, Re.unpE s.data.toList = E := ⟨_, rfl⟩
  have HDE : Hid (Re.unpR s.data.toList = d ∧ Re.unpE s.data.toList = E) := ⟨hd, hE⟩
  have HDS : Hid (∀ x ∈ d.ents, x.1.size ≤ maxLen) := by rw [← hd]; exact Re.unp_ents _
  have key : (E = 0 ∧ Hid (Re.packOut d = s ∧ Re.packErr d = 0)) ∨ (E = 4 ∧ d = Re.zero) := by
    by_cases h : Re.unpE s.data.toList = 0
    · obtain ⟨h1, h2⟩ := Re.forth h
      rw [hd] at h1 h2
      refine .inl ⟨hE.symm.trans h, ?_, ?_⟩
      · rw [Re.packOut, if_pos h1, h2, Pl.txt_toList]
      · rw [Re.packErr, if_pos h1]
    · obtain ⟨h1, h2⟩ := Re.unp_bad h
      exact .inr ⟨hE.symm.trans h2, hd.symm.trans h1⟩
  clear hd hE
  obtain ⟨ao, cap, rfl, -, -⟩ := (show AtW EE w u r.ents from hv).open
  have HV : Hid (AtW EE w (.slice ao r.ents.length cap) r.ents) := hv
  have HSE : Hid (∀ x ∈ r.ents, x.1.size ≤ maxLen) := hse
  obtain ⟨z, hz⟩ : ∃ z, r.ents.length = z := ⟨_, rfl⟩
  rw [hz] at HV ⊢
  clear hv hse hz
  by_cases hr : Re.right r = true
  · have HO : Hid (Re.packOut r = Pl.txt (Pl.encs (Re.fields r)) ∧ Re.packErr r = 0) := ⟨by rw [Re.packOut, if_pos hr], by rw [Re.packErr, if_pos hr]⟩
    have hbk := Re.back hr
    have hem := Re.empty_iff (Re.right_iff.1 hr)
    obtain ⟨p, hp⟩ : ∃ p, Pl.txt (Pl.encs (Re.fields r)) = p := ⟨_, rfl⟩
    have hpl : Pl.encs (Re.fields r) = p.data.toList := by rw [← hp, Pl.txt_data]
    rw [hp] at HO
    rw [hpl] at hbk hem
    have HPS : Hid (p.size ≤ 1048576) := by
      have h1 := hbk.2.2
      have h2 : p.data.toList.length = p.size := by simp
      show p.size ≤ _
      omega
    have HUN : Hid (Re.unpR p.data.toList = r ∧ Re.unpE p.data.toList = 0) := ⟨hbk.1, hbk.2.1⟩
    obtain ⟨bz, hbz⟩ : ∃ bz : Bool, p.toList.isEmpty = bz := ⟨_, rfl⟩
    have HBZ : Hid (bz = true ↔ r = Re.zero) := by
      show _ ↔ _
      rw [← hem, ← hbz, ByteArray.toList_eq, List.isEmpty_iff]
    have hbb : (bz != bz) = false := by simp
    clear hr hbk hpl hp hem
    go_enter Try.func5, Try.ntmps5
    go_wp2_with fail
    refine (repPack_any r _ _ (HV.out.al _) HSE.out).mono ?_
    rintro e w1 ⟨rfl, hb1⟩
    rw [HO.out.1, HO.out.2]
    have HB1 : Hid (Below w.heap.size w w1) := ((Below.refl _ _).alloc (Nat.le_refl _) _).trans (hb1.mono (by simp))
    have HA1 : Hid (w1.heap[w.heap.size]? = some (BR r (.slice ao z cap))) := block_step (heap_alloc_new w _) hb1
    clear hb1
    go_wp2_with fail
    refine (repUnpack_any p _ HPS.out).mono ?_
    rintro e w2 ⟨v2, rfl, hv2, hb2⟩
    rw [HUN.out.1] at hv2
    rw [HUN.out.1, HUN.out.2]
    obtain ⟨ao2, cap2, rfl, -, -⟩ := (show AtW EE w2 v2 r.ents from hv2).open
    obtain ⟨z2, hz2⟩ : ∃ z, r.ents.length = z := ⟨_, rfl⟩
    rw [hz2] at hv2 ⊢
    have HA2 : Hid ((w2.alloc (BR r (.slice ao2 z2 cap2))).heap[w.heap.size]? = some (BR r (.slice ao z cap)) ∧ (w2.alloc (BR r (.slice ao2 z2 cap2))).heap[w2.heap.size]? = some (BR r (.slice ao2 z2 cap2))) := ⟨(Below.heap_alloc _ _ _ (block_lt (block_step HA1.out hb2))).trans (block_step HA1.out hb2), heap_alloc_new w2 _⟩
    have HB2 : Hid (Below w.heap.size w (w2.alloc (BR r (.slice ao2 z2 cap2)))) := (HB1.out.trans (hb2.mono HB1.out.size)).alloc (HB1.out.trans (hb2.mono HB1.out.size)).size _
    have HV2 : Hid (AtW EE (w2.alloc (BR r (.slice ao2 z2 cap2))) (.slice ao2 z2 cap2) r.ents ∧ AtW EE (w2.alloc (BR r (.slice ao2 z2 cap2))) (.slice ao z cap) r.ents) := ⟨(show AtW EE w2 _ r.ents from hv2).al _, HV.out.up HB2.out⟩
    obtain ⟨a0, a1, a2, a3, a4, a5, a6, a7, a8, a9⟩ := ten_of HA2.out.1
    obtain ⟨b0, b1, b2, b3, b4, b5, b6, b7, b8, b9⟩ := ten_of HA2.out.2
    clear hb2 hv2 hz2
    go_wp2_with fail
    refine (reply_same r _ _ _ HV2.out.1 HV2.out.2).mono ?_
    rintro e w6 ⟨rfl, hb6⟩
    have HB6 : Hid (Below w.heap.size w w6) := HB2.out.trans (hb6.mono HB2.out.size)
    have HA6 : Hid (w6.heap[w.heap.size]? = some (BR r (.slice ao z cap))) := block_step HA2.out.1 hb6
    have HV6 : Hid (AtW EE w6 (.slice ao z cap) r.ents) := HV2.out.2.up hb6
    clear hb6 a0 a1 a2 a3 a4 a5 a6 a7 a8 a9 b0 b1 b2 b3 b4 b5 b6 b7 b8 b9
    obtain ⟨a0, a1, a2, a3, a4, a5, a6, a7, a8, a9⟩ := ten_of HA6.out
    go_wp2_with fail
    refine (reply_zero r _ bz _ HV6.out HBZ.out).mono ?_
    rintro e w7 ⟨rfl, hb7⟩
    have HB7 : Hid (Below w.heap.size w w7) := HB6.out.trans (hb7.mono HB6.out.size)
    clear hb7 a0 a1 a2 a3 a4 a5 a6 a7 a8 a9
    go_wp2_with fail
    refine (repUnpack_any s _ HS.out).mono ?_
    rintro e w3 ⟨v3, rfl, hv3, hb3⟩
    rw [HDE.out.1] at hv3
    rw [HDE.out.1, HDE.out.2]
    obtain ⟨ao3, cap3, rfl, -, -⟩ := (show AtW EE w3 v3 d.ents from hv3).open
    obtain ⟨z3, hz3⟩ : ∃ z, d.ents.length = z := ⟨_, rfl⟩
    rw [hz3] at hv3 ⊢
    have HB3 : Hid (Below w.heap.size w (w3.alloc (BR d (.slice ao3 z3 cap3)))) := (HB7.out.trans (hb3.mono HB7.out.size)).alloc (HB7.out.trans (hb3.mono HB7.out.size)).size _
    have HD3 : Hid ((w3.alloc (BR d (.slice ao3 z3 cap3))).heap[w3.heap.size]? = some (BR d (.slice ao3 z3 cap3))) := heap_alloc_new w3 _
    have HVD : Hid (AtW EE (w3.alloc (BR d (.slice ao3 z3 cap3))) (.slice ao3 z3 cap3) d.ents) := (show AtW EE w3 _ d.ents from hv3).al _
    clear hb3 hv3 hz3
    rcases key with ⟨rfl, HK⟩ | ⟨rfl, rfl⟩
    · obtain ⟨x0, x1, x2, x3, x4, x5, x6, x7, x8, x9⟩ := ten_of HD3.out
      go_wp2_with fail
      refine (repPack_any d _ _ HVD.out HDS.out).mono ?_
      rintro e w4 ⟨rfl, hb4⟩
      rw [HK.out.1, HK.out.2]
      have HB4 : Hid (Below w.heap.size w w4) := HB3.out.trans (hb4.mono HB3.out.size)
      have t1 : (s.toList == s.toList) = true := beq_self_eq_true _
      clear hb4 x0 x1 x2 x3 x4 x5 x6 x7 x8 x9
      go_wp2_with fail
      refine (stale_any _).mono ?_
      rintro e w5 ⟨rfl, hb5⟩
      go_wp2
      go_ret
      exact ⟨rfl, HB4.out.trans (hb5.mono HB4.out.size)⟩
    · obtain ⟨x0, x1, x2, x3, x4, x5, x6, x7, x8, x9⟩ := ten_of HD3.out
      go_wp2_with fail
      refine (reply_zero Re.zero _ true _ HVD.out (by simp)).mono ?_
      rintro e w4 ⟨rfl, hb4⟩
      have HB4 : Hid (Below w.heap.size w w4) := HB3.out.trans (hb4.mono HB3.out.size)
      clear hb4 x0 x1 x2 x3 x4 x5 x6 x7 x8 x9
      go_wp2_with fail
      refine (stale_any _).mono ?_
      rintro e w5 ⟨rfl, hb5⟩
      go_wp2
      go_ret
      exact ⟨rfl, HB4.out.trans (hb5.mono HB4.out.size)⟩
  · have hr' : Re.right r = false := by simpa using hr
    obtain ⟨p, hp⟩ : ∃ p, Re.packOut r = p := ⟨_, rfl⟩
    have HO : Hid (Re.packOut r = p ∧ Re.packErr r = 4) := ⟨hp, by simp [Re.packErr, hr']⟩
    clear hr hr' hp
    go_enter Try.func5, Try.ntmps5
    go_wp2_with fail
    refine (repPack_any r _ _ (HV.out.al _) HSE.out).mono ?_
    rintro e w1 ⟨rfl, hb1⟩
    rw [HO.out.1, HO.out.2]
    have HB7 : Hid (Below w.heap.size w w1) := ((Below.refl _ _).alloc (Nat.le_refl _) _).trans (hb1.mono (by simp))
    clear hb1
    go_wp2_with fail
    refine (repUnpack_any s _ HS.out).mono ?_
    rintro e w3 ⟨v3, rfl, hv3, hb3⟩
    rw [HDE.out.1] at hv3
    rw [HDE.out.1, HDE.out.2]
    obtain ⟨ao3, cap3, rfl, -, -⟩ := (show AtW EE w3 v3 d.ents from hv3).open
    obtain ⟨z3, hz3⟩ : ∃ z, d.ents.length = z := ⟨_, rfl⟩
    rw [hz3] at hv3 ⊢
    have HB3 : Hid (Below w.heap.size w (w3.alloc (BR d (.slice ao3 z3 cap3)))) := (HB7.out.trans (hb3.mono HB7.out.size)).alloc (HB7.out.trans (hb3.mono HB7.out.size)).size _
    have HD3 : Hid ((w3.alloc (BR d (.slice ao3 z3 cap3))).heap[w3.heap.size]? = some (BR d (.slice ao3 z3 cap3))) := heap_alloc_new w3 _
    have HVD : Hid (AtW EE (w3.alloc (BR d (.slice ao3 z3 cap3))) (.slice ao3 z3 cap3) d.ents) := (show AtW EE w3 _ d.ents from hv3).al _
    clear hb3 hv3 hz3
    rcases key with ⟨rfl, HK⟩ | ⟨rfl, rfl⟩
    · obtain ⟨x0, x1, x2, x3, x4, x5, x6, x7, x8, x9⟩ := ten_of HD3.out
      go_wp2_with fail
      refine (repPack_any d _ _ HVD.out HDS.out).mono ?_
      rintro e w4 ⟨rfl, hb4⟩
      rw [HK.out.1, HK.out.2]
      have HB4 : Hid (Below w.heap.size w w4) := HB3.out.trans (hb4.mono HB3.out.size)
      have t1 : (s.toList == s.toList) = true := beq_self_eq_true _
      clear hb4 x0 x1 x2 x3 x4 x5 x6 x7 x8 x9
      go_wp2_with fail
      refine (stale_any _).mono ?_
      rintro e w5 ⟨rfl, hb5⟩
      go_wp2
      go_ret
      exact ⟨rfl, HB4.out.trans (hb5.mono HB4.out.size)⟩
    · obtain ⟨x0, x1, x2, x3, x4, x5, x6, x7, x8, x9⟩ := ten_of HD3.out
      go_wp2_with fail
      refine (reply_zero Re.zero _ true _ HVD.out (by simp)).mono ?_
      rintro e w4 ⟨rfl, hb4⟩
      have HB4 : Hid (Below w.heap.size w w4) := HB3.out.trans (hb4.mono HB3.out.size)
      clear hb4 x0 x1 x2 x3 x4 x5 x6 x7 x8 x9
      go_wp2_with fail
      refine (stale_any _).mono ?_
      rintro e w5 ⟨rfl, hb5⟩
      go_wp2
      go_ret
      exact ⟨rfl, HB4.out.trans (hb5.mono HB4.out.size)⟩

set_option maxRecDepth 100000 in
theorem answerBack_lifted (os : Os) (started : os.Started) (H : Type) (enc : TypeId × Value → H) (F : Stop.Interp) :
    ReturnsInHanded {} Try.checked os 5 .any ((Rows.OpenSpec.upto Rows.answerBackSpec).pre6 enc Try.prog Try.f5 Rows.answerBackUptoRow.domain false) (((Rows.OpenSpec.upto Rows.answerBackSpec).at F).post enc Try.prog Try.f5 false true false false) := by
  refine returnsInHanded_of_cond (C := Try.checked) (s := Rows.OpenSpec.upto Rows.answerBackSpec) (k := Rows.uptoSmall) rfl own started (by kernel_rfl) Try.func5
    (OpenSpec.witness (enc := enc) (C := Try.checked) (s := Rows.OpenSpec.upto Rows.answerBackSpec) (k := Rows.uptoSmall) rfl false ⟨#[], #[.agg #[.int .i64 0, .int .i64 0, .int .i64 0, .int .i64 0, .int .i64 0, .int .i64 0, .int .i64 0, .string ⟨#[]⟩, .slice none 0 0, .int .i64 0], .string ⟨#[]⟩], []⟩ 8 (by kernel_rfl) (by kernel_rfl) (by kernel_rfl)
      (x := ([.agg [.lit (.int .i64 0), .agg [.lit (.int .i64 0), .lit (.int .i64 0)], .agg [.lit (.int .i64 0), .lit (.int .i64 0), .lit (.int .i64 0), .lit (.int .i64 0)], .lit (.string []), .nil, .lit (.int .i64 0)], .lit (.string [])], [], [])) (by kernel_rfl) rfl (by kernel_rfl)) ?_
  intro W base args ds gs before hval0 hW _ hk _
  have hval : ∀ (j : Nat) t v, Try.f5.params[j]? = some t → args[j]? = some v → Value.okWide Try.prog W .any base t v := hval0
  have hW' := hW
  obtain ⟨p, q, hA0, hV, rfl, hfz, hnd⟩ := hW
  have hA : DataW.TrodAll enc Try.prog W 0 (fun _ => true) true Try.f5.params.toList args.toList ds p := hA0
  rw [Try.params5] at hA hval
  obtain ⟨v0, v1, d0, d1, p0, p1, rfl, rfl, rfl, h0, h1⟩ := trodAll_two hA
  obtain ⟨rfl, rfl⟩ := trodVars_none hV
  obtain ⟨r, u, rfl, hu, hse⟩ := open_reply (hval 0 29 v0 rfl rfl) h0
  obtain ⟨s, rfl, rfl, rfl, hS⟩ := Go.ChangeMaps.open_string Try.underlying9 (hval 1 9 v1 rfl rfl) h1
  refine (back_any r u s W hu hse (small_two hk)).mono fun e W' ⟨he, hg⟩ => ⟨_, he, ?_⟩
  exact Law.post laidOut (by kernel_rfl) rfl Try.underlying4 hW' rfl rfl hg

theorem answerBackUpto_holds : Rows.AnswerBackUptoSaid :=
  OpenClaim.holds_of_cond 5 Try.f5 rfl rfl rfl rfl rfl rfl rfl ⟨rfl, rfl, rfl, rfl, rfl⟩ rfl rfl rfl rfl rfl (by kernel_rfl) Try.func5 (by kernel_rfl)
    (of_decide_eq_true (by kernel_rfl)) (by unfold Func.isWrapper; first | (rw [if_pos (by decide +kernel)]; kernel_rfl) | (rw [if_neg (by decide +kernel)]; exact ⟨rfl, rfl⟩))
    (fun os started H enc _ F => answerBack_lifted os started H enc F)
#print axioms answerBackUpto_holds
end Go.Proofs.Ytapjgkhbanpmjaa
