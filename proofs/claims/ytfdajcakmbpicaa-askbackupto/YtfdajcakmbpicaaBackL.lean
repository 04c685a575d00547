/-
  For any call and any string (bulk at most 1048576) sextonlaw13.AskBack returns true, whatever the memory: what ask.Pack packs ask.Unpack unpacks, and what is unpacked is packed so. One condition: the bulk.
-/
import Derived.Test.YtfdajcakmbpicaaUnpacks
import Derived.JoinedCond
namespace Go.Proofs.Ytfdajcakmbpicaa
open Go.ChangeShapes Go.WideShapes Go.ChangeAt Go.RowKit Go.Deep
open Ak

theorem small_two {H : Type} {d : DataW H} {s : ByteArray} (hk : Rows.uptoSmall H [d, .lit (.string s.data.toList)] = true) : s.size ≤ 1048576 := by
  have h : Rows.uptoBulkAll [d, DataW.lit (H := H) (.string s.data.toList)] ≤ 1048576 := of_decide_eq_true hk
  simp only [Rows.uptoBulkAll, Rows.uptoBulk] at h
  have e : s.data.toList.length = s.size := by rw [Array.length_toList]; rfl
  omega
set_option maxHeartbeats 8000000 in
theorem back_any (c : Cl) (s : ByteArray) (w : World) (hs : s.size ≤ 1048576) : Calls Try.prog 5 #[VC c, .string s] w fun e w' => e = .returned (.bool true) ∧ Below w.heap.size w w' := by
  have HS : Hid (s.size ≤ 1048576) := hs
  clear hs
  obtain ⟨d, hd⟩ : ∃ d, unpC s.data.toList = d := ⟨_, rfl⟩
  obtain ⟨E, hE⟩ : ∃ E, unpE s.data.toList = E := ⟨_, rfl⟩
  have HDE : Hid (unpC s.data.toList = d ∧ unpE s.data.toList = E) := ⟨hd, hE⟩
  have key : (E = 0 ∧ Hid (packOut d = s ∧ packErr d = 0)) ∨ (E = 413 ∧ d = ⟨0, 0, 0, 0, 0, ⟨#[]⟩, ⟨#[]⟩, 0, 0, ⟨#[]⟩⟩) := by
    by_cases h : unpE s.data.toList = 0
    · obtain ⟨h1, h2⟩ := forth h
      rw [hd] at h1 h2
      refine .inl ⟨hE.symm.trans h, ?_, ?_⟩
      · rw [packOut, if_pos h1, h2, Pl.txt_toList]
      · rw [packErr, if_pos h1]
    · obtain ⟨h1, h2⟩ := unp_bad h
      exact .inr ⟨hE.symm.trans h2, hd.symm.trans h1⟩
  clear hd hE
  have hnq : ∀ w', (binOp .neq 25 (VC c) (VC c)).run Try.prog w' = .ok (.bool false) w' := fun w' => neq_call w' c
  by_cases hr : right c = true
  · have HO : Hid (packOut c = Pl.txt (Pl.encs (fields c)) ∧ packErr c = 0) := ⟨by rw [packOut, if_pos hr], by rw [packErr, if_pos hr]⟩
    have hbk := Ak.back hr
    obtain ⟨p, hp⟩ : ∃ p, Pl.txt (Pl.encs (fields c)) = p := ⟨_, rfl⟩
    have hpl : Pl.encs (fields c) = p.data.toList := by rw [← hp, Pl.txt_data]
    rw [hp] at HO
    rw [hpl] at hbk
    have HPS : Hid (p.size ≤ 1048576) := by have h1 := hbk.2.2; have h2 : p.data.toList.length = p.size := by simp
                                            show p.size ≤ _; omega
    have HU : Hid (unpC p.data.toList = c ∧ unpE p.data.toList = 0) := ⟨hbk.1, hbk.2.1⟩
    clear hr hbk hpl hp
    go_enter Try.func5, Try.ntmps5
    go_wp2_with fail
    refine (askPack_any c _).mono ?_
    rintro e w1 ⟨rfl, hb1⟩
    rw [HO.out.1, HO.out.2]
    have HB1 : Hid (Below w.heap.size w w1) := ((Below.refl _ _).alloc (Nat.le_refl _) _).trans (hb1.mono (by simp))
    have HA1 : Hid (w1.heap[w.heap.size]? = some (BC c)) := block_step (heap_alloc_new w (BC c)) hb1
    clear hb1
    go_wp2_with fail
    refine (askUnpack_any p _ HPS.out).mono ?_
    rintro e w2 ⟨rfl, hb2⟩
    rw [HU.out.1, HU.out.2]
    have HA2 : Hid ((w2.alloc (BC c)).heap[w.heap.size]? = some (BC c)) := (Below.heap_alloc _ _ _ (block_lt (block_step HA1.out hb2))).trans (block_step HA1.out hb2)
    have HB2 : Hid (Below w.heap.size w (w2.alloc (BC c))) := (HB1.out.trans (hb2.mono HB1.out.size)).alloc (HB1.out.trans (hb2.mono HB1.out.size)).size _
    obtain ⟨a0, a1, a2, a3, a4, a5, a6, a7, a8, a9⟩ := ten_of HA2.out
    clear hb2
    go_wp2_with fail
    refine (askUnpack_any s _ HS.out).mono ?_
    rintro e w3 ⟨rfl, hb3⟩
    rw [HDE.out.1, HDE.out.2]
    have HB3 : Hid (Below w.heap.size w (w3.alloc (BC d))) := (HB2.out.trans (hb3.mono HB2.out.size)).alloc (HB2.out.trans (hb3.mono HB2.out.size)).size _
    clear hb3 a0 a1 a2 a3 a4 a5 a6 a7 a8 a9
    rcases key with ⟨rfl, HK⟩ | ⟨rfl, rfl⟩
    · go_wp2_with fail
      refine (askPack_any d _).mono ?_
      rintro e w4 ⟨rfl, hb4⟩
      rw [HK.out.1, HK.out.2]
      have HB4 : Hid (Below w.heap.size w w4) := HB3.out.trans (hb4.mono HB3.out.size)
      have t1 : (s.toList == s.toList) = true := beq_self_eq_true _
      clear hb4
      go_wp2_with fail
      refine (look_any _).mono ?_
      rintro e w5 ⟨rfl, hb5⟩
      go_wp2
      go_ret
      exact ⟨rfl, HB4.out.trans (hb5.mono HB4.out.size)⟩
    · go_wp2_with fail
      refine (look_any _).mono ?_
      rintro e w5 ⟨rfl, hb5⟩
      go_wp2
      go_ret
      exact ⟨rfl, HB3.out.trans (hb5.mono HB3.out.size)⟩
  · have hr' : right c = false := by simpa using hr
    obtain ⟨p, hp⟩ : ∃ p, packOut c = p := ⟨_, rfl⟩
    have HO : Hid (packOut c = p ∧ packErr c = 413) := ⟨hp, by simp [packErr, hr']⟩
    clear hr hr' hp
    go_enter Try.func5, Try.ntmps5
    go_wp2_with fail
    refine (askPack_any c _).mono ?_
    rintro e w1 ⟨rfl, hb1⟩
    rw [HO.out.1, HO.out.2]
    have HB2 : Hid (Below w.heap.size w w1) := ((Below.refl _ _).alloc (Nat.le_refl _) _).trans (hb1.mono (by simp))
    clear hb1
    go_wp2_with fail
    refine (askUnpack_any s _ HS.out).mono ?_
    rintro e w3 ⟨rfl, hb3⟩
    rw [HDE.out.1, HDE.out.2]
    have HB3 : Hid (Below w.heap.size w (w3.alloc (BC d))) := (HB2.out.trans (hb3.mono HB2.out.size)).alloc (HB2.out.trans (hb3.mono HB2.out.size)).size _
    clear hb3
    rcases key with ⟨rfl, HK⟩ | ⟨rfl, rfl⟩
    · go_wp2_with fail
      refine (askPack_any d _).mono ?_
      rintro e w4 ⟨rfl, hb4⟩
      rw [HK.out.1, HK.out.2]
      have HB4 : Hid (Below w.heap.size w w4) := HB3.out.trans (hb4.mono HB3.out.size)
      have t1 : (s.toList == s.toList) = true := beq_self_eq_true _
      clear hb4
      go_wp2_with fail
      refine (look_any _).mono ?_
      rintro e w5 ⟨rfl, hb5⟩
      go_wp2
      go_ret
      exact ⟨rfl, HB4.out.trans (hb5.mono HB4.out.size)⟩
    · go_wp2_with fail
      refine (look_any _).mono ?_
      rintro e w5 ⟨rfl, hb5⟩
      go_wp2
      go_ret
      exact ⟨rfl, HB3.out.trans (hb5.mono HB3.out.size)⟩

set_option maxRecDepth 100000 in
theorem askBack_lifted (os : Os) (started : os.Started) (H : Type) (enc : TypeId × Value → H) (F : Stop.Interp) :
    ReturnsInHanded {} Try.checked os 5 .any ((Rows.OpenSpec.upto Rows.askBackSpec).pre6 enc Try.prog Try.f5 Rows.askBackUptoRow.domain false) (((Rows.OpenSpec.upto Rows.askBackSpec).at F).post enc Try.prog Try.f5 false true false false) := by
  refine returnsInHanded_of_cond (C := Try.checked) (s := Rows.OpenSpec.upto Rows.askBackSpec) (k := Rows.uptoSmall) rfl own started (by kernel_rfl) Try.func5
    (OpenSpec.witness (enc := enc) (C := Try.checked) (s := Rows.OpenSpec.upto Rows.askBackSpec) (k := Rows.uptoSmall) rfl false ⟨#[], #[.agg #[.int .i64 0, .int .i64 0, .int .i64 0, .int .i64 0, .int .i64 0, .string ⟨#[]⟩, .string ⟨#[]⟩, .int .i64 0, .int .i64 0, .string ⟨#[]⟩], .string ⟨#[]⟩], []⟩ 8 (by kernel_rfl) (by kernel_rfl) (by kernel_rfl)
      (x := ([.agg [.lit (.int .i64 0), .agg [.lit (.int .i64 0), .lit (.int .i64 0)], .agg [.lit (.int .i64 0), .lit (.int .i64 0)], .lit (.string []), .lit (.string []), .lit (.int .i64 0), .lit (.int .i64 0), .lit (.string [])], .lit (.string [])], [], [])) (by kernel_rfl) rfl (by kernel_rfl)) ?_
  intro W base args ds gs before hval0 hW _ hk _
  have hval : ∀ (j : Nat) t v, Try.f5.params[j]? = some t → args[j]? = some v → Value.okWide Try.prog W .any base t v := hval0
  have hW' := hW
  obtain ⟨p, q, hA0, hV, rfl, hfz, hnd⟩ := hW
  have hA : DataW.TrodAll enc Try.prog W 0 (fun _ => true) true Try.f5.params.toList args.toList ds p := hA0
  rw [Try.params5] at hA hval
  obtain ⟨v0, v1, d0, d1, p0, p1, rfl, rfl, rfl, h0, h1⟩ := trodAll_two hA
  obtain ⟨rfl, rfl⟩ := trodVars_none hV
  obtain ⟨c, rfl⟩ := open_call (hval 0 25 v0 rfl rfl) h0
  obtain ⟨s, rfl, rfl, rfl, hS⟩ := Go.ChangeMaps.open_string Try.underlying9 (hval 1 9 v1 rfl rfl) h1
  refine (back_any c s W (small_two hk)).mono fun e W' ⟨he, hg⟩ => ⟨_, he, ?_⟩
  exact Law.post laidOut (by kernel_rfl) rfl Try.underlying4 hW' rfl rfl hg

theorem askBackUpto_holds : Rows.AskBackUptoSaid :=
  OpenClaim.holds_of_cond 5 Try.f5 rfl rfl rfl rfl rfl rfl rfl ⟨rfl, rfl, rfl, rfl, rfl⟩ rfl rfl rfl rfl rfl (by kernel_rfl) Try.func5 (by kernel_rfl)
    (of_decide_eq_true (by kernel_rfl)) (by unfold Func.isWrapper; first | (rw [if_pos (by decide +kernel)]; kernel_rfl) | (rw [if_neg (by decide +kernel)]; exact ⟨rfl, rfl⟩))
    (fun os started H enc _ F => askBack_lifted os started H enc F)
#print axioms askBackUpto_holds
end Go.Proofs.Ytfdajcakmbpicaa
