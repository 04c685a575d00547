/-
  FolderPages.
-/
import Derived.Test.YtlpnkcolpgodjaaRefP
import Derived.Test.YtlpnkcolpgodjaaSame
import Derived.Test.YtlpnkcolpgodjaaLaw
import Derived.Test.YtlpnkcolpgodjaaOpen
namespace Go.Proofs.Ytlpnkcolpgodjaa
open Go.ChangeShapes Go.WideShapes Go.ChangeAt Go.RowKit Go.Deep
theorem results_cell1 {fn : Func} {p : Tmp} {ty : TypeId} (h : fn.results = #[.cell p ty]) (tmps : Array Value) (P : Program) (w : World) :
    (results fn tmps).run P w = ((asAddr (tmps.getD p undef)).run P w).andThen fun a w₁ => (loadVar ty a).run P w₁ := by
  simp only [results, h]
  simp [Sem.run_bind, Result.andThen]
theorem ref_any (ao : Option Addr) (m cap : Nat) (next : Int) (w : World) : Calls Try.prog 19 #[VD (.slice ao m cap) next] w fun e w' => e = .returned (VD (.slice ao m cap) next) ∧ Below w.heap.size w w' := by
  have a0 := (cell_older (by simp) (.cells #[.slice none 0 0, .int .i64 0] 44) 0).trans (box_cells w (.slice ao m cap) next).1
  have a1 := (cell_older (by simp) (.cells #[.slice none 0 0, .int .i64 0] 44) 1).trans (box_cells w (.slice ao m cap) next).2
  go_enter Try.func19, Try.ntmps19
  go_wp2
  (try simp only [Exit.inBlock, Exit.then])
  refine bodyPost_ret (v := VD (.slice ao m cap) next) ?_ rfl ⟨rfl, ?_⟩
  · rw [results_cell1 rfl]
    go_simp
  · exact ((Below.refl _ w).alloc (Nat.le_refl _) _).alloc (by simp) _
theorem plarge_any (ao : Option Addr) (m cap : Nat) (next : Int) (w : World) : Calls Try.prog 9 #[VD (.slice ao m cap) next] w fun e w' => e = .returned (.bool (decide (400 < (m : Int)))) ∧ w' = w.alloc (BD (.slice ao m cap) next) := by
  go_enter Try.func9, Try.ntmps9
  go_wp2
  go_ret
  exact ⟨rfl, rfl⟩
set_option maxHeartbeats 4000000 in
theorem pages_any (v : Value) (l : List Ent) (next c n : Int) (w : World) (hv : AtW EE w v l) (hs : ∀ x ∈ l, x.1.size ≤ maxLen) :
    Calls Try.prog 5 #[VD v next, .int .i64 c, .int .i64 n] w fun e w' => e = .returned (.bool true) ∧ Below w.heap.size w w' := by
  have hv0 := hv
  obtain ⟨ao, cap, rfl, hm, -⟩ := hv0.open
  clear hv0
  unfold maxLen at hm
  obtain ⟨m, hlm⟩ : ∃ m, l.length = m := ⟨_, rfl⟩
  rw [hlm] at hm hv ⊢
  obtain ⟨W, hW⟩ : ∃ W, W = (w.alloc (BD (.slice ao m cap) next)).alloc (BD (.slice ao m cap) next) := ⟨_, rfl⟩
  have HB0 : Hid (Below w.heap.size w W) := by show Below w.heap.size w W; rw [hW]; exact ((Below.refl _ w).alloc (Nat.le_refl _) _).alloc (by simp) _
  obtain ⟨a0, a1⟩ : W.cell? ⟨w.heap.size, 0, none⟩ = some (.slice ao m cap) ∧ W.cell? ⟨w.heap.size, 1, none⟩ = some (.int .i64 next) := by
    have := box_cells w (.slice ao m cap) next
    rw [hW]
    exact ⟨(cell_older (by simp) _ _).trans this.1, (cell_older (by simp) _ _).trans this.2⟩
  have HV : Hid (AtW EE W (.slice ao m cap) l) := hv.up HB0.out
  have HS : Hid (∀ x ∈ l, x.1.size ≤ maxLen) := hs
  clear hv hs hlm
  by_cases hl : (400 : Int) < (m : Int)
  · have HL : Hid (decide ((400 : Int) < (m : Int)) = true) := decide_eq_true hl
    clear hl
    go_enter Try.func5, Try.ntmps5
    go_wp2_with fail
    refine (plarge_any ao m cap next _).mono ?_
    rintro e w1 ⟨rfl, hw1⟩
    rw [← hW] at hw1
    subst hw1
    clear hW
    rw [HL.out]
    go_wp2_with fail
    refine (two_any _).mono ?_
    rintro e w2 ⟨rfl, hb⟩
    go_wp2
    go_ret
    exact ⟨rfl, HB0.out.trans (hb.mono HB0.out.size)⟩
  · have HL : Hid (decide ((400 : Int) < (m : Int)) = false) := decide_eq_false hl
    clear hl
    obtain ⟨pe, hpe⟩ : ∃ pe, Fo.pageErr l next c n = pe := ⟨_, rfl⟩
    have HPE : Hid (Fo.pageErr l next c n = pe) := hpe
    have t1 : (pe == pe) = true := beq_self_eq_true pe
    clear hpe
    go_enter Try.func5, Try.ntmps5
    go_wp2_with fail
    refine (plarge_any ao m cap next _).mono ?_
    rintro e w1 ⟨rfl, hw1⟩
    rw [← hW] at hw1
    subst hw1
    clear hW
    rw [HL.out]
    go_wp2_with fail
    refine (page_any _ l next c n _ HV.out HS.out).mono ?_
    rintro e w2 ⟨p2, n2, q2, rfl, h2, hb2⟩
    rw [HPE.out]
    have b0 := cell_step a0 hb2
    have b1 := cell_step a1 hb2
    have HB2 : Hid (Below w.heap.size w w2) := HB0.out.trans (hb2.mono HB0.out.size)
    have HV2 : Hid (AtW EE w2 (.slice ao m cap) l) := HV.out.up hb2
    have HP2 : Hid (AtW EE w2 (.slice p2 n2 q2) (Fo.page l next c n)) := h2.wide
    clear hb2 h2 a0 a1
    go_wp2_with fail
    refine (ref_any ao m cap next _).mono ?_
    rintro e w3 ⟨rfl, hb3⟩
    have HB3 : Hid (Below w.heap.size w w3) := HB2.out.trans (hb3.mono HB2.out.size)
    have HV3 : Hid (AtW EE w3 (.slice ao m cap) l) := HV2.out.up hb3
    have HP3 : Hid (AtW EE w3 (.slice p2 n2 q2) (Fo.page l next c n)) := HP2.out.up hb3
    clear hb3 b0 b1
    go_wp2_with fail
    refine (rpage_any _ l next c n _ HV3.out HS.out).mono ?_
    rintro e w4 ⟨p4, n4, q4, rfl, h4, hb4⟩
    rw [HPE.out]
    have HB4 : Hid (Below w.heap.size w w4) := HB3.out.trans (hb4.mono HB3.out.size)
    have HP4 : Hid (AtW EE w4 (.slice p2 n2 q2) (Fo.page l next c n) ∧ AtW EE w4 (.slice p4 n4 q4) (Fo.page l next c n)) := ⟨HP3.out.up hb4, h4.wide⟩
    clear hb4 h4
    go_wp2_with fail
    refine (entries_same _ _ (Fo.page l next c n) _ HP4.out.1 HP4.out.2).mono ?_
    rintro e w5 ⟨rfl, hb5⟩
    have HB5 : Hid (Below w.heap.size w w5) := HB4.out.trans (hb5.mono HB4.out.size)
    clear hb5
    go_wp2_with fail
    refine (two_any _).mono ?_
    rintro e w6 ⟨rfl, hb6⟩
    have HB6 : Hid (Below w.heap.size w w6) := HB5.out.trans (hb6.mono HB5.out.size)
    clear hb6
    go_wp2
    go_ret
    exact ⟨rfl, HB6.out⟩

set_option maxRecDepth 100000 in
theorem folderPages_lifted (os : Os) (started : os.Started) (H : Type) (enc : TypeId × Value → H) :
    ReturnsInHanded {} Try.checked os 5 .any (Rows.folderPagesSpec.pre6 enc Try.prog Try.f5 Rows.folderPagesRow.domain false) (Rows.folderPagesSpec.post enc Try.prog Try.f5 false true false false) := by
  refine returnsInHanded_of_change (C := Try.checked) own started (by kernel_rfl) Try.func5
    (ChangeSpec.witness6 (enc := enc) (C := Try.checked) false ⟨#[], #[.agg #[.slice none 0 0, .int .i64 0], .int .i64 0, .int .i64 0], []⟩ 8 (by kernel_rfl) (by kernel_rfl) (by kernel_rfl) (by kernel_rfl)) ?_
  intro W base args ds gs before hval0 hW hcnd _
  have hval : ∀ (j : Nat) t v, Try.f5.params[j]? = some t → args[j]? = some v → Value.okWide Try.prog W .any base t v := hval0
  have hW' := hW
  have hlt : ∀ x ∈ before, x.block < W.heap.size := fun x hx => by simpa using hW'.lt x hx
  obtain ⟨p, q, hA0, hV, rfl, hfz, hnd⟩ := hW
  have hA : DataW.TrodAll enc Try.prog W 0 (fun _ => true) true Try.f5.params.toList args.toList ds p := hA0
  rw [Try.params5] at hA hval
  obtain ⟨v0, v1, v2, d0, d1, d2, p0, p1, p2, rfl, rfl, rfl, h0, h1, h2⟩ := trodAll_three hA
  obtain ⟨rfl, rfl⟩ := trodVars_none hV
  obtain ⟨u, l, next, rfl, hl, hs⟩ := open_dir (hval 0 24 v0 rfl rfl) h0
  obtain ⟨c, rfl, -, -, -⟩ := open_int Try.underlying3 (hval 1 3 v1 rfl rfl) h1
  obtain ⟨n, rfl, -, -, -⟩ := open_int Try.underlying3 (hval 2 3 v2 rfl rfl) h2
  refine (pages_any u l next c n W hl hs).mono fun e W' ⟨he, hg⟩ => ⟨_, he, ?_⟩
  exact Law.post laidOut (by kernel_rfl) rfl Try.underlying4 hW' rfl rfl hg

theorem folderPages_holds : Rows.FolderPagesSaid :=
  OpenClaim.holds_of_wide 5 Try.f5 rfl rfl rfl rfl rfl rfl rfl ⟨rfl, rfl, rfl, rfl, rfl⟩ rfl rfl rfl rfl rfl (by kernel_rfl) Try.func5 (by kernel_rfl)
    (of_decide_eq_true (by kernel_rfl)) (by unfold Func.isWrapper; first | (rw [if_pos (by decide +kernel)]; kernel_rfl) | (rw [if_neg (by decide +kernel)]; exact ⟨rfl, rfl⟩))
    (fun os started H enc _ => folderPages_lifted os started H enc)
#print axioms folderPages_holds
end Go.Proofs.Ytlpnkcolpgodjaa
