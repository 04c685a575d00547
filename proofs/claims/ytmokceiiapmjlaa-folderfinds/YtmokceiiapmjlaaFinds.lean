/-
  FolderFinds: the walk.
-/
import Derived.Test.YtmokceiiapmjlaaRefC
import Derived.Test.YtmokceiiapmjlaaLaw
import Derived.Test.YtmokceiiapmjlaaOpen
import Derived.ChangeMaps5
namespace Go.Proofs.Ytmokceiiapmjlaa
open Go.ChangeShapes Go.WideShapes Go.ChangeAt Go.RowKit Go.Deep
/-- Any world grown from w. -/
structure Grw (w : World) where
  out : World
  grown : w.grownBy out none
theorem grw_some (w : World) : Nonempty (Grw w) := ⟨⟨w, grown_refl _ _⟩⟩
/-- A region that only reads, and whose callees read and lay blocks of their own, walked once. -/
theorem wp_region_grw {P : Program} {id : Nat} {Q : Exit → Act → World → Prop} {a : Act} {w : World} {l : List Oper} (hm : P.follows .mixedOrders = true) (hB : Region.lexB .any l.toArray = true)
    (h : wpQuiet P l.toArray (fun w' => ∃ p : Grw w, w' = p.out) (fun a' => ∀ w', (∃ p : Grw w, w' = p.out) → Q .normal a' w') l a) : (Code.region id l.toArray true).wp P Q a w :=
  wp_region_quiet (C := fun w' => ∃ p : Grw w, w' = p.out) hm hB ⟨⟨w.drew, ⟨rfl, rfl, rfl, Nat.le_refl _, fun _ _ _ => rfl⟩⟩, rfl⟩ (by simpa using h)
theorem calls_grw {P : Program} {f : FuncId} {args : Array Value} {w W : World} {v : Value} (hg : w.grownBy W none)
    (h : Calls P f args W fun e w' => e = .returned v ∧ Below W.heap.size W w') : Calls P f args W fun e w'' => e = .returned v ∧ ∃ p : Grw w, w'' = p.out :=
  h.mono fun _ w' ⟨he, hw⟩ => ⟨he, ⟨w', grown_trans hg (grown_of_below hw none)⟩, rfl⟩
theorem Grw.below {w : World} (p : Grw w) : Below w.heap.size w p.out := below_none p.grown (Nat.le_refl _)
theorem Grw.cell {w : World} (p : Grw w) {b j : Nat} {v : Value} (h : w.cell? ⟨b, j, none⟩ = some v) : p.out.cell? ⟨b, j, none⟩ = some v := cell_step h p.below

theorem large_any (ao : Option Addr) (m cap : Nat) (next : Int) (w : World) : Calls Try.prog 9 #[VD (.slice ao m cap) next] w fun e w' => e = .returned (.bool (decide (400 < (m : Int)))) ∧ w' = w.alloc (BD (.slice ao m cap) next) := by
  go_enter Try.func9, Try.ntmps9
  go_wp2
  go_ret
  exact ⟨rfl, rfl⟩
set_option maxHeartbeats 4000000 in
theorem finds_any (v : Value) (l : List Ent) (next : Int) (s : ByteArray) (w : World) (hv : AtW EE w v l) (hs : ∀ x ∈ l, x.1.size ≤ maxLen) (hn : s.size ≤ maxLen) :
    Calls Try.prog 3 #[VD v next, .string s] w fun e w' => e = .returned (.bool true) ∧ Below w.heap.size w w' := by
  have hv0 := hv
  obtain ⟨ao, cap, rfl, hm, -⟩ := hv0.open
  clear hv0
  unfold maxLen at hm
  obtain ⟨m, hlm⟩ : ∃ m, l.length = m := ⟨_, rfl⟩
  rw [hlm] at hm hv ⊢
  obtain ⟨W, hW⟩ : ∃ W, W = (w.alloc (BD (.slice ao m cap) next)).alloc (BD (.slice ao m cap) next) := ⟨_, rfl⟩
  have HB0 : Hid (Below w.heap.size w W) := by show Below w.heap.size w W; rw [hW]; exact ((Below.refl _ w).alloc (Nat.le_refl _) _).alloc (by simp) _
  obtain ⟨a0, a1⟩ : W.cell? ⟨w.heap.size, 0, none⟩ = some (.slice ao m cap) ∧ W.cell? ⟨w.heap.size, 1, none⟩ = some (.int .i64 next) := by
    have := box_cells w (.slice ao m cap) next
    rw [hW]
    exact ⟨(cell_older (by simp) _ _).trans this.1, (cell_older (by simp) _ _).trans this.2⟩
  have HV : Hid (AtW EE W (.slice ao m cap) l) := hv.up HB0.out
  have HS : Hid (∀ x ∈ l, x.1.size ≤ maxLen) := hs
  have HNN : Hid (s.size ≤ maxLen) := hn
  clear hv hs hn hlm
  by_cases hl : (400 : Int) < (m : Int)
  · have HL : Hid (decide ((400 : Int) < (m : Int)) = true) := decide_eq_true hl
    clear hl
    go_enter Try.func3, Try.ntmps3
    go_wp2_with fail
    refine (large_any ao m cap next _).mono ?_
    rintro e w1 ⟨rfl, hw1⟩
    rw [← hW] at hw1
    subst hw1
    clear hW
    rw [HL.out]
    go_wp2_with fail
    refine (two_any _).mono ?_
    rintro e w2 ⟨rfl, hb⟩
    go_wp2
    go_ret
    exact ⟨rfl, HB0.out.trans (hb.mono HB0.out.size)⟩
  · have HL : Hid (decide ((400 : Int) < (m : Int)) = false) := decide_eq_false hl
    clear hl
    obtain ⟨f, hf⟩ : ∃ f, Fo.found l next s = f := ⟨_, rfl⟩
    have HF : Hid (Fo.found l next s = f) := hf
    obtain ⟨fe, hfe⟩ : ∃ fe, Fo.findErr l next s = fe := ⟨_, rfl⟩
    have HFE : Hid (Fo.findErr l next s = fe) := hfe
    obtain ⟨ne, hne⟩ : ∃ ne, Nm.err s = ne := ⟨_, rfl⟩
    have HNE : Hid (Nm.err s = ne) := hne
    obtain ⟨ce, rb, hce⟩ : ∃ ce rb, Hid (Fo.err l next = ce ∧ decide (Fo.err l next = 0) = rb ∧ (ce == 0) = rb) := by
      rcases Fo.err_or l next with ⟨h, -⟩ | ⟨h, -⟩
      · exact ⟨0, true, h, decide_eq_true h, rfl⟩
      · exact ⟨4, false, h, decide_eq_false (by rw [h]; decide), rfl⟩
    obtain ⟨fs, fc, fo, fg⟩ := f
    clear hf hfe hne
    go_enter Try.func3, Try.ntmps3
    go_wp2_with fail
    refine (large_any ao m cap next _).mono ?_
    rintro e w1 ⟨rfl, hw1⟩
    rw [← hW] at hw1
    subst hw1
    clear hW
    rw [HL.out]
    go_wp2_with fail
    refine (find_any _ l next s _ HV.out HS.out HNN.out).mono ?_
    rintro e w2 ⟨rfl, hb2⟩
    rw [HF.out, HFE.out]
    have b0 := (cell_older (cell_lt (cell_step a0 hb2)) (BE (fs, fc, fo, fg)) 0).trans (cell_step a0 hb2)
    have b1 := (cell_older (cell_lt (cell_step a1 hb2)) (BE (fs, fc, fo, fg)) 1).trans (cell_step a1 hb2)
    have HB2 : Hid (Below w.heap.size w (w2.alloc (BE (fs, fc, fo, fg)))) := (HB0.out.trans (hb2.mono HB0.out.size)).alloc (HB0.out.trans (hb2.mono HB0.out.size)).size _
    have HV2 : Hid (AtW EE (w2.alloc (BE (fs, fc, fo, fg))) (.slice ao m cap) l) := (HV.out.up hb2).up ((Below.refl _ _).alloc (Nat.le_refl _) _)
    obtain ⟨⟨x0, x1, x2, x3⟩, -⟩ := four_of (heap_alloc_new w2 (BE (fs, fc, fo, fg)))
    clear hb2 a0 a1
    go_wp2_with fail
    refine (rfind_any _ l next s _ HV2.out HS.out HNN.out).mono ?_
    rintro e w3 ⟨rfl, hb3⟩
    rw [HF.out, HFE.out]
    obtain ⟨W3, hW3⟩ : ∃ W3, W3 = w3.alloc (BE (fs, fc, fo, fg)) := ⟨_, rfl⟩
    have bb3 : Below w3.heap.size w3 W3 := by rw [hW3]; exact (Below.refl _ _).alloc (Nat.le_refl _) _
    obtain ⟨⟨y0, y1, y2, y3⟩, -⟩ := four_of (heap_alloc_new w3 (BE (fs, fc, fo, fg)))
    rw [← hW3] at y0 y1 y2 y3
    have d0 := fun p : Grw W3 => p.cell (cell_step (cell_step b0 hb3) bb3)
    have d1 := fun p : Grw W3 => p.cell (cell_step (cell_step b1 hb3) bb3)
    have p0 := fun p : Grw W3 => p.cell (cell_step (cell_step x0 hb3) bb3)
    have p1 := fun p : Grw W3 => p.cell (cell_step (cell_step x1 hb3) bb3)
    have p2 := fun p : Grw W3 => p.cell (cell_step (cell_step x2 hb3) bb3)
    have p3 := fun p : Grw W3 => p.cell (cell_step (cell_step x3 hb3) bb3)
    have q0 := fun p : Grw W3 => p.cell y0
    have q1 := fun p : Grw W3 => p.cell y1
    have q2 := fun p : Grw W3 => p.cell y2
    have q3 := fun p : Grw W3 => p.cell y3
    simp only at p0 p1 p2 p3 q0 q1 q2 q3
    have HB3 : Hid (Below w.heap.size w W3) := by
      have h := HB2.out.trans (hb3.mono HB2.out.size)
      exact h.trans (bb3.mono h.size)
    have HV3 : Hid (∀ V, W3.grownBy V none → AtW EE V (.slice ao m cap) l) := fun V hV => ((HV2.out.up hb3).up bb3).up (below_none hV (Nat.le_refl _))
    have HC1 : Hid (∀ V, W3.grownBy V none → Calls Try.prog 13 #[.string s] V fun e w' => e = .returned (.int .i64 ne) ∧ Below V.heap.size V w') := fun V _ => by rw [← HNE.out]; exact name_any s V HNN.out
    have HC2 : Hid (∀ V, W3.grownBy V none → Calls Try.prog 14 #[.string s] V fun e w' => e = .returned (.int .i64 ne) ∧ Below V.heap.size V w') := fun V _ => by
      rw [← HNE.out]
      exact (rname_any s V HNN.out).mono fun e w' h => ⟨h.1, by rw [h.2]; exact Below.refl _ _⟩
    have HC3 : Hid (∀ V, W3.grownBy V none → Calls Try.prog 15 #[VD (.slice ao m cap) next] V fun e w' => e = .returned (.int .i64 ce) ∧ Below V.heap.size V w') := fun V hV => by rw [← hce.out.1]; exact check_any _ l next V (HV3.out V hV) HS.out
    have HC4 : Hid (∀ V, W3.grownBy V none → Calls Try.prog 16 #[.slice ao m cap, .int .i64 next] V fun e w' => e = .returned (.bool rb) ∧ Below V.heap.size V w') := fun V hV => by rw [← hce.out.2.1]; exact rright_any _ l next V (HV3.out V hV) HS.out
    have HC5 : Hid (∀ V, W3.grownBy V none → Calls Try.prog 10 #[] V fun e w' => e = .returned (.bool true) ∧ Below V.heap.size V w') := fun V _ => two_any V
    have hrb : (ce == 0) = rb := hce.out.2.2
    have hne9 : Nonempty (Grw W3) := grw_some W3
    have t1 : (ne == ne) = true := beq_self_eq_true ne
    have t2 : (rb == rb) = true := beq_self_eq_true rb
    have t3 : (fe == fe) = true := beq_self_eq_true fe
    have t4 : (fc == fc) = true := beq_self_eq_true fc
    have t5 : (fo == fo) = true := beq_self_eq_true fo
    have t6 : (fg == fg) = true := beq_self_eq_true fg
    have t7 : (fs.toList == fs.toList) = true := beq_self_eq_true _
    clear hb3 bb3 b0 b1 x0 x1 x2 x3 y0 y1 y2 y3
    go_wp2_with fail
    rw [← hW3]
    clear hW3
    refine wp_region_grw (by kernel_rfl) (by kernel_rfl) ?_
    repeat (go_big_quiet_step (first
      | (go_at_call 13; refine calls_grw (Grw.grown _) (HC1.out _ (Grw.grown _)))
      | (go_at_call 14; refine calls_grw (Grw.grown _) (HC2.out _ (Grw.grown _)))
      | (go_at_call 15; refine calls_grw (Grw.grown _) (HC3.out _ (Grw.grown _)))
      | (go_at_call 16; refine calls_grw (Grw.grown _) (HC4.out _ (Grw.grown _)))
      | (go_at_call 10; refine calls_grw (Grw.grown _) (HC5.out _ (Grw.grown _)))))
    rintro w9 ⟨p9, rfl⟩
    have HB : Hid (Below w.heap.size w p9.out) := HB3.out.trans (p9.below.mono HB3.out.size)
    go_wp2
    go_ret
    exact ⟨rfl, HB.out⟩
set_option maxRecDepth 100000 in
theorem folderFinds_lifted (os : Os) (started : os.Started) (H : Type) (enc : TypeId × Value → H) :
    ReturnsInHanded {} Try.checked os 3 .any (Rows.folderFindsSpec.pre6 enc Try.prog Try.f3 Rows.folderFindsRow.domain false) (Rows.folderFindsSpec.post enc Try.prog Try.f3 false true false false) := by
  refine returnsInHanded_of_change (C := Try.checked) own started (by kernel_rfl) Try.func3
    (ChangeSpec.witness6 (enc := enc) (C := Try.checked) false ⟨#[], #[.agg #[.slice none 0 0, .int .i64 0], .string ⟨#[]⟩], []⟩ 8 (by kernel_rfl) (by kernel_rfl) (by kernel_rfl) (by kernel_rfl)) ?_
  intro W base args ds gs before hval0 hW hcnd _
  have hval : ∀ (j : Nat) t v, Try.f3.params[j]? = some t → args[j]? = some v → Value.okWide Try.prog W .any base t v := hval0
  have hW' := hW
  have hlt : ∀ x ∈ before, x.block < W.heap.size := fun x hx => by simpa using hW'.lt x hx
  obtain ⟨p, q, hA0, hV, rfl, hfz, hnd⟩ := hW
  have hA : DataW.TrodAll enc Try.prog W 0 (fun _ => true) true Try.f3.params.toList args.toList ds p := hA0
  rw [Try.params3] at hA hval
  obtain ⟨v0, v1, d0, d1, p0, p1, rfl, rfl, rfl, h0, h1⟩ := trodAll_two hA
  obtain ⟨rfl, rfl⟩ := trodVars_none hV
  obtain ⟨u, l, next, rfl, hl, hs⟩ := open_dir (hval 0 24 v0 rfl rfl) h0
  obtain ⟨s, rfl, _, _, hn⟩ := Go.ChangeMaps.open_string Try.underlying9 (hval 1 9 v1 rfl rfl) h1
  refine (finds_any u l next s W hl hs hn).mono fun e W' ⟨he, hg⟩ => ⟨_, he, ?_⟩
  exact Law.post laidOut (by kernel_rfl) rfl Try.underlying4 hW' rfl rfl hg

theorem folderFinds_holds : Rows.FolderFindsSaid :=
  OpenClaim.holds_of_wide 3 Try.f3 rfl rfl rfl rfl rfl rfl rfl ⟨rfl, rfl, rfl, rfl, rfl⟩ rfl rfl rfl rfl rfl (by kernel_rfl) Try.func3 (by kernel_rfl)
    (of_decide_eq_true (by kernel_rfl)) (by unfold Func.isWrapper; first | (rw [if_pos (by decide +kernel)]; kernel_rfl) | (rw [if_neg (by decide +kernel)]; exact ⟨rfl, rfl⟩))
    (fun os started H enc _ => folderFinds_lifted os started H enc)
#print axioms folderFinds_holds
end Go.Proofs.Ytmokceiiapmjlaa
