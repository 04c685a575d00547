/-
  For any table and any handle sextonlaw09.ItabFinds returns true, whatever the memory: the inode that the handle names, or that it is stale, is the document's. No condition.
-/
import Derived.Test.YtobcjnfombfdmaaRefA
import Derived.Test.YtobcjnfombfdmaaAgain
import Derived.Test.YtobcjnfombfdmaaSame
import Derived.Test.YtobcjnfombfdmaaOpenT
import Derived.Test.YtobcjnfombfdmaaLaw
namespace Go.Proofs.Ytobcjnfombfdmaa
open Go.ChangeShapes Go.WideShapes Go.ChangeAt Go.RowKit Go.Deep It

theorem one_tabF {w : World} {B : Nat} {x : Rw} (h : w.heap[B]? = some (.cells (EI.cells x).toArray 29 (0, 0))) (hg : GoodW w x) : TabW w (.slice (some ⟨B, 0, none⟩) 1 1) [x] :=
  ⟨one_tab _ _ _ _ trivial h, fun y hy => by
    simp at hy
    subst hy
    exact hg⟩
set_option maxHeartbeats 8000000 in
set_option maxRecDepth 100000 in
theorem finds_any {S : Nat → Prop} (v : Value) (L : List Rw) (a b : Int) (w : World) (hv : TabAt S w v L) :
    Calls Try.prog 4 #[v, .agg #[.int .i64 a, .int .i64 b]] w fun e w' => e = .returned (.bool true) ∧ Below w.heap.size w w' := by
  replace hv : TabW w v L := hv.wide
  obtain ⟨W, hW⟩ : ∃ W, W = w.alloc (BH a b) := ⟨_, rfl⟩
  have HB0 : Hid (Below w.heap.size w W) := by show Below w.heap.size w W; rw [hW]; exact (Below.refl _ w).alloc (Nat.le_refl _) _
  have HA0 : Hid (W.heap[w.heap.size]? = some (BH a b)) := by show W.heap[w.heap.size]? = _; rw [hW]; exact heap_alloc_new _ _
  have hws : w.heap.size < W.heap.size := by rw [hW]; simp
  have HV : Hid (TabW W v L) := hv.up HB0.out
  obtain ⟨ao, cap, rfl, _, _⟩ := hv.open
  obtain ⟨fe, hfe⟩ : ∃ fe, findErr (pl L) a b = fe := ⟨_, rfl⟩
  have HFE : Hid (findErr (pl L) a b = fe) := hfe
  clear hv hfe
  go_enter Try.func4, Try.ntmps4
  go_wp2_with fail
  rw [← hW]
  refine (find_any _ L a b _ HV.out).mono ?_
  rintro e w1 ⟨x, rfl, hxi, hxg, hb1⟩
  rw [HFE.out]
  obtain ⟨X, hX⟩ : ∃ X, X = x := ⟨_, rfl⟩
  rw [← hX] at hxi hxg
  obtain ⟨⟨g, k, l, s, t, rs, es, nx⟩, rp, rn, rc, ep, en, ec⟩ := x
  have HXC : Hid (Obj.cells (EI.cells X).toArray 29 (0, 0) = B8 g k l s t (.slice rp rn rc) (.slice ep en ec) nx) := by show _ = _; rw [hX]; rfl
  obtain ⟨W2, hW2⟩ : ∃ W2, W2 = w1.alloc (B8 g k l s t (.slice rp rn rc) (.slice ep en ec) nx) := ⟨_, rfl⟩
  have b2 : Below w1.heap.size w1 W2 := by rw [hW2]; exact (Below.refl _ _).alloc (Nat.le_refl _) _
  have HXI : Hid (X.i = findI (pl L) a b) := hxi
  have HXG : Hid (GoodW W2 X) := hxg.up b2
  have hB1 : Below w.heap.size w w1 := HB0.out.trans (hb1.mono HB0.out.size)
  have HB2 : Hid (Below w.heap.size w W2) := hB1.trans (b2.mono hB1.size)
  have HV2 : Hid (TabW W2 (.slice ao L.length cap) L) := (HV.out.up hb1).up b2
  have HA2 : Hid (W2.heap[w.heap.size]? = some (BH a b)) := (b2.block _ (by have := hb1.size; omega)).trans ((hb1.block _ hws).trans HA0.out)
  have HX2 : Hid (W2.heap[w1.heap.size]? = some (B8 g k l s t (.slice rp rn rc) (.slice ep en ec) nx)) := by show W2.heap[w1.heap.size]? = _; rw [hW2]; exact heap_alloc_new _ _
  have hws2 : w1.heap.size < W2.heap.size := by rw [hW2]; simp
  obtain ⟨⟨e0, e1⟩, _⟩ := two_of HA2.out
  rw [hW2] at e0 e1
  clear hb1 hxi hxg b2 hB1 hX hW HV
  go_wp2_with fail
  rw [← hW2]
  refine (rfind_any _ L a b _ HV2.out).mono ?_
  rintro e w3 ⟨y, rfl, hyi, hyg, hb3⟩
  rw [HFE.out]
  obtain ⟨Y, hY⟩ : ∃ Y, Y = y := ⟨_, rfl⟩
  rw [← hY] at hyi hyg
  obtain ⟨⟨yg, yk, yl, ys, yt, yrs, yes, ynx⟩, yrp, yrn, yrc, yep, yen, yec⟩ := y
  have HYC : Hid (Obj.cells (EI.cells Y).toArray 29 (0, 0) = B8 yg yk yl ys yt (.slice yrp yrn yrc) (.slice yep yen yec) ynx) := by show _ = _; rw [hY]; rfl
  obtain ⟨W4, hW4⟩ : ∃ W4, W4 = w3.alloc (B8 yg yk yl ys yt (.slice yrp yrn yrc) (.slice yep yen yec) ynx) := ⟨_, rfl⟩
  obtain ⟨W5, hW5⟩ : ∃ W5, W5 = W4.alloc (B8 g k l s t (.slice rp rn rc) (.slice ep en ec) nx) := ⟨_, rfl⟩
  obtain ⟨W6, hW6⟩ : ∃ W6, W6 = W5.alloc (B8 yg yk yl ys yt (.slice yrp yrn yrc) (.slice yep yen yec) ynx) := ⟨_, rfl⟩
  have b4 : Below w3.heap.size w3 W4 := by rw [hW4]; exact (Below.refl _ _).alloc (Nat.le_refl _) _
  have b5 : Below W4.heap.size W4 W5 := by rw [hW5]; exact (Below.refl _ _).alloc (Nat.le_refl _) _
  have b6 : Below W5.heap.size W5 W6 := by rw [hW6]; exact (Below.refl _ _).alloc (Nat.le_refl _) _
  have s4 : W4.heap.size = w3.heap.size + 1 := by rw [hW4]; simp
  have s5 : W5.heap.size = w3.heap.size + 1 + 1 := by rw [hW5]; simp [s4]
  have b36 : Below w3.heap.size w3 W6 := (b4.trans (b5.mono (by omega))).trans (b6.mono (by omega))
  have b26 : Below W2.heap.size W2 W6 := hb3.trans (b36.mono hb3.size)
  have HB6 : Hid (Below w.heap.size w W6) := HB2.out.trans (b26.mono HB2.out.size)
  have hx5 : W6.heap[w3.heap.size + 1]? = some (Obj.cells (EI.cells X).toArray 29 (0, 0)) := by
    rw [hW6, Below.heap_alloc _ _ _ (by omega), hW5, HXC.out, ← s4]
    exact heap_alloc_new _ _
  have hy6 : W6.heap[w3.heap.size + 1 + 1]? = some (Obj.cells (EI.cells Y).toArray 29 (0, 0)) := by
    rw [hW6, HYC.out, ← s5]
    exact heap_alloc_new _ _
  have HTX : Hid (TabW W6 (.slice (some ⟨w3.heap.size + 1, 0, none⟩) 1 1) [X]) := one_tabF hx5 (HXG.out.up b26)
  have HTY : Hid (TabW W6 (.slice (some ⟨w3.heap.size + 1 + 1, 0, none⟩) 1 1) [Y]) := one_tabF hy6 (hyg.up b36)
  have HYX : Hid (pl [X] = pl [Y]) := by show [X.i] = [Y.i]; rw [hyi, HXI.out]
  have hx4 : W4.heap[w1.heap.size]? = some (B8 g k l s t (.slice rp rn rc) (.slice ep en ec) nx) := (b4.block _ (by have := hb3.size; omega)).trans ((hb3.block _ hws2).trans HX2.out)
  have hy5 : W5.heap[w3.heap.size]? = some (B8 yg yk yl ys yt (.slice yrp yrn yrc) (.slice yep yen yec) ynx) := (b5.block _ (by omega)).trans (by rw [hW4]; exact heap_alloc_new _ _)
  obtain ⟨q0, q1, q2, q3, q4, q5, q6, q7⟩ := (eight_of hx4).1
  obtain ⟨z0, z1, z2, z3, z4, z5, z6, z7⟩ := (eight_of hy5).1
  rw [hW5] at z0 z1 z2 z3 z4 z5 z6 z7
  rw [hW4] at q0 q1 q2 q3 q4 q5 q6 q7 z0 z1 z2 z3 z4 z5 z6 z7
  rw [hW5, hW4] at hW6
  clear hyi hyg hb3 b4 b5 b6 b36 b26 hx5 hy6 hx4 hy5 hY e0 e1 hW5 hW4
  go_wp2_with fail
  rw [← hW6]
  refine (inodes_same _ _ [X] [Y] _ HTX.out HTY.out HYX.out).mono ?_
  rintro e w7 ⟨rfl, hb7⟩
  have HB7 : Hid (Below w.heap.size w w7) := HB6.out.trans (hb7.mono HB6.out.size)
  clear hb7 hW6 q0 q1 q2 q3 q4 q5 q6 q7 z0 z1 z2 z3 z4 z5 z6 z7
  go_wp2_with fail
  refine (again_any _).mono ?_
  rintro e w9 ⟨rfl, hb9⟩
  have HB9 : Hid (Below w.heap.size w w9) := HB7.out.trans (hb9.mono HB7.out.size)
  clear hb9
  go_wp2
  go_ret
  exact ⟨rfl, HB9.out⟩

set_option maxRecDepth 100000 in
theorem itabFinds_lifted (os : Os) (started : os.Started) (H : Type) (enc : TypeId × Value → H) :
    ReturnsInHanded {} Try.checked os 4 .any (Rows.itabFindsSpec.pre6 enc Try.prog Try.f4 Rows.itabFindsRow.domain false) (Rows.itabFindsSpec.post enc Try.prog Try.f4 false true false false) := by
  refine returnsInHanded_of_change_sized (C := Try.checked) own started (by kernel_rfl) Try.func4
    (ChangeSpec.witness6 (enc := enc) (C := Try.checked) false ⟨#[], #[.slice none 0 0, .agg #[.int .i64 0, .int .i64 0]], []⟩ 8 (by kernel_rfl) (by kernel_rfl) (by kernel_rfl) (by kernel_rfl)) ?_
  intro W base args ds gs before hval0 hW hcnd hsized _
  have hval : ∀ (j : Nat) t v, Try.f4.params[j]? = some t → args[j]? = some v → Value.okWide Try.prog W .any base t v := hval0
  have hW' := hW
  have hlt : ∀ x ∈ before, x.block < W.heap.size := fun x hx => by simpa using hW'.lt x hx
  obtain ⟨p, q, hA0, hV, rfl, hfz, hnd⟩ := hW
  have hA : DataW.TrodAll enc Try.prog W 0 (fun _ => true) true Try.f4.params.toList args.toList ds p := hA0
  rw [Try.params4] at hA hval
  obtain ⟨v0, v1, d0, d1, p0, p1, rfl, rfl, rfl, h0, h1⟩ := trodAll_two hA
  obtain ⟨rfl, rfl⟩ := trodVars_none hV
  have hwt0 : ∀ n ∈ d0.weights Try.prog 22, n ≤ reachBytes := fun n hn => by
    have := List.all_eq_true.1 hsized n (DataW.weights_mem_each (j := 0) (t := 22) (d := d0) rfl rfl n hn)
    simpa using this
  obtain ⟨L, hL, hLn⟩ := open_tab (okWide_slice Try.underlying22 (hval 0 22 v0 rfl rfl)) h0 hwt0
  obtain ⟨a, b, rfl⟩ := open_handle (hval 1 31 v1 rfl rfl) h1
  refine (finds_any v0 L a b W hL).mono fun e W' ⟨he, hg⟩ => ⟨_, he, ?_⟩
  exact Law.post laidOut (by kernel_rfl) rfl Try.underlying4 hW' rfl rfl hg

theorem itabFinds_holds : Rows.ItabFindsSaid :=
  OpenClaim.holds_of_wide 4 Try.f4 rfl rfl rfl rfl rfl rfl rfl ⟨rfl, rfl, rfl, rfl, rfl⟩ rfl rfl rfl rfl rfl (by kernel_rfl) Try.func4 (by kernel_rfl)
    (of_decide_eq_true (by kernel_rfl)) (by unfold Func.isWrapper; first | (rw [if_pos (by decide +kernel)]; kernel_rfl) | (rw [if_neg (by decide +kernel)]; exact ⟨rfl, rfl⟩))
    (fun os started H enc _ => itabFinds_lifted os started H enc)
#print axioms itabFinds_holds
end Go.Proofs.Ytobcjnfombfdmaa
