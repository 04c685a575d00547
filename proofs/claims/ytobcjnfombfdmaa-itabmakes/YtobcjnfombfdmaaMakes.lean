/-
  For any table, any kind and any stamp sextonlaw09.ItabMakes returns true, whatever the memory: the table with an inode more, and its handle, are the document's. No condition.
-/
import Derived.Test.YtobcjnfombfdmaaRefM
import Derived.Test.YtobcjnfombfdmaaAgain
import Derived.Test.YtobcjnfombfdmaaSame
import Derived.Test.YtobcjnfombfdmaaOpenT
import Derived.Test.YtobcjnfombfdmaaLaw
namespace Go.Proofs.Ytobcjnfombfdmaa
open Go.ChangeShapes Go.WideShapes Go.ChangeAt Go.RowKit Go.Deep It

set_option maxHeartbeats 8000000 in
set_option maxRecDepth 100000 in
theorem makes_any {S : Nat → Prop} (v : Value) (L : List Rw) (kind stamp : Int) (w : World) (hv : TabAt S w v L) :
    Calls Try.prog 5 #[v, .int .i64 kind, .int .i64 stamp] w fun e w' => e = .returned (.bool true) ∧ Below w.heap.size w w' := by
  have HV : Hid (TabW w v L) := hv.wide
  obtain ⟨ao, cap, rfl, _, _⟩ := hv.open
  obtain ⟨me, hme⟩ : ∃ me, makeErr (pl L) kind stamp = me := ⟨_, rfl⟩
  obtain ⟨⟨ha, hb⟩, hmh⟩ : ∃ mh, makeH (pl L) kind stamp = mh := ⟨_, rfl⟩
  have HME : Hid (makeErr (pl L) kind stamp = me ∧ makeH (pl L) kind stamp = (ha, hb)) := ⟨hme, hmh⟩
  clear hv hme hmh
  go_enter Try.func5, Try.ntmps5
  go_wp2_with fail
  refine (make_any _ L kind stamp _ HV.out).mono ?_
  rintro e w1 ⟨ta, L1, rfl, ht1, hp1, hb1⟩
  rw [HME.out.1, HME.out.2]
  have HT1 : Hid (TabW (w1.alloc (BH ha hb)) ta L1 ∧ pl L1 = makeTab (pl L) kind stamp) := ⟨ht1.wide.up ((Below.refl _ _).alloc (Nat.le_refl _) _), hp1⟩
  have HV1 : Hid (TabW (w1.alloc (BH ha hb)) (.slice ao L.length cap) L) := (HV.out.up hb1).up ((Below.refl _ _).alloc (Nat.le_refl _) _)
  have HB1 : Hid (Below w.heap.size w (w1.alloc (BH ha hb))) := hb1.alloc hb1.size _
  have HA1 : Hid ((w1.alloc (BH ha hb)).heap[w1.heap.size]? = some (BH ha hb)) := heap_alloc_new _ _
  clear ht1 hp1 hb1
  go_wp2_with fail
  refine (rmake_any _ L kind stamp _ HV1.out).mono ?_
  rintro e w2 ⟨tb, L2, rfl, ht2, hp2, hb2⟩
  rw [HME.out.1, HME.out.2]
  have HT2 : Hid (TabW (w2.alloc (BH ha hb)) ta L1 ∧ TabW (w2.alloc (BH ha hb)) tb L2 ∧ pl L2 = makeTab (pl L) kind stamp) := ⟨(HT1.out.1.up hb2).up ((Below.refl _ _).alloc (Nat.le_refl _) _), ht2.up ((Below.refl _ _).alloc (Nat.le_refl _) _), hp2⟩
  have hB2 : Below w.heap.size w w2 := HB1.out.trans (hb2.mono HB1.out.size)
  have HB2 : Hid (Below w.heap.size w (w2.alloc (BH ha hb))) := hB2.alloc hB2.size _
  have hA2 : w2.heap[w1.heap.size]? = some (BH ha hb) := (hb2.block _ (by simp)).trans HA1.out
  have HA2 : Hid ((w2.alloc (BH ha hb)).heap[w1.heap.size]? = some (BH ha hb) ∧ (w2.alloc (BH ha hb)).heap[w2.heap.size]? = some (BH ha hb)) := ⟨(Below.heap_alloc _ _ _ (Array.getElem?_eq_some_iff.1 hA2).1).trans hA2, heap_alloc_new _ _⟩
  clear ht2 hp2 hb2 hB2 hA2
  go_wp2_with fail
  refine (inodes_same _ _ L1 L2 _ HT2.out.1 HT2.out.2.1 (by rw [HT1.out.2, HT2.out.2.2])).mono ?_
  rintro e w3 ⟨rfl, hb3⟩
  have HB3 : Hid (Below w.heap.size w w3) := HB2.out.trans (hb3.mono HB2.out.size)
  have HA3 : Hid (w3.heap[w1.heap.size]? = some (BH ha hb) ∧ w3.heap[w2.heap.size]? = some (BH ha hb)) := ⟨(hb3.block _ (Array.getElem?_eq_some_iff.1 HA2.out.1).1).trans HA2.out.1, (hb3.block _ (Array.getElem?_eq_some_iff.1 HA2.out.2).1).trans HA2.out.2⟩
  obtain ⟨⟨e0, e1⟩, _⟩ := two_of HA3.out.1
  obtain ⟨⟨f0, f1⟩, _⟩ := two_of HA3.out.2
  clear hb3
  go_wp2_with fail
  refine (again_any _).mono ?_
  rintro e w9 ⟨rfl, hb9⟩
  have HB9 : Hid (Below w.heap.size w w9) := HB3.out.trans (hb9.mono HB3.out.size)
  clear hb9
  go_wp2
  go_ret
  exact ⟨rfl, HB9.out⟩

set_option maxRecDepth 100000 in
theorem itabMakes_lifted (os : Os) (started : os.Started) (H : Type) (enc : TypeId × Value → H) :
    ReturnsInHanded {} Try.checked os 5 .any (Rows.itabMakesSpec.pre6 enc Try.prog Try.f5 Rows.itabMakesRow.domain false) (Rows.itabMakesSpec.post enc Try.prog Try.f5 false true false false) := by
  refine returnsInHanded_of_change_sized (C := Try.checked) own started (by kernel_rfl) Try.func5
    (ChangeSpec.witness6 (enc := enc) (C := Try.checked) false ⟨#[], #[.slice none 0 0, .int .i64 0, .int .i64 0], []⟩ 8 (by kernel_rfl) (by kernel_rfl) (by kernel_rfl) (by kernel_rfl)) ?_
  intro W base args ds gs before hval0 hW hcnd hsized _
  have hval : ∀ (j : Nat) t v, Try.f5.params[j]? = some t → args[j]? = some v → Value.okWide Try.prog W .any base t v := hval0
  have hW' := hW
  have hlt : ∀ x ∈ before, x.block < W.heap.size := fun x hx => by simpa using hW'.lt x hx
  obtain ⟨p, q, hA0, hV, rfl, hfz, hnd⟩ := hW
  have hA : DataW.TrodAll enc Try.prog W 0 (fun _ => true) true Try.f5.params.toList args.toList ds p := hA0
  rw [Try.params5] at hA hval
  obtain ⟨v0, v1, v2, d0, d1, d2, p0, p1, p2, rfl, rfl, rfl, h0, h1, h2⟩ := trodAll_three hA
  obtain ⟨rfl, rfl⟩ := trodVars_none hV
  have hwt0 : ∀ n ∈ d0.weights Try.prog 22, n ≤ reachBytes := fun n hn => by
    have := List.all_eq_true.1 hsized n (DataW.weights_mem_each (j := 0) (t := 22) (d := d0) rfl rfl n hn)
    simpa using this
  obtain ⟨L, hL, hLn⟩ := open_tab (okWide_slice Try.underlying22 (hval 0 22 v0 rfl rfl)) h0 hwt0
  obtain ⟨kind, rfl, rfl, rfl, w1⟩ := open_int Try.underlying3 (hval 1 3 v1 rfl rfl) h1
  obtain ⟨stamp, rfl, rfl, rfl, w2⟩ := open_int Try.underlying3 (hval 2 3 v2 rfl rfl) h2
  refine (makes_any v0 L kind stamp W hL).mono fun e W' ⟨he, hg⟩ => ⟨_, he, ?_⟩
  exact Law.post laidOut (by kernel_rfl) rfl Try.underlying4 hW' rfl rfl hg

theorem itabMakes_holds : Rows.ItabMakesSaid :=
  OpenClaim.holds_of_wide 5 Try.f5 rfl rfl rfl rfl rfl rfl rfl ⟨rfl, rfl, rfl, rfl, rfl⟩ rfl rfl rfl rfl rfl (by kernel_rfl) Try.func5 (by kernel_rfl)
    (of_decide_eq_true (by kernel_rfl)) (by unfold Func.isWrapper; first | (rw [if_pos (by decide +kernel)]; kernel_rfl) | (rw [if_neg (by decide +kernel)]; exact ⟨rfl, rfl⟩))
    (fun os started H enc _ => itabMakes_lifted os started H enc)
#print axioms itabMakes_holds
end Go.Proofs.Ytobcjnfombfdmaa
