/-
  For any table, any handle and any inode sextonlaw09.ItabPuts returns true, whatever the memory: the table with another inode in a place, and the one with one less, are the document's. No condition.
-/
import Derived.Test.YtobcjnfombfdmaaRefC
import Derived.Test.YtobcjnfombfdmaaSame
import Derived.Test.YtobcjnfombfdmaaOpenT
import Derived.Test.YtobcjnfombfdmaaLaw
namespace Go.Proofs.Ytobcjnfombfdmaa
open Go.ChangeShapes Go.WideShapes Go.ChangeAt Go.RowKit Go.Deep It

set_option maxHeartbeats 8000000 in
set_option maxRecDepth 100000 in
theorem puts_any {S T : Nat → Prop} (v : Value) (L : List Rw) (a b : Int) (x : Rw) (w : World) (hv : TabAt S w v L) (hx : Good T w x) :
    Calls Try.prog 6 #[v, .agg #[.int .i64 a, .int .i64 b], VI x] w fun e w' => e = .returned (.bool true) ∧ Below w.heap.size w w' := by
  replace hx : GoodW w x := hx.imp fun _ _ _ => trivial
  replace hv : TabW w v L := hv.wide
  obtain ⟨W, hW⟩ : ∃ W, W = (w.alloc (BH a b)).alloc (B8 x.i.gen x.i.kind x.i.links x.i.size x.i.stamp (.slice x.rp x.rn x.rc) (.slice x.ep x.en x.ec) x.i.next) := ⟨_, rfl⟩
  have HB0 : Hid (Below w.heap.size w W) := by show Below w.heap.size w W; rw [hW]; exact ((Below.refl _ w).alloc (Nat.le_refl _) _).alloc (by simp) _
  have HA0 : Hid (W.heap[w.heap.size]? = some (BH a b) ∧ W.heap[w.heap.size + 1]? = some (B8 x.i.gen x.i.kind x.i.links x.i.size x.i.stamp (.slice x.rp x.rn x.rc) (.slice x.ep x.en x.ec) x.i.next)) := by
    rw [hW]
    refine ⟨(Below.heap_alloc _ _ _ (by simp)).trans (heap_alloc_new _ _), ?_⟩
    have := heap_alloc_new (w.alloc (BH a b)) (B8 x.i.gen x.i.kind x.i.links x.i.size x.i.stamp (.slice x.rp x.rn x.rc) (.slice x.ep x.en x.ec) x.i.next)
    rwa [show (w.alloc (BH a b)).heap.size = w.heap.size + 1 by simp] at this
  have hws : w.heap.size + 1 < W.heap.size := by rw [hW]; simp
  have HV : Hid (TabW W v L) := hv.up HB0.out
  have HGX : Hid (GoodW W x) := hx.up HB0.out
  obtain ⟨ao, cap, rfl, _, _⟩ := hv.open
  obtain ⟨X, hX⟩ : ∃ X, X = x := ⟨_, rfl⟩
  rw [← hX] at HGX
  rw [← hX]
  obtain ⟨⟨g, k, l, s, t, rs, es, nx⟩, rp, rn, rc, ep, en, ec⟩ := x
  simp only at hW HA0
  have HVI : Hid (VI X = .agg #[.int .i64 g, .int .i64 k, .int .i64 l, .int .i64 s, .int .i64 t, .slice rp rn rc, .slice ep en ec, .int .i64 nx]) := by show VI X = _; rw [hX]
  rw [HVI.out]
  obtain ⟨pe, hpe⟩ : ∃ pe, putErr (pl L) a b X.i = pe := ⟨_, rfl⟩
  obtain ⟨de, hde⟩ : ∃ de, dropErr (pl L) a b = de := ⟨_, rfl⟩
  have HPE : Hid (putErr (pl L) a b X.i = pe ∧ dropErr (pl L) a b = de) := ⟨hpe, hde⟩
  clear hv hx hX hpe hde
  go_enter Try.func6, Try.ntmps6
  go_wp2_with fail
  rw [← hW, ← HVI.out]
  refine (put_any _ L a b X _ HV.out HGX.out).mono ?_
  rintro e w1 ⟨ta, L1, rfl, ht1, hp1, hb1⟩
  rw [HPE.out.1]
  have HT1 : Hid (TabW w1 ta L1 ∧ pl L1 = putTab (pl L) a b X.i) := ⟨ht1.wide, hp1⟩
  have HV1 : Hid (TabW w1 (.slice ao L.length cap) L ∧ GoodW w1 X) := ⟨HV.out.up hb1, HGX.out.up hb1⟩
  have HB1 : Hid (Below w.heap.size w w1) := HB0.out.trans (hb1.mono HB0.out.size)
  have HA1 : Hid (w1.heap[w.heap.size]? = some (BH a b) ∧ w1.heap[w.heap.size + 1]? = some (B8 g k l s t (.slice rp rn rc) (.slice ep en ec) nx)) := ⟨(hb1.block _ (by omega)).trans HA0.out.1, (hb1.block _ hws).trans HA0.out.2⟩
  have hws1 : w.heap.size + 1 < w1.heap.size := by have := hb1.size; omega
  obtain ⟨⟨e0, e1⟩, _⟩ := two_of HA1.out.1
  obtain ⟨q0, q1, q2, q3, q4, q5, q6, q7⟩ := (eight_of HA1.out.2).1
  clear ht1 hp1 hb1 hW HV HA0
  go_wp2_with fail
  rw [← HVI.out]
  refine (rput_any _ L a b X _ HV1.out.1 HV1.out.2).mono ?_
  rintro e w2 ⟨tb, L2, rfl, ht2, hp2, hb2⟩
  rw [HPE.out.1]
  have HT2 : Hid (TabW w2 ta L1 ∧ TabW w2 tb L2 ∧ pl L2 = putTab (pl L) a b X.i) := ⟨HT1.out.1.up hb2, ht2, hp2⟩
  have HV2 : Hid (TabW w2 (.slice ao L.length cap) L) := HV1.out.1.up hb2
  have HB2 : Hid (Below w.heap.size w w2) := HB1.out.trans (hb2.mono HB1.out.size)
  have HA2 : Hid (w2.heap[w.heap.size]? = some (BH a b)) := (hb2.block _ (by omega)).trans HA1.out.1
  have hws2 : w.heap.size < w2.heap.size := by have := hb2.size; omega
  clear e0 e1 q0 q1 q2 q3 q4 q5 q6 q7
  obtain ⟨⟨e0, e1⟩, _⟩ := two_of HA2.out
  clear ht2 hp2 hb2
  go_wp2_with fail
  refine (drop_any _ L a b _ HV2.out).mono ?_
  rintro e w3 ⟨tc, L3, rfl, ht3, hp3, hb3⟩
  rw [HPE.out.2]
  have HT3 : Hid (TabW w3 ta L1 ∧ TabW w3 tb L2 ∧ TabW w3 tc L3 ∧ pl L3 = dropTab (pl L) a b) := ⟨HT2.out.1.up hb3, HT2.out.2.1.up hb3, ht3.wide, hp3⟩
  have HV3 : Hid (TabW w3 (.slice ao L.length cap) L) := HV2.out.up hb3
  have HB3 : Hid (Below w.heap.size w w3) := HB2.out.trans (hb3.mono HB2.out.size)
  have HA3 : Hid (w3.heap[w.heap.size]? = some (BH a b)) := (hb3.block _ hws2).trans HA2.out
  clear e0 e1
  obtain ⟨⟨e0, e1⟩, _⟩ := two_of HA3.out
  clear ht3 hp3 hb3
  go_wp2_with fail
  refine (rdrop_any _ L a b _ HV3.out).mono ?_
  rintro e w4 ⟨td, L4, rfl, ht4, hp4, hb4⟩
  rw [HPE.out.2]
  have HT4 : Hid (TabW w4 ta L1 ∧ TabW w4 tb L2 ∧ TabW w4 tc L3 ∧ TabW w4 td L4 ∧ pl L4 = dropTab (pl L) a b) := ⟨HT3.out.1.up hb4, HT3.out.2.1.up hb4, HT3.out.2.2.1.up hb4, ht4, hp4⟩
  have HB4 : Hid (Below w.heap.size w w4) := HB3.out.trans (hb4.mono HB3.out.size)
  clear ht4 hp4 hb4 e0 e1
  go_wp2_with fail
  refine (inodes_same _ _ L1 L2 _ HT4.out.1 HT4.out.2.1 (by rw [HT1.out.2, HT2.out.2.2])).mono ?_
  rintro e w5 ⟨rfl, hb5⟩
  have HB5 : Hid (Below w.heap.size w w5) := HB4.out.trans (hb5.mono HB4.out.size)
  have HT5 : Hid (TabW w5 tc L3 ∧ TabW w5 td L4) := ⟨HT4.out.2.2.1.up hb5, HT4.out.2.2.2.1.up hb5⟩
  clear hb5
  go_wp2_with fail
  refine (inodes_same _ _ L3 L4 _ HT5.out.1 HT5.out.2 (by rw [HT3.out.2.2.2, HT4.out.2.2.2.2])).mono ?_
  rintro e w6 ⟨rfl, hb6⟩
  have HB6 : Hid (Below w.heap.size w w6) := HB5.out.trans (hb6.mono HB5.out.size)
  clear hb6
  go_wp2_with fail
  refine (again_any _).mono ?_
  rintro e w9 ⟨rfl, hb9⟩
  have HB9 : Hid (Below w.heap.size w w9) := HB6.out.trans (hb9.mono HB6.out.size)
  clear hb9
  go_wp2
  go_ret
  exact ⟨rfl, HB9.out⟩

set_option maxRecDepth 100000 in
theorem itabPuts_lifted (os : Os) (started : os.Started) (H : Type) (enc : TypeId × Value → H) :
    ReturnsInHanded {} Try.checked os 6 .any (Rows.itabPutsSpec.pre6 enc Try.prog Try.f6 Rows.itabPutsRow.domain false) (Rows.itabPutsSpec.post enc Try.prog Try.f6 false true false false) := by
  refine returnsInHanded_of_change_sized (C := Try.checked) own started (by kernel_rfl) Try.func6
    (ChangeSpec.witness6 (enc := enc) (C := Try.checked) false ⟨#[], #[.slice none 0 0, .agg #[.int .i64 0, .int .i64 0], .agg #[.int .i64 0, .int .i64 0, .int .i64 0, .int .i64 0, .int .i64 0, .slice none 0 0, .slice none 0 0, .int .i64 0]], []⟩ 8 (by kernel_rfl) (by kernel_rfl) (by kernel_rfl) (by kernel_rfl)) ?_
  intro W base args ds gs before hval0 hW hcnd hsized _
  have hval : ∀ (j : Nat) t v, Try.f6.params[j]? = some t → args[j]? = some v → Value.okWide Try.prog W .any base t v := hval0
  have hW' := hW
  have hlt : ∀ x ∈ before, x.block < W.heap.size := fun x hx => by simpa using hW'.lt x hx
  obtain ⟨p, q, hA0, hV, rfl, hfz, hnd⟩ := hW
  have hA : DataW.TrodAll enc Try.prog W 0 (fun _ => true) true Try.f6.params.toList args.toList ds p := hA0
  rw [Try.params6] at hA hval
  obtain ⟨v0, v1, v2, d0, d1, d2, p0, p1, p2, rfl, rfl, rfl, h0, h1, h2⟩ := trodAll_three hA
  obtain ⟨rfl, rfl⟩ := trodVars_none hV
  have hwt0 : ∀ n ∈ d0.weights Try.prog 22, n ≤ reachBytes := fun n hn => by
    have := List.all_eq_true.1 hsized n (DataW.weights_mem_each (j := 0) (t := 22) (d := d0) rfl rfl n hn)
    simpa using this
  have hwt2 : ∀ n ∈ d2.weights Try.prog 29, n ≤ reachBytes := fun n hn => by
    have := List.all_eq_true.1 hsized n (DataW.weights_mem_each (j := 2) (t := 29) (d := d2) rfl rfl n hn)
    simpa using this
  obtain ⟨L, hL, hLn⟩ := open_tab (okWide_slice Try.underlying22 (hval 0 22 v0 rfl rfl)) h0 hwt0
  obtain ⟨a, b, rfl⟩ := open_handle (hval 1 31 v1 rfl rfl) h1
  obtain ⟨x, rfl, hx⟩ := open_inode (hval 2 29 v2 rfl rfl) h2 hwt2
  refine (puts_any v0 L a b x W hL hx).mono fun e W' ⟨he, hg⟩ => ⟨_, he, ?_⟩
  exact Law.post laidOut (by kernel_rfl) rfl Try.underlying4 hW' rfl rfl hg

theorem itabPuts_holds : Rows.ItabPutsSaid :=
  OpenClaim.holds_of_wide 6 Try.f6 rfl rfl rfl rfl rfl rfl rfl ⟨rfl, rfl, rfl, rfl, rfl⟩ rfl rfl rfl rfl rfl (by kernel_rfl) Try.func6 (by kernel_rfl)
    (of_decide_eq_true (by kernel_rfl)) (by unfold Func.isWrapper; first | (rw [if_pos (by decide +kernel)]; kernel_rfl) | (rw [if_neg (by decide +kernel)]; exact ⟨rfl, rfl⟩))
    (fun os started H enc _ => itabPuts_lifted os started H enc)
#print axioms itabPuts_holds
end Go.Proofs.Ytobcjnfombfdmaa
