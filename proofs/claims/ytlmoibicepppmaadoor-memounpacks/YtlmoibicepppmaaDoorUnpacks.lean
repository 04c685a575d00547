/-
  For any string sextonlaw22.MemoUnpacks returns true, whatever the memory that holds the table halves as the text of the program lays it: which bytes are a memo. No other condition.
-/
import Derived.Test.YtlmoibicepppmaaDoorCards
import Derived.Test.YtlmoibicepppmaaDoorTie
import Derived.Test.YtlmoibicepppmaaDoorWRUnp
import Derived.Test.YtlmoibicepppmaaDoorWLaw
namespace Go.Proofs.YtlmoibicepppmaaDoor
open Go.ChangeShapes Go.WideShapes Go.ChangeAt Go.RowKit Go.Deep Me
set_option maxRecDepth 100000
open Go.ChangeMaps (open_string)

set_option maxRecDepth 100000 in
set_option maxRecDepth 100000 in
set_option maxHeartbeats 4000000 in
theorem unpacks_law (s : ByteArray) (w : World) (ht : Po.Tab w) : Calls Tryd.prog 4 #[.string s] w fun e w' => e = .returned (.bool true) ∧ Below w.heap.size w w' := by
  have HT : Hid (Po.Tab w) := ht
  clear ht
  go_enter Tryd.func4, Tryd.ntmps4
  go_wp2_with fail
  refine (munpack_any s _ HT.out).mono ?_
  rintro e w1 ⟨⟨u, z, rfl, hm1⟩, hb1⟩
  obtain ⟨m, hm⟩ : ∃ m, unpM s = m := ⟨_, rfl⟩
  obtain ⟨E, hE⟩ : ∃ E, unpE s = E := ⟨_, rfl⟩
  have HME : Hid (unpM s = m ∧ unpE s = E) := ⟨hm, hE⟩
  rw [hm] at hm1 ⊢
  rw [hE]
  obtain ⟨p1, d1, rfl, -, -⟩ := hm1.lives.open
  obtain ⟨p2, d2, rfl, -, -⟩ := hm1.items.open
  obtain ⟨n1, hn1⟩ : ∃ n, m.lives.length = n := ⟨_, rfl⟩
  obtain ⟨n2, hn2⟩ : ∃ n, m.items.length = n := ⟨_, rfl⟩
  rw [hn1, hn2] at hm1 ⊢
  obtain ⟨W1, hW1⟩ : ∃ W, w1.alloc (BM m (.slice p1 n1 d1) (.slice p2 n2 d2)) = W := ⟨_, rfl⟩
  have HW1 : Hid (w1.alloc (BM m (.slice p1 n1 d1) (.slice p2 n2 d2)) = W1) := hW1
  have HM1 : Hid (MAt W1 m (.slice p1 n1 d1) (.slice p2 n2 d2)) := by rw [← hW1]; exact hm1.up (below_alloc _ _)
  have HB1 : Hid (Below w.heap.size w W1) := by rw [← hW1]; exact bup hb1 (below_alloc _ _)
  have HX1 : Hid (W1.heap[w1.heap.size]? = some (BM m (.slice p1 n1 d1) (.slice p2 n2 d2))) := by rw [← hW1]; exact heap_alloc_new _ _
  clear hm1 hb1 hm hE hW1
  go_wp2_with fail
  rw [HW1.out]
  refine (rUnpack_any s _).mono ?_
  rintro e w2 ⟨⟨u', z', rfl, hm2⟩, hb2⟩
  rw [HME.out.1] at hm2 ⊢
  rw [HME.out.2]
  obtain ⟨p3, d3, rfl, -, -⟩ := hm2.lives.open
  obtain ⟨p4, d4, rfl, -, -⟩ := hm2.items.open
  rw [hn1, hn2] at hm2 ⊢
  have HM2 : Hid (MAt w2 m (.slice p3 n1 d3) (.slice p4 n2 d4)) := hm2
  have HB2 : Hid (Below w.heap.size w (w2.alloc (BMr m (.slice p3 n1 d3) (.slice p4 n2 d4)))) := bup (bup HB1.out hb2) (below_alloc _ _)
  have HMM : Hid (MAt (w2.alloc (BMr m (.slice p3 n1 d3) (.slice p4 n2 d4))) m (.slice p1 n1 d1) (.slice p2 n2 d2) ∧ MAt (w2.alloc (BMr m (.slice p3 n1 d3) (.slice p4 n2 d4))) m (.slice p3 n1 d3) (.slice p4 n2 d4)) := ⟨(HM1.out.up hb2).up (below_alloc _ _), hm2.up (below_alloc _ _)⟩
  obtain ⟨c0, c1, c2, c3, c4, c5, c6, c7, c8, c9, c10, c11, c12, c13, c14⟩ := mm_of (blk (blk HX1.out hb2) (below_alloc w2 (BMr m (.slice p3 n1 d3) (.slice p4 n2 d4))))
  obtain ⟨y0, y1, y2, y3, y4, y5, y6, y7, y8, y9, y10, y11, y12, y13, y14⟩ := mr_of (heap_alloc_new w2 (BMr m (.slice p3 n1 d3) (.slice p4 n2 d4)))
  have hEE : (E == E) = true := beq_self_eq_true _
  clear hm2 hb2 hn1 hn2
  go_wp2_with fail
  refine (same_any m _ _ _ _ _ HMM.out.1 HMM.out.2).mono ?_
  rintro e w3 ⟨rfl, hb3⟩
  have HB3 : Hid (Below w.heap.size w w3) := bup HB2.out hb3
  clear hb3 c0 c1 c2 c3 c4 c5 c6 c7 c8 c9 c10 c11 c12 c13 c14 y0 y1 y2 y3 y4 y5 y6 y7 y8 y9 y10 y11 y12 y13 y14
  go_wp2_with fail
  refine (change_any _ (tab_up HT.out HB3.out)).mono ?_
  rintro e w4 ⟨rfl, hb4⟩
  have HB4 : Hid (Below w.heap.size w w4) := bup HB3.out hb4
  clear hb4
  go_wp2
  go_ret
  exact ⟨rfl, HB4.out⟩

theorem memoUnpacks_contract (H : Type) (enc : TypeId × Value → H) (W : World) (base : Nat) (args : Array Value) (ds gs : List (DataW H)) (before : List MemPlace)
    (hval : ∀ (j : Nat) t v, Tryd.f4.params[j]? = some t → args[j]? = some v → Value.okWide Tryd.prog W .any base t v)
    (hW : DataW.Whole enc Tryd.prog Tryd.f4.params.toList Rows.memoUnpacksSpec.vars false W args.toList ds gs before) (hL : laidMetH Tryd.prog Rows.memoUnpacksRow.laid W) :
    Calls Tryd.prog 4 args W fun e W' => ∃ v, e = .returned v ∧ Rows.memoUnpacksSpec.post enc Tryd.prog Tryd.f4 false true false false W args v W' := by
  have hW' := hW
  obtain ⟨p, q, hA0, hV, rfl, hfz, hnd⟩ := hW
  have hA : DataW.TrodAll enc Tryd.prog W 0 (fun _ => true) true Tryd.f4.params.toList args.toList ds p := hA0
  rw [Tryd.params4] at hA hval
  obtain ⟨v0, d0, rfl, rfl, h0⟩ := trodAll_one hA
  obtain ⟨rfl, rfl⟩ := trodVars_none hV
  obtain ⟨a0, rfl, rfl, rfl, w0⟩ := open_string Tryd.underlying9 (hval 0 9 v0 rfl rfl) h0
  refine (unpacks_law a0 W (table hL)).mono fun e W' ⟨he, hg⟩ => ⟨_, he, ?_⟩
  exact Law.post laidOut (by kernel_rfl) rfl Tryd.underlying4 hW' rfl rfl hg
theorem memoUnpacks_laid_met (os : Os) : laidMet Tryd.prog Rows.memoUnpacksRow.laid ((laidWorld Tryd.prog os).forCall (fun _ _ => 0) ⟨#[], #[.string .empty], []⟩).memory :=
  laidMet_of_run' 8 (by kernel_rfl) (by kernel_rfl)
theorem memoUnpacks_reads (os : Os) {H : Type} (enc : TypeId × Value → H) : ∃ places, DataW.whole enc Tryd.prog ((laidWorld Tryd.prog os).forCall (fun _ _ => 0) ⟨#[], #[.string .empty], []⟩).memory Tryd.f4.params.toList Rows.memoUnpacksSpec.vars false (#[.string .empty] : Array Value).toList 8 = some ([.lit (.string [])], [], places) :=
  ⟨[], by kernel_rfl⟩

set_option maxRecDepth 100000 in
theorem memoUnpacks_lifted (os : Os) (started : os.Started) (H : Type) (enc : TypeId × Value → H) (F : Stop.Interp) :
    ReturnsInHanded {} Tryd.checked os 4 .any ((OpenSpec.ofChange Rows.memoUnpacksSpec).preRow enc Tryd.prog Tryd.f4 Rows.memoUnpacksRow.domain false Rows.memoUnpacksRow.laid) (((OpenSpec.ofChange Rows.memoUnpacksSpec).at F).post enc Tryd.prog Tryd.f4 false true false false) := by
  obtain ⟨places, hx⟩ := memoUnpacks_reads os enc
  refine returnsInHanded_of_row (C := Tryd.checked) (s := OpenSpec.ofChange Rows.memoUnpacksSpec) own started (by kernel_rfl) Tryd.func4
    (witness_row_at (enc := enc) (C := Tryd.checked) false (laidWorld Tryd.prog os) #[.string .empty] rfl (by kernel_rfl) (by kernel_rfl) (by kernel_rfl)
      (OpenSpec.preRow_of_cond 8 hx (by kernel_rfl) (fun k hk => by cases hk) (by kernel_rfl) (memoUnpacks_laid_met os))) ?_
  intro W base args ds gs before hval hW _ _ _ hL _ _
  exact memoUnpacks_contract H enc W base args ds gs before hval hW hL

theorem memoUnpacks_said : Rows.MemoUnpacksSaid :=
  OpenClaim.holds_of_cond 4 Tryd.f4 rfl rfl rfl rfl rfl rfl rfl ⟨rfl, rfl, rfl, rfl, rfl⟩ rfl rfl rfl rfl rfl (by kernel_rfl) Tryd.func4 (by kernel_rfl)
    (of_decide_eq_true (by kernel_rfl)) (by unfold Func.isWrapper; first | (rw [if_pos (by decide +kernel)]; kernel_rfl) | (rw [if_neg (by decide +kernel)]; exact ⟨rfl, rfl⟩))
    (fun os started H enc _ F => by rw [OpenClaim.pre_eq_preRow]; exact memoUnpacks_lifted os started H enc F)

theorem memoUnpacks_plain (f : FuncId) (fn : Func) (hf : Tryd.pinned.checked.prog.funcNamed "sexton/sextonlaw22.MemoUnpacks" = some f) (hfn : Tryd.pinned.checked.prog.funcs[f]? = some fn) :
    true = Tryd.pinned.checked.prog.looks [] ∧ ∀ (j : Nat) t, fn.params[j]? = some t → Tryd.pinned.checked.prog.wantsStandIn t = false := by
  obtain rfl : f = 4 := Option.some.inj ((show Tryd.prog.funcNamed "sexton/sextonlaw22.MemoUnpacks" = some 4 by kernel_rfl).symm.trans hf) |>.symm
  obtain rfl : fn = Tryd.f4 := (Option.some.inj (Tryd.func4.symm.trans hfn)).symm
  refine ⟨by kernel_rfl, fun j t ht => ?_⟩
  rw [Tryd.params4] at ht
  obtain rfl : t = 9 := by simpa using Array.mem_of_getElem? ht
  exact (show Tryd.prog.wantsStandIn 9 = false by kernel_rfl)

theorem memoUnpacks_card : Rows.MemoUnpacksCardSaid :=
  Claim7.holds_tied_plain_at .later [] _ _ _ _ memoUnpacks_said (fun _ h => by cases h) (by kernel_rfl) (fun _ h => by cases h) memoUnpacks_row_tie rfl ⟨rfl, rfl⟩ (by kernel_rfl) rfl memoUnpacks_plain (by kernel_rfl)
#print axioms memoUnpacks_card
end Go.Proofs.YtlmoibicepppmaaDoor
