/-
  memo.Pack: what it answers at any memo.
-/
import Derived.Test.YtlmoibicepppmaaDoorWFields
namespace Go.Proofs.YtlmoibicepppmaaDoor
open Go.ChangeShapes Go.WideShapes Go.ChangeAt Go.RowKit Go.Deep Me
set_option maxRecDepth 100000
theorem tab_up {w w' : World} (h : Po.Tab w) (hb : Below w.heap.size w w') : Po.Tab w' := Po.Tab.below h hb
set_option maxRecDepth 100000 in
set_option maxRecDepth 100000 in
set_option maxHeartbeats 4000000 in
theorem mPack_any (m : Mm) (u z : Value) (w : World) (hv : MAt w m u z) (ht : Po.Tab w) : Calls Tryd.prog 8 #[VM m u z] w fun e w' => e = .returned (.tuple #[.string (packOut m), .int .i64 (packErr m)]) ∧ Below w.heap.size w w' := by
  have HV : Hid (MAt w m u z) := hv
  have HT : Hid (Po.Tab w) := ht
  obtain ⟨ao1, cap1, rfl, -, -⟩ := hv.lives.open
  obtain ⟨ao2, cap2, rfl, -, -⟩ := hv.items.open
  generalize m.lives.length = n1 at *
  generalize m.items.length = n2 at *
  obtain ⟨W, hW⟩ : ∃ W, w.alloc (BM m (.slice ao1 n1 cap1) (.slice ao2 n2 cap2)) = W := ⟨_, rfl⟩
  have HW : Hid (w.alloc (BM m (.slice ao1 n1 cap1) (.slice ao2 n2 cap2)) = W) := hW
  have HBW : Hid (Below w.heap.size w W) := by rw [← hW]; exact below_alloc _ _
  obtain ⟨A, hA⟩ : ∃ A, w.heap.size = A := ⟨_, rfl⟩
  have HA : Hid (w.heap.size = A) := hA
  have HX : Hid (W.heap[A]? = some (BM m (.slice ao1 n1 cap1) (.slice ao2 n2 cap2))) := by rw [← hW, ← hA]; exact heap_alloc_new _ _
  clear hv ht hW hA
  cases hr : right m with
  | false =>
    have HE : Hid ((if right m = true then (0 : Int) else 4) = 4) := by rw [hr]; rfl
    have HO : Hid (packOut m = ⟨#[]⟩ ∧ packErr m = 4) := by unfold packOut packErr; rw [hr]; exact ⟨rfl, rfl⟩
    clear hr
    go_enter Tryd.func8, Tryd.ntmps8
    go_wp2_with fail
    rw [HW.out, HA.out]
    refine (mCheck_any m _ _ _ (HV.out.up HBW.out)).mono ?_
    rintro e w1 ⟨rfl, hb1⟩
    rw [HE.out]
    have HB1 : Hid (Below w.heap.size w w1) := bup HBW.out hb1
    clear hb1
    go_wp2
    go_ret2
    rw [HO.out.1, HO.out.2]
    exact ⟨rfl, HB1.out⟩
  | true =>
    have HE : Hid ((if right m = true then (0 : Int) else 4) = 0) := by rw [hr]; rfl
    have HR : Hid (right m = true) := hr
    have HTO : Hid (Pl.packOut (fields m) = text m) := tlv_out hr
    have HEN : Hid ((Pl.encs (fields m)).length ≤ 1099511627776) := Nat.le_trans (encs_small hr) (by decide)
    have HTS : Hid ((text m).size ≤ 2294600) := text_size hr
    obtain ⟨p, hp⟩ : ∃ p, packed m = p := ⟨_, rfl⟩
    have HP : Hid (Po.Pl.guardOf (text m) = p) := hp
    have hps : p.size ≤ 2294604 := by rw [← hp]; unfold packed; rw [Po.Pl.guardOf_size]; have := HTS.out; omega
    have HO : Hid (packOut m = (if 60000 < p.size then ⟨#[]⟩ else p) ∧ packErr m = if 60000 < p.size then 2 else 0) := by unfold packOut packErr; rw [hr, hp]; exact ⟨rfl, rfl⟩
    clear hr hp
    go_enter Tryd.func8, Tryd.ntmps8
    go_wp2_with fail
    rw [HW.out, HA.out]
    refine (mCheck_any m _ _ _ (HV.out.up HBW.out)).mono ?_
    rintro e w1 ⟨rfl, hb1⟩
    rw [HE.out]
    have HB1 : Hid (Below w.heap.size w w1) := bup HBW.out hb1
    obtain ⟨c0, c1, c2, c3, c4, c5, c6, c7, c8, c9, c10, c11, c12, c13, c14⟩ := mm_of (blk HX.out hb1)
    clear hb1
    go_wp2_with fail
    refine (mfields_any m _ _ _ (HV.out.up HB1.out) HR.out).mono ?_
    rintro e w2 ⟨v, rfl, hf, hb2⟩
    have HB2 : Hid (Below w.heap.size w w2) := bup HB1.out hb2
    have HF : Hid (FieldsAt w2.heap.size w2 v (fields m)) := hf
    clear hb2 hf c0 c1 c2 c3 c4 c5 c6 c7 c8 c9 c10 c11 c12 c13 c14
    go_wp2_with fail
    refine (pack_any _ _ _ HF.out HEN.out).mono ?_
    rintro e w3 ⟨rfl, hb3⟩
    rw [HTO.out]
    have HB3 : Hid (Below w.heap.size w w3) := bup HB2.out hb3
    clear hb3
    go_wp2_with fail
    refine (Po.guard_any _ _ (Nat.le_trans HTS.out (by decide)) (tab_up HT.out HB3.out)).mono ?_
    rintro e w4 ⟨rfl, hb4⟩
    rw [HP.out]
    have HB4 : Hid (Below w.heap.size w w4) := bup HB3.out hb4
    clear hb4
    by_cases hl : 60000 < p.size
    · have hl' : (60000 : Int) < (p.size : Int) := by omega
      have HO2 : Hid (packOut m = ⟨#[]⟩ ∧ packErr m = 2) := by have := HO.out; rwa [if_pos hl, if_pos hl] at this
      clear hl
      go_wp2
      go_ret2
      rw [HO2.out.1, HO2.out.2]
      exact ⟨rfl, HB4.out⟩
    · have hl' : ¬ (60000 : Int) < (p.size : Int) := by omega
      have HO2 : Hid (packOut m = p ∧ packErr m = 0) := by have := HO.out; rwa [if_neg hl, if_neg hl] at this
      clear hl
      go_wp2
      go_ret2
      rw [HO2.out.1, HO2.out.2]
      exact ⟨rfl, HB4.out⟩
end Go.Proofs.YtlmoibicepppmaaDoor
