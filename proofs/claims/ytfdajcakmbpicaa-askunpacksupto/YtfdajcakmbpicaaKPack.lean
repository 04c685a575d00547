/-
  ask.Pack and the small case: what they answer at any call.
-/
import Derived.Test.YtfdajcakmbpicaaKFields
import Derived.Test.YtfdajcakmbpicaaPack
namespace Go.Proofs.Ytfdajcakmbpicaa
open Go.ChangeShapes Go.WideShapes Go.ChangeAt Go.RowKit Go.Deep
open Ak

theorem Ak.packs {c : Cl} (h : rightP c) : Pl.packOut (fields c) = packOut c ∧ packErr c = 0 := by
  have hu := up_fields h
  have hr := right_iff.2 h
  exact ⟨by rw [Pl.packOut, hu.1, if_pos rfl, packOut, if_pos hr], by rw [packErr, if_pos hr]⟩
set_option maxHeartbeats 2000000 in
theorem askPack_any (c : Cl) (w : World) : Calls Try.prog 6 #[VC c] w fun e w' => e = .returned (.tuple #[.string (packOut c), .int .i64 (packErr c)]) ∧ Below w.heap.size w w' := by
  by_cases hr : rightP c
  · have HR : Hid (rightP c) := hr
    have HC : Hid ((if right c then (0 : Int) else 413) = 0) := by show (if right c then (0 : Int) else 413) = 0; rw [if_pos (right_iff.2 hr)]
    have HO : Hid (Pl.packOut (fields c) = packOut c ∧ packErr c = 0) := Ak.packs hr
    have HE : Hid ((Pl.encs (fields c)).length ≤ 1099511627776) := Nat.le_trans (up_fields hr).2.2 (by omega)
    clear hr
    go_enter Try.func6, Try.ntmps6
    go_wp2_with fail
    refine (check_is c _ 0 HC).mono ?_
    rintro e w1 ⟨rfl, hb1⟩
    have HB1 : Hid (Below w.heap.size w w1) := ((Below.refl _ _).alloc (Nat.le_refl _) _).trans (hb1.mono (by simp))
    obtain ⟨c0, c1, c2, c3, c4, c5, c6, c7, c8, c9⟩ := ten_of (block_step (heap_alloc_new w (BC c)) hb1)
    clear hb1
    go_wp2_with fail
    refine (fields_any c _ HR.out).mono ?_
    rintro e w2 ⟨v2, rfl, hf2, hb2⟩
    have HB2 : Hid (Below w.heap.size w w2) := HB1.out.trans (hb2.mono HB1.out.size)
    have HF2 : Hid (FieldsAt w2.heap.size w2 v2 (fields c)) := hf2
    clear hb2 hf2 c0 c1 c2 c3 c4 c5 c6 c7 c8 c9
    go_wp2_with fail
    refine (pack_any _ _ _ HF2.out HE.out).mono ?_
    rintro e w3 ⟨rfl, hb3⟩
    rw [HO.out.1]
    go_wp2
    go_ret2
    rw [HO.out.2]
    exact ⟨rfl, HB2.out.trans (hb3.mono HB2.out.size)⟩
  · have hw := wrong_iff.2 hr
    have HC : Hid ((if right c then (0 : Int) else 413) = 413) := by show (if right c then (0 : Int) else 413) = 413; rw [hw]; rfl
    have HO : Hid (packOut c = ⟨#[]⟩ ∧ packErr c = 413) := ⟨by simp [packOut, hw], by simp [packErr, hw]⟩
    clear hr hw
    go_enter Try.func6, Try.ntmps6
    go_wp2_with fail
    refine (check_is c _ 413 HC).mono ?_
    rintro e w1 ⟨rfl, hb1⟩
    have HB1 : Hid (Below w.heap.size w w1) := ((Below.refl _ _).alloc (Nat.le_refl _) _).trans (hb1.mono (by simp))
    go_wp2
    go_ret2
    rw [HO.out.1, HO.out.2]
    exact ⟨rfl, HB1.out⟩
def Ak.c0 : Cl := ⟨1, 0, 1, 0, 0, ⟨#[97]⟩, ⟨#[]⟩, 0, 0, ⟨#[]⟩⟩
theorem look_out : packOut Ak.c0 = ⟨#[1, 0, 1, 1, 2, 0, 7, 0, 0, 0, 0, 0, 0, 1, 4, 0, 1, 97]⟩ ∧ packErr Ak.c0 = 0 := by decide +kernel
set_option maxHeartbeats 1000000 in
theorem look_any (w : World) : Calls Try.prog 10 #[] w fun e w' => e = .returned (.bool true) ∧ Below w.heap.size w w' := by
  have HL : Hid (packOut Ak.c0 = ⟨#[1, 0, 1, 1, 2, 0, 7, 0, 0, 0, 0, 0, 0, 1, 4, 0, 1, 97]⟩ ∧ packErr Ak.c0 = 0) := look_out
  go_enter Try.func10, Try.ntmps10
  go_wp2_with fail
  refine (askPack_any Ak.c0 _).mono ?_
  rintro e w1 ⟨rfl, hb1⟩
  rw [HL.out.1, HL.out.2]
  go_wp2
  go_ret
  exact ⟨rfl, hb1⟩
end Go.Proofs.Ytfdajcakmbpicaa
