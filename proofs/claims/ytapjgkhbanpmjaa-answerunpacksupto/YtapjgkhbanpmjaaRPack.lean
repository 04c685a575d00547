/-
  answer.Pack: what it answers at any reply.
-/
import Derived.Test.YtapjgkhbanpmjaaRFields
import Derived.Test.YtapjgkhbanpmjaaPack
namespace Go.Proofs.Ytapjgkhbanpmjaa
open Go.ChangeShapes Go.WideShapes Go.ChangeAt Go.RowKit Go.Deep
open Ak

theorem Re.packs {r : Rep} (h : Re.rightP r) : Pl.packOut (Re.fields r) = Re.packOut r ∧ Re.packErr r = 0 := by
  have hu := Re.up_fields h
  have hr := Re.right_iff.2 h
  exact ⟨by rw [Pl.packOut, hu.1, if_pos rfl, Re.packOut, if_pos hr], by rw [Re.packErr, if_pos hr]⟩
set_option maxRecDepth 100000 in
set_option maxHeartbeats 2000000 in
theorem repPack_any (r : Rep) (u : Value) (w : World) (hv : AtW EE w u r.ents) (hs : ∀ x ∈ r.ents, x.1.size ≤ maxLen) : Calls Try.prog 6 #[VR r u] w fun e w' => e = .returned (.tuple #[.string (Re.packOut r), .int .i64 (Re.packErr r)]) ∧ Below w.heap.size w w' := by
  obtain ⟨ao, cap, rfl, -, -⟩ := (show AtW EE w u r.ents from hv).open
  have HV : Hid (AtW EE w (.slice ao r.ents.length cap) r.ents) := hv
  have HS : Hid (∀ x ∈ r.ents, x.1.size ≤ maxLen) := hs
  obtain ⟨z, hz⟩ : ∃ z, r.ents.length = z := ⟨_, rfl⟩
  rw [hz] at HV ⊢
  clear hv hs hz
  by_cases hr : Re.rightP r
  · have HR : Hid (Re.rightP r) := hr
    have HC : Hid ((if Re.right r then (0 : Int) else 4) = 0) := by show (if Re.right r then (0 : Int) else 4) = 0; rw [if_pos (Re.right_iff.2 hr)]
    have HO : Hid (Pl.packOut (Re.fields r) = Re.packOut r ∧ Re.packErr r = 0) := Re.packs hr
    have HE : Hid ((Pl.encs (Re.fields r)).length ≤ 1099511627776) := Nat.le_trans (Re.up_fields hr).2.2 (by omega)
    clear hr
    go_enter Try.func6, Try.ntmps6
    go_wp2_with fail
    refine (check_is r _ _ 0 (HV.out.al _) HS.out HC).mono ?_
    rintro e w1 ⟨rfl, hb1⟩
    have HB1 : Hid (Below w.heap.size w w1) := ((Below.refl _ _).alloc (Nat.le_refl _) _).trans (hb1.mono (by simp))
    have HV1 : Hid (AtW EE w1 (.slice ao z cap) r.ents) := HV.out.up HB1.out
    obtain ⟨c0, c1, c2, c3, c4, c5, c6, c7, c8, c9⟩ := ten_of (block_step (heap_alloc_new w (BR r (.slice ao z cap))) hb1)
    clear hb1
    go_wp2_with fail
    refine (fields_any r _ _ HR.out HV1.out).mono ?_
    rintro e w2 ⟨v2, rfl, hf2, hb2⟩
    have HB2 : Hid (Below w.heap.size w w2) := HB1.out.trans (hb2.mono HB1.out.size)
    have HF2 : Hid (FieldsAt w2.heap.size w2 v2 (Re.fields r)) := hf2
    clear hb2 hf2 c0 c1 c2 c3 c4 c5 c6 c7 c8 c9
    go_wp2_with fail
    refine (pack_any _ _ _ HF2.out HE.out).mono ?_
    rintro e w3 ⟨rfl, hb3⟩
    rw [HO.out.1]
    go_wp2
    go_ret2
    rw [HO.out.2]
    exact ⟨rfl, HB2.out.trans (hb3.mono HB2.out.size)⟩
  · have hw := Re.wrong_iff.2 hr
    have HC : Hid ((if Re.right r then (0 : Int) else 4) = 4) := by show (if Re.right r then (0 : Int) else 4) = 4; rw [hw]; rfl
    have HO : Hid (Re.packOut r = ⟨#[]⟩ ∧ Re.packErr r = 4) := ⟨by simp [Re.packOut, hw], by simp [Re.packErr, hw]⟩
    clear hr hw
    go_enter Try.func6, Try.ntmps6
    go_wp2_with fail
    refine (check_is r _ _ 4 (HV.out.al _) HS.out HC).mono ?_
    rintro e w1 ⟨rfl, hb1⟩
    have HB1 : Hid (Below w.heap.size w w1) := ((Below.refl _ _).alloc (Nat.le_refl _) _).trans (hb1.mono (by simp))
    go_wp2
    go_ret2
    rw [HO.out.1, HO.out.2]
    exact ⟨rfl, HB1.out⟩
end Go.Proofs.Ytapjgkhbanpmjaa
