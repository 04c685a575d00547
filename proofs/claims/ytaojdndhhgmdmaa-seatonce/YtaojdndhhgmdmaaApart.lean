/-
  SeatApart: for all seats, every request and every other client the call answers true, and the arguments read as before. No condition.
-/
import Derived.Test.YtaojdndhhgmdmaaPlainB
import Derived.Test.YtaojdndhhgmdmaaPuts
namespace Go.Proofs.Ytaojdndhhgmdmaa
open Go.ChangeShapes Go.WideShapes Go.ChangeAt Go.RowKit Go.Deep
theorem At.lenq {α : Type} {E : Enc α} {S : Nat → Prop} {w : World} {p : Option Addr} {n q : Nat} {l : List α} (h : At E S w (.slice p n q) l) : n = l.length := by
  obtain ⟨ao, cap, hv, -, -⟩ := h.open
  simp only [Value.slice.injEq] at hv
  exact hv.2.1
set_option maxHeartbeats 4000000 in
theorem apart_any (v : Value) (l : List Sea) (x : Sea) (o : Int) (w : World) (hv : AtW ES w v l) :
    Calls Try.prog 6 #[v, VS x, .int .i64 o] w fun e w' => e = .returned (.bool true) ∧ Below w.heap.size w w' := by
  obtain ⟨W, hW⟩ : ∃ W, W = w.alloc (BQ x) := ⟨_, rfl⟩
  have HB0 : Hid (Below w.heap.size w W) := by show Below w.heap.size w W; rw [hW]; exact (Below.refl _ w).alloc (Nat.le_refl _) _
  have HA0 : Hid (Thr w.heap.size x W) := by show Thr w.heap.size x W; rw [hW]; exact req_of (heap_alloc_new w (BQ x))
  have HV : Hid (AtW ES W v l) := hv.up HB0.out
  clear hv
  obtain ⟨z0, z1, z2⟩ := HA0.out
  by_cases hp : Se.putErr l x.1 x.2.1 x.2.2 = 0
  · have HF : Hid (Se.putErr l x.1 x.2.1 x.2.2 = 0) := hp
    clear hp
    by_cases h1 : o = x.1
    · have hb1 : (o == x.1) = true := by simp [h1]
      clear h1
      go_enter Try.func6, Try.ntmps6
      go_wp2_with fail
      simp only [← hW]
      go_wp2_with fail
      refine (put_any v l x.1 x.2.1 x.2.2 _ HV.out).mono ?_
      rintro e w1 ⟨p1, n1, q1, rfl, hu, hb⟩
      rw [HF.out]
      rw [Se.put_eq HF.out] at hu
      have HB1 : Hid (Below w.heap.size w w1) := HB0.out.trans (hb.mono HB0.out.size)
      have HV1 : Hid (AtW ES w1 v l) := HV.out.up hb
      have HU1 : Hid (AtW ES w1 (.slice p1 n1 q1) (Se.putL l x)) := hu.wide
      obtain ⟨y0, y1, y2⟩ := thr_step HA0.out hb
      clear hb hu z0 z1 z2 hW
      go_wp2_with fail
      refine (one_any _).mono ?_
      rintro e w2 ⟨rfl, hb⟩
      have HB2 : Hid (Below w.heap.size w w2) := HB1.out.trans (hb.mono HB1.out.size)
      clear hb
      go_wp2
      go_ret
      exact ⟨rfl, HB2.out⟩
    have hb1 : (o == x.1) = false := beq_eq_false_iff_ne.2 h1
    by_cases h2 : o < 0
    · clear h1
      go_enter Try.func6, Try.ntmps6
      go_wp2_with fail
      simp only [← hW]
      go_wp2_with fail
      refine (put_any v l x.1 x.2.1 x.2.2 _ HV.out).mono ?_
      rintro e w1 ⟨p1, n1, q1, rfl, hu, hb⟩
      rw [HF.out]
      rw [Se.put_eq HF.out] at hu
      have HB1 : Hid (Below w.heap.size w w1) := HB0.out.trans (hb.mono HB0.out.size)
      have HV1 : Hid (AtW ES w1 v l) := HV.out.up hb
      have HU1 : Hid (AtW ES w1 (.slice p1 n1 q1) (Se.putL l x)) := hu.wide
      obtain ⟨y0, y1, y2⟩ := thr_step HA0.out hb
      clear hb hu z0 z1 z2 hW
      go_wp2_with fail
      refine (one_any _).mono ?_
      rintro e w2 ⟨rfl, hb⟩
      have HB2 : Hid (Below w.heap.size w w2) := HB1.out.trans (hb.mono HB1.out.size)
      clear hb
      go_wp2
      go_ret
      exact ⟨rfl, HB2.out⟩
    by_cases h3 : 1099511627776 < o
    · clear h1
      go_enter Try.func6, Try.ntmps6
      go_wp2_with fail
      simp only [← hW]
      go_wp2_with fail
      refine (put_any v l x.1 x.2.1 x.2.2 _ HV.out).mono ?_
      rintro e w1 ⟨p1, n1, q1, rfl, hu, hb⟩
      rw [HF.out]
      rw [Se.put_eq HF.out] at hu
      have HB1 : Hid (Below w.heap.size w w1) := HB0.out.trans (hb.mono HB0.out.size)
      have HV1 : Hid (AtW ES w1 v l) := HV.out.up hb
      have HU1 : Hid (AtW ES w1 (.slice p1 n1 q1) (Se.putL l x)) := hu.wide
      obtain ⟨y0, y1, y2⟩ := thr_step HA0.out hb
      clear hb hu z0 z1 z2 hW
      go_wp2_with fail
      refine (one_any _).mono ?_
      rintro e w2 ⟨rfl, hb⟩
      have HB2 : Hid (Below w.heap.size w w2) := HB1.out.trans (hb.mono HB1.out.size)
      clear hb
      go_wp2
      go_ret
      exact ⟨rfl, HB2.out⟩
    obtain ⟨ha, hb', hc', hd⟩ := Se.apart HF.out (c := o) (r := 3) h1 ⟨by omega, by omega⟩ ⟨by decide, by decide⟩
    obtain ⟨td, htd⟩ : ∃ td, Se.told l o 3 = td := ⟨_, rfl⟩
    rw [htd] at hc'
    have ht4 : (td.toList != td.toList) = false := by simp
    have HX : Hid (Se.rErr l o 3 = 0 ∧ Se.rErr (Se.putL l x) o 3 = 0 ∧ Se.told l o 3 = td ∧ Se.told (Se.putL l x) o 3 = td) := ⟨ha, hb', htd, hc'⟩
    clear h1 ha hb' hc' htd
    obtain ⟨wa, hwa⟩ : ∃ wa, Se.what l o 3 = wa := ⟨_, rfl⟩
    rcases hd with hd | ⟨hd1, hd2, hd3⟩
    · rw [hwa] at hd
      have HWH : Hid (Se.what l o 3 = wa ∧ Se.what (Se.putL l x) o 3 = wa) := ⟨hwa, hd⟩
      have t1 : (wa == wa) = true := beq_self_eq_true wa
      clear hwa hd
      go_enter Try.func6, Try.ntmps6
      go_wp2_with fail
      simp only [← hW]
      go_wp2_with fail
      refine (put_any v l x.1 x.2.1 x.2.2 _ HV.out).mono ?_
      rintro e w1 ⟨p1, n1, q1, rfl, hu, hb⟩
      rw [HF.out]
      rw [Se.put_eq HF.out] at hu
      have HB1 : Hid (Below w.heap.size w w1) := HB0.out.trans (hb.mono HB0.out.size)
      have HV1 : Hid (AtW ES w1 v l) := HV.out.up hb
      have HU1 : Hid (AtW ES w1 (.slice p1 n1 q1) (Se.putL l x)) := hu.wide
      obtain ⟨y0, y1, y2⟩ := thr_step HA0.out hb
      clear hb hu z0 z1 z2 hW
      go_wp2_with fail
      refine (ask_any v l o 3 _ HV1.out).mono ?_
      rintro e w2 ⟨rfl, hb⟩
      rw [HX.out.1, HX.out.2.2.1, HWH.out.1]
      have HB2 : Hid (Below w.heap.size w w2) := HB1.out.trans (hb.mono HB1.out.size)
      have HU2 : Hid (AtW ES w2 (.slice p1 _ q1) (Se.putL l x)) := HU1.out.up hb
      clear hb y0 y1 y2
      go_wp2_with fail
      refine (ask_any _ (Se.putL l x) o 3 _ HU2.out).mono ?_
      rintro e w3 ⟨rfl, hb⟩
      rw [HX.out.2.1, HX.out.2.2.2, HWH.out.2]
      have HB3 : Hid (Below w.heap.size w w3) := HB2.out.trans (hb.mono HB2.out.size)
      clear hb
      go_wp2_with fail
      refine (one_any _).mono ?_
      rintro e w4 ⟨rfl, hb⟩
      have HB4 : Hid (Below w.heap.size w w4) := HB3.out.trans (hb.mono HB3.out.size)
      clear hb
      go_wp2
      go_ret
      exact ⟨rfl, HB4.out⟩
    · have HWH : Hid (Se.what l o 3 = 1 ∧ Se.what (Se.putL l x) o 3 = 4) := ⟨hd1, hd2⟩
      have HL6 : Hid ((Se.putL l x).length = 6) := hd3
      clear hwa hd1 hd2 hd3
      go_enter Try.func6, Try.ntmps6
      go_wp2_with fail
      simp only [← hW]
      go_wp2_with fail
      refine (put_any v l x.1 x.2.1 x.2.2 _ HV.out).mono ?_
      rintro e w1 ⟨p1, n1, q1, rfl, hu, hb⟩
      rw [HF.out]
      rw [Se.put_eq HF.out] at hu
      have HB1 : Hid (Below w.heap.size w w1) := HB0.out.trans (hb.mono HB0.out.size)
      have HV1 : Hid (AtW ES w1 v l) := HV.out.up hb
      have HU1 : Hid (AtW ES w1 (.slice p1 n1 q1) (Se.putL l x)) := hu.wide
      obtain ⟨y0, y1, y2⟩ := thr_step HA0.out hb
      clear hb hu z0 z1 z2 hW
      obtain rfl : n1 = 6 := HU1.out.lenq.trans HL6.out
      go_wp2_with fail
      refine (ask_any v l o 3 _ HV1.out).mono ?_
      rintro e w2 ⟨rfl, hb⟩
      rw [HX.out.1, HX.out.2.2.1, HWH.out.1]
      have HB2 : Hid (Below w.heap.size w w2) := HB1.out.trans (hb.mono HB1.out.size)
      have HU2 : Hid (AtW ES w2 (.slice p1 _ q1) (Se.putL l x)) := HU1.out.up hb
      clear hb y0 y1 y2
      go_wp2_with fail
      refine (ask_any _ (Se.putL l x) o 3 _ HU2.out).mono ?_
      rintro e w3 ⟨rfl, hb⟩
      rw [HX.out.2.1, HX.out.2.2.2, HWH.out.2]
      have HB3 : Hid (Below w.heap.size w w3) := HB2.out.trans (hb.mono HB2.out.size)
      clear hb
      go_wp2_with fail
      refine (one_any _).mono ?_
      rintro e w4 ⟨rfl, hb⟩
      have HB4 : Hid (Below w.heap.size w w4) := HB3.out.trans (hb.mono HB3.out.size)
      clear hb
      go_wp2
      go_ret
      exact ⟨rfl, HB4.out⟩
  · obtain ⟨pe, hpe⟩ : ∃ pe, Se.putErr l x.1 x.2.1 x.2.2 = pe := ⟨_, rfl⟩
    rw [hpe] at hp
    have hne : (pe != 0) = true := by simpa using hp
    have HF : Hid (Se.putErr l x.1 x.2.1 x.2.2 = pe) := hpe
    clear hp hpe
    go_enter Try.func6, Try.ntmps6
    go_wp2_with fail
    simp only [← hW]
    go_wp2_with fail
    refine (put_any v l x.1 x.2.1 x.2.2 _ HV.out).mono ?_
    rintro e w1 ⟨p1, n1, q1, rfl, hu, hb⟩
    rw [HF.out]
    have HB1 : Hid (Below w.heap.size w w1) := HB0.out.trans (hb.mono HB0.out.size)
    have HV1 : Hid (AtW ES w1 v l) := HV.out.up hb
    obtain ⟨y0, y1, y2⟩ := thr_step HA0.out hb
    clear hb hu z0 z1 z2 hW
    go_wp2_with fail
    refine (one_any _).mono ?_
    rintro e w2 ⟨rfl, hb⟩
    have HB2 : Hid (Below w.heap.size w w2) := HB1.out.trans (hb.mono HB1.out.size)
    clear hb
    go_wp2
    go_ret
    exact ⟨rfl, HB2.out⟩

set_option maxRecDepth 100000 in
theorem seatApart_lifted (os : Os) (started : os.Started) (H : Type) (enc : TypeId × Value → H) :
    ReturnsInHanded {} Try.checked os 6 .any (Rows.seatApartSpec.pre6 enc Try.prog Try.f6 Rows.seatApartRow.domain false) (Rows.seatApartSpec.post enc Try.prog Try.f6 false true false false) := by
  refine returnsInHanded_of_change_sized (C := Try.checked) own started (by kernel_rfl) Try.func6
    (ChangeSpec.witness6 (enc := enc) (C := Try.checked) false ⟨#[], #[.slice none 0 0, .agg #[.int .i64 0, .int .i64 0, .string ⟨#[]⟩], .int .i64 0], []⟩ 8 (by kernel_rfl) (by kernel_rfl) (by kernel_rfl) (by kernel_rfl)) ?_
  intro W base args ds gs before hval0 hW hcnd hsized _
  have hval : ∀ (j : Nat) t v, Try.f6.params[j]? = some t → args[j]? = some v → Value.okWide Try.prog W .any base t v := hval0
  have hW' := hW
  obtain ⟨p, q, hA0, hV, rfl, hfz, hnd⟩ := hW
  have hA : DataW.TrodAll enc Try.prog W 0 (fun _ => true) true Try.f6.params.toList args.toList ds p := hA0
  rw [Try.params6] at hA hval
  obtain ⟨v0, v1, v2, d0, d1, d2, p0, p1, p2, rfl, rfl, rfl, h0, h1, h2⟩ := trodAll_three hA
  obtain ⟨rfl, rfl⟩ := trodVars_none hV
  obtain ⟨l, hl⟩ := open_seats (okWide_slice Try.underlying22 (hval 0 22 v0 rfl rfl)) h0
  obtain ⟨x, rfl⟩ := open_ask (hval 1 38 v1 rfl rfl) h1
  obtain ⟨o, rfl, -, -, -⟩ := open_int Try.underlying3 (hval 2 3 v2 rfl rfl) h2
  refine (apart_any v0 l x o W hl).mono fun e W' ⟨he, hg⟩ => ⟨_, he, ?_⟩
  exact Law.post laidOut (by kernel_rfl) rfl Try.underlying4 hW' rfl rfl hg

theorem seatApart_holds : Rows.SeatApartSaid :=
  OpenClaim.holds_of_wide 6 Try.f6 rfl rfl rfl rfl rfl rfl rfl ⟨rfl, rfl, rfl, rfl, rfl⟩ rfl rfl rfl rfl rfl (by kernel_rfl) Try.func6 (by kernel_rfl)
    (of_decide_eq_true (by kernel_rfl)) (by unfold Func.isWrapper; first | (rw [if_pos (by decide +kernel)]; kernel_rfl) | (rw [if_neg (by decide +kernel)]; exact ⟨rfl, rfl⟩))
    (fun os started H enc _ => seatApart_lifted os started H enc)
#print axioms seatApart_holds
end Go.Proofs.Ytaojdndhhgmdmaa
