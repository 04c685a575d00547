/-
  seat.Ask, seat.refusePut: what they answer.
-/
import Derived.Test.YtaojdndhhgmdmaaConcat
namespace Go.Proofs.Ytaojdndhhgmdmaa
open Go.ChangeShapes Go.WideShapes Go.ChangeAt Go.RowKit Go.Deep
set_option maxHeartbeats 2000000 in
theorem ask_any (v : Value) (l : List Sea) (c r : Int) (w : World) (hv : AtW ES w v l) :
    Calls Try.prog 7 #[v, .int .i64 c, .int .i64 r] w fun e w' => e = .returned (.tuple #[.int .i64 (Se.what l c r), .string (Se.told l c r), .int .i64 (Se.rErr l c r)]) ∧ Below w.heap.size w w' := by
  obtain ⟨ao, cap, rfl, hm, hx⟩ := hv.open
  unfold maxLen at hm
  obtain ⟨n, hn⟩ : ∃ n, l.length = n := ⟨_, rfl⟩
  rw [hn] at hm hv ⊢
  have HN : Hid (l.length = n) := hn
  have HX : Hid (Over w ao l) := hx
  have HV : Hid (AtW ES w (.slice ao n cap) l) := hv
  clear hn hx hv
  by_cases hr : Se.rErr l c r = 0
  · have HO : Hid (Se.ok l = true) := by
      rcases Se.rErr_or l c r with ⟨_, _, h, _⟩ | ⟨_, _, h, _⟩ | ⟨h, h2⟩
      · exact h
      · exact h
      · omega
    have HR : Hid (Se.rErr l c r = 0) := hr
    have hn6 := Se.ok_len HO.out
    rw [HN.out] at hn6
    rw [hr]
    obtain ⟨P, hp⟩ : ∃ P, Se.plc l c = P := ⟨_, rfl⟩
    have HP : Hid (Se.plc l c = P) := hp
    clear hp
    cases hs : Se.seat l c with
    | none =>
      obtain ⟨hw, ht⟩ := Se.what_none hr hs
      have HI : Hid ((Se.seat l c).isSome = false) := by show (Se.seat l c).isSome = false; rw [hs]; rfl
      rw [ht]
      by_cases h6 : n = 6
      · rw [if_pos (HN.out.trans h6)] at hw
        rw [hw]
        subst h6
        clear hr hs hw ht
        go_enter Try.func7, Try.ntmps7
        go_wp2_with fail
        refine (refuseReq_any _ l c r _ HV.out).mono ?_
        rintro e w1 ⟨rfl, hb⟩
        rw [HR.out]
        have HB1 : Hid (Below w.heap.size w w1) := hb
        have HV1 : Hid (AtW ES w1 _ l) := HV.out.up hb
        clear hb
        go_wp2_with fail
        refine (place_any _ l c _ HV1.out (Se.ok_sorted HO.out) (Se.ok_len HO.out)).mono ?_
        rintro e w2 ⟨rfl, hb⟩
        rw [HP.out, HI.out]
        have HB2 : Hid (Below w.heap.size w w2) := HB1.out.trans (hb.mono HB1.out.size)
        clear hb
        go_wp2
        go_ret3
        exact ⟨rfl, HB2.out⟩
      · rw [if_neg (by rw [HN.out]; exact h6)] at hw
        rw [hw]
        have h6' : ((n : Int) == 6) = false := by rw [beq_eq_false_iff_ne]; omega
        clear hr hs hw ht h6
        go_enter Try.func7, Try.ntmps7
        go_wp2_with fail
        refine (refuseReq_any _ l c r _ HV.out).mono ?_
        rintro e w1 ⟨rfl, hb⟩
        rw [HR.out]
        have HB1 : Hid (Below w.heap.size w w1) := hb
        have HV1 : Hid (AtW ES w1 _ l) := HV.out.up hb
        clear hb
        go_wp2_with fail
        refine (place_any _ l c _ HV1.out (Se.ok_sorted HO.out) (Se.ok_len HO.out)).mono ?_
        rintro e w2 ⟨rfl, hb⟩
        rw [HP.out, HI.out]
        have HB2 : Hid (Below w.heap.size w w2) := HB1.out.trans (hb.mono HB1.out.size)
        clear hb
        go_wp2
        go_ret3
        exact ⟨rfl, HB2.out⟩
    | some x =>
      obtain ⟨hw, ht⟩ := Se.what_some hr hs
      have hxk := Se.seat_at (Se.ok_sorted HO.out) hs
      rw [HP.out] at hxk
      have hlt : P < n := by have := (List.getElem?_eq_some_iff.1 hxk).1; rwa [HN.out] at this
      have HI : Hid ((Se.seat l c).isSome = true) := by show (Se.seat l c).isSome = true; rw [hs]; rfl
      obtain ⟨b, off, rfl, -, hB, hc⟩ := HX.out P x hxk
      have HCC : Hid (∀ wr, Below w.heap.size w wr → wr.cell? ⟨b, off + P * 3 + 1, none⟩ = some (.int .i64 x.2.1) ∧ wr.cell? ⟨b, off + P * 3 + 2, none⟩ = some (.string x.2.2)) := fun wr h => (sea_cells h hB hc).2
      have hlt' : (P : Int) < (n : Int) := by omega
      clear hc hxk
      by_cases g1 : x.2.1 < r
      · rw [if_pos g1] at hw
        rw [if_neg (by omega)] at ht
        rw [hw, ht]
        clear hr hs hw ht
        go_enter Try.func7, Try.ntmps7
        go_wp2_with fail
        refine (refuseReq_any _ l c r _ HV.out).mono ?_
        rintro e w1 ⟨rfl, hb⟩
        rw [HR.out]
        have HB1 : Hid (Below w.heap.size w w1) := hb
        have HV1 : Hid (AtW ES w1 _ l) := HV.out.up hb
        clear hb
        go_wp2_with fail
        refine (place_any _ l c _ HV1.out (Se.ok_sorted HO.out) (Se.ok_len HO.out)).mono ?_
        rintro e w2 ⟨rfl, hb⟩
        rw [HP.out, HI.out]
        have HB2 : Hid (Below w.heap.size w w2) := HB1.out.trans (hb.mono HB1.out.size)
        clear hb
        obtain ⟨c1, c2⟩ := HCC.out _ HB2.out
        go_wp2
        go_ret3
        exact ⟨rfl, HB2.out⟩
      · by_cases g2 : r < x.2.1
        · rw [if_neg g1, if_pos g2] at hw
          rw [if_neg (by omega)] at ht
          rw [hw, ht]
          clear hr hs hw ht
          go_enter Try.func7, Try.ntmps7
          go_wp2_with fail
          refine (refuseReq_any _ l c r _ HV.out).mono ?_
          rintro e w1 ⟨rfl, hb⟩
          rw [HR.out]
          have HB1 : Hid (Below w.heap.size w w1) := hb
          have HV1 : Hid (AtW ES w1 _ l) := HV.out.up hb
          clear hb
          go_wp2_with fail
          refine (place_any _ l c _ HV1.out (Se.ok_sorted HO.out) (Se.ok_len HO.out)).mono ?_
          rintro e w2 ⟨rfl, hb⟩
          rw [HP.out, HI.out]
          have HB2 : Hid (Below w.heap.size w w2) := HB1.out.trans (hb.mono HB1.out.size)
          clear hb
          obtain ⟨c1, c2⟩ := HCC.out _ HB2.out
          go_wp2
          go_ret3
          exact ⟨rfl, HB2.out⟩
        · rw [if_neg g1, if_neg g2] at hw
          have ge : r = x.2.1 := by omega
          rw [if_pos ge] at ht
          rw [hw, ht]
          clear hr hs hw ht ge
          go_enter Try.func7, Try.ntmps7
          go_wp2_with fail
          refine (refuseReq_any _ l c r _ HV.out).mono ?_
          rintro e w1 ⟨rfl, hb⟩
          rw [HR.out]
          have HB1 : Hid (Below w.heap.size w w1) := hb
          have HV1 : Hid (AtW ES w1 _ l) := HV.out.up hb
          clear hb
          go_wp2_with fail
          refine (place_any _ l c _ HV1.out (Se.ok_sorted HO.out) (Se.ok_len HO.out)).mono ?_
          rintro e w2 ⟨rfl, hb⟩
          rw [HP.out, HI.out]
          have HB2 : Hid (Below w.heap.size w w2) := HB1.out.trans (hb.mono HB1.out.size)
          clear hb
          obtain ⟨c1, c2⟩ := HCC.out _ HB2.out
          go_wp2_with fail
          go_quiet (fail)
          go_wp2
          go_ret3
          exact ⟨rfl, HB2.out.trans ((below_drewN _ _).mono HB2.out.size)⟩
  · obtain ⟨hw, ht⟩ := Se.what_bad hr
    rw [hw, ht]
    obtain ⟨a, ha⟩ : ∃ a, Se.rErr l c r = a := ⟨_, rfl⟩
    rw [ha] at hr ⊢
    have HA : Hid (Se.rErr l c r = a) := ha
    have hne : (a != 0) = true := by simpa using hr
    clear hr ha hw ht
    go_enter Try.func7, Try.ntmps7
    go_wp2_with fail
    refine (refuseReq_any _ l c r _ HV.out).mono ?_
    rintro e w1 ⟨rfl, hb⟩
    rw [HA.out]
    go_wp2
    go_ret3
    exact ⟨rfl, hb⟩
set_option maxHeartbeats 2000000 in
theorem refusePut_any (v : Value) (l : List Sea) (c r : Int) (s : ByteArray) (w : World) (hv : AtW ES w v l) :
    Calls Try.prog 23 #[v, .int .i64 c, .int .i64 r, .string s] w fun e w' => e = .returned (.int .i64 (Se.putErr l c r s)) ∧ Below w.heap.size w w' := by
  have HV : Hid (AtW ES w v l) := hv
  clear hv
  obtain ⟨t, ht⟩ : ∃ t, Se.told l c r = t := ⟨_, rfl⟩
  have HT : Hid (Se.told l c r = t) := ht
  clear ht
  rcases Se.putErr_or l c r s with ⟨he, hr, hs, hw⟩ | ⟨he, hr, hs⟩ | ⟨he, hr, hs, hw⟩ | ⟨he, hr, hs, hw, hw1⟩ | ⟨he, hr⟩
  · have HR : Hid (Se.rErr l c r = 0 ∧ Se.what l c r = 1) := ⟨hr, hw⟩
    have hs' : ¬ (8192 : Int) < (s.size : Int) := by omega
    rw [he]
    clear he hr hw
    go_enter Try.func23, Try.ntmps23
    go_wp2_with fail
    refine (ask_any _ l c r _ HV.out).mono ?_
    rintro e w1 ⟨rfl, hb⟩
    rw [HR.out.1, HR.out.2, HT.out]
    go_wp2
    go_ret
    exact ⟨rfl, hb⟩
  · obtain ⟨a, ha⟩ : ∃ a, Se.what l c r = a := ⟨_, rfl⟩
    have HR : Hid (Se.rErr l c r = 0 ∧ Se.what l c r = a) := ⟨hr, ha⟩
    have hs' : (8192 : Int) < (s.size : Int) := by omega
    rw [he]
    clear he hr ha
    go_enter Try.func23, Try.ntmps23
    go_wp2_with fail
    refine (ask_any _ l c r _ HV.out).mono ?_
    rintro e w1 ⟨rfl, hb⟩
    rw [HR.out.1, HR.out.2, HT.out]
    go_wp2
    go_ret
    exact ⟨rfl, hb⟩
  · have HR : Hid (Se.rErr l c r = 0 ∧ Se.what l c r = 4) := ⟨hr, hw⟩
    have hs' : ¬ (8192 : Int) < (s.size : Int) := by omega
    rw [he]
    clear he hr hw
    go_enter Try.func23, Try.ntmps23
    go_wp2_with fail
    refine (ask_any _ l c r _ HV.out).mono ?_
    rintro e w1 ⟨rfl, hb⟩
    rw [HR.out.1, HR.out.2, HT.out]
    go_wp2
    go_ret
    exact ⟨rfl, hb⟩
  · obtain ⟨a, ha⟩ : ∃ a, Se.what l c r = a := ⟨_, rfl⟩
    rw [ha] at hw hw1
    have HR : Hid (Se.rErr l c r = 0 ∧ Se.what l c r = a) := ⟨hr, ha⟩
    have hs' : ¬ (8192 : Int) < (s.size : Int) := by omega
    have h4 : (a == 4) = false := beq_eq_false_iff_ne.2 hw
    have h1 : (a != 1) = true := by simpa using hw1
    rw [he]
    clear he hr ha hw hw1
    go_enter Try.func23, Try.ntmps23
    go_wp2_with fail
    refine (ask_any _ l c r _ HV.out).mono ?_
    rintro e w1 ⟨rfl, hb⟩
    rw [HR.out.1, HR.out.2, HT.out]
    go_wp2
    go_ret
    exact ⟨rfl, hb⟩
  · obtain ⟨a, ha⟩ : ∃ a, Se.rErr l c r = a := ⟨_, rfl⟩
    obtain ⟨b, hbb⟩ : ∃ b, Se.what l c r = b := ⟨_, rfl⟩
    rw [ha] at he hr
    have HR : Hid (Se.rErr l c r = a ∧ Se.what l c r = b) := ⟨ha, hbb⟩
    have hne : (a != 0) = true := by simpa using hr
    rw [he]
    clear he hr ha hbb
    go_enter Try.func23, Try.ntmps23
    go_wp2_with fail
    refine (ask_any _ l c r _ HV.out).mono ?_
    rintro e w1 ⟨rfl, hb⟩
    rw [HR.out.1, HR.out.2, HT.out]
    go_wp2
    go_ret
    exact ⟨rfl, hb⟩
end Go.Proofs.Ytaojdndhhgmdmaa
