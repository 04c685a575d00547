/-
  place's function, sort.Search with it, seat.place: what they answer.
-/
import Derived.Test.YtaojdndhhgmdmaaBase
namespace Go.Proofs.Ytaojdndhhgmdmaa
open Go.ChangeShapes Go.WideShapes Go.ChangeAt Go.RowKit Go.Deep
abbrev VF2 (f b c : Nat) : Value := .func (Fn.func f) #[] #[.pointer (some ⟨b, 0, none⟩), .pointer (some ⟨c, 0, none⟩)]
theorem below_drewN (w : World) (q : Nat) : Below w.heap.size w (w.drewN q) := ⟨rfl, rfl, rfl, Nat.le_refl _, fun _ _ => rfl⟩
theorem place1_any (v : Value) (l : List Sea) (c : Int) (k P : Nat) (b d : Nat) (w : World) (hv : AtW ES w v l) (hk : k < l.length) (hP : ∀ x, l[k]? = some x → (c ≤ x.1 ↔ P ≤ k)) (h0 : w.cell? ⟨b, 0, none⟩ = some v) (h1 : w.cell? ⟨d, 0, none⟩ = some (.int .i64 c)) :
    Calls Try.prog 25 #[.int .i64 k, .pointer (some ⟨b, 0, none⟩), .pointer (some ⟨d, 0, none⟩)] w fun e w' => e = .returned (.bool (decide (P ≤ k))) ∧ Below w.heap.size w w' := by
  obtain ⟨ao, cap, rfl, hm, hx⟩ := hv.open
  clear hv
  unfold maxLen at hm
  obtain ⟨x, hxk⟩ : ∃ x, l[k]? = some x := ⟨_, List.getElem?_eq_getElem hk⟩
  obtain ⟨b2, off, rfl, -, hB, hc⟩ := hx k x hxk
  obtain ⟨c0, c1, c2⟩ := sea_cells (Below.refl _ _) hB hc
  have HD : Hid (decide (c ≤ x.1) = decide (P ≤ k)) := decide_eq_decide.2 (hP x hxk)
  have hk' : (k : Int) < (l.length : Int) := by omega
  clear hc hx hxk hP
  rw [← HD.out]
  generalize l.length = n at *
  go_enter Try.func25, Try.ntmps25
  go_wp2_with fail
  go_quiet (fail)
  go_wp2
  go_ret
  exact ⟨rfl, below_drewN w _⟩
set_option maxHeartbeats 1000000 in
theorem search_any (v : Value) (l : List Sea) (c : Int) (b d : Nat) (w : World) (hv : AtW ES w v l) (hs : Se.Sorted l) (hn6 : l.length ≤ 6) (h0 : w.cell? ⟨b, 0, none⟩ = some v) (h1 : w.cell? ⟨d, 0, none⟩ = some (.int .i64 c)) :
    Calls Try.prog 24 #[.int .i64 l.length, VF2 25 b d] w fun e w' => e = .returned (.int .i64 (Se.plc l c)) ∧ Below w.heap.size w w' := by
  have HV : Hid (AtW ES w v l) := hv
  have HC : Hid (w.cell? ⟨b, 0, none⟩ = some v ∧ w.cell? ⟨d, 0, none⟩ = some (.int .i64 c)) := ⟨h0, h1⟩
  have hle := Se.plc_le l c
  have HP : Hid (∀ k x, l[k]? = some x → (c ≤ x.1 ↔ Se.plc l c ≤ k)) := fun k x h => Se.plc_at l c hs k x h
  obtain ⟨n, hn⟩ : ∃ n, l.length = n := ⟨_, rfl⟩
  obtain ⟨P, hp⟩ : ∃ P, Se.plc l c = P := ⟨_, rfl⟩
  rw [hn] at hle hn6 ⊢
  rw [hp] at hle HP ⊢
  have HN : Hid (l.length = n) := hn
  clear hn hp hv hs h0 h1
  go_enter Try.func24, Try.ntmps24
  go_wp2
  go_loopw [5, 6] (fun i j wr => ∃ lo hi : Nat, i = .int .i64 lo ∧ j = .int .i64 hi ∧ lo ≤ P ∧ P ≤ hi ∧ hi ≤ n ∧ Hid (Below w.heap.size w wr)) (fun i j _ => (intOf j).toNat - (intOf i).toNat)
  case atStart => exact ⟨0, n, rfl, rfl, Nat.zero_le _, hle, Nat.le_refl _, Below.refl _ _⟩
  case round =>
    obtain ⟨lo, hi, rfl, rfl, hlo, hhi, hin, HB⟩ := hrel
    by_cases hlt : lo < hi
    · have hlt' : (lo : Int) < (hi : Int) := by omega
      obtain ⟨h, hh, hh1, hh2⟩ : ∃ h : Nat, ((lo : Int) + hi) / 2 = h ∧ lo ≤ h ∧ h < hi := ⟨(lo + hi) / 2, by omega, by omega, by omega⟩
      have HH : Hid (((lo : Int) + hi) / 2 = h) := hh
      clear hh
      have HV1 : Hid (AtW ES wr v l) := HV.out.up HB.out
      have HC1 : Hid (wr.cell? ⟨b, 0, none⟩ = some v ∧ wr.cell? ⟨d, 0, none⟩ = some (.int .i64 c)) := ⟨cell_step HC.out.1 HB.out, cell_step HC.out.2 HB.out⟩
      by_cases hp : P ≤ h
      · have HD : Hid (decide (P ≤ h) = true) := decide_eq_true hp
        go_wp2_with fail
        rw [HH.out]
        refine (place1_any v l c h P b d _ HV1.out (by rw [HN.out]; omega) (HP.out h) HC1.out.1 HC1.out.2).mono ?_
        rintro e w1 ⟨rfl, hb⟩
        rw [HD.out]
        have HB1 : Hid (Below w.heap.size w w1) := HB.out.trans (hb.mono HB.out.size)
        clear hb
        go_wp2
        go_roundw
        case rel => exact ⟨lo, h, rfl, rfl, hlo, hp, by omega, HB1⟩
        case measure => simp [intOf]; omega
      · have HD : Hid (decide (P ≤ h) = false) := decide_eq_false hp
        go_wp2_with fail
        rw [HH.out]
        refine (place1_any v l c h P b d _ HV1.out (by rw [HN.out]; omega) (HP.out h) HC1.out.1 HC1.out.2).mono ?_
        rintro e w1 ⟨rfl, hb⟩
        rw [HD.out]
        have HB1 : Hid (Below w.heap.size w w1) := HB.out.trans (hb.mono HB.out.size)
        clear hb
        go_wp2
        go_roundw
        case rel => exact ⟨h + 1, hi, by go_num, rfl, by omega, hhi, hin, HB1⟩
        case measure => simp [intOf]; omega
    · obtain rfl : lo = P := by omega
      obtain rfl : lo = hi := by omega
      go_wp2
      go_ret
      exact ⟨rfl, HB.out⟩
theorem box_of {w : World} {A : Nat} {v : Value} {t : TypeId} (h : w.heap[A]? = some (.cells #[v] t)) : w.cell? ⟨A, 0, none⟩ = some v := by simp [World.cell?, h]
set_option maxHeartbeats 1000000 in
theorem place_any (v : Value) (l : List Sea) (c : Int) (w : World) (hv : AtW ES w v l) (hs : Se.Sorted l) (hn6 : l.length ≤ 6) :
    Calls Try.prog 18 #[v, .int .i64 c] w fun e w' => e = .returned (.tuple #[.int .i64 (Se.plc l c), .bool (Se.seat l c).isSome]) ∧ Below w.heap.size w w' := by
  have HS : Hid (Se.Sorted l) := hs
  have hle := Se.plc_le l c
  obtain ⟨ao, cap, rfl, hm, hx⟩ := hv.open
  obtain ⟨n, hn⟩ : ∃ n, l.length = n := ⟨_, rfl⟩
  obtain ⟨P, hp⟩ : ∃ P, Se.plc l c = P := ⟨_, rfl⟩
  rw [hn] at hle hn6 hv hm ⊢
  rw [hp] at hle ⊢
  have HN : Hid (l.length = n) := hn
  have HP : Hid (Se.plc l c = P) := hp
  have HX : Hid (Over w ao l) := hx
  obtain ⟨W, hW⟩ : ∃ W, W = (w.alloc (.cells #[.slice ao n cap] 22)).alloc (.cells #[.int .i64 c] 3) := ⟨_, rfl⟩
  have HB0 : Hid (Below w.heap.size w W) := by show Below w.heap.size w W; rw [hW]; exact ((Below.refl _ w).alloc (Nat.le_refl _) _).alloc (by simp) _
  have HA : Hid (W.cell? ⟨w.heap.size, 0, none⟩ = some (.slice ao n cap) ∧ W.cell? ⟨w.heap.size + 1, 0, none⟩ = some (.int .i64 c)) := by
    show W.cell? _ = _ ∧ W.cell? _ = _
    rw [hW]
    constructor
    · rw [cell_older (by simp)]
      exact box_of (heap_alloc_new w _)
    · have := heap_alloc_new (w.alloc (.cells #[.slice ao n cap] 22)) (.cells #[.int .i64 c] 3)
      rw [show (w.alloc (.cells #[.slice ao n cap] 22)).heap.size = w.heap.size + 1 by simp] at this
      exact box_of this
  have HV : Hid (AtW ES W (.slice ao n cap) l) := hv.up HB0.out
  have h0 := HA.out.1
  have h1 := HA.out.2
  clear hn hp hv hx hs
  unfold maxLen at hm
  by_cases hlt : P < n
  · obtain ⟨x, hxk⟩ : ∃ x, l[P]? = some x := ⟨_, List.getElem?_eq_getElem (by rw [HN.out]; exact hlt)⟩
    obtain ⟨b, off, rfl, -, hB, hc⟩ := HX.out P x hxk
    have HSE : Hid ((Se.seat l c).isSome = (x.1 == c)) := by
      show (Se.seat l c).isSome = (x.1 == c)
      cases hse : Se.seat l c with
      | none =>
        have := Se.seat_miss hse (x := x) (by rw [HP.out]; exact hxk)
        simpa using this
      | some y =>
        have h2 := Se.seat_at HS.out hse
        rw [HP.out, hxk] at h2
        cases h2
        have := (Se.seat_some hse).2
        simp [this]
    have HCC : Hid (∀ wr, Below w.heap.size w wr → wr.cell? ⟨b, off + P * 3, none⟩ = some (.int .i64 x.1)) := fun wr h => (sea_cells h hB hc).1
    have hlt' : (P : Int) < (n : Int) := by omega
    clear hc hxk
    rw [HSE.out]
    go_enter Try.func18, Try.ntmps18
    go_wp2_with fail
    rw [← hW]
    clear hW
    have hse := search_any (.slice (some ⟨b, off, none⟩) n cap) l c w.heap.size (w.heap.size + 1) W HV.out HS.out (by rw [HN.out]; exact hn6) h0 h1
    rw [HN.out, HP.out] at hse
    refine hse.mono ?_
    clear hse
    rintro e w1 ⟨rfl, hb⟩
    have HB1 : Hid (Below w.heap.size w w1) := HB0.out.trans (hb.mono HB0.out.size)
    have g0 := cell_step h0 hb
    have g1 := cell_step h1 hb
    have g2 := HCC.out w1 HB1.out
    clear hb h0 h1
    have hd : decide ((P : Int) < (n : Int)) = true := decide_eq_true hlt'
    go_wp2_with fail
    go_quiet (fail)
    go_wp2
    go_ret2
    exact ⟨rfl, HB1.out.trans ((below_drewN w1 _).mono HB1.out.size)⟩
  · obtain rfl : P = n := by omega
    have HSE : Hid ((Se.seat l c).isSome = false) := by
      show (Se.seat l c).isSome = false
      cases hse : Se.seat l c with
      | none => rfl
      | some y =>
        have h2 := (List.getElem?_eq_some_iff.1 (Se.seat_at HS.out hse)).1
        rw [HP.out, HN.out] at h2
        omega
    have hd : decide ((P : Int) < (P : Int)) = false := by simp
    rw [HSE.out]
    go_enter Try.func18, Try.ntmps18
    go_wp2_with fail
    rw [← hW]
    clear hW
    have hse := search_any (.slice ao P cap) l c w.heap.size (w.heap.size + 1) W HV.out HS.out (by rw [HN.out]; exact hn6) h0 h1
    rw [HN.out, HP.out] at hse
    refine hse.mono ?_
    clear hse
    rintro e w1 ⟨rfl, hb⟩
    have HB1 : Hid (Below w.heap.size w w1) := HB0.out.trans (hb.mono HB0.out.size)
    have g0 := cell_step h0 hb
    have g1 := cell_step h1 hb
    clear hb h0 h1
    go_wp2_with fail
    go_quiet (fail)
    go_wp2
    go_ret2
    exact ⟨rfl, HB1.out.trans ((below_drewN w1 _).mono HB1.out.size)⟩
end Go.Proofs.Ytaojdndhhgmdmaa
