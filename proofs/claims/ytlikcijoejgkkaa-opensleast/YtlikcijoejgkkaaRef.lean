/-
  The document's answer: sextonref10.To, sextonref12.Right, asked, Close, Leave.
-/
import Derived.Test.YtlikcijoejgkkaaLeaving
namespace Go.Proofs.Ytlikcijoejgkkaa
open Go.ChangeShapes Go.WideShapes Go.ChangeAt Go.RowKit Go.Deep
theorem rto_any (no gen : Int) (w : World) : Calls Try.prog 25 #[VH no gen] w fun e w' => e = .returned (.bool (decide (Ho no gen))) ∧ w' = w.alloc (BH no gen) := by
  by_cases h1 : 0 ≤ no
  · by_cases h2 : no < 24
    · by_cases h3 : 1 ≤ gen
      · by_cases h4 : gen ≤ 1099511627776
        · rw [decide_eq_true (show Ho no gen from ⟨⟨h1, by omega⟩, h3, h4⟩)]
          go_enter Try.func25, Try.ntmps25
          go_wp2
          go_ret
          exact ⟨rfl, rfl⟩
        · rw [decide_eq_false (show ¬ Ho no gen from fun h => h4 h.2.2)]
          go_enter Try.func25, Try.ntmps25
          go_wp2
          go_ret
          exact ⟨rfl, rfl⟩
      · rw [decide_eq_false (show ¬ Ho no gen from fun h => h3 h.2.1)]
        go_enter Try.func25, Try.ntmps25
        go_wp2
        go_ret
        exact ⟨rfl, rfl⟩
    · rw [decide_eq_false (show ¬ Ho no gen from fun h => h2 (by have := h.1.2; omega))]
      go_enter Try.func25, Try.ntmps25
      go_wp2
      go_ret
      exact ⟨rfl, rfl⟩
  · rw [decide_eq_false (show ¬ Ho no gen from fun h => h1 h.1.1)]
    go_enter Try.func25, Try.ntmps25
    go_wp2
    go_ret
    exact ⟨rfl, rfl⟩
set_option maxHeartbeats 2000000 in
theorem rright_any (v : Value) (l : List Opn) (w : World) (hv : AtW EO w v l) :
    Calls Try.prog 9 #[v] w fun e w' => e = .returned (.bool (Op.right 0 l)) ∧ Below w.heap.size w w' := by
  obtain ⟨ao, cap, rfl, hm, hx⟩ := hv.open
  clear hv
  unfold maxLen at hm
  obtain ⟨n, hn⟩ : ∃ n, l.length = n := ⟨_, rfl⟩
  rw [hn] at hm ⊢
  have HN : Hid (l.length = n) := hn
  have HX : Hid (Over w ao l) := hx
  obtain ⟨r, hr⟩ : ∃ r, Op.right 0 l = r := ⟨_, rfl⟩
  rw [hr]
  have HR : Hid (Op.right 0 l = r) := hr
  clear hn hx hr
  go_enter Try.func9, Try.ntmps9
  go_wp2
  go_loopw [3, 8] (fun t i wr => ∃ (k : Nat) (t' : Int), k ≤ n ∧ i = .int .i64 k ∧ t = .int .i64 t' ∧ -1 ≤ t' ∧ Hid (Op.right 0 l = Op.right (t' + 1) (l.drop k)) ∧ Hid (Below w.heap.size w wr)) (fun _ i _ => n - (intOf i).toNat)
  case atStart => exact ⟨0, -1, Nat.zero_le _, rfl, rfl, Int.le_refl _, rfl, Below.refl _ _⟩
  case round =>
    obtain ⟨k, t, hk, rfl, rfl, ht0, HP, HB⟩ := hrel
    have hsz := HB.out.size
    by_cases hlt : k < n
    · obtain ⟨x, hxk⟩ : ∃ x, l[k]? = some x := ⟨_, List.getElem?_eq_getElem (by rw [HN.out]; exact hlt)⟩
      have HXK : Hid (l[k]? = some x) := hxk
      obtain ⟨b, off, rfl, -, hB, hc⟩ := HX.out k x hxk
      obtain ⟨c0, c1, c2, c3⟩ := opn_cells HB.out hB hc
      clear hc hxk
      have hlt' : (k : Int) < (n : Int) := by omega
      have HNO : Hid (¬ Op.good (t + 1) x → r = false) := fun hg => by
        have := HR.out
        rw [HP.out, Op.right_no HXK.out hg] at this
        exact this.symm
      have HYES : Hid (Op.good (t + 1) x → Op.right 0 l = Op.right (x.1 + 1) (l.drop (k + 1))) := fun hg => HP.out.trans (Op.right_yes HXK.out hg)
      by_cases g0 : x.1 ≤ t
      · have H : Hid (r = false) := HNO.out fun h => by have := h.1.1; omega
        go_wp2
        go_ret
        rw [H.out]
        exact ⟨rfl, HB.out.alloc hsz _⟩
      by_cases g1 : 16 ≤ x.1
      · have H : Hid (r = false) := HNO.out fun h => by have := h.1.2; omega
        go_wp2
        go_ret
        rw [H.out]
        exact ⟨rfl, HB.out.alloc hsz _⟩
      by_cases g2 : x.2.1 < 0
      · have H : Hid (r = false) := HNO.out fun h => by have := h.2.1.1; omega
        go_wp2
        go_ret
        rw [H.out]
        exact ⟨rfl, HB.out.alloc hsz _⟩
      by_cases g3 : 1099511627776 < x.2.1
      · have H : Hid (r = false) := HNO.out fun h => by have := h.2.1.2; omega
        go_wp2
        go_ret
        rw [H.out]
        exact ⟨rfl, HB.out.alloc hsz _⟩
      by_cases g4 : Ho x.2.2.1 x.2.2.2
      · have HY : Hid (Op.right 0 l = Op.right (x.1 + 1) (l.drop (k + 1))) := HYES.out ⟨⟨by omega, by omega⟩, ⟨by omega, by omega⟩, g4⟩
        have G4 : Hid (decide (Ho x.2.2.1 x.2.2.2) = true) := decide_eq_true g4
        have hge : -1 ≤ x.1 := by omega
        clear g4
        go_wp2_with fail
        refine (rto_any _ _ _).mono ?_
        rintro e w' ⟨rfl, rfl⟩
        rw [G4.out]
        have HB2 : Hid (Below w.heap.size w ((wr.alloc (BO x)).alloc (BH x.2.2.1 x.2.2.2))) := (HB.out.alloc hsz _).alloc (by simp; omega) _
        go_wp2
        go_roundw
        case rel => exact ⟨k + 1, x.1, by omega, by go_num, rfl, hge, HY, HB2⟩
        case measure => simp [intOf]; omega
      · have H : Hid (r = false) := HNO.out fun h => g4 h.2.2
        have G4 : Hid (decide (Ho x.2.2.1 x.2.2.2) = false) := decide_eq_false g4
        clear g4
        go_wp2_with fail
        refine (rto_any _ _ _).mono ?_
        rintro e w' ⟨rfl, rfl⟩
        rw [G4.out]
        have HB2 : Hid (Below w.heap.size w ((wr.alloc (BO x)).alloc (BH x.2.2.1 x.2.2.2))) := (HB.out.alloc hsz _).alloc (by simp; omega) _
        go_wp2
        go_ret
        rw [H.out]
        exact ⟨rfl, HB2.out⟩
    · obtain rfl : k = n := by omega
      have H : Hid (r = true) := by
        have := HR.out
        rw [HP.out, Op.right_end HN.out.symm] at this
        exact this.symm
      go_wp2
      go_ret
      rw [H.out]
      exact ⟨rfl, HB.out⟩
theorem asked_any (v : Value) (l : List Opn) (c : Int) (w : World) (hv : AtW EO w v l) :
    Calls Try.prog 30 #[v, .int .i64 c] w fun e w' => e = .returned (.int .i64 (Op.ask l c)) ∧ Below w.heap.size w w' := by
  have HV : Hid (AtW EO w v l) := hv
  clear hv
  rcases Op.ask_or l c with ⟨ha, hr, hc⟩ | ⟨ha, hr, hc⟩ | ⟨ha, hr⟩
  · have HE : Hid (Op.right 0 l = true) := hr
    obtain ⟨h0, h1⟩ : ¬ c < 0 ∧ ¬ 1099511627776 < c := by obtain ⟨h0, h1⟩ := hc; omega
    rw [ha]
    clear ha hr hc
    go_enter Try.func30, Try.ntmps30
    go_wp2_with fail
    refine (rright_any v l _ HV.out).mono ?_
    rintro e w1 ⟨rfl, hb⟩
    rw [HE.out]
    go_wp2
    go_ret
    exact ⟨rfl, hb⟩
  · have HE : Hid (Op.right 0 l = true) := hr
    have HC : Hid (c < 0 ∨ 1099511627776 < c) := by
      by_cases h0 : c < 0
      · exact .inl h0
      · exact .inr (Int.not_le.1 fun h => hc ⟨by omega, h⟩)
    rw [ha]
    clear ha hr hc
    by_cases h0 : c < 0
    · go_enter Try.func30, Try.ntmps30
      go_wp2_with fail
      refine (rright_any v l _ HV.out).mono ?_
      rintro e w1 ⟨rfl, hb⟩
      rw [HE.out]
      go_wp2
      go_ret
      exact ⟨rfl, hb⟩
    · have h1 : 1099511627776 < c := HC.out.resolve_left h0
      go_enter Try.func30, Try.ntmps30
      go_wp2_with fail
      refine (rright_any v l _ HV.out).mono ?_
      rintro e w1 ⟨rfl, hb⟩
      rw [HE.out]
      go_wp2
      go_ret
      exact ⟨rfl, hb⟩
  · have HE : Hid (Op.right 0 l = false) := hr
    rw [ha]
    clear ha hr
    go_enter Try.func30, Try.ntmps30
    go_wp2_with fail
    refine (rright_any v l _ HV.out).mono ?_
    rintro e w1 ⟨rfl, hb⟩
    rw [HE.out]
    go_wp2
    go_ret
    exact ⟨rfl, hb⟩
end Go.Proofs.Ytlikcijoejgkkaa
