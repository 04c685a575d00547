/-
  The document's answer: sextonref16.Right, Ask; sextonplain.Seats says yes of lists that are one list.
-/
import Derived.Test.YtaojdndhhgmdmaaPut
namespace Go.Proofs.Ytaojdndhhgmdmaa
open Go.ChangeShapes Go.WideShapes Go.ChangeAt Go.RowKit Go.Deep
set_option maxHeartbeats 2000000 in
theorem rright_any (v : Value) (l : List Sea) (w : World) (hv : AtW ES w v l) :
    Calls Try.prog 12 #[v] w fun e w' => e = .returned (.bool (Se.ok l)) ∧ Below w.heap.size w w' := by
  obtain ⟨ao, cap, rfl, hm, hx⟩ := hv.open
  clear hv
  unfold maxLen at hm
  obtain ⟨n, hn⟩ : ∃ n, l.length = n := ⟨_, rfl⟩
  rw [hn] at hm ⊢
  have HN : Hid (l.length = n) := hn
  have HX : Hid (Over w ao l) := hx
  obtain ⟨r, hr⟩ : ∃ r, Se.ok l = r := ⟨_, rfl⟩
  rw [hr]
  have HR : Hid ((decide (l.length ≤ 6) && Se.right 0 l) = r) := hr
  clear hn hx hr
  go_enter Try.func12, Try.ntmps12
  go_wp2
  go_loopw [3, 8] (fun t i wr => ∃ (k : Nat) (t' : Int), k ≤ n ∧ i = .int .i64 k ∧ t = .int .i64 t' ∧ -1 ≤ t' ∧ Hid (Se.right 0 l = Se.right (t' + 1) (l.drop k)) ∧ Hid (Below w.heap.size w wr)) (fun _ i _ => n - (intOf i).toNat)
  case atStart => exact ⟨0, -1, Nat.zero_le _, rfl, rfl, Int.le_refl _, rfl, Below.refl _ _⟩
  case round =>
    obtain ⟨k, t, hk, rfl, rfl, ht0, HP, HB⟩ := hrel
    have hsz := HB.out.size
    by_cases hlt : k < n
    · obtain ⟨x, hxk⟩ : ∃ x, l[k]? = some x := ⟨_, List.getElem?_eq_getElem (by rw [HN.out]; exact hlt)⟩
      have HXK : Hid (l[k]? = some x) := hxk
      obtain ⟨b, off, rfl, -, hB, hc⟩ := HX.out k x hxk
      obtain ⟨c0, c1, c2⟩ := sea_cells HB.out hB hc
      clear hc hxk
      have hlt' : (k : Int) < (n : Int) := by omega
      have HNO : Hid (¬ Se.good (t + 1) x → r = false) := fun hg => by
        have := HR.out
        rw [HP.out, Se.right_no HXK.out hg, Bool.and_false] at this
        exact this.symm
      have HYES : Hid (Se.good (t + 1) x → Se.right 0 l = Se.right (x.1 + 1) (l.drop (k + 1))) := fun hg => HP.out.trans (Se.right_yes HXK.out hg)
      by_cases g0 : x.1 ≤ t
      · have H : Hid (r = false) := HNO.out fun h => by have := h.1.1; omega
        go_wp2
        go_ret
        rw [H.out]
        exact ⟨rfl, HB.out.alloc hsz _⟩
      by_cases g1 : 1099511627776 < x.1
      · have H : Hid (r = false) := HNO.out fun h => by have := h.1.2; omega
        go_wp2
        go_ret
        rw [H.out]
        exact ⟨rfl, HB.out.alloc hsz _⟩
      by_cases g2 : x.2.1 < 1
      · have H : Hid (r = false) := HNO.out fun h => by have := h.2.1.1; omega
        go_wp2
        go_ret
        rw [H.out]
        exact ⟨rfl, HB.out.alloc hsz _⟩
      by_cases g3 : 1099511627776 < x.2.1
      · have H : Hid (r = false) := HNO.out fun h => by have := h.2.1.2; omega
        go_wp2
        go_ret
        rw [H.out]
        exact ⟨rfl, HB.out.alloc hsz _⟩
      by_cases g4 : (8192 : Int) < (x.2.2.size : Int)
      · have H : Hid (r = false) := HNO.out fun h => by have := h.2.2; omega
        go_wp2
        go_ret
        rw [H.out]
        exact ⟨rfl, HB.out.alloc hsz _⟩
      have HY : Hid (Se.right 0 l = Se.right (x.1 + 1) (l.drop (k + 1))) := HYES.out ⟨⟨by omega, by omega⟩, ⟨by omega, by omega⟩, by omega⟩
      have hge : -1 ≤ x.1 := by omega
      go_wp2
      go_roundw
      case rel => exact ⟨k + 1, x.1, by omega, by go_num, rfl, hge, HY, HB.out.alloc hsz _⟩
      case measure => simp [intOf]; omega
    · obtain rfl : k = n := by omega
      have H : Hid (r = decide ((k : Int) ≤ 6)) := by
        have := HR.out
        rw [HP.out, Se.right_end HN.out.symm, Bool.and_true, HN.out] at this
        rw [← this]
        exact decide_eq_decide.2 (by omega)
      go_wp2
      go_ret
      rw [H.out]
      exact ⟨rfl, HB.out⟩
namespace Se
theorem find_yes {l : List Sea} {k : Nat} {x : Sea} {c : Int} (h : l[k]? = some x) (hc : x.1 = c) (hp : seat l c = seat (l.drop k) c) : seat l c = some x := by
  rw [hp, drop_at h]
  simp [seat, hc]
theorem find_no {l : List Sea} {k : Nat} {x : Sea} {c : Int} (h : l[k]? = some x) (hc : x.1 ≠ c) (hp : seat l c = seat (l.drop k) c) : seat l c = seat (l.drop (k + 1)) c := by
  rw [hp, drop_at h]
  simp [seat, hc]
theorem find_end {l : List Sea} {k : Nat} {c : Int} (h : k = l.length) (hp : seat l c = seat (l.drop k) c) : seat l c = none := by
  rw [hp, h, List.drop_length]
  rfl
end Se
set_option maxHeartbeats 2000000 in
theorem rask_any (v : Value) (l : List Sea) (c r : Int) (w : World) (hv : AtW ES w v l) :
    Calls Try.prog 8 #[v, .int .i64 c, .int .i64 r] w fun e w' => e = .returned (.tuple #[.int .i64 (Se.what l c r), .string (Se.told l c r), .int .i64 (Se.rErr l c r)]) ∧ Below w.heap.size w w' := by
  obtain ⟨ao, cap, rfl, hm, hx⟩ := hv.open
  unfold maxLen at hm
  obtain ⟨n, hn⟩ : ∃ n, l.length = n := ⟨_, rfl⟩
  rw [hn] at hm hv ⊢
  have HN : Hid (l.length = n) := hn
  have HX : Hid (Over w ao l) := hx
  have HV : Hid (AtW ES w (.slice ao n cap) l) := hv
  clear hn hx hv
  cases ho : Se.ok l with
  | false =>
    have hce : Se.cErr l c = 4 := by unfold Se.cErr; rw [ho]; rfl
    have hre : Se.rErr l c r = 4 := by unfold Se.rErr; rw [if_neg (by omega), hce]
    obtain ⟨hw, ht⟩ := Se.what_bad (l := l) (c := c) (r := r) (by omega)
    rw [hw, ht, hre]
    have HO : Hid (Se.ok l = false) := ho
    clear hce hre hw ht ho
    go_enter Try.func8, Try.ntmps8
    go_wp2_with fail
    refine (rright_any _ l _ HV.out).mono ?_
    rintro e w1 ⟨rfl, hb⟩
    rw [HO.out]
    have HB1 : Hid (Below w.heap.size w w1) := hb
    clear hb
    go_wp2
    go_ret3
    exact ⟨rfl, HB1.out⟩
  | true =>
    have HO : Hid (Se.ok l = true) := ho
    by_cases hbad : c < 0 ∨ 1099511627776 < c ∨ r < 1 ∨ 1099511627776 < r
    · have hre : Se.rErr l c r = 1 := by
        unfold Se.rErr Se.cErr
        rw [ho]
        by_cases hc : Se.Cl c
        · have hq : ¬ Se.Rq r := fun h => by have h1 := hc.1; have h2 := hc.2; have h3 := h.1; have h4 := h.2; omega
          simp [hc, hq]
        · simp [hc]
      obtain ⟨hw, ht⟩ := Se.what_bad (l := l) (c := c) (r := r) (by omega)
      rw [hw, ht, hre]
      clear hre hw ht ho
      by_cases h1 : c < 0
      · clear hbad
        go_enter Try.func8, Try.ntmps8
        go_wp2_with fail
        refine (rright_any _ l _ HV.out).mono ?_
        rintro e w1 ⟨rfl, hb⟩
        rw [HO.out]
        have HB1 : Hid (Below w.heap.size w w1) := hb
        clear hb
        go_wp2
        go_ret3
        exact ⟨rfl, HB1.out⟩
      by_cases h2 : 1099511627776 < c
      · clear hbad
        go_enter Try.func8, Try.ntmps8
        go_wp2_with fail
        refine (rright_any _ l _ HV.out).mono ?_
        rintro e w1 ⟨rfl, hb⟩
        rw [HO.out]
        have HB1 : Hid (Below w.heap.size w w1) := hb
        clear hb
        go_wp2
        go_ret3
        exact ⟨rfl, HB1.out⟩
      by_cases h3 : r < 1
      · clear hbad
        go_enter Try.func8, Try.ntmps8
        go_wp2_with fail
        refine (rright_any _ l _ HV.out).mono ?_
        rintro e w1 ⟨rfl, hb⟩
        rw [HO.out]
        have HB1 : Hid (Below w.heap.size w w1) := hb
        clear hb
        go_wp2
        go_ret3
        exact ⟨rfl, HB1.out⟩
      have h4 : 1099511627776 < r := by omega
      clear hbad
      go_enter Try.func8, Try.ntmps8
      go_wp2_with fail
      refine (rright_any _ l _ HV.out).mono ?_
      rintro e w1 ⟨rfl, hb⟩
      rw [HO.out]
      have HB1 : Hid (Below w.heap.size w w1) := hb
      clear hb
      go_wp2
      go_ret3
      exact ⟨rfl, HB1.out⟩
    · obtain ⟨h1, h2, h3, h4⟩ : ¬ c < 0 ∧ ¬ 1099511627776 < c ∧ ¬ r < 1 ∧ ¬ 1099511627776 < r := by omega
      have hre : Se.rErr l c r = 0 := by
        have hc : Se.Cl c := ⟨by omega, by omega⟩
        have hq : Se.Rq r := ⟨by omega, by omega⟩
        unfold Se.rErr Se.cErr
        rw [ho]
        simp [hc, hq]
      have HRE : Hid (Se.rErr l c r = 0) := hre
      obtain ⟨wh, hwh⟩ : ∃ wh, Se.what l c r = wh := ⟨_, rfl⟩
      obtain ⟨td, htd⟩ : ∃ td, Se.told l c r = td := ⟨_, rfl⟩
      rw [hre, hwh, htd]
      have HW : Hid (Se.what l c r = wh ∧ Se.told l c r = td) := ⟨hwh, htd⟩
      clear hre hwh htd ho hbad
      go_enter Try.func8, Try.ntmps8
      go_wp2_with fail
      refine (rright_any _ l _ HV.out).mono ?_
      rintro e w1 ⟨rfl, hb⟩
      rw [HO.out]
      have HB1 : Hid (Below w.heap.size w w1) := hb
      clear hb
      go_wp2
      go_loopw [30] (fun i wr => ∃ k : Nat, k ≤ n ∧ i = .int .i64 k ∧ Hid (Se.seat l c = Se.seat (l.drop k) c) ∧ Hid (Below w.heap.size w wr)) (fun i _ => n - (intOf i).toNat)
      case atStart => exact ⟨0, Nat.zero_le _, rfl, rfl, HB1.out⟩
      case round =>
        obtain ⟨k, hk, rfl, HP, HB⟩ := hrel
        have hsz := HB.out.size
        by_cases hlt : k < n
        · obtain ⟨x, hxk⟩ : ∃ x, l[k]? = some x := ⟨_, List.getElem?_eq_getElem (by rw [HN.out]; exact hlt)⟩
          have HXK : Hid (l[k]? = some x) := hxk
          obtain ⟨b, off, rfl, -, hB, hc⟩ := HX.out k x hxk
          obtain ⟨c0, c1, c2⟩ := sea_cells HB.out hB hc
          clear hc hxk
          have hlt' : (k : Int) < (n : Int) := by omega
          by_cases g : x.1 = c
          · have hs := Se.find_yes HXK.out g HP.out
            obtain ⟨hw, ht⟩ := Se.what_some HRE.out hs
            rw [HW.out.1] at hw
            rw [HW.out.2] at ht
            have gc : (x.1 != c) = false := by simp [g]
            by_cases g1 : x.2.1 < r
            · rw [if_pos g1] at hw
              rw [if_neg (by omega)] at ht
              have HF : Hid (wh = 1 ∧ td = ⟨#[]⟩) := ⟨hw, ht⟩
              clear hw ht hs g
              go_wp2
              go_ret3
              rw [HF.out.1, HF.out.2]
              exact ⟨rfl, HB.out.alloc hsz _⟩
            · by_cases g2 : r < x.2.1
              · rw [if_neg g1, if_pos g2] at hw
                rw [if_neg (by omega)] at ht
                have HF : Hid (wh = 3 ∧ td = ⟨#[]⟩) := ⟨hw, ht⟩
                clear hw ht hs g
                go_wp2
                go_ret3
                rw [HF.out.1, HF.out.2]
                exact ⟨rfl, HB.out.alloc hsz _⟩
              · rw [if_neg g1, if_neg g2] at hw
                rw [if_pos (by omega)] at ht
                have HF : Hid (wh = 2 ∧ td = x.2.2) := ⟨hw, ht⟩
                clear hw ht hs g
                go_wp2_with fail
                go_quiet (fail)
                go_wp2
                go_ret3
                rw [HF.out.1, HF.out.2]
                have h3 := HB.out.alloc hsz (BS x)
                exact ⟨rfl, h3.trans ((below_drewN _ _).mono h3.size)⟩
          · have HP2 : Hid (Se.seat l c = Se.seat (l.drop (k + 1)) c) := Se.find_no HXK.out g HP.out
            have gc : (x.1 != c) = true := by simp [g]
            go_wp2
            go_roundw
            case rel => exact ⟨k + 1, by omega, by go_num, HP2, HB.out.alloc hsz _⟩
            case measure => simp [intOf]; omega
        · obtain rfl : k = n := by omega
          have hs := Se.find_end HN.out.symm HP.out
          obtain ⟨hw, ht⟩ := Se.what_none HRE.out hs
          rw [HW.out.1] at hw
          rw [HW.out.2] at ht
          by_cases h6 : k = 6
          · rw [if_pos (HN.out.trans h6)] at hw
            have HF : Hid (wh = 4 ∧ td = ⟨#[]⟩) := ⟨hw, ht⟩
            have h6' : ((k : Int) == 6) = true := by simp; omega
            clear hw ht hs h6
            go_wp2
            go_ret3
            rw [HF.out.1, HF.out.2]
            exact ⟨rfl, HB.out⟩
          · rw [if_neg (by rw [HN.out]; exact h6)] at hw
            have HF : Hid (wh = 1 ∧ td = ⟨#[]⟩) := ⟨hw, ht⟩
            have h6' : ((k : Int) == 6) = false := by rw [beq_eq_false_iff_ne]; omega
            clear hw ht hs h6
            go_wp2
            go_ret3
            rw [HF.out.1, HF.out.2]
            exact ⟨rfl, HB.out⟩
theorem eql_sea (w : World) (x : Sea) : (binOp .neq 48 (VS x) (VS x)).run Try.prog w = .ok (.bool false) w := by
  obtain ⟨x0, x1, x2⟩ := x
  go_simp
set_option maxHeartbeats 1000000 in
theorem seats_same {S T : Nat → Prop} (u v : Value) (l : List Sea) (w : World) (hu : At ES S w u l) (hv : At ES T w v l) :
    Calls Try.prog 13 #[u, v] w fun e w' => e = .returned (.bool true) ∧ Below w.heap.size w w' := by
  obtain ⟨ao, cap, rfl, hm, hx⟩ := hu.wide.open
  obtain ⟨bo, cap', rfl, -, hy⟩ := hv.wide.open
  clear hu hv
  unfold maxLen at hm
  obtain ⟨n, hn⟩ : ∃ n, l.length = n := ⟨_, rfl⟩
  rw [hn] at hm ⊢
  have HN : Hid (l.length = n) := hn
  have HX : Hid (Over w ao l) := hx
  have HY : Hid (Over w bo l) := hy
  clear hn hx hy
  go_enter Try.func13, Try.ntmps13
  go_wp2
  go_loopw [8] (fun i wr => ∃ k : Nat, k ≤ n ∧ i = .int .i64 k ∧ Hid (Below w.heap.size w wr)) (fun i _ => n - (intOf i).toNat)
  case atStart => exact ⟨0, Nat.zero_le _, rfl, Below.refl _ _⟩
  case round =>
    obtain ⟨k, hk, rfl, HB⟩ := hrel
    by_cases hlt : k < n
    · obtain ⟨x, hxk⟩ : ∃ x, l[k]? = some x := ⟨_, List.getElem?_eq_getElem (by rw [HN.out]; exact hlt)⟩
      obtain ⟨b, off, rfl, -, hB, hc⟩ := HX.out k x hxk
      obtain ⟨b', off', rfl, -, hB', hc'⟩ := HY.out k x hxk
      obtain ⟨c0, c1, c2⟩ := sea_cells HB.out hB hc
      obtain ⟨d0, d1, d2⟩ := sea_cells HB.out hB' hc'
      clear hc hc' hxk
      have hlt' : (k : Int) < (n : Int) := by omega
      have hge : decide ((n : Int) ≤ (k : Int)) = false := decide_eq_false (by omega)
      have heq : ∀ w', (binOp .neq 48 (VS x) (VS x)).run Try.prog w' = .ok (.bool false) w' := fun w' => eql_sea w' x
      have HB2 : Hid (∀ q, Below w.heap.size w (wr.drewN q)) := fun q => HB.out.trans ((below_drewN wr q).mono HB.out.size)
      go_wp2_with fail
      go_quiet (fail)
      go_wp2
      go_roundw
      case rel => exact ⟨k + 1, by omega, by go_num, HB2.out _⟩
      case measure => simp [intOf]; omega
    · obtain rfl : k = n := by omega
      go_wp2
      go_ret
      exact ⟨rfl, HB.out⟩
end Go.Proofs.Ytaojdndhhgmdmaa
