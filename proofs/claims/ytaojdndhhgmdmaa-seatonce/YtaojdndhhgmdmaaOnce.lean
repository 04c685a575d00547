/-
  SeatOnce: for every list of requests the call answers true, and the argument reads as before. No condition.
-/
import Derived.Test.YtaojdndhhgmdmaaApart
namespace Go.Proofs.Ytaojdndhhgmdmaa
open Go.ChangeShapes Go.WideShapes Go.ChangeAt Go.RowKit Go.Deep
theorem infoQ : (Try.prog.info? 38).map (fun i => (i.zero, i.size, i.bytes)) = some (some (.agg #[.int .i64 0, .int .i64 0, .string ⟨#[]⟩]), 3, 32) := by kernel_rfl
theorem at_oneQ {w : World} {B : Nat} {x : Sea} (h : w.heap[B]? = some (BQ x)) : AtW ES w (.slice (some ⟨B, 0, none⟩) 1 1) [x] := by
  refine .inr ⟨B, 0, 1, rfl, trivial, (Array.getElem?_eq_some_iff.1 h).1, by simp, by simp, by decide, fun j u hj => ?_⟩
  simp only [World.cell?, h, Nat.zero_add]
  simpa [Enc.flat, ES] using hj
theorem at_twoQ (wr : World) (x : Sea) : AtW ES ((wr.alloc (BQ x)).alloc (BQ x)) (.slice (some ⟨wr.heap.size + 1, 0, none⟩) 1 1) [x] := by
  have h2 := heap_alloc_new (wr.alloc (BQ x)) (BQ x)
  rw [show (wr.alloc (BQ x)).heap.size = wr.heap.size + 1 by simp] at h2
  exact at_oneQ h2
theorem req_new (wr : World) (x : Sea) : Below wr.heap.size wr ((wr.alloc (BQ x)).alloc (BQ x)) := ((Below.refl _ _).alloc (Nat.le_refl _) _).alloc (by simp) _
namespace Se
def knows (P : List Sea) (c : Int) (j : Nat) : Bool := (P.take j).any (fun y => y.1 == c)
theorem knows_in {P : List Sea} {c : Int} {j : Nat} {y : Sea} (h : P[j]? = some y) (hc : y.1 = c) : knows P c (j + 1) = true := by
  unfold knows
  rw [take_at h]
  simp [hc]
theorem knows_out {P : List Sea} {c : Int} {j : Nat} {y : Sea} (h : P[j]? = some y) (hc : y.1 ≠ c) : knows P c (j + 1) = knows P c j := by
  unfold knows
  rw [take_at h]
  simp [hc]
theorem knows_none {P : List Sea} {c : Int} {j : Nat} (h : ∀ y ∈ P, y.1 ≠ c) : knows P c j = false := by
  unfold knows
  refine List.any_eq_false.2 fun y hy => ?_
  have := h y (List.mem_of_mem_take hy)
  simpa using this
end Se
theorem Thr.up {A : Nat} {x : Sea} {w w' : World} (h : Thr A x w) (hb : Below w.heap.size w w') : Thr A x w' := thr_step h hb
set_option maxRecDepth 100000 in
set_option maxHeartbeats 8000000 in
theorem once_any (v : Value) (qs : List Sea) (w : World) (hv : AtW ES w v qs) :
    Calls Try.prog 5 #[v] w fun e w' => e = .returned (.bool true) ∧ Below w.heap.size w w' := by
  obtain ⟨ao, cap, rfl, hm, hx⟩ := hv.open
  clear hv
  unfold maxLen at hm
  obtain ⟨n, hn⟩ : ∃ n, qs.length = n := ⟨_, rfl⟩
  rw [hn] at hm ⊢
  have HN : Hid (qs.length = n) := hn
  have HX : Hid (Over w ao qs) := hx
  obtain ⟨j0, hj, hy0, hy1, hy2⟩ := info_parts infoQ
  clear hn hx
  by_cases h300 : 300 < n
  · have h3 : (300 : Int) < (n : Int) := by omega
    go_enter Try.func5, Try.ntmps5
    go_wp2_with fail
    refine (one_any _).mono ?_
    rintro e w1 ⟨rfl, hb⟩
    go_wp2
    go_ret
    exact ⟨rfl, hb⟩
  have h3 : ¬ (300 : Int) < (n : Int) := by omega
  go_enter Try.func5, Try.ntmps5
  go_wp2
  go_loopw [3, 4, 26] (fun s t i wr => ∃ (k : Nat) (p3 : Option Addr) (n3 q3 : Nat) (p4 : Option Addr) (n4 q4 : Nat) (L P : List Sea), k ≤ n ∧ i = .int .i64 k ∧ s = .slice p3 n3 q3 ∧ t = .slice p4 n4 q4 ∧ Hid (Se.ok L = true) ∧ Hid (P.Perm L) ∧ Hid (AtW ES wr (.slice p3 n3 q3) L) ∧ Hid (AtW ES wr (.slice p4 n4 q4) P) ∧ Hid (Below w.heap.size w wr)) (fun _ _ i _ => n - (intOf i).toNat)
  case atStart => exact ⟨0, none, 0, 0, none, 0, 0, [], [], Nat.zero_le _, rfl, rfl, rfl, (by decide : Se.ok [] = true), List.Perm.refl _, At.nil, At.nil, Below.refl _ _⟩
  case round =>
    obtain ⟨k, p3, n3, q3, p4, n4, q4, L, P, hk, rfl, rfl, rfl, HOK, HPM, HL, HP, HB⟩ := hrel
    have hsz := HB.out.size
    by_cases hlt : k < n
    · obtain ⟨x, hxk⟩ : ∃ x, qs[k]? = some x := ⟨_, List.getElem?_eq_getElem (by rw [HN.out]; exact hlt)⟩
      obtain ⟨b, off, rfl, -, hB, hc⟩ := HX.out k x hxk
      obtain ⟨c0, c1, c2⟩ := sea_cells HB.out hB hc
      clear hc hxk
      have hlt' : (k : Int) < (n : Int) := by omega
      obtain ⟨W, hW⟩ : ∃ W, W = wr.alloc (BQ x) := ⟨_, rfl⟩
      have HBW : Hid (Below wr.heap.size wr W) := by show Below wr.heap.size wr W; rw [hW]; exact (Below.refl _ wr).alloc (Nat.le_refl _) _
      have HA0 : Hid (Thr wr.heap.size x W) := by show Thr wr.heap.size x W; rw [hW]; exact req_of (heap_alloc_new wr (BQ x))
      have HBw : Hid (Below w.heap.size w W) := HB.out.trans (HBW.out.mono HB.out.size)
      have HLW : Hid (AtW ES W (.slice p3 n3 q3) L) := HL.out.up HBW.out
      have HPW : Hid (AtW ES W (.slice p4 n4 q4) P) := HP.out.up HBW.out
      have HN3 : Hid (n3 = L.length) := HL.out.lenq
      have HN4 : Hid (n4 = P.length) := HP.out.lenq
      have hn36 : n3 ≤ 6 := by rw [HN3.out]; exact Se.ok_len HOK.out
      have hn46 : n4 ≤ 6 := by rw [HN4.out, HPM.out.length_eq]; exact Se.ok_len HOK.out
      have HMEM : Hid (∀ y, y ∈ P ↔ y ∈ L) := fun y => HPM.out.mem_iff
      obtain ⟨A, hA⟩ : ∃ A, wr.heap.size = A := ⟨_, rfl⟩
      obtain ⟨z0, z1, z2⟩ := HA0.out
      clear HL HP HB
      by_cases hp : Se.putErr L x.1 x.2.1 x.2.2 = 0
      · have HF : Hid (Se.putErr L x.1 x.2.1 x.2.2 = 0) := hp
        clear hp
        go_wp2_with fail
        simp only [← hW]
        go_wp2_with fail
        refine (put_any _ L x.1 x.2.1 x.2.2 _ HLW.out).mono ?_
        rintro e w1 ⟨p7, n7, q7, rfl, hu, hb⟩
        rw [HF.out]
        have HB1 : Hid (Below w.heap.size w w1) := HBw.out.trans (hb.mono HBw.out.size)
        have HL1 : Hid (AtW ES w1 (.slice p3 n3 q3) L) := HLW.out.up hb
        have HP1 : Hid (AtW ES w1 (.slice p4 n4 q4) P) := HPW.out.up hb
        have HU0 : Hid (AtW ES w1 (.slice p7 n7 q7) (Se.put L x.1 x.2.1 x.2.2)) := hu.wide
        have HT1 : Hid (Thr A x w1) := by rw [← hA]; exact HA0.out.up hb
        obtain ⟨pa1, pcap1, hpe1, -, hpx1⟩ := HP1.out.open
        have HPX1 : Hid (Over w1 p4 P) := by
          simp only [Value.slice.injEq] at hpe1
          rw [hpe1.1]
          exact hpx1
        clear hpe1 hpx1 hb hu z0 z1 z2 hW HA0 HBW hA
        have HU1 : Hid (AtW ES w1 (.slice p7 n7 q7) (Se.putL L x)) := by rw [← Se.put_eq HF.out]; exact HU0.out
        have HN7 : Hid (n7 = (Se.putL L x).length) := HU1.out.lenq
        have HOK7 : Hid (Se.ok (Se.putL L x) = true) := Se.putL_ok HF.out
        have hn7 : n7 ≤ 6 := by rw [HN7.out]; exact Se.ok_len HOK7.out
        clear HU0
        go_wp2
        go_loopw [9, 43] (fun s i wr => ∃ (j : Nat) (kb : Bool), j ≤ n4 ∧ i = .int .i64 j ∧ s = .bool kb ∧ Hid (kb = Se.knows P x.1 j) ∧ Hid (Below w1.heap.size w1 wr)) (fun _ i _ => n4 - (intOf i).toNat)
        case atStart => exact ⟨0, false, Nat.zero_le _, rfl, rfl, rfl, Below.refl _ _⟩
        case round =>
          obtain ⟨j, kb, hj4, rfl, rfl, HKN, HB2⟩ := hrel
          have hsz2 := HB2.out.size
          obtain ⟨z0, z1, z2⟩ := HT1.out.up HB2.out
          have hzl := cell_lt z0
          by_cases hlj : j < n4
          · obtain ⟨y, hyk⟩ : ∃ y, P[j]? = some y := ⟨_, List.getElem?_eq_getElem (by rw [← HN4.out]; exact hlj)⟩
            have HYK : Hid (P[j]? = some y) := hyk
            obtain ⟨b2, off2, rfl, -, hB2, hc2⟩ := HPX1.out j y hyk
            obtain ⟨d0, d1, d2⟩ := sea_cells HB2.out hB2 hc2
            clear hc2 hyk
            have hlj' : (j : Int) < (n4 : Int) := by omega
            rw [← cell_older hzl (BQ y)] at z0 z1 z2
            by_cases g : y.1 = x.1
            · have HG : Hid (Se.knows P x.1 (j + 1) = true) := Se.knows_in HYK.out g
              have gc : (y.1 == x.1) = true := by simp [g]
              have hri : ¬ x.2.1 ≤ y.2.1 := by have := Se.rises HF.out ((HMEM.out y).1 (List.mem_of_getElem? HYK.out)) g; omega
              clear g
              cases kb <;>
              · go_wp2
                go_roundw
                case rel => exact ⟨j + 1, true, by omega, by go_num, rfl, HG.out.symm, HB2.out.alloc hsz2 _⟩
                case measure => simp [intOf]; omega
            · have HG : Hid (Se.knows P x.1 (j + 1) = Se.knows P x.1 j) := Se.knows_out HYK.out g
              have gc : (y.1 == x.1) = false := beq_eq_false_iff_ne.2 g
              clear g
              cases kb <;>
              · go_wp2
                go_roundw
                case rel => exact ⟨j + 1, _, by omega, by go_num, rfl, HKN.out.trans HG.out.symm, HB2.out.alloc hsz2 _⟩
                case measure => simp [intOf]; omega
          · obtain rfl : n4 = j := by omega
            clear HKN
            obtain ⟨wE, hwE⟩ : ∃ wE, wE = wr := ⟨_, rfl⟩
            have HPE : Hid (AtW ES wE (.slice p4 n4 q4) P) := by rw [hwE]; exact HP1.out.up HB2.out
            have HUE : Hid (AtW ES wE (.slice p7 n7 q7) (Se.putL L x)) := by rw [hwE]; exact HU1.out.up HB2.out
            have HTE : Hid (Thr A x wE) := by rw [hwE]; exact HT1.out.up HB2.out
            have HBE : Hid (Below w.heap.size w wE) := by rw [hwE]; exact HB1.out.trans (HB2.out.mono HB1.out.size)
            obtain ⟨pa, pcap, hpe, -, hpx⟩ := HPE.out.open
            have HPX : Hid (Over wE p4 P) := by
              simp only [Value.slice.injEq] at hpe
              rw [hpe.1]
              exact hpx
            clear hpe hpx
            rw [← hwE]
            clear hwE HB2 z0 z1 z2
            go_wp2
            go_loopw [12, 96] (fun s i wr => ∃ (j : Nat) (pp : Option Addr) (jj q : Nat), j ≤ n4 ∧ i = .int .i64 j ∧ s = .slice pp jj q ∧ Hid (Row ES wr wE.heap.size 38 (.slice pp jj q) (Se.rest P x.1 j)) ∧ Hid (Below wE.heap.size wE wr)) (fun _ i _ => n4 - (intOf i).toNat)
            case atStart => exact ⟨0, none, 0, 0, Nat.zero_le _, rfl, rfl, Row.nil _ _ _ _, Below.refl _ _⟩
            case round =>
              obtain ⟨j, pp, jj, q, hj4, rfl, rfl, HR, HB3⟩ := hrel
              have hsz3 := HB3.out.size
              obtain ⟨z0, z1, z2⟩ := HTE.out.up HB3.out
              have hzl := cell_lt z0
              by_cases hlj : j < n4
              · obtain ⟨y, hyk⟩ : ∃ y, P[j]? = some y := ⟨_, List.getElem?_eq_getElem (by rw [← HN4.out]; exact hlj)⟩
                have HYK : Hid (P[j]? = some y) := hyk
                obtain ⟨b2, off2, rfl, -, hB2, hc2⟩ := HPX.out j y hyk
                obtain ⟨d0, d1, d2⟩ := sea_cells HB3.out hB2 hc2
                clear hc2 hyk
                have hlj' : (j : Int) < (n4 : Int) := by omega
                rw [← cell_older hzl (BQ y)] at z0 z1 z2
                by_cases g : y.1 = x.1
                · have HG : Hid (Se.rest P x.1 (j + 1) = Se.rest P x.1 j) := Se.filter_out HYK.out (by simp [g])
                  have gc : (y.1 != x.1) = false := by simp [g]
                  clear g
                  go_wp2
                  go_roundw
                  case rel => exact ⟨j + 1, pp, jj, q, by omega, by go_num, rfl, by rw [HG.out]; exact HR.out.up ((Below.refl _ _).alloc (Nat.le_refl _) _), HB3.out.alloc hsz3 _⟩
                  case measure => simp [intOf]; omega
                · have HG : Hid (Se.rest P x.1 (j + 1) = Se.rest P x.1 j ++ [y]) := Se.filter_in HYK.out (by simp [g])
                  have gc : (y.1 != x.1) = true := by simp [g]
                  clear g
                  have HLEN : Hid ((Se.rest P x.1 j).length ≤ j) := Se.rest_len P x.1 j
                  have HR3 : Hid (Row ES ((wr.alloc (BQ y)).alloc (BQ y)) wE.heap.size 38 (.slice pp jj q) (Se.rest P x.1 j)) := HR.out.up (req_new wr y)
                  have HB4 : Hid (Below wE.heap.size wE ((wr.alloc (BQ y)).alloc (BQ y))) := (HB3.out.alloc hsz3 _).alloc (by simp; omega) _
                  have HO2 : Hid (AtW ES ((wr.alloc (BQ y)).alloc (BQ y)) (.slice (some ⟨wr.heap.size + 1, 0, none⟩) 1 1) [y]) := at_twoQ wr y
                  go_wp2_with (at_builtin; refine wpList_row _ rfl _ _ 42 rfl ES (fun _ => True) wE.heap.size 38 j0 _ 32 Try.underlying42 hj hy0 hy1 hy2 rfl _ (Se.rest P x.1 j) rfl HR3.out _ [y] rfl HO2.out (by have := HLEN.out; unfold maxLen; simp only [List.length_cons, List.length_nil]; omega) (by have := HLEN.out; simp only [List.length_cons, List.length_nil]; omega) (by simp; omega) ?_; intro v8 w8 hrow8 hg8 hloc8; have HEND : Hid (Row ES w8 wE.heap.size 38 v8 (Se.rest P x.1 (j + 1)) ∧ Below wE.heap.size wE w8) := ⟨by rw [HG.out]; exact hrow8, HB4.out.grown hg8 (by simp; omega) (fun k hk => (HR3.out.lt k hk).1)⟩; clear hrow8 hg8 hloc8; obtain ⟨p8, n8, c8, rfl⟩ := HEND.out.1.slice3)
                  go_wp2
                  go_roundw
                  case rel => exact ⟨j + 1, p8, n8, c8, by omega, by go_num, rfl, HEND.out.1, HEND.out.2⟩
                  case measure => simp [intOf]; omega
              · obtain rfl : j = n4 := by omega
                have HLEN : Hid ((Se.rest P x.1 j).length ≤ j) := Se.rest_len P x.1 j
                have HPP : Hid ((Se.rest P x.1 j ++ [x]).Perm (Se.putL L x)) := by
                  have e : Se.rest P x.1 j = P.filter (fun y => !(y.1 == x.1)) := by
                    show (P.take j).filter _ = _
                    rw [HN4.out, List.take_length]
                  show (Se.rest P x.1 j ++ [x]).Perm (Se.putL L x)
                  rw [e]
                  exact Se.put_perm HPM.out
                have HR3 : Hid (Row ES (wr.alloc (BQ x)) wE.heap.size 38 (.slice pp jj q) (Se.rest P x.1 j)) := HR.out.up ((Below.refl _ _).alloc (Nat.le_refl _) _)
                have HB4 : Hid (Below wE.heap.size wE (wr.alloc (BQ x))) := HB3.out.alloc hsz3 _
                have HO2 : Hid (AtW ES (wr.alloc (BQ x)) (.slice (some ⟨wr.heap.size, 0, none⟩) 1 1) [x]) := at_oneQ (heap_alloc_new wr _)
                obtain ⟨PP, hPP⟩ : ∃ PP, Se.rest P x.1 j ++ [x] = PP := ⟨_, rfl⟩
                rw [hPP] at HPP
                have HEP : Hid (Se.rest P x.1 j ++ [x] = PP) := hPP
                clear hPP
                go_wp2_with (at_builtin; refine wpList_row _ rfl _ _ 42 rfl ES (fun _ => True) wE.heap.size 38 j0 _ 32 Try.underlying42 hj hy0 hy1 hy2 rfl _ (Se.rest P x.1 j) rfl HR3.out _ [x] rfl HO2.out (by have := HLEN.out; unfold maxLen; simp only [List.length_cons, List.length_nil]; omega) (by have := HLEN.out; simp only [List.length_cons, List.length_nil]; omega) (by simp; omega) ?_; intro v9 wF hrow9 hg9 hloc9; have HRF : Hid (Row ES wF wE.heap.size 38 v9 PP ∧ Below wE.heap.size wE wF) := ⟨by rw [← HEP.out]; exact hrow9, HB4.out.grown hg9 (by simp; omega) (fun k hk => (HR3.out.lt k hk).1)⟩; clear hrow9 hg9 hloc9; obtain ⟨p9, n9, c9, rfl⟩ := HRF.out.1.slice3; have h79 : n9 = n7 := by { rw [HRF.out.1.at.lenq, HN7.out]; exact HPP.out.length_eq }; subst h79; have hneq : ((n9 : Int) != (n9 : Int)) = false := by simp)
                have HPF : Hid (AtW ES wF (.slice p9 n9 c9) PP) := HRF.out.1.at.wide
                have HUF : Hid (AtW ES wF (.slice p7 n9 q7) (Se.putL L x)) := HUE.out.up HRF.out.2
                have HBF : Hid (Below w.heap.size w wF) := HBE.out.trans (HRF.out.2.mono HBE.out.size)
                have HNF : Hid (n9 = PP.length) := HPF.out.lenq
                have HMF : Hid (∀ y ∈ PP, y ∈ Se.putL L x) := fun y hy => HPP.out.mem_iff.1 hy
                obtain ⟨pb, pcap9, hpe9, -, hpx9⟩ := HPF.out.open
                have HPX9 : Hid (Over wF p9 PP) := by
                  simp only [Value.slice.injEq] at hpe9
                  rw [hpe9.1]
                  exact hpx9
                clear hpe9 hpx9 HR HB3 HR3 HB4 HO2 z0 z1 z2 hzl hsz3
                go_loopw [127] (fun i wr => ∃ m : Nat, m ≤ n9 ∧ i = .int .i64 m ∧ Hid (Below wF.heap.size wF wr)) (fun i _ => n9 - (intOf i).toNat)
                case atStart => exact ⟨0, Nat.zero_le _, rfl, Below.refl _ _⟩
                case round =>
                  obtain ⟨m, hm9, rfl, HB5⟩ := hrel
                  have hsz5 := HB5.out.size
                  by_cases hlm : m < n9
                  · obtain ⟨y, hyk⟩ : ∃ y, PP[m]? = some y := ⟨_, List.getElem?_eq_getElem (by rw [← HNF.out]; exact hlm)⟩
                    have HTO : Hid (Se.what (Se.putL L x) y.1 y.2.1 = 2 ∧ Se.told (Se.putL L x) y.1 y.2.1 = y.2.2 ∧ Se.rErr (Se.putL L x) y.1 y.2.1 = 0) := Se.told_of HOK7.out (HMF.out y (List.mem_of_getElem? hyk))
                    obtain ⟨b2, off2, rfl, -, hB2, hc2⟩ := HPX9.out m y hyk
                    obtain ⟨d0, d1, d2⟩ := sea_cells HB5.out hB2 hc2
                    clear hc2 hyk
                    have hlm' : (m : Int) < (n9 : Int) := by omega
                    have hst : (y.2.2.toList != y.2.2.toList) = false := by simp
                    obtain ⟨W5, hW5⟩ : ∃ W5, W5 = wr.alloc (BQ y) := ⟨_, rfl⟩
                    have HBW5 : Hid (Below wF.heap.size wF W5) := by rw [hW5]; exact HB5.out.alloc hsz5 _
                    have HTY : Hid (Thr wr.heap.size y W5) := by rw [hW5]; exact req_of (heap_alloc_new wr (BQ y))
                    obtain ⟨f0, f1, f2⟩ := HTY.out
                    go_wp2_with fail
                    simp only [← hW5]
                    go_wp2_with fail
                    refine (ask_any _ (Se.putL L x) y.1 y.2.1 _ (HUF.out.up HBW5.out)).mono ?_
                    rintro e w6 ⟨rfl, hb6⟩
                    rw [HTO.out.1, HTO.out.2.1, HTO.out.2.2]
                    have HB6 : Hid (Below wF.heap.size wF w6) := HBW5.out.trans (hb6.mono HBW5.out.size)
                    obtain ⟨g0, g1, g2⟩ := HTY.out.up hb6
                    clear hb6 f0 f1 f2 hW5
                    go_wp2
                    go_roundw
                    case rel => exact ⟨m + 1, by omega, by go_num, HB6.out⟩
                    case measure => simp [intOf]; omega
                  · obtain rfl : m = n9 := by omega
                    have HEND : Hid (AtW ES wr (.slice p7 m q7) (Se.putL L x) ∧ AtW ES wr (.slice p9 m c9) PP ∧ Below w.heap.size w wr) := ⟨HUF.out.up HB5.out, HPF.out.up HB5.out, HBF.out.trans (HB5.out.mono HBF.out.size)⟩
                    go_wp2
                    go_roundw
                    case rel => exact ⟨k + 1, p7, m, q7, p9, m, c9, Se.putL L x, PP, by omega, by go_num, rfl, rfl, HOK7.out, HPP.out, HEND.out.1, HEND.out.2.1, HEND.out.2.2⟩
                    case measure => simp [intOf]; omega
      · obtain ⟨pe, hpe⟩ : ∃ pe, Se.putErr L x.1 x.2.1 x.2.2 = pe := ⟨_, rfl⟩
        have HPN : Hid (Se.put L x.1 x.2.1 x.2.2 = []) := Se.put_none hp
        rw [hpe] at hp
        have hne : (pe != 0) = true := by simpa using hp
        have hne2 : (pe == 0) = false := by simpa using hp
        have HF : Hid (Se.putErr L x.1 x.2.1 x.2.2 = pe) := hpe
        clear hp hpe
        go_wp2_with fail
        simp only [← hW]
        go_wp2_with fail
        refine (put_any _ L x.1 x.2.1 x.2.2 _ HLW.out).mono ?_
        rintro e w1 ⟨p7, n7, q7, rfl, hu, hb⟩
        rw [HF.out]
        have HB1 : Hid (Below w.heap.size w w1) := HBw.out.trans (hb.mono HBw.out.size)
        have HL1 : Hid (AtW ES w1 (.slice p3 n3 q3) L) := HLW.out.up hb
        have HP1 : Hid (AtW ES w1 (.slice p4 n4 q4) P) := HPW.out.up hb
        have HU0 : Hid (AtW ES w1 (.slice p7 n7 q7) (Se.put L x.1 x.2.1 x.2.2)) := hu.wide
        have HT1 : Hid (Thr A x w1) := by rw [← hA]; exact HA0.out.up hb
        obtain ⟨pa1, pcap1, hpe1, -, hpx1⟩ := HP1.out.open
        have HPX1 : Hid (Over w1 p4 P) := by
          simp only [Value.slice.injEq] at hpe1
          rw [hpe1.1]
          exact hpx1
        clear hpe1 hpx1 hb hu z0 z1 z2 hW HA0 HBW hA
        obtain rfl : n7 = 0 := by have := HU0.out.lenq; rwa [HPN.out] at this
        clear HU0
        go_wp2
        go_loopw [9, 43] (fun s i wr => ∃ (j : Nat) (kb : Bool), j ≤ n4 ∧ i = .int .i64 j ∧ s = .bool kb ∧ Hid (kb = Se.knows P x.1 j) ∧ Hid (Below w1.heap.size w1 wr)) (fun _ i _ => n4 - (intOf i).toNat)
        case atStart => exact ⟨0, false, Nat.zero_le _, rfl, rfl, rfl, Below.refl _ _⟩
        case round =>
          obtain ⟨j, kb, hj4, rfl, rfl, HKN, HB2⟩ := hrel
          have hsz2 := HB2.out.size
          obtain ⟨z0, z1, z2⟩ := HT1.out.up HB2.out
          have hzl := cell_lt z0
          by_cases hlj : j < n4
          · obtain ⟨y, hyk⟩ : ∃ y, P[j]? = some y := ⟨_, List.getElem?_eq_getElem (by rw [← HN4.out]; exact hlj)⟩
            have HYK : Hid (P[j]? = some y) := hyk
            obtain ⟨b2, off2, rfl, -, hB2, hc2⟩ := HPX1.out j y hyk
            obtain ⟨d0, d1, d2⟩ := sea_cells HB2.out hB2 hc2
            clear hc2 hyk
            have hlj' : (j : Int) < (n4 : Int) := by omega
            rw [← cell_older hzl (BQ y)] at z0 z1 z2
            by_cases g : y.1 = x.1
            · have HG : Hid (Se.knows P x.1 (j + 1) = true) := Se.knows_in HYK.out g
              have gc : (y.1 == x.1) = true := by simp [g]
              clear g
              cases kb <;>
              · go_wp2
                go_roundw
                case rel => exact ⟨j + 1, true, by omega, by go_num, rfl, HG.out.symm, HB2.out.alloc hsz2 _⟩
                case measure => simp [intOf]; omega
            · have HG : Hid (Se.knows P x.1 (j + 1) = Se.knows P x.1 j) := Se.knows_out HYK.out g
              have gc : (y.1 == x.1) = false := beq_eq_false_iff_ne.2 g
              clear g
              cases kb <;>
              · go_wp2
                go_roundw
                case rel => exact ⟨j + 1, _, by omega, by go_num, rfl, HKN.out.trans HG.out.symm, HB2.out.alloc hsz2 _⟩
                case measure => simp [intOf]; omega
          · obtain rfl : n4 = j := by omega
            have HEND : Hid (AtW ES wr (.slice p3 n3 q3) L ∧ AtW ES wr (.slice p4 n4 q4) P ∧ Below w.heap.size w wr) := ⟨HL1.out.up HB2.out, HP1.out.up HB2.out, HB1.out.trans (HB2.out.mono HB1.out.size)⟩
            by_cases h412 : pe = 412
            · subst h412
              obtain ⟨hl6, hno⟩ := Se.fullErr HF.out
              obtain rfl : n3 = 6 := HN3.out.trans hl6
              obtain rfl : kb = false := HKN.out.trans (Se.knows_none fun y hy => hno y ((HMEM.out y).1 hy))
              clear hl6 hno
              go_wp2
              go_roundw
              case rel => exact ⟨k + 1, p3, 6, q3, p4, n4, q4, L, P, by omega, by go_num, rfl, rfl, HOK.out, HPM.out, HEND.out.1, HEND.out.2.1, HEND.out.2.2⟩
              case measure => simp [intOf]; omega
            · have h412' : (pe == 412) = false := beq_eq_false_iff_ne.2 h412
              clear h412
              go_wp2
              go_roundw
              case rel => exact ⟨k + 1, p3, n3, q3, p4, n4, q4, L, P, by omega, by go_num, rfl, rfl, HOK.out, HPM.out, HEND.out.1, HEND.out.2.1, HEND.out.2.2⟩
              case measure => simp [intOf]; omega
    · obtain rfl : k = n := by omega
      go_wp2_with fail
      refine (one_any _).mono ?_
      rintro e w1 ⟨rfl, hb⟩
      have HB1 : Hid (Below w.heap.size w w1) := HB.out.trans (hb.mono HB.out.size)
      clear hb
      go_wp2
      go_ret
      exact ⟨rfl, HB1.out⟩

set_option maxRecDepth 100000 in
theorem seatOnce_lifted (os : Os) (started : os.Started) (H : Type) (enc : TypeId × Value → H) :
    ReturnsInHanded {} Try.checked os 5 .any (Rows.seatOnceSpec.pre6 enc Try.prog Try.f5 Rows.seatOnceRow.domain false) (Rows.seatOnceSpec.post enc Try.prog Try.f5 false true false false) := by
  refine returnsInHanded_of_change_sized (C := Try.checked) own started (by kernel_rfl) Try.func5
    (ChangeSpec.witness6 (enc := enc) (C := Try.checked) false ⟨#[], #[.slice none 0 0], []⟩ 8 (by kernel_rfl) (by kernel_rfl) (by kernel_rfl) (by kernel_rfl)) ?_
  intro W base args ds gs before hval0 hW hcnd hsized _
  have hval : ∀ (j : Nat) t v, Try.f5.params[j]? = some t → args[j]? = some v → Value.okWide Try.prog W .any base t v := hval0
  have hW' := hW
  obtain ⟨p, q, hA0, hV, rfl, hfz, hnd⟩ := hW
  have hA : DataW.TrodAll enc Try.prog W 0 (fun _ => true) true Try.f5.params.toList args.toList ds p := hA0
  rw [Try.params5] at hA hval
  obtain ⟨v0, d0, rfl, rfl, h0⟩ := trodAll_one hA
  obtain ⟨rfl, rfl⟩ := trodVars_none hV
  obtain ⟨l, hl⟩ := open_asks (okWide_slice Try.underlying42 (hval 0 42 v0 rfl rfl)) h0
  refine (once_any v0 l W hl).mono fun e W' ⟨he, hg⟩ => ⟨_, he, ?_⟩
  exact Law.post laidOut (by kernel_rfl) rfl Try.underlying4 hW' rfl rfl hg

theorem seatOnce_holds : Rows.SeatOnceSaid :=
  OpenClaim.holds_of_wide 5 Try.f5 rfl rfl rfl rfl rfl rfl rfl ⟨rfl, rfl, rfl, rfl, rfl⟩ rfl rfl rfl rfl rfl (by kernel_rfl) Try.func5 (by kernel_rfl)
    (of_decide_eq_true (by kernel_rfl)) (by unfold Func.isWrapper; first | (rw [if_pos (by decide +kernel)]; kernel_rfl) | (rw [if_neg (by decide +kernel)]; exact ⟨rfl, rfl⟩))
    (fun os started H enc _ => seatOnce_lifted os started H enc)
#print axioms seatOnce_holds
end Go.Proofs.Ytaojdndhhgmdmaa
