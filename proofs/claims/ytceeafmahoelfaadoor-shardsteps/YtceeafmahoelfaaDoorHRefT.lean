/-
  The document's Text.
-/
import Derived.Test.YtceeafmahoelfaaDoorHRefA
namespace Go.Proofs.YtceeafmahoelfaaDoor
open Go.ChangeShapes Go.WideShapes Go.ChangeAt Go.RowKit

theorem Sh.cat_len {f : Nat → ByteArray} (hf : ∀ i, (f i).size ≤ 256) : ∀ k, (Sh.cat f k).length ≤ k * 256
  | 0 => by simp [Sh.cat]
  | k + 1 => by
    rw [Sh.cat_succ, List.length_append]
    have := hf k
    have h2 : (f k).data.toList.length = (f k).size := by simp
    have := Sh.cat_len hf k
    omega
theorem Sh.gatL_take (L : List Sh.Sd) (i j : Nat) : (Sh.gatL (L.take j) i).length ≤ (Sh.gatL L i).length := by
  conv => rhs; rw [← List.take_append_drop j L, Sh.gatL_append, List.length_append]
  omega
theorem Sh.gatL_step {L : List Sh.Sd} {j : Nat} {s : Sh.Sd} (h : L[j]? = some s) (i : Nat) : Sh.gatL (L.take (j + 1)) i = Sh.gatL (L.take j) i ++ (if s.number = (i : Int) then s.data.data.toList else []) := by
  rw [List.take_add_one, h, Sh.gatL_append]
  congr 1
  exact Sh.gatL_one s i
theorem Sh.ba_ext2 {a b : ByteArray} (h : a.data.toList = b.data.toList) : a = b := by
  cases a
  cases b
  simp only at h
  congr 1
  exact Array.toList_inj.1 h
theorem ba_append (a b : ByteArray) : (a ++ b).data.toList = a.data.toList ++ b.data.toList := by rw [ByteArray.data_append, Array.toList_append]
set_option maxRecDepth 100000 in
set_option maxRecDepth 100000 in
set_option maxHeartbeats 2000000 in
theorem rtext_any (B R : Nat) (m : Sh.Mf) (L : List Sh.Sd) (w : World) (hR : RAt w B R m L) (hL : L.length ≤ 256) (hm : Sh.okM m = true) (hne : ∀ s ∈ L, s.data.size ≠ 0) (hf : ∀ i, (Sh.gat L i).size ≤ 256) : Calls Tryd.prog 19 #[.pointer (some ⟨R, 0, none⟩)] w fun e w' => e = .returned (.tuple #[.string (Sh.txt m (Sh.gat L)), .int .i64 (Sh.txtE m (Sh.gat L))]) ∧ Below w.heap.size w w' := by
  obtain ⟨k0, hk0, _, hk2⟩ := Sh.okM_size hm
  have HR : Hid (RAt w B R m L) := hR
  have HM : Hid (Sh.okM m = true) := hm
  have HNE : Hid (∀ s ∈ L, s.data.size ≠ 0) := hne
  have HF : Hid (∀ i, (Sh.gat L i).size ≤ 256) := hf
  have hkk : m.size.toNat = k0 := by omega
  have HK0 : Hid (m.size = k0) := hk0
  have hcl : Sh.cnt k0 ≤ 256 := Sh.cnt_le hk2
  have HLE : Hid (k0 ≤ 65535) := hk2
  have HG1 : Hid (Sh.gap (Sh.gat L) (Sh.cnt m.size.toNat) = true → Sh.txtE m (Sh.gat L) = 7) := Sh.txtE_gap
  have HG2 : Hid (Sh.gap (Sh.gat L) (Sh.cnt m.size.toNat) = false → Sh.txtE m (Sh.gat L) = if (Sh.jn (Sh.gat L) (Sh.cnt m.size.toNat) : Int) = m.sum then 0 else 20) := Sh.txtE_full
  have HX1 : Hid (Sh.txtE m (Sh.gat L) = 0 → Sh.txt m (Sh.gat L) = ⟨(Sh.cat (Sh.gat L) (Sh.cnt m.size.toNat)).toArray⟩) := fun h => by unfold Sh.txt; rw [if_pos h]
  have HX2 : Hid (Sh.txtE m (Sh.gat L) ≠ 0 → Sh.txt m (Sh.gat L) = ⟨#[]⟩) := fun h => by unfold Sh.txt; rw [if_neg h]
  have HMI : Hid (∀ v : World, RAt v B R m L → Calls Tryd.prog 22 #[.pointer (some ⟨R, 0, none⟩)] v fun e w' => ∃ u n, e = .returned u ∧ w'.ownsRow v.heap.size 3 1 u n ((Sh.mis (Sh.gat L) (Sh.cnt m.size.toNat)).map (Value.int .i64)) ∧ Below v.heap.size v w') := fun v hv => rmissing_any B R m L v hv hL hm hne
  rw [hkk] at HG1 HG2 HX1 HMI
  clear hR hne hkk hm hk0 hf
  obtain ⟨cc, hcc⟩ : ∃ cc, Sh.cnt k0 = cc := ⟨_, rfl⟩
  have HCC : Hid (Sh.cnt k0 = cc) := hcc
  rw [hcc] at hcl HG1 HG2 HX1 HMI
  clear hcc
  go_enter Tryd.func19, Tryd.ntmps19
  go_wp2_with fail
  refine (HMI.out _ HR.out).mono ?_
  rintro e w1 ⟨u, n, rfl, hown, hb1⟩
  have hln : n = (Sh.mis (Sh.gat L) cc).length := by have := hown.1; simp at this; omega
  have HB1 : Hid (Below w.heap.size w w1) := hb1
  have HR1 : Hid (RAt w1 B R m L) := HR.out.up hb1
  obtain ⟨p, c, rfl⟩ : ∃ p c, u = .slice p n c := by
    rcases hown.2 with ⟨rfl, rfl⟩ | ⟨g, cap, cur, rfl, _⟩
    · exact ⟨_, _, rfl⟩
    · exact ⟨_, _, rfl⟩
  clear hown hb1 HR HMI
  by_cases hg : n = 0
  · have HGP : Hid (Sh.gap (Sh.gat L) cc = false) := show Sh.gap (Sh.gat L) cc = false by unfold Sh.gap; rw [← hln]; simp [hg]
    subst hg
    clear hln
    go_wp2
    go_loopw [4, 5] (fun o u wr => ∃ (k : Nat) (O : ByteArray), k ≤ cc ∧ u = .int .i64 k ∧ o = .string O ∧ Hid (O.data.toList = Sh.cat (Sh.gat L) k) ∧ Hid (Below w1.heap.size w1 wr)) (fun _ u _ => cc - (intOf u).toNat)
    case atStart => exact ⟨0, ⟨#[]⟩, Nat.zero_le _, rfl, rfl, rfl, Below.refl _ _⟩
    case round =>
      obtain ⟨k, O, hk, rfl, rfl, HO, HBL⟩ := hrel
      have HRr : Hid (RAt wr B R m L) := HR1.out.up HBL.out
      obtain ⟨hRl, p9, c9, c0, c1, c2, c3, hrw⟩ := HRr.out.open
      have HRW : Hid (Row SE wr B 34 (.slice p9 L.length c9) L) := hrw
      rw [HK0.out] at c1
      clear hrw
      by_cases hlt : k < cc
      · have hp := (Sh.psz_pos (n := k0) (k := k) (by rw [HCC.out]; exact hlt)).1
        go_wp2_with fail
        refine (length_any k0 k _ HLE.out).mono ?_
        rintro e w2 ⟨rfl, rfl⟩
        generalize Sh.psz k0 k = z at *
        clear c0 c1 c2
        obtain ⟨l, hl⟩ : ∃ l, L.length = l := ⟨_, rfl⟩
        rw [hl] at c3 HRW hL
        have HLL : Hid (L.length = l) := hl
        clear hl
        go_wp2
        clear c3
        go_loopw [4, 27] (fun o u ws => ∃ (j : Nat) (O2 : ByteArray), j ≤ l ∧ u = .int .i64 j ∧ o = .string O2 ∧ Hid (O2.data.toList = Sh.cat (Sh.gat L) k ++ Sh.gatL (L.take j) k) ∧ Hid (Below w2.heap.size w2 ws)) (fun _ u _ => l - (intOf u).toNat)
        case atStart => exact ⟨0, O, Nat.zero_le _, rfl, rfl, show O.data.toList = _ by rw [HO.out]; simp [Sh.gatL], Below.refl _ _⟩
        case round =>
          obtain ⟨j, O2, hj, rfl, rfl, HO2, HBL2⟩ := hrel
          by_cases hltj : j < l
          · obtain ⟨y, hy⟩ : ∃ y, L[j]? = some y := ⟨_, List.getElem?_eq_getElem (by rw [HLL.out]; exact hltj)⟩
            obtain ⟨g1, cp1, hv1, _, hg1, x0, x1, x2, x3⟩ := (HRW.out.up HBL2.out).elem hy
            rw [HLL.out] at hv1
            cases hv1
            have hltI : (j : Int) < (l : Int) := by omega
            have hj0 : (0 : Int) ≤ (j : Int) := by omega
            have HST : Hid (Sh.gatL (L.take (j + 1)) k = Sh.gatL (L.take j) k ++ (if y.number = (k : Int) then y.data.data.toList else [])) := Sh.gatL_step hy k
            obtain ⟨yo, yn, yd, yk⟩ := y
            simp only at x0 x1 x2 x3 HST
            clear hy
            by_cases hn : yn = (k : Int)
            · have hn' : (yn == (k : Int)) = true := by simpa using hn
              have hO2 : (O2.size : Int) + (yd.size : Int) ≤ 131072 := by
                have h1 := Sh.cat_len HF.out k
                have h2 := Sh.gatL_take L k (j + 1)
                have h3 := HF.out k
                rw [Sh.gat_size] at h3
                rw [HST.out, if_pos hn, List.length_append] at h2
                have h4 : O2.data.toList.length = O2.size := by simp
                have h5 : yd.data.toList.length = yd.size := by simp
                rw [HO2.out, List.length_append] at h4
                omega
              have HO3 : Hid ((O2 ++ yd).data.toList = Sh.cat (Sh.gat L) k ++ Sh.gatL (L.take (j + 1)) k) := show (O2 ++ yd).data.toList = _ by
                rw [ba_append, HO2.out, HST.out, if_pos hn, List.append_assoc]
              have hsz1 : ¬ 9223372036854775807 < O2.size + yd.size := by omega
              have hsz2 : O2.size + yd.size ≤ 9223372036854775807 := by omega
              clear hn
              go_wp2
              go_roundw
              case rel => exact ⟨j + 1, O2 ++ yd, by omega, by go_num, rfl, HO3, bup HBL2.out (below_alloc _ _)⟩
              case measure => simp [intOf]; omega
            · have hn' : (yn == (k : Int)) = false := by simpa using hn
              have HO3 : Hid (O2.data.toList = Sh.cat (Sh.gat L) k ++ Sh.gatL (L.take (j + 1)) k) := show O2.data.toList = _ by rw [HO2.out, HST.out, if_neg hn, List.append_nil]
              clear hn
              go_wp2
              go_roundw
              case rel => exact ⟨j + 1, O2, by omega, by go_num, rfl, HO3, bup HBL2.out (below_alloc _ _)⟩
              case measure => simp [intOf]; omega
          · obtain rfl : l = j := by omega
            have HO3 : Hid (O2.data.toList = Sh.cat (Sh.gat L) (k + 1)) := show O2.data.toList = _ by
              rw [HO2.out, Sh.cat_succ, Sh.gat_list, List.take_of_length_le (by rw [HLL.out]; exact Nat.le_refl _)]
            have HB3 : Hid (Below w1.heap.size w1 wr) := bup HBL.out HBL2.out
            go_wp2
            go_roundw
            case rel => exact ⟨k + 1, O2, by omega, by go_num, rfl, HO3, HB3⟩
            case measure => simp [intOf]; omega
      · obtain rfl : cc = k := by omega
        have hp := Sh.psz_out (n := k0) (k := (cc : Int)) (by rw [HCC.out]; omega)
        go_wp2_with fail
        refine (length_any k0 cc _ HLE.out).mono ?_
        rintro e w2 ⟨rfl, rfl⟩
        rw [hp]
        have hE := HG2.out HGP.out
        have HOE : Hid (O = ⟨(Sh.cat (Sh.gat L) cc).toArray⟩) := show O = _ by
          apply Sh.ba_ext2
          rw [HO.out]
        have hos : O.size ≤ 65536 := by
          have h1 := Sh.cat_len HF.out cc
          have h4 : O.data.toList.length = O.size := by simp
          rw [HO.out] at h4
          omega
        have HSU : Hid (∀ v : World, Calls Tryd.prog 28 #[.string O] v fun e w' => e = .returned (.int .i64 (Sh.jn (Sh.gat L) cc)) ∧ w' = v) := fun v => by
          have h := refSum_any O v (by unfold maxLen; omega)
          rw [HO.out] at h
          exact h
        by_cases hj : (Sh.jn (Sh.gat L) cc : Int) = m.sum
        · rw [if_pos hj] at hE
          have HE : Hid (Sh.txtE m (Sh.gat L) = 0) := hE
          have HS : Hid (Sh.txt m (Sh.gat L) = O) := show _ = _ by rw [HX1.out hE, HOE.out]
          have hj' : ((Sh.jn (Sh.gat L) cc : Int) != m.sum) = false := by simpa using hj
          clear hE hj
          go_wp2
          go_quiet ((go_at_call 28; exact Calls.quiet_of_same (HSU.out _)))
          go_wp2
          go_ret2
          rw [HE.out, HS.out]
          exact ⟨rfl, Go.below_drewN (bup HB1.out HBL.out) _⟩
        · rw [if_neg hj] at hE
          have HE : Hid (Sh.txtE m (Sh.gat L) = 20) := hE
          have HS : Hid (Sh.txt m (Sh.gat L) = ⟨#[]⟩) := HX2.out (by rw [HE.out]; decide)
          have hj' : ((Sh.jn (Sh.gat L) cc : Int) != m.sum) = true := by simpa using hj
          clear hE hj
          go_wp2
          go_quiet ((go_at_call 28; exact Calls.quiet_of_same (HSU.out _)))
          go_wp2
          go_ret2
          rw [HE.out, HS.out]
          exact ⟨rfl, Go.below_drewN (bup HB1.out HBL.out) _⟩
  · have HGP : Hid (Sh.gap (Sh.gat L) cc = true) := show Sh.gap (Sh.gat L) cc = true by unfold Sh.gap; rw [← hln]; simp [hg]
    have HE : Hid (Sh.txtE m (Sh.gat L) = 7) := HG1.out HGP.out
    have HS : Hid (Sh.txt m (Sh.gat L) = ⟨#[]⟩) := HX2.out (by rw [HE.out]; decide)
    have hn0 : (0 : Int) < (n : Int) := by omega
    clear hln hg
    go_wp2
    go_ret2
    rw [HE.out, HS.out]
    exact ⟨rfl, HB1.out⟩
end Go.Proofs.YtceeafmahoelfaaDoor
