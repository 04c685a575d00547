/-
  For any two strings and any slice of acts sextonlaw19.ShardWhole returns true, whatever the memory that holds the table halves as the text of the program lays it: whatever shards of a text come, turned ones and such of another text among them: it is told when none is missing, and is that text. No other condition.
-/
import Derived.Test.YtceeafmahoelfaaDoorCards
import Derived.Test.YtceeafmahoelfaaDoorTie
import Derived.Test.YtceeafmahoelfaaDoorHWhole
import Derived.Test.YtceeafmahoelfaaDoorHLaw
namespace Go.Proofs.YtceeafmahoelfaaDoor
open Go.ChangeShapes Go.WideShapes Go.ChangeAt Go.RowKit
open Go.ChangeMaps (open_string)

set_option maxRecDepth 100000 in
set_option maxRecDepth 100000 in
set_option maxHeartbeats 30000000 in
theorem whole_law (t o : ByteArray) (v : Value) (l : List Act1) (w : World) (hT : Tab w) (hst : t.size ≤ maxLen) (hso : o.size ≤ maxLen) (hv : AtW AE w v l) : Calls Tryd.prog 5 #[.string t, .string o, v] w fun e w' => e = .returned (.bool true) ∧ Below w.heap.size w w' := by
  have HT : Hid (Tab w) := hT
  have HV : Hid (AtW AE w v l) := hv
  have HST : Hid (t.size ≤ maxLen) := hst
  have HSO : Hid (o.size ≤ maxLen) := hso
  have HB0 : Hid (Below w.heap.size w w) := Below.refl _ _
  obtain ⟨ao, cap, rfl, hml, _⟩ := hv.open
  unfold maxLen at hml hst hso
  clear hT hv
  go_enter Tryd.func5, Tryd.ntmps5
  by_cases ht4 : 4000 < (t.size : Int)
  · go_wp2_with fail
    refine (two_any _ (HT.out.up HB0.out)).mono ?_
    rintro e w99 ⟨rfl, hb99⟩
    have HB99 : Hid (Below w.heap.size w w99) := bup HB0.out hb99
    clear hb99
    go_wp2
    go_ret
    exact ⟨rfl, HB99.out⟩
  by_cases ho4 : 4000 < (o.size : Int)
  · go_wp2_with fail
    refine (two_any _ (HT.out.up HB0.out)).mono ?_
    rintro e w99 ⟨rfl, hb99⟩
    have HB99 : Hid (Below w.heap.size w w99) := bup HB0.out hb99
    clear hb99
    go_wp2
    go_ret
    exact ⟨rfl, HB99.out⟩
  by_cases hl1 : 100 < (l.length : Int)
  · go_wp2_with fail
    refine (two_any _ (HT.out.up HB0.out)).mono ?_
    rintro e w99 ⟨rfl, hb99⟩
    have HB99 : Hid (Below w.heap.size w w99) := bup HB0.out hb99
    clear hb99
    go_wp2
    go_ret
    exact ⟨rfl, HB99.out⟩
  go_wp2_with fail
  refine (split_any 7 t _ HT.out HST.out).mono ?_
  rintro e w1 ⟨v1, rfl, hrow1, hb1⟩
  obtain ⟨p1, c1, hv1⟩ := hrow1.slice
  subst hv1
  have HB1 : Hid (Below w.heap.size w w1) := hb1
  have HT1 : Hid (Tab w1) := HT.out.up hb1
  have HR1 : Hid (Row SE w1 w.heap.size 36 (.slice p1 (Sh.splL 7 t).length c1) (Sh.splL 7 t)) := hrow1
  have HMV : Hid ((Sh.splM 7 t).val = .agg #[.int .i64 (Sh.splM 7 t).op, .int .i64 (Sh.splM 7 t).size, .int .i64 (Sh.splM 7 t).sum]) := rfl
  have HMW : Hid ((Sh.splM 8 o).val = .agg #[.int .i64 (Sh.splM 8 o).op, .int .i64 (Sh.splM 8 o).size, .int .i64 (Sh.splM 8 o).sum]) := rfl
  rw [HMV.out]
  clear hrow1 hb1
  obtain ⟨Ma, hMa⟩ : ∃ Ma, Sh.splM 7 t = Ma := ⟨_, rfl⟩
  have HMa : Hid (Sh.splM 7 t = Ma) := hMa
  obtain ⟨Mb, hMb⟩ : ∃ Mb, Sh.splM 8 o = Mb := ⟨_, rfl⟩
  have HMb : Hid (Sh.splM 8 o = Mb) := hMb
  rw [hMb] at HMW
  rw [hMa]
  clear hMa hMb HMV
  go_wp2_with fail
  refine (split_any 8 o _ (HT1.out.up (below_alloc _ _)) HSO.out).mono ?_
  rintro e w2 ⟨v2, rfl, hrow2, hb2⟩
  obtain ⟨p2, c2, hv2⟩ := hrow2.slice
  subst hv2
  have hb12 : Below w1.heap.size w1 w2 := bup (below_alloc _ _) hb2
  have HB2 : Hid (Below w.heap.size w w2) := bup HB1.out hb12
  have HR12 : Hid (Row SE w2 w.heap.size 36 (.slice p1 (Sh.splL 7 t).length c1) (Sh.splL 7 t)) := HR1.out.up hb12
  have HR22 : Hid (Row SE w2 w.heap.size 36 (.slice p2 (Sh.splL 8 o).length c2) (Sh.splL 8 o)) := hrow2.low (by have := HB1.out.size; simp; omega)
  rw [HMb.out, HMW.out]
  have y0 : w2.cell? ⟨w1.heap.size, 0, none⟩ = some (.int .i64 Ma.op) := (hb2.cell (p := ⟨w1.heap.size, 0, none⟩) (by simp)).trans (by simp)
  have y1 : w2.cell? ⟨w1.heap.size, 1, none⟩ = some (.int .i64 Ma.size) := (hb2.cell (p := ⟨w1.heap.size, 1, none⟩) (by simp)).trans (by simp)
  have y2 : w2.cell? ⟨w1.heap.size, 2, none⟩ = some (.int .i64 Ma.sum) := (hb2.cell (p := ⟨w1.heap.size, 2, none⟩) (by simp)).trans (by simp)
  have hX1 : w1.heap.size < w2.heap.size := by have := hb2.size; simp at this; omega
  have hA3 := below_alloc w2 (.cells #[.int .i64 Mb.op, .int .i64 Mb.size, .int .i64 Mb.sum] 23)
  have HB3 : Hid (Below w.heap.size w (w2.alloc (.cells #[.int .i64 Mb.op, .int .i64 Mb.size, .int .i64 Mb.sum] 23))) := bup HB2.out hA3
  have HR13 : Hid (Row SE (w2.alloc (.cells #[.int .i64 Mb.op, .int .i64 Mb.size, .int .i64 Mb.sum] 23)) w.heap.size 36 (.slice p1 (Sh.splL 7 t).length c1) (Sh.splL 7 t)) := HR12.out.up hA3
  have HR23 : Hid (Row SE (w2.alloc (.cells #[.int .i64 Mb.op, .int .i64 Mb.size, .int .i64 Mb.sum] 23)) w.heap.size 36 (.slice p2 (Sh.splL 8 o).length c2) (Sh.splL 8 o)) := HR22.out.up hA3
  clear hrow2 hb2 hb12 HR1 HB1 HT1 HR12 HR22 hA3
  by_cases ha0 : t.size = 0
  · have HE : Hid (Sh.splE 7 t = 2) := show Sh.splE 7 t = 2 by unfold Sh.splE; rw [if_pos ⟨by decide, by decide⟩, if_neg (by omega)]
    rw [HE.out]
    generalize Sh.splE 8 o = eb at *
    go_wp2_with fail
    refine (two_any _ (HT.out.up HB3.out)).mono ?_
    rintro e w99 ⟨rfl, hb99⟩
    have HB99 : Hid (Below w.heap.size w w99) := bup HB3.out hb99
    clear hb99
    go_wp2
    go_ret
    exact ⟨rfl, HB99.out⟩
  have HE : Hid (Sh.splE 7 t = 0) := show Sh.splE 7 t = 0 by unfold Sh.splE; rw [if_pos ⟨by decide, by decide⟩, if_pos (by omega)]
  rw [HE.out]
  by_cases hb0 : o.size = 0
  · have HEB : Hid (Sh.splE 8 o = 2) := show Sh.splE 8 o = 2 by unfold Sh.splE; rw [if_pos ⟨by decide, by decide⟩, if_neg (by omega)]
    rw [HEB.out]
    go_wp2_with fail
    refine (two_any _ (HT.out.up HB3.out)).mono ?_
    rintro e w99 ⟨rfl, hb99⟩
    have HB99 : Hid (Below w.heap.size w w99) := bup HB3.out hb99
    clear hb99
    go_wp2
    go_ret
    exact ⟨rfl, HB99.out⟩
  have HEB : Hid (Sh.splE 8 o = 0) := show Sh.splE 8 o = 0 by unfold Sh.splE; rw [if_pos ⟨by decide, by decide⟩, if_pos (by omega)]
  rw [HEB.out]
  have HMF : Hid (Ma = Sh.mf 7 t) := show Ma = Sh.mf 7 t by rw [← HMa.out]; unfold Sh.splM; rw [HE.out]; rfl
  have HOK : Hid (Sh.okM (Sh.mf 7 t) = true) := Sh.mf_ok ⟨by decide, by decide⟩ (by omega)
  have HLA : Hid (Sh.splL 7 t = Sh.sds 7 t (Sh.cnt t.size)) := show Sh.splL 7 t = _ by unfold Sh.splL; rw [HE.out]; rfl
  have HLB : Hid (Sh.splL 8 o = Sh.sds 8 o (Sh.cnt o.size)) := show Sh.splL 8 o = _ by unfold Sh.splL; rw [HEB.out]; rfl
  rw [HLA.out, Sh.sds_length] at HR13
  rw [HLB.out, Sh.sds_length] at HR23
  rw [HLA.out, HLB.out, Sh.sds_length, Sh.sds_length]
  have hca := Sh.cnt_le (n := t.size) (by omega)
  have hcb := Sh.cnt_le (n := o.size) (by omega)
  obtain ⟨ca, hcae⟩ : ∃ ca, Sh.cnt t.size = ca := ⟨_, rfl⟩
  obtain ⟨cb, hcbe⟩ : ∃ cb, Sh.cnt o.size = cb := ⟨_, rfl⟩
  have HCA : Hid (Sh.cnt t.size = ca) := hcae
  have HMS : Hid (Sh.cnt (Sh.mf 7 t).size.toNat = ca) := show Sh.cnt (Sh.mf 7 t).size.toNat = ca by rw [Sh.mf_size]; exact hcae
  rw [hcae] at HR13 hca ⊢
  rw [hcbe] at HR23 hcb ⊢
  clear hcae hcbe
  go_wp2_with fail
  refine (new_ok Ma _ (by rw [HMF.out]; exact HOK.out)).mono ?_
  rintro e w3 ⟨A, rfl, hAs, hA4, hb3⟩
  rw [HMF.out] at hA4
  have hAw : w.heap.size ≤ A := by have := HB3.out.size; omega
  have hAl := hA4.lt
  have HS3 : Hid (AsmAt w3 A (Sh.mf 7 t) (Sh.part t fun _ => false) ∧ Row SE w3 w.heap.size 36 (.slice p1 ca c1) (Sh.sds 7 t ca) ∧ Row SE w3 w.heap.size 36 (.slice p2 cb c2) (Sh.sds 8 o cb) ∧ Below w.heap.size w w3) := ⟨hA4, HR13.out.up hb3, HR23.out.up hb3, bup HB3.out hb3⟩
  have hw3 : w.heap.size ≤ w3.heap.size := HS3.out.2.2.2.size
  have hmk := run_make_row' (P := Tryd.prog) 60 4 (.bool false) 1 Tryd.underlying60 info4 rfl .i64 .i64 ca (by omega) (by omega)
  have hb4 := below_alloc w3 (.cells (madeCells #[.bool false] ca) 4)
  have HS4 : Hid (WS (w3.alloc (.cells (madeCells #[.bool false] ca) 4)) w A w3.heap.size ca cb t o p1 p2 c1 c2 (fun _ => false)) := ⟨⟨HS3.out.1.up hb4, bools_made w3 ca, hAw, hw3⟩, HS3.out.2.1.up hb4, HS3.out.2.2.1.up hb4, bup HS3.out.2.2.2 hb4⟩
  have HAH : Hid (w.heap.size ≤ A ∧ w.heap.size ≤ w3.heap.size) := ⟨hAw, hw3⟩
  clear hA4 hb3 hAs HR13 HR23 HB3 HB2 HS3 y0 y1 y2 hX1 hb4
  go_wp2
  obtain ⟨H, hH⟩ : ∃ H, w3.heap.size = H := ⟨_, rfl⟩
  rw [hH] at HS4 HAH hAl ⊢
  clear hH hmk hw3
  generalize w3.alloc (.cells (madeCells #[.bool false] ca) 4) = W4 at *
  obtain ⟨na, hna⟩ : ∃ na, l.length = na := ⟨_, rfl⟩
  have HNA : Hid (l.length = na) := hna
  rw [hna] at HV hml hl1 ⊢
  clear hna
  go_loopw [16] (fun u wr => ∃ (i : Nat) (h : Nat → Bool), i ≤ na + ca ∧ u = .int .i64 i ∧ Hid (WS wr w A H ca cb t o p1 p2 c1 c2 h) ∧ Hid (∀ j, na + j < i → j < ca → h j = true)) (fun u _ => na + ca - (intOf u).toNat)
  case atStart => exact ⟨0, _, Nat.zero_le _, rfl, HS4, fun j hj => by omega⟩
  case round =>
    obtain ⟨i, h, hi, rfl, HS5, HH⟩ := hrel
    have hAr := HS5.out.1.1.lt
    have hHr : H < wr.heap.size := by obtain ⟨cur, hb, _⟩ := HS5.out.1.2.1; exact (Array.getElem?_eq_some_iff.1 hb).1
    by_cases hlt : i < na + ca
    · have hltI : (i : Int) < (na : Int) + (ca : Int) := by omega
      by_cases hin : i < na
      · have hinI : (i : Int) < (na : Int) := by omega
        obtain ⟨y, hy⟩ : ∃ y, l[i]? = some y := ⟨_, List.getElem?_eq_getElem (by rw [HNA.out]; exact hin)⟩
        obtain ⟨ao', cap', hv', _, hx⟩ := (HV.out.up HS5.out.2.2.2).open
        obtain ⟨b9, off9, hao, _, hbl9, hc⟩ := hx i y hy
        simp only [Value.slice.injEq] at hv'
        obtain ⟨hva, hvl, hvc⟩ := hv'
        clear hvl
        subst hva
        subst hvc
        subst hao
        have x0 := hc 0 _ rfl
        have x1 := hc 1 _ rfl
        have x2 := hc 2 _ rfl
        have x3 := hc 3 _ rfl
        simp only [show AE.sz = 4 from rfl, Nat.add_zero, ← Nat.add_assoc] at x0 x1 x2 x3
        obtain ⟨N, Bt, Pt, Ot⟩ := y
        simp only at x0 x1 x2 x3
        have hi0 : (0 : Int) ≤ (i : Int) := by omega
        have HH2 : Hid (∀ j, na + j < i + 1 → j < ca → h j = true) := fun j hj hc => HH.out j (by omega) hc
        clear hx hc hy
        have hbX := below_alloc wr (.cells #[.int .i64 N, .int .i64 Bt, .int .i64 Pt, .bool Ot] 62)
        have HS6 : Hid (WS (wr.alloc (.cells #[.int .i64 N, .int .i64 Bt, .int .i64 Pt, .bool Ot] 62)) w A H ca cb t o p1 p2 c1 c2 h) := HS5.out.up hbX
        have HXC : Hid ((wr.alloc (.cells #[.int .i64 N, .int .i64 Bt, .int .i64 Pt, .bool Ot] 62)).cell? ⟨wr.heap.size, 0, none⟩ = some (.int .i64 N) ∧ (wr.alloc (.cells #[.int .i64 N, .int .i64 Bt, .int .i64 Pt, .bool Ot] 62)).cell? ⟨wr.heap.size, 1, none⟩ = some (.int .i64 Bt) ∧ (wr.alloc (.cells #[.int .i64 N, .int .i64 Bt, .int .i64 Pt, .bool Ot] 62)).cell? ⟨wr.heap.size, 2, none⟩ = some (.int .i64 Pt) ∧ (wr.alloc (.cells #[.int .i64 N, .int .i64 Bt, .int .i64 Pt, .bool Ot] 62)).cell? ⟨wr.heap.size, 3, none⟩ = some (.bool Ot)) := ⟨by simp, by simp, by simp, by simp⟩
        have hXA : ¬ wr.heap.size = A := by omega
        have hXH : ¬ wr.heap.size = H := by omega
        have hX6 : wr.heap.size < (wr.alloc (.cells #[.int .i64 N, .int .i64 Bt, .int .i64 Pt, .bool Ot] 62)).heap.size := by simp
        clear hbX
        cases Ot with
        | true =>
          by_cases hN0 : 0 ≤ N
          · by_cases hN1 : N < (cb : Int)
            · obtain ⟨n, rfl⟩ : ∃ n : Nat, N = n := ⟨N.toNat, by omega⟩
              have hn : n < cb := by omega
              obtain ⟨g2, cp2, hv2, _, hg2, q0, q1, q2, q3⟩ := HS6.out.2.2.1.elem (i := n) (x := Sh.sd 8 o n) (Sh.sds_get hn)
              rw [Sh.sds_length] at hv2
              cases hv2
              have hg2' : g2 < wr.heap.size := (HS5.out.2.2.1.lt g2 rfl).2
              have r0 : wr.cell? ⟨g2, n * 4, none⟩ = some (.int .i64 8) := ((below_alloc wr _).cell (p := ⟨g2, n * 4, none⟩) hg2').symm.trans q0
              have r1 : wr.cell? ⟨g2, n * 4 + 1, none⟩ = some (.int .i64 (n : Int)) := ((below_alloc wr _).cell (p := ⟨g2, n * 4 + 1, none⟩) hg2').symm.trans q1
              have r2 : wr.cell? ⟨g2, n * 4 + 2, none⟩ = some (.string (Sh.pc o n)) := ((below_alloc wr _).cell (p := ⟨g2, n * 4 + 2, none⟩) hg2').symm.trans q2
              have r3 : wr.cell? ⟨g2, n * 4 + 3, none⟩ = some (.int .i64 (Sh.sum (Sh.pc o n))) := ((below_alloc wr _).cell (p := ⟨g2, n * 4 + 3, none⟩) hg2').symm.trans q3
              have HPO : Hid ((Sh.pc o n).size ≤ maxLen) := show (Sh.pc o n).size ≤ maxLen by
                unfold Sh.pc
                rw [ByteArray.size_extract]
                unfold maxLen
                omega
              have HQE : Hid (Sh.addE (Sh.mf 7 t) (Sh.part t h) (Sh.sd 8 o n) = 190) := Sh.add_other
              have HQB : Hid (Sh.addB (Sh.mf 7 t) (Sh.part t h) (Sh.sd 8 o n) = false) := sameB (by rw [HQE.out]; decide)
              clear q0 q1 q2 q3
              go_wp2_with fail
              refine (add_any A (Sh.mf 7 t) (Sh.sd 8 o n) (Sh.part t h) _ (HT.out.up HS6.out.2.2.2) HS6.out.1.1 HOK.out HPO.out).mono ?_
              rintro e w8 ⟨rfl, hA8, hg8⟩
              rw [Sh.addF_no HQB.out] at hA8
              rw [HQE.out, HQB.out]
              have HW8 : Hid (WS w8 w A H ca cb t o p1 (some ⟨g2, 0, none⟩) c1 c2 h) := HS6.out.same hg8 hA8
              clear hA8 hg8 r0 r1 r2 r3
              go_wp2
              go_roundw
              case rel => exact ⟨i + 1, _, by omega, by go_num, HW8, HH2⟩
              case measure => simp [intOf]; omega
            · go_wp2
              go_roundw
              case rel => exact ⟨i + 1, _, by omega, by go_num, HS6, HH2⟩
              case measure => simp [intOf]; omega
          · go_wp2
            go_roundw
            case rel => exact ⟨i + 1, _, by omega, by go_num, HS6, HH2⟩
            case measure => simp [intOf]; omega
        | false =>
          by_cases hN0 : N < 0
          · go_wp2
            go_roundw
            case rel => exact ⟨i + 1, _, by omega, by go_num, HS6, HH2⟩
            case measure => simp [intOf]; omega
          · by_cases hN1 : (ca : Int) ≤ N
            · go_wp2
              go_roundw
              case rel => exact ⟨i + 1, _, by omega, by go_num, HS6, HH2⟩
              case measure => simp [intOf]; omega
            · obtain ⟨n, rfl⟩ : ∃ n : Nat, N = n := ⟨N.toNat, by omega⟩
              have hn : n < ca := by omega
              have HH2o : Hid (∀ j, na + j < i + 1 → j < ca → h j = true) := HH2
              clear HH2 HS6 HXC hXA hXH hX6
              obtain ⟨g1, cp1, hv1, _, hg1, x0, x1, x2, x3⟩ := HS5.out.2.1.elem (i := n) (x := Sh.sd 7 t n) (Sh.sds_get hn)
              rw [Sh.sds_length] at hv1
              cases hv1
              have r0 : wr.cell? ⟨g1, n * 4, none⟩ = some (.int .i64 7) := x0
              have r1 : wr.cell? ⟨g1, n * 4 + 1, none⟩ = some (.int .i64 (n : Int)) := x1
              have r2 : wr.cell? ⟨g1, n * 4 + 2, none⟩ = some (.string (Sh.pc t n)) := x2
              have r3 : wr.cell? ⟨g1, n * 4 + 3, none⟩ = some (.int .i64 (Sh.sum (Sh.pc t n))) := x3
              have hnI : (n : Int) < (ca : Int) := by omega
              have hn0 : (0 : Int) ≤ (n : Int) := by omega
              have hn0' : ¬ (n : Int) < 0 := by omega
              have hnI' : ¬ (ca : Int) ≤ (n : Int) := by omega
              have hnc : n < Sh.cnt t.size := by rw [HCA.out]; exact hn
              have hps := Sh.pc_size hnc
              have hpz := Sh.psz_pos hnc
              have HPS : Hid ((Sh.pc t n).size ≤ maxLen) := show (Sh.pc t n).size ≤ maxLen by unfold maxLen; omega
              have HPT : Hid ((Sh.pc t n).size ≤ 65536) := show (Sh.pc t n).size ≤ 65536 by omega
              clear x0 x1 x2 x3 hps hpz
              have hbX := below_alloc wr (.cells #[.int .i64 (n : Int), .int .i64 Bt, .int .i64 Pt, .bool false] 62)
              have hbS := below_alloc (wr.alloc (.cells #[.int .i64 (n : Int), .int .i64 Bt, .int .i64 Pt, .bool false] 62)) (.cells #[.int .i64 7, .int .i64 (n : Int), .string (Sh.pc t n), .int .i64 (Sh.sum (Sh.pc t n))] 36)
              have HMX : Hid ((wr.alloc (.cells #[.int .i64 (n : Int), .int .i64 Bt, .int .i64 Pt, .bool false] 62)).cell? ⟨wr.heap.size, 0, none⟩ = some (.int .i64 (n : Int))) := show _ = _ by simp
              have HR2b : Hid (∀ q2, (Value.slice p2 cb c2).ownBlock = some q2 → q2 < wr.heap.size) := fun q2 hq => (HS5.out.2.2.1.lt q2 hq).2
              go_wp2_with fail
              refine (turned_any (Sh.pc t n) Bt Pt _ HPT.out).mono ?_
              rintro e w7 ⟨T, rfl, hTs, hTd, hT0, hb7⟩
              have HSS : Hid (T.size = (Sh.pc t n).size ∧ (T = Sh.pc t n ∨ Sh.sum T ≠ Sh.sum (Sh.pc t n)) ∧ (Pt = (0 : Int) → T = Sh.pc t n)) := ⟨hTs, hTd, hT0⟩
              have hb67 := bup hbS hb7
              have HS7a : Hid (WS w7 w A H ca cb t o (some ⟨g1, 0, none⟩) p2 c1 c2 h) := (HS5.out.up hbX).up hb67
              have hYl : wr.heap.size + 1 < w7.heap.size := by have := hb7.size; simp at this; omega
              have yb : w7.heap[wr.heap.size + 1]? = some (.cells #[.int .i64 7, .int .i64 (n : Int), .string (Sh.pc t n), .int .i64 (Sh.sum (Sh.pc t n))] 36 (0, 0)) := by
                have h1 := heap_alloc_new (wr.alloc (.cells #[.int .i64 (n : Int), .int .i64 Bt, .int .i64 Pt, .bool false] 62)) (.cells #[.int .i64 7, .int .i64 (n : Int), .string (Sh.pc t n), .int .i64 (Sh.sum (Sh.pc t n))] 36)
                rw [show (wr.alloc (.cells #[.int .i64 (n : Int), .int .i64 Bt, .int .i64 Pt, .bool false] 62)).heap.size = wr.heap.size + 1 from by simp] at h1
                exact (hb7.block (wr.heap.size + 1) (by simp)).trans h1
              have e0 : w7.cell? ⟨wr.heap.size + 1, 0, none⟩ = some (.int .i64 7) := by simp [World.cell?, yb]
              have e1 : w7.cell? ⟨wr.heap.size + 1, 1, none⟩ = some (.int .i64 (n : Int)) := by simp [World.cell?, yb]
              have e2 : w7.cell? ⟨wr.heap.size + 1, 2, none⟩ = some (.string (Sh.pc t n)) := by simp [World.cell?, yb]
              have e3 : w7.cell? ⟨wr.heap.size + 1, 3, none⟩ = some (.int .i64 (Sh.sum (Sh.pc t n))) := by simp [World.cell?, yb]
              have f2 : w7.frozen? ⟨wr.heap.size + 1, 2, none⟩ = false := by simp [World.frozen?, yb]
              have z00 : w7.cell? ⟨wr.heap.size, 0, none⟩ = some (.int .i64 (n : Int)) := (hb67.cell (p := ⟨wr.heap.size, 0, none⟩) (by simp)).trans HMX.out
              have hYw : w.heap.size ≤ wr.heap.size + 1 := Nat.le_trans HS5.out.2.2.2.size (Nat.le_succ _)
              have hYA : ¬ wr.heap.size + 1 = A := by omega
              have hYH : ¬ wr.heap.size + 1 = H := by omega
              have hXA : ¬ wr.heap.size = A := by omega
              have hXH : ¬ wr.heap.size = H := by omega
              have hX7' : wr.heap.size < w7.heap.size := by omega
              clear hb7 hb67 hbS hbX hTs hTd hT0 r0 r1 r2 r3 HS5 yb HMX hAr hHr
              obtain ⟨X, hXe⟩ : ∃ X, wr.heap.size = X := ⟨_, rfl⟩
              rw [hXe] at e0 e1 e2 e3 f2 z00 hYw hYA hYH hXA hXH hYl hX7' hg1 HR2b ⊢
              clear hXe
              obtain ⟨Y, hYe⟩ : ∃ Y, X + 1 = Y := ⟨_, rfl⟩
              have hXY : ¬ X = Y := by omega
              have hgY1 : g1 < Y := by omega
              have HR2c : Hid (∀ q2, (Value.slice p2 cb c2).ownBlock = some q2 → q2 < Y) := fun q2 hq => by have := HR2b.out q2 hq; omega
              rw [hYe] at e0 e1 e2 e3 f2 hYw hYA hYH hYl ⊢
              clear hYe HR2b
              have hgY := grown_setCell w7 Y 2 (.string T)
              have HS7 : Hid (WS (w7.setCell ⟨Y, 2, none⟩ (.string T)) w A H ca cb t o (some ⟨g1, 0, none⟩) p2 c1 c2 h) := by
                refine ⟨⟨HS7a.out.1.1.kept hgY (by simp; exact fun e => hYA e.symm), HS7a.out.1.2.1.kept hgY (by simp; exact fun e => hYH e.symm), HS7a.out.1.2.2⟩, HS7a.out.2.1.kept hgY ?_, HS7a.out.2.2.1.kept hgY ?_, HS7a.out.2.2.2.setCell hYw _⟩
                · right
                  simp [Value.ownBlock]
                  omega
                · cases hq : (Value.slice p2 cb c2).ownBlock with
                  | none => exact .inl rfl
                  | some q2 =>
                    right
                    have := HR2c.out q2 hq
                    simp
                    omega
              have HYC : Hid ((w7.setCell ⟨Y, 2, none⟩ (.string T)).cell? ⟨Y, 0, none⟩ = some (.int .i64 7) ∧ (w7.setCell ⟨Y, 2, none⟩ (.string T)).cell? ⟨Y, 1, none⟩ = some (.int .i64 (n : Int)) ∧ (w7.setCell ⟨Y, 2, none⟩ (.string T)).cell? ⟨Y, 2, none⟩ = some (.string T) ∧ (w7.setCell ⟨Y, 2, none⟩ (.string T)).cell? ⟨Y, 3, none⟩ = some (.int .i64 (Sh.sum (Sh.pc t n))) ∧ (w7.setCell ⟨Y, 2, none⟩ (.string T)).cell? ⟨X, 0, none⟩ = some (.int .i64 (n : Int))) :=
                ⟨(World.cell?_setCell_other _ _ _ _ (by simp)).trans e0, (World.cell?_setCell_other _ _ _ _ (by simp)).trans e1, World.cell?_setCell_same _ _ _ e2, (World.cell?_setCell_other _ _ _ _ (by simp)).trans e3, (World.cell?_setCell_other _ _ _ _ (fun e => hXY (Addr.mk.inj e).1.symm)).trans z00⟩
              have hX7 : X < (w7.setCell ⟨Y, 2, none⟩ (.string T)).heap.size := by simpa [World.setCell] using hX7'
              have hY7 : Y < (w7.setCell ⟨Y, 2, none⟩ (.string T)).heap.size := by simpa [World.setCell] using hYl
              clear hgY HS7a HR2c z00
              rcases HSS.out.2.1 with hTe | hTe
              · subst hTe
                go_wp2_with fail
                obtain ⟨W7, hW7⟩ : ∃ W7, w7.setCell ⟨Y, 2, none⟩ (.string (Sh.pc t n)) = W7 := ⟨_, rfl⟩
                rw [hW7] at HS7 HYC hX7 hY7 ⊢
                obtain ⟨y0, y1, y2, y3, z0⟩ := HYC.out
                clear hW7 HYC e0 e1 e2 e3 f2
                have HQA : Hid (Sh.addE (Sh.mf 7 t) (Sh.part t h) (Sh.sd 7 t n) = 0 ∧ Sh.addB (Sh.mf 7 t) (Sh.part t h) (Sh.sd 7 t n) = !h n ∧ Sh.addF (Sh.mf 7 t) (Sh.part t h) (Sh.sd 7 t n) = Sh.part t (fun j => h j || decide (j = n))) := ⟨Sh.addE_part hnc, Sh.addB_part hnc, Sh.addF_part hnc⟩
                refine (add_any A (Sh.mf 7 t) (Sh.sd 7 t n) (Sh.part t h) _ (HT.out.up HS7.out.2.2.2) HS7.out.1.1 HOK.out HPS.out).mono ?_
                rintro e w8 ⟨rfl, hA8, hg8⟩
                rw [HQA.out.2.2] at hA8
                rw [HQA.out.1, HQA.out.2.1]
                have H8 : Hid (AsmAt w8 A (Sh.mf 7 t) (Sh.part t (fun j => h j || decide (j = n))) ∧ BoolsAt w8 H ca h ∧ Row SE w8 w.heap.size 36 (.slice (some ⟨g1, 0, none⟩) ca c1) (Sh.sds 7 t ca) ∧ Row SE w8 w.heap.size 36 (.slice p2 cb c2) (Sh.sds 8 o cb) ∧ Below w.heap.size w w8) := HS7.out.add hg8 hA8
                have kB : ∀ b j, b < W7.heap.size → ¬ b = A → w8.cell? ⟨b, j, none⟩ = W7.cell? ⟨b, j, none⟩ := fun b j hb hn => cell_block (p := ⟨b, j, none⟩) (hg8.block b hb (by simpa using hn))
                have m0 : w8.cell? ⟨X, 0, none⟩ = some (.int .i64 (n : Int)) := (kB X 0 hX7 hXA).trans z0
                have s2 : w8.cell? ⟨Y, 2, none⟩ = some (.string (Sh.pc t n)) := (kB Y 2 hY7 hYA).trans y2
                obtain ⟨g1', cp1', hv1, _, _, _, _, x2, _⟩ := H8.out.2.2.1.elem (i := n) (x := Sh.sd 7 t n) (Sh.sds_get hn)
                rw [Sh.sds_length] at hv1
                have hgg : g1 = g1' := by simp at hv1; exact hv1.1
                subst hgg
                have x2' : w8.cell? ⟨g1, n * 4 + 2, none⟩ = some (.string (Sh.pc t n)) := x2
                obtain ⟨b0, bf⟩ := H8.out.2.1.cell hn
                have hdd : ((Sh.pc t n).toList != (Sh.pc t n).toList) = false := by simp
                have hde : ((Sh.pc t n).toList == (Sh.pc t n).toList) = true := by simp
                clear hA8 hg8 kB x2 HQA HS7 z0 y0 y1 y2 y3 hv1
                have HPX : Hid (∀ v, v = Sh.pc t n → v.size ≤ maxLen) := fun v hv => by rw [hv]; exact HPS.out
                generalize Sh.pc t n = P at *
                go_wp2
                go_quiet (fail)
                have bh : ((!h n) == h n) = false := by cases h n <;> rfl
                have HW9 : Hid (WS ((w8.drewN nq).setCell ⟨H, n, none⟩ (.bool true)) w A H ca cb t o (some ⟨g1, 0, none⟩) p2 c1 c2 (fun j => h j || decide (j = n))) := WS.mark (wr := w8.drewN nq) H8.out.1 H8.out.2.1 HAH.out.1 HAH.out.2 (H8.out.2.2.1.drew nq) (H8.out.2.2.2.1.drew nq) (Go.below_drewN H8.out.2.2.2.2 nq) (fun _ => rfl)
                have hXH' : ¬ H = X := fun e => hXH e.symm
                go_wp2_with fail
                obtain ⟨W9, hW9⟩ : ∃ W9, (w8.drewN nq).setCell ⟨H, n, none⟩ (.bool true) = W9 := ⟨_, rfl⟩
                rw [hW9] at HW9 ⊢
                clear hW9 b0 bf m0 s2 x2' H8
                refine (text_any A (Sh.mf 7 t) _ _ (HT.out.up HW9.out.2.2.2) HW9.out.1.1 HOK.out (Sh.part_le _ _)).mono ?_
                rintro e w10 ⟨rfl, hb10⟩
                have HW10 : Hid (WS w10 w A H ca cb t o (some ⟨g1, 0, none⟩) p2 c1 c2 (fun j => h j || decide (j = n))) := HW9.out.up hb10
                clear hb10 HW9
                obtain ⟨tE, htE⟩ : ∃ tE, Sh.txtE (Sh.mf 7 t) (Sh.part t (fun j => h j || decide (j = n))) = tE := ⟨_, rfl⟩
                obtain ⟨tX, htX⟩ : ∃ tX, Sh.txt (Sh.mf 7 t) (Sh.part t (fun j => h j || decide (j = n))) = tX := ⟨_, rfl⟩
                have HTE : Hid (Sh.txtE (Sh.mf 7 t) (Sh.part t (fun j => h j || decide (j = n))) = tE) := htE
                have HTX : Hid (Sh.txt (Sh.mf 7 t) (Sh.part t (fun j => h j || decide (j = n))) = tX) := htX
                rw [htE, htX]
                clear htE htX
                go_wp2_with fail
                refine (missing_any A (Sh.mf 7 t) _ _ HW10.out.1.1 HOK.out).mono ?_
                rintro e w11 ⟨vm, nm, rfl, ho11, hb11⟩
                have HW11 : Hid (WS w11 w A H ca cb t o (some ⟨g1, 0, none⟩) p2 c1 c2 (fun j => h j || decide (j = n))) := HW10.out.up hb11
                have HNM : Hid (nm = (Sh.mis (Sh.part t (fun j => h j || decide (j = n))) ca).length) := by have := ho11.1; rw [HMS.out] at this; simp at this; show nm = _; omega
                obtain ⟨pm, cm, rfl⟩ : ∃ pm cm, vm = .slice pm nm cm := by
                  rcases ho11.2 with ⟨rfl, rfl⟩ | ⟨g, cap, cur, rfl, _⟩
                  · exact ⟨_, _, rfl⟩
                  · exact ⟨_, _, rfl⟩
                have HH2 : Hid (∀ j, na + j < i + 1 → j < ca → (h j || decide (j = n)) = true) := fun j hj hc => by rw [HH2o.out j hj hc]; rfl
                clear ho11 hb11 HW10
                by_cases hall : ∀ j, j < ca → (h j || decide (j = n)) = true
                · have hT0 : nm = 0 := by rw [HNM.out, ← HCA.out]; exact Sh.gap_part.2 (fun j hj => hall j (by rw [← HCA.out]; exact hj))
                  obtain ⟨hE, hS⟩ := Sh.txt_full (op := 7) (t := t) (h := fun j => h j || decide (j = n)) (fun j hj => hall j (by rw [← HCA.out]; exact hj))
                  have hE' : tE = 0 := HTE.out.symm.trans hE
                  have hS' : tX = t := HTX.out.symm.trans hS
                  subst hE'
                  subst hS'
                  subst hT0
                  have htt : (tX.toList != tX.toList) = false := by simp
                  clear hE hS hall
                  go_wp2
                  go_roundw
                  case rel => exact ⟨i + 1, _, by omega, by go_num, HW11, HH2⟩
                  case measure => simp [intOf]; omega
                · obtain ⟨j, hj⟩ := Classical.not_forall.1 hall
                  have hjc : j < ca := Classical.byContradiction fun h1 => hj (fun h2 => absurd h2 h1)
                  have hjf : (h j || decide (j = n)) = false := by
                    cases hq : (h j || decide (j = n)) with
                    | false => rfl
                    | true => exact absurd (fun _ => hq) hj
                  have hT0 : nm ≠ 0 := by
                    rw [HNM.out, ← HCA.out]
                    intro h0
                    have := Sh.gap_part.1 h0 j (by rw [HCA.out]; exact hjc)
                    rw [hjf] at this
                    cases this
                  have hE' : tE = 7 := HTE.out.symm.trans (Sh.txt_gap (op := 7) (t := t) (h := fun j => h j || decide (j = n)) (i := j) (by rw [HCA.out]; exact hjc) hjf)
                  have hT1 : ((nm : Int) == 0) = false := by simp; omega
                  subst hE'
                  clear hall hj hjc hjf hT0
                  go_wp2
                  go_roundw
                  case rel => exact ⟨i + 1, _, by omega, by go_num, HW11, HH2⟩
                  case measure => simp [intOf]; omega
              · go_wp2_with fail
                obtain ⟨W7, hW7⟩ : ∃ W7, w7.setCell ⟨Y, 2, none⟩ (.string T) = W7 := ⟨_, rfl⟩
                rw [hW7] at HS7 HYC hX7 hY7 ⊢
                obtain ⟨y0, y1, y2, y3, z0⟩ := HYC.out
                clear hW7 HYC e0 e1 e2 e3 f2
                have HQA : Hid (Sh.addE (Sh.mf 7 t) (Sh.part t h) ⟨7, n, T, Sh.sum (Sh.pc t n)⟩ = 20) := Sh.add_turned hnc HSS.out.1 hTe
                have HQB : Hid (Sh.addB (Sh.mf 7 t) (Sh.part t h) ⟨7, n, T, Sh.sum (Sh.pc t n)⟩ = false) := sameB (by rw [HQA.out]; decide)
                refine (add_any A (Sh.mf 7 t) ⟨7, n, T, Sh.sum (Sh.pc t n)⟩ (Sh.part t h) _ (HT.out.up HS7.out.2.2.2) HS7.out.1.1 HOK.out (by rw [HSS.out.1]; exact HPS.out)).mono ?_
                rintro e w8 ⟨rfl, hA8, hg8⟩
                rw [Sh.addF_no HQB.out] at hA8
                rw [HQA.out, HQB.out]
                have HW8 : Hid (WS w8 w A H ca cb t o (some ⟨g1, 0, none⟩) p2 c1 c2 h) := HS7.out.same hg8 hA8
                have kB : ∀ b j, b < W7.heap.size → ¬ b = A → w8.cell? ⟨b, j, none⟩ = W7.cell? ⟨b, j, none⟩ := fun b j hb hn => cell_block (p := ⟨b, j, none⟩) (hg8.block b hb (by simpa using hn))
                have m0 : w8.cell? ⟨X, 0, none⟩ = some (.int .i64 (n : Int)) := (kB X 0 hX7 hXA).trans z0
                have s2 : w8.cell? ⟨Y, 2, none⟩ = some (.string T) := (kB Y 2 hY7 hYA).trans y2
                obtain ⟨g1', cp1', hv1, _, _, _, _, x2, _⟩ := HW8.out.2.1.elem (i := n) (x := Sh.sd 7 t n) (Sh.sds_get hn)
                rw [Sh.sds_length] at hv1
                have hgg : g1 = g1' := by simp at hv1; exact hv1.1
                subst hgg
                have x2' : w8.cell? ⟨g1, n * 4 + 2, none⟩ = some (.string (Sh.pc t n)) := x2
                have hTn : T ≠ Sh.pc t n := fun e => hTe (by rw [e])
                have hnd := Sh.ne_dec T (Sh.pc t n)
                rw [decide_eq_true hTn] at hnd
                have hde : (T.toList == (Sh.pc t n).toList) = false := by simpa [bne] using hnd
                clear hA8 hg8 kB x2 HQA HQB HS7 z0 y0 y1 y2 y3 hv1 hTe hTn
                generalize Sh.pc t n = P at *
                go_wp2
                go_quiet (fail)
                go_wp2
                go_roundw
                case rel => exact ⟨i + 1, _, by omega, by go_num, HW8.out.drew nq, HH2o⟩
                case measure => simp [intOf]; omega
      · obtain ⟨n, hin2⟩ : ∃ n : Nat, i = na + n := ⟨i - na, by omega⟩
        have hn : n < ca := by omega
        have hsub : (i : Int) - (na : Int) = (n : Int) := by omega
        have hinI : ¬ (i : Int) < (na : Int) := by omega
        have HIN : Hid (i = na + n) := hin2
        clear hin2 hin
        obtain ⟨g1, cp1, hv1, _, hg1, x0, x1, x2, x3⟩ := HS5.out.2.1.elem (i := n) (x := Sh.sd 7 t n) (Sh.sds_get hn)
        rw [Sh.sds_length] at hv1
        cases hv1
        have r0 : wr.cell? ⟨g1, n * 4, none⟩ = some (.int .i64 7) := x0
        have r1 : wr.cell? ⟨g1, n * 4 + 1, none⟩ = some (.int .i64 (n : Int)) := x1
        have r2 : wr.cell? ⟨g1, n * 4 + 2, none⟩ = some (.string (Sh.pc t n)) := x2
        have r3 : wr.cell? ⟨g1, n * 4 + 3, none⟩ = some (.int .i64 (Sh.sum (Sh.pc t n))) := x3
        have hnI : (n : Int) < (ca : Int) := by omega
        have hn0 : (0 : Int) ≤ (n : Int) := by omega
        have hn0' : ¬ (n : Int) < 0 := by omega
        have hnI' : ¬ (ca : Int) ≤ (n : Int) := by omega
        have hnc : n < Sh.cnt t.size := by rw [HCA.out]; exact hn
        have hps := Sh.pc_size hnc
        have hpz := Sh.psz_pos hnc
        have HPS : Hid ((Sh.pc t n).size ≤ maxLen) := show (Sh.pc t n).size ≤ maxLen by unfold maxLen; omega
        have HPT : Hid ((Sh.pc t n).size ≤ 65536) := show (Sh.pc t n).size ≤ 65536 by omega
        clear x0 x1 x2 x3 hps hpz
        have hbX := below_alloc wr (.cells #[.int .i64 (n : Int), .int .i64 0, .int .i64 0, .bool false] 62)
        have hbS := below_alloc (wr.alloc (.cells #[.int .i64 (n : Int), .int .i64 0, .int .i64 0, .bool false] 62)) (.cells #[.int .i64 7, .int .i64 (n : Int), .string (Sh.pc t n), .int .i64 (Sh.sum (Sh.pc t n))] 36)
        have HMX : Hid ((wr.alloc (.cells #[.int .i64 (n : Int), .int .i64 0, .int .i64 0, .bool false] 62)).cell? ⟨wr.heap.size, 0, none⟩ = some (.int .i64 (n : Int))) := show _ = _ by simp
        have HR2b : Hid (∀ q2, (Value.slice p2 cb c2).ownBlock = some q2 → q2 < wr.heap.size) := fun q2 hq => (HS5.out.2.2.1.lt q2 hq).2
        go_wp2_with fail
        refine (turned_any (Sh.pc t n) 0 0 _ HPT.out).mono ?_
        rintro e w7 ⟨T, rfl, hTs, hTd, hT0, hb7⟩
        have HSS : Hid (T.size = (Sh.pc t n).size ∧ (T = Sh.pc t n ∨ Sh.sum T ≠ Sh.sum (Sh.pc t n)) ∧ (0 = (0 : Int) → T = Sh.pc t n)) := ⟨hTs, hTd, hT0⟩
        have hb67 := bup hbS hb7
        have HS7a : Hid (WS w7 w A H ca cb t o (some ⟨g1, 0, none⟩) p2 c1 c2 h) := (HS5.out.up hbX).up hb67
        have hYl : wr.heap.size + 1 < w7.heap.size := by have := hb7.size; simp at this; omega
        have yb : w7.heap[wr.heap.size + 1]? = some (.cells #[.int .i64 7, .int .i64 (n : Int), .string (Sh.pc t n), .int .i64 (Sh.sum (Sh.pc t n))] 36 (0, 0)) := by
          have h1 := heap_alloc_new (wr.alloc (.cells #[.int .i64 (n : Int), .int .i64 0, .int .i64 0, .bool false] 62)) (.cells #[.int .i64 7, .int .i64 (n : Int), .string (Sh.pc t n), .int .i64 (Sh.sum (Sh.pc t n))] 36)
          rw [show (wr.alloc (.cells #[.int .i64 (n : Int), .int .i64 0, .int .i64 0, .bool false] 62)).heap.size = wr.heap.size + 1 from by simp] at h1
          exact (hb7.block (wr.heap.size + 1) (by simp)).trans h1
        have e0 : w7.cell? ⟨wr.heap.size + 1, 0, none⟩ = some (.int .i64 7) := by simp [World.cell?, yb]
        have e1 : w7.cell? ⟨wr.heap.size + 1, 1, none⟩ = some (.int .i64 (n : Int)) := by simp [World.cell?, yb]
        have e2 : w7.cell? ⟨wr.heap.size + 1, 2, none⟩ = some (.string (Sh.pc t n)) := by simp [World.cell?, yb]
        have e3 : w7.cell? ⟨wr.heap.size + 1, 3, none⟩ = some (.int .i64 (Sh.sum (Sh.pc t n))) := by simp [World.cell?, yb]
        have f2 : w7.frozen? ⟨wr.heap.size + 1, 2, none⟩ = false := by simp [World.frozen?, yb]
        have z00 : w7.cell? ⟨wr.heap.size, 0, none⟩ = some (.int .i64 (n : Int)) := (hb67.cell (p := ⟨wr.heap.size, 0, none⟩) (by simp)).trans HMX.out
        have hYw : w.heap.size ≤ wr.heap.size + 1 := Nat.le_trans HS5.out.2.2.2.size (Nat.le_succ _)
        have hYA : ¬ wr.heap.size + 1 = A := by omega
        have hYH : ¬ wr.heap.size + 1 = H := by omega
        have hXA : ¬ wr.heap.size = A := by omega
        have hXH : ¬ wr.heap.size = H := by omega
        have hX7' : wr.heap.size < w7.heap.size := by omega
        clear hb7 hb67 hbS hbX hTs hTd hT0 r0 r1 r2 r3 HS5 yb HMX hAr hHr
        obtain ⟨X, hXe⟩ : ∃ X, wr.heap.size = X := ⟨_, rfl⟩
        rw [hXe] at e0 e1 e2 e3 f2 z00 hYw hYA hYH hXA hXH hYl hX7' hg1 HR2b ⊢
        clear hXe
        obtain ⟨Y, hYe⟩ : ∃ Y, X + 1 = Y := ⟨_, rfl⟩
        have hXY : ¬ X = Y := by omega
        have hgY1 : g1 < Y := by omega
        have HR2c : Hid (∀ q2, (Value.slice p2 cb c2).ownBlock = some q2 → q2 < Y) := fun q2 hq => by have := HR2b.out q2 hq; omega
        rw [hYe] at e0 e1 e2 e3 f2 hYw hYA hYH hYl ⊢
        clear hYe HR2b
        have hgY := grown_setCell w7 Y 2 (.string T)
        have HS7 : Hid (WS (w7.setCell ⟨Y, 2, none⟩ (.string T)) w A H ca cb t o (some ⟨g1, 0, none⟩) p2 c1 c2 h) := by
          refine ⟨⟨HS7a.out.1.1.kept hgY (by simp; exact fun e => hYA e.symm), HS7a.out.1.2.1.kept hgY (by simp; exact fun e => hYH e.symm), HS7a.out.1.2.2⟩, HS7a.out.2.1.kept hgY ?_, HS7a.out.2.2.1.kept hgY ?_, HS7a.out.2.2.2.setCell hYw _⟩
          · right
            simp [Value.ownBlock]
            omega
          · cases hq : (Value.slice p2 cb c2).ownBlock with
            | none => exact .inl rfl
            | some q2 =>
              right
              have := HR2c.out q2 hq
              simp
              omega
        have HYC : Hid ((w7.setCell ⟨Y, 2, none⟩ (.string T)).cell? ⟨Y, 0, none⟩ = some (.int .i64 7) ∧ (w7.setCell ⟨Y, 2, none⟩ (.string T)).cell? ⟨Y, 1, none⟩ = some (.int .i64 (n : Int)) ∧ (w7.setCell ⟨Y, 2, none⟩ (.string T)).cell? ⟨Y, 2, none⟩ = some (.string T) ∧ (w7.setCell ⟨Y, 2, none⟩ (.string T)).cell? ⟨Y, 3, none⟩ = some (.int .i64 (Sh.sum (Sh.pc t n))) ∧ (w7.setCell ⟨Y, 2, none⟩ (.string T)).cell? ⟨X, 0, none⟩ = some (.int .i64 (n : Int))) :=
          ⟨(World.cell?_setCell_other _ _ _ _ (by simp)).trans e0, (World.cell?_setCell_other _ _ _ _ (by simp)).trans e1, World.cell?_setCell_same _ _ _ e2, (World.cell?_setCell_other _ _ _ _ (by simp)).trans e3, (World.cell?_setCell_other _ _ _ _ (fun e => hXY (Addr.mk.inj e).1.symm)).trans z00⟩
        have hX7 : X < (w7.setCell ⟨Y, 2, none⟩ (.string T)).heap.size := by simpa [World.setCell] using hX7'
        have hY7 : Y < (w7.setCell ⟨Y, 2, none⟩ (.string T)).heap.size := by simpa [World.setCell] using hYl
        clear hgY HS7a HR2c z00
        have hTe := HSS.out.2.2 rfl
        subst hTe
        go_wp2_with fail
        obtain ⟨W7, hW7⟩ : ∃ W7, w7.setCell ⟨Y, 2, none⟩ (.string (Sh.pc t n)) = W7 := ⟨_, rfl⟩
        rw [hW7] at HS7 HYC hX7 hY7 ⊢
        obtain ⟨y0, y1, y2, y3, z0⟩ := HYC.out
        clear hW7 HYC e0 e1 e2 e3 f2
        have HQA : Hid (Sh.addE (Sh.mf 7 t) (Sh.part t h) (Sh.sd 7 t n) = 0 ∧ Sh.addB (Sh.mf 7 t) (Sh.part t h) (Sh.sd 7 t n) = !h n ∧ Sh.addF (Sh.mf 7 t) (Sh.part t h) (Sh.sd 7 t n) = Sh.part t (fun j => h j || decide (j = n))) := ⟨Sh.addE_part hnc, Sh.addB_part hnc, Sh.addF_part hnc⟩
        refine (add_any A (Sh.mf 7 t) (Sh.sd 7 t n) (Sh.part t h) _ (HT.out.up HS7.out.2.2.2) HS7.out.1.1 HOK.out HPS.out).mono ?_
        rintro e w8 ⟨rfl, hA8, hg8⟩
        rw [HQA.out.2.2] at hA8
        rw [HQA.out.1, HQA.out.2.1]
        have H8 : Hid (AsmAt w8 A (Sh.mf 7 t) (Sh.part t (fun j => h j || decide (j = n))) ∧ BoolsAt w8 H ca h ∧ Row SE w8 w.heap.size 36 (.slice (some ⟨g1, 0, none⟩) ca c1) (Sh.sds 7 t ca) ∧ Row SE w8 w.heap.size 36 (.slice p2 cb c2) (Sh.sds 8 o cb) ∧ Below w.heap.size w w8) := HS7.out.add hg8 hA8
        have kB : ∀ b j, b < W7.heap.size → ¬ b = A → w8.cell? ⟨b, j, none⟩ = W7.cell? ⟨b, j, none⟩ := fun b j hb hn => cell_block (p := ⟨b, j, none⟩) (hg8.block b hb (by simpa using hn))
        have m0 : w8.cell? ⟨X, 0, none⟩ = some (.int .i64 (n : Int)) := (kB X 0 hX7 hXA).trans z0
        have s2 : w8.cell? ⟨Y, 2, none⟩ = some (.string (Sh.pc t n)) := (kB Y 2 hY7 hYA).trans y2
        obtain ⟨g1', cp1', hv1, _, _, _, _, x2, _⟩ := H8.out.2.2.1.elem (i := n) (x := Sh.sd 7 t n) (Sh.sds_get hn)
        rw [Sh.sds_length] at hv1
        have hgg : g1 = g1' := by simp at hv1; exact hv1.1
        subst hgg
        have x2' : w8.cell? ⟨g1, n * 4 + 2, none⟩ = some (.string (Sh.pc t n)) := x2
        obtain ⟨b0, bf⟩ := H8.out.2.1.cell hn
        have hdd : ((Sh.pc t n).toList != (Sh.pc t n).toList) = false := by simp
        have hde : ((Sh.pc t n).toList == (Sh.pc t n).toList) = true := by simp
        clear hA8 hg8 kB x2 HQA HS7 z0 y0 y1 y2 y3 hv1
        have HPX : Hid (∀ v, v = Sh.pc t n → v.size ≤ maxLen) := fun v hv => by rw [hv]; exact HPS.out
        generalize Sh.pc t n = P at *
        go_wp2
        go_quiet (fail)
        have bh : ((!h n) == h n) = false := by cases h n <;> rfl
        have HW9 : Hid (WS ((w8.drewN nq).setCell ⟨H, n, none⟩ (.bool true)) w A H ca cb t o (some ⟨g1, 0, none⟩) p2 c1 c2 (fun j => h j || decide (j = n))) := WS.mark (wr := w8.drewN nq) H8.out.1 H8.out.2.1 HAH.out.1 HAH.out.2 (H8.out.2.2.1.drew nq) (H8.out.2.2.2.1.drew nq) (Go.below_drewN H8.out.2.2.2.2 nq) (fun _ => rfl)
        have hXH' : ¬ H = X := fun e => hXH e.symm
        go_wp2_with fail
        obtain ⟨W9, hW9⟩ : ∃ W9, (w8.drewN nq).setCell ⟨H, n, none⟩ (.bool true) = W9 := ⟨_, rfl⟩
        rw [hW9] at HW9 ⊢
        clear hW9 b0 bf m0 s2 x2' H8
        refine (text_any A (Sh.mf 7 t) _ _ (HT.out.up HW9.out.2.2.2) HW9.out.1.1 HOK.out (Sh.part_le _ _)).mono ?_
        rintro e w10 ⟨rfl, hb10⟩
        have HW10 : Hid (WS w10 w A H ca cb t o (some ⟨g1, 0, none⟩) p2 c1 c2 (fun j => h j || decide (j = n))) := HW9.out.up hb10
        clear hb10 HW9
        obtain ⟨tE, htE⟩ : ∃ tE, Sh.txtE (Sh.mf 7 t) (Sh.part t (fun j => h j || decide (j = n))) = tE := ⟨_, rfl⟩
        obtain ⟨tX, htX⟩ : ∃ tX, Sh.txt (Sh.mf 7 t) (Sh.part t (fun j => h j || decide (j = n))) = tX := ⟨_, rfl⟩
        have HTE : Hid (Sh.txtE (Sh.mf 7 t) (Sh.part t (fun j => h j || decide (j = n))) = tE) := htE
        have HTX : Hid (Sh.txt (Sh.mf 7 t) (Sh.part t (fun j => h j || decide (j = n))) = tX) := htX
        rw [htE, htX]
        clear htE htX
        go_wp2_with fail
        refine (missing_any A (Sh.mf 7 t) _ _ HW10.out.1.1 HOK.out).mono ?_
        rintro e w11 ⟨vm, nm, rfl, ho11, hb11⟩
        have HW11 : Hid (WS w11 w A H ca cb t o (some ⟨g1, 0, none⟩) p2 c1 c2 (fun j => h j || decide (j = n))) := HW10.out.up hb11
        have HNM : Hid (nm = (Sh.mis (Sh.part t (fun j => h j || decide (j = n))) ca).length) := by have := ho11.1; rw [HMS.out] at this; simp at this; show nm = _; omega
        obtain ⟨pm, cm, rfl⟩ : ∃ pm cm, vm = .slice pm nm cm := by
          rcases ho11.2 with ⟨rfl, rfl⟩ | ⟨g, cap, cur, rfl, _⟩
          · exact ⟨_, _, rfl⟩
          · exact ⟨_, _, rfl⟩
        have HH2 : Hid (∀ j, na + j < i + 1 → j < ca → (h j || decide (j = n)) = true) := fun j hj hc => by
          by_cases e : j = n
          · simp [e]
          · rw [HH.out j (by have := HIN.out; omega) hc]; rfl
        clear ho11 hb11 HW10
        by_cases hall : ∀ j, j < ca → (h j || decide (j = n)) = true
        · have hT0 : nm = 0 := by rw [HNM.out, ← HCA.out]; exact Sh.gap_part.2 (fun j hj => hall j (by rw [← HCA.out]; exact hj))
          obtain ⟨hE, hS⟩ := Sh.txt_full (op := 7) (t := t) (h := fun j => h j || decide (j = n)) (fun j hj => hall j (by rw [← HCA.out]; exact hj))
          have hE' : tE = 0 := HTE.out.symm.trans hE
          have hS' : tX = t := HTX.out.symm.trans hS
          subst hE'
          subst hS'
          subst hT0
          have htt : (tX.toList != tX.toList) = false := by simp
          clear hE hS hall
          go_wp2
          go_roundw
          case rel => exact ⟨i + 1, _, by omega, by go_num, HW11, HH2⟩
          case measure => simp [intOf]; omega
        · obtain ⟨j, hj⟩ := Classical.not_forall.1 hall
          have hjc : j < ca := Classical.byContradiction fun h1 => hj (fun h2 => absurd h2 h1)
          have hjf : (h j || decide (j = n)) = false := by
            cases hq : (h j || decide (j = n)) with
            | false => rfl
            | true => exact absurd (fun _ => hq) hj
          have hT0 : nm ≠ 0 := by
            rw [HNM.out, ← HCA.out]
            intro h0
            have := Sh.gap_part.1 h0 j (by rw [HCA.out]; exact hjc)
            rw [hjf] at this
            cases this
          have hE' : tE = 7 := HTE.out.symm.trans (Sh.txt_gap (op := 7) (t := t) (h := fun j => h j || decide (j = n)) (i := j) (by rw [HCA.out]; exact hjc) hjf)
          have hT1 : ((nm : Int) == 0) = false := by simp; omega
          subst hE'
          clear hall hj hjc hjf hT0
          go_wp2
          go_roundw
          case rel => exact ⟨i + 1, _, by omega, by go_num, HW11, HH2⟩
          case measure => simp [intOf]; omega
    · obtain rfl : i = na + ca := by omega
      have HALL : Hid (Sh.txtE (Sh.mf 7 t) (Sh.part t h) = 0 ∧ Sh.txt (Sh.mf 7 t) (Sh.part t h) = t) := Sh.txt_full (fun j hj => HH.out j (by rw [HCA.out] at hj; omega) (by rw [← HCA.out]; exact hj))
      go_wp2_with fail
      refine (text_any A (Sh.mf 7 t) _ _ (HT.out.up HS5.out.2.2.2) HS5.out.1.1 HOK.out (Sh.part_le _ _)).mono ?_
      rintro e w10 ⟨rfl, hb10⟩
      rw [HALL.out.1, HALL.out.2]
      have HB10 : Hid (Below w.heap.size w w10) := bup HS5.out.2.2.2 hb10
      clear hb10
      have htt : (t.toList == t.toList) = true := by simp
      go_wp2_with fail
      refine (two_any _ (HT.out.up HB10.out)).mono ?_
      rintro e w99 ⟨rfl, hb99⟩
      have HB99 : Hid (Below w.heap.size w w99) := bup HB10.out hb99
      clear hb99
      go_wp2
      go_ret
      exact ⟨rfl, HB99.out⟩

theorem shardWhole_contract (H : Type) (enc : TypeId × Value → H) (W : World) (base : Nat) (args : Array Value) (ds gs : List (DataW H)) (before : List MemPlace)
    (hval : ∀ (j : Nat) t v, Tryd.f5.params[j]? = some t → args[j]? = some v → Value.okWide Tryd.prog W .any base t v)
    (hW : DataW.Whole enc Tryd.prog Tryd.f5.params.toList Rows.shardWholeSpec.vars false W args.toList ds gs before) (hL : laidMetH Tryd.prog Rows.shardWholeRow.laid W) :
    Calls Tryd.prog 5 args W fun e W' => ∃ v, e = .returned v ∧ Rows.shardWholeSpec.post enc Tryd.prog Tryd.f5 false true false false W args v W' := by
  have hW' := hW
  obtain ⟨p, q, hA0, hV, rfl, hfz, hnd⟩ := hW
  have hA : DataW.TrodAll enc Tryd.prog W 0 (fun _ => true) true Tryd.f5.params.toList args.toList ds p := hA0
  rw [Tryd.params5] at hA hval
  obtain ⟨v0, v1, v2, d0, d1, d2, p0, p1, p2, rfl, rfl, rfl, h0, h1, h2⟩ := trodAll_three hA
  obtain ⟨rfl, rfl⟩ := trodVars_none hV
  obtain ⟨a0, rfl, rfl, rfl, w0⟩ := open_string Tryd.underlying9 (hval 0 9 v0 rfl rfl) h0
  obtain ⟨a1, rfl, rfl, rfl, w1⟩ := open_string Tryd.underlying9 (hval 1 9 v1 rfl rfl) h1
  obtain ⟨a2, w2⟩ := open_acts (okWide_slice Tryd.underlying59 (hval 2 59 v2 rfl rfl)) h2
  refine (whole_law a0 a1 v2 a2 W (table hL) w0 w1 w2).mono fun e W' ⟨he, hg⟩ => ⟨_, he, ?_⟩
  exact Law.post laidOut (by kernel_rfl) rfl Tryd.underlying4 hW' rfl rfl hg
theorem shardWhole_laid_met (os : Os) : laidMet Tryd.prog Rows.shardWholeRow.laid ((laidWorld Tryd.prog os).forCall (fun _ _ => 0) ⟨#[], #[.string .empty, .string .empty, .slice none 0 0], []⟩).memory :=
  laidMet_of_run' 8 (by kernel_rfl) (by kernel_rfl)
theorem shardWhole_reads (os : Os) {H : Type} (enc : TypeId × Value → H) : ∃ places, DataW.whole enc Tryd.prog ((laidWorld Tryd.prog os).forCall (fun _ _ => 0) ⟨#[], #[.string .empty, .string .empty, .slice none 0 0], []⟩).memory Tryd.f5.params.toList Rows.shardWholeSpec.vars false (#[.string .empty, .string .empty, .slice none 0 0] : Array Value).toList 8 = some ([.lit (.string []), .lit (.string []), .nil], [], places) :=
  ⟨[], by kernel_rfl⟩

set_option maxRecDepth 100000 in
theorem shardWhole_lifted (os : Os) (started : os.Started) (H : Type) (enc : TypeId × Value → H) (F : Stop.Interp) :
    ReturnsInHanded {} Tryd.checked os 5 .any ((OpenSpec.ofChange Rows.shardWholeSpec).preRow enc Tryd.prog Tryd.f5 Rows.shardWholeRow.domain false Rows.shardWholeRow.laid) (((OpenSpec.ofChange Rows.shardWholeSpec).at F).post enc Tryd.prog Tryd.f5 false true false false) := by
  obtain ⟨places, hx⟩ := shardWhole_reads os enc
  refine returnsInHanded_of_row (C := Tryd.checked) (s := OpenSpec.ofChange Rows.shardWholeSpec) own started (by kernel_rfl) Tryd.func5
    (witness_row_at (enc := enc) (C := Tryd.checked) false (laidWorld Tryd.prog os) #[.string .empty, .string .empty, .slice none 0 0] rfl (by kernel_rfl) (by kernel_rfl) (by kernel_rfl)
      (OpenSpec.preRow_of_cond 8 hx (by kernel_rfl) (fun k hk => by cases hk) (by kernel_rfl) (shardWhole_laid_met os))) ?_
  intro W base args ds gs before hval hW _ _ _ hL _ _
  exact shardWhole_contract H enc W base args ds gs before hval hW hL

theorem shardWhole_said : Rows.ShardWholeSaid :=
  OpenClaim.holds_of_cond 5 Tryd.f5 rfl rfl rfl rfl rfl rfl rfl ⟨rfl, rfl, rfl, rfl, rfl⟩ rfl rfl rfl rfl rfl (by kernel_rfl) Tryd.func5 (by kernel_rfl)
    (of_decide_eq_true (by kernel_rfl)) (by unfold Func.isWrapper; first | (rw [if_pos (by decide +kernel)]; kernel_rfl) | (rw [if_neg (by decide +kernel)]; exact ⟨rfl, rfl⟩))
    (fun os started H enc _ F => by rw [OpenClaim.pre_eq_preRow]; exact shardWhole_lifted os started H enc F)

theorem shardWhole_plain (f : FuncId) (fn : Func) (hf : Tryd.pinned.checked.prog.funcNamed "sexton/sextonlaw19.ShardWhole" = some f) (hfn : Tryd.pinned.checked.prog.funcs[f]? = some fn) :
    false = Tryd.pinned.checked.prog.looks [] ∧ ∀ (j : Nat) t, fn.params[j]? = some t → Tryd.pinned.checked.prog.wantsStandIn t = false := by
  obtain rfl : f = 5 := Option.some.inj ((show Tryd.prog.funcNamed "sexton/sextonlaw19.ShardWhole" = some 5 by kernel_rfl).symm.trans hf) |>.symm
  obtain rfl : fn = Tryd.f5 := (Option.some.inj (Tryd.func5.symm.trans hfn)).symm
  refine ⟨by kernel_rfl, fun j t ht => ?_⟩
  rw [Tryd.params5] at ht
  have hm : t = 9 ∨ t = 59 := by simpa using Array.mem_of_getElem? ht
  rcases hm with rfl | rfl
  · exact (show Tryd.prog.wantsStandIn 9 = false by kernel_rfl)
  · exact (show Tryd.prog.wantsStandIn 59 = false by kernel_rfl)

theorem shardWhole_card : Rows.ShardWholeCardSaid :=
  Claim7.holds_tied_plain_at .later [] _ _ _ _ shardWhole_said (fun _ h => by cases h) (by kernel_rfl) (fun _ h => by cases h) shardWhole_row_tie rfl ⟨rfl, rfl⟩ (by kernel_rfl) rfl shardWhole_plain (by kernel_rfl)
#print axioms shardWhole_card
end Go.Proofs.YtceeafmahoelfaaDoor
