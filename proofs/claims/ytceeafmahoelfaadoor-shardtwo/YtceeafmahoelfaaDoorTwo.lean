/-
  For any two strings and any slice of bools sextonlaw19.ShardTwo returns true, whatever the memory that holds the table halves as the text of the program lays it: whatever shards of one text and of another one of the same number come, one text is told, or none. No other condition.
-/
import Derived.Test.YtceeafmahoelfaaDoorCards
import Derived.Test.YtceeafmahoelfaaDoorTie
import Derived.Test.YtceeafmahoelfaaDoorHPick
import Derived.Test.YtceeafmahoelfaaDoorHLaw
namespace Go.Proofs.YtceeafmahoelfaaDoor
open Go.ChangeShapes Go.WideShapes Go.ChangeAt Go.RowKit
open Go.ChangeMaps (open_string)

set_option maxRecDepth 100000 in
set_option maxRecDepth 100000 in
set_option maxHeartbeats 16000000 in
theorem two_law (a b : ByteArray) (v : Value) (pk : List Bool) (w : World) (hT : Tab w) (hsa : a.size ≤ maxLen) (hsb : b.size ≤ maxLen) (hv : AtW BE w v pk) : Calls Tryd.prog 7 #[.string a, .string b, v] w fun e w' => e = .returned (.bool true) ∧ Below w.heap.size w w' := by
  have HT : Hid (Tab w) := hT
  have HV : Hid (AtW BE w v pk) := hv
  have HSA : Hid (a.size ≤ maxLen) := hsa
  have HSB : Hid (b.size ≤ maxLen) := hsb
  obtain ⟨ao, cap, rfl, hml, _⟩ := hv.open
  unfold maxLen at hml hsa hsb
  clear hT hv
  go_enter Tryd.func7, Tryd.ntmps7
  by_cases ha4 : 4000 < (a.size : Int)
  · go_wp2_with fail
    refine (two_any _ HT.out).mono ?_
    rintro e w4 ⟨rfl, hb4⟩
    have HB4 : Hid (Below w.heap.size w w4) := hb4
    clear hb4
    go_wp2
    go_ret
    exact ⟨rfl, HB4.out⟩
  by_cases hb4 : 4000 < (b.size : Int)
  · go_wp2_with fail
    refine (two_any _ HT.out).mono ?_
    rintro e w4 ⟨rfl, hb4⟩
    have HB4 : Hid (Below w.heap.size w w4) := hb4
    clear hb4
    go_wp2
    go_ret
    exact ⟨rfl, HB4.out⟩
  go_wp2_with fail
  refine (split_any 7 a _ HT.out HSA.out).mono ?_
  rintro e w1 ⟨v1, rfl, hrow1, hb1⟩
  obtain ⟨p1, c1, hv1⟩ := hrow1.slice
  subst hv1
  have HB1 : Hid (Below w.heap.size w w1) := hb1
  have HT1 : Hid (Tab w1) := HT.out.up hb1
  have HR1 : Hid (Row SE w1 w.heap.size 36 (.slice p1 (Sh.splL 7 a).length c1) (Sh.splL 7 a)) := hrow1
  have HMV : Hid ((Sh.splM 7 a).val = .agg #[.int .i64 (Sh.splM 7 a).op, .int .i64 (Sh.splM 7 a).size, .int .i64 (Sh.splM 7 a).sum]) := rfl
  have HMW : Hid ((Sh.splM 7 b).val = .agg #[.int .i64 (Sh.splM 7 b).op, .int .i64 (Sh.splM 7 b).size, .int .i64 (Sh.splM 7 b).sum]) := rfl
  rw [HMV.out]
  clear hrow1 hb1
  obtain ⟨Ma, hMa⟩ : ∃ Ma, Sh.splM 7 a = Ma := ⟨_, rfl⟩
  have HMa : Hid (Sh.splM 7 a = Ma) := hMa
  obtain ⟨Mb, hMb⟩ : ∃ Mb, Sh.splM 7 b = Mb := ⟨_, rfl⟩
  have HMb : Hid (Sh.splM 7 b = Mb) := hMb
  rw [hMb] at HMW
  rw [hMa]
  clear hMa hMb HMV
  go_wp2_with fail
  refine (split_any 7 b _ (HT1.out.up (below_alloc _ _)) HSB.out).mono ?_
  rintro e w2 ⟨v2, rfl, hrow2, hb2⟩
  obtain ⟨p2, c2, hv2⟩ := hrow2.slice
  subst hv2
  have hb12 : Below w1.heap.size w1 w2 := bup (below_alloc _ _) hb2
  have HB2 : Hid (Below w.heap.size w w2) := bup HB1.out hb12
  have HT2 : Hid (Tab w2) := HT1.out.up hb12
  have HR12 : Hid (Row SE w2 w.heap.size 36 (.slice p1 (Sh.splL 7 a).length c1) (Sh.splL 7 a)) := HR1.out.up hb12
  have HR22 : Hid (Row SE w2 w.heap.size 36 (.slice p2 (Sh.splL 7 b).length c2) (Sh.splL 7 b)) := hrow2.low (by have := HB1.out.size; simp; omega)
  rw [HMb.out, HMW.out]
  have y0 : w2.cell? ⟨w1.heap.size, 0, none⟩ = some (.int .i64 Ma.op) := (hb2.cell (p := ⟨w1.heap.size, 0, none⟩) (by simp)).trans (by simp)
  have y1 : w2.cell? ⟨w1.heap.size, 1, none⟩ = some (.int .i64 Ma.size) := (hb2.cell (p := ⟨w1.heap.size, 1, none⟩) (by simp)).trans (by simp)
  have y2 : w2.cell? ⟨w1.heap.size, 2, none⟩ = some (.int .i64 Ma.sum) := (hb2.cell (p := ⟨w1.heap.size, 2, none⟩) (by simp)).trans (by simp)
  have hX1 : w1.heap.size < w2.heap.size := by have := hb2.size; simp at this; omega
  have hA3 := below_alloc w2 (.cells #[.int .i64 Mb.op, .int .i64 Mb.size, .int .i64 Mb.sum] 23)
  have HB3 : Hid (Below w.heap.size w (w2.alloc (.cells #[.int .i64 Mb.op, .int .i64 Mb.size, .int .i64 Mb.sum] 23))) := bup HB2.out hA3
  have HY3 : Hid ((w2.alloc (.cells #[.int .i64 Mb.op, .int .i64 Mb.size, .int .i64 Mb.sum] 23)).cell? ⟨w1.heap.size, 0, none⟩ = some (.int .i64 Ma.op) ∧ (w2.alloc (.cells #[.int .i64 Mb.op, .int .i64 Mb.size, .int .i64 Mb.sum] 23)).cell? ⟨w1.heap.size, 2, none⟩ = some (.int .i64 Ma.sum)) := ⟨(hA3.cell (p := ⟨w1.heap.size, 0, none⟩) hX1).trans y0, (hA3.cell (p := ⟨w1.heap.size, 2, none⟩) hX1).trans y2⟩
  have HR13 : Hid (Row SE (w2.alloc (.cells #[.int .i64 Mb.op, .int .i64 Mb.size, .int .i64 Mb.sum] 23)) w.heap.size 36 (.slice p1 (Sh.splL 7 a).length c1) (Sh.splL 7 a)) := HR12.out.up hA3
  have HR23 : Hid (Row SE (w2.alloc (.cells #[.int .i64 Mb.op, .int .i64 Mb.size, .int .i64 Mb.sum] 23)) w.heap.size 36 (.slice p2 (Sh.splL 7 b).length c2) (Sh.splL 7 b)) := HR22.out.up hA3
  clear hrow2 hb2 hb12 HR1 HB1 HT1 HR12 HR22
  by_cases ha0 : a.size = 0
  · have HE : Hid (Sh.splE 7 a = 2) := show Sh.splE 7 a = 2 by unfold Sh.splE; rw [if_pos ⟨by decide, by decide⟩, if_neg (by omega)]
    have HNO : Hid (Sh.okM Ma = false) := show Sh.okM Ma = false by rw [← HMa.out]; unfold Sh.splM; rw [HE.out]; rfl
    rw [HE.out]
    go_wp2_with fail
    refine (new_no Ma _ HNO.out).mono ?_
    rintro e w3 ⟨rfl, hb3⟩
    have HB4 : Hid (Below w.heap.size w w3) := bup HB3.out hb3
    clear hb3
    generalize Sh.splE 7 b = eb at *
    go_wp2_with fail
    refine (two_any _ (HT.out.up HB4.out)).mono ?_
    rintro e w4 ⟨rfl, hb4⟩
    have HB5 : Hid (Below w.heap.size w w4) := bup HB4.out hb4
    clear hb4
    go_wp2
    go_ret
    exact ⟨rfl, HB5.out⟩
  have HE : Hid (Sh.splE 7 a = 0) := show Sh.splE 7 a = 0 by unfold Sh.splE; rw [if_pos ⟨by decide, by decide⟩, if_pos (by omega)]
  have HMF : Hid (Ma = Sh.mf 7 a) := show Ma = Sh.mf 7 a by rw [← HMa.out]; unfold Sh.splM; rw [HE.out]; rfl
  have HOK : Hid (Sh.okM Ma = true) := show Sh.okM Ma = true by rw [HMF.out]; exact Sh.mf_ok ⟨by decide, by decide⟩ (by omega)
  rw [HE.out]
  have HLA : Hid (Sh.splL 7 a = Sh.sds 7 a (Sh.cnt a.size)) := show Sh.splL 7 a = _ by unfold Sh.splL; rw [HE.out]; rfl
  go_wp2_with fail
  refine (new_ok Ma _ HOK.out).mono ?_
  rintro e w3 ⟨A, rfl, hAs, hA4, hb3⟩
  have hAw : w.heap.size ≤ A := by have := HB3.out.size; omega
  have HB4 : Hid (Below w.heap.size w w3) := bup HB3.out hb3
  have HA4 : Hid (AsmAt w3 A (Sh.mf 7 a) (fun _ => ⟨#[]⟩)) := show AsmAt w3 A (Sh.mf 7 a) (fun _ => ⟨#[]⟩) by rw [← HMF.out]; exact hA4
  have HR14 : Hid (Row SE w3 w.heap.size 36 (.slice p1 (Sh.splL 7 a).length c1) (Sh.splL 7 a)) := HR13.out.up hb3
  have HR24 : Hid (Row SE w3 w.heap.size 36 (.slice p2 (Sh.splL 7 b).length c2) (Sh.splL 7 b)) := HR23.out.up hb3
  have hX3 : w1.heap.size < (w2.alloc (.cells #[.int .i64 Mb.op, .int .i64 Mb.size, .int .i64 Mb.sum] 23)).heap.size := by simp; omega
  have HY4 : Hid (w3.cell? ⟨w1.heap.size, 0, none⟩ = some (.int .i64 Ma.op) ∧ w3.cell? ⟨w1.heap.size, 2, none⟩ = some (.int .i64 Ma.sum)) := ⟨(hb3.cell (p := ⟨w1.heap.size, 0, none⟩) hX3).trans HY3.out.1, (hb3.cell (p := ⟨w1.heap.size, 2, none⟩) hX3).trans HY3.out.2⟩
  have hAX : w1.heap.size < A := by simp at hAs hX3; omega
  have HT4 : Hid (Tab w3) := HT.out.up HB4.out
  have hXw : w1.heap.size < w3.heap.size := by have := HA4.out.lt; omega
  clear hb3 hA4 hAs HR13 HR23 HB3 HY3 hA3 y0 y1 y2 HB2 HT2 hX3
  by_cases hb0 : b.size = 0
  · have HEB : Hid (Sh.splE 7 b = 2) := show Sh.splE 7 b = 2 by unfold Sh.splE; rw [if_pos ⟨by decide, by decide⟩, if_neg (by omega)]
    rw [HEB.out]
    go_wp2_with fail
    refine (two_any _ HT4.out).mono ?_
    rintro e w4 ⟨rfl, hb4⟩
    have HB5 : Hid (Below w.heap.size w w4) := bup HB4.out hb4
    clear hb4
    go_wp2
    go_ret
    exact ⟨rfl, HB5.out⟩
  have HEB : Hid (Sh.splE 7 b = 0) := show Sh.splE 7 b = 0 by unfold Sh.splE; rw [if_pos ⟨by decide, by decide⟩, if_pos (by omega)]
  have HLB : Hid (Sh.splL 7 b = Sh.sds 7 b (Sh.cnt b.size)) := show Sh.splL 7 b = _ by unfold Sh.splL; rw [HEB.out]; rfl
  rw [HEB.out]
  rw [HLA.out, Sh.sds_length] at HR14
  rw [HLB.out, Sh.sds_length] at HR24
  rw [HLA.out, HLB.out, Sh.sds_length, Sh.sds_length]
  have hca := Sh.cnt_le (n := a.size) (by omega)
  have hcb := Sh.cnt_le (n := b.size) (by omega)
  obtain ⟨ca, hcae⟩ : ∃ ca, Sh.cnt a.size = ca := ⟨_, rfl⟩
  obtain ⟨cb, hcbe⟩ : ∃ cb, Sh.cnt b.size = cb := ⟨_, rfl⟩
  have HCA : Hid (Sh.cnt a.size = ca) := hcae
  have HCB : Hid (Sh.cnt b.size = cb) := hcbe
  rw [hcae] at HR14 hca ⊢
  rw [hcbe] at HR24 hcb ⊢
  clear hcae hcbe
  go_wp2
  go_loopw [15, 66] (fun x u wr => ∃ (k : Nat) (bm : Bool) (f : Nat → ByteArray), k ≤ ca ∧ u = .int .i64 k ∧ x = .bool bm ∧ Hid (AsmAt wr A (Sh.mf 7 a) f) ∧ Hid (∀ j, j < k → (f j).size = (Sh.pc a j).size) ∧ Hid (∀ j, k ≤ j → f j = ⟨#[]⟩) ∧ Hid (bm = false ↔ ∀ j, j < k → f j = Sh.pc a j) ∧ Hid (w3.grownBy wr (some A))) (fun _ u _ => ca - (intOf u).toNat)
  case atStart => exact ⟨0, false, fun _ => ⟨#[]⟩, Nat.zero_le _, rfl, rfl, HA4, fun j hj => by omega, fun _ _ => rfl, show (false = false ↔ _) from ⟨fun _ j hj => by omega, fun _ => rfl⟩, grown_refl _ _⟩
  case round =>
    obtain ⟨k, bm, f, hk, rfl, rfl, HA, HF1, HF2, HBM, HG⟩ := hrel
    have HAl := HA.out.lt
    have HTr : Hid (Tab wr) := HT4.out.grown HG.out (HA4.out.ne_zero HT4.out)
    have HBr : Hid (Below w.heap.size w wr) := HB4.out.grown HG.out HB4.out.size (fun j hj => by cases hj; exact hAw)
    have HR1r : Hid (Row SE wr w.heap.size 36 (.slice p1 ca c1) (Sh.sds 7 a ca)) := HR14.out.kept HG.out (by
      rcases HR14.out with ⟨hv, _⟩ | ⟨g, cp, cur, hv, _, hh, _⟩
      · rw [hv]; exact .inl rfl
      · right
        rw [hv]
        intro e
        simp [Value.ownBlock] at e
        obtain ⟨cur2, hh2, _⟩ := HA4.out
        rw [← e, hh] at hh2
        cases hh2)
    have HR2r : Hid (Row SE wr w.heap.size 36 (.slice p2 cb c2) (Sh.sds 7 b cb)) := HR24.out.kept HG.out (by
      rcases HR24.out with ⟨hv, _⟩ | ⟨g, cp, cur, hv, _, hh, _⟩
      · rw [hv]; exact .inl rfl
      · right
        rw [hv]
        intro e
        simp [Value.ownBlock] at e
        obtain ⟨cur2, hh2, _⟩ := HA4.out
        rw [← e, hh] at hh2
        cases hh2)
    by_cases hlt : k < ca
    · obtain ⟨g1, cp1, hv1, _, hg1, x0, x1, x2, x3⟩ := HR1r.out.elem (i := k) (x := Sh.sd 7 a k) (Sh.sds_get hlt)
      rw [Sh.sds_length] at hv1
      cases hv1
      have hlac : k < Sh.cnt a.size := by rw [HCA.out]; exact hlt
      have hltI : (k : Int) < (ca : Int) := by omega
      have hk0 : (0 : Int) ≤ (k : Int) := by omega
      have x0' : wr.cell? ⟨g1, k * 4, none⟩ = some (.int .i64 7) := x0
      have x1' : wr.cell? ⟨g1, k * 4 + 1, none⟩ = some (.int .i64 (k : Int)) := x1
      have x2' : wr.cell? ⟨g1, k * 4 + 2, none⟩ = some (.string (Sh.pc a k)) := x2
      have x3' : wr.cell? ⟨g1, k * 4 + 3, none⟩ = some (.int .i64 (Sh.sum (Sh.pc a k))) := x3
      clear x0 x1 x2 x3
      have HPA := Sh.add_pick (op := 7) (t := a) (u := a) (f := f) hlac rfl (HF2.out k (Nat.le_refl _))
      have HNP : Hid (Sh.addE (Sh.mf 7 a) f (Sh.sd 7 a k) = 0 ∧ Sh.addB (Sh.mf 7 a) f (Sh.sd 7 a k) = true ∧ ∀ j, Sh.addF (Sh.mf 7 a) f (Sh.sd 7 a k) j = if j = k then Sh.pc a k else f j) := HPA
      have HPS : Hid ((Sh.pc a k).size ≤ maxLen) := show (Sh.pc a k).size ≤ maxLen by
        have h1 := Sh.pc_size hlac
        have h2 := Sh.psz_pos hlac
        unfold maxLen
        omega
      have HOKm : Hid (Sh.okM (Sh.mf 7 a) = true) := show Sh.okM (Sh.mf 7 a) = true by rw [← HMF.out]; exact HOK.out
      clear HPA
      have hqp : (k < pk.length ∧ pk[k]? = some true ∧ k < cb ∧ (Sh.pc b k).size = (Sh.pc a k).size) ∨ (¬ k < pk.length) ∨ (k < pk.length ∧ pk[k]? = some false) ∨ (k < pk.length ∧ pk[k]? = some true ∧ ¬ k < cb) ∨ (k < pk.length ∧ pk[k]? = some true ∧ k < cb ∧ ¬ (Sh.pc b k).size = (Sh.pc a k).size) := by
        by_cases h1 : k < pk.length
        · rw [List.getElem?_eq_getElem h1]
          cases pk[k] with
          | false => exact .inr (.inr (.inl ⟨h1, rfl⟩))
          | true =>
            by_cases h2 : k < cb
            · by_cases h3 : (Sh.pc b k).size = (Sh.pc a k).size
              · exact .inl ⟨h1, rfl, h2, h3⟩
              · exact .inr (.inr (.inr (.inr ⟨h1, rfl, h2, h3⟩)))
            · exact .inr (.inr (.inr (.inl ⟨h1, rfl, h2⟩)))
        · exact .inr (.inl h1)
      rcases hqp with ⟨q1, q2, q3, q4⟩ | q1 | ⟨q1, q2⟩ | ⟨q1, q2, q3⟩ | ⟨q1, q2, q3, q4⟩
      · obtain ⟨ao', cap', hv', _, hx⟩ := (HV.out.up HBr.out).open
        obtain ⟨b9, off9, hao, _, hbl9, hc⟩ := hx k _ q2
        simp only [Value.slice.injEq, true_and] at hv'
        obtain ⟨rfl, rfl⟩ := hv'
        subst hao
        have y0 := hc 0 _ rfl
        simp only [show BE.sz = 1 from rfl, Nat.add_zero, Nat.mul_one] at y0
        clear hx hc
        have hkp : (k : Int) < (pk.length : Int) := by omega
        obtain ⟨g2, cp2, hv2, _, hg2, w0, w1', w2', w3'⟩ := HR2r.out.elem (i := k) (x := Sh.sd 7 b k) (Sh.sds_get q3)
        rw [Sh.sds_length] at hv2
        cases hv2
        have u0 : wr.cell? ⟨g2, k * 4, none⟩ = some (.int .i64 7) := w0
        have u1 : wr.cell? ⟨g2, k * 4 + 1, none⟩ = some (.int .i64 (k : Int)) := w1'
        have u2 : wr.cell? ⟨g2, k * 4 + 2, none⟩ = some (.string (Sh.pc b k)) := w2'
        have u3 : wr.cell? ⟨g2, k * 4 + 3, none⟩ = some (.int .i64 (Sh.sum (Sh.pc b k))) := w3'
        clear w0 w1' w2' w3'
        have hkb : (k : Int) < (cb : Int) := by omega
        have q5 : ((Sh.pc b k).size : Int) = ((Sh.pc a k).size : Int) := by omega
        have hqq : (((Sh.pc b k).size : Int) == ((Sh.pc a k).size : Int)) = true := by simp [q5]
        have HPB : Hid (Sh.addE (Sh.mf 7 a) f (Sh.sd 7 b k) = 0 ∧ Sh.addB (Sh.mf 7 a) f (Sh.sd 7 b k) = true ∧ ∀ j, Sh.addF (Sh.mf 7 a) f (Sh.sd 7 b k) j = if j = k then Sh.pc b k else f j) := Sh.add_pick (op := 7) (t := a) (u := b) (f := f) hlac q4 (HF2.out k (Nat.le_refl _))
        have HPT : Hid ((Sh.pc b k).size ≤ maxLen ∧ (Sh.pc b k).size = (Sh.pc a k).size) := ⟨by rw [q4]; exact HPS.out, q4⟩
        clear q4 q5
        go_wp2
        go_quiet (fail)
        go_wp2_with fail
        refine (add_any A (Sh.mf 7 a) (Sh.sd 7 b k) f (wr.drewN nq) HTr.out HA.out HOKm.out HPT.out.1).mono ?_
        rintro e w5 ⟨rfl, hA5, hg5⟩
        have HA5 : Hid (AsmAt w5 A (Sh.mf 7 a) (fun j => if j = k then Sh.pc b k else f j)) := hA5.congr (fun j _ => (HPB.out.2.2 j).symm)
        have HG5 : Hid (w3.grownBy w5 (some A)) := grown_trans (grown_drew HG.out nq) hg5
        rw [HPB.out.1, HPB.out.2.1]
        have HF15 : Hid (∀ j, j < k + 1 → ((fun j => if j = k then Sh.pc b k else f j) j).size = (Sh.pc a j).size) := fun j hj => by
          by_cases e : j = k
          · subst e; simpa using HPT.out.2
          · simp only [if_neg e]; exact HF1.out j (by omega)
        have HF25 : Hid (∀ j, k + 1 ≤ j → (fun j => if j = k then Sh.pc b k else f j) j = ⟨#[]⟩) := fun j hj => by
          simp only [if_neg (show ¬ j = k by omega)]
          exact HF2.out j (by omega)
        have HBM5 : Hid ((bm || decide (Sh.pc b k ≠ Sh.pc a k)) = false ↔ ∀ j, j < k + 1 → (fun j => if j = k then Sh.pc b k else f j) j = Sh.pc a j) := show ((bm || decide (Sh.pc b k ≠ Sh.pc a k)) = false ↔ _) by
          rw [Bool.or_eq_false_iff, HBM.out, decide_eq_false_iff_not, Classical.not_not]
          constructor
          · rintro ⟨h, h2⟩ j hj
            by_cases e : j = k
            · subst e; simpa using h2
            · simp only [if_neg e]; exact h j (by omega)
          · intro h
            refine ⟨fun j hj => ?_, ?_⟩
            · have := h j (by omega)
              simp only [if_neg (show ¬ j = k by omega)] at this
              exact this
            · have := h k (by omega)
              simpa using this
        have hgA1 : ¬ some g1 = some A := fun e => by
          rcases HR1r.out with ⟨hv, _⟩ | ⟨g, cp, cur, hv, _, hh, _⟩
          · cases hv
          · have hgg : g1 = g := by simp at hv; exact hv.1
            subst hgg
            cases e
            obtain ⟨cur2, hh2, _⟩ := HA.out
            rw [hh] at hh2
            cases hh2
        have hgA2 : ¬ some g2 = some A := fun e => by
          rcases HR2r.out with ⟨hv, _⟩ | ⟨g, cp, cur, hv, _, hh, _⟩
          · cases hv
          · have hgg : g2 = g := by simp at hv; exact hv.1
            subst hgg
            cases e
            obtain ⟨cur2, hh2, _⟩ := HA.out
            rw [hh] at hh2
            cases hh2
        have x25 : w5.cell? ⟨g1, k * 4 + 2, none⟩ = some (.string (Sh.pc a k)) := (cell_block (p := ⟨g1, k * 4 + 2, none⟩) (hg5.block g1 hg1 hgA1)).trans x2'
        have u25 : w5.cell? ⟨g2, k * 4 + 2, none⟩ = some (.string (Sh.pc b k)) := (cell_block (p := ⟨g2, k * 4 + 2, none⟩) (hg5.block g2 hg2 hgA2)).trans u2
        have hnd := Sh.ne_dec (Sh.pc b k) (Sh.pc a k)
        clear hA5 hg5 x0' x1' x2' x3' u0 u1 u2 u3 y0 hgA1 hgA2
        obtain ⟨dd, hdd⟩ : ∃ dd, decide (Sh.pc b k ≠ Sh.pc a k) = dd := ⟨_, rfl⟩
        rw [hdd] at hnd HBM5
        clear hdd
        generalize Sh.pc b k = pb at *
        generalize Sh.pc a k = pa at *
        cases bm with
        | true =>
          go_wp2
          go_quiet (fail)
          go_wp2
          go_roundw
          case rel => exact ⟨k + 1, true, _, by omega, by go_num, rfl, HA5, HF15, HF25, HBM5, grown_drew HG5.out _⟩
          case measure => simp [intOf]; omega
        | false =>
          go_wp2
          go_quiet (fail)
          go_wp2
          go_roundw
          case rel => exact ⟨k + 1, dd, _, by omega, by go_num, by rw [← hnd]; rfl, HA5, HF15, HF25, HBM5, grown_drew HG5.out _⟩
          case measure => simp [intOf]; omega
      · have hkp : ¬ (k : Int) < (pk.length : Int) := by omega
        have hkd : decide ((k : Int) < (pk.length : Int)) = false := by simp; omega
        go_wp2
        go_quiet (fail)
        go_wp2_with fail
        refine (add_any A (Sh.mf 7 a) (Sh.sd 7 a k) f (wr.drewN nq) HTr.out HA.out HOKm.out HPS.out).mono ?_
        rintro e w5 ⟨rfl, hA5, hg5⟩
        have HA5 : Hid (AsmAt w5 A (Sh.mf 7 a) (fun j => if j = k then Sh.pc a k else f j)) := hA5.congr (fun j _ => (HNP.out.2.2 j).symm)
        have HG5 : Hid (w3.grownBy w5 (some A)) := grown_trans (grown_drew HG.out nq) hg5
        rw [HNP.out.1, HNP.out.2.1]
        have HF15 : Hid (∀ j, j < k + 1 → ((fun j => if j = k then Sh.pc a k else f j) j).size = (Sh.pc a j).size) := fun j hj => by
          by_cases e : j = k
          · subst e; simp
          · simp only [if_neg e]; exact HF1.out j (by omega)
        have HF25 : Hid (∀ j, k + 1 ≤ j → (fun j => if j = k then Sh.pc a k else f j) j = ⟨#[]⟩) := fun j hj => by
          simp only [if_neg (show ¬ j = k by omega)]
          exact HF2.out j (by omega)
        have HBM5 : Hid (bm = false ↔ ∀ j, j < k + 1 → (fun j => if j = k then Sh.pc a k else f j) j = Sh.pc a j) := show (bm = false ↔ _) by
          rw [HBM.out]
          constructor
          · intro h j hj
            by_cases e : j = k
            · subst e; simp
            · simp only [if_neg e]; exact h j (by omega)
          · intro h j hj
            have := h j (by omega)
            simp only [if_neg (show ¬ j = k by omega)] at this
            exact this
        clear hA5 hg5
        go_wp2
        go_roundw
        case rel => exact ⟨k + 1, bm, _, by omega, by go_num, rfl, HA5, HF15, HF25, HBM5, HG5⟩
        case measure => simp [intOf]; omega
      · obtain ⟨ao', cap', hv', _, hx⟩ := (HV.out.up HBr.out).open
        obtain ⟨b9, off9, hao, _, hbl9, hc⟩ := hx k _ q2
        simp only [Value.slice.injEq, true_and] at hv'
        obtain ⟨rfl, rfl⟩ := hv'
        subst hao
        have y0 := hc 0 _ rfl
        simp only [show BE.sz = 1 from rfl, Nat.add_zero, Nat.mul_one] at y0
        clear hx hc
        have hkp : (k : Int) < (pk.length : Int) := by omega
        go_wp2
        go_quiet (fail)
        go_wp2_with fail
        refine (add_any A (Sh.mf 7 a) (Sh.sd 7 a k) f (wr.drewN nq) HTr.out HA.out HOKm.out HPS.out).mono ?_
        rintro e w5 ⟨rfl, hA5, hg5⟩
        have HA5 : Hid (AsmAt w5 A (Sh.mf 7 a) (fun j => if j = k then Sh.pc a k else f j)) := hA5.congr (fun j _ => (HNP.out.2.2 j).symm)
        have HG5 : Hid (w3.grownBy w5 (some A)) := grown_trans (grown_drew HG.out nq) hg5
        rw [HNP.out.1, HNP.out.2.1]
        have HF15 : Hid (∀ j, j < k + 1 → ((fun j => if j = k then Sh.pc a k else f j) j).size = (Sh.pc a j).size) := fun j hj => by
          by_cases e : j = k
          · subst e; simp
          · simp only [if_neg e]; exact HF1.out j (by omega)
        have HF25 : Hid (∀ j, k + 1 ≤ j → (fun j => if j = k then Sh.pc a k else f j) j = ⟨#[]⟩) := fun j hj => by
          simp only [if_neg (show ¬ j = k by omega)]
          exact HF2.out j (by omega)
        have HBM5 : Hid (bm = false ↔ ∀ j, j < k + 1 → (fun j => if j = k then Sh.pc a k else f j) j = Sh.pc a j) := show (bm = false ↔ _) by
          rw [HBM.out]
          constructor
          · intro h j hj
            by_cases e : j = k
            · subst e; simp
            · simp only [if_neg e]; exact h j (by omega)
          · intro h j hj
            have := h j (by omega)
            simp only [if_neg (show ¬ j = k by omega)] at this
            exact this
        clear hA5 hg5
        go_wp2
        go_roundw
        case rel => exact ⟨k + 1, bm, _, by omega, by go_num, rfl, HA5, HF15, HF25, HBM5, HG5⟩
        case measure => simp [intOf]; omega
      · obtain ⟨ao', cap', hv', _, hx⟩ := (HV.out.up HBr.out).open
        obtain ⟨b9, off9, hao, _, hbl9, hc⟩ := hx k _ q2
        simp only [Value.slice.injEq, true_and] at hv'
        obtain ⟨rfl, rfl⟩ := hv'
        subst hao
        have y0 := hc 0 _ rfl
        simp only [show BE.sz = 1 from rfl, Nat.add_zero, Nat.mul_one] at y0
        clear hx hc
        have hkp : (k : Int) < (pk.length : Int) := by omega
        have hkb : ¬ (k : Int) < (cb : Int) := by omega
        have hkd : decide ((k : Int) < (cb : Int)) = false := by simp; omega
        go_wp2
        go_quiet (fail)
        go_wp2_with fail
        refine (add_any A (Sh.mf 7 a) (Sh.sd 7 a k) f (wr.drewN nq) HTr.out HA.out HOKm.out HPS.out).mono ?_
        rintro e w5 ⟨rfl, hA5, hg5⟩
        have HA5 : Hid (AsmAt w5 A (Sh.mf 7 a) (fun j => if j = k then Sh.pc a k else f j)) := hA5.congr (fun j _ => (HNP.out.2.2 j).symm)
        have HG5 : Hid (w3.grownBy w5 (some A)) := grown_trans (grown_drew HG.out nq) hg5
        rw [HNP.out.1, HNP.out.2.1]
        have HF15 : Hid (∀ j, j < k + 1 → ((fun j => if j = k then Sh.pc a k else f j) j).size = (Sh.pc a j).size) := fun j hj => by
          by_cases e : j = k
          · subst e; simp
          · simp only [if_neg e]; exact HF1.out j (by omega)
        have HF25 : Hid (∀ j, k + 1 ≤ j → (fun j => if j = k then Sh.pc a k else f j) j = ⟨#[]⟩) := fun j hj => by
          simp only [if_neg (show ¬ j = k by omega)]
          exact HF2.out j (by omega)
        have HBM5 : Hid (bm = false ↔ ∀ j, j < k + 1 → (fun j => if j = k then Sh.pc a k else f j) j = Sh.pc a j) := show (bm = false ↔ _) by
          rw [HBM.out]
          constructor
          · intro h j hj
            by_cases e : j = k
            · subst e; simp
            · simp only [if_neg e]; exact h j (by omega)
          · intro h j hj
            have := h j (by omega)
            simp only [if_neg (show ¬ j = k by omega)] at this
            exact this
        clear hA5 hg5
        go_wp2
        go_roundw
        case rel => exact ⟨k + 1, bm, _, by omega, by go_num, rfl, HA5, HF15, HF25, HBM5, HG5⟩
        case measure => simp [intOf]; omega
      · obtain ⟨ao', cap', hv', _, hx⟩ := (HV.out.up HBr.out).open
        obtain ⟨b9, off9, hao, _, hbl9, hc⟩ := hx k _ q2
        simp only [Value.slice.injEq, true_and] at hv'
        obtain ⟨rfl, rfl⟩ := hv'
        subst hao
        have y0 := hc 0 _ rfl
        simp only [show BE.sz = 1 from rfl, Nat.add_zero, Nat.mul_one] at y0
        clear hx hc
        have hkp : (k : Int) < (pk.length : Int) := by omega
        obtain ⟨g2, cp2, hv2, _, hg2, w0, w1', w2', w3'⟩ := HR2r.out.elem (i := k) (x := Sh.sd 7 b k) (Sh.sds_get q3)
        rw [Sh.sds_length] at hv2
        cases hv2
        have u0 : wr.cell? ⟨g2, k * 4, none⟩ = some (.int .i64 7) := w0
        have u1 : wr.cell? ⟨g2, k * 4 + 1, none⟩ = some (.int .i64 (k : Int)) := w1'
        have u2 : wr.cell? ⟨g2, k * 4 + 2, none⟩ = some (.string (Sh.pc b k)) := w2'
        have u3 : wr.cell? ⟨g2, k * 4 + 3, none⟩ = some (.int .i64 (Sh.sum (Sh.pc b k))) := w3'
        clear w0 w1' w2' w3'
        have hkb : (k : Int) < (cb : Int) := by omega
        have hqq : (((Sh.pc b k).size : Int) == ((Sh.pc a k).size : Int)) = false := by simp; omega
        go_wp2
        go_quiet (fail)
        go_wp2_with fail
        refine (add_any A (Sh.mf 7 a) (Sh.sd 7 a k) f (wr.drewN nq) HTr.out HA.out HOKm.out HPS.out).mono ?_
        rintro e w5 ⟨rfl, hA5, hg5⟩
        have HA5 : Hid (AsmAt w5 A (Sh.mf 7 a) (fun j => if j = k then Sh.pc a k else f j)) := hA5.congr (fun j _ => (HNP.out.2.2 j).symm)
        have HG5 : Hid (w3.grownBy w5 (some A)) := grown_trans (grown_drew HG.out nq) hg5
        rw [HNP.out.1, HNP.out.2.1]
        have HF15 : Hid (∀ j, j < k + 1 → ((fun j => if j = k then Sh.pc a k else f j) j).size = (Sh.pc a j).size) := fun j hj => by
          by_cases e : j = k
          · subst e; simp
          · simp only [if_neg e]; exact HF1.out j (by omega)
        have HF25 : Hid (∀ j, k + 1 ≤ j → (fun j => if j = k then Sh.pc a k else f j) j = ⟨#[]⟩) := fun j hj => by
          simp only [if_neg (show ¬ j = k by omega)]
          exact HF2.out j (by omega)
        have HBM5 : Hid (bm = false ↔ ∀ j, j < k + 1 → (fun j => if j = k then Sh.pc a k else f j) j = Sh.pc a j) := show (bm = false ↔ _) by
          rw [HBM.out]
          constructor
          · intro h j hj
            by_cases e : j = k
            · subst e; simp
            · simp only [if_neg e]; exact h j (by omega)
          · intro h j hj
            have := h j (by omega)
            simp only [if_neg (show ¬ j = k by omega)] at this
            exact this
        clear hA5 hg5
        go_wp2
        go_roundw
        case rel => exact ⟨k + 1, bm, _, by omega, by go_num, rfl, HA5, HF15, HF25, HBM5, HG5⟩
        case measure => simp [intOf]; omega
    · obtain rfl : ca = k := by omega
      have hfull : ∀ j, j < Sh.cnt a.size → (f j).size = (Sh.pc a j).size := fun j hj => HF1.out j (by rw [← HCA.out]; exact hj)
      have HLE : Hid (∀ i, (f i).size ≤ 256) := fun i => by
        by_cases hi : i < ca
        · rw [HF1.out i hi]
          have h1 := Sh.pc_size (t := a) (i := i) (by rw [HCA.out]; exact hi)
          have h2 := Sh.psz_pos (n := a.size) (k := i) (by rw [HCA.out]; exact hi)
          omega
        · rw [HF2.out i (by omega)]
          simp [ByteArray.size]
      have HFU := Sh.full_txt (op := 7) hfull
      have HSM : Hid (bm = false → Sh.txtE (Sh.mf 7 a) f = 0 ∧ Sh.txt (Sh.mf 7 a) f = a) := fun h => Sh.same_txt (fun j hj => (HBM.out.1 h) j (by rw [← HCA.out]; exact hj))
      have HFX : Hid ((Sh.txtE (Sh.mf 7 a) f = 20 ∧ Sh.txt (Sh.mf 7 a) f = ⟨#[]⟩) ∨ (Sh.txtE (Sh.mf 7 a) f = 0 ∧ (Sh.txt (Sh.mf 7 a) f).size = a.size)) := HFU
      have HOKm : Hid (Sh.okM (Sh.mf 7 a) = true) := show Sh.okM (Sh.mf 7 a) = true by rw [← HMF.out]; exact HOK.out
      clear hfull HFU
      go_wp2_with fail
      refine (text_any A (Sh.mf 7 a) f _ HTr.out HA.out HOKm.out HLE.out).mono ?_
      rintro e w5 ⟨rfl, hb5⟩
      have HB5 : Hid (Below w.heap.size w w5) := bup HBr.out hb5
      have z0 : w5.cell? ⟨w1.heap.size, 0, none⟩ = some (.int .i64 Ma.op) := (hb5.cell (p := ⟨w1.heap.size, 0, none⟩) (Nat.lt_of_lt_of_le hXw HG.out.size)).trans ((cell_block (p := ⟨w1.heap.size, 0, none⟩) (HG.out.block _ hXw (by simp; omega))).trans HY4.out.1)
      have z2 : w5.cell? ⟨w1.heap.size, 2, none⟩ = some (.int .i64 Ma.sum) := (hb5.cell (p := ⟨w1.heap.size, 2, none⟩) (Nat.lt_of_lt_of_le hXw HG.out.size)).trans ((cell_block (p := ⟨w1.heap.size, 2, none⟩) (HG.out.block _ hXw (by simp; omega))).trans HY4.out.2)
      clear hb5
      have haa : (a.toList == a.toList) = true := by simp
      cases bm with
      | false =>
        obtain ⟨hE, hS⟩ := HSM.out rfl
        rw [hE, hS]
        clear hE hS HFX HSM
        go_wp2_with fail
        refine (two_any _ (HT.out.up HB5.out)).mono ?_
        rintro e w6 ⟨rfl, hb6⟩
        have HB6 : Hid (Below w.heap.size w w6) := bup HB5.out hb6
        clear hb6
        go_wp2
        go_ret
        exact ⟨rfl, HB6.out⟩
      | true =>
        rcases HFX.out with ⟨hE, hS⟩ | ⟨hE, hS⟩
        · rw [hE, hS]
          have he0 : (⟨#[]⟩ : ByteArray).toList = [] := by rw [ByteArray.toList_eq]
          clear hE hS HFX HSM
          go_wp2_with fail
          refine (two_any _ (HT.out.up HB5.out)).mono ?_
          rintro e w6 ⟨rfl, hb6⟩
          have HB6 : Hid (Below w.heap.size w w6) := bup HB5.out hb6
          clear hb6
          go_wp2
          go_ret
          exact ⟨rfl, HB6.out⟩
        · rw [hE]
          obtain ⟨tt, htt⟩ : ∃ tt, Sh.txt (Sh.mf 7 a) f = tt := ⟨_, rfl⟩
          rw [htt] at hS ⊢
          have hsz : (tt.size : Int) = (a.size : Int) := by omega
          have HRI : Hid (∀ v : World, Calls Tryd.prog 13 #[.agg #[.int .i64 Ma.op, .int .i64 (a.size : Int), .int .i64 Ma.sum]] v fun e w' => e = .returned (.bool true) ∧ Below v.heap.size v w') := fun v => by
            have h := right_any (Sh.mf 7 a) v
            rw [HOKm.out] at h
            rw [HMF.out]
            exact h
          clear hE hS htt HFX HSM
          go_wp2_with fail
          refine (HRI.out _).mono ?_
          rintro e w6 ⟨rfl, hb6⟩
          have HB6 : Hid (Below w.heap.size w w6) := bup HB5.out hb6
          clear hb6
          go_wp2_with fail
          refine (two_any _ (HT.out.up HB6.out)).mono ?_
          rintro e w7 ⟨rfl, hb7⟩
          have HB7 : Hid (Below w.heap.size w w7) := bup HB6.out hb7
          clear hb7
          go_wp2
          go_ret
          exact ⟨rfl, HB7.out⟩

theorem shardTwo_contract (H : Type) (enc : TypeId × Value → H) (W : World) (base : Nat) (args : Array Value) (ds gs : List (DataW H)) (before : List MemPlace)
    (hval : ∀ (j : Nat) t v, Tryd.f7.params[j]? = some t → args[j]? = some v → Value.okWide Tryd.prog W .any base t v)
    (hW : DataW.Whole enc Tryd.prog Tryd.f7.params.toList Rows.shardTwoSpec.vars false W args.toList ds gs before) (hL : laidMetH Tryd.prog Rows.shardTwoRow.laid W) :
    Calls Tryd.prog 7 args W fun e W' => ∃ v, e = .returned v ∧ Rows.shardTwoSpec.post enc Tryd.prog Tryd.f7 false true false false W args v W' := by
  have hW' := hW
  obtain ⟨p, q, hA0, hV, rfl, hfz, hnd⟩ := hW
  have hA : DataW.TrodAll enc Tryd.prog W 0 (fun _ => true) true Tryd.f7.params.toList args.toList ds p := hA0
  rw [Tryd.params7] at hA hval
  obtain ⟨v0, v1, v2, d0, d1, d2, p0, p1, p2, rfl, rfl, rfl, h0, h1, h2⟩ := trodAll_three hA
  obtain ⟨rfl, rfl⟩ := trodVars_none hV
  obtain ⟨a0, rfl, rfl, rfl, w0⟩ := open_string Tryd.underlying9 (hval 0 9 v0 rfl rfl) h0
  obtain ⟨a1, rfl, rfl, rfl, w1⟩ := open_string Tryd.underlying9 (hval 1 9 v1 rfl rfl) h1
  obtain ⟨a2, w2⟩ := open_picks (okWide_slice Tryd.underlying60 (hval 2 60 v2 rfl rfl)) h2
  refine (two_law a0 a1 v2 a2 W (table hL) w0 w1 w2).mono fun e W' ⟨he, hg⟩ => ⟨_, he, ?_⟩
  exact Law.post laidOut (by kernel_rfl) rfl Tryd.underlying4 hW' rfl rfl hg
theorem shardTwo_laid_met (os : Os) : laidMet Tryd.prog Rows.shardTwoRow.laid ((laidWorld Tryd.prog os).forCall (fun _ _ => 0) ⟨#[], #[.string .empty, .string .empty, .slice none 0 0], []⟩).memory :=
  laidMet_of_run' 8 (by kernel_rfl) (by kernel_rfl)
theorem shardTwo_reads (os : Os) {H : Type} (enc : TypeId × Value → H) : ∃ places, DataW.whole enc Tryd.prog ((laidWorld Tryd.prog os).forCall (fun _ _ => 0) ⟨#[], #[.string .empty, .string .empty, .slice none 0 0], []⟩).memory Tryd.f7.params.toList Rows.shardTwoSpec.vars false (#[.string .empty, .string .empty, .slice none 0 0] : Array Value).toList 8 = some ([.lit (.string []), .lit (.string []), .nil], [], places) :=
  ⟨[], by kernel_rfl⟩

set_option maxRecDepth 100000 in
theorem shardTwo_lifted (os : Os) (started : os.Started) (H : Type) (enc : TypeId × Value → H) (F : Stop.Interp) :
    ReturnsInHanded {} Tryd.checked os 7 .any ((OpenSpec.ofChange Rows.shardTwoSpec).preRow enc Tryd.prog Tryd.f7 Rows.shardTwoRow.domain false Rows.shardTwoRow.laid) (((OpenSpec.ofChange Rows.shardTwoSpec).at F).post enc Tryd.prog Tryd.f7 false true false false) := by
  obtain ⟨places, hx⟩ := shardTwo_reads os enc
  refine returnsInHanded_of_row (C := Tryd.checked) (s := OpenSpec.ofChange Rows.shardTwoSpec) own started (by kernel_rfl) Tryd.func7
    (witness_row_at (enc := enc) (C := Tryd.checked) false (laidWorld Tryd.prog os) #[.string .empty, .string .empty, .slice none 0 0] rfl (by kernel_rfl) (by kernel_rfl) (by kernel_rfl)
      (OpenSpec.preRow_of_cond 8 hx (by kernel_rfl) (fun k hk => by cases hk) (by kernel_rfl) (shardTwo_laid_met os))) ?_
  intro W base args ds gs before hval hW _ _ _ hL _ _
  exact shardTwo_contract H enc W base args ds gs before hval hW hL

theorem shardTwo_said : Rows.ShardTwoSaid :=
  OpenClaim.holds_of_cond 7 Tryd.f7 rfl rfl rfl rfl rfl rfl rfl ⟨rfl, rfl, rfl, rfl, rfl⟩ rfl rfl rfl rfl rfl (by kernel_rfl) Tryd.func7 (by kernel_rfl)
    (of_decide_eq_true (by kernel_rfl)) (by unfold Func.isWrapper; first | (rw [if_pos (by decide +kernel)]; kernel_rfl) | (rw [if_neg (by decide +kernel)]; exact ⟨rfl, rfl⟩))
    (fun os started H enc _ F => by rw [OpenClaim.pre_eq_preRow]; exact shardTwo_lifted os started H enc F)

theorem shardTwo_plain (f : FuncId) (fn : Func) (hf : Tryd.pinned.checked.prog.funcNamed "sexton/sextonlaw19.ShardTwo" = some f) (hfn : Tryd.pinned.checked.prog.funcs[f]? = some fn) :
    false = Tryd.pinned.checked.prog.looks [] ∧ ∀ (j : Nat) t, fn.params[j]? = some t → Tryd.pinned.checked.prog.wantsStandIn t = false := by
  obtain rfl : f = 7 := Option.some.inj ((show Tryd.prog.funcNamed "sexton/sextonlaw19.ShardTwo" = some 7 by kernel_rfl).symm.trans hf) |>.symm
  obtain rfl : fn = Tryd.f7 := (Option.some.inj (Tryd.func7.symm.trans hfn)).symm
  refine ⟨by kernel_rfl, fun j t ht => ?_⟩
  rw [Tryd.params7] at ht
  have hm : t = 9 ∨ t = 60 := by simpa using Array.mem_of_getElem? ht
  rcases hm with rfl | rfl
  · exact (show Tryd.prog.wantsStandIn 9 = false by kernel_rfl)
  · exact (show Tryd.prog.wantsStandIn 60 = false by kernel_rfl)

theorem shardTwo_card : Rows.ShardTwoCardSaid :=
  Claim7.holds_tied_plain_at .later [] _ _ _ _ shardTwo_said (fun _ h => by cases h) (by kernel_rfl) (fun _ h => by cases h) shardTwo_row_tie rfl ⟨rfl, rfl⟩ (by kernel_rfl) rfl shardTwo_plain (by kernel_rfl)
#print axioms shardTwo_card
end Go.Proofs.YtceeafmahoelfaaDoor
