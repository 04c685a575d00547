/-
  For any manifest and any slice of shards sextonlaw19.ShardSteps returns true, whatever the memory that holds the table halves as the text of the program lays it: every assembler, shard by shard: what is new, what is missing, the text. No other condition.
-/
import Derived.Test.YtceeafmahoelfaaDoorCards
import Derived.Test.YtceeafmahoelfaaDoorTie
import Derived.Test.YtceeafmahoelfaaDoorHRefB
import Derived.Test.YtceeafmahoelfaaDoorHRefT
import Derived.Test.YtceeafmahoelfaaDoorHLaw
namespace Go.Proofs.YtceeafmahoelfaaDoor
open Go.ChangeShapes Go.WideShapes Go.ChangeAt Go.RowKit
open Go.ChangeMaps (open_string)

theorem AsmAt.block {w : World} {A : Nat} {m : Sh.Mf} {f : Nat → ByteArray} (h : AsmAt w A m f) : ∃ cur T, w.heap[A]? = some (.cells cur T (0, 0)) ∧ T ≠ 45 ∧ T ≠ 34 := by
  obtain ⟨cur, hb, _⟩ := h
  exact ⟨cur, _, hb, by decide, by decide⟩
theorem gat_fit {m : Sh.Mf} {L : List Sh.Sd} (h : Sh.Fit m (Sh.gat L)) (s : Sh.Sd) : Sh.Fit m (Sh.gat (Sh.addL m L s)) := by
  have h2 := h.add (s := s)
  intro i
  rw [Sh.addL_gat i]
  exact h2 i
set_option maxRecDepth 100000 in
set_option maxRecDepth 100000 in
set_option maxHeartbeats 4000000 in
theorem steps_law (m : Sh.Mf) (v : Value) (l : List Sh.Sd) (w : World) (hT : Tab w) (hv : AtW SE w v l) (hd : ∀ x ∈ l, x.data.size ≤ maxLen) : Calls Tryd.prog 4 #[m.val, v] w fun e w' => e = .returned (.bool true) ∧ Below w.heap.size w w' := by
  have HT : Hid (Tab w) := hT
  have HV : Hid (AtW SE w v l) := hv
  have HD : Hid (∀ x ∈ l, x.data.size ≤ maxLen) := hd
  obtain ⟨ao, cap, rfl, hml, _⟩ := hv.open
  unfold maxLen at hml
  clear hT hv hd
  have HMV : Hid (m.val = .agg #[.int .i64 m.op, .int .i64 m.size, .int .i64 m.sum]) := rfl
  rw [HMV.out]
  have hb0 := below_alloc w (.cells #[.int .i64 m.op, .int .i64 m.size, .int .i64 m.sum] 23)
  go_enter Tryd.func4, Tryd.ntmps4
  cases hok : Sh.okM m with
  | false =>
    have HOK : Hid (Sh.okM m = false) := hok
    clear hok
    go_wp2_with fail
    refine (new_no m _ HOK.out).mono ?_
    rintro e w1 ⟨rfl, hb1⟩
    have HB1 : Hid (Below w.heap.size w w1) := bup hb0 hb1
    have x0 : w1.cell? ⟨w.heap.size, 0, none⟩ = some (.int .i64 m.op) := (hb1.cell (p := ⟨w.heap.size, 0, none⟩) (by simp)).trans (by simp)
    have x1 : w1.cell? ⟨w.heap.size, 1, none⟩ = some (.int .i64 m.size) := (hb1.cell (p := ⟨w.heap.size, 1, none⟩) (by simp)).trans (by simp)
    have x2 : w1.cell? ⟨w.heap.size, 2, none⟩ = some (.int .i64 m.sum) := (hb1.cell (p := ⟨w.heap.size, 2, none⟩) (by simp)).trans (by simp)
    clear hb1
    go_wp2_with fail
    refine (right_any m _).mono ?_
    rintro e w2 ⟨rfl, hb2⟩
    rw [HOK.out]
    have HB2 : Hid (Below w.heap.size w w2) := bup HB1.out (bup (below_alloc _ _) hb2)
    clear hb2
    go_wp2_with fail
    refine (two_any _ (HT.out.up HB2.out)).mono ?_
    rintro e w3 ⟨rfl, hb3⟩
    have HB3 : Hid (Below w.heap.size w w3) := bup HB2.out hb3
    clear hb3
    go_wp2
    go_ret
    exact ⟨rfl, HB3.out⟩
  | true =>
    have HOK : Hid (Sh.okM m = true) := hok
    clear hok
    go_wp2_with fail
    refine (new_ok m _ HOK.out).mono ?_
    rintro e w1 ⟨A, rfl, hAs, hA1, hb1⟩
    have HB1 : Hid (Below w.heap.size w w1) := bup hb0 hb1
    have hAw : w.heap.size < A := by simp at hAs; omega
    have HA1 : Hid (AsmAt w1 A m (Sh.gat [])) := hA1
    have hAl := hA1.lt
    have x0 : w1.cell? ⟨w.heap.size, 0, none⟩ = some (.int .i64 m.op) := (hb1.cell (p := ⟨w.heap.size, 0, none⟩) (by simp)).trans (by simp)
    have x1 : w1.cell? ⟨w.heap.size, 1, none⟩ = some (.int .i64 m.size) := (hb1.cell (p := ⟨w.heap.size, 1, none⟩) (by simp)).trans (by simp)
    have x2 : w1.cell? ⟨w.heap.size, 2, none⟩ = some (.int .i64 m.sum) := (hb1.cell (p := ⟨w.heap.size, 2, none⟩) (by simp)).trans (by simp)
    have HX1 : Hid (w1.cell? ⟨w.heap.size, 0, none⟩ = some (.int .i64 m.op) ∧ w1.cell? ⟨w.heap.size, 1, none⟩ = some (.int .i64 m.size) ∧ w1.cell? ⟨w.heap.size, 2, none⟩ = some (.int .i64 m.sum)) := ⟨x0, x1, x2⟩
    clear hb1 hA1 hAs hb0
    go_wp2_with fail
    refine (right_any m _).mono ?_
    rintro e w2 ⟨rfl, hb2⟩
    rw [HOK.out]
    obtain ⟨B, hB⟩ : ∃ B, w1.heap.size = B := ⟨_, rfl⟩
    have hb1a := below_alloc w1 (.cells #[.int .i64 m.op, .int .i64 m.size, .int .i64 m.sum, .slice none 0 0] 45)
    have hb12 : Below w1.heap.size w1 w2 := bup hb1a hb2
    have HR2 : Hid (RAt w2 B B m []) := by
      rw [← hB]
      refine ⟨Nat.le_refl _, .slice none 0 0, (hb2.block w1.heap.size (by simp)).trans (heap_alloc_new _ _), Row.nil _ _ _ _⟩
    have HB2 : Hid (Below w.heap.size w w2) := bup HB1.out hb12
    have HA2 : Hid (AsmAt w2 A m (Sh.gat [])) := HA1.out.up hb12
    have HBl : Hid (B ≤ w2.heap.size) := by rw [← hB]; exact hb12.size
    have hwA : w.heap.size < w1.heap.size := by omega
    have HX2 : Hid (w2.cell? ⟨w.heap.size, 0, none⟩ = some (.int .i64 m.op) ∧ w2.cell? ⟨w.heap.size, 1, none⟩ = some (.int .i64 m.size) ∧ w2.cell? ⟨w.heap.size, 2, none⟩ = some (.int .i64 m.sum)) := ⟨(hb12.cell (p := ⟨w.heap.size, 0, none⟩) hwA).trans HX1.out.1, (hb12.cell (p := ⟨w.heap.size, 1, none⟩) hwA).trans HX1.out.2.1, (hb12.cell (p := ⟨w.heap.size, 2, none⟩) hwA).trans HX1.out.2.2⟩
    have HAB : Hid (A < B ∧ w.heap.size < B) := by rw [← hB]; exact ⟨hAl, hwA⟩
    rw [hB]
    clear hB hb2 hb12 hb1a HB1 HA1 HX1 x0 x1 x2 hAl hwA
    clear w1
    have y0 := HX2.out.1
    have y1 := HX2.out.2.1
    have y2 := HX2.out.2.2
    have X0 := fun p : Grw w2 => p.cell y0
    have X1 := fun p : Grw w2 => p.cell y1
    have X2 := fun p : Grw w2 => p.cell y2
    have HOF : Hid (∀ p : Grw w2, Calls Tryd.prog 15 #[.pointer (some ⟨A, 0, none⟩)] p.out fun e w' => e = .returned (.agg #[.int .i64 m.op, .int .i64 m.size, .int .i64 m.sum]) ∧ Below p.out.heap.size p.out w') := fun p => of_any A m _ _ (HA2.out.up p.below)
    have hne9 : Nonempty (Grw w2) := grw_some w2
    go_wp2
    refine wp_region_grw (by kernel_rfl) (by kernel_rfl) ?_
    repeat (go_big_quiet_step (first | (go_at_call 15; with_reducible refine calls_grw (Grw.grown _) (HOF.out _))))
    rintro w9 ⟨p9, rfl⟩
    have hp9 := p9.below
    have HB3 : Hid (Below w.heap.size w p9.out) := bup HB2.out hp9
    have HA3 : Hid (AsmAt p9.out A m (Sh.gat [])) := HA2.out.up hp9
    have HR3 : Hid (RAt p9.out B B m []) := HR2.out.up hp9
    have HBl3 : Hid (B ≤ p9.out.heap.size) := Nat.le_trans HBl.out hp9.size
    have z1 : p9.out.cell? ⟨w.heap.size, 1, none⟩ = some (.int .i64 m.size) := X1 p9
    clear X0 X1 X2 y0 y1 y2 HOF hp9 HX2 HB2 HA2 HR2 HBl
    generalize p9.out = w3 at *
    clear p9 hne9
    clear w2
    have HFIT : Hid (Sh.Fit m (Sh.gat [])) := Sh.Fit.none m
    by_cases h100 : 100 < (l.length : Int)
    · go_wp2_with fail
      refine (two_any _ (HT.out.up HB3.out)).mono ?_
      rintro e w4 ⟨rfl, hb4⟩
      have HB4 : Hid (Below w.heap.size w w4) := bup HB3.out hb4
      clear hb4
      go_wp2
      go_ret
      exact ⟨rfl, HB4.out⟩
    · by_cases h4000 : 4000 < m.size
      · go_wp2_with fail
        refine (two_any _ (HT.out.up HB3.out)).mono ?_
        rintro e w4 ⟨rfl, hb4⟩
        have HB4 : Hid (Below w.heap.size w w4) := bup HB3.out hb4
        clear hb4
        go_wp2
        go_ret
        exact ⟨rfl, HB4.out⟩
      · go_wp2
        clear z1
        go_loopw [70] (fun u wr => ∃ (k : Nat) (L : List Sh.Sd), k ≤ l.length ∧ u = .int .i64 k ∧ Hid (L.length ≤ k) ∧ Hid (AsmAt wr A m (Sh.gat L)) ∧ Hid (RAt wr B B m L) ∧ Hid (Sh.Fit m (Sh.gat L)) ∧ Hid (∀ t ∈ L, t.data.size ≠ 0) ∧ Hid (B ≤ wr.heap.size) ∧ Hid (Below w.heap.size w wr)) (fun u _ => l.length - (intOf u).toNat)
        case atStart => exact ⟨0, [], Nat.zero_le _, rfl, Nat.zero_le _, HA3, HR3, HFIT, fun t ht => (by cases ht), HBl3, HB3⟩
        case round =>
          obtain ⟨k, L, hk, rfl, HLk, HA, HR, HF, HN, HBw, HBL⟩ := hrel
          by_cases hlt : k < l.length
          · obtain ⟨y, hy⟩ : ∃ y, l[k]? = some y := ⟨_, List.getElem?_eq_getElem hlt⟩
            obtain ⟨ao', cap', hv', _, hx⟩ := (HV.out.up HBL.out).open
            obtain ⟨b, off, hao, _, hbl, hc⟩ := hx k y hy
            simp only [Value.slice.injEq, true_and] at hv'
            obtain ⟨rfl, rfl⟩ := hv'
            subst hao
            have x0 := hc 0 _ rfl
            have x1 := hc 1 _ rfl
            have x2 := hc 2 _ rfl
            have x3 := hc 3 _ rfl
            simp only [show SE.sz = 4 from rfl, Nat.add_zero, ← Nat.add_assoc] at x0 x1 x2 x3
            have HY : Hid (y.data.size ≤ maxLen) := HD.out y (List.mem_of_getElem? hy)
            have hltI : (k : Int) < (l.length : Int) := by omega
            have hk0 : (0 : Int) ≤ (k : Int) := by omega
            have HYV : Hid (y.val = .agg #[.int .i64 y.op, .int .i64 y.number, .string y.data, .int .i64 y.sum]) := rfl
            have hb4 := below_alloc wr (.cells #[.int .i64 y.op, .int .i64 y.number, .string y.data, .int .i64 y.sum] 36)
            have HA4 := HA.out.up hb4
            have HR4 := HR.out.up hb4
            have HT4 := (HT.out.up HBL.out).up hb4
            have HB4 := bup HBL.out hb4
            have hAX : A < wr.heap.size := HA.out.lt
            clear hx hc hy
            go_wp2_with fail
            refine (add_any A m y (Sh.gat L) _ HT4 HA4 HOK.out HY.out).mono ?_
            rintro e w5 ⟨rfl, hA5, hg5⟩
            have HA5 : Hid (AsmAt w5 A m (Sh.gat (Sh.addL m L y))) := hA5.congr (fun j _ => Sh.addL_gat j)
            have HR5 : Hid (RAt w5 B B m L) := HR4.kept hg5 HA4.block
            have HT5 : Hid (Tab w5) := HT4.grown hg5 (HA4.ne_zero HT4)
            have HB5 : Hid (Below w.heap.size w w5) := HB4.grown hg5 HB4.size (fun j hj => by cases hj; omega)
            have hwl : wr.heap.size < w5.heap.size := by have := hg5.size; simp at this; omega
            have kX : ∀ j, w5.cell? ⟨wr.heap.size, j, none⟩ = (wr.alloc (.cells #[.int .i64 y.op, .int .i64 y.number, .string y.data, .int .i64 y.sum] 36)).cell? ⟨wr.heap.size, j, none⟩ := fun j => cell_block (p := ⟨wr.heap.size, j, none⟩) (hg5.block _ (by simp) (by simp; omega))
            have q0 : w5.cell? ⟨wr.heap.size, 0, none⟩ = some (.int .i64 y.op) := (kX 0).trans (by simp)
            have q1 : w5.cell? ⟨wr.heap.size, 1, none⟩ = some (.int .i64 y.number) := (kX 1).trans (by simp)
            have q2 : w5.cell? ⟨wr.heap.size, 2, none⟩ = some (.string y.data) := (kX 2).trans (by simp)
            have q3 : w5.cell? ⟨wr.heap.size, 3, none⟩ = some (.int .i64 y.sum) := (kX 3).trans (by simp)
            have HBw5 : Hid (B ≤ w5.heap.size) := by have := HBw.out; show B ≤ _; omega
            clear hA5 hg5 kX HA4 HR4 HT4 HB4 hb4 x0 x1 x2 x3
            go_wp2_with fail
            refine (ref_any y _).mono ?_
            rintro e w6 ⟨rfl, hb6⟩
            have HA6 : Hid (AsmAt w6 A m (Sh.gat (Sh.addL m L y))) := HA5.out.up hb6
            have HR6 : Hid (RAt w6 B B m L) := HR5.out.up hb6
            have HT6 : Hid (Tab w6) := HT5.out.up hb6
            have HB6 : Hid (Below w.heap.size w w6) := bup HB5.out hb6
            have HBw6 : Hid (B ≤ w6.heap.size) := Nat.le_trans HBw5.out hb6.size
            clear hb6 HA5 HR5 HT5 HB5 HBw5
            go_wp2_with fail
            refine (radd_any B B m y L _ HR6.out HBw6.out (by have := HLk.out; omega) HOK.out HY.out HN.out).mono ?_
            rintro e w7 ⟨rfl, hR7, hb7⟩
            have HA7 : Hid (AsmAt w7 A m (Sh.gat (Sh.addL m L y))) := by
              obtain ⟨cur, hcur, hrest⟩ := HA6.out
              exact ⟨cur, (hb7.block A HAB.out.1).trans hcur, hrest⟩
            have HR7 : Hid (RAt w7 B B m (Sh.addL m L y)) := hR7
            have HB7 : Hid (Below w.heap.size w w7) := HB6.out.trans (hb7.mono (by have := HAB.out.2; omega))
            have HT7 : Hid (Tab w7) := HT.out.up HB7.out
            have HBw7 : Hid (B ≤ w7.heap.size) := Nat.le_trans HBw6.out hb7.size
            have HF7 : Hid (Sh.Fit m (Sh.gat (Sh.addL m L y))) := gat_fit HF.out y
            have HN7 : Hid (∀ t ∈ Sh.addL m L y, t.data.size ≠ 0) := Sh.addL_ne HN.out
            have HL7 : Hid ((Sh.addL m L y).length ≤ k + 1) := Nat.le_trans (Sh.addL_len m L y) (by have := HLk.out; omega)
            clear hR7 hb7 HA6 HR6 HT6 HB6 HBw6
            generalize Sh.addL m L y = L7 at *
            generalize Sh.addB m (Sh.gat L) y = bb at *
            generalize Sh.addE m (Sh.gat L) y = be at *
            go_wp2_with fail
            refine (text_any A m (Sh.gat L7) _ HT7.out HA7.out HOK.out HF7.out.le).mono ?_
            rintro e w8 ⟨rfl, hb8⟩
            have HA8 : Hid (AsmAt w8 A m (Sh.gat L7)) := HA7.out.up hb8
            have HR8 : Hid (RAt w8 B B m L7) := HR7.out.up hb8
            have HB8 : Hid (Below w.heap.size w w8) := bup HB7.out hb8
            have HBw8 : Hid (B ≤ w8.heap.size) := Nat.le_trans HBw7.out hb8.size
            clear hb8 HA7 HR7 HT7 HB7 HBw7
            go_wp2_with fail
            refine (rtext_any B B m L7 _ HR8.out (by have := HL7.out; omega) HOK.out HN7.out HF7.out.le).mono ?_
            rintro e w9 ⟨rfl, hb9⟩
            have HA9 : Hid (AsmAt w9 A m (Sh.gat L7)) := HA8.out.up hb9
            have HR9 : Hid (RAt w9 B B m L7) := HR8.out.up hb9
            have HB9 : Hid (Below w.heap.size w w9) := bup HB8.out hb9
            have HBw9 : Hid (B ≤ w9.heap.size) := Nat.le_trans HBw8.out hb9.size
            clear hb9 HA8 HR8 HB8 HBw8
            generalize Sh.txt m (Sh.gat L7) = tt at *
            generalize Sh.txtE m (Sh.gat L7) = te at *
            have ht1 : (tt.toList == tt.toList) = true := by simp
            have ht2 : (bb != bb) = false := by simp
            have ht3 : ∀ z : Int, (z != z) = false := fun z => by simp
            have ht4 : (tt.toList != tt.toList) = false := by simp
            go_wp2_with fail
            refine (missing_any A m (Sh.gat L7) _ HA9.out HOK.out).mono ?_
            rintro e w10 ⟨v10, n10, rfl, ho10, hb10⟩
            have HA10 : Hid (AsmAt w10 A m (Sh.gat L7)) := HA9.out.up hb10
            have HR10 : Hid (RAt w10 B B m L7) := HR9.out.up hb10
            have HB10 : Hid (Below w.heap.size w w10) := bup HB9.out hb10
            have HBw10 : Hid (B ≤ w10.heap.size) := Nat.le_trans HBw9.out hb10.size
            have HI10 : Hid (IntsAt w10 v10 (Sh.mis (Sh.gat L7) (Sh.cnt m.size.toNat))) := IntsAt.of_own ho10
            clear hb10 HA9 HR9 HB9 HBw9 ho10
            go_wp2_with fail
            refine (rmissing_any B B m L7 _ HR10.out (by have := HL7.out; omega) HOK.out HN7.out).mono ?_
            rintro e w11 ⟨v11, n11, rfl, ho11, hb11⟩
            have HA11 : Hid (AsmAt w11 A m (Sh.gat L7)) := HA10.out.up hb11
            have HR11 : Hid (RAt w11 B B m L7) := HR10.out.up hb11
            have HB11 : Hid (Below w.heap.size w w11) := bup HB10.out hb11
            have HBw11 : Hid (B ≤ w11.heap.size) := Nat.le_trans HBw10.out hb11.size
            have HI11 : Hid (IntsAt w11 v10 (Sh.mis (Sh.gat L7) (Sh.cnt m.size.toNat))) := HI10.out.up hb11
            have HJ11 : Hid (IntsAt w11 v11 (Sh.mis (Sh.gat L7) (Sh.cnt m.size.toNat))) := IntsAt.of_own ho11
            clear hb11 HA10 HR10 HB10 HBw10 HI10 ho11
            go_wp2_with fail
            refine (ints_same _ _ _ _ HI11.out HJ11.out).mono ?_
            rintro e w12 ⟨rfl, hb12⟩
            have HA12 : Hid (AsmAt w12 A m (Sh.gat L7)) := HA11.out.up hb12
            have HR12 : Hid (RAt w12 B B m L7) := HR11.out.up hb12
            have HB12 : Hid (Below w.heap.size w w12) := bup HB11.out hb12
            have HBw12 : Hid (B ≤ w12.heap.size) := Nat.le_trans HBw11.out hb12.size
            clear hb12 HA11 HR11 HB11 HBw11 HI11 HJ11
            go_wp2
            go_roundw
            case rel => exact ⟨k + 1, L7, by omega, by go_num, HL7, HA12, HR12, HF7, HN7, HBw12, HB12⟩
            case measure => simp [intOf]; omega
          · obtain rfl : k = l.length := by omega
            go_wp2_with fail
            refine (two_any _ (HT.out.up HBL.out)).mono ?_
            rintro e w4 ⟨rfl, hb4⟩
            have HB4 : Hid (Below w.heap.size w w4) := bup HBL.out hb4
            clear hb4
            go_wp2
            go_ret
            exact ⟨rfl, HB4.out⟩

theorem shardSteps_contract (H : Type) (enc : TypeId × Value → H) (W : World) (base : Nat) (args : Array Value) (ds gs : List (DataW H)) (before : List MemPlace)
    (hval : ∀ (j : Nat) t v, Tryd.f4.params[j]? = some t → args[j]? = some v → Value.okWide Tryd.prog W .any base t v)
    (hW : DataW.Whole enc Tryd.prog Tryd.f4.params.toList Rows.shardStepsSpec.vars false W args.toList ds gs before) (hL : laidMetH Tryd.prog Rows.shardStepsRow.laid W) :
    Calls Tryd.prog 4 args W fun e W' => ∃ v, e = .returned v ∧ Rows.shardStepsSpec.post enc Tryd.prog Tryd.f4 false true false false W args v W' := by
  have hW' := hW
  obtain ⟨p, q, hA0, hV, rfl, hfz, hnd⟩ := hW
  have hA : DataW.TrodAll enc Tryd.prog W 0 (fun _ => true) true Tryd.f4.params.toList args.toList ds p := hA0
  rw [Tryd.params4] at hA hval
  obtain ⟨v0, v1, d0, d1, p0, p1, rfl, rfl, rfl, h0, h1⟩ := trodAll_two hA
  obtain ⟨rfl, rfl⟩ := trodVars_none hV
  obtain ⟨a0, rfl⟩ := open_mf (hval 0 23 v0 rfl rfl) h0
  obtain ⟨a1, w1, z1⟩ := open_sds (okWide_slice Tryd.underlying25 (hval 1 25 v1 rfl rfl)) h1
  refine (steps_law a0 v1 a1 W (table hL) w1 z1).mono fun e W' ⟨he, hg⟩ => ⟨_, he, ?_⟩
  exact Law.post laidOut (by kernel_rfl) rfl Tryd.underlying4 hW' rfl rfl hg
theorem shardSteps_laid_met (os : Os) : laidMet Tryd.prog Rows.shardStepsRow.laid ((laidWorld Tryd.prog os).forCall (fun _ _ => 0) ⟨#[], #[.agg #[.int .i64 0, .int .i64 0, .int .i64 0], .slice none 0 0], []⟩).memory :=
  laidMet_of_run' 8 (by kernel_rfl) (by kernel_rfl)
theorem shardSteps_reads (os : Os) {H : Type} (enc : TypeId × Value → H) : ∃ places, DataW.whole enc Tryd.prog ((laidWorld Tryd.prog os).forCall (fun _ _ => 0) ⟨#[], #[.agg #[.int .i64 0, .int .i64 0, .int .i64 0], .slice none 0 0], []⟩).memory Tryd.f4.params.toList Rows.shardStepsSpec.vars false (#[.agg #[.int .i64 0, .int .i64 0, .int .i64 0], .slice none 0 0] : Array Value).toList 8 = some ([.agg [.lit (.int .i64 0), .lit (.int .i64 0), .lit (.int .i64 0)], .nil], [], places) :=
  ⟨[], by kernel_rfl⟩

set_option maxRecDepth 100000 in
theorem shardSteps_lifted (os : Os) (started : os.Started) (H : Type) (enc : TypeId × Value → H) (F : Stop.Interp) :
    ReturnsInHanded {} Tryd.checked os 4 .any ((OpenSpec.ofChange Rows.shardStepsSpec).preRow enc Tryd.prog Tryd.f4 Rows.shardStepsRow.domain false Rows.shardStepsRow.laid) (((OpenSpec.ofChange Rows.shardStepsSpec).at F).post enc Tryd.prog Tryd.f4 false true false false) := by
  obtain ⟨places, hx⟩ := shardSteps_reads os enc
  refine returnsInHanded_of_row (C := Tryd.checked) (s := OpenSpec.ofChange Rows.shardStepsSpec) own started (by kernel_rfl) Tryd.func4
    (witness_row_at (enc := enc) (C := Tryd.checked) false (laidWorld Tryd.prog os) #[.agg #[.int .i64 0, .int .i64 0, .int .i64 0], .slice none 0 0] rfl (by kernel_rfl) (by kernel_rfl) (by kernel_rfl)
      (OpenSpec.preRow_of_cond 8 hx (by kernel_rfl) (fun k hk => by cases hk) (by kernel_rfl) (shardSteps_laid_met os))) ?_
  intro W base args ds gs before hval hW _ _ _ hL _ _
  exact shardSteps_contract H enc W base args ds gs before hval hW hL

theorem shardSteps_said : Rows.ShardStepsSaid :=
  OpenClaim.holds_of_cond 4 Tryd.f4 rfl rfl rfl rfl rfl rfl rfl ⟨rfl, rfl, rfl, rfl, rfl⟩ rfl rfl rfl rfl rfl (by kernel_rfl) Tryd.func4 (by kernel_rfl)
    (of_decide_eq_true (by kernel_rfl)) (by unfold Func.isWrapper; first | (rw [if_pos (by decide +kernel)]; kernel_rfl) | (rw [if_neg (by decide +kernel)]; exact ⟨rfl, rfl⟩))
    (fun os started H enc _ F => by rw [OpenClaim.pre_eq_preRow]; exact shardSteps_lifted os started H enc F)

theorem shardSteps_plain (f : FuncId) (fn : Func) (hf : Tryd.pinned.checked.prog.funcNamed "sexton/sextonlaw19.ShardSteps" = some f) (hfn : Tryd.pinned.checked.prog.funcs[f]? = some fn) :
    false = Tryd.pinned.checked.prog.looks [] ∧ ∀ (j : Nat) t, fn.params[j]? = some t → Tryd.pinned.checked.prog.wantsStandIn t = false := by
  obtain rfl : f = 4 := Option.some.inj ((show Tryd.prog.funcNamed "sexton/sextonlaw19.ShardSteps" = some 4 by kernel_rfl).symm.trans hf) |>.symm
  obtain rfl : fn = Tryd.f4 := (Option.some.inj (Tryd.func4.symm.trans hfn)).symm
  refine ⟨by kernel_rfl, fun j t ht => ?_⟩
  rw [Tryd.params4] at ht
  have hm : t = 23 ∨ t = 25 := by simpa using Array.mem_of_getElem? ht
  rcases hm with rfl | rfl
  · exact (show Tryd.prog.wantsStandIn 23 = false by kernel_rfl)
  · exact (show Tryd.prog.wantsStandIn 25 = false by kernel_rfl)

theorem shardSteps_card : Rows.ShardStepsCardSaid :=
  Claim7.holds_tied_plain_at .later [] _ _ _ _ shardSteps_said (fun _ h => by cases h) (by kernel_rfl) (fun _ h => by cases h) shardSteps_row_tie rfl ⟨rfl, rfl⟩ (by kernel_rfl) rfl shardSteps_plain (by kernel_rfl)
#print axioms shardSteps_card
end Go.Proofs.YtceeafmahoelfaaDoor
