/-
  The text of two shards that every statement asks; the comparison of lists of ints.
-/
import Derived.Test.YtceeafmahoelfaaDoorHText
import Derived.Test.YtceeafmahoelfaaDoorHPart
import Derived.Deep.OwnRows
namespace Go.Proofs.YtceeafmahoelfaaDoor
open Go.ChangeShapes Go.WideShapes Go.ChangeAt Go.RowKit

theorem ints_same (u v : Value) (l : List Int) (w : World) (hu : IntsAt w u l) (hv : IntsAt w v l) :
    Calls Tryd.prog 20 #[u, v] w fun e w' => e = .returned (.bool true) ∧ Below w.heap.size w w' := by
  rcases hu with ⟨ao, cap, rfl, rfl⟩ | ⟨b, off, cap, rfl, hB, hp, hlc, hm, hx⟩
  · rcases hv with ⟨ao', cap', rfl, _⟩ | ⟨b', off', cap', rfl, hB', hp', hlc', hm', hx'⟩
    · go_enter Tryd.func20, Tryd.ntmps20
      go_wp2
      refine wp_loop_rounds 1 ?_
      rw [rounds_succ]
      go_wp2
      go_ret
      exact ⟨rfl, Below.refl _ _⟩
    · simp at hp'
  · rcases hv with ⟨ao', cap', rfl, rfl⟩ | ⟨b', off', cap', rfl, hB', hp', hlc', hm', hx'⟩
    · simp at hp
    · unfold maxLen at hm hm'
      obtain ⟨n, hn⟩ : ∃ n, l.length = n := ⟨_, rfl⟩
      rw [hn] at hp hlc hlc' hx hx' ⊢
      have HX : Hid ((∀ i, i < n → w.cell? ⟨b, off + i, none⟩ = some (.int .i64 (l.getD i 0))) ∧ ∀ i, i < n → w.cell? ⟨b', off' + i, none⟩ = some (.int .i64 (l.getD i 0))) := ⟨hx, hx'⟩
      clear hn hx hx' hp'
      go_enter Tryd.func20, Tryd.ntmps20
      go_wp2
      go_loopw [8] (fun i wr => ∃ k : Nat, k ≤ n ∧ i = .int .i64 k ∧ Below w.heap.size w wr) (fun i _ => n - (intOf i).toNat)
      case atStart => exact ⟨0, Nat.zero_le _, rfl, Below.refl _ _⟩
      case round =>
        obtain ⟨k, hk, rfl, hbl⟩ := hrel
        by_cases hlt : k < n
        · have c0 := HX.out.1 k hlt
          have c1 := HX.out.2 k hlt
          rw [← hbl.cell (p := ⟨b, off + k, none⟩) hB] at c0
          rw [← hbl.cell (p := ⟨b', off' + k, none⟩) hB'] at c1
          generalize l.getD k 0 = s at c0 c1
          have hg : decide ((n : Int) ≤ (k : Int)) = false := by simp; omega
          have hlt' : (k : Int) < (n : Int) := by omega
          go_wp2
          go_quiet (fail)
          go_wp2
          go_roundw
          case rel => exact ⟨k + 1, by omega, by go_num, Go.below_drewN hbl _⟩
          case measure => simp [intOf]; omega
        · obtain rfl : k = n := by omega
          go_wp2
          go_ret
          exact ⟨rfl, hbl⟩
theorem lits1 (w : World) (g : Nat) (hg : g = w.heap.size) (a : Int) : IntsAt (w.alloc (.cells #[.int .i64 a] 3)) (.slice (some ⟨g, 0, none⟩) 1 1) [a] := by
  subst hg
  refine .inr ⟨w.heap.size, 0, 1, rfl, by simp, by simp, by simp, by decide, fun j hj => ?_⟩
  have hj' : j < 1 := by simpa using hj
  match j, hj' with
  | 0, _ => simp
/-- The cells of a row's element. -/
theorem Row.elem {w : World} {B : Nat} {e : TypeId} {v : Value} {ls : List Sh.Sd} (h : Row SE w B e v ls) {i : Nat} {x : Sh.Sd} (hi : ls[i]? = some x) : ∃ g cap, v = .slice (some ⟨g, 0, none⟩) ls.length cap ∧ B ≤ g ∧ g < w.heap.size ∧ w.cell? ⟨g, i * 4, none⟩ = some (.int .i64 x.op) ∧ w.cell? ⟨g, i * 4 + 1, none⟩ = some (.int .i64 x.number) ∧ w.cell? ⟨g, i * 4 + 2, none⟩ = some (.string x.data) ∧ w.cell? ⟨g, i * 4 + 3, none⟩ = some (.int .i64 x.sum) := by
  have hat := h.at
  rcases h with ⟨rfl, rfl⟩ | ⟨g, cap, cur, rfl, hB, hh, h1, h2, h3, h4⟩
  · simp at hi
  · obtain ⟨ao, cap', he, _, hx⟩ := hat.open
    obtain ⟨b, off, hao, _, _, hc⟩ := hx i x hi
    simp only [Value.slice.injEq, true_and] at he
    rw [hao] at he
    simp only [Option.some.injEq, Addr.mk.injEq, and_true] at he
    obtain ⟨⟨rfl, rfl⟩, rfl⟩ := he
    have k0 := hc 0 (.int .i64 x.op) rfl
    have k1 := hc 1 (.int .i64 x.number) rfl
    have k2 := hc 2 (.string x.data) rfl
    have k3 := hc 3 (.int .i64 x.sum) rfl
    simp only [Nat.zero_add, show SE.sz = 4 from rfl, Nat.add_zero] at k0 k1 k2 k3
    exact ⟨g, cap, rfl, hB, (Array.getElem?_eq_some_iff.1 hh).1, k0, k1, k2, k3⟩
theorem info5 : (Tryd.prog.info? 5).map (fun i => (i.zero, i.size, i.bytes)) = some (some (.int .u8 0), 1, 1) := by kernel_rfl
/-- string(b) of a row of bytes. -/
theorem conv_bytes (W : World) (b len cap : Nat) (xs : List UInt8) (hlen : xs.length = len) (hb : ∀ i, i < len → W.cell? ⟨b, i, none⟩ = some (.int .u8 ((xs.getD i 0).toNat : Int))) :
    (convert 67 9 (.slice (some ⟨b, 0, none⟩) len cap)).run Tryd.prog W = .ok (.string ⟨xs.toArray⟩) W := by
  have h := run_convert_bytes_arg W 67 5 Tryd.underlying67 Tryd.underlying5 b 0 len cap (xs.map fun c => (c.toNat : Int)) (by simpa using hlen) (fun i hi => by
    have hi' : i < len := by simpa using hi
    rw [Nat.zero_add, hb i hi']
    have : i < xs.length := by omega
    simp [List.getD, this]) 9 Tryd.underlying9
  rw [h, show strOfNums (xs.map fun c => (c.toNat : Int)) = ⟨((xs.map fun c => (c.toNat : Int)).map fun n => UInt8.ofNat n.toNat).toArray⟩ from rfl]
  simp [Function.comp_def]
def Zn (n : Nat) : ByteArray := ⟨(List.replicate n 0).toArray⟩
theorem Zn_size (n : Nat) : (Zn n).size = n := by
  show (List.replicate n (0 : UInt8)).toArray.size = n
  rw [List.size_toArray, List.length_replicate]
theorem conv_zn (W : World) (n : Nat) : (convert 67 9 (.slice (some ⟨W.heap.size, 0, none⟩) n n)).run Tryd.prog (W.alloc (.cells (madeCells #[.int .u8 0] n) 5)) = .ok (.string (Zn n)) (W.alloc (.cells (madeCells #[.int .u8 0] n) 5)) := by
  refine conv_bytes _ W.heap.size n n (List.replicate n 0) (by simp) (fun i hi => ?_)
  have : (madeCells #[Value.int .u8 0] n)[i]? = some (.int .u8 0) := by simp [madeCells, hi, Nat.mod_one]
  simp [List.getD, hi, this]
theorem Sh.mis_one {t : ByteArray} (hc : Sh.cnt t.size = 2) : Sh.mis (Sh.part t (fun j => false || decide (j = 1))) 2 = [0] := by
  have h0 : (Sh.part t (fun j => false || decide (j = 1)) 0).size = 0 := (Sh.part_zero (by omega)).2 rfl
  have h1 : ¬ (Sh.part t (fun j => false || decide (j = 1)) 1).size = 0 := fun h => by
    have := (Sh.part_zero (t := t) (by omega)).1 h
    simp at this
  rw [Sh.mis_no h1, Sh.mis_yes h0]
  rfl
theorem Sh.part_none (t : ByteArray) : Sh.part t (fun _ => false) = fun _ => ⟨#[]⟩ := rfl
set_option maxRecDepth 100000 in
set_option maxRecDepth 100000 in
set_option maxHeartbeats 4000000 in
theorem two_any (w : World) (hT : Tab w) : Calls Tryd.prog 8 #[] w fun e w' => e = .returned (.bool true) ∧ Below w.heap.size w w' := by
  have HT : Hid (Tab w) := hT
  have hmk : ∀ w, (Instr.makeSlice 67 (.int .i64 300) (.int .i64 300)).run Tryd.prog w = .ok (.slice (some ⟨w.heap.size, 0, none⟩) 300 300) (w.alloc (.cells (madeCells #[.int .u8 0] 300) 5)) := run_make_row' (P := Tryd.prog) 67 5 (.int .u8 0) 1 Tryd.underlying67 info5 rfl .i64 .i64 300 (by decide) (by decide)
  have hcv0 : ∀ W : World, (convert 67 9 (.slice (some ⟨W.heap.size, 0, none⟩) 300 300)).run Tryd.prog (W.alloc (.cells (madeCells #[.int .u8 0] 300) 5)) = .ok (.string (Zn 300)) (W.alloc (.cells (madeCells #[.int .u8 0] 300) 5)) := fun W => conv_zn W 300
  have hzs := Zn_size 300
  obtain ⟨ob, hob⟩ : ∃ ob, Obj.cells (madeCells #[.int .u8 0] 300) 5 = ob := ⟨_, rfl⟩
  rw [hob] at hmk hcv0
  generalize Zn 300 = Z at *
  clear hob hT
  have hcnt : Sh.cnt Z.size = 2 := by rw [hzs]; rfl
  have h12 : 1 ≤ Z.size ∧ Z.size ≤ 65535 := by omega
  have hE : Sh.splE 5 Z = 0 := by unfold Sh.splE; rw [if_pos ⟨by decide, by decide⟩, if_pos h12]
  have HE : Hid (Sh.splE 5 Z = 0) := hE
  have HMv : Hid (Sh.splM 5 Z = Sh.mf 5 Z) := show Sh.splM 5 Z = Sh.mf 5 Z by unfold Sh.splM; rw [hE]; rfl
  have HL : Hid (Sh.splL 5 Z = Sh.sds 5 Z 2) := show Sh.splL 5 Z = Sh.sds 5 Z 2 by unfold Sh.splL; rw [hE, hcnt]; rfl
  have HOK : Hid (Sh.okM (Sh.mf 5 Z) = true) := Sh.mf_ok ⟨by decide, by decide⟩ h12
  have HMS : Hid (Sh.cnt (Sh.mf 5 Z).size.toNat = 2) := show Sh.cnt (Sh.mf 5 Z).size.toNat = 2 by rw [Sh.mf_size, hcnt]
  have HC : Hid (Sh.cnt Z.size = 2) := hcnt
  have HZ : Hid (Z.size = 300) := hzs
  have hZm : Z.size ≤ maxLen := by unfold maxLen; omega
  clear hE hcnt h12 hzs
  go_enter Tryd.func8, Tryd.ntmps8
  go_wp2_with fail
  refine (split_any 5 Z _ (HT.out.up (below_alloc _ _)) hZm).mono ?_
  rintro e w1 ⟨v, rfl, hrow, hb1⟩
  rw [HE.out, HMv.out]
  rw [HL.out] at hrow
  have HB1 : Hid (Below w.heap.size w w1) := bup (below_alloc _ _) hb1
  have HT1 : Hid (Tab w1) := HT.out.up HB1.out
  obtain ⟨g, cap, rfl, hgB, hgl, k0, k1, k2, k3⟩ := hrow.elem (i := 0) (x := Sh.sd 5 Z 0) (Sh.sds_get (by decide))
  obtain ⟨g', cap', hv', _, _, j0, j1, j2, j3⟩ := hrow.elem (i := 1) (x := Sh.sd 5 Z 1) (Sh.sds_get (by decide))
  cases hv'
  rw [Sh.sds_length] at *
  clear hb1 hrow hgB
  have HK : Hid (w1.cell? ⟨g, 0 * 4, none⟩ = some (.int .i64 (Sh.sd 5 Z 0).op) ∧ w1.cell? ⟨g, 0 * 4 + 1, none⟩ = some (.int .i64 (Sh.sd 5 Z 0).number) ∧ w1.cell? ⟨g, 0 * 4 + 2, none⟩ = some (.string (Sh.sd 5 Z 0).data) ∧ w1.cell? ⟨g, 0 * 4 + 3, none⟩ = some (.int .i64 (Sh.sd 5 Z 0).sum)) := ⟨k0, k1, k2, k3⟩
  have HJ : Hid (w1.cell? ⟨g, 1 * 4, none⟩ = some (.int .i64 (Sh.sd 5 Z 1).op) ∧ w1.cell? ⟨g, 1 * 4 + 1, none⟩ = some (.int .i64 (Sh.sd 5 Z 1).number) ∧ w1.cell? ⟨g, 1 * 4 + 2, none⟩ = some (.string (Sh.sd 5 Z 1).data) ∧ w1.cell? ⟨g, 1 * 4 + 3, none⟩ = some (.int .i64 (Sh.sd 5 Z 1).sum)) := ⟨j0, j1, j2, j3⟩
  clear k0 k1 k2 k3 j0 j1 j2 j3
  rw [show (Sh.mf 5 Z).val = .agg #[.int .i64 5, .int .i64 Z.size, .int .i64 (Sh.sum Z)] from rfl]
  go_wp2_with fail
  refine (new_ok (Sh.mf 5 Z) _ HOK.out).mono ?_
  rintro e w2 ⟨A, rfl, hAs, hA2, hb2⟩
  have hb2' : Below w1.heap.size w1 w2 := bup (below_alloc _ _) hb2
  have HB2 : Hid (Below w.heap.size w w2) := bup HB1.out hb2'
  have HT2 : Hid (Tab w2) := HT1.out.up hb2'
  have hAw : w.heap.size ≤ A := by have := HB1.out.size; simp at hAs; omega
  have hgA : g ≠ A := by simp at hAs; omega
  have hgl2 : g < w2.heap.size := by have := hb2'.size; omega
  have HA2 : Hid (AsmAt w2 A (Sh.mf 5 Z) (Sh.part Z fun _ => false)) := hA2
  have j0 : w2.cell? ⟨g, 4, none⟩ = some (.int .i64 5) := (hb2'.cell (p := ⟨g, 4, none⟩) hgl).trans HJ.out.1
  have j1 : w2.cell? ⟨g, 5, none⟩ = some (.int .i64 1) := (hb2'.cell (p := ⟨g, 5, none⟩) hgl).trans HJ.out.2.1
  have j2 : w2.cell? ⟨g, 6, none⟩ = some (.string (Sh.pc Z 1)) := (hb2'.cell (p := ⟨g, 6, none⟩) hgl).trans HJ.out.2.2.1
  have j3 : w2.cell? ⟨g, 7, none⟩ = some (.int .i64 (Sh.sum (Sh.pc Z 1))) := (hb2'.cell (p := ⟨g, 7, none⟩) hgl).trans HJ.out.2.2.2
  have HK2 : Hid (w2.cell? ⟨g, 0, none⟩ = some (.int .i64 5) ∧ w2.cell? ⟨g, 1, none⟩ = some (.int .i64 0) ∧ w2.cell? ⟨g, 2, none⟩ = some (.string (Sh.pc Z 0)) ∧ w2.cell? ⟨g, 3, none⟩ = some (.int .i64 (Sh.sum (Sh.pc Z 0)))) := ⟨(hb2'.cell (p := ⟨g, 0, none⟩) hgl).trans HK.out.1, (hb2'.cell (p := ⟨g, 1, none⟩) hgl).trans HK.out.2.1, (hb2'.cell (p := ⟨g, 2, none⟩) hgl).trans HK.out.2.2.1, (hb2'.cell (p := ⟨g, 3, none⟩) hgl).trans HK.out.2.2.2⟩
  have HJ2 : Hid (w2.cell? ⟨g, 6, none⟩ = some (.string (Sh.pc Z 1))) := j2
  have hp0 : (Sh.pc Z 0).size = 256 := by
    have h := Sh.pc_size (t := Z) (i := 0) (by rw [HC.out]; decide)
    rw [HZ.out] at h
    have : Sh.psz 300 (0 : Nat) = 256 := by decide
    omega
  have hp1 : (Sh.pc Z 1).size = 44 := by
    have h := Sh.pc_size (t := Z) (i := 1) (by rw [HC.out]; decide)
    rw [HZ.out] at h
    have : Sh.psz 300 (1 : Nat) = 44 := by decide
    omega
  have HP : Hid ((Sh.pc Z 0).size ≤ maxLen ∧ (Sh.pc Z 1).size ≤ maxLen ∧ (Sh.pc Z 1).size = 44) := ⟨by rw [hp0]; decide, by rw [hp1]; decide, hp1⟩
  clear hb2 hb2' hA2 hAs hp0 hp1 HK HJ HT1 HB1
  go_wp2_with fail
  refine (add_any A (Sh.mf 5 Z) (Sh.sd 5 Z 1) (Sh.part Z fun _ => false) _ HT2.out HA2.out HOK.out HP.out.2.1).mono ?_
  rintro e w3 ⟨rfl, hA3, hg3⟩
  rw [Sh.addF_part (by rw [HC.out]; decide)] at hA3
  rw [Sh.addE_part (by rw [HC.out]; decide), Sh.addB_part (by rw [HC.out]; decide)]
  have hA0 : A ≠ 0 := HA2.out.ne_zero HT2.out
  have HT3 : Hid (Tab w3) := HT2.out.grown hg3 hA0
  have HB3 : Hid (Below w.heap.size w w3) := HB2.out.grown hg3 HB2.out.size (fun j hj => by cases hj; exact hAw)
  have HA3 : Hid (AsmAt w3 A (Sh.mf 5 Z) (Sh.part Z (fun j => false || decide (j = 1)))) := hA3
  have hc3 : ∀ o, w3.cell? ⟨g, o, none⟩ = w2.cell? ⟨g, o, none⟩ := fun o => cell_block (p := ⟨g, o, none⟩) (hg3.block g hgl2 (by simpa using hgA))
  have hgl3 : g < w3.heap.size := Nat.lt_of_lt_of_le hgl2 hg3.size
  have HK3 : Hid (w3.cell? ⟨g, 0, none⟩ = some (.int .i64 5) ∧ w3.cell? ⟨g, 1, none⟩ = some (.int .i64 0) ∧ w3.cell? ⟨g, 2, none⟩ = some (.string (Sh.pc Z 0)) ∧ w3.cell? ⟨g, 3, none⟩ = some (.int .i64 (Sh.sum (Sh.pc Z 0)))) := by
    show _ ∧ _ ∧ _ ∧ _
    rw [hc3, hc3, hc3, hc3]
    exact HK2.out
  have HJ3 : Hid (w3.cell? ⟨g, 6, none⟩ = some (.string (Sh.pc Z 1))) := (hc3 6).trans HJ2.out
  clear hA3 hg3 hc3 j0 j1 j2 j3 HK2 HJ2 HA2 HT2 HB2
  go_wp2_with fail
  refine (missing_any A (Sh.mf 5 Z) _ _ HA3.out HOK.out).mono ?_
  rintro e w4 ⟨vm, nm, rfl, hm4, hb4⟩
  rw [HMS.out, Sh.mis_one HC.out] at hm4
  have HM4 : Hid (w4.ownsRow w3.heap.size 3 1 vm nm (([0] : List Int).map (Value.int .i64))) := hm4
  have hA3l := HA3.out.lt
  have HA4 : Hid (AsmAt w4 A (Sh.mf 5 Z) (Sh.part Z (fun j => false || decide (j = 1)))) := HA3.out.up hb4
  have HT4 : Hid (Tab w4) := HT3.out.up hb4
  have HB4 : Hid (Below w.heap.size w w4) := bup HB3.out hb4
  have hgl4 : g < w4.heap.size := Nat.lt_of_lt_of_le hgl3 hb4.size
  have k0 : w4.cell? ⟨g, 0, none⟩ = some (.int .i64 5) := (hb4.cell (p := ⟨g, 0, none⟩) hgl3).trans HK3.out.1
  have k1 : w4.cell? ⟨g, 1, none⟩ = some (.int .i64 0) := (hb4.cell (p := ⟨g, 1, none⟩) hgl3).trans HK3.out.2.1
  have k2 : w4.cell? ⟨g, 2, none⟩ = some (.string (Sh.pc Z 0)) := (hb4.cell (p := ⟨g, 2, none⟩) hgl3).trans HK3.out.2.2.1
  have k3 : w4.cell? ⟨g, 3, none⟩ = some (.int .i64 (Sh.sum (Sh.pc Z 0))) := (hb4.cell (p := ⟨g, 3, none⟩) hgl3).trans HK3.out.2.2.2
  have HJ4 : Hid (w4.cell? ⟨g, 6, none⟩ = some (.string (Sh.pc Z 1))) := (hb4.cell (p := ⟨g, 6, none⟩) hgl3).trans HJ3.out
  clear hm4 hb4 HK3 HJ3 HA3 HT3 HB3
  go_wp2_with fail
  refine (add_any A (Sh.mf 5 Z) (Sh.sd 5 Z 0) _ _ HT4.out HA4.out HOK.out HP.out.1).mono ?_
  rintro e w5 ⟨rfl, hA5, hg5⟩
  rw [Sh.addF_part (by rw [HC.out]; decide)] at hA5
  rw [Sh.addE_part (by rw [HC.out]; decide), Sh.addB_part (by rw [HC.out]; decide)]
  have HT5 : Hid (Tab w5) := HT4.out.grown hg5 hA0
  rw [show (!(false || decide ((0 : Nat) = 1))) = true from rfl]
  have HB5 : Hid (Below w.heap.size w w5) := HB4.out.grown hg5 HB4.out.size (fun j hj => by cases hj; exact hAw)
  have HA5 : Hid (AsmAt w5 A (Sh.mf 5 Z) (Sh.part Z (fun j => (false || decide (j = 1)) || decide (j = 0)))) := hA5
  have hgl5 : g < w5.heap.size := Nat.lt_of_lt_of_le hgl4 hg5.size
  have HJ5 : Hid (w5.cell? ⟨g, 6, none⟩ = some (.string (Sh.pc Z 1))) := (cell_block (p := ⟨g, 6, none⟩) (hg5.block g hgl4 (by simpa using hgA))).trans HJ4.out
  have HTX : Hid (Sh.txtE (Sh.mf 5 Z) (Sh.part Z (fun j => (false || decide (j = 1)) || decide (j = 0))) = 0 ∧ Sh.txt (Sh.mf 5 Z) (Sh.part Z (fun j => (false || decide (j = 1)) || decide (j = 0))) = Z) := Sh.txt_full (fun i hi => by
    rw [HC.out] at hi
    simp
    omega)
  have HM5 : Hid (IntsAt w5 vm [0]) := IntsAt.of_own (HM4.out.kept hg5 (by
    cases hq : vm.ownBlock with
    | none => exact .inl rfl
    | some q => exact .inr (by have := (HM4.out.lt q hq).1; simp; omega)))
  clear hA5 hg5 k0 k1 k2 k3 HJ4 HA4 HT4 HB4
  go_wp2_with fail
  refine (text_any A (Sh.mf 5 Z) _ _ HT5.out HA5.out HOK.out (Sh.part_le _ _)).mono ?_
  rintro e w6 ⟨rfl, hb6⟩
  rw [HTX.out.1, HTX.out.2]
  have HB6 : Hid (Below w.heap.size w w6) := bup HB5.out hb6
  have HM6 : Hid (IntsAt w6 vm [0]) := HM5.out.up hb6
  have j2 : w6.cell? ⟨g, 6, none⟩ = some (.string (Sh.pc Z 1)) := (hb6.cell (p := ⟨g, 6, none⟩) hgl5).trans HJ5.out
  have hp1 := HP.out.2.2
  clear hb6 HB5 HM5 HA5 HT5
  generalize Sh.pc Z 1 = P1 at *
  have hzz : (Z.toList == Z.toList) = true := by simp
  have hp44 : (P1.size : Int) = 44 := by omega
  go_wp2_with fail
  refine (ints_same _ _ [0] _ (HM6.out.up (below_alloc _ _)) (lits1 w6 w6.heap.size rfl 0)).mono ?_
  rintro e w7 ⟨rfl, hb7⟩
  have HB7 : Hid (Below w.heap.size w w7) := bup HB6.out (bup (below_alloc _ _) hb7)
  clear hb7
  go_wp2
  go_ret
  exact ⟨rfl, HB7.out⟩
end Go.Proofs.YtceeafmahoelfaaDoor
