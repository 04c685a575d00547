/-
  shard's Split: a text's manifest and its shards, in a row of its own.
-/
import Derived.Test.YtceeafmahoelfaaDoorHBase
import Derived.Deep.RegionHeld3
namespace Go.Proofs.YtceeafmahoelfaaDoor
open Go.ChangeShapes Go.WideShapes Go.ChangeAt Go.RowKit

/-- How a shard lies in cells. -/
def SE : Enc Sh.Sd where
  sz := 4
  cells x := [.int .i64 x.op, .int .i64 x.number, .string x.data, .int .i64 x.sum]
  len _ := rfl
  one x u hu := by
    simp only [List.mem_cons, List.not_mem_nil, or_false] at hu
    rcases hu with rfl | rfl | rfl | rfl <;> rfl
theorem one_sd (w : World) (x : Sh.Sd) (g : Nat) (hg : g = w.heap.size) (e : TypeId) : At SE (fun _ => True) (w.alloc (.cells #[.int .i64 x.op, .int .i64 x.number, .string x.data, .int .i64 x.sum] e)) (.slice (some ⟨g, 0, none⟩) 1 1) [x] := by
  subst hg
  refine .inr ⟨w.heap.size, 0, 1, rfl, trivial, by simp, by simp, by simp, by unfold maxLen; omega, fun j u hj => ?_⟩
  have e0 : SE.flat [x] = [.int .i64 x.op, .int .i64 x.number, .string x.data, .int .i64 x.sum] := by simp [Enc.flat, SE]
  rw [e0] at hj
  have hj' : j < 4 := by simpa using (List.getElem?_eq_some_iff.1 hj).1
  match j, hj' with
  | 0, _ => simp at hj; subst hj; simp
  | 1, _ => simp at hj; subst hj; simp
  | 2, _ => simp at hj; subst hj; simp
  | 3, _ => simp at hj; subst hj; simp
theorem info_sd : (Tryd.prog.info? 36).map (fun i => (i.zero, i.size, i.bytes)) = some (some (.agg #[.int .i64 0, .int .i64 0, .string ⟨#[]⟩, .int .i64 0]), 4, 40) := by kernel_rfl
theorem info_rsd : (Tryd.prog.info? 34).map (fun i => (i.zero, i.size, i.bytes)) = some (some (.agg #[.int .i64 0, .int .i64 0, .string ⟨#[]⟩, .int .i64 0]), 4, 40) := by kernel_rfl
theorem Row.low {E : Enc Sh.Sd} {w : World} {B C : Nat} {e : TypeId} {v : Value} {ls : List Sh.Sd} (h : Row E w B e v ls) (hc : C ≤ B) : Row E w C e v ls := by
  rcases h with h | ⟨g, cap, cur, h0, hB, h1⟩
  · exact .inl h
  · exact .inr ⟨g, cap, cur, h0, by omega, h1⟩
theorem grown_setCell (w : World) (A o : Nat) (v : Value) : w.grownBy (w.setCell ⟨A, o, none⟩ v) (some A) := ⟨rfl, rfl, rfl, by simp [World.setCell], fun k _ hne => Below.heap_setCell _ _ _ _ (fun e => hne (by rw [e]))⟩
theorem grown_set3 (w : World) (A o1 o2 o3 : Nat) (v1 v2 v3 : Value) : w.grownBy (((w.setCell ⟨A, o1, none⟩ v1).setCell ⟨A, o2, none⟩ v2).setCell ⟨A, o3, none⟩ v3) (some A) := grown_trans (grown_trans (grown_setCell _ _ _ _) (grown_setCell _ _ _ _)) (grown_setCell _ _ _ _)
def Sh.splE (op : Int) (t : ByteArray) : Int := if 0 ≤ op ∧ op ≤ 1099511627776 then (if 1 ≤ t.size ∧ t.size ≤ 65535 then 0 else 2) else 1
def Sh.splM (op : Int) (t : ByteArray) : Sh.Mf := if Sh.splE op t = 0 then ⟨op, t.size, Sh.sum t⟩ else ⟨0, 0, 0⟩
def Sh.splL (op : Int) (t : ByteArray) : List Sh.Sd := if Sh.splE op t = 0 then Sh.sds op t (Sh.cnt t.size) else []
set_option maxRecDepth 100000 in
set_option maxRecDepth 100000 in
set_option maxHeartbeats 2000000 in
theorem split_any (op : Int) (t : ByteArray) (w : World) (hT : Tab w) (hs : t.size ≤ maxLen) : Calls Tryd.prog 9 #[.int .i64 op, .string t] w fun e w' => ∃ v, e = .returned (.tuple #[(Sh.splM op t).val, v, .int .i64 (Sh.splE op t)]) ∧ Row SE w' w.heap.size 36 v (Sh.splL op t) ∧ Below w.heap.size w w' := by
  have HT : Hid (Tab w) := hT
  have hb0 : Below w.heap.size w (w.alloc (.cells #[.int .i64 0, .int .i64 0, .int .i64 0] 23)) := below_alloc _ _
  unfold maxLen at hs
  clear hT
  by_cases h1 : 0 ≤ op ∧ op ≤ 1099511627776
  · have D1 : Hid (decide (0 ≤ op ∧ op ≤ 1099511627776) = true) := decide_eq_true h1
    by_cases h2 : 1 ≤ (t.size : Int) ∧ (t.size : Int) ≤ 65535
    · have D2 : Hid (decide (1 ≤ (t.size : Int) ∧ (t.size : Int) ≤ 65535) = true) := decide_eq_true h2
      have HE : Hid (Sh.splE op t = 0) := show Sh.splE op t = 0 by unfold Sh.splE; rw [if_pos h1, if_pos (by omega)]
      have HM : Hid ((Sh.splM op t).val = .agg #[.int .i64 op, .int .i64 t.size, .int .i64 (Sh.sum t)]) := show (Sh.splM op t).val = _ by unfold Sh.splM; rw [HE.out]; rfl
      have HL : Hid (Sh.splL op t = Sh.sds op t (Sh.cnt t.size)) := show Sh.splL op t = _ by unfold Sh.splL; rw [HE.out]; rfl
      have hn : t.size ≤ 65535 := by omega
      have hc := Sh.cnt_le hn
      obtain ⟨i0, hi, hz0, hz1, hz2⟩ := info_parts info_sd
      obtain ⟨c, hcc⟩ : ∃ c, Sh.cnt t.size = c := ⟨_, rfl⟩
      rw [hcc] at HL hc
      have HC : Hid (Sh.cnt t.size = c) := hcc
      clear h1 hcc
      go_enter Tryd.func9, Tryd.ntmps9
      go_wp2_with fail
      refine (within_any _ _ _ _).mono ?_
      rintro e w' ⟨rfl, rfl⟩
      rw [D1.out]
      go_wp2_with fail
      refine (within_any _ _ _ _).mono ?_
      rintro e w' ⟨rfl, rfl⟩
      rw [D2.out]
      go_wp2_with fail
      refine (count_any _ _ hn).mono ?_
      rintro e w' ⟨rfl, rfl⟩
      rw [HC.out]
      obtain ⟨W0, hW0⟩ : ∃ W0, w.alloc (.cells #[.int .i64 0, .int .i64 0, .int .i64 0] 23) = W0 := ⟨_, rfl⟩
      have HT0 : Hid (Tab W0) := show Tab W0 by rw [← hW0]; exact HT.out.up (below_alloc _ _)
      have hbox : W0.heap[w.heap.size]? = some (.cells #[.int .i64 0, .int .i64 0, .int .i64 0] 23 (0, 0)) := by rw [← hW0]; exact heap_alloc_new _ _
      have hsz0 : W0.heap.size = w.heap.size + 1 := by rw [← hW0]; simp
      rw [hW0] at hb0 ⊢
      have HBX : Hid (W0.heap[w.heap.size]? = some (.cells #[.int .i64 0, .int .i64 0, .int .i64 0] 23 (0, 0))) := hbox
      have HSZ : Hid (W0.heap.size = w.heap.size + 1) := hsz0
      clear hW0 hbox hsz0
      go_wp2
      go_loopw [7, 23] (fun v u wr => ∃ k : Nat, k ≤ c ∧ u = .int .i64 k ∧ Row SE wr W0.heap.size 36 v (Sh.sds op t k) ∧ Hid (Below W0.heap.size W0 wr)) (fun _ u _ => c - (intOf u).toNat)
      case atStart => exact ⟨0, Nat.zero_le _, rfl, Row.nil _ _ _ _, Below.refl _ _⟩
      case round =>
        obtain ⟨k, hk, rfl, hrow, HBL⟩ := hrel
        by_cases hlt : k < c
        · have hltI : (k : Int) < (c : Int) := by omega
          have hp := Sh.psz_pos (n := t.size) (k := k) (by rw [HC.out]; exact hlt)
          have HX : Hid (Sh.sds op t (k + 1) = Sh.sds op t k ++ [Sh.sd op t k]) := Sh.sds_succ op t k
          have HLen := Sh.sds_length op t k
          have p0 : (0 : Int) ≤ (k : Int) * 256 := by omega
          have p1 : (k : Int) * 256 ≤ 65535 := by omega
          go_wp2_with fail
          refine (pieceSize_any _ _ _ hn).mono ?_
          rintro e w' ⟨rfl, rfl⟩
          go_wp2_with fail
          have HPC : Hid (t.extract (k * 256) ((k : Int) * 256 + Sh.psz t.size k).toNat = Sh.pc t k) := show t.extract (k * 256) ((k : Int) * 256 + Sh.psz t.size k).toNat = Sh.pc t k by
            unfold Sh.pc
            congr 1
            omega
          rw [HPC.out]
          have hps := Sh.pc_size (t := t) (i := k) (by rw [HC.out]; exact hlt)
          have hPs : (Sh.pc t k).size ≤ 256 := by omega
          have HSD : Hid (Sh.sd op t k = ⟨op, k, Sh.pc t k, Sh.sum (Sh.pc t k)⟩) := rfl
          clear hps
          generalize hP : Sh.pc t k = P at *
          clear hP HPC
          refine (sum_any P _ (by unfold maxLen; omega) (HT0.out.up HBL.out)).mono ?_
          rintro e w2 ⟨rfl, rfl⟩
          rw [show Pl.crc P.data.toList = Sh.sum P from rfl]
          obtain ⟨S, hS⟩ : ∃ S, Sh.sum P = S := ⟨_, rfl⟩
          rw [hS] at HSD ⊢
          clear hS
          have hsz := HBL.out.size
          go_wp2_with (at_builtin; refine wpList_row _ rfl _ _ 25 rfl SE (fun _ => True) W0.heap.size 36 i0 _ 40 Tryd.underlying25 hi hz0 hz1 hz2 rfl _ (Sh.sds op t k) rfl (hrow.still (World.grownBy_alloc _ _ none)) _ [⟨op, k, P, S⟩] rfl (one_sd _ ⟨op, k, P, S⟩ _ rfl _) (by rw [HLen]; unfold maxLen; simp; omega) (by rw [HLen]; simp; omega) (by simp; omega) ?_; intro v3 w3 hrow3 hg3 _)
          have hga := grown_trans (World.grownBy_alloc w2 (.cells #[.int .i64 op, .int .i64 k, .string P, .int .i64 S] 36) u7.ownBlock) hg3
          have HB3 : Hid (Below W0.heap.size W0 w3) := HBL.out.grown hga hsz (fun j hj => (hrow.lt j hj).1)
          clear hg3 hga hrow
          go_wp2
          go_roundw
          case rel => exact ⟨k + 1, by omega, by go_num, by rw [HX.out, HSD.out]; exact hrow3, HB3⟩
          case measure => simp [intOf]; omega
        · obtain rfl : c = k := by omega
          go_wp2_with fail
          refine (sum_any t _ (by unfold maxLen; omega) (HT0.out.up HBL.out)).mono ?_
          rintro e w2 ⟨rfl, rfl⟩
          rw [show Pl.crc t.data.toList = Sh.sum t from rfl]
          generalize Sh.sum t = S at *
          have hbx : w2.heap[w.heap.size]? = some (.cells #[.int .i64 0, .int .i64 0, .int .i64 0] 23 (0, 0)) := (HBL.out.block _ (by rw [HSZ.out]; omega)).trans HBX.out
          have c0 : w2.cell? ⟨w.heap.size, 0, none⟩ = some (.int .i64 0) := by simp [World.cell?, hbx]
          have c1 : w2.cell? ⟨w.heap.size, 1, none⟩ = some (.int .i64 0) := by simp [World.cell?, hbx]
          have c2 : w2.cell? ⟨w.heap.size, 2, none⟩ = some (.int .i64 0) := by simp [World.cell?, hbx]
          have f0 : w2.frozen? ⟨w.heap.size, 0, none⟩ = false := by simp [World.frozen?, hbx]
          have f1 : w2.frozen? ⟨w.heap.size, 1, none⟩ = false := by simp [World.frozen?, hbx]
          have f2 : w2.frozen? ⟨w.heap.size, 2, none⟩ = false := by simp [World.frozen?, hbx]
          clear hbx
          go_wp2
          have gs := grown_set3 w2 w.heap.size 0 1 2 (.int .i64 op) (.int .i64 t.size) (.int .i64 S)
          have hrow2 := hrow.kept gs (by
            cases hq : u7.ownBlock with
            | none => exact .inl rfl
            | some q => exact .inr (by have := (hrow.lt q hq).1; have := HSZ.out; simp; omega))
          have hb2 : Below w.heap.size w (((w2.setCell ⟨w.heap.size, 0, none⟩ (.int .i64 op)).setCell ⟨w.heap.size, 1, none⟩ (.int .i64 t.size)).setCell ⟨w.heap.size, 2, none⟩ (.int .i64 S)) := (bup hb0 HBL.out).grown gs (bup hb0 HBL.out).size (fun j hj => by cases hj; exact Nat.le_refl _)
          refine bodyPost_ret (v := .tuple #[.agg #[.int .i64 op, .int .i64 t.size, .int .i64 S], u7, .int .i64 0]) (by simp [results, Tryd.results9, go_sem, c0, c1, c2]) rfl ?_
          rw [HM.out, HE.out, HL.out]
          exact ⟨_, rfl, hrow2.low (by rw [HSZ.out]; omega), hb2⟩
    · have D2 : Hid (decide (1 ≤ (t.size : Int) ∧ (t.size : Int) ≤ 65535) = false) := decide_eq_false h2
      have HE : Hid (Sh.splE op t = 2) := show Sh.splE op t = 2 by unfold Sh.splE; rw [if_pos h1, if_neg (by omega)]
      have HM : Hid ((Sh.splM op t).val = .agg #[.int .i64 0, .int .i64 0, .int .i64 0]) := show (Sh.splM op t).val = _ by unfold Sh.splM; rw [HE.out]; rfl
      have HL : Hid (Sh.splL op t = []) := show Sh.splL op t = _ by unfold Sh.splL; rw [HE.out]; rfl
      clear h1 h2
      go_enter Tryd.func9, Tryd.ntmps9
      go_wp2_with fail
      refine (within_any _ _ _ _).mono ?_
      rintro e w' ⟨rfl, rfl⟩
      rw [D1.out]
      go_wp2_with fail
      refine (within_any _ _ _ _).mono ?_
      rintro e w' ⟨rfl, rfl⟩
      rw [D2.out]
      go_wp2
      refine bodyPost_ret (v := .tuple #[.agg #[.int .i64 0, .int .i64 0, .int .i64 0], .slice none 0 0, .int .i64 2]) (by simp [results, Tryd.results9, go_sem]) rfl ?_
      rw [HM.out, HE.out, HL.out]
      exact ⟨_, rfl, Row.nil _ _ _ _, hb0⟩
  · have D1 : Hid (decide (0 ≤ op ∧ op ≤ 1099511627776) = false) := decide_eq_false h1
    have HE : Hid (Sh.splE op t = 1) := show Sh.splE op t = 1 by unfold Sh.splE; rw [if_neg h1]
    have HM : Hid ((Sh.splM op t).val = .agg #[.int .i64 0, .int .i64 0, .int .i64 0]) := show (Sh.splM op t).val = _ by unfold Sh.splM; rw [HE.out]; rfl
    have HL : Hid (Sh.splL op t = []) := show Sh.splL op t = _ by unfold Sh.splL; rw [HE.out]; rfl
    clear h1
    go_enter Tryd.func9, Tryd.ntmps9
    go_wp2_with fail
    refine (within_any _ _ _ _).mono ?_
    rintro e w' ⟨rfl, rfl⟩
    rw [D1.out]
    go_wp2
    refine bodyPost_ret (v := .tuple #[.agg #[.int .i64 0, .int .i64 0, .int .i64 0], .slice none 0 0, .int .i64 1]) (by simp [results, Tryd.results9, go_sem]) rfl ?_
    rw [HM.out, HE.out, HL.out]
    exact ⟨_, rfl, Row.nil _ _ _ _, hb0⟩
end Go.Proofs.YtceeafmahoelfaaDoor
