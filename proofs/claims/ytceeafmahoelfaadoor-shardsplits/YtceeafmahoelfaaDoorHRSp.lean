/-
  The document's Split: a text's manifest and its shards, in a row of its own.
-/
import Derived.Test.YtceeafmahoelfaaDoorHOpen
namespace Go.Proofs.YtceeafmahoelfaaDoor
open Go.ChangeShapes Go.WideShapes Go.ChangeAt Go.RowKit

theorem step_row {α : Type} {P : Program} {w : World} {ops : Array Oper} {o : Oper} {a : Act} {K : Act → World → Prop} {Q : Exit → Act → World → Prop} {X : Prop} (hgd : o.guard = none) (s x : Operand) (t : TypeId)
    (ho : o.op = .call { callee := .builtin .append, args := #[s, x], argTypes := #[t, t] }) (E : Enc α) (S : Nat → Prop)
    (B : Nat) (e : TypeId) (i : TypeInfo) (z : Value) (bytes : Nat) (ht : P.underlying t = some (.slice e)) (hi : P.info? e = some i) (hz : i.zero = some z) (hsize : i.size = E.sz) (hby : i.bytes = bytes) (hzs : z.cells.size = E.sz)
    (v : Value) (ls : List α) (hv : a.eval s = v) (hrow : Row E w B e v ls) (xv : Value) (xs : List α) (hxv : a.eval x = xv) (hx : At E S w xv xs) (h63 : ls.length + xs.length ≤ maxLen) (hbytes : (ls.length + xs.length + (ls.length + xs.length) / 4 + 192) * bytes ≤ 281474976710656) (hbase : B ≤ w.heap.size)
    (h : ∀ v' w', Row E w' B e v' (ls ++ xs) → w.grownBy w' v.ownBlock → K (a.put o.dst v') w') :
    if Region.wanted o (yielded ops a.tmps) = true then Oper.wp P o a w K Q else X := by
  have hw : Region.wanted o (yielded ops a.tmps) = true := by simp [Region.wanted, hgd]
  rw [if_pos hw]
  obtain ⟨v', w', hr, h2, h3, _⟩ := Row.append_run (P := P) w E S B t o.type e i z bytes ht hi hz hsize hby hzs v ls hrow xv xs hx h63 hbytes hbase
  unfold Oper.wp execOp
  simp only [ho, resolve, invoke, builtin, Sem.run_bind, Sem.run_pure, Result.andThen_ok, List.map_toArray, List.map_cons, List.map_nil, hv, hxv, hr]
  exact h v' w' h2 h3
namespace Sh
theorem ba_ext {a b : ByteArray} (h : a.data.toList = b.data.toList) : a = b := by
  cases a
  cases b
  simp only at h
  congr 1
  exact Array.toList_inj.1 h
def rst (t : ByteArray) (k : Nat) : ByteArray := t.extract (k * 256) t.size
theorem rst_list (t : ByteArray) (k : Nat) : (rst t k).data.toList = t.data.toList.drop (k * 256) := by
  unfold rst
  rw [extract_list, List.take_of_length_le (by simp)]
theorem rst_size (t : ByteArray) (k : Nat) : (rst t k).size = t.size - k * 256 := by
  unfold rst
  rw [ByteArray.size_extract]
  omega
theorem rst_zero (t : ByteArray) : rst t 0 = t := ba_ext (by rw [rst_list]; simp)
theorem rst_take {t : ByteArray} {k n : Nat} (hn : (n : Int) = psz t.size k) : (rst t k).extract 0 n = pc t k := by
  apply ba_ext
  rw [extract_list, rst_list]
  unfold pc
  rw [extract_list, ← hn, Int.toNat_natCast]
  simp [List.take_drop]
theorem rst_next {t : ByteArray} {k n : Nat} (hk : k < cnt t.size) (hn : (n : Int) = psz t.size k) : (rst t k).extract n (rst t k).size = rst t (k + 1) := by
  apply ba_ext
  rw [extract_list, rst_list, rst_list, List.take_of_length_le (by rw [rst_size]; simp), List.drop_drop]
  have h1 := psz_in hk
  by_cases h : n = 256
  · rw [h, show k * 256 + 256 = (k + 1) * 256 from by omega]
  · have hl : t.data.toList.length = t.size := by simp
    rw [List.drop_eq_nil_of_le (by omega), List.drop_eq_nil_of_le (by omega)]
theorem rst_end {t : ByteArray} {k : Nat} : (rst t k).size = 0 ↔ ¬ k < cnt t.size := by
  rw [rst_size]
  unfold cnt
  omega
end Sh
set_option maxRecDepth 100000 in
set_option maxRecDepth 100000 in
set_option maxHeartbeats 4000000 in
theorem rsplit_any (op : Int) (t : ByteArray) (w : World) (hs : t.size ≤ maxLen) : Calls Tryd.prog 10 #[.int .i64 op, .string t] w fun e w' => ∃ v, e = .returned (.tuple #[(Sh.splM op t).val, v, .int .i64 (Sh.splE op t)]) ∧ Row SE w' w.heap.size 34 v (Sh.splL op t) ∧ Below w.heap.size w w' := by
  have hb0 : Below w.heap.size w (w.alloc (.cells #[.int .i64 0, .int .i64 0, .int .i64 0] 29)) := below_alloc _ _
  unfold maxLen at hs
  by_cases h1 : op < 0
  · have HE : Hid (Sh.splE op t = 1) := show Sh.splE op t = 1 by unfold Sh.splE; rw [if_neg (by omega)]
    have HM : Hid ((Sh.splM op t).val = .agg #[.int .i64 0, .int .i64 0, .int .i64 0]) := show (Sh.splM op t).val = _ by unfold Sh.splM; rw [HE.out]; rfl
    have HL : Hid (Sh.splL op t = []) := show Sh.splL op t = _ by unfold Sh.splL; rw [HE.out]; rfl
    go_enter Tryd.func10, Tryd.ntmps10
    go_wp2
    refine bodyPost_ret (v := .tuple #[.agg #[.int .i64 0, .int .i64 0, .int .i64 0], .slice none 0 0, .int .i64 1]) (by simp [results, Tryd.results10, go_sem]) rfl ?_
    rw [HM.out, HE.out, HL.out]
    exact ⟨_, rfl, Row.nil _ _ _ _, hb0⟩
  by_cases h2 : 1099511627776 < op
  · have HE : Hid (Sh.splE op t = 1) := show Sh.splE op t = 1 by unfold Sh.splE; rw [if_neg (by omega)]
    have HM : Hid ((Sh.splM op t).val = .agg #[.int .i64 0, .int .i64 0, .int .i64 0]) := show (Sh.splM op t).val = _ by unfold Sh.splM; rw [HE.out]; rfl
    have HL : Hid (Sh.splL op t = []) := show Sh.splL op t = _ by unfold Sh.splL; rw [HE.out]; rfl
    go_enter Tryd.func10, Tryd.ntmps10
    go_wp2
    refine bodyPost_ret (v := .tuple #[.agg #[.int .i64 0, .int .i64 0, .int .i64 0], .slice none 0 0, .int .i64 1]) (by simp [results, Tryd.results10, go_sem]) rfl ?_
    rw [HM.out, HE.out, HL.out]
    exact ⟨_, rfl, Row.nil _ _ _ _, hb0⟩
  by_cases h3 : t.size = 0
  · have HE : Hid (Sh.splE op t = 2) := show Sh.splE op t = 2 by unfold Sh.splE; rw [if_pos (by omega), if_neg (by omega)]
    have HM : Hid ((Sh.splM op t).val = .agg #[.int .i64 0, .int .i64 0, .int .i64 0]) := show (Sh.splM op t).val = _ by unfold Sh.splM; rw [HE.out]; rfl
    have HL : Hid (Sh.splL op t = []) := show Sh.splL op t = _ by unfold Sh.splL; rw [HE.out]; rfl
    have he := toList_none h3
    clear h3
    go_enter Tryd.func10, Tryd.ntmps10
    go_wp2
    refine bodyPost_ret (v := .tuple #[.agg #[.int .i64 0, .int .i64 0, .int .i64 0], .slice none 0 0, .int .i64 2]) (by simp [results, Tryd.results10, go_sem]) rfl ?_
    rw [HM.out, HE.out, HL.out]
    exact ⟨_, rfl, Row.nil _ _ _ _, hb0⟩
  have he := toList_full h3
  by_cases h4 : 65535 < (t.size : Int)
  · have HE : Hid (Sh.splE op t = 2) := show Sh.splE op t = 2 by unfold Sh.splE; rw [if_pos (by omega), if_neg (by omega)]
    have HM : Hid ((Sh.splM op t).val = .agg #[.int .i64 0, .int .i64 0, .int .i64 0]) := show (Sh.splM op t).val = _ by unfold Sh.splM; rw [HE.out]; rfl
    have HL : Hid (Sh.splL op t = []) := show Sh.splL op t = _ by unfold Sh.splL; rw [HE.out]; rfl
    clear h3
    go_enter Tryd.func10, Tryd.ntmps10
    go_wp2
    refine bodyPost_ret (v := .tuple #[.agg #[.int .i64 0, .int .i64 0, .int .i64 0], .slice none 0 0, .int .i64 2]) (by simp [results, Tryd.results10, go_sem]) rfl ?_
    rw [HM.out, HE.out, HL.out]
    exact ⟨_, rfl, Row.nil _ _ _ _, hb0⟩
  have HE : Hid (Sh.splE op t = 0) := show Sh.splE op t = 0 by unfold Sh.splE; rw [if_pos (by omega), if_pos (by omega)]
  have HM : Hid ((Sh.splM op t).val = .agg #[.int .i64 op, .int .i64 t.size, .int .i64 (Sh.sum t)]) := show (Sh.splM op t).val = _ by unfold Sh.splM; rw [HE.out]; rfl
  have HL : Hid (Sh.splL op t = Sh.sds op t (Sh.cnt t.size)) := show Sh.splL op t = _ by unfold Sh.splL; rw [HE.out]; rfl
  have hn : t.size ≤ 65535 := by omega
  have hc := Sh.cnt_le hn
  obtain ⟨i0, hi, hz0, hz1, hz2⟩ := info_parts info_rsd
  have HR0 : Hid (Sh.rst t 0 = t) := Sh.rst_zero t
  clear h3
  go_enter Tryd.func10, Tryd.ntmps10
  go_wp2
  obtain ⟨W0, hW0⟩ : ∃ W0, w.alloc (.cells #[.int .i64 0, .int .i64 0, .int .i64 0] 29) = W0 := ⟨_, rfl⟩
  have hbox : W0.heap[w.heap.size]? = some (.cells #[.int .i64 0, .int .i64 0, .int .i64 0] 29 (0, 0)) := by rw [← hW0]; exact heap_alloc_new _ _
  have hsz0 : W0.heap.size = w.heap.size + 1 := by rw [← hW0]; simp
  rw [hW0] at hb0 ⊢
  have HBX : Hid (W0.heap[w.heap.size]? = some (.cells #[.int .i64 0, .int .i64 0, .int .i64 0] 29 (0, 0))) := hbox
  have HSZ : Hid (W0.heap.size = w.heap.size + 1) := hsz0
  clear hW0 hbox hsz0 he
  go_loopw [7, 8] (fun v r wr => ∃ k : Nat, k ≤ Sh.cnt t.size ∧ r = .string (Sh.rst t k) ∧ Row SE wr W0.heap.size 34 v (Sh.sds op t k) ∧ Hid (Below W0.heap.size W0 wr)) (fun _ r _ => match r with | .string s => s.size | _ => 0)
  case atStart => exact ⟨0, Nat.zero_le _, by rw [HR0.out], Row.nil _ _ _ _, Below.refl _ _⟩
  case round =>
    obtain ⟨k, hk, rfl, hrow, HBL⟩ := hrel
    by_cases hlt : k < Sh.cnt t.size
    · have hne := toList_full (fun h => Sh.rst_end.1 h hlt)
      have hp := Sh.psz_pos hlt
      have hpi := Sh.psz_in hlt
      have hrs := Sh.rst_size t k
      obtain ⟨n, hnn⟩ : ∃ n : Nat, (n : Int) = Sh.psz t.size k := ⟨(Sh.psz t.size k).toNat, by omega⟩
      have HTK : Hid ((Sh.rst t k).extract 0 n = Sh.pc t k) := Sh.rst_take hnn
      have HNX : Hid ((Sh.rst t k).extract n (Sh.rst t k).size = Sh.rst t (k + 1)) := Sh.rst_next hlt hnn
      have HX : Hid (Sh.sds op t (k + 1) = Sh.sds op t k ++ [Sh.sd op t k]) := Sh.sds_succ op t k
      have HLen : Hid ((Sh.sds op t k).length = k) := Sh.sds_length op t k
      have HSD : Hid (Sh.sd op t k = ⟨op, k, Sh.pc t k, Sh.sum (Sh.pc t k)⟩) := rfl
      have hps := Sh.pc_size hlt
      have hPs : (Sh.pc t k).size ≤ 256 := by omega
      have hsz := HBL.out.size
      have HRS : Hid ((Sh.rst t (k + 1)).size = (Sh.rst t k).size - n) := show _ = _ by rw [Sh.rst_size, Sh.rst_size]; omega
      obtain ⟨p7, c7, hu7⟩ := hrow.slice
      rw [HLen.out] at hu7
      subst hu7
      have hRn : n ≤ (Sh.rst t k).size ∧ (n = 256 ∨ n = (Sh.rst t k).size ∧ n < 256) ∧ 0 < n := by omega
      clear hps hpi hp hrs hnn
      generalize hP : Sh.pc t k = P at *
      generalize hR : Sh.rst t k = R at *
      clear hP hR
      have HROW : Hid (Row SE (wr.alloc (.cells #[.int .i64 op, .int .i64 k, .string P, .int .i64 (Sh.sum P)] 34)).drew W0.heap.size 34 (.slice p7 k c7) (Sh.sds op t k)) := Row.drew (hrow.still (World.grownBy_alloc wr _ none)) 1
      have HAT : Hid (At SE (fun _ => True) (wr.alloc (.cells #[.int .i64 op, .int .i64 k, .string P, .int .i64 (Sh.sum P)] 34)).drew (.slice (some ⟨wr.heap.size, 0, none⟩) 1 1) [⟨op, k, P, Sh.sum P⟩]) := one_sd wr ⟨op, k, P, Sh.sum P⟩ _ rfl _
      have HN1 : Hid ((Sh.sds op t k).length + [(⟨op, k, P, Sh.sum P⟩ : Sh.Sd)].length ≤ maxLen) := show _ ≤ _ by rw [HLen.out]; unfold maxLen; simp; omega
      have HN2 : Hid (((Sh.sds op t k).length + [(⟨op, k, P, Sh.sum P⟩ : Sh.Sd)].length + ((Sh.sds op t k).length + [(⟨op, k, P, Sh.sum P⟩ : Sh.Sd)].length) / 4 + 192) * 40 ≤ 281474976710656) := show _ ≤ _ by rw [HLen.out]; simp; omega
      have HN3 : Hid (W0.heap.size ≤ (wr.alloc (.cells #[.int .i64 op, .int .i64 k, .string P, .int .i64 (Sh.sum P)] 34)).drew.heap.size) := show _ ≤ _ by simp; omega
      by_cases hsm : (R.size : Int) < 256
      · obtain rfl : R.size = n := by omega
        have hex := HTK.out
        have hxn := HNX.out
        go_wp2
        go_region_held3 (fun _ => True) (trivial) (first
          | (go_at_call 28; refine (refSum_any P _ (by unfold maxLen; omega)).mono ?_; rintro e w2 ⟨rfl, rfl⟩; rw [show Pl.crc P.data.toList = Sh.sum P from rfl])
          | (refine step_row (by rfl) _ _ 30 (by rfl) SE (fun _ => True) W0.heap.size 34 i0 _ 40 Tryd.underlying30 hi hz0 hz1 hz2 rfl _ (Sh.sds op t k) (by rfl) HROW.out _ [⟨op, k, P, Sh.sum P⟩] (by rfl) HAT.out HN1.out HN2.out HN3.out ?_; intro v3 w3 hrow3 hg3))
        have hga : wr.grownBy w3 (Value.slice p7 k c7).ownBlock := grown_trans (grown_drew (World.grownBy_alloc wr _ _) 1) hg3
        have HB3 : Hid (Below W0.heap.size W0 w3) := HBL.out.grown hga hsz (fun j hj => (hrow.lt j hj).1)
        clear hg3 hga hrow HROW HAT
        go_wp2
        go_roundw
        case rel => exact ⟨k + 1, by omega, by first | rfl | (rw [HNX.out]) | (rw [← HNX.out]; simp), by rw [HX.out, HSD.out]; exact hrow3, HB3⟩
        case measure => have := HRS.out; first | (simp; omega) | omega
      · obtain rfl : 256 = n := by omega
        have hex := HTK.out
        have hxn := HNX.out
        go_wp2
        go_region_held3 (fun _ => True) (trivial) (first
          | (go_at_call 28; refine (refSum_any P _ (by unfold maxLen; omega)).mono ?_; rintro e w2 ⟨rfl, rfl⟩; rw [show Pl.crc P.data.toList = Sh.sum P from rfl])
          | (refine step_row (by rfl) _ _ 30 (by rfl) SE (fun _ => True) W0.heap.size 34 i0 _ 40 Tryd.underlying30 hi hz0 hz1 hz2 rfl _ (Sh.sds op t k) (by rfl) HROW.out _ [⟨op, k, P, Sh.sum P⟩] (by rfl) HAT.out HN1.out HN2.out HN3.out ?_; intro v3 w3 hrow3 hg3))
        have hga : wr.grownBy w3 (Value.slice p7 k c7).ownBlock := grown_trans (grown_drew (World.grownBy_alloc wr _ _) 1) hg3
        have HB3 : Hid (Below W0.heap.size W0 w3) := HBL.out.grown hga hsz (fun j hj => (hrow.lt j hj).1)
        clear hg3 hga hrow HROW HAT
        go_wp2
        go_roundw
        case rel => exact ⟨k + 1, by omega, by first | rfl | (rw [HNX.out]) | (rw [← HNX.out]; simp), by rw [HX.out, HSD.out]; exact hrow3, HB3⟩
        case measure => have := HRS.out; first | (simp; omega) | omega
    · obtain rfl : k = Sh.cnt t.size := by omega
      have hne := toList_none (Sh.rst_end.2 hlt)
      generalize Sh.rst t (Sh.cnt t.size) = R at *
      go_wp2_with fail
      refine (refSum_any t _ (by unfold maxLen; omega)).mono ?_
      rintro e w2 ⟨rfl, rfl⟩
      rw [show Pl.crc t.data.toList = Sh.sum t from rfl]
      generalize Sh.sum t = S at *
      have hbx : w2.heap[w.heap.size]? = some (.cells #[.int .i64 0, .int .i64 0, .int .i64 0] 29 (0, 0)) := (HBL.out.block _ (by rw [HSZ.out]; omega)).trans HBX.out
      have c0 : w2.cell? ⟨w.heap.size, 0, none⟩ = some (.int .i64 0) := by simp [World.cell?, hbx]
      have c1 : w2.cell? ⟨w.heap.size, 1, none⟩ = some (.int .i64 0) := by simp [World.cell?, hbx]
      have c2 : w2.cell? ⟨w.heap.size, 2, none⟩ = some (.int .i64 0) := by simp [World.cell?, hbx]
      have f0 : w2.frozen? ⟨w.heap.size, 0, none⟩ = false := by simp [World.frozen?, hbx]
      have f1 : w2.frozen? ⟨w.heap.size, 1, none⟩ = false := by simp [World.frozen?, hbx]
      have f2 : w2.frozen? ⟨w.heap.size, 2, none⟩ = false := by simp [World.frozen?, hbx]
      clear hbx
      go_wp2
      have gs := grown_set3 w2 w.heap.size 0 1 2 (.int .i64 op) (.int .i64 t.size) (.int .i64 S)
      have hrow2 := hrow.kept gs (by
        cases hq : u7.ownBlock with
        | none => exact .inl rfl
        | some q => exact .inr (by have := (hrow.lt q hq).1; have := HSZ.out; simp; omega))
      have hb2 : Below w.heap.size w (((w2.setCell ⟨w.heap.size, 0, none⟩ (.int .i64 op)).setCell ⟨w.heap.size, 1, none⟩ (.int .i64 t.size)).setCell ⟨w.heap.size, 2, none⟩ (.int .i64 S)) := (bup hb0 HBL.out).grown gs (bup hb0 HBL.out).size (fun j hj => by cases hj; exact Nat.le_refl _)
      refine bodyPost_ret (v := .tuple #[.agg #[.int .i64 op, .int .i64 t.size, .int .i64 S], u7, .int .i64 0]) (by simp [results, Tryd.results10, go_sem, c0, c1, c2]) rfl ?_
      rw [HM.out, HE.out, HL.out]
      exact ⟨_, rfl, hrow2.low (by rw [HSZ.out]; omega), hb2⟩
end Go.Proofs.YtceeafmahoelfaaDoor
