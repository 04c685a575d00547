/-
  For any int, any string and any manifest sextonlaw19.ShardSplits returns true, whatever the memory that holds the table halves as the text of the program lays it: the manifest and the shards of each text, and which manifests are right. No other condition.
-/
import Derived.Test.YtceeafmahoelfaaDoorCards
import Derived.Test.YtceeafmahoelfaaDoorTie
import Derived.Test.YtceeafmahoelfaaDoorHRSp
import Derived.Test.YtceeafmahoelfaaDoorHLaw
namespace Go.Proofs.YtceeafmahoelfaaDoor
open Go.ChangeShapes Go.WideShapes Go.ChangeAt Go.RowKit
open Go.ChangeMaps (open_string)

/-- The cells of an element of a row, any offset. -/
theorem Row.elem2 {w : World} {B : Nat} {e : TypeId} {v : Value} {ls : List Sh.Sd} (h : Row SE w B e v ls) (hp : 0 < ls.length) : ∃ g cap, v = .slice (some ⟨g, 0, none⟩) ls.length cap ∧ B ≤ g ∧ g < w.heap.size := by
  obtain ⟨g, cap, h1, h2, h3, _⟩ := h.elem (i := 0) (List.getElem?_eq_getElem hp)
  exact ⟨g, cap, h1, h2, h3⟩
set_option maxRecDepth 100000 in
set_option maxRecDepth 100000 in
set_option maxHeartbeats 4000000 in
theorem splits_law (op : Int) (t : ByteArray) (m : Sh.Mf) (w : World) (hT : Tab w) (hs : t.size ≤ maxLen) : Calls Tryd.prog 3 #[.int .i64 op, .string t, m.val] w fun e w' => e = .returned (.bool true) ∧ Below w.heap.size w w' := by
  have HT : Hid (Tab w) := hT
  have HS : Hid (t.size ≤ maxLen) := hs
  unfold maxLen at hs
  clear hT
  have HOK : Hid ((Sh.chkE m == 0) = Sh.okM m) := Sh.chk_okM m
  have HMV : Hid (m.val = .agg #[.int .i64 m.op, .int .i64 m.size, .int .i64 m.sum]) := rfl
  rw [HMV.out]
  have hb0 := below_alloc w (.cells #[.int .i64 m.op, .int .i64 m.size, .int .i64 m.sum] 23)
  go_enter Tryd.func3, Tryd.ntmps3
  by_cases hbig : 65536 < (t.size : Int)
  · go_wp2_with fail
    refine (two_any _ (HT.out.up hb0)).mono ?_
    rintro e w1 ⟨rfl, hb1⟩
    have HB1 : Hid (Below w.heap.size w w1) := bup hb0 hb1
    clear hb1
    go_wp2
    go_ret
    exact ⟨rfl, HB1.out⟩
  · go_wp2_with fail
    refine (split_any op t _ (HT.out.up hb0) HS.out).mono ?_
    rintro e w1 ⟨v, rfl, hrow, hb1⟩
    obtain ⟨M, hM⟩ : ∃ M, Sh.splM op t = M := ⟨_, rfl⟩
    obtain ⟨ee, hee⟩ : ∃ ee, Sh.splE op t = ee := ⟨_, rfl⟩
    obtain ⟨l, hl⟩ : ∃ l, Sh.splL op t = l := ⟨_, rfl⟩
    have HR0 : Hid (∀ w, t.size ≤ maxLen → Calls Tryd.prog 10 #[.int .i64 op, .string t] w fun e w' => ∃ v, e = .returned (.tuple #[M.val, v, .int .i64 ee]) ∧ Row SE w' w.heap.size 34 v l ∧ Below w.heap.size w w') := fun w h => by
      rw [← hM, ← hee, ← hl]
      exact rsplit_any op t w h
    have HLL : Hid (l.length ≤ 65536) := show l.length ≤ 65536 by
      rw [← hl]
      unfold Sh.splL
      split
      · rw [Sh.sds_length]; unfold Sh.cnt; omega
      · simp
    rw [hM, hee]
    rw [hl] at hrow
    clear hM hee hl
    obtain ⟨mo, ms, mk⟩ := M
    rw [show (⟨mo, ms, mk⟩ : Sh.Mf).val = .agg #[.int .i64 mo, .int .i64 ms, .int .i64 mk] from rfl]
    obtain ⟨p8, c8, hv⟩ := hrow.slice
    subst hv
    have HRW : Hid (Row SE w1 (w.heap.size + 1) 36 (.slice p8 l.length c8) l) := hrow.low (by simp)
    have HB1 : Hid (Below w.heap.size w w1) := bup hb0 hb1
    have HX0 : Hid (w1.cell? ⟨w.heap.size, 0, none⟩ = some (.int .i64 m.op) ∧ w1.cell? ⟨w.heap.size, 1, none⟩ = some (.int .i64 m.size) ∧ w1.cell? ⟨w.heap.size, 2, none⟩ = some (.int .i64 m.sum)) := ⟨(hb1.cell (p := ⟨w.heap.size, 0, none⟩) (by simp)).trans (by simp), (hb1.cell (p := ⟨w.heap.size, 1, none⟩) (by simp)).trans (by simp), (hb1.cell (p := ⟨w.heap.size, 2, none⟩) (by simp)).trans (by simp)⟩
    have hw1 : w.heap.size < w1.heap.size := by have := hb1.size; simp at this; omega
    clear hrow hb1 hb0
    go_wp2_with fail
    refine (HR0.out _ HS.out).mono ?_
    rintro e w2 ⟨v2, rfl, hrow2, hb2⟩
    rw [show (⟨mo, ms, mk⟩ : Sh.Mf).val = .agg #[.int .i64 mo, .int .i64 ms, .int .i64 mk] from rfl]
    obtain ⟨p9, c9, hv⟩ := hrow2.slice
    subst hv
    have hb2' : Below w1.heap.size w1 w2 := bup (below_alloc _ _) hb2
    have HB2 : Hid (Below w.heap.size w w2) := bup HB1.out hb2'
    have HR1 : Hid (Row SE w2 (w.heap.size + 1) 36 (.slice p8 l.length c8) l) := HRW.out.up hb2'
    have HR2 : Hid (Row SE w2 (w.heap.size + 1) 34 (.slice p9 l.length c9) l) := hrow2.low (by simp; omega)
    have a0 : w2.cell? ⟨w1.heap.size, 0, none⟩ = some (.int .i64 mo) := (hb2.cell (p := ⟨w1.heap.size, 0, none⟩) (by simp)).trans (by simp)
    have a1 : w2.cell? ⟨w1.heap.size, 1, none⟩ = some (.int .i64 ms) := (hb2.cell (p := ⟨w1.heap.size, 1, none⟩) (by simp)).trans (by simp)
    have a2 : w2.cell? ⟨w1.heap.size, 2, none⟩ = some (.int .i64 mk) := (hb2.cell (p := ⟨w1.heap.size, 2, none⟩) (by simp)).trans (by simp)
    have hw2 : w1.heap.size < w2.heap.size := by have := hb2.size; simp at this; omega
    have HX2 : Hid (w2.cell? ⟨w.heap.size, 0, none⟩ = some (.int .i64 m.op) ∧ w2.cell? ⟨w.heap.size, 1, none⟩ = some (.int .i64 m.size) ∧ w2.cell? ⟨w.heap.size, 2, none⟩ = some (.int .i64 m.sum)) := ⟨(hb2'.cell (p := ⟨w.heap.size, 0, none⟩) hw1).trans HX0.out.1, (hb2'.cell (p := ⟨w.heap.size, 1, none⟩) hw1).trans HX0.out.2.1, (hb2'.cell (p := ⟨w.heap.size, 2, none⟩) hw1).trans HX0.out.2.2⟩
    have hxx : ∀ x : Int, (x != x) = false := fun x => by simp
    have hll := HLL.out
    clear hrow2 hb2 hb2' HRW HB1 HX0 HR0
    have hA := (below_alloc w2 (.cells #[.int .i64 mo, .int .i64 ms, .int .i64 mk] 29))
    have HX3 : Hid ((w2.alloc (.cells #[.int .i64 mo, .int .i64 ms, .int .i64 mk] 29)).cell? ⟨w.heap.size, 0, none⟩ = some (.int .i64 m.op) ∧ (w2.alloc (.cells #[.int .i64 mo, .int .i64 ms, .int .i64 mk] 29)).cell? ⟨w.heap.size, 1, none⟩ = some (.int .i64 m.size) ∧ (w2.alloc (.cells #[.int .i64 mo, .int .i64 ms, .int .i64 mk] 29)).cell? ⟨w.heap.size, 2, none⟩ = some (.int .i64 m.sum)) := ⟨(hA.cell (p := ⟨w.heap.size, 0, none⟩) (by show w.heap.size < w2.heap.size; omega)).trans HX2.out.1, (hA.cell (p := ⟨w.heap.size, 1, none⟩) (by show w.heap.size < w2.heap.size; omega)).trans HX2.out.2.1, (hA.cell (p := ⟨w.heap.size, 2, none⟩) (by show w.heap.size < w2.heap.size; omega)).trans HX2.out.2.2⟩
    have HR13 : Hid (Row SE (w2.alloc (.cells #[.int .i64 mo, .int .i64 ms, .int .i64 mk] 29)) (w.heap.size + 1) 36 (.slice p8 l.length c8) l) := HR1.out.up hA
    have HR23 : Hid (Row SE (w2.alloc (.cells #[.int .i64 mo, .int .i64 ms, .int .i64 mk] 29)) (w.heap.size + 1) 34 (.slice p9 l.length c9) l) := HR2.out.up hA
    have HB3 : Hid (Below w.heap.size w (w2.alloc (.cells #[.int .i64 mo, .int .i64 ms, .int .i64 mk] 29))) := bup HB2.out hA
    clear hA
    go_wp2
    generalize w2.alloc (.cells #[.int .i64 mo, .int .i64 ms, .int .i64 mk] 29) = W3 at *
    have HT3 : Hid (Tab W3) := HT.out.up HB3.out
    go_loopw [65] (fun u wr => ∃ k : Nat, k ≤ l.length ∧ u = .int .i64 k ∧ Hid (Below W3.heap.size W3 wr)) (fun u _ => l.length - (intOf u).toNat)
    case atStart => exact ⟨0, Nat.zero_le _, rfl, Below.refl _ _⟩
    case round =>
      obtain ⟨k, hk, rfl, HBL⟩ := hrel
      by_cases hlt : k < l.length
      · obtain ⟨y, hy⟩ : ∃ y, l[k]? = some y := ⟨_, List.getElem?_eq_getElem hlt⟩
        obtain ⟨g1, cp1, hv1, _, hg1, x0, x1, x2, x3⟩ := (HR13.out.up HBL.out).elem hy
        obtain ⟨g2, cp2, hv2, _, hg2, y0, y1, y2, y3⟩ := (HR23.out.up HBL.out).elem hy
        cases hv1
        cases hv2
        obtain ⟨yo, yn, yd, yk⟩ := y
        simp only at x0 x1 x2 x3 y0 y1 y2 y3
        have X0 := fun p : Grw wr => p.cell x0
        have X1 := fun p : Grw wr => p.cell x1
        have X2 := fun p : Grw wr => p.cell x2
        have X3 := fun p : Grw wr => p.cell x3
        have Y0 := fun p : Grw wr => p.cell y0
        have Y1 := fun p : Grw wr => p.cell y1
        have Y2 := fun p : Grw wr => p.cell y2
        have Y3 := fun p : Grw wr => p.cell y3
        have HRF : Hid (∀ v : World, Calls Tryd.prog 11 #[.agg #[.int .i64 yo, .int .i64 yn, .string yd, .int .i64 yk]] v fun e w' => e = .returned (.agg #[.int .i64 yo, .int .i64 yn, .string yd, .int .i64 yk]) ∧ Below v.heap.size v w') := fun v => ref_any ⟨yo, yn, yd, yk⟩ v
        have hne9 : Nonempty (Grw wr) := grw_some wr
        have hltI : (k : Int) < (l.length : Int) := by omega
        have hk0 : (0 : Int) ≤ (k : Int) := by omega
        have hdd : (yd.toList == yd.toList) = true := by simp
        clear x0 x1 x2 x3 y0 y1 y2 y3 hy
        go_wp2
        refine wp_region_grw (by kernel_rfl) (by kernel_rfl) ?_
        repeat (go_big_quiet_step (first | (go_at_call 11; with_reducible refine calls_grw (Grw.grown _) (HRF.out _))))
        rintro w9 ⟨p9, rfl⟩
        have HB9 : Hid (Below W3.heap.size W3 p9.out) := bup HBL.out p9.below
        clear X0 X1 X2 X3 Y0 Y1 Y2 Y3
        go_wp2
        go_roundw
        case rel => exact ⟨k + 1, by omega, by go_num, HB9⟩
        case measure => simp [intOf]; omega
      · obtain rfl : k = l.length := by omega
        have X0 := fun p : Grw wr => p.cell ((HBL.out.cell (p := ⟨w.heap.size, 0, none⟩) (World.block_lt_of_cell? _ _ HX3.out.1)).trans HX3.out.1)
        have X1 := fun p : Grw wr => p.cell ((HBL.out.cell (p := ⟨w.heap.size, 1, none⟩) (World.block_lt_of_cell? _ _ HX3.out.2.1)).trans HX3.out.2.1)
        have X2 := fun p : Grw wr => p.cell ((HBL.out.cell (p := ⟨w.heap.size, 2, none⟩) (World.block_lt_of_cell? _ _ HX3.out.2.2)).trans HX3.out.2.2)
        have HCH : Hid (∀ v : World, Calls Tryd.prog 12 #[.agg #[.int .i64 m.op, .int .i64 m.size, .int .i64 m.sum]] v fun e w' => e = .returned (.int .i64 (Sh.chkE m)) ∧ Below v.heap.size v w') := fun v => check_any m v
        have HRI : Hid (∀ v : World, Calls Tryd.prog 13 #[.agg #[.int .i64 m.op, .int .i64 m.size, .int .i64 m.sum]] v fun e w' => e = .returned (.bool (Sh.okM m)) ∧ Below v.heap.size v w') := fun v => right_any m v
        have HTW : Hid (∀ p : Grw wr, Calls Tryd.prog 8 #[] p.out fun e w' => e = .returned (.bool true) ∧ Below p.out.heap.size p.out w') := fun p => two_any _ (p.tab (HT3.out.up HBL.out))
        have hok := HOK.out
        have hne9 : Nonempty (Grw wr) := grw_some wr
        generalize Sh.chkE m = ce at *
        generalize Sh.okM m = cb at *
        generalize m.op = m0 at *
        generalize m.size = m1 at *
        generalize m.sum = m2 at *
        have hcc : (cb == cb) = true := by simp
        go_wp2
        refine wp_region_grw (by kernel_rfl) (by kernel_rfl) ?_
        repeat (go_big_quiet_step (first
          | (go_at_call 12; with_reducible refine calls_grw (Grw.grown _) (HCH.out _))
          | (go_at_call 13; with_reducible refine calls_grw (Grw.grown _) (HRI.out _))
          | (go_at_call 8; with_reducible refine calls_grw (Grw.grown _) (HTW.out _))))
        rintro w9 ⟨p9, rfl⟩
        have HB9 : Hid (Below w.heap.size w p9.out) := bup HB3.out (bup HBL.out p9.below)
        clear X0 X1 X2
        go_wp2
        go_ret
        exact ⟨rfl, HB9.out⟩

theorem shardSplits_contract (H : Type) (enc : TypeId × Value → H) (W : World) (base : Nat) (args : Array Value) (ds gs : List (DataW H)) (before : List MemPlace)
    (hval : ∀ (j : Nat) t v, Tryd.f3.params[j]? = some t → args[j]? = some v → Value.okWide Tryd.prog W .any base t v)
    (hW : DataW.Whole enc Tryd.prog Tryd.f3.params.toList Rows.shardSplitsSpec.vars false W args.toList ds gs before) (hL : laidMetH Tryd.prog Rows.shardSplitsRow.laid W) :
    Calls Tryd.prog 3 args W fun e W' => ∃ v, e = .returned v ∧ Rows.shardSplitsSpec.post enc Tryd.prog Tryd.f3 false true false false W args v W' := by
  have hW' := hW
  obtain ⟨p, q, hA0, hV, rfl, hfz, hnd⟩ := hW
  have hA : DataW.TrodAll enc Tryd.prog W 0 (fun _ => true) true Tryd.f3.params.toList args.toList ds p := hA0
  rw [Tryd.params3] at hA hval
  obtain ⟨v0, v1, v2, d0, d1, d2, p0, p1, p2, rfl, rfl, rfl, h0, h1, h2⟩ := trodAll_three hA
  obtain ⟨rfl, rfl⟩ := trodVars_none hV
  obtain ⟨a0, rfl, rfl, rfl, w0⟩ := open_int Tryd.underlying3 (hval 0 3 v0 rfl rfl) h0
  obtain ⟨a1, rfl, rfl, rfl, w1⟩ := open_string Tryd.underlying9 (hval 1 9 v1 rfl rfl) h1
  obtain ⟨a2, rfl⟩ := open_mf (hval 2 23 v2 rfl rfl) h2
  refine (splits_law a0 a1 a2 W (table hL) w1).mono fun e W' ⟨he, hg⟩ => ⟨_, he, ?_⟩
  exact Law.post laidOut (by kernel_rfl) rfl Tryd.underlying4 hW' rfl rfl hg
theorem shardSplits_laid_met (os : Os) : laidMet Tryd.prog Rows.shardSplitsRow.laid ((laidWorld Tryd.prog os).forCall (fun _ _ => 0) ⟨#[], #[.int .i64 0, .string .empty, .agg #[.int .i64 0, .int .i64 0, .int .i64 0]], []⟩).memory :=
  laidMet_of_run' 8 (by kernel_rfl) (by kernel_rfl)
theorem shardSplits_reads (os : Os) {H : Type} (enc : TypeId × Value → H) : ∃ places, DataW.whole enc Tryd.prog ((laidWorld Tryd.prog os).forCall (fun _ _ => 0) ⟨#[], #[.int .i64 0, .string .empty, .agg #[.int .i64 0, .int .i64 0, .int .i64 0]], []⟩).memory Tryd.f3.params.toList Rows.shardSplitsSpec.vars false (#[.int .i64 0, .string .empty, .agg #[.int .i64 0, .int .i64 0, .int .i64 0]] : Array Value).toList 8 = some ([.lit (.int .i64 0), .lit (.string []), .agg [.lit (.int .i64 0), .lit (.int .i64 0), .lit (.int .i64 0)]], [], places) :=
  ⟨[], by kernel_rfl⟩

set_option maxRecDepth 100000 in
theorem shardSplits_lifted (os : Os) (started : os.Started) (H : Type) (enc : TypeId × Value → H) (F : Stop.Interp) :
    ReturnsInHanded {} Tryd.checked os 3 .any ((OpenSpec.ofChange Rows.shardSplitsSpec).preRow enc Tryd.prog Tryd.f3 Rows.shardSplitsRow.domain false Rows.shardSplitsRow.laid) (((OpenSpec.ofChange Rows.shardSplitsSpec).at F).post enc Tryd.prog Tryd.f3 false true false false) := by
  obtain ⟨places, hx⟩ := shardSplits_reads os enc
  refine returnsInHanded_of_row (C := Tryd.checked) (s := OpenSpec.ofChange Rows.shardSplitsSpec) own started (by kernel_rfl) Tryd.func3
    (witness_row_at (enc := enc) (C := Tryd.checked) false (laidWorld Tryd.prog os) #[.int .i64 0, .string .empty, .agg #[.int .i64 0, .int .i64 0, .int .i64 0]] rfl (by kernel_rfl) (by kernel_rfl) (by kernel_rfl)
      (OpenSpec.preRow_of_cond 8 hx (by kernel_rfl) (fun k hk => by cases hk) (by kernel_rfl) (shardSplits_laid_met os))) ?_
  intro W base args ds gs before hval hW _ _ _ hL _ _
  exact shardSplits_contract H enc W base args ds gs before hval hW hL

theorem shardSplits_said : Rows.ShardSplitsSaid :=
  OpenClaim.holds_of_cond 3 Tryd.f3 rfl rfl rfl rfl rfl rfl rfl ⟨rfl, rfl, rfl, rfl, rfl⟩ rfl rfl rfl rfl rfl (by kernel_rfl) Tryd.func3 (by kernel_rfl)
    (of_decide_eq_true (by kernel_rfl)) (by unfold Func.isWrapper; first | (rw [if_pos (by decide +kernel)]; kernel_rfl) | (rw [if_neg (by decide +kernel)]; exact ⟨rfl, rfl⟩))
    (fun os started H enc _ F => by rw [OpenClaim.pre_eq_preRow]; exact shardSplits_lifted os started H enc F)

theorem shardSplits_plain (f : FuncId) (fn : Func) (hf : Tryd.pinned.checked.prog.funcNamed "sexton/sextonlaw19.ShardSplits" = some f) (hfn : Tryd.pinned.checked.prog.funcs[f]? = some fn) :
    false = Tryd.pinned.checked.prog.looks [] ∧ ∀ (j : Nat) t, fn.params[j]? = some t → Tryd.pinned.checked.prog.wantsStandIn t = false := by
  obtain rfl : f = 3 := Option.some.inj ((show Tryd.prog.funcNamed "sexton/sextonlaw19.ShardSplits" = some 3 by kernel_rfl).symm.trans hf) |>.symm
  obtain rfl : fn = Tryd.f3 := (Option.some.inj (Tryd.func3.symm.trans hfn)).symm
  refine ⟨by kernel_rfl, fun j t ht => ?_⟩
  rw [Tryd.params3] at ht
  have hm : t = 3 ∨ t = 9 ∨ t = 23 := by simpa using Array.mem_of_getElem? ht
  rcases hm with rfl | rfl | rfl
  · exact (show Tryd.prog.wantsStandIn 3 = false by kernel_rfl)
  · exact (show Tryd.prog.wantsStandIn 9 = false by kernel_rfl)
  · exact (show Tryd.prog.wantsStandIn 23 = false by kernel_rfl)

theorem shardSplits_card : Rows.ShardSplitsCardSaid :=
  Claim7.holds_tied_plain_at .later [] _ _ _ _ shardSplits_said (fun _ h => by cases h) (by kernel_rfl) (fun _ h => by cases h) shardSplits_row_tie rfl ⟨rfl, rfl⟩ (by kernel_rfl) rfl shardSplits_plain (by kernel_rfl)
#print axioms shardSplits_card
end Go.Proofs.YtceeafmahoelfaaDoor
