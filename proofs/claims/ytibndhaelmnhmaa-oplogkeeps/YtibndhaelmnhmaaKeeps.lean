/-
  For any slice of steps sextonlaw05.OplogKeeps returns true, whatever the memory: an item stays under its number until it is cut, replaced or trimmed away. No condition.
-/
import Derived.Test.YtibndhaelmnhmaaKeepsA
import Derived.Test.YtibndhaelmnhmaaLaw
import Derived.Deep.Cut
namespace Go.Proofs.Ytibndhaelmnhmaa
open Go.ChangeShapes Go.WideShapes Go.ChangeAt Go.RowKit

set_option maxHeartbeats 400000 in
theorem keeps_long (p : Option Addr) (m cap : Nat) (w : World) (h : 200 < m) : Calls Try.prog 4 #[.slice p m cap] w fun e w' => e = .returned (.bool true) ∧ Below w.heap.size w w' := by
  have h' : (200 : Int) < (m : Int) := by omega
  go_enter Try.func4, Try.ntmps4
  go_wp2_with fail
  refine (new_ok (n := 0) _ (by decide) (by decide)).mono ?_
  rintro e w1 ⟨s, rfl, hs, hl, hg⟩
  have HB1 : Hid (Below w.heap.size w w1) := below_none hg (Nat.le_refl _)
  clear hs hl hg
  go_wp2_with fail
  refine (two_any _).mono ?_
  rintro e w2 ⟨rfl, hg⟩
  have HB2 : Hid (Below w.heap.size w w2) := HB1.out.trans (below_none hg HB1.out.size)
  clear hg
  go_wp2
  go_ret
  exact ⟨rfl, HB2.out⟩
set_option maxHeartbeats 40000000 in
set_option maxRecDepth 100000 in
theorem keeps_go (ao : Option Addr) (ca : Nat) (l : List St) (w : World) (hl : l.length ≤ 200) (hx : ∀ j, j < l.length → ∃ b off, ao = some ⟨b, off, none⟩ ∧ b < w.heap.size ∧ eightAt w b (off + j * 8) (l.getD j default) ∧ stOk (l.getD j default)) : Calls Try.prog 4 #[.slice ao l.length ca] w fun e w' => e = .returned (.bool true) ∧ Below w.heap.size w w' := by
  obtain ⟨i0, hi, hz0, hz1, hz2⟩ := info_parts info32
  have HX : Hid (∀ wr, Below w.heap.size w wr → ∀ j, j < l.length → ∃ b off, ao = some ⟨b, off, none⟩ ∧ b < wr.heap.size ∧ eightAt wr b (off + j * 8) (l.getD j default) ∧ stOk (l.getD j default)) := fun wr hw j hj => by
    obtain ⟨b, off, e, hb, hf, hk⟩ := hx j hj
    exact ⟨b, off, e, Nat.lt_of_lt_of_le hb hw.size, hf.below hw hb, hk⟩
  have hl' : ¬ (200 : Int) < (l.length : Int) := by omega
  have hlI : (l.length : Int) ≤ 200 := by omega
  have hdl : decide ((200 : Int) < (l.length : Int)) = false := by simp; omega
  clear hx hl hl'
  go_enter Try.func4, Try.ntmps4
  go_wp2_with fail
  refine (new_ok (n := 0) _ (by decide) (by decide)).mono ?_
  rintro e w1 ⟨s, rfl, hs, hl1, hg⟩
  have HS : Hid (w.heap.size ≤ s) := hs
  have HK1 : Hid (Kept w1 s w.heap.size (.slice none 0 0) (.slice none 0 0) [] 0) := ⟨hl1, Row.nil _ _ _, by simp, fun j hj => by simp [Value.ownBlock] at hj⟩
  have HB1 : Hid (Below w.heap.size w w1) := below_none hg (Nat.le_refl _)
  clear hs hl1 hg
  go_wp2
  go_loopw [5, 6, 40] (fun u t i wr => ∃ (j b : Nat) (v : Value) (hs : List Ol.It), j ≤ l.length ∧ i = .int .i64 j ∧ t = .int .i64 b ∧ hs.length ≤ j ∧ Hid (Kept wr s w.heap.size v u hs b) ∧ Hid (Below w.heap.size w wr)) (fun _ _ i _ => l.length - (intOf i).toNat)
  case atStart => exact ⟨0, 0, _, [], Nat.zero_le _, rfl, rfl, by simp, HK1.out, HB1.out⟩
  case round =>
    obtain ⟨j, b, v, hs, hj, rfl, rfl, hhs, HK, HB⟩ := hrel
    by_cases hlt : j < l.length
    · obtain ⟨bb, off, rfl, hbb, ⟨c0, c1, c2, c3, c4, c5, c6, c7⟩, ⟨n0, n1⟩, pl, ml, cl, hvl⟩ := HX.out wr HB.out j hlt
      have hltI : (j : Int) < (l.length : Int) := by omega
      generalize l.getD j default = t at *
      obtain ⟨x0, x1, x2, ⟨y0, y1, y2, y3⟩, vl⟩ := t
      simp only at c0 c1 c2 c3 c4 c5 c6 c7 n0 n1 hvl
      subst hvl
      obtain ⟨pu, cu, hu⟩ := HK.out.row.slice
      subst hu
      have HK0 : Hid (Kept (wr.alloc (E8 x0 x1 x2 y0 y1 y2 y3 (.slice pl ml cl))) s w.heap.size v (.slice pu hs.length cu) hs b) := HK.out.still (World.grownBy_alloc _ _ _)
      have HB0 : Hid (Below w.heap.size w (wr.alloc (E8 x0 x1 x2 y0 y1 y2 y3 (.slice pl ml cl)))) := HB.out.trans (below_none (World.grownBy_alloc _ _ _) HB.out.size)
      have HE : Hid (∀ w', Turns (wr.alloc (E8 x0 x1 x2 y0 y1 y2 y3 (.slice pl ml cl))) w' s v → w'.heap[wr.heap.size]? = some (E8 x0 x1 x2 y0 y1 y2 y3 (.slice pl ml cl))) := fun w' ht => HK.out.block (heap_alloc_new _ _) rfl ht
      have hhI : (hs.length : Int) ≤ 200 := by omega
      have hbI : (b : Int) ≤ (hs.length : Int) := by have := HK.out.le; omega
      by_cases h0 : x0 = 0
      · subst h0
        by_cases hr : Ol.refuse (b : Int) (hs.drop b) [(y0, y1, y2, y3)] = 0
        · have HR : Hid (Ol.refuse (b : Int) (hs.drop b) [(y0, y1, y2, y3)] = 0) := hr
          have HLE : Hid ((b : Int) + ((hs.drop b).length : Int) + 1 = (hs.length : Int) + 1) := show (b : Int) + ((hs.drop b).length : Int) + 1 = (hs.length : Int) + 1 by have := HK0.out.len; omega
          clear hr
          go_wp2_with fail
          refine Calls.mono (show Calls Try.prog 18 #[.pointer (some ⟨s, 0, none⟩), .agg #[.int .i64 y0, .int .i64 y1, .int .i64 y2, .string y3]] _ _ from add_ok (y0, y1, y2, y3) _ HK0.out.log HR.out) ?_
          rintro e w2 ⟨v', rfl, hl2, ht, hm⟩
          have hbx := HE.out w2 ht
          obtain ⟨b0, b1, b3, b4, b5, b6⟩ := eight_of hbx
          obtain ⟨hrw, hap⟩ := HK0.out.turn ht hm
          have HB2 : Hid (Below w.heap.size w w2) := HB0.out.trans (HK0.out.log.below ht HS.out)
          have HL2 : Hid (LogAt w2 s b v' (hs.drop b ++ [(y0, y1, y2, y3)])) := hl2
          have HRW : Hid (Row (w2.alloc (B4 y0 y1 y2 y3)) w.heap.size 32 (.slice pu hs.length cu) hs) := hrw.still (World.grownBy_alloc _ _ _)
          have HAP : Hid (∀ j, (Value.slice pu hs.length cu).ownBlock = some j → j ≠ s ∧ v'.ownBlock ≠ some j) := hap
          rw [HLE.out]
          clear hl2 ht hm hbx hrw hap
          go_wp2_with (at_builtin; refine wpList_row _ rfl _ _ 33 rfl w.heap.size 32 i0 (.agg #[.int .i64 0, .int .i64 0, .int .i64 0, .string ⟨#[]⟩]) 40 Try.underlying33 hi hz0 hz1 hz2 rfl _ hs rfl HRW.out _ [(y0, y1, y2, y3)] rfl (one_item w2 y0 y1 y2 y3) ?c1 ?c2 ?c3 ?_)
          case c1 => unfold maxLen; simp; omega
          case c2 => simp; omega
          case c3 => have := HB2.out.size; simp; omega
          intro u3 w3 hrow3 hg3 hmv3
          obtain ⟨pu', cu', hu'⟩ := hrow3.slice
          subst hu'
          have hT := kept_add HL2.out HAP.out HK0.out.le hg3 hrow3 (hmv3.imp id fun h j hj => by have := h j hj; simp; omega)
          have hBT : Below w.heap.size w w3 := HB2.out.trans ((below_none (World.grownBy_alloc w2 (B4 y0 y1 y2 y3) none) HB2.out.size).trans ((Below.refl _ _).grown hg3 (by have := HB2.out.size; simp; omega) (fun k hk => (HRW.out.lt k hk).1)))
          have hlen' : (hs ++ [(y0, y1, y2, y3)]).length = hs.length + 1 := by simp
          clear hg3 hrow3 hmv3
          generalize hs ++ [(y0, y1, y2, y3)] = hs' at *
          have HT : Hid (Kept w3 s w.heap.size v' (.slice pu' hs'.length cu') hs' b) := hT
          have HBT : Hid (Below w.heap.size w w3) := hBT
          have HLL : Hid (hs'.length = hs.length + 1) := hlen'
          clear hT hBT hlen' HK1 HB1 HK HB HE HK0 HB0 b0 b1 b3 b4 b5 b6 HL2 HRW HAP HB2
          go_upto_region 28 with fail
          as_aux_lemma =>
            have HG0 : Hid (w3.grownBy w3 none) := grown_refl _ _
            have hLI : (hs'.length : Int) ≤ 200 := by have := HLL.out; omega
            have hBI : (b : Int) ≤ (hs'.length : Int) := by have := HT.out.le; omega
            go_wp2
            go_loopw [115] (fun i wr => ∃ i' : Nat, i' ≤ hs'.length ∧ i = .int .i64 i' ∧ Hid (w3.grownBy wr none)) (fun i _ => hs'.length - (intOf i).toNat)
            case atStart => exact ⟨0, Nat.zero_le _, rfl, HG0.out⟩
            case round =>
              obtain ⟨i, hil, rfl, HG⟩ := hrel
              by_cases hlt2 : i < hs'.length
              · have hlt2I : (i : Int) < (hs'.length : Int) := by omega
                obtain ⟨ge, ga⟩ := Kept.get HT.out.le hlt2
                have hK := HT.out.still HG.out
                have HKx : Hid (LogAt wr s b v' (hs'.drop b)) := hK.log
                have HIx : Hid (ItemsAt wr (.slice pu' hs'.length cu') hs') := hK.row.items
                clear hK
                by_cases hib : i < b
                · rw [if_pos hib] at ge
                  have GE : Hid (Ol.getErr b (hs'.drop b).length ((i : Int) + 1) = 50) := ge
                  have hib1 : decide ((i : Int) < (b : Int)) = true := by simp; omega
                  have hib2 : decide ((b : Int) ≤ (i : Int)) = false := by simp; omega
                  have hib3 : (i : Int) < (b : Int) := by omega
                  have hib4 : ¬ (b : Int) ≤ (i : Int) := by omega
                  clear ge ga
                  go_wp2_with fail
                  refine (get_any ((i : Int) + 1) _ HKx.out).mono ?_
                  rintro e w7 ⟨rfl, hg7⟩
                  rw [GE.out]
                  have HG7 : Hid (w3.grownBy w7 none) := grown_trans HG.out hg7
                  generalize Ol.at b (hs'.drop b) ((i : Int) + 1) = z at *
                  obtain ⟨z0, z1, z2, z3⟩ := z
                  unfold item
                  simp only
                  clear hg7
                  go_wp2
                  have hib1 : decide ((i : Int) < (b : Int)) = true := by simp; omega
                  have hib2 : decide ((b : Int) ≤ (i : Int)) = false := by simp; omega
                  refine wp_region_quiet_lit (by kernel_rfl) (by kernel_rfl) ?_
                  repeat (any_goals (first | go_big_quiet_step (fail) | quiet_step (fail) | (refine wpQuiet_step (fun K hK => ?_); go_simp; split <;> first | omega | (refine hK _ ?_; clear hK K))))
                  all_goals (refine wpQuiet_nil ?_; intro _ hw'; obtain ⟨nq, hw''⟩ := hw'; subst hw'')
                  go_wp2
                  go_roundw
                  case rel => first | exact ⟨i + 1, by omega, by go_num, grown_drew (grown_trans HG7.out (World.grownBy_alloc _ _ _)) _⟩ | ((repeat apply Exists.intro); refine ⟨?_, rfl⟩; exact ⟨i + 1, by omega, by go_num, grown_drew (grown_trans HG7.out (World.grownBy_alloc _ _ _)) _⟩)
                  case measure => simp [intOf]; omega
                · rw [if_neg hib] at ge
                  have GE : Hid (Ol.getErr b (hs'.drop b).length ((i : Int) + 1) = 0) := ge
                  have GA : Hid (Ol.at b (hs'.drop b) ((i : Int) + 1) = hs'.getD i Ol.d0) := ga (by omega)
                  have hib1 : decide ((i : Int) < (b : Int)) = false := by simp; omega
                  have hib2 : decide ((b : Int) ≤ (i : Int)) = true := by simp; omega
                  have hib3 : ¬ (i : Int) < (b : Int) := by omega
                  have hib4 : (b : Int) ≤ (i : Int) := by omega
                  clear ge ga
                  go_wp2_with fail
                  refine (get_any ((i : Int) + 1) _ HKx.out).mono ?_
                  rintro e w7 ⟨rfl, hg7⟩
                  rw [GE.out, GA.out]
                  have HG7 : Hid (w3.grownBy w7 none) := grown_trans HG.out hg7
                  have hix := HIx.out.below (below_none hg7 (Nat.le_refl _)) (Nat.le_refl _)
                  obtain ⟨ao', ca', he', _, hix'⟩ := hix.open
                  obtain ⟨gb, go', hao, hgb, d0, d1, d2, d3⟩ := hix' i hlt2
                  simp only [Value.slice.injEq] at he'
                  obtain ⟨hpu, _, hcu⟩ := he'
                  rw [hao] at hpu
                  subst hpu
                  generalize hs'.getD i Ol.d0 = z at *
                  obtain ⟨z0, z1, z2, z3⟩ := z
                  simp only at d0 d1 d2 d3
                  unfold item
                  simp only
                  have hgn : ¬ gb = w7.heap.size := by omega
                  clear hg7 hix hix' hcu hao GA
                  go_wp2
                  have hib1 : decide ((i : Int) < (b : Int)) = false := by simp; omega
                  have hib2 : decide ((b : Int) ≤ (i : Int)) = true := by simp; omega
                  go_quiet (fail)
                  go_wp2
                  go_roundw
                  case rel => first | exact ⟨i + 1, by omega, by go_num, grown_drew (grown_trans HG7.out (World.grownBy_alloc _ _ _)) _⟩ | ((repeat apply Exists.intro); refine ⟨?_, rfl⟩; exact ⟨i + 1, by omega, by go_num, grown_drew (grown_trans HG7.out (World.grownBy_alloc _ _ _)) _⟩)
                  case measure => simp [intOf]; omega
              · obtain rfl : i = hs'.length := by omega
                have hK := HT.out.still HG.out
                have HKx : Hid (LogAt wr s b v' (hs'.drop b)) := hK.log
                have HLx : Hid ((b : Int) + ((hs'.drop b).length : Int) = hs'.length) := hK.len
                have HKf : Hid (Kept wr s w.heap.size v' (.slice pu' hs'.length cu') hs' b) := hK
                have HBf : Hid (Below w.heap.size w wr) := HBT.out.trans (below_none HG.out HBT.out.size)
                clear hK
                go_wp2_with fail
                refine (last_g _ HKx.out).mono ?_
                rintro e w8 ⟨rfl, hg8⟩
                rw [HLx.out]
                have HK8 : Hid (Kept w8 s w.heap.size v' (.slice pu' hs'.length cu') hs' b) := HKf.out.still hg8
                have HB8 : Hid (Below w.heap.size w w8) := HBf.out.trans (below_none hg8 HBf.out.size)
                clear hg8
                go_wp2_with fail
                refine (base_any _ HK8.out.log).mono ?_
                rintro e w9 ⟨rfl, rfl⟩
                go_wp2
                go_roundw
                case rel => exact ⟨j + 1, b, v', hs', by omega, by go_num, rfl, by have := HLL.out; omega, HK8.out, HB8.out⟩
                case measure => simp [intOf]; omega
        · generalize hrr : Ol.refuse (b : Int) (hs.drop b) [(y0, y1, y2, y3)] = r at *
          have HR : Hid (Ol.refuse (b : Int) (hs.drop b) [(y0, y1, y2, y3)] = r) := hrr
          have hr0 : (r == 0) = false := by simpa using hr
          clear hrr hr
          go_wp2_with fail
          refine Calls.mono (show Calls Try.prog 18 #[.pointer (some ⟨s, 0, none⟩), .agg #[.int .i64 y0, .int .i64 y1, .int .i64 y2, .string y3]] _ _ from add_err (y0, y1, y2, y3) _ HK0.out.log (by rw [HR.out]; simpa using hr0)) ?_
          rintro e w2 ⟨rfl, hg2⟩
          rw [HR.out]
          have HT : Hid (Kept w2 s w.heap.size v (.slice pu hs.length cu) hs b) := HK0.out.still hg2
          have HBT : Hid (Below w.heap.size w w2) := HB0.out.trans (below_none hg2 HB0.out.size)
          clear hg2 HK1 HB1 HK HB HE HK0 HB0
          go_upto_region 28 with fail
          as_aux_lemma =>
            have HG0 : Hid (w2.grownBy w2 none) := grown_refl _ _
            have hLI : (hs.length : Int) ≤ 200 := by omega
            have hBI : (b : Int) ≤ (hs.length : Int) := by have := HT.out.le; omega
            go_wp2
            go_loopw [115] (fun i wr => ∃ i' : Nat, i' ≤ hs.length ∧ i = .int .i64 i' ∧ Hid (w2.grownBy wr none)) (fun i _ => hs.length - (intOf i).toNat)
            case atStart => exact ⟨0, Nat.zero_le _, rfl, HG0.out⟩
            case round =>
              obtain ⟨i, hil, rfl, HG⟩ := hrel
              by_cases hlt2 : i < hs.length
              · have hlt2I : (i : Int) < (hs.length : Int) := by omega
                obtain ⟨ge, ga⟩ := Kept.get HT.out.le hlt2
                have hK := HT.out.still HG.out
                have HKx : Hid (LogAt wr s b v (hs.drop b)) := hK.log
                have HIx : Hid (ItemsAt wr (.slice pu hs.length cu) hs) := hK.row.items
                clear hK
                by_cases hib : i < b
                · rw [if_pos hib] at ge
                  have GE : Hid (Ol.getErr b (hs.drop b).length ((i : Int) + 1) = 50) := ge
                  have hib1 : decide ((i : Int) < (b : Int)) = true := by simp; omega
                  have hib2 : decide ((b : Int) ≤ (i : Int)) = false := by simp; omega
                  have hib3 : (i : Int) < (b : Int) := by omega
                  have hib4 : ¬ (b : Int) ≤ (i : Int) := by omega
                  clear ge ga
                  go_wp2_with fail
                  refine (get_any ((i : Int) + 1) _ HKx.out).mono ?_
                  rintro e w7 ⟨rfl, hg7⟩
                  rw [GE.out]
                  have HG7 : Hid (w2.grownBy w7 none) := grown_trans HG.out hg7
                  generalize Ol.at b (hs.drop b) ((i : Int) + 1) = z at *
                  obtain ⟨z0, z1, z2, z3⟩ := z
                  unfold item
                  simp only
                  clear hg7
                  go_wp2
                  have hib1 : decide ((i : Int) < (b : Int)) = true := by simp; omega
                  have hib2 : decide ((b : Int) ≤ (i : Int)) = false := by simp; omega
                  refine wp_region_quiet_lit (by kernel_rfl) (by kernel_rfl) ?_
                  repeat (any_goals (first | go_big_quiet_step (fail) | quiet_step (fail) | (refine wpQuiet_step (fun K hK => ?_); go_simp; split <;> first | omega | (refine hK _ ?_; clear hK K))))
                  all_goals (refine wpQuiet_nil ?_; intro _ hw'; obtain ⟨nq, hw''⟩ := hw'; subst hw'')
                  go_wp2
                  go_roundw
                  case rel => first | exact ⟨i + 1, by omega, by go_num, grown_drew (grown_trans HG7.out (World.grownBy_alloc _ _ _)) _⟩ | ((repeat apply Exists.intro); refine ⟨?_, rfl⟩; exact ⟨i + 1, by omega, by go_num, grown_drew (grown_trans HG7.out (World.grownBy_alloc _ _ _)) _⟩)
                  case measure => simp [intOf]; omega
                · rw [if_neg hib] at ge
                  have GE : Hid (Ol.getErr b (hs.drop b).length ((i : Int) + 1) = 0) := ge
                  have GA : Hid (Ol.at b (hs.drop b) ((i : Int) + 1) = hs.getD i Ol.d0) := ga (by omega)
                  have hib1 : decide ((i : Int) < (b : Int)) = false := by simp; omega
                  have hib2 : decide ((b : Int) ≤ (i : Int)) = true := by simp; omega
                  have hib3 : ¬ (i : Int) < (b : Int) := by omega
                  have hib4 : (b : Int) ≤ (i : Int) := by omega
                  clear ge ga
                  go_wp2_with fail
                  refine (get_any ((i : Int) + 1) _ HKx.out).mono ?_
                  rintro e w7 ⟨rfl, hg7⟩
                  rw [GE.out, GA.out]
                  have HG7 : Hid (w2.grownBy w7 none) := grown_trans HG.out hg7
                  have hix := HIx.out.below (below_none hg7 (Nat.le_refl _)) (Nat.le_refl _)
                  obtain ⟨ao', ca', he', _, hix'⟩ := hix.open
                  obtain ⟨gb, go', hao, hgb, d0, d1, d2, d3⟩ := hix' i hlt2
                  simp only [Value.slice.injEq] at he'
                  obtain ⟨hpu, _, hcu⟩ := he'
                  rw [hao] at hpu
                  subst hpu
                  generalize hs.getD i Ol.d0 = z at *
                  obtain ⟨z0, z1, z2, z3⟩ := z
                  simp only at d0 d1 d2 d3
                  unfold item
                  simp only
                  have hgn : ¬ gb = w7.heap.size := by omega
                  clear hg7 hix hix' hcu hao GA
                  go_wp2
                  have hib1 : decide ((i : Int) < (b : Int)) = false := by simp; omega
                  have hib2 : decide ((b : Int) ≤ (i : Int)) = true := by simp; omega
                  go_quiet (fail)
                  go_wp2
                  go_roundw
                  case rel => first | exact ⟨i + 1, by omega, by go_num, grown_drew (grown_trans HG7.out (World.grownBy_alloc _ _ _)) _⟩ | ((repeat apply Exists.intro); refine ⟨?_, rfl⟩; exact ⟨i + 1, by omega, by go_num, grown_drew (grown_trans HG7.out (World.grownBy_alloc _ _ _)) _⟩)
                  case measure => simp [intOf]; omega
              · obtain rfl : i = hs.length := by omega
                have hK := HT.out.still HG.out
                have HKx : Hid (LogAt wr s b v (hs.drop b)) := hK.log
                have HLx : Hid ((b : Int) + ((hs.drop b).length : Int) = hs.length) := hK.len
                have HKf : Hid (Kept wr s w.heap.size v (.slice pu hs.length cu) hs b) := hK
                have HBf : Hid (Below w.heap.size w wr) := HBT.out.trans (below_none HG.out HBT.out.size)
                clear hK
                go_wp2_with fail
                refine (last_g _ HKx.out).mono ?_
                rintro e w8 ⟨rfl, hg8⟩
                rw [HLx.out]
                have HK8 : Hid (Kept w8 s w.heap.size v (.slice pu hs.length cu) hs b) := HKf.out.still hg8
                have HB8 : Hid (Below w.heap.size w w8) := HBf.out.trans (below_none hg8 HBf.out.size)
                clear hg8
                go_wp2_with fail
                refine (base_any _ HK8.out.log).mono ?_
                rintro e w9 ⟨rfl, rfl⟩
                go_wp2
                go_roundw
                case rel => exact ⟨j + 1, b, v, hs, by omega, by go_num, rfl, by omega, HK8.out, HB8.out⟩
                case measure => simp [intOf]; omega
      by_cases h1 : x0 = 1
      · subst h1
        by_cases hr : Ol.refuse (b : Int) (hs.drop b) [(y0, y1, y2, y3)] = 0
        · have HR : Hid (Ol.refuse (b : Int) (hs.drop b) [(y0, y1, y2, y3)] = 0) := hr
          have HLE : Hid ((b : Int) + ((hs.drop b).length : Int) + 1 = (hs.length : Int) + 1) := show (b : Int) + ((hs.drop b).length : Int) + 1 = (hs.length : Int) + 1 by have := HK0.out.len; omega
          clear hr
          go_wp2_with fail
          refine Calls.mono (show Calls Try.prog 18 #[.pointer (some ⟨s, 0, none⟩), .agg #[.int .i64 y0, .int .i64 y1, .int .i64 y2, .string y3]] _ _ from add_ok (y0, y1, y2, y3) _ HK0.out.log HR.out) ?_
          rintro e w2 ⟨v', rfl, hl2, ht, hm⟩
          have hbx := HE.out w2 ht
          obtain ⟨b0, b1, b3, b4, b5, b6⟩ := eight_of hbx
          obtain ⟨hrw, hap⟩ := HK0.out.turn ht hm
          have HB2 : Hid (Below w.heap.size w w2) := HB0.out.trans (HK0.out.log.below ht HS.out)
          have HL2 : Hid (LogAt w2 s b v' (hs.drop b ++ [(y0, y1, y2, y3)])) := hl2
          have HRW : Hid (Row (w2.alloc (B4 y0 y1 y2 y3)) w.heap.size 32 (.slice pu hs.length cu) hs) := hrw.still (World.grownBy_alloc _ _ _)
          have HAP : Hid (∀ j, (Value.slice pu hs.length cu).ownBlock = some j → j ≠ s ∧ v'.ownBlock ≠ some j) := hap
          rw [HLE.out]
          clear hl2 ht hm hbx hrw hap
          go_wp2_with (at_builtin; refine wpList_row _ rfl _ _ 33 rfl w.heap.size 32 i0 (.agg #[.int .i64 0, .int .i64 0, .int .i64 0, .string ⟨#[]⟩]) 40 Try.underlying33 hi hz0 hz1 hz2 rfl _ hs rfl HRW.out _ [(y0, y1, y2, y3)] rfl (one_item w2 y0 y1 y2 y3) ?c1 ?c2 ?c3 ?_)
          case c1 => unfold maxLen; simp; omega
          case c2 => simp; omega
          case c3 => have := HB2.out.size; simp; omega
          intro u3 w3 hrow3 hg3 hmv3
          obtain ⟨pu', cu', hu'⟩ := hrow3.slice
          subst hu'
          have hT := kept_add HL2.out HAP.out HK0.out.le hg3 hrow3 (hmv3.imp id fun h j hj => by have := h j hj; simp; omega)
          have hBT : Below w.heap.size w w3 := HB2.out.trans ((below_none (World.grownBy_alloc w2 (B4 y0 y1 y2 y3) none) HB2.out.size).trans ((Below.refl _ _).grown hg3 (by have := HB2.out.size; simp; omega) (fun k hk => (HRW.out.lt k hk).1)))
          have hlen' : (hs ++ [(y0, y1, y2, y3)]).length = hs.length + 1 := by simp
          clear hg3 hrow3 hmv3
          generalize hs ++ [(y0, y1, y2, y3)] = hs' at *
          have HT : Hid (Kept w3 s w.heap.size v' (.slice pu' hs'.length cu') hs' b) := hT
          have HBT : Hid (Below w.heap.size w w3) := hBT
          have HLL : Hid (hs'.length = hs.length + 1) := hlen'
          clear hT hBT hlen' HK1 HB1 HK HB HE HK0 HB0 b0 b1 b3 b4 b5 b6 HL2 HRW HAP HB2
          go_upto_region 28 with fail
          as_aux_lemma =>
            have HG0 : Hid (w3.grownBy w3 none) := grown_refl _ _
            have hLI : (hs'.length : Int) ≤ 200 := by have := HLL.out; omega
            have hBI : (b : Int) ≤ (hs'.length : Int) := by have := HT.out.le; omega
            go_wp2
            go_loopw [115] (fun i wr => ∃ i' : Nat, i' ≤ hs'.length ∧ i = .int .i64 i' ∧ Hid (w3.grownBy wr none)) (fun i _ => hs'.length - (intOf i).toNat)
            case atStart => exact ⟨0, Nat.zero_le _, rfl, HG0.out⟩
            case round =>
              obtain ⟨i, hil, rfl, HG⟩ := hrel
              by_cases hlt2 : i < hs'.length
              · have hlt2I : (i : Int) < (hs'.length : Int) := by omega
                obtain ⟨ge, ga⟩ := Kept.get HT.out.le hlt2
                have hK := HT.out.still HG.out
                have HKx : Hid (LogAt wr s b v' (hs'.drop b)) := hK.log
                have HIx : Hid (ItemsAt wr (.slice pu' hs'.length cu') hs') := hK.row.items
                clear hK
                by_cases hib : i < b
                · rw [if_pos hib] at ge
                  have GE : Hid (Ol.getErr b (hs'.drop b).length ((i : Int) + 1) = 50) := ge
                  have hib1 : decide ((i : Int) < (b : Int)) = true := by simp; omega
                  have hib2 : decide ((b : Int) ≤ (i : Int)) = false := by simp; omega
                  have hib3 : (i : Int) < (b : Int) := by omega
                  have hib4 : ¬ (b : Int) ≤ (i : Int) := by omega
                  clear ge ga
                  go_wp2_with fail
                  refine (get_any ((i : Int) + 1) _ HKx.out).mono ?_
                  rintro e w7 ⟨rfl, hg7⟩
                  rw [GE.out]
                  have HG7 : Hid (w3.grownBy w7 none) := grown_trans HG.out hg7
                  generalize Ol.at b (hs'.drop b) ((i : Int) + 1) = z at *
                  obtain ⟨z0, z1, z2, z3⟩ := z
                  unfold item
                  simp only
                  clear hg7
                  go_wp2
                  have hib1 : decide ((i : Int) < (b : Int)) = true := by simp; omega
                  have hib2 : decide ((b : Int) ≤ (i : Int)) = false := by simp; omega
                  refine wp_region_quiet_lit (by kernel_rfl) (by kernel_rfl) ?_
                  repeat (any_goals (first | go_big_quiet_step (fail) | quiet_step (fail) | (refine wpQuiet_step (fun K hK => ?_); go_simp; split <;> first | omega | (refine hK _ ?_; clear hK K))))
                  all_goals (refine wpQuiet_nil ?_; intro _ hw'; obtain ⟨nq, hw''⟩ := hw'; subst hw'')
                  go_wp2
                  go_roundw
                  case rel => first | exact ⟨i + 1, by omega, by go_num, grown_drew (grown_trans HG7.out (World.grownBy_alloc _ _ _)) _⟩ | ((repeat apply Exists.intro); refine ⟨?_, rfl⟩; exact ⟨i + 1, by omega, by go_num, grown_drew (grown_trans HG7.out (World.grownBy_alloc _ _ _)) _⟩)
                  case measure => simp [intOf]; omega
                · rw [if_neg hib] at ge
                  have GE : Hid (Ol.getErr b (hs'.drop b).length ((i : Int) + 1) = 0) := ge
                  have GA : Hid (Ol.at b (hs'.drop b) ((i : Int) + 1) = hs'.getD i Ol.d0) := ga (by omega)
                  have hib1 : decide ((i : Int) < (b : Int)) = false := by simp; omega
                  have hib2 : decide ((b : Int) ≤ (i : Int)) = true := by simp; omega
                  have hib3 : ¬ (i : Int) < (b : Int) := by omega
                  have hib4 : (b : Int) ≤ (i : Int) := by omega
                  clear ge ga
                  go_wp2_with fail
                  refine (get_any ((i : Int) + 1) _ HKx.out).mono ?_
                  rintro e w7 ⟨rfl, hg7⟩
                  rw [GE.out, GA.out]
                  have HG7 : Hid (w3.grownBy w7 none) := grown_trans HG.out hg7
                  have hix := HIx.out.below (below_none hg7 (Nat.le_refl _)) (Nat.le_refl _)
                  obtain ⟨ao', ca', he', _, hix'⟩ := hix.open
                  obtain ⟨gb, go', hao, hgb, d0, d1, d2, d3⟩ := hix' i hlt2
                  simp only [Value.slice.injEq] at he'
                  obtain ⟨hpu, _, hcu⟩ := he'
                  rw [hao] at hpu
                  subst hpu
                  generalize hs'.getD i Ol.d0 = z at *
                  obtain ⟨z0, z1, z2, z3⟩ := z
                  simp only at d0 d1 d2 d3
                  unfold item
                  simp only
                  have hgn : ¬ gb = w7.heap.size := by omega
                  clear hg7 hix hix' hcu hao GA
                  go_wp2
                  have hib1 : decide ((i : Int) < (b : Int)) = false := by simp; omega
                  have hib2 : decide ((b : Int) ≤ (i : Int)) = true := by simp; omega
                  go_quiet (fail)
                  go_wp2
                  go_roundw
                  case rel => first | exact ⟨i + 1, by omega, by go_num, grown_drew (grown_trans HG7.out (World.grownBy_alloc _ _ _)) _⟩ | ((repeat apply Exists.intro); refine ⟨?_, rfl⟩; exact ⟨i + 1, by omega, by go_num, grown_drew (grown_trans HG7.out (World.grownBy_alloc _ _ _)) _⟩)
                  case measure => simp [intOf]; omega
              · obtain rfl : i = hs'.length := by omega
                have hK := HT.out.still HG.out
                have HKx : Hid (LogAt wr s b v' (hs'.drop b)) := hK.log
                have HLx : Hid ((b : Int) + ((hs'.drop b).length : Int) = hs'.length) := hK.len
                have HKf : Hid (Kept wr s w.heap.size v' (.slice pu' hs'.length cu') hs' b) := hK
                have HBf : Hid (Below w.heap.size w wr) := HBT.out.trans (below_none HG.out HBT.out.size)
                clear hK
                go_wp2_with fail
                refine (last_g _ HKx.out).mono ?_
                rintro e w8 ⟨rfl, hg8⟩
                rw [HLx.out]
                have HK8 : Hid (Kept w8 s w.heap.size v' (.slice pu' hs'.length cu') hs' b) := HKf.out.still hg8
                have HB8 : Hid (Below w.heap.size w w8) := HBf.out.trans (below_none hg8 HBf.out.size)
                clear hg8
                go_wp2_with fail
                refine (base_any _ HK8.out.log).mono ?_
                rintro e w9 ⟨rfl, rfl⟩
                go_wp2
                go_roundw
                case rel => exact ⟨j + 1, b, v', hs', by omega, by go_num, rfl, by have := HLL.out; omega, HK8.out, HB8.out⟩
                case measure => simp [intOf]; omega
        · generalize hrr : Ol.refuse (b : Int) (hs.drop b) [(y0, y1, y2, y3)] = r at *
          have HR : Hid (Ol.refuse (b : Int) (hs.drop b) [(y0, y1, y2, y3)] = r) := hrr
          have hr0 : (r == 0) = false := by simpa using hr
          clear hrr hr
          go_wp2_with fail
          refine Calls.mono (show Calls Try.prog 18 #[.pointer (some ⟨s, 0, none⟩), .agg #[.int .i64 y0, .int .i64 y1, .int .i64 y2, .string y3]] _ _ from add_err (y0, y1, y2, y3) _ HK0.out.log (by rw [HR.out]; simpa using hr0)) ?_
          rintro e w2 ⟨rfl, hg2⟩
          rw [HR.out]
          have HT : Hid (Kept w2 s w.heap.size v (.slice pu hs.length cu) hs b) := HK0.out.still hg2
          have HBT : Hid (Below w.heap.size w w2) := HB0.out.trans (below_none hg2 HB0.out.size)
          clear hg2 HK1 HB1 HK HB HE HK0 HB0
          go_upto_region 28 with fail
          as_aux_lemma =>
            have HG0 : Hid (w2.grownBy w2 none) := grown_refl _ _
            have hLI : (hs.length : Int) ≤ 200 := by omega
            have hBI : (b : Int) ≤ (hs.length : Int) := by have := HT.out.le; omega
            go_wp2
            go_loopw [115] (fun i wr => ∃ i' : Nat, i' ≤ hs.length ∧ i = .int .i64 i' ∧ Hid (w2.grownBy wr none)) (fun i _ => hs.length - (intOf i).toNat)
            case atStart => exact ⟨0, Nat.zero_le _, rfl, HG0.out⟩
            case round =>
              obtain ⟨i, hil, rfl, HG⟩ := hrel
              by_cases hlt2 : i < hs.length
              · have hlt2I : (i : Int) < (hs.length : Int) := by omega
                obtain ⟨ge, ga⟩ := Kept.get HT.out.le hlt2
                have hK := HT.out.still HG.out
                have HKx : Hid (LogAt wr s b v (hs.drop b)) := hK.log
                have HIx : Hid (ItemsAt wr (.slice pu hs.length cu) hs) := hK.row.items
                clear hK
                by_cases hib : i < b
                · rw [if_pos hib] at ge
                  have GE : Hid (Ol.getErr b (hs.drop b).length ((i : Int) + 1) = 50) := ge
                  have hib1 : decide ((i : Int) < (b : Int)) = true := by simp; omega
                  have hib2 : decide ((b : Int) ≤ (i : Int)) = false := by simp; omega
                  have hib3 : (i : Int) < (b : Int) := by omega
                  have hib4 : ¬ (b : Int) ≤ (i : Int) := by omega
                  clear ge ga
                  go_wp2_with fail
                  refine (get_any ((i : Int) + 1) _ HKx.out).mono ?_
                  rintro e w7 ⟨rfl, hg7⟩
                  rw [GE.out]
                  have HG7 : Hid (w2.grownBy w7 none) := grown_trans HG.out hg7
                  generalize Ol.at b (hs.drop b) ((i : Int) + 1) = z at *
                  obtain ⟨z0, z1, z2, z3⟩ := z
                  unfold item
                  simp only
                  clear hg7
                  go_wp2
                  have hib1 : decide ((i : Int) < (b : Int)) = true := by simp; omega
                  have hib2 : decide ((b : Int) ≤ (i : Int)) = false := by simp; omega
                  refine wp_region_quiet_lit (by kernel_rfl) (by kernel_rfl) ?_
                  repeat (any_goals (first | go_big_quiet_step (fail) | quiet_step (fail) | (refine wpQuiet_step (fun K hK => ?_); go_simp; split <;> first | omega | (refine hK _ ?_; clear hK K))))
                  all_goals (refine wpQuiet_nil ?_; intro _ hw'; obtain ⟨nq, hw''⟩ := hw'; subst hw'')
                  go_wp2
                  go_roundw
                  case rel => first | exact ⟨i + 1, by omega, by go_num, grown_drew (grown_trans HG7.out (World.grownBy_alloc _ _ _)) _⟩ | ((repeat apply Exists.intro); refine ⟨?_, rfl⟩; exact ⟨i + 1, by omega, by go_num, grown_drew (grown_trans HG7.out (World.grownBy_alloc _ _ _)) _⟩)
                  case measure => simp [intOf]; omega
                · rw [if_neg hib] at ge
                  have GE : Hid (Ol.getErr b (hs.drop b).length ((i : Int) + 1) = 0) := ge
                  have GA : Hid (Ol.at b (hs.drop b) ((i : Int) + 1) = hs.getD i Ol.d0) := ga (by omega)
                  have hib1 : decide ((i : Int) < (b : Int)) = false := by simp; omega
                  have hib2 : decide ((b : Int) ≤ (i : Int)) = true := by simp; omega
                  have hib3 : ¬ (i : Int) < (b : Int) := by omega
                  have hib4 : (b : Int) ≤ (i : Int) := by omega
                  clear ge ga
                  go_wp2_with fail
                  refine (get_any ((i : Int) + 1) _ HKx.out).mono ?_
                  rintro e w7 ⟨rfl, hg7⟩
                  rw [GE.out, GA.out]
                  have HG7 : Hid (w2.grownBy w7 none) := grown_trans HG.out hg7
                  have hix := HIx.out.below (below_none hg7 (Nat.le_refl _)) (Nat.le_refl _)
                  obtain ⟨ao', ca', he', _, hix'⟩ := hix.open
                  obtain ⟨gb, go', hao, hgb, d0, d1, d2, d3⟩ := hix' i hlt2
                  simp only [Value.slice.injEq] at he'
                  obtain ⟨hpu, _, hcu⟩ := he'
                  rw [hao] at hpu
                  subst hpu
                  generalize hs.getD i Ol.d0 = z at *
                  obtain ⟨z0, z1, z2, z3⟩ := z
                  simp only at d0 d1 d2 d3
                  unfold item
                  simp only
                  have hgn : ¬ gb = w7.heap.size := by omega
                  clear hg7 hix hix' hcu hao GA
                  go_wp2
                  have hib1 : decide ((i : Int) < (b : Int)) = false := by simp; omega
                  have hib2 : decide ((b : Int) ≤ (i : Int)) = true := by simp; omega
                  go_quiet (fail)
                  go_wp2
                  go_roundw
                  case rel => first | exact ⟨i + 1, by omega, by go_num, grown_drew (grown_trans HG7.out (World.grownBy_alloc _ _ _)) _⟩ | ((repeat apply Exists.intro); refine ⟨?_, rfl⟩; exact ⟨i + 1, by omega, by go_num, grown_drew (grown_trans HG7.out (World.grownBy_alloc _ _ _)) _⟩)
                  case measure => simp [intOf]; omega
              · obtain rfl : i = hs.length := by omega
                have hK := HT.out.still HG.out
                have HKx : Hid (LogAt wr s b v (hs.drop b)) := hK.log
                have HLx : Hid ((b : Int) + ((hs.drop b).length : Int) = hs.length) := hK.len
                have HKf : Hid (Kept wr s w.heap.size v (.slice pu hs.length cu) hs b) := hK
                have HBf : Hid (Below w.heap.size w wr) := HBT.out.trans (below_none HG.out HBT.out.size)
                clear hK
                go_wp2_with fail
                refine (last_g _ HKx.out).mono ?_
                rintro e w8 ⟨rfl, hg8⟩
                rw [HLx.out]
                have HK8 : Hid (Kept w8 s w.heap.size v (.slice pu hs.length cu) hs b) := HKf.out.still hg8
                have HB8 : Hid (Below w.heap.size w w8) := HBf.out.trans (below_none hg8 HBf.out.size)
                clear hg8
                go_wp2_with fail
                refine (base_any _ HK8.out.log).mono ?_
                rintro e w9 ⟨rfl, rfl⟩
                go_wp2
                go_roundw
                case rel => exact ⟨j + 1, b, v, hs, by omega, by go_num, rfl, by omega, HK8.out, HB8.out⟩
                case measure => simp [intOf]; omega
      by_cases h2 : x0 = 2
      · skip
        subst h2
        by_cases hc : Ol.reach b (hs.drop b).length x1 = 0
        · have hn : (b : Int) ≤ x1 ∧ x1 ≤ hs.length := by
            have hle := HK0.out.len
            unfold Ol.reach at hc
            split at hc
            · omega
            · split at hc <;> omega
          obtain ⟨nn, rfl⟩ : ∃ nn : Nat, x1 = nn := ⟨x1.toNat, by omega⟩
          have hcap := HK0.out.row.cap
          have i1 : ¬ (nn : Int) < (b : Int) := by omega
          have i2 : ¬ (hs.length : Int) < (nn : Int) := by omega
          have i3 : (nn : Int) ≤ (cu : Int) := by omega
          have HN : Hid (b ≤ nn ∧ nn ≤ hs.length) := ⟨by omega, by omega⟩
          clear hc hn hcap
          go_wp2_with fail
          refine (cut_ok (nn - b) nn _ HK0.out.log (by have := HN.out; have := HK0.out.len; omega) (by have := HN.out; omega)).mono ?_
          rintro e w2 ⟨v', rfl, hl2, ht, hm⟩
          have hbx := HE.out w2 ht
          obtain ⟨b0, b1, b3, b4, b5, b6⟩ := eight_of hbx
          have hT := kept_cut HK0.out hl2 ht hm HN.out.1 HN.out.2
          have HBT : Hid (Below w.heap.size w w2) := HB0.out.trans (HK0.out.log.below ht HS.out)
          have hlen' : (hs.take nn).length = nn := by have := HN.out; simp; omega
          have HLN' : Hid ((hs.take nn).length = nn) := hlen'
          have HT0 : Hid (Kept w2 s w.heap.size v' (.slice pu nn cu) (hs.take nn) b) := hT
          clear hbx hl2 ht hm hT hlen'
          go_upto_region 28 with fail
          simp only [show decide (nn < b) = false from decide_eq_false (by omega), show decide (hs.length < nn) = false from decide_eq_false (by omega), Bool.or_self]
          clear HK1 HB1 HK HB HE HK0 HB0 b0 b1 b3 b4 b5 b6
          have hlen' := HLN'.out
          have hll : (hs.take nn).length ≤ hs.length := by simp; omega
          have HLL : Hid ((hs.take nn).length ≤ hs.length) := hll
          clear HLN' hll
          generalize hs.take nn = hs' at *
          subst hlen'
          have HT : Hid (Kept w2 s w.heap.size v' (.slice pu hs'.length cu) hs' b) := HT0.out
          clear HT0 HN
          as_aux_lemma =>
            have HG0 : Hid (w2.grownBy w2 none) := grown_refl _ _
            have hLI : (hs'.length : Int) ≤ 200 := by have := HLL.out; omega
            have hBI : (b : Int) ≤ (hs'.length : Int) := by have := HT.out.le; omega
            go_wp2
            go_loopw [115] (fun i wr => ∃ i' : Nat, i' ≤ hs'.length ∧ i = .int .i64 i' ∧ Hid (w2.grownBy wr none)) (fun i _ => hs'.length - (intOf i).toNat)
            case atStart => exact ⟨0, Nat.zero_le _, rfl, HG0.out⟩
            case round =>
              obtain ⟨i, hil, rfl, HG⟩ := hrel
              by_cases hlt2 : i < hs'.length
              · have hlt2I : (i : Int) < (hs'.length : Int) := by omega
                obtain ⟨ge, ga⟩ := Kept.get HT.out.le hlt2
                have hK := HT.out.still HG.out
                have HKx : Hid (LogAt wr s b v' (hs'.drop b)) := hK.log
                have HIx : Hid (ItemsAt wr (.slice pu hs'.length cu) hs') := hK.row.items
                clear hK
                by_cases hib : i < b
                · rw [if_pos hib] at ge
                  have GE : Hid (Ol.getErr b (hs'.drop b).length ((i : Int) + 1) = 50) := ge
                  have hib1 : decide ((i : Int) < (b : Int)) = true := by simp; omega
                  have hib2 : decide ((b : Int) ≤ (i : Int)) = false := by simp; omega
                  have hib3 : (i : Int) < (b : Int) := by omega
                  have hib4 : ¬ (b : Int) ≤ (i : Int) := by omega
                  clear ge ga
                  go_wp2_with fail
                  refine (get_any ((i : Int) + 1) _ HKx.out).mono ?_
                  rintro e w7 ⟨rfl, hg7⟩
                  rw [GE.out]
                  have HG7 : Hid (w2.grownBy w7 none) := grown_trans HG.out hg7
                  generalize Ol.at b (hs'.drop b) ((i : Int) + 1) = z at *
                  obtain ⟨z0, z1, z2, z3⟩ := z
                  unfold item
                  simp only
                  clear hg7
                  go_wp2
                  have hib1 : decide ((i : Int) < (b : Int)) = true := by simp; omega
                  have hib2 : decide ((b : Int) ≤ (i : Int)) = false := by simp; omega
                  refine wp_region_quiet_lit (by kernel_rfl) (by kernel_rfl) ?_
                  repeat (any_goals (first | go_big_quiet_step (fail) | quiet_step (fail) | (refine wpQuiet_step (fun K hK => ?_); go_simp; split <;> first | omega | (refine hK _ ?_; clear hK K))))
                  all_goals (refine wpQuiet_nil ?_; intro _ hw'; obtain ⟨nq, hw''⟩ := hw'; subst hw'')
                  go_wp2
                  go_roundw
                  case rel => first | exact ⟨i + 1, by omega, by go_num, grown_drew (grown_trans HG7.out (World.grownBy_alloc _ _ _)) _⟩ | ((repeat apply Exists.intro); refine ⟨?_, rfl⟩; exact ⟨i + 1, by omega, by go_num, grown_drew (grown_trans HG7.out (World.grownBy_alloc _ _ _)) _⟩)
                  case measure => simp [intOf]; omega
                · rw [if_neg hib] at ge
                  have GE : Hid (Ol.getErr b (hs'.drop b).length ((i : Int) + 1) = 0) := ge
                  have GA : Hid (Ol.at b (hs'.drop b) ((i : Int) + 1) = hs'.getD i Ol.d0) := ga (by omega)
                  have hib1 : decide ((i : Int) < (b : Int)) = false := by simp; omega
                  have hib2 : decide ((b : Int) ≤ (i : Int)) = true := by simp; omega
                  have hib3 : ¬ (i : Int) < (b : Int) := by omega
                  have hib4 : (b : Int) ≤ (i : Int) := by omega
                  clear ge ga
                  go_wp2_with fail
                  refine (get_any ((i : Int) + 1) _ HKx.out).mono ?_
                  rintro e w7 ⟨rfl, hg7⟩
                  rw [GE.out, GA.out]
                  have HG7 : Hid (w2.grownBy w7 none) := grown_trans HG.out hg7
                  have hix := HIx.out.below (below_none hg7 (Nat.le_refl _)) (Nat.le_refl _)
                  obtain ⟨ao', ca', he', _, hix'⟩ := hix.open
                  obtain ⟨gb, go', hao, hgb, d0, d1, d2, d3⟩ := hix' i hlt2
                  simp only [Value.slice.injEq] at he'
                  obtain ⟨hpu, _, hcu⟩ := he'
                  rw [hao] at hpu
                  subst hpu
                  generalize hs'.getD i Ol.d0 = z at *
                  obtain ⟨z0, z1, z2, z3⟩ := z
                  simp only at d0 d1 d2 d3
                  unfold item
                  simp only
                  have hgn : ¬ gb = w7.heap.size := by omega
                  clear hg7 hix hix' hcu hao GA
                  go_wp2
                  have hib1 : decide ((i : Int) < (b : Int)) = false := by simp; omega
                  have hib2 : decide ((b : Int) ≤ (i : Int)) = true := by simp; omega
                  go_quiet (fail)
                  go_wp2
                  go_roundw
                  case rel => first | exact ⟨i + 1, by omega, by go_num, grown_drew (grown_trans HG7.out (World.grownBy_alloc _ _ _)) _⟩ | ((repeat apply Exists.intro); refine ⟨?_, rfl⟩; exact ⟨i + 1, by omega, by go_num, grown_drew (grown_trans HG7.out (World.grownBy_alloc _ _ _)) _⟩)
                  case measure => simp [intOf]; omega
              · obtain rfl : i = hs'.length := by omega
                have hK := HT.out.still HG.out
                have HKx : Hid (LogAt wr s b v' (hs'.drop b)) := hK.log
                have HLx : Hid ((b : Int) + ((hs'.drop b).length : Int) = hs'.length) := hK.len
                have HKf : Hid (Kept wr s w.heap.size v' (.slice pu hs'.length cu) hs' b) := hK
                have HBf : Hid (Below w.heap.size w wr) := HBT.out.trans (below_none HG.out HBT.out.size)
                clear hK
                go_wp2_with fail
                refine (last_g _ HKx.out).mono ?_
                rintro e w8 ⟨rfl, hg8⟩
                rw [HLx.out]
                have HK8 : Hid (Kept w8 s w.heap.size v' (.slice pu hs'.length cu) hs' b) := HKf.out.still hg8
                have HB8 : Hid (Below w.heap.size w w8) := HBf.out.trans (below_none hg8 HBf.out.size)
                clear hg8
                go_wp2_with fail
                refine (base_any _ HK8.out.log).mono ?_
                rintro e w9 ⟨rfl, rfl⟩
                go_wp2
                go_roundw
                case rel => exact ⟨j + 1, b, v', hs', by omega, by go_num, rfl, by have := HLL.out; omega, HK8.out, HB8.out⟩
                case measure => simp [intOf]; omega
        · generalize hrr : Ol.reach b (hs.drop b).length x1 = r at *
          have HR : Hid (Ol.reach b (hs.drop b).length x1 = r) := hrr
          have hr0 : (r == 0) = false := by simpa using hc
          clear hrr hc
          go_wp2_with fail
          refine (cut_err x1 _ HK0.out.log (by rw [HR.out]; simpa using hr0)).mono ?_
          rintro e w2 ⟨rfl, hg2⟩
          rw [HR.out]
          have HT : Hid (Kept w2 s w.heap.size v (.slice pu hs.length cu) hs b) := HK0.out.still hg2
          have HBT : Hid (Below w.heap.size w w2) := HB0.out.trans (below_none hg2 HB0.out.size)
          clear hg2 HK1 HB1 HK HB HE HK0 HB0
          go_upto_region 28 with fail
          as_aux_lemma =>
            have HG0 : Hid (w2.grownBy w2 none) := grown_refl _ _
            have hLI : (hs.length : Int) ≤ 200 := by omega
            have hBI : (b : Int) ≤ (hs.length : Int) := by have := HT.out.le; omega
            go_wp2
            go_loopw [115] (fun i wr => ∃ i' : Nat, i' ≤ hs.length ∧ i = .int .i64 i' ∧ Hid (w2.grownBy wr none)) (fun i _ => hs.length - (intOf i).toNat)
            case atStart => exact ⟨0, Nat.zero_le _, rfl, HG0.out⟩
            case round =>
              obtain ⟨i, hil, rfl, HG⟩ := hrel
              by_cases hlt2 : i < hs.length
              · have hlt2I : (i : Int) < (hs.length : Int) := by omega
                obtain ⟨ge, ga⟩ := Kept.get HT.out.le hlt2
                have hK := HT.out.still HG.out
                have HKx : Hid (LogAt wr s b v (hs.drop b)) := hK.log
                have HIx : Hid (ItemsAt wr (.slice pu hs.length cu) hs) := hK.row.items
                clear hK
                by_cases hib : i < b
                · rw [if_pos hib] at ge
                  have GE : Hid (Ol.getErr b (hs.drop b).length ((i : Int) + 1) = 50) := ge
                  have hib1 : decide ((i : Int) < (b : Int)) = true := by simp; omega
                  have hib2 : decide ((b : Int) ≤ (i : Int)) = false := by simp; omega
                  have hib3 : (i : Int) < (b : Int) := by omega
                  have hib4 : ¬ (b : Int) ≤ (i : Int) := by omega
                  clear ge ga
                  go_wp2_with fail
                  refine (get_any ((i : Int) + 1) _ HKx.out).mono ?_
                  rintro e w7 ⟨rfl, hg7⟩
                  rw [GE.out]
                  have HG7 : Hid (w2.grownBy w7 none) := grown_trans HG.out hg7
                  generalize Ol.at b (hs.drop b) ((i : Int) + 1) = z at *
                  obtain ⟨z0, z1, z2, z3⟩ := z
                  unfold item
                  simp only
                  clear hg7
                  go_wp2
                  have hib1 : decide ((i : Int) < (b : Int)) = true := by simp; omega
                  have hib2 : decide ((b : Int) ≤ (i : Int)) = false := by simp; omega
                  refine wp_region_quiet_lit (by kernel_rfl) (by kernel_rfl) ?_
                  repeat (any_goals (first | go_big_quiet_step (fail) | quiet_step (fail) | (refine wpQuiet_step (fun K hK => ?_); go_simp; split <;> first | omega | (refine hK _ ?_; clear hK K))))
                  all_goals (refine wpQuiet_nil ?_; intro _ hw'; obtain ⟨nq, hw''⟩ := hw'; subst hw'')
                  go_wp2
                  go_roundw
                  case rel => first | exact ⟨i + 1, by omega, by go_num, grown_drew (grown_trans HG7.out (World.grownBy_alloc _ _ _)) _⟩ | ((repeat apply Exists.intro); refine ⟨?_, rfl⟩; exact ⟨i + 1, by omega, by go_num, grown_drew (grown_trans HG7.out (World.grownBy_alloc _ _ _)) _⟩)
                  case measure => simp [intOf]; omega
                · rw [if_neg hib] at ge
                  have GE : Hid (Ol.getErr b (hs.drop b).length ((i : Int) + 1) = 0) := ge
                  have GA : Hid (Ol.at b (hs.drop b) ((i : Int) + 1) = hs.getD i Ol.d0) := ga (by omega)
                  have hib1 : decide ((i : Int) < (b : Int)) = false := by simp; omega
                  have hib2 : decide ((b : Int) ≤ (i : Int)) = true := by simp; omega
                  have hib3 : ¬ (i : Int) < (b : Int) := by omega
                  have hib4 : (b : Int) ≤ (i : Int) := by omega
                  clear ge ga
                  go_wp2_with fail
                  refine (get_any ((i : Int) + 1) _ HKx.out).mono ?_
                  rintro e w7 ⟨rfl, hg7⟩
                  rw [GE.out, GA.out]
                  have HG7 : Hid (w2.grownBy w7 none) := grown_trans HG.out hg7
                  have hix := HIx.out.below (below_none hg7 (Nat.le_refl _)) (Nat.le_refl _)
                  obtain ⟨ao', ca', he', _, hix'⟩ := hix.open
                  obtain ⟨gb, go', hao, hgb, d0, d1, d2, d3⟩ := hix' i hlt2
                  simp only [Value.slice.injEq] at he'
                  obtain ⟨hpu, _, hcu⟩ := he'
                  rw [hao] at hpu
                  subst hpu
                  generalize hs.getD i Ol.d0 = z at *
                  obtain ⟨z0, z1, z2, z3⟩ := z
                  simp only at d0 d1 d2 d3
                  unfold item
                  simp only
                  have hgn : ¬ gb = w7.heap.size := by omega
                  clear hg7 hix hix' hcu hao GA
                  go_wp2
                  have hib1 : decide ((i : Int) < (b : Int)) = false := by simp; omega
                  have hib2 : decide ((b : Int) ≤ (i : Int)) = true := by simp; omega
                  go_quiet (fail)
                  go_wp2
                  go_roundw
                  case rel => first | exact ⟨i + 1, by omega, by go_num, grown_drew (grown_trans HG7.out (World.grownBy_alloc _ _ _)) _⟩ | ((repeat apply Exists.intro); refine ⟨?_, rfl⟩; exact ⟨i + 1, by omega, by go_num, grown_drew (grown_trans HG7.out (World.grownBy_alloc _ _ _)) _⟩)
                  case measure => simp [intOf]; omega
              · obtain rfl : i = hs.length := by omega
                have hK := HT.out.still HG.out
                have HKx : Hid (LogAt wr s b v (hs.drop b)) := hK.log
                have HLx : Hid ((b : Int) + ((hs.drop b).length : Int) = hs.length) := hK.len
                have HKf : Hid (Kept wr s w.heap.size v (.slice pu hs.length cu) hs b) := hK
                have HBf : Hid (Below w.heap.size w wr) := HBT.out.trans (below_none HG.out HBT.out.size)
                clear hK
                go_wp2_with fail
                refine (last_g _ HKx.out).mono ?_
                rintro e w8 ⟨rfl, hg8⟩
                rw [HLx.out]
                have HK8 : Hid (Kept w8 s w.heap.size v (.slice pu hs.length cu) hs b) := HKf.out.still hg8
                have HB8 : Hid (Below w.heap.size w w8) := HBf.out.trans (below_none hg8 HBf.out.size)
                clear hg8
                go_wp2_with fail
                refine (base_any _ HK8.out.log).mono ?_
                rintro e w9 ⟨rfl, rfl⟩
                go_wp2
                go_roundw
                case rel => exact ⟨j + 1, b, v, hs, by omega, by go_num, rfl, by omega, HK8.out, HB8.out⟩
                case measure => simp [intOf]; omega
      by_cases h3 : x0 = 3
      · skip
        subst h3
        by_cases hc : x1 < 0 ∨ (b : Int) + ((hs.drop b).length : Int) < x1
        · have HC : Hid (x1 < 0 ∨ (b : Int) + ((hs.drop b).length : Int) < x1) := hc
          clear hc
          go_wp2_with fail
          refine (trim_err x1 _ HK0.out.log HC.out).mono ?_
          rintro e w2 ⟨rfl, hg2⟩
          have HT : Hid (Kept w2 s w.heap.size v (.slice pu hs.length cu) hs b) := HK0.out.still hg2
          have HBT : Hid (Below w.heap.size w w2) := HB0.out.trans (below_none hg2 HB0.out.size)
          clear hg2 HK1 HB1 HK HB HE HK0 HB0
          go_upto_region 28 with fail
          as_aux_lemma =>
            have HG0 : Hid (w2.grownBy w2 none) := grown_refl _ _
            have hLI : (hs.length : Int) ≤ 200 := by omega
            have hBI : (b : Int) ≤ (hs.length : Int) := by have := HT.out.le; omega
            go_wp2
            go_loopw [115] (fun i wr => ∃ i' : Nat, i' ≤ hs.length ∧ i = .int .i64 i' ∧ Hid (w2.grownBy wr none)) (fun i _ => hs.length - (intOf i).toNat)
            case atStart => exact ⟨0, Nat.zero_le _, rfl, HG0.out⟩
            case round =>
              obtain ⟨i, hil, rfl, HG⟩ := hrel
              by_cases hlt2 : i < hs.length
              · have hlt2I : (i : Int) < (hs.length : Int) := by omega
                obtain ⟨ge, ga⟩ := Kept.get HT.out.le hlt2
                have hK := HT.out.still HG.out
                have HKx : Hid (LogAt wr s b v (hs.drop b)) := hK.log
                have HIx : Hid (ItemsAt wr (.slice pu hs.length cu) hs) := hK.row.items
                clear hK
                by_cases hib : i < b
                · rw [if_pos hib] at ge
                  have GE : Hid (Ol.getErr b (hs.drop b).length ((i : Int) + 1) = 50) := ge
                  have hib1 : decide ((i : Int) < (b : Int)) = true := by simp; omega
                  have hib2 : decide ((b : Int) ≤ (i : Int)) = false := by simp; omega
                  have hib3 : (i : Int) < (b : Int) := by omega
                  have hib4 : ¬ (b : Int) ≤ (i : Int) := by omega
                  clear ge ga
                  go_wp2_with fail
                  refine (get_any ((i : Int) + 1) _ HKx.out).mono ?_
                  rintro e w7 ⟨rfl, hg7⟩
                  rw [GE.out]
                  have HG7 : Hid (w2.grownBy w7 none) := grown_trans HG.out hg7
                  generalize Ol.at b (hs.drop b) ((i : Int) + 1) = z at *
                  obtain ⟨z0, z1, z2, z3⟩ := z
                  unfold item
                  simp only
                  clear hg7
                  go_wp2
                  have hib1 : decide ((i : Int) < (b : Int)) = true := by simp; omega
                  have hib2 : decide ((b : Int) ≤ (i : Int)) = false := by simp; omega
                  refine wp_region_quiet_lit (by kernel_rfl) (by kernel_rfl) ?_
                  repeat (any_goals (first | go_big_quiet_step (fail) | quiet_step (fail) | (refine wpQuiet_step (fun K hK => ?_); go_simp; split <;> first | omega | (refine hK _ ?_; clear hK K))))
                  all_goals (refine wpQuiet_nil ?_; intro _ hw'; obtain ⟨nq, hw''⟩ := hw'; subst hw'')
                  go_wp2
                  go_roundw
                  case rel => first | exact ⟨i + 1, by omega, by go_num, grown_drew (grown_trans HG7.out (World.grownBy_alloc _ _ _)) _⟩ | ((repeat apply Exists.intro); refine ⟨?_, rfl⟩; exact ⟨i + 1, by omega, by go_num, grown_drew (grown_trans HG7.out (World.grownBy_alloc _ _ _)) _⟩)
                  case measure => simp [intOf]; omega
                · rw [if_neg hib] at ge
                  have GE : Hid (Ol.getErr b (hs.drop b).length ((i : Int) + 1) = 0) := ge
                  have GA : Hid (Ol.at b (hs.drop b) ((i : Int) + 1) = hs.getD i Ol.d0) := ga (by omega)
                  have hib1 : decide ((i : Int) < (b : Int)) = false := by simp; omega
                  have hib2 : decide ((b : Int) ≤ (i : Int)) = true := by simp; omega
                  have hib3 : ¬ (i : Int) < (b : Int) := by omega
                  have hib4 : (b : Int) ≤ (i : Int) := by omega
                  clear ge ga
                  go_wp2_with fail
                  refine (get_any ((i : Int) + 1) _ HKx.out).mono ?_
                  rintro e w7 ⟨rfl, hg7⟩
                  rw [GE.out, GA.out]
                  have HG7 : Hid (w2.grownBy w7 none) := grown_trans HG.out hg7
                  have hix := HIx.out.below (below_none hg7 (Nat.le_refl _)) (Nat.le_refl _)
                  obtain ⟨ao', ca', he', _, hix'⟩ := hix.open
                  obtain ⟨gb, go', hao, hgb, d0, d1, d2, d3⟩ := hix' i hlt2
                  simp only [Value.slice.injEq] at he'
                  obtain ⟨hpu, _, hcu⟩ := he'
                  rw [hao] at hpu
                  subst hpu
                  generalize hs.getD i Ol.d0 = z at *
                  obtain ⟨z0, z1, z2, z3⟩ := z
                  simp only at d0 d1 d2 d3
                  unfold item
                  simp only
                  have hgn : ¬ gb = w7.heap.size := by omega
                  clear hg7 hix hix' hcu hao GA
                  go_wp2
                  have hib1 : decide ((i : Int) < (b : Int)) = false := by simp; omega
                  have hib2 : decide ((b : Int) ≤ (i : Int)) = true := by simp; omega
                  go_quiet (fail)
                  go_wp2
                  go_roundw
                  case rel => first | exact ⟨i + 1, by omega, by go_num, grown_drew (grown_trans HG7.out (World.grownBy_alloc _ _ _)) _⟩ | ((repeat apply Exists.intro); refine ⟨?_, rfl⟩; exact ⟨i + 1, by omega, by go_num, grown_drew (grown_trans HG7.out (World.grownBy_alloc _ _ _)) _⟩)
                  case measure => simp [intOf]; omega
              · obtain rfl : i = hs.length := by omega
                have hK := HT.out.still HG.out
                have HKx : Hid (LogAt wr s b v (hs.drop b)) := hK.log
                have HLx : Hid ((b : Int) + ((hs.drop b).length : Int) = hs.length) := hK.len
                have HKf : Hid (Kept wr s w.heap.size v (.slice pu hs.length cu) hs b) := hK
                have HBf : Hid (Below w.heap.size w wr) := HBT.out.trans (below_none HG.out HBT.out.size)
                clear hK
                go_wp2_with fail
                refine (last_g _ HKx.out).mono ?_
                rintro e w8 ⟨rfl, hg8⟩
                rw [HLx.out]
                have HK8 : Hid (Kept w8 s w.heap.size v (.slice pu hs.length cu) hs b) := HKf.out.still hg8
                have HB8 : Hid (Below w.heap.size w w8) := HBf.out.trans (below_none hg8 HBf.out.size)
                clear hg8
                go_wp2_with fail
                refine (base_any _ HK8.out.log).mono ?_
                rintro e w9 ⟨rfl, rfl⟩
                go_wp2
                go_roundw
                case rel => exact ⟨j + 1, b, v, hs, by omega, by go_num, rfl, by omega, HK8.out, HB8.out⟩
                case measure => simp [intOf]; omega
        · have hle := HK0.out.len
          obtain ⟨nn, rfl⟩ : ∃ nn : Nat, x1 = nn := ⟨x1.toNat, by omega⟩
          have i1 : ¬ (nn : Int) < 0 := by omega
          have i2 : ¬ (hs.length : Int) < (nn : Int) := by omega
          by_cases hb2 : nn ≤ b
          · have i3 : ¬ (b : Int) < (nn : Int) := by omega
            have HN : Hid (nn ≤ b) := hb2
            clear hc hle hb2
            go_wp2_with fail
            refine (trim_old nn _ HK0.out.log (by omega) (by have := HN.out; omega)).mono ?_
            rintro e w2 ⟨rfl, hg2⟩
            have hbx := HE.out w2 (Turns.of_grown hg2)
            obtain ⟨b0, b1, b3, b4, b5, b6⟩ := eight_of hbx
            have HT : Hid (Kept w2 s w.heap.size v (.slice pu hs.length cu) hs b) := HK0.out.still hg2
            have HBT : Hid (Below w.heap.size w w2) := HB0.out.trans (below_none hg2 HB0.out.size)
            clear hg2 HK1 HB1 HK HB HE HK0 HB0 hbx
            go_upto_region 28 with fail
            simp only [show decide (hs.length < nn) = false from decide_eq_false (by omega), show decide (b < nn) = false from decide_eq_false (by omega), Bool.or_false]
            clear b0 b1 b3 b4 b5 b6
            as_aux_lemma =>
              have HG0 : Hid (w2.grownBy w2 none) := grown_refl _ _
              have hLI : (hs.length : Int) ≤ 200 := by omega
              have hBI : (b : Int) ≤ (hs.length : Int) := by have := HT.out.le; omega
              go_wp2
              go_loopw [115] (fun i wr => ∃ i' : Nat, i' ≤ hs.length ∧ i = .int .i64 i' ∧ Hid (w2.grownBy wr none)) (fun i _ => hs.length - (intOf i).toNat)
              case atStart => exact ⟨0, Nat.zero_le _, rfl, HG0.out⟩
              case round =>
                obtain ⟨i, hil, rfl, HG⟩ := hrel
                by_cases hlt2 : i < hs.length
                · have hlt2I : (i : Int) < (hs.length : Int) := by omega
                  obtain ⟨ge, ga⟩ := Kept.get HT.out.le hlt2
                  have hK := HT.out.still HG.out
                  have HKx : Hid (LogAt wr s b v (hs.drop b)) := hK.log
                  have HIx : Hid (ItemsAt wr (.slice pu hs.length cu) hs) := hK.row.items
                  clear hK
                  by_cases hib : i < b
                  · rw [if_pos hib] at ge
                    have GE : Hid (Ol.getErr b (hs.drop b).length ((i : Int) + 1) = 50) := ge
                    have hib1 : decide ((i : Int) < (b : Int)) = true := by simp; omega
                    have hib2 : decide ((b : Int) ≤ (i : Int)) = false := by simp; omega
                    have hib3 : (i : Int) < (b : Int) := by omega
                    have hib4 : ¬ (b : Int) ≤ (i : Int) := by omega
                    clear ge ga
                    go_wp2_with fail
                    refine (get_any ((i : Int) + 1) _ HKx.out).mono ?_
                    rintro e w7 ⟨rfl, hg7⟩
                    rw [GE.out]
                    have HG7 : Hid (w2.grownBy w7 none) := grown_trans HG.out hg7
                    generalize Ol.at b (hs.drop b) ((i : Int) + 1) = z at *
                    obtain ⟨z0, z1, z2, z3⟩ := z
                    unfold item
                    simp only
                    clear hg7
                    go_wp2
                    have hib1 : decide ((i : Int) < (b : Int)) = true := by simp; omega
                    have hib2 : decide ((b : Int) ≤ (i : Int)) = false := by simp; omega
                    refine wp_region_quiet_lit (by kernel_rfl) (by kernel_rfl) ?_
                    repeat (any_goals (first | go_big_quiet_step (fail) | quiet_step (fail) | (refine wpQuiet_step (fun K hK => ?_); go_simp; split <;> first | omega | (refine hK _ ?_; clear hK K))))
                    all_goals (refine wpQuiet_nil ?_; intro _ hw'; obtain ⟨nq, hw''⟩ := hw'; subst hw'')
                    go_wp2
                    go_roundw
                    case rel => first | exact ⟨i + 1, by omega, by go_num, grown_drew (grown_trans HG7.out (World.grownBy_alloc _ _ _)) _⟩ | ((repeat apply Exists.intro); refine ⟨?_, rfl⟩; exact ⟨i + 1, by omega, by go_num, grown_drew (grown_trans HG7.out (World.grownBy_alloc _ _ _)) _⟩)
                    case measure => simp [intOf]; omega
                  · rw [if_neg hib] at ge
                    have GE : Hid (Ol.getErr b (hs.drop b).length ((i : Int) + 1) = 0) := ge
                    have GA : Hid (Ol.at b (hs.drop b) ((i : Int) + 1) = hs.getD i Ol.d0) := ga (by omega)
                    have hib1 : decide ((i : Int) < (b : Int)) = false := by simp; omega
                    have hib2 : decide ((b : Int) ≤ (i : Int)) = true := by simp; omega
                    have hib3 : ¬ (i : Int) < (b : Int) := by omega
                    have hib4 : (b : Int) ≤ (i : Int) := by omega
                    clear ge ga
                    go_wp2_with fail
                    refine (get_any ((i : Int) + 1) _ HKx.out).mono ?_
                    rintro e w7 ⟨rfl, hg7⟩
                    rw [GE.out, GA.out]
                    have HG7 : Hid (w2.grownBy w7 none) := grown_trans HG.out hg7
                    have hix := HIx.out.below (below_none hg7 (Nat.le_refl _)) (Nat.le_refl _)
                    obtain ⟨ao', ca', he', _, hix'⟩ := hix.open
                    obtain ⟨gb, go', hao, hgb, d0, d1, d2, d3⟩ := hix' i hlt2
                    simp only [Value.slice.injEq] at he'
                    obtain ⟨hpu, _, hcu⟩ := he'
                    rw [hao] at hpu
                    subst hpu
                    generalize hs.getD i Ol.d0 = z at *
                    obtain ⟨z0, z1, z2, z3⟩ := z
                    simp only at d0 d1 d2 d3
                    unfold item
                    simp only
                    have hgn : ¬ gb = w7.heap.size := by omega
                    clear hg7 hix hix' hcu hao GA
                    go_wp2
                    have hib1 : decide ((i : Int) < (b : Int)) = false := by simp; omega
                    have hib2 : decide ((b : Int) ≤ (i : Int)) = true := by simp; omega
                    go_quiet (fail)
                    go_wp2
                    go_roundw
                    case rel => first | exact ⟨i + 1, by omega, by go_num, grown_drew (grown_trans HG7.out (World.grownBy_alloc _ _ _)) _⟩ | ((repeat apply Exists.intro); refine ⟨?_, rfl⟩; exact ⟨i + 1, by omega, by go_num, grown_drew (grown_trans HG7.out (World.grownBy_alloc _ _ _)) _⟩)
                    case measure => simp [intOf]; omega
                · obtain rfl : i = hs.length := by omega
                  have hK := HT.out.still HG.out
                  have HKx : Hid (LogAt wr s b v (hs.drop b)) := hK.log
                  have HLx : Hid ((b : Int) + ((hs.drop b).length : Int) = hs.length) := hK.len
                  have HKf : Hid (Kept wr s w.heap.size v (.slice pu hs.length cu) hs b) := hK
                  have HBf : Hid (Below w.heap.size w wr) := HBT.out.trans (below_none HG.out HBT.out.size)
                  clear hK
                  go_wp2_with fail
                  refine (last_g _ HKx.out).mono ?_
                  rintro e w8 ⟨rfl, hg8⟩
                  rw [HLx.out]
                  have HK8 : Hid (Kept w8 s w.heap.size v (.slice pu hs.length cu) hs b) := HKf.out.still hg8
                  have HB8 : Hid (Below w.heap.size w w8) := HBf.out.trans (below_none hg8 HBf.out.size)
                  clear hg8
                  go_wp2_with fail
                  refine (base_any _ HK8.out.log).mono ?_
                  rintro e w9 ⟨rfl, rfl⟩
                  go_wp2
                  go_roundw
                  case rel => exact ⟨j + 1, b, v, hs, by omega, by go_num, rfl, by omega, HK8.out, HB8.out⟩
                  case measure => simp [intOf]; omega
          · have i3 : (b : Int) < (nn : Int) := by omega
            have HN : Hid (b < nn ∧ nn ≤ hs.length) := ⟨by omega, by omega⟩
            clear hc hle hb2
            go_wp2_with fail
            refine (trim_ok (nn - b) nn _ HK0.out.log (by have := HN.out; have := HK0.out.len; omega) (by have := HN.out; omega) (by have := HN.out; omega)).mono ?_
            rintro e w2 ⟨v', rfl, hl2, ht, hm⟩
            have hbx := HE.out w2 ht
            obtain ⟨b0, b1, b3, b4, b5, b6⟩ := eight_of hbx
            have HT : Hid (Kept w2 s w.heap.size v' (.slice pu hs.length cu) hs nn) := kept_trim HK0.out hl2 ht hm (by have := HN.out; omega) HN.out.2
            have HBT : Hid (Below w.heap.size w w2) := HB0.out.trans (HK0.out.log.below ht HS.out)
            clear hbx hl2 ht hm HK1 HB1 HK HB HE HK0 HB0
            go_upto_region 28 with fail
            simp only [show decide (hs.length < nn) = false from decide_eq_false (by omega), Bool.or_false]
            clear b0 b1 b3 b4 b5 b6
            as_aux_lemma =>
              have HG0 : Hid (w2.grownBy w2 none) := grown_refl _ _
              have hLI : (hs.length : Int) ≤ 200 := by omega
              have hBI : (nn : Int) ≤ (hs.length : Int) := by have := HT.out.le; omega
              go_wp2
              go_loopw [115] (fun i wr => ∃ i' : Nat, i' ≤ hs.length ∧ i = .int .i64 i' ∧ Hid (w2.grownBy wr none)) (fun i _ => hs.length - (intOf i).toNat)
              case atStart => exact ⟨0, Nat.zero_le _, rfl, HG0.out⟩
              case round =>
                obtain ⟨i, hil, rfl, HG⟩ := hrel
                by_cases hlt2 : i < hs.length
                · have hlt2I : (i : Int) < (hs.length : Int) := by omega
                  obtain ⟨ge, ga⟩ := Kept.get HT.out.le hlt2
                  have hK := HT.out.still HG.out
                  have HKx : Hid (LogAt wr s nn v' (hs.drop nn)) := hK.log
                  have HIx : Hid (ItemsAt wr (.slice pu hs.length cu) hs) := hK.row.items
                  clear hK
                  by_cases hib : i < nn
                  · rw [if_pos hib] at ge
                    have GE : Hid (Ol.getErr nn (hs.drop nn).length ((i : Int) + 1) = 50) := ge
                    have hib1 : decide ((i : Int) < (nn : Int)) = true := by simp; omega
                    have hib2 : decide ((nn : Int) ≤ (i : Int)) = false := by simp; omega
                    have hib3 : (i : Int) < (nn : Int) := by omega
                    have hib4 : ¬ (nn : Int) ≤ (i : Int) := by omega
                    clear ge ga
                    go_wp2_with fail
                    refine (get_any ((i : Int) + 1) _ HKx.out).mono ?_
                    rintro e w7 ⟨rfl, hg7⟩
                    rw [GE.out]
                    have HG7 : Hid (w2.grownBy w7 none) := grown_trans HG.out hg7
                    generalize Ol.at nn (hs.drop nn) ((i : Int) + 1) = z at *
                    obtain ⟨z0, z1, z2, z3⟩ := z
                    unfold item
                    simp only
                    clear hg7
                    go_wp2
                    have hib1 : decide ((i : Int) < (nn : Int)) = true := by simp; omega
                    have hib2 : decide ((nn : Int) ≤ (i : Int)) = false := by simp; omega
                    refine wp_region_quiet_lit (by kernel_rfl) (by kernel_rfl) ?_
                    repeat (any_goals (first | go_big_quiet_step (fail) | quiet_step (fail) | (refine wpQuiet_step (fun K hK => ?_); go_simp; split <;> first | omega | (refine hK _ ?_; clear hK K))))
                    all_goals (refine wpQuiet_nil ?_; intro _ hw'; obtain ⟨nq, hw''⟩ := hw'; subst hw'')
                    go_wp2
                    go_roundw
                    case rel => first | exact ⟨i + 1, by omega, by go_num, grown_drew (grown_trans HG7.out (World.grownBy_alloc _ _ _)) _⟩ | ((repeat apply Exists.intro); refine ⟨?_, rfl⟩; exact ⟨i + 1, by omega, by go_num, grown_drew (grown_trans HG7.out (World.grownBy_alloc _ _ _)) _⟩)
                    case measure => simp [intOf]; omega
                  · rw [if_neg hib] at ge
                    have GE : Hid (Ol.getErr nn (hs.drop nn).length ((i : Int) + 1) = 0) := ge
                    have GA : Hid (Ol.at nn (hs.drop nn) ((i : Int) + 1) = hs.getD i Ol.d0) := ga (by omega)
                    have hib1 : decide ((i : Int) < (nn : Int)) = false := by simp; omega
                    have hib2 : decide ((nn : Int) ≤ (i : Int)) = true := by simp; omega
                    have hib3 : ¬ (i : Int) < (nn : Int) := by omega
                    have hib4 : (nn : Int) ≤ (i : Int) := by omega
                    clear ge ga
                    go_wp2_with fail
                    refine (get_any ((i : Int) + 1) _ HKx.out).mono ?_
                    rintro e w7 ⟨rfl, hg7⟩
                    rw [GE.out, GA.out]
                    have HG7 : Hid (w2.grownBy w7 none) := grown_trans HG.out hg7
                    have hix := HIx.out.below (below_none hg7 (Nat.le_refl _)) (Nat.le_refl _)
                    obtain ⟨ao', ca', he', _, hix'⟩ := hix.open
                    obtain ⟨gb, go', hao, hgb, d0, d1, d2, d3⟩ := hix' i hlt2
                    simp only [Value.slice.injEq] at he'
                    obtain ⟨hpu, _, hcu⟩ := he'
                    rw [hao] at hpu
                    subst hpu
                    generalize hs.getD i Ol.d0 = z at *
                    obtain ⟨z0, z1, z2, z3⟩ := z
                    simp only at d0 d1 d2 d3
                    unfold item
                    simp only
                    have hgn : ¬ gb = w7.heap.size := by omega
                    clear hg7 hix hix' hcu hao GA
                    go_wp2
                    have hib1 : decide ((i : Int) < (nn : Int)) = false := by simp; omega
                    have hib2 : decide ((nn : Int) ≤ (i : Int)) = true := by simp; omega
                    go_quiet (fail)
                    go_wp2
                    go_roundw
                    case rel => first | exact ⟨i + 1, by omega, by go_num, grown_drew (grown_trans HG7.out (World.grownBy_alloc _ _ _)) _⟩ | ((repeat apply Exists.intro); refine ⟨?_, rfl⟩; exact ⟨i + 1, by omega, by go_num, grown_drew (grown_trans HG7.out (World.grownBy_alloc _ _ _)) _⟩)
                    case measure => simp [intOf]; omega
                · obtain rfl : i = hs.length := by omega
                  have hK := HT.out.still HG.out
                  have HKx : Hid (LogAt wr s nn v' (hs.drop nn)) := hK.log
                  have HLx : Hid ((nn : Int) + ((hs.drop nn).length : Int) = hs.length) := hK.len
                  have HKf : Hid (Kept wr s w.heap.size v' (.slice pu hs.length cu) hs nn) := hK
                  have HBf : Hid (Below w.heap.size w wr) := HBT.out.trans (below_none HG.out HBT.out.size)
                  clear hK
                  go_wp2_with fail
                  refine (last_g _ HKx.out).mono ?_
                  rintro e w8 ⟨rfl, hg8⟩
                  rw [HLx.out]
                  have HK8 : Hid (Kept w8 s w.heap.size v' (.slice pu hs.length cu) hs nn) := HKf.out.still hg8
                  have HB8 : Hid (Below w.heap.size w w8) := HBf.out.trans (below_none hg8 HBf.out.size)
                  clear hg8
                  go_wp2_with fail
                  refine (base_any _ HK8.out.log).mono ?_
                  rintro e w9 ⟨rfl, rfl⟩
                  go_wp2
                  go_roundw
                  case rel => exact ⟨j + 1, nn, v', hs, by omega, by go_num, rfl, by omega, HK8.out, HB8.out⟩
                  case measure => simp [intOf]; omega
      have h0a : (x0 == 0) = false := by simpa using h0
      have h0b : (x0 == 1) = false := by simpa using h1
      have h0c : (x0 == 2) = false := by simpa using h2
      have h0d : (x0 == 3) = false := by simpa using h3
      clear h0 h1 h2 h3
      · have HT : Hid (Kept (wr.alloc (E8 x0 x1 x2 y0 y1 y2 y3 (.slice pl ml cl))) s w.heap.size v (.slice pu hs.length cu) hs b) := HK0.out
        have HBT : Hid (Below w.heap.size w (wr.alloc (E8 x0 x1 x2 y0 y1 y2 y3 (.slice pl ml cl)))) := HB0.out
        clear HK1 HB1 HK HB HE HK0 HB0
        go_upto_region 28 with fail
        generalize (wr.alloc (E8 x0 x1 x2 y0 y1 y2 y3 (.slice pl ml cl))) = Wt at *
        as_aux_lemma =>
          have HG0 : Hid (Wt.grownBy Wt none) := grown_refl _ _
          have hLI : (hs.length : Int) ≤ 200 := by omega
          have hBI : (b : Int) ≤ (hs.length : Int) := by have := HT.out.le; omega
          go_wp2
          go_loopw [115] (fun i wr => ∃ i' : Nat, i' ≤ hs.length ∧ i = .int .i64 i' ∧ Hid (Wt.grownBy wr none)) (fun i _ => hs.length - (intOf i).toNat)
          case atStart => exact ⟨0, Nat.zero_le _, rfl, HG0.out⟩
          case round =>
            obtain ⟨i, hil, rfl, HG⟩ := hrel
            by_cases hlt2 : i < hs.length
            · have hlt2I : (i : Int) < (hs.length : Int) := by omega
              obtain ⟨ge, ga⟩ := Kept.get HT.out.le hlt2
              have hK := HT.out.still HG.out
              have HKx : Hid (LogAt wr s b v (hs.drop b)) := hK.log
              have HIx : Hid (ItemsAt wr (.slice pu hs.length cu) hs) := hK.row.items
              clear hK
              by_cases hib : i < b
              · rw [if_pos hib] at ge
                have GE : Hid (Ol.getErr b (hs.drop b).length ((i : Int) + 1) = 50) := ge
                have hib1 : decide ((i : Int) < (b : Int)) = true := by simp; omega
                have hib2 : decide ((b : Int) ≤ (i : Int)) = false := by simp; omega
                have hib3 : (i : Int) < (b : Int) := by omega
                have hib4 : ¬ (b : Int) ≤ (i : Int) := by omega
                clear ge ga
                go_wp2_with fail
                refine (get_any ((i : Int) + 1) _ HKx.out).mono ?_
                rintro e w7 ⟨rfl, hg7⟩
                rw [GE.out]
                have HG7 : Hid (Wt.grownBy w7 none) := grown_trans HG.out hg7
                generalize Ol.at b (hs.drop b) ((i : Int) + 1) = z at *
                obtain ⟨z0, z1, z2, z3⟩ := z
                unfold item
                simp only
                clear hg7
                go_wp2
                have hib1 : decide ((i : Int) < (b : Int)) = true := by simp; omega
                have hib2 : decide ((b : Int) ≤ (i : Int)) = false := by simp; omega
                refine wp_region_quiet_lit (by kernel_rfl) (by kernel_rfl) ?_
                repeat (any_goals (first | go_big_quiet_step (fail) | quiet_step (fail) | (refine wpQuiet_step (fun K hK => ?_); go_simp; split <;> first | omega | (refine hK _ ?_; clear hK K))))
                all_goals (refine wpQuiet_nil ?_; intro _ hw'; obtain ⟨nq, hw''⟩ := hw'; subst hw'')
                go_wp2
                go_roundw
                case rel => first | exact ⟨i + 1, by omega, by go_num, grown_drew (grown_trans HG7.out (World.grownBy_alloc _ _ _)) _⟩ | ((repeat apply Exists.intro); refine ⟨?_, rfl⟩; exact ⟨i + 1, by omega, by go_num, grown_drew (grown_trans HG7.out (World.grownBy_alloc _ _ _)) _⟩)
                case measure => simp [intOf]; omega
              · rw [if_neg hib] at ge
                have GE : Hid (Ol.getErr b (hs.drop b).length ((i : Int) + 1) = 0) := ge
                have GA : Hid (Ol.at b (hs.drop b) ((i : Int) + 1) = hs.getD i Ol.d0) := ga (by omega)
                have hib1 : decide ((i : Int) < (b : Int)) = false := by simp; omega
                have hib2 : decide ((b : Int) ≤ (i : Int)) = true := by simp; omega
                have hib3 : ¬ (i : Int) < (b : Int) := by omega
                have hib4 : (b : Int) ≤ (i : Int) := by omega
                clear ge ga
                go_wp2_with fail
                refine (get_any ((i : Int) + 1) _ HKx.out).mono ?_
                rintro e w7 ⟨rfl, hg7⟩
                rw [GE.out, GA.out]
                have HG7 : Hid (Wt.grownBy w7 none) := grown_trans HG.out hg7
                have hix := HIx.out.below (below_none hg7 (Nat.le_refl _)) (Nat.le_refl _)
                obtain ⟨ao', ca', he', _, hix'⟩ := hix.open
                obtain ⟨gb, go', hao, hgb, d0, d1, d2, d3⟩ := hix' i hlt2
                simp only [Value.slice.injEq] at he'
                obtain ⟨hpu, _, hcu⟩ := he'
                rw [hao] at hpu
                subst hpu
                generalize hs.getD i Ol.d0 = z at *
                obtain ⟨z0, z1, z2, z3⟩ := z
                simp only at d0 d1 d2 d3
                unfold item
                simp only
                have hgn : ¬ gb = w7.heap.size := by omega
                clear hg7 hix hix' hcu hao GA
                go_wp2
                have hib1 : decide ((i : Int) < (b : Int)) = false := by simp; omega
                have hib2 : decide ((b : Int) ≤ (i : Int)) = true := by simp; omega
                go_quiet (fail)
                go_wp2
                go_roundw
                case rel => first | exact ⟨i + 1, by omega, by go_num, grown_drew (grown_trans HG7.out (World.grownBy_alloc _ _ _)) _⟩ | ((repeat apply Exists.intro); refine ⟨?_, rfl⟩; exact ⟨i + 1, by omega, by go_num, grown_drew (grown_trans HG7.out (World.grownBy_alloc _ _ _)) _⟩)
                case measure => simp [intOf]; omega
            · obtain rfl : i = hs.length := by omega
              have hK := HT.out.still HG.out
              have HKx : Hid (LogAt wr s b v (hs.drop b)) := hK.log
              have HLx : Hid ((b : Int) + ((hs.drop b).length : Int) = hs.length) := hK.len
              have HKf : Hid (Kept wr s w.heap.size v (.slice pu hs.length cu) hs b) := hK
              have HBf : Hid (Below w.heap.size w wr) := HBT.out.trans (below_none HG.out HBT.out.size)
              clear hK
              go_wp2_with fail
              refine (last_g _ HKx.out).mono ?_
              rintro e w8 ⟨rfl, hg8⟩
              rw [HLx.out]
              have HK8 : Hid (Kept w8 s w.heap.size v (.slice pu hs.length cu) hs b) := HKf.out.still hg8
              have HB8 : Hid (Below w.heap.size w w8) := HBf.out.trans (below_none hg8 HBf.out.size)
              clear hg8
              go_wp2_with fail
              refine (base_any _ HK8.out.log).mono ?_
              rintro e w9 ⟨rfl, rfl⟩
              go_wp2
              go_roundw
              case rel => exact ⟨j + 1, b, v, hs, by omega, by go_num, rfl, by omega, HK8.out, HB8.out⟩
              case measure => simp [intOf]; omega
    · obtain rfl : j = l.length := by omega
      have HBf : Hid (Below w.heap.size w wr) := HB.out
      clear HK HB HX HK1 HB1
      go_wp2_with fail
      refine (two_any _).mono ?_
      rintro e w9 ⟨rfl, hg9⟩
      have HB9 : Hid (Below w.heap.size w w9) := HBf.out.trans (below_none hg9 HBf.out.size)
      clear hg9
      go_wp2
      go_ret
      exact ⟨rfl, HB9.out⟩

theorem keeps_any (v : Value) (l : List St) (w : World) (h : StepsAt w v l) : Calls Try.prog 4 #[v] w fun e w' => e = .returned (.bool true) ∧ Below w.heap.size w w' := by
  obtain ⟨ao, cap, rfl, _, hx⟩ := h
  by_cases hl : l.length ≤ 200
  · exact keeps_go ao cap l w hl hx
  · exact keeps_long ao _ cap w (by omega)

set_option maxRecDepth 100000 in
theorem oplogKeeps_lifted (os : Os) (started : os.Started) (H : Type) (enc : TypeId × Value → H) :
    ReturnsInHanded {} Try.checked os 4 .any (Rows.oplogKeepsSpec.pre6 enc Try.prog Try.f4 Rows.oplogKeepsRow.domain false) (Rows.oplogKeepsSpec.post enc Try.prog Try.f4 false true false false) := by
  refine returnsInHanded_of_change (C := Try.checked) own started (by kernel_rfl) Try.func4
    (ChangeSpec.witness6 (enc := enc) (C := Try.checked) false ⟨#[], #[.slice none 0 0], []⟩ 8 (by kernel_rfl) (by kernel_rfl) (by kernel_rfl) (by kernel_rfl)) ?_
  intro W base args ds gs before hval0 hW hcnd _
  have hval : ∀ (j : Nat) t v, Try.f4.params[j]? = some t → args[j]? = some v → Value.okWide Try.prog W .any base t v := hval0
  have hW' := hW
  obtain ⟨p, q, hA0, hV, rfl, hfz, hnd⟩ := hW
  have hA : DataW.TrodAll enc Try.prog W 0 (fun _ => true) true Try.f4.params.toList args.toList ds p := hA0
  rw [Try.params4] at hA hval
  obtain ⟨v0, d0, rfl, rfl, h0⟩ := trodAll_one hA
  obtain ⟨rfl, rfl⟩ := trodVars_none hV
  obtain ⟨l, hl⟩ := open_ksteps Try.underlying22 Try.underlying35 (by kernel_rfl) ⟨rfl, by kernel_rfl⟩ ⟨rfl, by kernel_rfl⟩ ⟨rfl, by kernel_rfl⟩ ⟨rfl, by kernel_rfl⟩ ⟨rfl, by kernel_rfl⟩ Try.underlying3 Try.underlying3 Try.underlying3 Try.underlying32 Try.underlying33 ⟨rfl, by kernel_rfl⟩ ⟨rfl, by kernel_rfl⟩ ⟨rfl, by kernel_rfl⟩ ⟨rfl, by kernel_rfl⟩ Try.underlying3 Try.underlying3 Try.underlying3 Try.underlying9 (okWide_slice Try.underlying22 (hval 0 22 v0 rfl rfl)) h0
  refine (keeps_any v0 l W hl).mono fun e W' ⟨he, hg⟩ => ⟨_, he, ?_⟩
  exact Law.post laidOut (by kernel_rfl) rfl Try.underlying4 hW' rfl rfl hg

theorem oplogKeeps_holds : Rows.OplogKeepsSaid :=
  OpenClaim.holds_of_wide 4 Try.f4 rfl rfl rfl rfl rfl rfl rfl ⟨rfl, rfl, rfl, rfl, rfl⟩ rfl rfl rfl rfl rfl (by kernel_rfl) Try.func4 (by kernel_rfl)
    (of_decide_eq_true (by kernel_rfl)) (by unfold Func.isWrapper; first | (rw [if_pos (by decide +kernel)]; kernel_rfl) | (rw [if_neg (by decide +kernel)]; exact ⟨rfl, rfl⟩))
    (fun os started H enc _ => oplogKeeps_lifted os started H enc)
#print axioms oplogKeeps_holds
end Go.Proofs.Ytibndhaelmnhmaa
