/-
  For any slice of steps and any two ints sextonlaw04.PostOthers returns true, whatever the memory: what is done with one letter changes no other one. No condition.
-/
import Derived.Test.YtpfnlciacbfcgabOthersA
import Derived.Test.YtpfnlciacbfcgabLaw
import Derived.Deep.QuietTactic
import Derived.BigQuiet
namespace Go.Proofs.Ytpfnlciacbfcgab
open Go.ChangeShapes Go.WideShapes Go.ChangeAt Go.RowKit Go.Deep

theorem ints_cells {w : World} {B n cp : Nat} {l : List Int} (h : IntsAt w (.slice (some ⟨B, 0, none⟩) n cp) l) (hn : l.length = n) : ∀ i, i < n → w.cell? ⟨B, i, none⟩ = some (.int .i64 (l.getD i 0)) := by
  intro i hi
  rcases h with ⟨_, _, e, rfl⟩ | ⟨b, off, cap, e, _, _, _, _, hx⟩
  · simp at hn
    omega
  · injection e with e1 e2 e3
    injection e1 with e1
    injection e1 with e1 e4 e5
    subst e1 e4
    have := hx i (by omega)
    rwa [Nat.zero_add] at this
theorem below_drew {B : Nat} {w W : World} (h : Below B w W) (q : Nat) : Below B w (W.drewN q) := ⟨h.os, h.tape, h.output, h.size, h.block⟩
theorem row_still {w w' : World} {base : Nat} {e : TypeId} {sz : Nat} {r : Value} {n : Nat} {xs : List Value} (h : w.ownsRow base e sz r n xs) (hg : w.grownBy w' none) : w'.ownsRow base e sz r n xs := h.kept hg (by cases hv : r.ownBlock <;> simp)
theorem Po.map_getD (ls : List Po.Lt) {i : Nat} (hi : i < ls.length) : (ls.map (·.1)).getD i 0 = (ls.getD i Po.d0).1 := by
  simp [List.getD, hi]
theorem Po.take_more (ls : List Po.Lt) {j : Nat} (hj : j < ls.length) : Po.cells (ls.take (j + 1)) = Po.cells (ls.take j) ++ [.int .i64 (ls.getD j Po.d0).1, .int .i64 (ls.getD j Po.d0).2.1, .int .i64 (ls.getD j Po.d0).2.2.1, .string (ls.getD j Po.d0).2.2.2] := by
  rw [List.take_succ_eq_append_getElem hj, Po.cells_append, Po.cells_one]
  have e : ls.getD j Po.d0 = ls[j] := by simp [List.getD, hj]
  rw [e]

set_option maxHeartbeats 4000000 in
set_option maxRecDepth 100000 in
theorem others_some (b off cap : Nat) (l : List St) (nn bit : Int) (w : World) (hB : b < w.heap.size) (hp : 0 < l.length) (hlc : l.length ≤ cap) (_hm : cap ≤ maxLen) (h200 : l.length ≤ 200)
    (hx : ∀ i, i < l.length → fiveAt w b (off + i * 5) (l.getD i s0)) :
    Calls Try.prog 6 #[.slice (some ⟨b, off, none⟩) l.length cap, .int .i64 nn, .int .i64 bit] w fun e w' => e = .returned (.bool true) ∧ Below w.heap.size w w' := by
  obtain ⟨i0, hi, hz0, hz1, hz2⟩ := info_parts info35
  unfold maxLen at _hm
  obtain ⟨n, hn⟩ : ∃ n, l.length = n := ⟨_, rfl⟩
  rw [hn] at hp hlc hx h200 ⊢
  have HX : Hid (∀ i, i < n → fiveAt w b (off + i * 5) (l.getD i s0)) := hx
  have h3' : ¬ ((200 : Int) < (n : Int)) := by omega
  clear hn hx
  go_enter Try.func6, Try.ntmps6
  go_wp2_with fail
  refine (new_ex _ (by decide) (by decide)).mono ?_
  rintro e w1 ⟨s, rfl, hs, hp1, hg1⟩
  have HS : Hid (w.heap.size ≤ s) := hs
  have HP1 : Hid (PostAt w1 s 4 0 (.slice none 0 0) []) := hp1
  have HB1 : Hid (Below w.heap.size w w1) := below_none hg1 (Nat.le_refl _)
  clear hs hp1 hg1
  go_wp2
  go_loopw [50] (fun i wr => ∃ (k : Nat) (last : Int) (v : Value) (ls : List Po.Lt), k ≤ n ∧ i = .int .i64 k ∧ Hid (PostAt wr s 4 last v ls) ∧ Hid (Below w.heap.size w wr) ∧ last ≤ k ∧ ls.length ≤ k)
    (fun i _ => n - (intOf i).toNat)
  case atStart => exact ⟨0, 0, _, [], Nat.zero_le _, rfl, HP1, HB1, by simp, by simp⟩
  case round =>
    obtain ⟨k, last, v, ls, hkn, rfl, HP, HB, hbk, htk⟩ := hrel
    by_cases hlt : k < n
    · obtain ⟨c0, c1, c2, c3, c4⟩ := (HX.out k hlt).kept HB.out hB
      generalize l.getD k s0 = st at c0 c1 c2 c3 c4
      obtain ⟨x0, x1, x2, x3, x4⟩ := st
      simp only at c0 c1 c2 c3 c4
      have HLL : Hid (last < 4611686018427387904) := by have : last < 4611686018427387904 := by omega
                                                        exact this
      have ga := World.grownBy_alloc wr (.cells #[.int .i64 x0, .int .i64 x1, .int .i64 x2, .int .i64 x3, .string x4] 29) none
      have HPb : Hid (PostAt (wr.alloc (.cells #[.int .i64 x0, .int .i64 x1, .int .i64 x2, .int .i64 x3, .string x4] 29)) s 4 last v ls) := HP.out.still ga
      have HBb : Hid (Below w.heap.size w (wr.alloc (.cells #[.int .i64 x0, .int .i64 x1, .int .i64 x2, .int .i64 x3, .string x4] 29))) := HB.out.trans (below_none ga HB.out.size)
      clear ga
      go_wp2_with fail
      refine (send_any x1 x2 x4 _ HPb.out HLL.out).mono ?_
      rintro e w3 ⟨v3, rfl, hp3, ht3, hm3⟩
      have HB3 : Hid (Below w.heap.size w w3) := HBb.out.trans (HPb.out.below ht3 HS.out)
      have HP3 : Hid (PostAt w3 s 4 (Po.sendLast 4 last ls x1 x2 x4) v3 (Po.sendTo 4 last ls x1 x2 x4)) := hp3
      have hL : Po.sendLast 4 last ls x1 x2 x4 ≤ last + 1 := by unfold Po.sendLast; split <;> omega
      have hT : (Po.sendTo 4 last ls x1 x2 x4).length ≤ ls.length + 1 := by unfold Po.sendTo; split <;> simp
      generalize Po.sendLast 4 last ls x1 x2 x4 = last' at hL HP3
      generalize Po.sendTo 4 last ls x1 x2 x4 = ls' at hT HP3
      generalize Po.sendErr 4 ls x1 x2 x4 = ee
      generalize Po.sendNum 4 last ls x1 x2 x4 = en
      clear ht3 hm3 hp3
      go_wp2
      go_roundw
      case rel => exact ⟨k + 1, last', v3, ls', by omega, by go_num, HP3, HB3, by omega, by omega⟩
      case measure => simp [intOf]; omega
    · obtain rfl : k = n := by omega
      have HK : Hid (last ≤ 200 ∧ ls.length ≤ 200) := ⟨by omega, by omega⟩
      clear hbk htk
      go_wp2_with fail
      refine (waiting_any _ HP.out).mono ?_
      rintro e w2 ⟨cp, rfl, hi2, hg2⟩
      have HP2 : Hid (PostAt w2 s 4 last v ls) := HP.out.still hg2
      have HB2 : Hid (Below w.heap.size w w2) := HB.out.trans (below_none hg2 HB.out.size)
      have HI2 : Hid (IntsAt w2 (.slice (some ⟨wr.heap.size, 0, none⟩) ls.length cp) (ls.map (·.1))) := hi2
      have HZ : Hid (s < wr.heap.size ∧ ∀ j, v.ownBlock = some j → j < wr.heap.size) := ⟨HP.out.lt, fun j hj => (HP.out.row.lt j hj).2⟩
      have hw2 : wr.heap.size ≤ w2.heap.size := hg2.size
      obtain ⟨m, hm⟩ : ∃ m, ls.length = m := ⟨_, rfl⟩
      have HM : Hid (ls.length = m) := hm
      have hm200 : m ≤ 200 := by have := HK.out.2; omega
      rw [hm] at HI2 ⊢
      generalize wr.heap.size = B at HI2 HZ hw2 ⊢
      clear hi2 hg2 HP HB hm
      go_wp2
      go_loopw [12, 67] (fun u12 i wr => ∃ j : Nat, j ≤ m ∧ i = .int .i64 j ∧ wr.ownsRow w2.heap.size 35 4 u12 j (Po.cells (ls.take j)) ∧ Hid (Below w2.heap.size w2 wr))
        (fun _ i _ => m - (intOf i).toNat)
      case atStart => exact ⟨0, Nat.zero_le _, rfl, World.ownsRow_nil _ _ _ _, Below.refl _ _⟩
      case round =>
        obtain ⟨j, hjm, rfl, hr, HW⟩ := hrel
        by_cases hjl : j < m
        · have HPr : Hid (PostAt wr s 4 last v ls) := HP2.out.still (grown_of_below HW.out none)
          have hjs : j < ls.length := by have := HM.out; omega
          have cj := ints_cells (HI2.out.still (grown_of_below HW.out none)) (by rw [List.length_map]; exact HM.out) j hjl
          rw [Po.map_getD ls hjs] at cj
          have HGT : Hid (Po.get ls (ls.getD j Po.d0).1 = some (ls.getD j Po.d0)) := Po.get_at HP2.out.good.sorted hjs
          have HTK : Hid (Po.cells (ls.take (j + 1)) = Po.cells (ls.take j) ++ [.int .i64 (ls.getD j Po.d0).1, .int .i64 (ls.getD j Po.d0).2.1, .int .i64 (ls.getD j Po.d0).2.2.1, .string (ls.getD j Po.d0).2.2.2]) := Po.take_more ls hjs
          generalize ls.getD j Po.d0 = x at cj HGT HTK
          obtain ⟨x0, x1, x2, x3⟩ := x
          simp only at cj HGT HTK
          go_wp2_with fail
          refine (see_some x0 _ HPr.out HGT.out).mono ?_
          rintro e w3 ⟨rfl, hg3⟩
          have hr3 := row_still hr hg3
          have HW3 : Hid (Below w2.heap.size w2 w3) := HW.out.trans (below_none hg3 HW.out.size)
          have hj200 : j ≤ 200 := by omega
          clear hg3 hr
          unfold letter
          simp only
          go_wp2_with (at_builtin; refine wpList_append_own _ rfl _ _ 45 rfl w2.heap.size 35 i0 (.agg #[.int .i64 0, .int .i64 0, .int .i64 0, .string ⟨#[]⟩]) 4 40 Try.underlying45 hi hz0 hz1 hz2 rfl (by decide) _ _ _ rfl ((hr3.alloc _).alloc _) ⟨w3.heap.size + 1, 0, none⟩ 1 1 [.int .i64 x0, .int .i64 x1, .int .i64 x2, .string x3] rfl rfl ?c1 ?c2 ?c3 ?c4 ?c5 ?_)
          case c1 => exact four_new _ _ (by simp) _ _ _ _ _
          case c2 => exact Po.cells_one' [(x0, x1, x2, x3)]
          case c3 => unfold maxLen; omega
          case c4 => omega
          case c5 => have := HW3.out.size; simp; omega
          intro v7 w7 hown7 hg7 _
          have gA := World.grownBy_alloc w3 (.cells #[.int .i64 x0, .int .i64 x1, .int .i64 x2, .string x3] 35) none
          have gB := World.grownBy_alloc (w3.alloc (.cells #[.int .i64 x0, .int .i64 x1, .int .i64 x2, .string x3] 35)) (.cells #[.int .i64 x0, .int .i64 x1, .int .i64 x2, .string x3] 35) none
          have HB7 : Hid (Below w2.heap.size w2 w7) := (HW3.out.trans (below_none (grown_trans gA gB) HW3.out.size)).grown hg7 (by have := HW3.out.size; simp; omega) (fun j hj => (hr3.lt j hj).1)
          have HR7 : Hid (w7.ownsRow w2.heap.size 35 4 v7 (j + 1) (Po.cells (ls.take (j + 1)))) := by
            have : w7.ownsRow w2.heap.size 35 4 v7 (j + 1) (Po.cells (ls.take (j + 1))) := by rw [HTK.out]; exact hown7
            exact this
          clear hown7 hg7 gA gB hr3
          go_wp2
          go_roundw
          case rel => exact ⟨j + 1, by omega, by go_num, HR7.out, HB7⟩
          case measure => simp [intOf]; omega
        · obtain rfl : j = m := by omega
          have HPr : Hid (PostAt wr s 4 last v ls) := HP2.out.still (grown_of_below HW.out none)
          have HIr : Hid (IntsAt wr (.slice (some ⟨B, 0, none⟩) j cp) (ls.map (·.1))) := HI2.out.still (grown_of_below HW.out none)
          have HR : Hid (wr.ownsRow w2.heap.size 35 4 u12 j (Po.cells ls)) := by
            have : wr.ownsRow w2.heap.size 35 4 u12 j (Po.cells ls) := by
              have h := hr
              rw [← HM.out, List.take_length] at h
              rw [← HM.out]
              exact h
            exact this
          have HBr : Hid (Below w.heap.size w wr) := HB2.out.trans (below_none (grown_of_below HW.out none) HB2.out.size)
          have HLL : Hid (last < 4611686018427387904) := by have : last < 4611686018427387904 := by have := HK.out.1; omega
                                                            exact this
          clear hr HW HP2 HI2 HB2
          go_wp2_with fail
          refine (flip_any nn bit _ HPr.out).mono ?_
          rintro e w5 ⟨rfl, hp5, ht5⟩
          have HP5 : Hid (PostAt w5 s 4 last v (Po.flipTo ls nn bit)) := hp5
          have HT5 : Hid (Turns wr w5 s v) := ht5
          generalize Po.flipErr ls nn bit = e5
          clear hp5 ht5
          go_wp2_with fail
          refine (again_any nn _ HP5.out HLL.out).mono ?_
          rintro e w6 ⟨v6, rfl, hp6, ht6, hm6⟩
          have HP6 : Hid (PostAt w6 s 4 (Po.againLast last (Po.flipTo ls nn bit) nn) v6 (Po.againTo last (Po.flipTo ls nn bit) nn)) := hp6
          have HT6 : Hid (Turns wr w6 s v) := HT5.out.trans (.refl _ _) ht6
          have HM6 : Hid (Moves wr v v6) := (Moves.refl _ _).trans HT5.out.size hm6
          generalize Po.againErr (Po.flipTo ls nn bit) nn = e6
          generalize Po.againNum last (Po.flipTo ls nn bit) nn = e7
          generalize Po.againLast last (Po.flipTo ls nn bit) nn = last6 at HP6
          clear hp6 ht6 hm6 HT5 HP5
          go_wp2_with fail
          refine (take_any nn _ HP6.out).mono ?_
          rintro e w7 ⟨v7, rfl, hp7, ht7, hm7⟩
          have HT7 : Hid (Turns wr w7 s v) := HT6.out.trans HM6.out ht7
          have HB7 : Hid (Below w.heap.size w w7) := HBr.out.trans (HPr.out.below HT7.out HS.out)
          have HP7 : Hid (PostAt w7 s 4 last6 v7 (Po.after last ls nn bit)) := hp7
          have HR7 : Hid (w7.ownsRow w2.heap.size 35 4 u12 j (Po.cells ls)) := row_far HT7.out HR.out (by have := HZ.out.1; omega) (fun q hq hu => by have := HZ.out.2 q hq; have := (HR.out.lt q hu).1; omega)
          have HI7 : Hid (IntsAt w7 (.slice (some ⟨B, 0, none⟩) j cp) (ls.map (·.1))) := HIr.out.turned HT7.out (fun e => by
            have h1 := HZ.out.1
            rw [← Option.some.inj (show some B = some s from e)] at h1
            omega) (fun q hq e => by
            have h1 := HZ.out.2 q hq
            rw [← Option.some.inj (show some B = some q from e)] at h1
            omega)
          have HG : Hid (Po.Good last ls) := HPr.out.good
          have HF1 : Hid ((Po.get ls nn).isSome = true → seeErr (Po.get (Po.againTo last (Po.flipTo ls nn bit) nn) nn) = 0) := fun h => by
            obtain ⟨y, hy⟩ := Option.isSome_iff_exists.1 h
            obtain ⟨h1, h2⟩ := Po.get_mem hy
            have h3 := (HPr.out.good.inside y h1).2
            unfold seeErr
            rw [if_pos ((Po.get_before (by omega)).trans h)]
          have HF2 : Hid (Po.get ls nn = none → seeErr (Po.get (Po.againTo last (Po.flipTo ls nn bit) nn) nn) = 6) := fun h => by
            rw [Po.again_absent h]
            rfl
          generalize seeErr (Po.get (Po.againTo last (Po.flipTo ls nn bit) nn) nn) = f at HF1 HF2
          generalize (Po.get (Po.againTo last (Po.flipTo ls nn bit) nn) nn).getD Po.d0 = y
          obtain ⟨y0, y1, y2, y3⟩ := y
          clear hp7 ht7 hm7 HT6 HM6 HP6 HR HIr HPr HBr HT7
          unfold letter
          simp only
          go_wp2
          have ga := World.grownBy_alloc w7 (.cells #[.int .i64 y0, .int .i64 y1, .int .i64 y2, .string y3] 35) none
          have HP8 : Hid (PostAt (w7.alloc (.cells #[.int .i64 y0, .int .i64 y1, .int .i64 y2, .string y3] 35)) s 4 last6 v7 (Po.after last ls nn bit)) := HP7.out.still ga
          have HB8 : Hid (Below w.heap.size w (w7.alloc (.cells #[.int .i64 y0, .int .i64 y1, .int .i64 y2, .string y3] 35))) := HB7.out.trans (below_none ga HB7.out.size)
          have HR8 : Hid ((w7.alloc (.cells #[.int .i64 y0, .int .i64 y1, .int .i64 y2, .string y3] 35)).ownsRow w2.heap.size 35 4 u12 j (Po.cells ls)) := row_still HR7.out ga
          have HI8 : Hid (IntsAt (w7.alloc (.cells #[.int .i64 y0, .int .i64 y1, .int .i64 y2, .string y3] 35)) (.slice (some ⟨B, 0, none⟩) j cp) (ls.map (·.1))) := HI7.out.still ga
          clear HP7 HB7 HR7 HI7 ga
          generalize w7.alloc (.cells #[.int .i64 y0, .int .i64 y1, .int .i64 y2, .string y3] 35) = w8 at HP8 HB8 HR8 HI8 ⊢
          go_loopw [19, 97] (fun gg i wr => ∃ q : Nat, q ≤ j ∧ i = .int .i64 q ∧ gg = .int .i64 (Po.goneIn ls nn q : Nat) ∧ Hid (Below w8.heap.size w8 wr))
            (fun _ i _ => j - (intOf i).toNat)
          case atStart => exact ⟨0, Nat.zero_le _, rfl, by simp [Po.goneIn], Below.refl _ _⟩
          case round =>
            obtain ⟨q, hqj, rfl, rfl, HW⟩ := hrel
            by_cases hql : q < j
            · have HPr : Hid (PostAt wr s 4 last6 v7 (Po.after last ls nn bit)) := HP8.out.still (grown_of_below HW.out none)
              have hqs : q < ls.length := by have := HM.out; omega
              have cq := ints_cells (HI8.out.still (grown_of_below HW.out none)) (by rw [List.length_map]; exact HM.out) q hql
              rw [Po.map_getD ls hqs] at cq
              have HRr := row_still HR8.out (grown_of_below HW.out none)
              have hgl : Po.goneIn ls nn q ≤ 200 := by
                have h1 : Po.goneIn ls nn q ≤ (ls.take q).length := List.countP_le_length
                have h2 := List.length_take_le q ls
                omega
              have HGS := Po.gone_step (n := nn) hqs
              have HGT : Hid (Po.get ls (ls.getD q Po.d0).1 = some (ls.getD q Po.d0)) := Po.get_at HG.out.sorted hqs
              have hin := (HG.out.inside _ (Po.get_mem HGT.out).1).2
              rcases HRr.2 with ⟨_, h0⟩ | ⟨g, cap12, cur, rfl, _, hgb, _, hcm, _⟩
              · omega
              rw [← HM.out] at HRr
              obtain ⟨q0, q1, q2, q3⟩ := row_at HRr hqs
              have hgw : g < wr.heap.size := (Array.getElem?_eq_some_iff.1 hgb).1
              generalize ls.getD q Po.d0 = x at cq HGT HGS hin q0 q1 q2 q3
              generalize Po.goneIn ls nn q = gq at HGS hgl ⊢
              generalize hgn : Po.goneIn ls nn (q + 1) = gq1 at HGS
              obtain ⟨x0, x1, x2, x3⟩ := x
              simp only at cq HGT HGS hin q0 q1 q2 q3
              clear HRr hgb hqs
              by_cases hk : x0 = nn
              · subst hk
                rw [if_pos rfl] at HGS
                obtain rfl := HF1.out (by rw [HGT.out]; rfl)
                go_wp2_with fail
                refine (see_none x0 _ HPr.out (Po.get_drop_same _ _)).mono ?_
                rintro e w9 ⟨rfl, hg9⟩
                have HB9 : Hid (Below w8.heap.size w8 w9) := HW.out.trans (below_none hg9 HW.out.size)
                clear hg9
                unfold letter
                simp only
                go_wp2
                go_roundw
                case rel => exact ⟨q + 1, by omega, by go_num, by rw [hgn, HGS]; go_num, HB9.out.alloc HB9.out.size _⟩
                case measure => simp [intOf]; omega
              · rw [if_neg hk] at HGS
                have HA : Hid (Po.get (Po.after last ls nn bit) x0 = some (x0, x1, x2, x3)) := (Po.get_after hin hk).trans HGT.out
                go_wp2_with fail
                refine (see_some x0 _ HPr.out HA.out).mono ?_
                rintro e w9 ⟨rfl, hg9⟩
                have HB9 : Hid (Below w8.heap.size w8 w9) := HW.out.trans (below_none hg9 HW.out.size)
                have c0 := hg9.cell q0 (by simp)
                have c1 := hg9.cell q1 (by simp)
                have c2 := hg9.cell q2 (by simp)
                have c3 := hg9.cell q3 (by simp)
                have hgw9 : g < w9.heap.size := Nat.lt_of_lt_of_le hgw hg9.size
                have hgd := guard35
                have heq := neq_same
                have hqi : (q : Int) < (j : Int) := by omega
                clear hg9 q0 q1 q2 q3
                unfold letter
                simp only
                go_wp2_with fail
                go_quiet (fail)
                go_wp2
                go_roundw
                case rel => exact ⟨q + 1, by omega, by go_num, by rw [hgn, HGS, Nat.add_zero], below_drew (HB9.out.alloc HB9.out.size _) _⟩
                case measure => simp [intOf]; omega
            · obtain rfl : q = j := by omega
              have HGA : Hid (Po.goneIn ls nn q = if (Po.get ls nn).isSome then 1 else 0) := by
                have : Po.goneIn ls nn q = if (Po.get ls nn).isSome then 1 else 0 := by rw [← HM.out]; exact Po.gone_all HG.out.sorted nn
                exact this
              have HBw : Hid (Below w.heap.size w wr) := HB8.out.trans (below_none (grown_of_below HW.out none) HB8.out.size)
              cases hgn : Po.get ls nn with
              | none =>
                obtain rfl := HF2.out hgn
                rw [HGA.out, hgn]
                simp only [Option.isSome_none, Bool.false_eq_true, if_false]
                go_wp2_with fail
                refine (twice_any _).mono ?_
                rintro e w9 ⟨rfl, hg9⟩
                have HB9 : Hid (Below w.heap.size w w9) := HBw.out.trans (below_none hg9 HBw.out.size)
                clear hg9
                go_wp2
                go_ret
                exact ⟨rfl, HB9.out⟩
              | some y =>
                obtain rfl := HF1.out (by rw [hgn]; rfl)
                rw [HGA.out, hgn]
                simp only [Option.isSome_some, if_true]
                go_wp2_with fail
                refine (twice_any _).mono ?_
                rintro e w9 ⟨rfl, hg9⟩
                have HB9 : Hid (Below w.heap.size w w9) := HBw.out.trans (below_none hg9 HBw.out.size)
                clear hg9
                go_wp2
                go_ret
                exact ⟨rfl, HB9.out⟩

set_option maxHeartbeats 1000000 in
set_option maxRecDepth 100000 in
theorem others_none (ao : Option Addr) (cap : Nat) (nn bit : Int) (w : World) : Calls Try.prog 6 #[.slice ao 0 cap, .int .i64 nn, .int .i64 bit] w fun e w' => e = .returned (.bool true) ∧ Below w.heap.size w w' := by
  go_enter Try.func6, Try.ntmps6
  go_wp2_with fail
  refine (new_ex _ (by decide) (by decide)).mono ?_
  rintro e w1 ⟨s, rfl, hs, hp1, hg1⟩
  have HP1 : Hid (PostAt w1 s 4 0 (.slice none 0 0) []) := hp1
  have HB1 : Hid (Below w.heap.size w w1) := below_none hg1 (Nat.le_refl _)
  clear hs hp1 hg1
  go_wp2
  refine wp_loop_rounds 1 ?_
  rw [rounds_succ]
  go_wp2_with fail
  refine (waiting_any _ HP1.out).mono ?_
  rintro e w2 ⟨cp, rfl, hi2, hg2⟩
  have HP2 : Hid (PostAt w2 s 4 0 (.slice none 0 0) []) := HP1.out.still hg2
  have HB2 : Hid (Below w.heap.size w w2) := HB1.out.trans (below_none hg2 HB1.out.size)
  clear hi2 hg2 HP1 HB1
  go_wp2
  refine wp_loop_rounds 1 ?_
  rw [rounds_succ]
  go_wp2_with fail
  refine (flip_none nn bit _ HP2.out rfl).mono ?_
  rintro e w3 ⟨rfl, hg⟩
  have HP3 : Hid (PostAt w3 s 4 0 (.slice none 0 0) []) := HP2.out.still hg
  have HB3 : Hid (Below w.heap.size w w3) := HB2.out.trans (below_none hg HB2.out.size)
  clear hg HP2 HB2
  go_wp2_with fail
  refine (again_none nn _ HP3.out rfl).mono ?_
  rintro e w4 ⟨rfl, hg⟩
  have HP4 : Hid (PostAt w4 s 4 0 (.slice none 0 0) []) := HP3.out.still hg
  have HB4 : Hid (Below w.heap.size w w4) := HB3.out.trans (below_none hg HB3.out.size)
  clear hg HP3 HB3
  go_wp2_with fail
  refine (take_none nn _ HP4.out rfl).mono ?_
  rintro e w5 ⟨rfl, hg⟩
  have HB5 : Hid (Below w.heap.size w w5) := HB4.out.trans (below_none hg HB4.out.size)
  clear hg HP4 HB4
  unfold letter
  simp only
  go_wp2
  refine wp_loop_rounds 1 ?_
  rw [rounds_succ]
  go_wp2_with fail
  refine (twice_any _).mono ?_
  rintro e w9 ⟨rfl, hg9⟩
  have HB9 : Hid (Below w.heap.size w w9) := (HB5.out.alloc HB5.out.size _).trans (below_none hg9 (by have := HB5.out.size; simp; omega))
  clear hg9
  go_wp2
  go_ret
  exact ⟨rfl, HB9.out⟩
set_option maxHeartbeats 1000000 in
set_option maxRecDepth 100000 in
theorem others_long (p : Option Addr) (n cap : Nat) (nn bit : Int) (w : World) (h : 200 < n) : Calls Try.prog 6 #[.slice p n cap, .int .i64 nn, .int .i64 bit] w fun e w' => e = .returned (.bool true) ∧ Below w.heap.size w w' := by
  have h' : (200 : Int) < (n : Int) := by omega
  go_enter Try.func6, Try.ntmps6
  go_wp2_with fail
  refine (new_ex _ (by decide) (by decide)).mono ?_
  rintro e w1 ⟨s, rfl, hs, hp1, hg1⟩
  have HB1 : Hid (Below w.heap.size w w1) := below_none hg1 (Nat.le_refl _)
  clear hs hp1 hg1
  go_wp2_with fail
  refine (twice_any _).mono ?_
  rintro e w9 ⟨rfl, hg9⟩
  have HB9 : Hid (Below w.heap.size w w9) := HB1.out.trans (below_none hg9 HB1.out.size)
  clear hg9
  go_wp2
  go_ret
  exact ⟨rfl, HB9.out⟩

theorem others_any (v : Value) (l : List St) (nn bit : Int) (w : World) (hv : StepsAt w v l) : Calls Try.prog 6 #[v, .int .i64 nn, .int .i64 bit] w fun e w' => e = .returned (.bool true) ∧ Below w.heap.size w w' := by
  rcases hv with ⟨ao, cap, rfl, rfl⟩ | ⟨b, off, cap, rfl, hB, hp, hc, hm, hx⟩
  · exact others_none ao cap nn bit w
  · by_cases h : l.length ≤ 200
    · exact others_some b off cap l nn bit w hB hp hc hm h hx
    · exact others_long _ _ _ nn bit w (by omega)

set_option maxRecDepth 100000 in
theorem postOthers_lifted (os : Os) (started : os.Started) (H : Type) (enc : TypeId × Value → H) :
    ReturnsInHanded {} Try.checked os 6 .any (Rows.postOthersSpec.pre6 enc Try.prog Try.f6 Rows.postOthersRow.domain false) (Rows.postOthersSpec.post enc Try.prog Try.f6 false true false false) := by
  refine returnsInHanded_of_change (C := Try.checked) own started (by kernel_rfl) Try.func6
    (ChangeSpec.witness6 (enc := enc) (C := Try.checked) false ⟨#[], #[.slice none 0 0, .int .i64 0, .int .i64 0], []⟩ 8 (by kernel_rfl) (by kernel_rfl) (by kernel_rfl) (by kernel_rfl)) ?_
  intro W base args ds gs before hval0 hW hcnd _
  have hval : ∀ (j : Nat) t v, Try.f6.params[j]? = some t → args[j]? = some v → Value.okWide Try.prog W .any base t v := hval0
  have hW' := hW
  obtain ⟨p, q, hA0, hV, rfl, hfz, hnd⟩ := hW
  have hA : DataW.TrodAll enc Try.prog W 0 (fun _ => true) true Try.f6.params.toList args.toList ds p := hA0
  rw [Try.params6] at hA hval
  obtain ⟨v0, v1, v2, d0, d1, d2, p0, p1, p2, rfl, rfl, rfl, h0, h1, h2⟩ := trodAll_three hA
  obtain ⟨rfl, rfl⟩ := trodVars_none hV
  obtain ⟨l, hl, _⟩ := open_steps Try.underlying22 Try.underlying29 (by kernel_rfl) (by kernel_rfl) Try.underlying3 Try.underlying3 Try.underlying3 Try.underlying3 Try.underlying9 (okWide_slice Try.underlying22 (hval 0 22 v0 rfl rfl)) h0
  obtain ⟨a, rfl, rfl, rfl, _⟩ := open_int Try.underlying3 (hval 1 3 v1 rfl rfl) h1
  obtain ⟨b, rfl, rfl, rfl, _⟩ := open_int Try.underlying3 (hval 2 3 v2 rfl rfl) h2
  refine (others_any v0 l a b W hl).mono fun e W' ⟨he, hg⟩ => ⟨_, he, ?_⟩
  exact Law.post laidOut (by kernel_rfl) rfl Try.underlying4 hW' rfl rfl hg

theorem postOthers_holds : Rows.PostOthersSaid :=
  OpenClaim.holds_of_wide 6 Try.f6 rfl rfl rfl rfl rfl rfl rfl ⟨rfl, rfl, rfl, rfl, rfl⟩ rfl rfl rfl rfl rfl (by kernel_rfl) Try.func6 (by kernel_rfl)
    (of_decide_eq_true (by kernel_rfl)) (by unfold Func.isWrapper; first | (rw [if_pos (by decide +kernel)]; kernel_rfl) | (rw [if_neg (by decide +kernel)]; exact ⟨rfl, rfl⟩))
    (fun os started H enc _ => postOthers_lifted os started H enc)
#print axioms postOthers_holds
end Go.Proofs.Ytpfnlciacbfcgab
