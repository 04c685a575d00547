/-
  For any slice of steps sextonlaw04.PostOnce returns true, whatever the memory: each letter is taken once, as it was sent. No condition.
-/
import Derived.Test.YtpfnlciacbfcgabOnceA
import Derived.Test.YtpfnlciacbfcgabLaw
namespace Go.Proofs.Ytpfnlciacbfcgab
open Go.ChangeShapes Go.WideShapes Go.ChangeAt Go.RowKit Go.Deep

theorem info29 : (Try.prog.info? 29).map (fun i => (i.zero, i.size, i.bytes)) = some (some (.agg #[.int .i64 0, .int .i64 0, .int .i64 0, .int .i64 0, .string ⟨#[]⟩]), 5, 48) := by kernel_rfl

set_option maxHeartbeats 4000000 in
set_option maxRecDepth 100000 in
theorem once_some (b off cap : Nat) (l : List St) (w : World) (hB : b < w.heap.size) (hp : 0 < l.length) (hlc : l.length ≤ cap) (_hm : cap ≤ maxLen) (h300 : l.length ≤ 300)
    (hx : ∀ i, i < l.length → fiveAt w b (off + i * 5) (l.getD i s0)) :
    Calls Try.prog 3 #[.slice (some ⟨b, off, none⟩) l.length cap] w fun e w' => e = .returned (.bool true) ∧ Below w.heap.size w w' := by
  obtain ⟨i0, hi, hz0, hz1, hz2⟩ := info_parts info3
  obtain ⟨i5, hi5, hz50, hz51, hz52⟩ := info_parts info29
  unfold maxLen at _hm
  obtain ⟨n, hn⟩ : ∃ n, l.length = n := ⟨_, rfl⟩
  rw [hn] at hp hlc hx h300 ⊢
  have HX : Hid (∀ i, i < n → fiveAt w b (off + i * 5) (l.getD i s0)) := hx
  have h3' : ¬ ((300 : Int) < (n : Int)) := by omega
  clear hn hx
  go_enter Try.func3, Try.ntmps3
  go_wp2_with fail
  refine (new_ex _ (by decide) (by decide)).mono ?_
  rintro e w1 ⟨s, rfl, hs, hp1, hg1⟩
  have HS : Hid (w.heap.size ≤ s) := hs
  have HP1 : Hid (PostAt w1 s 4 0 (.slice none 0 0) []) := hp1
  have HB1 : Hid (Below w.heap.size w w1) := below_none hg1 (Nat.le_refl _)
  clear hs hp1 hg1
  go_wp2
  go_loopw [5, 6, 46] (fun u5 u6 i wr => ∃ (k : Nat) (last : Int) (v : Value) (ls : List Po.Lt) (bs : List St) (tk : List Int), k ≤ n ∧ i = .int .i64 k ∧ Hid (PostAt wr s 4 last v ls) ∧ wr.ownsRow w.heap.size 29 5 u5 bs.length (cells5 bs) ∧ wr.ownsRow w.heap.size 3 1 u6 tk.length (tk.map (Value.int .i64)) ∧ Hid (Po.Known last ls bs tk) ∧ Hid (Below w.heap.size w wr) ∧ bs.length ≤ k + 1 ∧ tk.length ≤ k)
    (fun _ _ i _ => n - (intOf i).toNat)
  case atStart =>
    have ga := World.grownBy_alloc w1 (.cells #[.int .i64 0, .int .i64 0, .int .i64 0, .int .i64 0, .string ⟨#[]⟩] 29) none
    exact ⟨0, 0, _, [], [s0], [], Nat.zero_le _, rfl, HP1.out.still ga, ⟨rfl, .inr ⟨w1.heap.size, 1, _, rfl, HB1.out.size, heap_alloc_new _ _, by simp, by decide, rfl, rfl⟩⟩, World.ownsRow_nil _ _ _ _, Po.known_start, HB1.out.trans (below_none ga HB1.out.size), by simp, by simp⟩
  case round =>
    obtain ⟨k, last, v, ls, bs, tk, hkn, rfl, HP, hr5, hr6, HKE, HB, hbk, htk⟩ := hrel
    by_cases hlt : k < n
    · obtain ⟨c0, c1, c2, c3, c4⟩ := (HX.out k hlt).kept HB.out hB
      generalize l.getD k s0 = st at c0 c1 c2 c3 c4
      obtain ⟨x0, x1, x2, x3, x4⟩ := st
      simp only at c0 c1 c2 c3 c4
      have hlen0 := HKE.out.len
      have HLL : Hid (last < 4611686018427387904) := by have : last < 4611686018427387904 := by omega
                                                        exact this
      rcases hr5.2 with ⟨_, h0⟩ | ⟨g5, cp5, cur5, rfl, hbg5, hgb5, hnc5, hcm5, _⟩
      · have := HP.out.good.zero
        omega
      have ga := World.grownBy_alloc wr (.cells #[.int .i64 x0, .int .i64 x1, .int .i64 x2, .int .i64 x3, .string x4] 29) none
      have HPb : Hid (PostAt (wr.alloc (.cells #[.int .i64 x0, .int .i64 x1, .int .i64 x2, .int .i64 x3, .string x4] 29)) s 4 last v ls) := HP.out.still ga
      have HBb : Hid (Below w.heap.size w (wr.alloc (.cells #[.int .i64 x0, .int .i64 x1, .int .i64 x2, .int .i64 x3, .string x4] 29))) := HB.out.trans (below_none ga HB.out.size)
      have HBX : Hid ((wr.alloc (.cells #[.int .i64 x0, .int .i64 x1, .int .i64 x2, .int .i64 x3, .string x4] 29)).heap[wr.heap.size]? = some (.cells #[.int .i64 x0, .int .i64 x1, .int .i64 x2, .int .i64 x3, .string x4] 29 (0, 0))) := heap_alloc_new _ _
      unfold maxLen at hcm5
      clear ga hgb5 hlen0
      by_cases hw : x0 = 0
      · subst hw
        go_wp2_with fail
        refine (send_any x1 x2 x4 _ HPb.out HLL.out).mono ?_
        rintro e w3 ⟨v3, rfl, hp3, ht3, hm3⟩
        have HB3 : Hid (Below w.heap.size w w3) := HBb.out.trans (HPb.out.below ht3 HS.out)
        have hr5' := row_turned HPb.out ht3 (hr5.alloc (.cells #[.int .i64 0, .int .i64 x1, .int .i64 x2, .int .i64 x3, .string x4] 29)) (by decide) (by decide)
        have hr6' := row_turned HPb.out ht3 (hr6.alloc (.cells #[.int .i64 0, .int .i64 x1, .int .i64 x2, .int .i64 x3, .string x4] 29)) (by decide) (by decide)
        obtain ⟨b0, b1, b2, b3, b4⟩ := five_of (block_turned HPb.out ht3 HBX.out (by decide) (by decide))
        by_cases he : Po.sendErr 4 ls x1 x2 x4 = 0
        · have eN : Po.sendNum 4 last ls x1 x2 x4 = (bs.length : Int) := (if_pos he).trans HKE.out.len.symm
          have eL : Po.sendLast 4 last ls x1 x2 x4 = last + 1 := if_pos he
          have eT : Po.sendTo 4 last ls x1 x2 x4 = ls ++ [(last + 1, x1, x2, x4)] := if_pos he
          rw [eL, eT] at hp3
          rw [eN, he]
          have HKN : Hid (Po.Known (last + 1) (ls ++ [(last + 1, x1, x2, x4)]) (bs ++ [(0, x1, x2, x3, x4)]) tk) := HKE.out.add HP.out.good rfl rfl rfl
          clear eN eL eT he ht3 hm3
          go_wp2_with (at_builtin; refine wpList_append_own _ rfl _ _ 22 rfl w.heap.size 29 i5 (.agg #[.int .i64 0, .int .i64 0, .int .i64 0, .int .i64 0, .string ⟨#[]⟩]) 5 48 Try.underlying22 hi5 hz50 hz51 hz52 rfl (by decide) _ _ _ rfl (hr5'.alloc _) ⟨w3.heap.size, 0, none⟩ 1 1 [.int .i64 0, .int .i64 x1, .int .i64 x2, .int .i64 x3, .string x4] rfl rfl ?c1 ?c2 ?c3 ?c4 ?c5 ?_)
          case c1 => exact five_new _ _ rfl _ _ _ _ _ _
          case c2 => exact one5 0 x1 x2 x3 x4
          case c3 => unfold maxLen; omega
          case c4 => omega
          case c5 => have := HB3.out.size; simp; omega
          intro v7 w7 hown7 hg7 _
          have hgA := grown_trans (World.grownBy_alloc w3 (.cells #[.int .i64 0, .int .i64 x1, .int .i64 x2, .int .i64 x3, .string x4] 29) (Value.slice (some ⟨g5, 0, none⟩) bs.length cp5).ownBlock) hg7
          have HP7 : Hid (PostAt w7 s 4 (last + 1) v3 (ls ++ [(last + 1, x1, x2, x4)])) := hp3.kept_row hr5' hgA (by decide) (by decide)
          have HR6 : Hid (w7.ownsRow w.heap.size 3 1 u6 tk.length (tk.map (Value.int .i64))) := hr6'.kept hgA (rows_ne hr6' hr5' (by decide))
          have HR5 : Hid (w7.ownsRow w.heap.size 29 5 v7 (bs ++ [(0, x1, x2, x3, x4)]).length (cells5 (bs ++ [(0, x1, x2, x3, x4)]))) := by
            have : w7.ownsRow w.heap.size 29 5 v7 (bs ++ [(0, x1, x2, x3, x4)]).length (cells5 (bs ++ [(0, x1, x2, x3, x4)])) := by rw [cells5_snoc]; simpa using hown7
            exact this
          have HB7 : Hid (Below w.heap.size w w7) := HB3.out.grown hgA HB3.out.size (fun j hj => (hr5'.lt j hj).1)
          clear hown7 hg7 hgA hr5' hr6' hp3
          go_wp2
          go_roundw
          case rel => exact ⟨k + 1, last + 1, v3, ls ++ [(last + 1, x1, x2, x4)], bs ++ [(0, x1, x2, x3, x4)], tk, by omega, by go_num, HP7, HR5.out, HR6.out, HKN, HB7, by simp; omega, by omega⟩
          case measure => simp [intOf]; omega
        · have eL : Po.sendLast 4 last ls x1 x2 x4 = last := if_neg he
          have eT : Po.sendTo 4 last ls x1 x2 x4 = ls := if_neg he
          rw [eL, eT] at hp3
          generalize Po.sendErr 4 ls x1 x2 x4 = ee at he ⊢
          generalize Po.sendNum 4 last ls x1 x2 x4 = nn
          clear eL eT ht3 hm3
          go_wp2
          go_roundw
          case rel => exact ⟨k + 1, last, v3, ls, bs, tk, by omega, by go_num, hp3, hr5', hr6', HKE, HB3, by omega, by omega⟩
          case measure => simp [intOf]; omega
      by_cases hw1 : x0 = 1
      · subst hw1
        go_wp2_with fail
        refine (send_any x1 x2 x4 _ HPb.out HLL.out).mono ?_
        rintro e w3 ⟨v3, rfl, hp3, ht3, hm3⟩
        have HB3 : Hid (Below w.heap.size w w3) := HBb.out.trans (HPb.out.below ht3 HS.out)
        have hr5' := row_turned HPb.out ht3 (hr5.alloc (.cells #[.int .i64 1, .int .i64 x1, .int .i64 x2, .int .i64 x3, .string x4] 29)) (by decide) (by decide)
        have hr6' := row_turned HPb.out ht3 (hr6.alloc (.cells #[.int .i64 1, .int .i64 x1, .int .i64 x2, .int .i64 x3, .string x4] 29)) (by decide) (by decide)
        obtain ⟨b0, b1, b2, b3, b4⟩ := five_of (block_turned HPb.out ht3 HBX.out (by decide) (by decide))
        by_cases he : Po.sendErr 4 ls x1 x2 x4 = 0
        · have eN : Po.sendNum 4 last ls x1 x2 x4 = (bs.length : Int) := (if_pos he).trans HKE.out.len.symm
          have eL : Po.sendLast 4 last ls x1 x2 x4 = last + 1 := if_pos he
          have eT : Po.sendTo 4 last ls x1 x2 x4 = ls ++ [(last + 1, x1, x2, x4)] := if_pos he
          rw [eL, eT] at hp3
          rw [eN, he]
          have HKN : Hid (Po.Known (last + 1) (ls ++ [(last + 1, x1, x2, x4)]) (bs ++ [(1, x1, x2, x3, x4)]) tk) := HKE.out.add HP.out.good rfl rfl rfl
          clear eN eL eT he ht3 hm3
          go_wp2_with (at_builtin; refine wpList_append_own _ rfl _ _ 22 rfl w.heap.size 29 i5 (.agg #[.int .i64 0, .int .i64 0, .int .i64 0, .int .i64 0, .string ⟨#[]⟩]) 5 48 Try.underlying22 hi5 hz50 hz51 hz52 rfl (by decide) _ _ _ rfl (hr5'.alloc _) ⟨w3.heap.size, 0, none⟩ 1 1 [.int .i64 1, .int .i64 x1, .int .i64 x2, .int .i64 x3, .string x4] rfl rfl ?c1 ?c2 ?c3 ?c4 ?c5 ?_)
          case c1 => exact five_new _ _ rfl _ _ _ _ _ _
          case c2 => exact one5 1 x1 x2 x3 x4
          case c3 => unfold maxLen; omega
          case c4 => omega
          case c5 => have := HB3.out.size; simp; omega
          intro v7 w7 hown7 hg7 _
          have hgA := grown_trans (World.grownBy_alloc w3 (.cells #[.int .i64 1, .int .i64 x1, .int .i64 x2, .int .i64 x3, .string x4] 29) (Value.slice (some ⟨g5, 0, none⟩) bs.length cp5).ownBlock) hg7
          have HP7 : Hid (PostAt w7 s 4 (last + 1) v3 (ls ++ [(last + 1, x1, x2, x4)])) := hp3.kept_row hr5' hgA (by decide) (by decide)
          have HR6 : Hid (w7.ownsRow w.heap.size 3 1 u6 tk.length (tk.map (Value.int .i64))) := hr6'.kept hgA (rows_ne hr6' hr5' (by decide))
          have HR5 : Hid (w7.ownsRow w.heap.size 29 5 v7 (bs ++ [(1, x1, x2, x3, x4)]).length (cells5 (bs ++ [(1, x1, x2, x3, x4)]))) := by
            have : w7.ownsRow w.heap.size 29 5 v7 (bs ++ [(1, x1, x2, x3, x4)]).length (cells5 (bs ++ [(1, x1, x2, x3, x4)])) := by rw [cells5_snoc]; simpa using hown7
            exact this
          have HB7 : Hid (Below w.heap.size w w7) := HB3.out.grown hgA HB3.out.size (fun j hj => (hr5'.lt j hj).1)
          clear hown7 hg7 hgA hr5' hr6' hp3
          go_wp2
          go_roundw
          case rel => exact ⟨k + 1, last + 1, v3, ls ++ [(last + 1, x1, x2, x4)], bs ++ [(1, x1, x2, x3, x4)], tk, by omega, by go_num, HP7, HR5.out, HR6.out, HKN, HB7, by simp; omega, by omega⟩
          case measure => simp [intOf]; omega
        · have eL : Po.sendLast 4 last ls x1 x2 x4 = last := if_neg he
          have eT : Po.sendTo 4 last ls x1 x2 x4 = ls := if_neg he
          rw [eL, eT] at hp3
          generalize Po.sendErr 4 ls x1 x2 x4 = ee at he ⊢
          generalize Po.sendNum 4 last ls x1 x2 x4 = nn
          clear eL eT ht3 hm3
          go_wp2
          go_roundw
          case rel => exact ⟨k + 1, last, v3, ls, bs, tk, by omega, by go_num, hp3, hr5', hr6', HKE, HB3, by omega, by omega⟩
          case measure => simp [intOf]; omega
      by_cases hw4 : x0 = 4
      · subst hw4
        cases hgt : Po.get ls x3 with
        | none =>
          have HN : Hid (Po.get ls x3 = none) := hgt
          clear hgt
          go_wp2_with fail
          refine (again_none x3 _ HPb.out HN.out).mono ?_
          rintro e w3 ⟨rfl, hg3⟩
          have hp3 := HPb.out.still hg3
          have ht3 : Turns (wr.alloc (.cells #[.int .i64 4, .int .i64 x1, .int .i64 x2, .int .i64 x3, .string x4] 29)) w3 s v := .of_grown hg3
          have HB3 : Hid (Below w.heap.size w w3) := HBb.out.trans (HPb.out.below ht3 HS.out)
          have hr5' := row_turned HPb.out ht3 (hr5.alloc (.cells #[.int .i64 4, .int .i64 x1, .int .i64 x2, .int .i64 x3, .string x4] 29)) (by decide) (by decide)
          have hr6' := row_turned HPb.out ht3 (hr6.alloc (.cells #[.int .i64 4, .int .i64 x1, .int .i64 x2, .int .i64 x3, .string x4] 29)) (by decide) (by decide)
          obtain ⟨b0, b1, b2, b3, b4⟩ := five_of (block_turned HPb.out ht3 HBX.out (by decide) (by decide))
          clear hg3 ht3
          go_wp2
          go_roundw
          case rel => exact ⟨k + 1, last, v, ls, bs, tk, by omega, by go_num, hp3, hr5', hr6', HKE, HB3, by omega, by omega⟩
          case measure => simp [intOf]; omega
        | some y =>
          have HN : Hid (Po.get ls x3 = some y) := hgt
          obtain ⟨hym, hyn⟩ := Po.get_mem hgt
          have hyi := HP.out.good.inside y hym
          have hsame := HKE.out.same y hym
          clear hgt
          by_cases hfull : 2048 ≤ ls.length
          · have HF : Hid (2048 ≤ ls.length) := hfull
            clear hfull hyi hsame
            go_wp2_with fail
            refine (again_full x3 _ HPb.out HN.out HF.out).mono ?_
            rintro e w3 ⟨rfl, hg3⟩
            have hp3 := HPb.out.still hg3
            have ht3 : Turns (wr.alloc (.cells #[.int .i64 4, .int .i64 x1, .int .i64 x2, .int .i64 x3, .string x4] 29)) w3 s v := .of_grown hg3
            have HB3 : Hid (Below w.heap.size w w3) := HBb.out.trans (HPb.out.below ht3 HS.out)
            have hr5' := row_turned HPb.out ht3 (hr5.alloc (.cells #[.int .i64 4, .int .i64 x1, .int .i64 x2, .int .i64 x3, .string x4] 29)) (by decide) (by decide)
            have hr6' := row_turned HPb.out ht3 (hr6.alloc (.cells #[.int .i64 4, .int .i64 x1, .int .i64 x2, .int .i64 x3, .string x4] 29)) (by decide) (by decide)
            obtain ⟨b0, b1, b2, b3, b4⟩ := five_of (block_turned HPb.out ht3 HBX.out (by decide) (by decide))
            clear hg3 ht3
            go_wp2
            go_roundw
            case rel => exact ⟨k + 1, last, v, ls, bs, tk, by omega, by go_num, hp3, hr5', hr6', HKE, HB3, by omega, by omega⟩
            case measure => simp [intOf]; omega
          · have HF : Hid (ls.length < 2048) := by have : ls.length < 2048 := by omega
                                                   exact this
            rw [hyn] at hyi hsame
            obtain ⟨m, rfl⟩ : ∃ m : Nat, x3 = (m : Int) := ⟨x3.toNat, by omega⟩
            have hlen := HKE.out.len
            have hmb : m < bs.length := by omega
            rw [Int.toNat_natCast] at hsame
            obtain ⟨y0, y1, y2, y3⟩ := y
            simp only at hsame hyn HN
            clear hfull
            go_wp2_with fail
            refine (again_ok (m : Int) _ HPb.out HLL.out HN.out HF.out).mono ?_
            rintro e w3 ⟨v3, rfl, hp3, ht3, hm3⟩
            have HB3 : Hid (Below w.heap.size w w3) := HBb.out.trans (HPb.out.below ht3 HS.out)
            have hr5' := row_turned HPb.out ht3 (hr5.alloc (.cells #[.int .i64 4, .int .i64 x1, .int .i64 x2, .int .i64 (m : Int), .string x4] 29)) (by decide) (by decide)
            have hr6' := row_turned HPb.out ht3 (hr6.alloc (.cells #[.int .i64 4, .int .i64 x1, .int .i64 x2, .int .i64 (m : Int), .string x4] 29)) (by decide) (by decide)
            obtain ⟨b0, b1, b2, b3, b4⟩ := five_of (block_turned HPb.out ht3 HBX.out (by decide) (by decide))
            obtain ⟨q0, q1, q2, q3, q4⟩ := row5_at hr5' hmb
            generalize hbm : bs.getD m s0 = z at hsame q0 q1 q2 q3 q4
            obtain ⟨z0, z1, z2, z3, z4⟩ := z
            simp only at hsame q0 q1 q2 q3 q4
            obtain ⟨rfl, rfl, rfl⟩ := hsame
            have HKN : Hid (Po.Known (last + 1) (ls ++ [(last + 1, z1, z2, z4)]) (bs ++ [(z0, z1, z2, z3, z4)]) tk) := HKE.out.add HP.out.good rfl rfl rfl
            have eL : last + 1 = (bs.length : Int) := hlen.symm
            have h1 : ¬ ((m : Int) < 1) := by omega
            have h2 : ¬ ((bs.length : Int) ≤ (m : Int)) := by omega
            have hmI : (m : Int) < (bs.length : Int) := by omega
            clear ht3 hm3 hbm hyi hym hyn hlen
            rw [eL]
            clear eL
            go_wp2_with (at_builtin; refine wpList_append_own _ rfl _ _ 22 rfl w.heap.size 29 i5 (.agg #[.int .i64 0, .int .i64 0, .int .i64 0, .int .i64 0, .string ⟨#[]⟩]) 5 48 Try.underlying22 hi5 hz50 hz51 hz52 rfl (by decide) _ _ _ rfl (hr5'.alloc _) ⟨w3.heap.size, 0, none⟩ 1 1 [.int .i64 z0, .int .i64 z1, .int .i64 z2, .int .i64 z3, .string z4] rfl rfl ?c1 ?c2 ?c3 ?c4 ?c5 ?_)
            case c1 => exact five_new _ _ rfl _ _ _ _ _ _
            case c2 => exact one5 z0 z1 z2 z3 z4
            case c3 => unfold maxLen; omega
            case c4 => omega
            case c5 => have := HB3.out.size; simp; omega
            intro v7 w7 hown7 hg7 _
            have hgA := grown_trans (World.grownBy_alloc w3 (.cells #[.int .i64 z0, .int .i64 z1, .int .i64 z2, .int .i64 z3, .string z4] 29) (Value.slice (some ⟨g5, 0, none⟩) bs.length cp5).ownBlock) hg7
            have HP7 : Hid (PostAt w7 s 4 (last + 1) v3 (ls ++ [(last + 1, z1, z2, z4)])) := hp3.kept_row hr5' hgA (by decide) (by decide)
            have HR6 : Hid (w7.ownsRow w.heap.size 3 1 u6 tk.length (tk.map (Value.int .i64))) := hr6'.kept hgA (rows_ne hr6' hr5' (by decide))
            have HR5 : Hid (w7.ownsRow w.heap.size 29 5 v7 (bs ++ [(z0, z1, z2, z3, z4)]).length (cells5 (bs ++ [(z0, z1, z2, z3, z4)]))) := by
              have : w7.ownsRow w.heap.size 29 5 v7 (bs ++ [(z0, z1, z2, z3, z4)]).length (cells5 (bs ++ [(z0, z1, z2, z3, z4)])) := by rw [cells5_snoc]; simpa using hown7
              exact this
            have HB7 : Hid (Below w.heap.size w w7) := HB3.out.grown hgA HB3.out.size (fun j hj => (hr5'.lt j hj).1)
            clear hown7 hg7 hgA hr5' hr6' hp3
            go_wp2
            go_roundw
            case rel => exact ⟨k + 1, last + 1, v3, ls ++ [(last + 1, z1, z2, z4)], bs ++ [(z0, z1, z2, z3, z4)], tk, by omega, by go_num, HP7, HR5.out, HR6.out, HKN, HB7, by simp; omega, by omega⟩
            case measure => simp [intOf]; omega
      cases hgt : Po.get ls x3 with
      | none =>
        have HN : Hid (Po.get ls x3 = none) := hgt
        clear hgt
        go_wp2_with fail
        refine (take_none x3 _ HPb.out HN.out).mono ?_
        rintro e w3 ⟨rfl, hg3⟩
        have hp3 := HPb.out.still hg3
        have ht3 : Turns (wr.alloc (.cells #[.int .i64 x0, .int .i64 x1, .int .i64 x2, .int .i64 x3, .string x4] 29)) w3 s v := .of_grown hg3
        have HB3 : Hid (Below w.heap.size w w3) := HBb.out.trans (HPb.out.below ht3 HS.out)
        have hr5' := row_turned HPb.out ht3 (hr5.alloc (.cells #[.int .i64 x0, .int .i64 x1, .int .i64 x2, .int .i64 x3, .string x4] 29)) (by decide) (by decide)
        have hr6' := row_turned HPb.out ht3 (hr6.alloc (.cells #[.int .i64 x0, .int .i64 x1, .int .i64 x2, .int .i64 x3, .string x4] 29)) (by decide) (by decide)
        obtain ⟨b0, b1, b2, b3, b4⟩ := five_of (block_turned HPb.out ht3 HBX.out (by decide) (by decide))
        clear hg3 ht3
        unfold letter
        simp only
        go_wp2
        go_roundw
        case rel => exact ⟨k + 1, last, v, ls, bs, tk, by omega, by go_num, hp3.still (World.grownBy_alloc _ _ _), hr5'.alloc _, hr6'.alloc _, HKE, HB3.out.alloc HB3.out.size _, by omega, by omega⟩
        case measure => simp [intOf]; omega
      | some y =>
        have HN : Hid (Po.get ls x3 = some y) := hgt
        obtain ⟨hym, hyn⟩ := Po.get_mem hgt
        have hyi := HP.out.good.inside y hym
        have hsame := HKE.out.same y hym
        rw [hyn] at hyi hsame
        have HNT : Hid (∀ n ∈ tk, n ≠ x3) := fun n hn e => by
          have := (HKE.out.gone n hn).1
          rw [e, hgt] at this
          cases this
        have HKN : Hid (Po.Known last (Po.drop ls x3) bs (tk ++ [x3])) := HKE.out.take hyi.2
        clear hgt
        obtain ⟨m, rfl⟩ : ∃ m : Nat, x3 = (m : Int) := ⟨x3.toNat, by omega⟩
        have hlen := HKE.out.len
        have hmb : m < bs.length := by omega
        rw [Int.toNat_natCast] at hsame
        obtain ⟨y0, y1, y2, y3⟩ := y
        simp only at hsame hyn HN
        subst hyn
        go_wp2_with fail
        refine (take_some (m : Int) _ HPb.out HN.out).mono ?_
        rintro e w3 ⟨v3, rfl, hp3, ht3, hm3⟩
        have HB3 : Hid (Below w.heap.size w w3) := HBb.out.trans (HPb.out.below ht3 HS.out)
        have hr5' := row_turned HPb.out ht3 (hr5.alloc (.cells #[.int .i64 x0, .int .i64 x1, .int .i64 x2, .int .i64 (m : Int), .string x4] 29)) (by decide) (by decide)
        have hr6' := row_turned HPb.out ht3 (hr6.alloc (.cells #[.int .i64 x0, .int .i64 x1, .int .i64 x2, .int .i64 (m : Int), .string x4] 29)) (by decide) (by decide)
        obtain ⟨b0, b1, b2, b3, b4⟩ := five_of (block_turned HPb.out ht3 HBX.out (by decide) (by decide))
        obtain ⟨q0, q1, q2, q3, q4⟩ := row5_at hr5' hmb
        have hbl3 : wr.heap.size < w3.heap.size := (Array.getElem?_eq_some_iff.1 (block_turned HPb.out ht3 HBX.out (by decide) (by decide))).1
        have hg53 : g5 < w3.heap.size := (hr5'.lt g5 rfl).2
        have hbl31 : wr.heap.size < w3.heap.size + 1 := by omega
        have hg531 : g5 < w3.heap.size + 1 := by omega
        generalize hbm : bs.getD m s0 = z at hsame q0 q1 q2 q3 q4
        obtain ⟨z0, z1, z2, z3, z4⟩ := z
        simp only at hsame q0 q1 q2 q3 q4
        obtain ⟨rfl, rfl, rfl⟩ := hsame
        have h1 : ¬ ((m : Int) < 1) := by omega
        have h2 : ¬ ((bs.length : Int) ≤ (m : Int)) := by omega
        have hmI : (m : Int) < (bs.length : Int) := by omega
        clear ht3 hm3 hbm hyi hym hlen
        unfold letter
        simp only
        rcases hr6'.2 with ⟨rfl, h0⟩ | ⟨g6, cp6, cur6, rfl, hbg6, hgb6, hnc6, hcm6, _⟩
        · have e0 : tk = [] := List.eq_nil_of_length_eq_zero h0
          subst e0
          go_wp2
          refine wp_loop_rounds 1 ?_
          rw [rounds_succ]
          go_wp2_with (at_builtin; refine wpList_append_own _ rfl _ _ 30 rfl w.heap.size 3 i0 (.int .i64 0) 1 8 Try.underlying30 hi hz0 hz1 hz2 rfl (by decide) _ _ _ rfl (((hr6'.alloc _).alloc _).alloc _) ⟨w3.heap.size + 1 + 1, 0, none⟩ 1 1 [.int .i64 (m : Int)] rfl rfl ?c1 ?c2 ?c3 ?c4 ?c5 ?_)
          case c1 => exact one_new_at _ _ (by simp) _ _
          case c2 => exact ints_oneCell .i64 [(m : Int)]
          case c3 => unfold maxLen; omega
          case c4 => omega
          case c5 => have := HB3.out.size; simp; omega
          intro v7 w7 hown7 hg7 _
          have gA := World.grownBy_alloc w3 (.cells #[.int .i64 (m : Int), .int .i64 z1, .int .i64 z2, .string z4] 35) none
          have gB := World.grownBy_alloc (w3.alloc (.cells #[.int .i64 (m : Int), .int .i64 z1, .int .i64 z2, .string z4] 35)) (.cells #[.int .i64 z0, .int .i64 z1, .int .i64 z2, .int .i64 z3, .string z4] 29) none
          have gC := World.grownBy_alloc ((w3.alloc (.cells #[.int .i64 (m : Int), .int .i64 z1, .int .i64 z2, .string z4] 35)).alloc (.cells #[.int .i64 z0, .int .i64 z1, .int .i64 z2, .int .i64 z3, .string z4] 29)) (.cells #[.int .i64 (m : Int)] 3) none
          have hA : (((w3.alloc (.cells #[.int .i64 (m : Int), .int .i64 z1, .int .i64 z2, .string z4] 35)).alloc (.cells #[.int .i64 z0, .int .i64 z1, .int .i64 z2, .int .i64 z3, .string z4] 29)).alloc (.cells #[.int .i64 (m : Int)] 3)).heap[w3.heap.size]? = some (.cells #[.int .i64 (m : Int), .int .i64 z1, .int .i64 z2, .string z4] 35) := (gC.block _ (by simp; omega) (by simp)).trans ((gB.block _ (by simp) (by simp)).trans (heap_alloc_new _ _))
          have hBn := heap_alloc_new (w3.alloc (.cells #[.int .i64 (m : Int), .int .i64 z1, .int .i64 z2, .string z4] 35)) (.cells #[.int .i64 z0, .int .i64 z1, .int .i64 z2, .int .i64 z3, .string z4] 29)
          rw [World.size_alloc] at hBn
          have hBB : (((w3.alloc (.cells #[.int .i64 (m : Int), .int .i64 z1, .int .i64 z2, .string z4] 35)).alloc (.cells #[.int .i64 z0, .int .i64 z1, .int .i64 z2, .int .i64 z3, .string z4] 29)).alloc (.cells #[.int .i64 (m : Int)] 3)).heap[w3.heap.size + 1]? = some (.cells #[.int .i64 z0, .int .i64 z1, .int .i64 z2, .int .i64 z3, .string z4] 29) := (gC.block _ (by simp) (by simp)).trans hBn
          have hr6c := ((hr6'.alloc (.cells #[.int .i64 (m : Int), .int .i64 z1, .int .i64 z2, .string z4] 35)).alloc (.cells #[.int .i64 z0, .int .i64 z1, .int .i64 z2, .int .i64 z3, .string z4] 29)).alloc (.cells #[.int .i64 (m : Int)] 3)
          obtain ⟨⟨_, a1, a2, a3⟩, _⟩ := four_of ((hg7.block _ (by simp; omega) (block_ne hr6c hA (by decide))).trans hA)
          obtain ⟨_, e1, e2, _, e4⟩ := five_of ((hg7.block _ (by simp) (block_ne hr6c hBB (by decide))).trans hBB)
          have hgc := grown_trans gA (grown_trans gB gC)
          have HP7 : Hid (PostAt w7 s 4 last v3 (Po.drop ls (m : Int))) := (hp3.still hgc).kept_row hr6c hg7 (by decide) (by decide)
          have HR5 : Hid (w7.ownsRow w.heap.size 29 5 (.slice (some ⟨g5, 0, none⟩) bs.length cp5) bs.length (cells5 bs)) := (((hr5'.alloc (.cells #[.int .i64 (m : Int), .int .i64 z1, .int .i64 z2, .string z4] 35)).alloc (.cells #[.int .i64 z0, .int .i64 z1, .int .i64 z2, .int .i64 z3, .string z4] 29)).alloc (.cells #[.int .i64 (m : Int)] 3)).kept hg7 (rows_ne (((hr5'.alloc (.cells #[.int .i64 (m : Int), .int .i64 z1, .int .i64 z2, .string z4] 35)).alloc (.cells #[.int .i64 z0, .int .i64 z1, .int .i64 z2, .int .i64 z3, .string z4] 29)).alloc (.cells #[.int .i64 (m : Int)] 3)) hr6c (by decide))
          have HR6 : Hid (w7.ownsRow w.heap.size 3 1 v7 ([] ++ [(m : Int)]).length (([] ++ [(m : Int)]).map (Value.int .i64))) := by
            have : w7.ownsRow w.heap.size 3 1 v7 ([] ++ [(m : Int)]).length (([] ++ [(m : Int)]).map (Value.int .i64)) := by simpa using hown7
            exact this
          have HB7 : Hid (Below w.heap.size w w7) := (HB3.out.trans (below_none hgc HB3.out.size)).grown hg7 (by have := HB3.out.size; simp; omega) (fun j hj => (hr6c.lt j hj).1)
          clear hown7 hg7 hgc gA gB gC hA hBn hBB hr6c hr5' hr6' hp3
          go_wp2
          go_roundw
          case rel => exact ⟨k + 1, last, v3, Po.drop ls (m : Int), bs, [] ++ [(m : Int)], by omega, by go_num, HP7, HR5.out, HR6.out, HKN, HB7, by omega, by first | (simp; done) | (simp; omega)⟩
          case measure => simp [intOf]; omega
        · have hcells : Hid (∀ j, j < tk.length → w3.cell? ⟨g6, j, none⟩ = some (.int .i64 (tk.getD j 0))) := fun j hj => by
            have := hr6'.cells (g := g6) rfl j (.int .i64 (tk.getD j 0)) (by simp [List.getD, hj])
            rw [Go.WideShapes.add_plain, Nat.zero_add] at this
            exact this
          have hgl6 : g6 < w3.heap.size := (hr6'.lt g6 rfl).2
          unfold maxLen at hcm6
          clear hgb6
          go_wp2
          go_loopw [85] (fun i wq => ∃ j : Nat, j ≤ tk.length ∧ i = .int .i64 j ∧ wq = (w3.alloc (.cells #[.int .i64 (m : Int), .int .i64 z1, .int .i64 z2, .string z4] 35)).alloc (.cells #[.int .i64 z0, .int .i64 z1, .int .i64 z2, .int .i64 z3, .string z4] 29)) (fun i _ => tk.length - (intOf i).toNat)
          case atStart => exact ⟨0, Nat.zero_le _, rfl, rfl⟩
          case round =>
            obtain ⟨j, hjn, rfl, rfl⟩ := hrel
            by_cases hjl : j < tk.length
            · have hcj := hcells.out j hjl
              have hne : ¬ (tk.getD j 0 = (m : Int)) := HNT.out _ (by simp [List.getD, hjl])
              generalize tk.getD j 0 = y at hcj hne
              have hjI : (j : Int) < (tk.length : Int) := by omega
              have hg61 : g6 < w3.heap.size + 1 := by omega
              go_wp2
              go_roundw
              case rel => exact ⟨j + 1, by omega, by go_num, by first | rfl | trivial⟩
              case measure => simp [intOf]; omega
            · obtain rfl : j = tk.length := by omega
              clear hjn hjl
              go_wp2_with (at_builtin; refine wpList_append_own _ rfl _ _ 30 rfl w.heap.size 3 i0 (.int .i64 0) 1 8 Try.underlying30 hi hz0 hz1 hz2 rfl (by decide) _ _ _ rfl (((hr6'.alloc _).alloc _).alloc _) ⟨w3.heap.size + 1 + 1, 0, none⟩ 1 1 [.int .i64 (m : Int)] rfl rfl ?c1 ?c2 ?c3 ?c4 ?c5 ?_)
              case c1 => exact one_new_at _ _ (by simp) _ _
              case c2 => exact ints_oneCell .i64 [(m : Int)]
              case c3 => unfold maxLen; omega
              case c4 => omega
              case c5 => have := HB3.out.size; simp; omega
              intro v7 w7 hown7 hg7 _
              have gA := World.grownBy_alloc w3 (.cells #[.int .i64 (m : Int), .int .i64 z1, .int .i64 z2, .string z4] 35) none
              have gB := World.grownBy_alloc (w3.alloc (.cells #[.int .i64 (m : Int), .int .i64 z1, .int .i64 z2, .string z4] 35)) (.cells #[.int .i64 z0, .int .i64 z1, .int .i64 z2, .int .i64 z3, .string z4] 29) none
              have gC := World.grownBy_alloc ((w3.alloc (.cells #[.int .i64 (m : Int), .int .i64 z1, .int .i64 z2, .string z4] 35)).alloc (.cells #[.int .i64 z0, .int .i64 z1, .int .i64 z2, .int .i64 z3, .string z4] 29)) (.cells #[.int .i64 (m : Int)] 3) none
              have hA : (((w3.alloc (.cells #[.int .i64 (m : Int), .int .i64 z1, .int .i64 z2, .string z4] 35)).alloc (.cells #[.int .i64 z0, .int .i64 z1, .int .i64 z2, .int .i64 z3, .string z4] 29)).alloc (.cells #[.int .i64 (m : Int)] 3)).heap[w3.heap.size]? = some (.cells #[.int .i64 (m : Int), .int .i64 z1, .int .i64 z2, .string z4] 35) := (gC.block _ (by simp; omega) (by simp)).trans ((gB.block _ (by simp) (by simp)).trans (heap_alloc_new _ _))
              have hBn := heap_alloc_new (w3.alloc (.cells #[.int .i64 (m : Int), .int .i64 z1, .int .i64 z2, .string z4] 35)) (.cells #[.int .i64 z0, .int .i64 z1, .int .i64 z2, .int .i64 z3, .string z4] 29)
              rw [World.size_alloc] at hBn
              have hBB : (((w3.alloc (.cells #[.int .i64 (m : Int), .int .i64 z1, .int .i64 z2, .string z4] 35)).alloc (.cells #[.int .i64 z0, .int .i64 z1, .int .i64 z2, .int .i64 z3, .string z4] 29)).alloc (.cells #[.int .i64 (m : Int)] 3)).heap[w3.heap.size + 1]? = some (.cells #[.int .i64 z0, .int .i64 z1, .int .i64 z2, .int .i64 z3, .string z4] 29) := (gC.block _ (by simp) (by simp)).trans hBn
              have hr6c := ((hr6'.alloc (.cells #[.int .i64 (m : Int), .int .i64 z1, .int .i64 z2, .string z4] 35)).alloc (.cells #[.int .i64 z0, .int .i64 z1, .int .i64 z2, .int .i64 z3, .string z4] 29)).alloc (.cells #[.int .i64 (m : Int)] 3)
              obtain ⟨⟨_, a1, a2, a3⟩, _⟩ := four_of ((hg7.block _ (by simp; omega) (block_ne hr6c hA (by decide))).trans hA)
              obtain ⟨_, e1, e2, _, e4⟩ := five_of ((hg7.block _ (by simp) (block_ne hr6c hBB (by decide))).trans hBB)
              have hgc := grown_trans gA (grown_trans gB gC)
              have HP7 : Hid (PostAt w7 s 4 last v3 (Po.drop ls (m : Int))) := (hp3.still hgc).kept_row hr6c hg7 (by decide) (by decide)
              have HR5 : Hid (w7.ownsRow w.heap.size 29 5 (.slice (some ⟨g5, 0, none⟩) bs.length cp5) bs.length (cells5 bs)) := (((hr5'.alloc (.cells #[.int .i64 (m : Int), .int .i64 z1, .int .i64 z2, .string z4] 35)).alloc (.cells #[.int .i64 z0, .int .i64 z1, .int .i64 z2, .int .i64 z3, .string z4] 29)).alloc (.cells #[.int .i64 (m : Int)] 3)).kept hg7 (rows_ne (((hr5'.alloc (.cells #[.int .i64 (m : Int), .int .i64 z1, .int .i64 z2, .string z4] 35)).alloc (.cells #[.int .i64 z0, .int .i64 z1, .int .i64 z2, .int .i64 z3, .string z4] 29)).alloc (.cells #[.int .i64 (m : Int)] 3)) hr6c (by decide))
              have HR6 : Hid (w7.ownsRow w.heap.size 3 1 v7 (tk ++ [(m : Int)]).length ((tk ++ [(m : Int)]).map (Value.int .i64))) := by
                have : w7.ownsRow w.heap.size 3 1 v7 (tk ++ [(m : Int)]).length ((tk ++ [(m : Int)]).map (Value.int .i64)) := by simpa using hown7
                exact this
              have HB7 : Hid (Below w.heap.size w w7) := (HB3.out.trans (below_none hgc HB3.out.size)).grown hg7 (by have := HB3.out.size; simp; omega) (fun j hj => (hr6c.lt j hj).1)
              clear hown7 hg7 hgc gA gB gC hA hBn hBB hr6c hr5' hr6' hp3
              go_wp2
              go_roundw
              case rel => exact ⟨k + 1, last, v3, Po.drop ls (m : Int), bs, tk ++ [(m : Int)], by omega, by go_num, HP7, HR5.out, HR6.out, HKN, HB7, by omega, by first | (simp; done) | (simp; omega)⟩
              case measure => simp [intOf]; omega
    · obtain rfl : k = n := by omega
      clear hr5 hr6
      go_wp2_with fail
      refine (twice_any _).mono ?_
      rintro e w9 ⟨rfl, hg9⟩
      have HB9 : Hid (Below w.heap.size w w9) := HB.out.trans (below_none hg9 HB.out.size)
      clear hg9
      go_wp2
      go_ret
      exact ⟨rfl, HB9.out⟩

set_option maxHeartbeats 1000000 in
set_option maxRecDepth 100000 in
theorem once_none (ao : Option Addr) (cap : Nat) (w : World) : Calls Try.prog 3 #[.slice ao 0 cap] w fun e w' => e = .returned (.bool true) ∧ Below w.heap.size w w' := by
  go_enter Try.func3, Try.ntmps3
  go_wp2_with fail
  refine (new_ex _ (by decide) (by decide)).mono ?_
  rintro e w1 ⟨s, rfl, hs, hp1, hg1⟩
  have HB1 : Hid (Below w.heap.size w w1) := below_none hg1 (Nat.le_refl _)
  clear hs hp1 hg1
  go_wp2
  refine wp_loop_rounds 1 ?_
  rw [rounds_succ]
  go_wp2_with fail
  have ga := World.grownBy_alloc w1 (.cells #[.int .i64 0, .int .i64 0, .int .i64 0, .int .i64 0, .string ⟨#[]⟩] 29) none
  refine (twice_any _).mono ?_
  rintro e w9 ⟨rfl, hg9⟩
  have HB9 : Hid (Below w.heap.size w w9) := HB1.out.trans (below_none (grown_trans ga hg9) HB1.out.size)
  clear hg9 ga
  go_wp2
  go_ret
  exact ⟨rfl, HB9.out⟩
set_option maxHeartbeats 1000000 in
set_option maxRecDepth 100000 in
theorem once_long (p : Option Addr) (n cap : Nat) (w : World) (h : 300 < n) : Calls Try.prog 3 #[.slice p n cap] w fun e w' => e = .returned (.bool true) ∧ Below w.heap.size w w' := by
  have h' : (300 : Int) < (n : Int) := by omega
  go_enter Try.func3, Try.ntmps3
  go_wp2_with fail
  refine (new_ex _ (by decide) (by decide)).mono ?_
  rintro e w1 ⟨s, rfl, hs, hp1, hg1⟩
  have HB1 : Hid (Below w.heap.size w w1) := below_none hg1 (Nat.le_refl _)
  clear hs hp1 hg1
  go_wp2_with fail
  refine (twice_any _).mono ?_
  rintro e w9 ⟨rfl, hg9⟩
  have HB9 : Hid (Below w.heap.size w w9) := HB1.out.trans (below_none hg9 HB1.out.size)
  clear hg9
  go_wp2
  go_ret
  exact ⟨rfl, HB9.out⟩

theorem once_any (v : Value) (l : List St) (w : World) (hv : StepsAt w v l) : Calls Try.prog 3 #[v] w fun e w' => e = .returned (.bool true) ∧ Below w.heap.size w w' := by
  rcases hv with ⟨ao, cap, rfl, rfl⟩ | ⟨b, off, cap, rfl, hB, hp, hc, hm, hx⟩
  · exact once_none ao cap w
  · by_cases h : l.length ≤ 300
    · exact once_some b off cap l w hB hp hc hm h hx
    · exact once_long _ _ _ w (by omega)

set_option maxRecDepth 100000 in
theorem postOnce_lifted (os : Os) (started : os.Started) (H : Type) (enc : TypeId × Value → H) :
    ReturnsInHanded {} Try.checked os 3 .any (Rows.postOnceSpec.pre6 enc Try.prog Try.f3 Rows.postOnceRow.domain false) (Rows.postOnceSpec.post enc Try.prog Try.f3 false true false false) := by
  refine returnsInHanded_of_change (C := Try.checked) own started (by kernel_rfl) Try.func3
    (ChangeSpec.witness6 (enc := enc) (C := Try.checked) false ⟨#[], #[.slice none 0 0], []⟩ 8 (by kernel_rfl) (by kernel_rfl) (by kernel_rfl) (by kernel_rfl)) ?_
  intro W base args ds gs before hval0 hW hcnd _
  have hval : ∀ (j : Nat) t v, Try.f3.params[j]? = some t → args[j]? = some v → Value.okWide Try.prog W .any base t v := hval0
  have hW' := hW
  obtain ⟨p, q, hA0, hV, rfl, hfz, hnd⟩ := hW
  have hA : DataW.TrodAll enc Try.prog W 0 (fun _ => true) true Try.f3.params.toList args.toList ds p := hA0
  rw [Try.params3] at hA hval
  obtain ⟨v0, d0, rfl, rfl, h0⟩ := trodAll_one hA
  obtain ⟨rfl, rfl⟩ := trodVars_none hV
  obtain ⟨l, hl, _⟩ := open_steps Try.underlying22 Try.underlying29 (by kernel_rfl) (by kernel_rfl) Try.underlying3 Try.underlying3 Try.underlying3 Try.underlying3 Try.underlying9 (okWide_slice Try.underlying22 (hval 0 22 v0 rfl rfl)) h0
  refine (once_any v0 l W hl).mono fun e W' ⟨he, hg⟩ => ⟨_, he, ?_⟩
  exact Law.post laidOut (by kernel_rfl) rfl Try.underlying4 hW' rfl rfl hg

theorem postOnce_holds : Rows.PostOnceSaid :=
  OpenClaim.holds_of_wide 3 Try.f3 rfl rfl rfl rfl rfl rfl rfl ⟨rfl, rfl, rfl, rfl, rfl⟩ rfl rfl rfl rfl rfl (by kernel_rfl) Try.func3 (by kernel_rfl)
    (of_decide_eq_true (by kernel_rfl)) (by unfold Func.isWrapper; first | (rw [if_pos (by decide +kernel)]; kernel_rfl) | (rw [if_neg (by decide +kernel)]; exact ⟨rfl, rfl⟩))
    (fun os started H enc _ => postOnce_lifted os started H enc)
#print axioms postOnce_holds
end Go.Proofs.Ytpfnlciacbfcgab
