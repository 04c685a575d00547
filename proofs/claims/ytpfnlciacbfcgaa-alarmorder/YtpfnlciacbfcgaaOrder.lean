/-
  For any slice of steps and any int sextonlaw03.AlarmOrder returns true, whatever the memory: in what order alarms are set says nothing. No condition.
-/
import Derived.Test.YtpfnlciacbfcgaaOrderA
namespace Go.Proofs.Ytpfnlciacbfcgaa
open Go.ChangeShapes Go.WideShapes Go.ChangeAt Go.RowKit Go.Maps Go.Deep

set_option maxHeartbeats 4000000 in
set_option maxRecDepth 100000 in
theorem order_some (b off cap : Nat) (l : List (Int × Int × Int)) (now : Int) (w : World) (hB : b < w.heap.size) (hp : 0 < l.length) (hlc : l.length ≤ cap) (_hm : cap ≤ maxLen) (h200 : l.length ≤ 200)
    (hx : ∀ i, i < l.length → w.cell? ⟨b, off + i * 3, none⟩ = some (.int .i64 (l.getD i (0, 0, 0)).1) ∧ w.cell? ⟨b, off + i * 3 + 1, none⟩ = some (.int .i64 (l.getD i (0, 0, 0)).2.1) ∧ w.cell? ⟨b, off + i * 3 + 2, none⟩ = some (.int .i64 (l.getD i (0, 0, 0)).2.2)) :
    Calls Try.prog 5 #[.slice (some ⟨b, off, none⟩) l.length cap, .int .i64 now] w fun e w' => e = .returned (.bool true) ∧ Below w.heap.size w w' := by
  obtain ⟨i0, hi, hz0, hz1, hz2⟩ := info_parts info3
  obtain ⟨j0, ji, jz0, jz1, jz2⟩ := info_parts info31
  unfold maxLen at _hm
  obtain ⟨n, hn⟩ : ∃ n, l.length = n := ⟨_, rfl⟩
  rw [hn] at hp hlc hx h200 ⊢
  have HX : Hid (∀ i, i < n → w.cell? ⟨b, off + i * 3, none⟩ = some (.int .i64 (l.getD i (0, 0, 0)).1) ∧ w.cell? ⟨b, off + i * 3 + 1, none⟩ = some (.int .i64 (l.getD i (0, 0, 0)).2.1) ∧ w.cell? ⟨b, off + i * 3 + 2, none⟩ = some (.int .i64 (l.getD i (0, 0, 0)).2.2)) := hx
  have h2' : ¬ ((200 : Int) < (n : Int)) := by omega
  clear hn hx
  go_enter Try.func5, Try.ntmps5
  go_wp2_with fail
  refine (new_ex _).mono ?_
  rintro e w1 ⟨sa, ma, rfl, hsa, hma, hka, hga⟩
  have HB1 : Hid (Below w.heap.size w w1) := below_none hga (Nat.le_refl _)
  have HSA : Hid (w.heap.size ≤ sa ∧ w.heap.size ≤ ma ∧ sa < w1.heap.size ∧ ma < w1.heap.size ∧ w.heap.size ≤ w1.heap.size) := ⟨hsa, hma, hka.lt.1, hka.lt.2.1, hga.size⟩
  have HKA : Hid (ClockAt w1 sa ma []) := hka
  clear hsa hma hka hga
  go_wp2_with fail
  refine (new_ex _).mono ?_
  rintro e w2 ⟨sb, mb, rfl, hsb, hmb, hkb, hgb⟩
  have HB2 : Hid (Below w.heap.size w w2) := HB1.out.trans (below_none hgb HB1.out.size)
  have HSB : Hid (w1.heap.size ≤ sb ∧ w1.heap.size ≤ mb ∧ sb < w2.heap.size ∧ mb < w2.heap.size ∧ w1.heap.size ≤ w2.heap.size) := ⟨hsb, hmb, hkb.lt.1, hkb.lt.2.1, hgb.size⟩
  have HKA2 : Hid (ClockAt w2 sa ma []) := HKA.out.kept hgb (by simp) (by simp)
  have HKB2 : Hid (ClockAt w2 sb mb []) := hkb
  clear hsb hmb hkb hgb HKA HB1
  go_wp2
  go_loopw [7, 8, 34] (fun u7 u8 i wr => ∃ (k : Nat) (ns : List Int) (ks : List (Int × Int × Int)), k ≤ n ∧ i = .int .i64 k ∧ wr.ownsRow w2.heap.size 3 1 u7 ns.length (ns.map (Value.int .i64)) ∧ wr.ownsRow w2.heap.size 31 3 u8 ks.length (cells3 ks) ∧ Hid (Al.Kept n k ns ks) ∧ Below w2.heap.size w2 wr)
    (fun _ _ i _ => n - (intOf i).toNat)
  case atStart => exact ⟨0, [], [], Nat.zero_le _, rfl, World.ownsRow_nil _ _ _ _, World.ownsRow_nil _ _ _ _, Al.kept_start n, Below.refl _ _⟩
  case round =>
    obtain ⟨k, ns, ks, hkn, rfl, hr7, hr8, HKE, hbl⟩ := hrel
    by_cases hlt : k < n
    · obtain ⟨c0, c1, c2⟩ := HX.out k hlt
      have hb2 := HB2.out.size
      have hbw := HB2.out.trans (hbl.mono hb2)
      rw [← hbw.cell (p := ⟨b, off + k * 3, none⟩) hB] at c0
      rw [← hbw.cell (p := ⟨b, off + k * 3 + 1, none⟩) hB] at c1
      rw [← hbw.cell (p := ⟨b, off + k * 3 + 2, none⟩) hB] at c2
      generalize l.getD k (0, 0, 0) = st at c0 c1 c2
      obtain ⟨xa, xb, xc⟩ := st
      simp only at c0 c1 c2
      have hle := HKE.out.le
      have hln : ns.length ≤ k := by rw [HKE.out.nums]; simpa using hle
      clear hb2 hbw
      rcases hr7.2 with ⟨rfl, h0⟩ | ⟨g, cp, cur, rfl, hbg, hgb, hnc, hcm, hcs, htake⟩
      · have e0 : ns = [] := List.eq_nil_of_length_eq_zero h0
        subst e0
        go_wp2
        refine wp_loop_rounds 1 ?_
        rw [rounds_succ]
        go_wp2_with (at_builtin; refine wpList_append_own _ rfl _ _ 39 rfl w2.heap.size 3 i0 (.int .i64 0) 1 8 Try.underlying39 hi hz0 hz1 hz2 rfl (by decide) _ _ _ rfl ((hr7.alloc _).alloc _) ⟨wr.heap.size + 1, 0, none⟩ 1 1 [.int .i64 xb] rfl rfl ?c1 ?c2 ?c3 ?c4 ?c5 ?_)
        case c1 => exact one_new_at _ _ (by simp) _ _
        case c2 => exact ints_oneCell .i64 [xb]
        case c3 => unfold maxLen; omega
        case c4 => omega
        case c5 => have := hbl.size; simp; omega
        intro v7 w3 hown7 hg3 _
        have hgA := grown_trans (World.grownBy_alloc wr (.cells #[.int .i64 xa, .int .i64 xb, .int .i64 xc] 31) (Value.slice none 0 0).ownBlock) (grown_trans (World.grownBy_alloc _ (.cells #[.int .i64 xb] 3) (Value.slice none 0 0).ownBlock) hg3)
        have hbox : (wr.alloc (.cells #[.int .i64 xa, .int .i64 xb, .int .i64 xc] 31)).heap[wr.heap.size]? = some (.cells #[.int .i64 xa, .int .i64 xb, .int .i64 xc] 31 (0, 0)) := heap_alloc_new _ _
        have hbox2 : w3.heap[wr.heap.size]? = some (.cells #[.int .i64 xa, .int .i64 xb, .int .i64 xc] 31 (0, 0)) := by
          have hg4 := grown_trans (World.grownBy_alloc (wr.alloc (.cells #[.int .i64 xa, .int .i64 xb, .int .i64 xc] 31)) (.cells #[.int .i64 xb] 3) (Value.slice none 0 0).ownBlock) hg3
          rw [hg4.block wr.heap.size (by simp) (block_ne (hr7.alloc _) hbox (by decide))]
          exact hbox
        obtain ⟨d0, d1, d2⟩ := three_of hbox2
        have hr8a : w3.ownsRow w2.heap.size 31 3 u8 ks.length (cells3 ks) := hr8.kept hgA (rows_ne hr8 hr7 (by decide))
        have hbl3 : Below w2.heap.size w2 w3 := hbl.grown hgA hbl.size (fun j hj => (hr7.lt j hj).1)
        have HKN : Hid (Al.Kept n (k + 1) ([] ++ [xb]) (ks ++ [(xa, xb, xc)])) := HKE.out.new (by rfl) xa xc
        have HR7 : Hid (w3.ownsRow w2.heap.size 3 1 v7 ([] ++ [xb]).length (([] ++ [xb]).map (Value.int .i64))) := by
          have : w3.ownsRow w2.heap.size 3 1 v7 ([] ++ [xb]).length (([] ++ [xb]).map (Value.int .i64)) := by simpa using hown7
          exact this
        clear hown7 hg3 hgA hbox hbox2 hr8 hr7 c0 c1 c2
        go_wp2_with (at_builtin; refine wpList_append_own _ rfl _ _ 22 rfl w2.heap.size 31 j0 (.agg #[.int .i64 0, .int .i64 0, .int .i64 0]) 3 24 Try.underlying22 ji jz0 jz1 jz2 rfl (by decide) _ _ _ rfl (hr8a.alloc _) ⟨w3.heap.size, 0, none⟩ 1 1 [.int .i64 xa, .int .i64 xb, .int .i64 xc] rfl rfl ?c1 ?c2 ?c3 ?c4 ?c5 ?_)
        case c1 => exact three_new _ _ _ _ _
        case c2 => exact one3 xa xb xc
        case c3 => unfold maxLen; omega
        case c4 => omega
        case c5 => have := hbl3.size; simp; omega
        intro v8 w4 hown8 hg4 _
        have hgB := grown_trans (World.grownBy_alloc w3 (.cells #[.int .i64 xa, .int .i64 xb, .int .i64 xc] 31) u8.ownBlock) hg4
        have HR8 : Hid (w4.ownsRow w2.heap.size 31 3 v8 (ks ++ [(xa, xb, xc)]).length (cells3 (ks ++ [(xa, xb, xc)]))) := by
          have : w4.ownsRow w2.heap.size 31 3 v8 (ks ++ [(xa, xb, xc)]).length (cells3 (ks ++ [(xa, xb, xc)])) := by rw [cells3_snoc]; simpa using hown8
          exact this
        have HR7' : Hid (w4.ownsRow w2.heap.size 3 1 v7 ([] ++ [xb]).length (([] ++ [xb]).map (Value.int .i64))) := HR7.out.kept hgB (rows_ne HR7.out hr8a (by decide))
        have hbl4 : Below w2.heap.size w2 w4 := hbl3.grown hgB hbl3.size (fun j hj => (hr8a.lt j hj).1)
        clear hown8 hg4 hgB hr8a hbl3 HR7 d0 d1 d2
        go_wp2
        go_roundw
        case rel => exact ⟨k + 1, [] ++ [xb], ks ++ [(xa, xb, xc)], by omega, by go_num, HR7'.out, HR8.out, HKN, hbl4⟩
        case measure => simp [intOf]; omega
      · have hcells : Hid (∀ j, j < ns.length → wr.cell? ⟨g, j, none⟩ = some (.int .i64 (ns.getD j 0))) := fun j hj => by
          have := hr7.cells (g := g) rfl j (.int .i64 (ns.getD j 0)) (by simp [List.getD, hj])
          rw [Go.WideShapes.add_plain, Nat.zero_add] at this
          exact this
        have hgl : g < wr.heap.size := (hr7.lt g rfl).2
        unfold maxLen at hcm
        clear hcs htake hgb
        go_wp2
        go_loopw [11, 40] (fun o i wq => ∃ j : Nat, j ≤ ns.length ∧ i = .int .i64 j ∧ o = .bool ((ns.take j).contains xb) ∧ wq = wr.alloc (.cells #[.int .i64 xa, .int .i64 xb, .int .i64 xc] 31)) (fun _ i _ => ns.length - (intOf i).toNat)
        case atStart => exact ⟨0, Nat.zero_le _, rfl, by simp, rfl⟩
        case round =>
          obtain ⟨j, hjn, rfl, rfl, rfl⟩ := hrel
          by_cases hjl : j < ns.length
          · have hcj := hcells.out j hjl
            have HT : Hid (ns.take (j + 1) = ns.take j ++ [ns.getD j 0]) := by
              have : ns.take (j + 1) = ns.take j ++ [ns.getD j 0] := by
                rw [List.take_succ_eq_append_getElem hjl]
                simp [List.getD, hjl]
              exact this
            generalize ns.getD j 0 = y at hcj HT
            have HCO : Hid ((ns.take (j + 1)).contains xb = ((ns.take j).contains xb || decide (xb = y))) := by
              have : (ns.take (j + 1)).contains xb = ((ns.take j).contains xb || decide (xb = y)) := by
                rw [HT.out, Bool.eq_iff_iff]
                simp
              exact this
            cases hold : (ns.take j).contains xb with
            | true =>
              rw [hold] at HCO
              clear hold
              go_wp2
              go_roundw
              case rel => exact ⟨j + 1, by omega, by go_num, by rw [HCO.out]; rfl, by first | rfl | trivial⟩
              case measure => simp [intOf]; omega
            | false =>
              rw [hold] at HCO
              clear hold
              by_cases hyx : y = xb
              · subst hyx
                go_wp2
                go_roundw
                case rel => exact ⟨j + 1, by omega, by go_num, by rw [HCO.out]; simp, by first | rfl | trivial⟩
                case measure => simp [intOf]; omega
              · have hyx' : ¬ xb = y := fun e => hyx e.symm
                go_wp2
                go_roundw
                case rel => exact ⟨j + 1, by omega, by go_num, by rw [HCO.out]; simp [hyx, hyx'], by first | rfl | trivial⟩
                case measure => simp [intOf]; omega
          · obtain rfl : j = ns.length := by omega
            rw [List.take_length]
            cases hold : ns.contains xb with
            | true =>
              have HKN : Hid (Al.Kept n (k + 1) ns ks) := HKE.out.old hold
              clear hold
              go_wp2
              go_roundw
              case rel => exact ⟨k + 1, ns, ks, by omega, by go_num, hr7.alloc _, hr8.alloc _, HKN, hbl.alloc hbl.size _⟩
              case measure => simp [intOf]; omega
            | false =>
              have HO : Hid (ns.contains xb = false) := hold
              clear hold hjn hjl
              go_wp2_with (at_builtin; refine wpList_append_own _ rfl _ _ 39 rfl w2.heap.size 3 i0 (.int .i64 0) 1 8 Try.underlying39 hi hz0 hz1 hz2 rfl (by decide) _ _ _ rfl ((hr7.alloc _).alloc _) ⟨wr.heap.size + 1, 0, none⟩ 1 1 [.int .i64 xb] rfl rfl ?c1 ?c2 ?c3 ?c4 ?c5 ?_)
              case c1 => exact one_new_at _ _ (by simp) _ _
              case c2 => exact ints_oneCell .i64 [xb]
              case c3 => unfold maxLen; omega
              case c4 => omega
              case c5 => have := hbl.size; simp; omega
              intro v7 w3 hown7 hg3 _
              have hgA := grown_trans (World.grownBy_alloc wr (.cells #[.int .i64 xa, .int .i64 xb, .int .i64 xc] 31) (Value.slice (some ⟨g, 0, none⟩) ns.length cp).ownBlock) (grown_trans (World.grownBy_alloc _ (.cells #[.int .i64 xb] 3) (Value.slice (some ⟨g, 0, none⟩) ns.length cp).ownBlock) hg3)
              have hbox : (wr.alloc (.cells #[.int .i64 xa, .int .i64 xb, .int .i64 xc] 31)).heap[wr.heap.size]? = some (.cells #[.int .i64 xa, .int .i64 xb, .int .i64 xc] 31 (0, 0)) := heap_alloc_new _ _
              have hbox2 : w3.heap[wr.heap.size]? = some (.cells #[.int .i64 xa, .int .i64 xb, .int .i64 xc] 31 (0, 0)) := by
                have hg4 := grown_trans (World.grownBy_alloc (wr.alloc (.cells #[.int .i64 xa, .int .i64 xb, .int .i64 xc] 31)) (.cells #[.int .i64 xb] 3) (Value.slice (some ⟨g, 0, none⟩) ns.length cp).ownBlock) hg3
                rw [hg4.block wr.heap.size (by simp) (block_ne (hr7.alloc _) hbox (by decide))]
                exact hbox
              obtain ⟨d0, d1, d2⟩ := three_of hbox2
              have hr8a : w3.ownsRow w2.heap.size 31 3 u8 ks.length (cells3 ks) := hr8.kept hgA (rows_ne hr8 hr7 (by decide))
              have hbl3 : Below w2.heap.size w2 w3 := hbl.grown hgA hbl.size (fun j hj => (hr7.lt j hj).1)
              have HKN : Hid (Al.Kept n (k + 1) (ns ++ [xb]) (ks ++ [(xa, xb, xc)])) := HKE.out.new HO.out xa xc
              have HR7 : Hid (w3.ownsRow w2.heap.size 3 1 v7 (ns ++ [xb]).length ((ns ++ [xb]).map (Value.int .i64))) := by
                have : w3.ownsRow w2.heap.size 3 1 v7 (ns ++ [xb]).length ((ns ++ [xb]).map (Value.int .i64)) := by simpa using hown7
                exact this
              clear hown7 hg3 hgA hbox hbox2 hr8 hr7 c0 c1 c2
              go_wp2_with (at_builtin; refine wpList_append_own _ rfl _ _ 22 rfl w2.heap.size 31 j0 (.agg #[.int .i64 0, .int .i64 0, .int .i64 0]) 3 24 Try.underlying22 ji jz0 jz1 jz2 rfl (by decide) _ _ _ rfl (hr8a.alloc _) ⟨w3.heap.size, 0, none⟩ 1 1 [.int .i64 xa, .int .i64 xb, .int .i64 xc] rfl rfl ?c1 ?c2 ?c3 ?c4 ?c5 ?_)
              case c1 => exact three_new _ _ _ _ _
              case c2 => exact one3 xa xb xc
              case c3 => unfold maxLen; omega
              case c4 => omega
              case c5 => have := hbl3.size; simp; omega
              intro v8 w4 hown8 hg4 _
              have hgB := grown_trans (World.grownBy_alloc w3 (.cells #[.int .i64 xa, .int .i64 xb, .int .i64 xc] 31) u8.ownBlock) hg4
              have HR8 : Hid (w4.ownsRow w2.heap.size 31 3 v8 (ks ++ [(xa, xb, xc)]).length (cells3 (ks ++ [(xa, xb, xc)]))) := by
                have : w4.ownsRow w2.heap.size 31 3 v8 (ks ++ [(xa, xb, xc)]).length (cells3 (ks ++ [(xa, xb, xc)])) := by rw [cells3_snoc]; simpa using hown8
                exact this
              have HR7' : Hid (w4.ownsRow w2.heap.size 3 1 v7 (ns ++ [xb]).length ((ns ++ [xb]).map (Value.int .i64))) := HR7.out.kept hgB (rows_ne HR7.out hr8a (by decide))
              have hbl4 : Below w2.heap.size w2 w4 := hbl3.grown hgB hbl3.size (fun j hj => (hr8a.lt j hj).1)
              clear hown8 hg4 hgB hr8a hbl3 HR7 d0 d1 d2
              go_wp2
              go_roundw
              case rel => exact ⟨k + 1, ns ++ [xb], ks ++ [(xa, xb, xc)], by omega, by go_num, HR7'.out, HR8.out, HKN, hbl4⟩
              case measure => simp [intOf]; omega
    · obtain rfl : k = n := by omega
      obtain ⟨w3, hw3⟩ : ∃ w3, w3 = wr := ⟨_, rfl⟩
      subst hw3
      have hke := HKE.out
      have hne := hke.some_ hp
      have hkl : ks.length ≤ 200 := by have := hke.le; omega
      have HND : Hid ((ks.map (·.2.1)).Nodup) := by have := hke.nodup; rw [hke.nums] at this; exact this
      rcases hr8.2 with ⟨_, h0⟩ | ⟨g, cp, cur, rfl, hbg, hgb, hnc, hcm, hcs, htake⟩
      · omega
      have HKR : Hid (ClockAt w3 sa ma [] ∧ ClockAt w3 sb mb []) := ⟨HKA2.out.kept (grown_of_below hbl none) (by simp) (by simp), HKB2.out.kept (grown_of_below hbl none) (by simp) (by simp)⟩
      obtain ⟨m, hmk⟩ : ∃ m, ks.length = m := ⟨_, rfl⟩
      have HM : Hid (ks.length = m) := hmk
      have hgl := (hr8.lt g rfl)
      have HC : Hid (∀ i, i < m → w3.cell? ⟨g, i * 3, none⟩ = some (.int .i64 (ks.getD i (0, 0, 0)).1) ∧ w3.cell? ⟨g, i * 3 + 1, none⟩ = some (.int .i64 (ks.getD i (0, 0, 0)).2.1) ∧ w3.cell? ⟨g, i * 3 + 2, none⟩ = some (.int .i64 (ks.getD i (0, 0, 0)).2.2)) := by
        have : ∀ i, i < m → w3.cell? ⟨g, i * 3, none⟩ = some (.int .i64 (ks.getD i (0, 0, 0)).1) ∧ w3.cell? ⟨g, i * 3 + 1, none⟩ = some (.int .i64 (ks.getD i (0, 0, 0)).2.1) ∧ w3.cell? ⟨g, i * 3 + 2, none⟩ = some (.int .i64 (ks.getD i (0, 0, 0)).2.2) := fun i hi => by
          obtain ⟨q0, q1, q2⟩ := cells3_at ks i (by omega)
          have h0 := hr8.cells (g := g) rfl _ _ q0
          have h1 := hr8.cells (g := g) rfl _ _ q1
          have h2 := hr8.cells (g := g) rfl _ _ q2
          rw [Go.WideShapes.add_plain, Nat.zero_add] at h0 h1 h2
          exact ⟨h0, h1, h2⟩
        exact this
      rw [hmk] at hne hkl hnc ⊢
      unfold maxLen at hcm
      clear hmk hke hr7 hr8 hgb hcs htake HKE HKA2 HKB2
      have HBR : Hid (Below w.heap.size w w3) := HB2.out.trans (hbl.mono HB2.out.size)
      have HGS : Hid (w2.heap.size ≤ g ∧ g < w3.heap.size) := hgl
      clear hbl hgl hbg
      go_wp2
      go_loopw [66] (fun i wq => ∃ (j : Nat) (La Lb : List (Int × Int)), j ≤ m ∧ i = .int .i64 j ∧ Hid (ClockAt wq sa ma La ∧ ClockAt wq sb mb Lb) ∧ Hid (Al.Made La (Al.pairs (ks.take j)) ∧ Al.Made Lb (Al.pairs (ks.drop (m - j)))) ∧ Hid (wq.heap[g]? = w3.heap[g]? ∧ w3.heap.size ≤ wq.heap.size ∧ Below w.heap.size w wq)) (fun i _ => m - (intOf i).toNat)
      case atStart => exact ⟨0, [], [], Nat.zero_le _, rfl, HKR, ⟨Al.made_nil, by rw [Nat.sub_zero, List.drop_of_length_le (by rw [HM.out]; exact Nat.le_refl _)]; exact Al.made_nil⟩, ⟨rfl, Nat.le_refl _, HBR.out⟩⟩
      case round =>
        obtain ⟨j, La, Lb, hjm, rfl, HKJ, HMJ, HGJ⟩ := hrel
        by_cases hjl : j < m
        · obtain ⟨jj, hjj⟩ : ∃ jj, jj + 1 + j = m := ⟨m - 1 - j, by omega⟩
          have hsub : (m : Int) - 1 - (j : Int) = (jj : Int) := by omega
          have hgw : g ≠ ma ∧ g ≠ mb ∧ ma < w2.heap.size ∧ mb < w2.heap.size ∧ sa ≠ mb ∧ sb ≠ ma ∧ ma ≠ mb := by
            have h1 := HGS.out
            have h2 := HSA.out
            have h3 := HSB.out
            omega
          obtain ⟨_, p1, p2⟩ := HC.out j hjl
          obtain ⟨q0, q1, q2⟩ := HC.out jj (by omega)
          have hgb := HGJ.out.1
          rw [← World.cell?_of_block (w' := wr) (w := w3) (a := ⟨g, j * 3 + 1, none⟩) hgb] at p1
          rw [← World.cell?_of_block (w' := wr) (w := w3) (a := ⟨g, j * 3 + 2, none⟩) hgb] at p2
          rw [← World.cell?_of_block (w' := wr) (w := w3) (a := ⟨g, jj * 3, none⟩) hgb] at q0
          rw [← World.cell?_of_block (w' := wr) (w := w3) (a := ⟨g, jj * 3 + 1, none⟩) hgb] at q1
          rw [← World.cell?_of_block (w' := wr) (w := w3) (a := ⟨g, jj * 3 + 2, none⟩) hgb] at q2
          have HMA : Hid (Al.Made (Al.setTo La (ks.getD j (0, 0, 0)).2.1 (ks.getD j (0, 0, 0)).2.2) (Al.pairs (ks.take (j + 1)))) := Al.take_step HND.out (by rw [HM.out]; exact hjl) rfl HMJ.out.1 (by rw [HM.out]; exact hkl)
          have HMB : Hid (Al.Made (Al.setTo Lb (ks.getD jj (0, 0, 0)).2.1 (ks.getD jj (0, 0, 0)).2.2) (Al.pairs (ks.drop (m - (j + 1))))) := by
            have h := HMJ.out.2
            rw [show m - j = jj + 1 by omega] at h
            have h2 := Al.drop_step (i := j) HND.out (by rw [HM.out]; exact hjj) rfl h (by rw [HM.out]; exact hkl)
            rw [show m - (j + 1) = jj by omega]
            exact h2
          generalize ks.getD j (0, 0, 0) = X at p1 p2 HMA
          generalize ks.getD jj (0, 0, 0) = Y at q0 q1 q2 HMB
          obtain ⟨x0, x1, x2⟩ := X
          obtain ⟨y0, y1, y2⟩ := Y
          simp only at p1 p2 q0 q1 q2 HMA HMB
          have HGW : Hid (g ≠ ma ∧ g ≠ mb ∧ ma < w2.heap.size ∧ mb < w2.heap.size ∧ sa ≠ mb ∧ sb ≠ ma ∧ ma ≠ mb) := hgw
          clear hgw hgb
          have hjI : (j : Int) < (m : Int) := by omega
          have hj0 : (0 : Int) ≤ (j : Int) := by omega
          go_wp2_with fail
          have hga := World.grownBy_alloc wr (.cells #[.int .i64 y0, .int .i64 y1, .int .i64 y2] 31) none
          have HBX : Hid ((wr.alloc (.cells #[.int .i64 y0, .int .i64 y1, .int .i64 y2] 31)).heap[wr.heap.size]? = some (.cells #[.int .i64 y0, .int .i64 y1, .int .i64 y2] 31 (0, 0))) := heap_alloc_new _ _
          have HKW : Hid (ClockAt (wr.alloc (.cells #[.int .i64 y0, .int .i64 y1, .int .i64 y2] 31)) sa ma La ∧ ClockAt (wr.alloc (.cells #[.int .i64 y0, .int .i64 y1, .int .i64 y2] 31)) sb mb Lb) := ⟨HKJ.out.1.kept hga (by simp) (by simp), HKJ.out.2.kept hga (by simp) (by simp)⟩
          have HSS : Hid ((wr.alloc (.cells #[.int .i64 y0, .int .i64 y1, .int .i64 y2] 31)).cell? ⟨g, j * 3 + 1, none⟩ = some (.int .i64 x1) ∧ (wr.alloc (.cells #[.int .i64 y0, .int .i64 y1, .int .i64 y2] 31)).cell? ⟨g, j * 3 + 2, none⟩ = some (.int .i64 x2)) := ⟨hga.cell p1 (by simp), hga.cell p2 (by simp)⟩
          have HGA : Hid (wr.grownBy (wr.alloc (.cells #[.int .i64 y0, .int .i64 y1, .int .i64 y2] 31)) none) := hga
          have HWS : Hid ((wr.alloc (.cells #[.int .i64 y0, .int .i64 y1, .int .i64 y2] 31)).heap.size = wr.heap.size + 1) := by
            have : (wr.alloc (.cells #[.int .i64 y0, .int .i64 y1, .int .i64 y2] 31)).heap.size = wr.heap.size + 1 := by simp
            exact this
          clear p1 p2 q0 q1 q2 hga
          generalize hW1 : wr.alloc (.cells #[.int .i64 y0, .int .i64 y1, .int .i64 y2] 31) = W1 at HBX HKW HSS HGA HWS ⊢
          clear hW1
          have hgma : g ≠ ma := HGW.out.1
          go_region_held3 (fun w' => w'.cell? ⟨g, j * 3 + 1, none⟩ = some (.int .i64 x1) ∧ w'.cell? ⟨g, j * 3 + 2, none⟩ = some (.int .i64 x2)) (first | exact HSS.out | exact held_two (by assumption) (by assumption) hgma) (first | (go_at_call 11; refine (set_any _ HKW.out.1.drew).mono ?_; rintro e w5 ⟨rfl, hk5, hg5⟩))
          have hg5' : W1.grownBy w5 (some ma) := ⟨hg5.os, hg5.tape, hg5.output, hg5.size, hg5.block⟩
          have hlt1 : ma < wr.heap.size ∧ mb < wr.heap.size ∧ g < wr.heap.size := by
            have h1 := HGW.out
            have h2 := HGS.out
            have h3 := HGJ.out.2.1
            omega
          have hbx : w5.heap[wr.heap.size]? = some (.cells #[.int .i64 y0, .int .i64 y1, .int .i64 y2] 31 (0, 0)) := by
            rw [hg5'.block wr.heap.size (by rw [HWS.out]; omega) (by simp; omega)]
            exact HBX.out
          obtain ⟨_, d1, d2⟩ := three_of hbx
          have HK5 : Hid (ClockAt w5 sa ma (Al.setTo La x1 x2) ∧ ClockAt w5 sb mb Lb) := ⟨hk5, HKW.out.2.kept hg5' (by simpa using HGW.out.2.2.2.2.2.1) (by simpa using HGW.out.2.2.2.2.2.2.symm)⟩
          have HG5 : Hid (wr.grownBy w5 (some ma)) := grown_trans (HGA.out.but _) hg5'
          clear hk5 hg5 hg5' hbx HKW HSS HGA HBX
          go_wp2_with fail
          refine (set_any _ HK5.out.2).mono ?_
          rintro e w6 ⟨rfl, hk6, hg6⟩
          have HK6 : Hid (ClockAt w6 sa ma (Al.setTo La x1 x2) ∧ ClockAt w6 sb mb (Al.setTo Lb y1 y2)) := ⟨HK5.out.1.kept hg6 (by simpa using HGW.out.2.2.2.2.1) (by simpa using HGW.out.2.2.2.2.2.2), hk6⟩
          have HJ6 : Hid (w6.heap[g]? = w3.heap[g]? ∧ w3.heap.size ≤ w6.heap.size ∧ Below w.heap.size w w6) := by
            have h5 := HG5.out
            have hh := HGJ.out
            have hs := HSA.out
            have hs2 := HSB.out
            refine ⟨?_, Nat.le_trans hh.2.1 (Nat.le_trans h5.size hg6.size), (hh.2.2.trans (below_clock h5 hs.2.1 hh.2.2.size)).trans (below_clock hg6 (by omega) (Nat.le_trans hh.2.2.size h5.size))⟩
            rw [hg6.block g (Nat.lt_of_lt_of_le hlt1.2.2 h5.size) (by simpa using HGW.out.2.1), h5.block g hlt1.2.2 (by simpa using HGW.out.1)]
            exact hh.1
          clear hk6 hg6 d1 d2 HG5 HK5
          go_wp2
          go_roundw
          case rel => exact ⟨j + 1, _, _, by omega, by go_num, HK6, ⟨HMA.out, HMB.out⟩, HJ6⟩
          case measure => simp [intOf]; omega
        · obtain rfl : j = m := by omega
          have h1 := HMJ.out.1
          have h2 := HMJ.out.2
          rw [List.take_of_length_le (by rw [HM.out]; exact Nat.le_refl _)] at h1
          rw [Nat.sub_self, List.drop_zero] at h2
          obtain rfl := h1.unique h2
          obtain ⟨LL, hLL⟩ : ∃ LL, LL = La := ⟨_, rfl⟩
          subst hLL
          have HKE1 : Hid (ClockAt wr sa ma LL ∧ ClockAt wr sb mb LL) := HKJ.out
          have HBE : Hid (Below w.heap.size w wr) := HGJ.out.2.2
          have HNE : Hid (sb ≠ ma ∧ mb ≠ ma ∧ sa ≠ mb ∧ ma ≠ mb) := by
            have ha := HSA.out
            have hb := HSB.out
            have : sb ≠ ma ∧ mb ≠ ma ∧ sa ≠ mb ∧ ma ≠ mb := by omega
            exact this
          have HNE2 : Hid (w.heap.size ≤ ma ∧ w.heap.size ≤ mb ∧ mb < wr.heap.size) := by
            have ha := HSA.out
            have hb := HSB.out
            have hc := HKE1.out.2.lt
            have : w.heap.size ≤ ma ∧ w.heap.size ≤ mb ∧ mb < wr.heap.size := by omega
            exact this
          clear h1 h2 HMJ HKJ HGJ
          -- the ends
          go_wp2_with fail
          refine (due_any (now := now) _ HKE1.out.1).mono ?_
          rintro e w5 ⟨va, rfl, hra, hk5, hg5⟩
          have HD5 : Hid (ClockAt w5 sa ma (Al.dueTo LL now) ∧ ClockAt w5 sb mb LL) := ⟨hk5, HKE1.out.2.kept hg5 (by simpa using HNE.out.1) (by simpa using HNE.out.2.1)⟩
          have HI5 : Hid (IntsAt w5 va (Al.dueOf LL now)) := IntsAt.of_own hra
          have HV5 : Hid (∀ j, va.ownBlock = some j → wr.heap.size ≤ j) := fun j hj => (hra.lt j hj).1
          have HB5 : Hid (Below w.heap.size w w5) := HBE.out.trans (below_clock hg5 HNE2.out.1 HBE.out.size)
          clear hra hk5 hg5
          go_wp2_with fail
          refine (due_any (now := now) _ HD5.out.2).mono ?_
          rintro e w6 ⟨vb, rfl, hrb, hk6, hg6⟩
          have HD6 : Hid (ClockAt w6 sa ma (Al.dueTo LL now) ∧ ClockAt w6 sb mb (Al.dueTo LL now)) := ⟨HD5.out.1.kept hg6 (by simpa using HNE.out.2.2.1) (by simpa using HNE.out.2.2.2), hk6⟩
          have HI6 : Hid (IntsAt w6 va (Al.dueOf LL now) ∧ IntsAt w6 vb (Al.dueOf LL now)) := ⟨HI5.out.kept hg6 (fun j hj e => by cases hj; have h1 := HV5.out _ e; have h2 := HNE2.out.2.2; omega), IntsAt.of_own hrb⟩
          have HB6 : Hid (Below w.heap.size w w6) := HB5.out.trans (below_clock hg6 HNE2.out.2.1 HB5.out.size)
          clear hrb hk6 hg6 HI5 HD5 HB5
          go_wp2_with fail
          refine (ints_same _ _ _ _ HI6.out.1 HI6.out.2).mono ?_
          rintro e w7 ⟨rfl, hg7⟩
          have HD7 : Hid (ClockAt w7 sa ma (Al.dueTo LL now) ∧ ClockAt w7 sb mb (Al.dueTo LL now)) := ⟨HD6.out.1.kept hg7 (by simp) (by simp), HD6.out.2.kept hg7 (by simp) (by simp)⟩
          have HB7 : Hid (Below w.heap.size w w7) := HB6.out.trans (below_none hg7 HB6.out.size)
          clear hg7 HI6 HD6 HB6
          go_wp2_with fail
          refine (len_any _ HD7.out.1).mono ?_
          rintro e w8 ⟨rfl, rfl⟩
          go_wp2_with fail
          refine (len_any _ HD7.out.2).mono ?_
          rintro e w9 ⟨rfl, rfl⟩
          go_wp2_with fail
          refine (three_any _).mono ?_
          rintro e w10 ⟨rfl, hg10⟩
          have HB10 : Hid (Below w.heap.size w w10) := HB7.out.trans (below_none hg10 HB7.out.size)
          clear hg10 HB7 HD7
          go_wp2
          go_ret
          exact ⟨rfl, HB10.out⟩

set_option maxHeartbeats 1000000 in
set_option maxRecDepth 100000 in
theorem order_none (ao : Option Addr) (cap : Nat) (now : Int) (w : World) : Calls Try.prog 5 #[.slice ao 0 cap, .int .i64 now] w fun e w' => e = .returned (.bool true) ∧ Below w.heap.size w w' := by
  go_enter Try.func5, Try.ntmps5
  go_wp2_with fail
  refine (new_ex _).mono ?_
  rintro e w1 ⟨sa, ma, rfl, hsa, hma, hka, hga⟩
  have HB1 : Hid (Below w.heap.size w w1) := below_none hga (Nat.le_refl _)
  have HSA : Hid (w.heap.size ≤ sa ∧ w.heap.size ≤ ma ∧ sa < w1.heap.size ∧ ma < w1.heap.size ∧ w.heap.size ≤ w1.heap.size) := ⟨hsa, hma, hka.lt.1, hka.lt.2.1, hga.size⟩
  have HKA : Hid (ClockAt w1 sa ma []) := hka
  clear hsa hma hka hga
  go_wp2_with fail
  refine (new_ex _).mono ?_
  rintro e w2 ⟨sb, mb, rfl, hsb, hmb, hkb, hgb⟩
  have HBE : Hid (Below w.heap.size w w2) := HB1.out.trans (below_none hgb HB1.out.size)
  have HSB : Hid (w1.heap.size ≤ sb ∧ w1.heap.size ≤ mb ∧ sb < w2.heap.size ∧ mb < w2.heap.size ∧ w1.heap.size ≤ w2.heap.size) := ⟨hsb, hmb, hkb.lt.1, hkb.lt.2.1, hgb.size⟩
  obtain ⟨LL, hLL⟩ : ∃ LL : List (Int × Int), LL = [] := ⟨_, rfl⟩
  have HKE1 : Hid (ClockAt w2 sa ma LL ∧ ClockAt w2 sb mb LL) := by rw [hLL]; exact ⟨HKA.out.kept hgb (by simp) (by simp), hkb⟩
  have HNE : Hid (sb ≠ ma ∧ mb ≠ ma ∧ sa ≠ mb ∧ ma ≠ mb) := by
    have ha := HSA.out
    have hb := HSB.out
    have : sb ≠ ma ∧ mb ≠ ma ∧ sa ≠ mb ∧ ma ≠ mb := by omega
    exact this
  have HNE2 : Hid (w.heap.size ≤ ma ∧ w.heap.size ≤ mb ∧ mb < w2.heap.size) := by
    have ha := HSA.out
    have hb := HSB.out
    have : w.heap.size ≤ ma ∧ w.heap.size ≤ mb ∧ mb < w2.heap.size := by omega
    exact this
  clear hsb hmb hkb hgb HKA HB1 hLL
  go_wp2
  refine wp_loop_rounds 1 ?_
  rw [rounds_succ]
  go_wp2
  refine wp_loop_rounds 1 ?_
  rw [rounds_succ]
  -- the ends
  go_wp2_with fail
  refine (due_any (now := now) _ HKE1.out.1).mono ?_
  rintro e w5 ⟨va, rfl, hra, hk5, hg5⟩
  have HD5 : Hid (ClockAt w5 sa ma (Al.dueTo LL now) ∧ ClockAt w5 sb mb LL) := ⟨hk5, HKE1.out.2.kept hg5 (by simpa using HNE.out.1) (by simpa using HNE.out.2.1)⟩
  have HI5 : Hid (IntsAt w5 va (Al.dueOf LL now)) := IntsAt.of_own hra
  have HV5 : Hid (∀ j, va.ownBlock = some j → w2.heap.size ≤ j) := fun j hj => (hra.lt j hj).1
  have HB5 : Hid (Below w.heap.size w w5) := HBE.out.trans (below_clock hg5 HNE2.out.1 HBE.out.size)
  clear hra hk5 hg5
  go_wp2_with fail
  refine (due_any (now := now) _ HD5.out.2).mono ?_
  rintro e w6 ⟨vb, rfl, hrb, hk6, hg6⟩
  have HD6 : Hid (ClockAt w6 sa ma (Al.dueTo LL now) ∧ ClockAt w6 sb mb (Al.dueTo LL now)) := ⟨HD5.out.1.kept hg6 (by simpa using HNE.out.2.2.1) (by simpa using HNE.out.2.2.2), hk6⟩
  have HI6 : Hid (IntsAt w6 va (Al.dueOf LL now) ∧ IntsAt w6 vb (Al.dueOf LL now)) := ⟨HI5.out.kept hg6 (fun j hj e => by cases hj; have h1 := HV5.out _ e; have h2 := HNE2.out.2.2; omega), IntsAt.of_own hrb⟩
  have HB6 : Hid (Below w.heap.size w w6) := HB5.out.trans (below_clock hg6 HNE2.out.2.1 HB5.out.size)
  clear hrb hk6 hg6 HI5 HD5 HB5
  go_wp2_with fail
  refine (ints_same _ _ _ _ HI6.out.1 HI6.out.2).mono ?_
  rintro e w7 ⟨rfl, hg7⟩
  have HD7 : Hid (ClockAt w7 sa ma (Al.dueTo LL now) ∧ ClockAt w7 sb mb (Al.dueTo LL now)) := ⟨HD6.out.1.kept hg7 (by simp) (by simp), HD6.out.2.kept hg7 (by simp) (by simp)⟩
  have HB7 : Hid (Below w.heap.size w w7) := HB6.out.trans (below_none hg7 HB6.out.size)
  clear hg7 HI6 HD6 HB6
  go_wp2_with fail
  refine (len_any _ HD7.out.1).mono ?_
  rintro e w8 ⟨rfl, rfl⟩
  go_wp2_with fail
  refine (len_any _ HD7.out.2).mono ?_
  rintro e w9 ⟨rfl, rfl⟩
  go_wp2_with fail
  refine (three_any _).mono ?_
  rintro e w10 ⟨rfl, hg10⟩
  have HB10 : Hid (Below w.heap.size w w10) := HB7.out.trans (below_none hg10 HB7.out.size)
  clear hg10 HB7 HD7
  go_wp2
  go_ret
  exact ⟨rfl, HB10.out⟩

set_option maxHeartbeats 1000000 in
theorem order_long (p : Option Addr) (n cap : Nat) (now : Int) (w : World) (h : 200 < n) : Calls Try.prog 5 #[.slice p n cap, .int .i64 now] w fun e w' => e = .returned (.bool true) ∧ Below w.heap.size w w' := by
  have h' : (200 : Int) < (n : Int) := by omega
  go_enter Try.func5, Try.ntmps5
  go_wp2_with fail
  refine (three_any _).mono ?_
  rintro e w1 ⟨rfl, hg⟩
  have HB : Hid (Below w.heap.size w w1) := below_none hg (Nat.le_refl _)
  clear hg
  go_wp2
  go_ret
  exact ⟨rfl, HB.out⟩

theorem order_any (v : Value) (l : List (Int × Int × Int)) (now : Int) (w : World) (hv : StepsAt w v l) : Calls Try.prog 5 #[v, .int .i64 now] w fun e w' => e = .returned (.bool true) ∧ Below w.heap.size w w' := by
  rcases hv with ⟨ao, cap, rfl, rfl⟩ | ⟨b, off, cap, rfl, hB, hp, hc, hm, hx⟩
  · exact order_none ao cap now w
  · by_cases h : l.length ≤ 200
    · exact order_some b off cap l now w hB hp hc hm h hx
    · exact order_long _ _ _ now w (by omega)

set_option maxRecDepth 100000 in
theorem alarmOrder_lifted (os : Os) (started : os.Started) (H : Type) (enc : TypeId × Value → H) :
    ReturnsInHanded {} Try.checked os 5 .any (Rows.alarmOrderSpec.pre6 enc Try.prog Try.f5 Rows.alarmOrderRow.domain false) (Rows.alarmOrderSpec.post enc Try.prog Try.f5 false true false false) := by
  refine returnsInHanded_of_change (C := Try.checked) own started (by kernel_rfl) Try.func5
    (ChangeSpec.witness6 (enc := enc) (C := Try.checked) false ⟨#[], #[.slice none 0 0, .int .i64 0], []⟩ 8 (by kernel_rfl) (by kernel_rfl) (by kernel_rfl) (by kernel_rfl)) ?_
  intro W base args ds gs before hval0 hW hcnd _
  have hval : ∀ (j : Nat) t v, Try.f5.params[j]? = some t → args[j]? = some v → Value.okWide Try.prog W .any base t v := hval0
  have hW' := hW
  obtain ⟨p, q, hA0, hV, rfl, hfz, hnd⟩ := hW
  have hA : DataW.TrodAll enc Try.prog W 0 (fun _ => true) true Try.f5.params.toList args.toList ds p := hA0
  rw [Try.params5] at hA hval
  obtain ⟨v0, v1, d0, d1, p0, p1, rfl, rfl, rfl, h0, h1⟩ := trodAll_two hA
  obtain ⟨rfl, rfl⟩ := trodVars_none hV
  obtain ⟨l, hl, _⟩ := open_steps Try.underlying22 Try.underlying31 (by kernel_rfl) (by kernel_rfl) Try.underlying3 Try.underlying3 Try.underlying3 (okWide_slice Try.underlying22 (hval 0 22 v0 rfl rfl)) h0
  obtain ⟨b, rfl, rfl, rfl, w1⟩ := open_int Try.underlying3 (hval 1 3 v1 rfl rfl) h1
  refine (order_any v0 l b W hl).mono fun e W' ⟨he, hg⟩ => ⟨_, he, ?_⟩
  exact Law.post laidOut (by kernel_rfl) rfl Try.underlying4 hW' rfl rfl hg

theorem alarmOrder_holds : Rows.AlarmOrderSaid :=
  OpenClaim.holds_of_wide 5 Try.f5 rfl rfl rfl rfl rfl rfl rfl ⟨rfl, rfl, rfl, rfl, rfl⟩ rfl rfl rfl rfl rfl (by kernel_rfl) Try.func5 (by kernel_rfl)
    (of_decide_eq_true (by kernel_rfl)) (by unfold Func.isWrapper; first | (rw [if_pos (by decide +kernel)]; kernel_rfl) | (rw [if_neg (by decide +kernel)]; exact ⟨rfl, rfl⟩))
    (fun os started H enc _ => alarmOrder_lifted os started H enc)
#print axioms alarmOrder_holds
end Go.Proofs.Ytpfnlciacbfcgaa
