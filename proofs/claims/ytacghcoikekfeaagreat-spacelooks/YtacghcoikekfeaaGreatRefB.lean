/-
  The document's answer for tables: with, Drop, Put, New.
-/
import Derived.Test.YtacghcoikekfeaaGreatRefA
import Derived.Test.YtacghcoikekfeaaGreatPlainS
namespace Go.Proofs.YtacghcoikekfeaaGreat
open Go.ChangeShapes Go.WideShapes Go.ChangeAt Go.RowKit Go.Deep It
set_option maxRecDepth 100000

theorem It.put_rw {L : List Rw} {no : Nat} {x : Rw} (h : no ≤ L.length) : pl (if no = L.length then L ++ [x] else L.set no x) = put (pl L) no x.i := by
  unfold put
  simp only [pl, List.length_map]
  by_cases hlt : no < L.length
  · rw [if_neg (by omega), if_pos hlt, List.map_set]
  · rw [if_pos (by omega), if_neg hlt]
    simp
set_option maxHeartbeats 4000000 in
set_option maxRecDepth 100000 in
theorem rwith_any {S T : Nat → Prop} (v : Value) (L : List Rw) (no : Nat) (x : Rw) (w : World) (hv : TabAt S w v L) (hx : Good T w x) (hL : L.length ≤ 24) (hno : no ≤ L.length) :
    Calls Tryz.prog 87 #[v, .int .i64 no, VI x] w fun e w' => ∃ u L', e = .returned u ∧ TabAt (fun b => S b ∨ T b ∨ w.heap.size ≤ b) w' u L' ∧ pl L' = put (pl L) no x.i ∧ Below w.heap.size w w' := by
  obtain ⟨i0, hi, hz0, hz1, hz2⟩ := info_parts infoI
  have HP := It.put_rw (x := x) hno
  have HGALL : Hid (∀ y, y = x ∨ y ∈ L → ∀ w', Below w.heap.size w w' → Good (fun b => S b ∨ T b ∨ w.heap.size ≤ b) w' y) := fun y hy w' hb => by
    rcases hy with rfl | hy
    · exact hx.keep hb.size fun b hS hl => ⟨hb.block b hl, .inr (.inl hS)⟩
    · exact (hv.2 y hy).keep hb.size fun b hS hl => ⟨hb.block b hl, .inl hS⟩
  obtain ⟨ao, cap, rfl, hm, hxx⟩ := hv.open
  clear hv hx hm
  obtain ⟨n, hn⟩ : ∃ n, L.length = n := ⟨_, rfl⟩
  rw [hn] at hL hno HP ⊢
  have HN : Hid (L.length = n) := hn
  have HX : Hid (∀ i x, L[i]? = some x → (∃ b off, ao = some ⟨b, off, none⟩ ∧ b < w.heap.size ∧ eight w b (off + i * 8) x) ∧ Good S w x) := hxx
  have HPP : Hid (pl (if no = n then L ++ [x] else L.set no x) = put (pl L) no x.i) := HP
  clear hn hxx HP
  obtain ⟨X, hX⟩ : ∃ X, X = x := ⟨_, rfl⟩
  rw [← hX] at HGALL HPP
  rw [← hX]
  obtain ⟨⟨g, k, l, s, t, rs, es, nx⟩, rp, rn, rc, ep, en, ec⟩ := x
  have HVI : Hid (VI X = .agg #[.int .i64 g, .int .i64 k, .int .i64 l, .int .i64 s, .int .i64 t, .slice rp rn rc, .slice ep en ec, .int .i64 nx]) := by show VI X = _; rw [hX]
  have HXC : Hid (Obj.cells (EI.cells X).toArray 65 (0, 0) = B8 g k l s t (.slice rp rn rc) (.slice ep en ec) nx) := by show _ = _; rw [hX]; rfl
  rw [HVI.out]
  clear hX
  obtain ⟨W, hW⟩ : ∃ W, W = w.alloc (B8 g k l s t (.slice rp rn rc) (.slice ep en ec) nx) := ⟨_, rfl⟩
  have HB0 : Hid (Below w.heap.size w W) := by show Below w.heap.size w W; rw [hW]; exact (Below.refl _ w).alloc (Nat.le_refl _) _
  have HA0 : Hid (W.heap[w.heap.size]? = some (B8 g k l s t (.slice rp rn rc) (.slice ep en ec) nx)) := by show W.heap[w.heap.size]? = _; rw [hW]; exact heap_alloc_new _ _
  have hws : w.heap.size < W.heap.size := by rw [hW]; simp
  go_enter Tryz.func87, Tryz.ntmps87
  go_wp2
  rw [← hW]
  clear hW
  go_loopw [7, 12] (fun u i wr => ∃ j : Nat, j ≤ n ∧ i = .int .i64 j ∧ Row EI wr W.heap.size 65 u ((L.set no X).take j) ∧ Hid (Below W.heap.size W wr)) (fun _ i _ => n - (intOf i).toNat)
  case atStart => exact ⟨0, Nat.zero_le _, rfl, Row.nil _ _ _ _, Below.refl _ _⟩
  case round =>
    obtain ⟨j, hj, rfl, hrow, HB⟩ := hrel
    have HA1 : Hid (wr.heap[w.heap.size]? = some (B8 g k l s t (.slice rp rn rc) (.slice ep en ec) nx)) := (HB.out.block _ hws).trans HA0.out
    have hbs := HB.out.size
    obtain ⟨pu, cu, hu⟩ := hrow.slice
    obtain ⟨q, hq⟩ : ∃ q, ((L.set no X).take j).length = q := ⟨_, rfl⟩
    have hqj : q = j := by rw [← hq]; simp [HN.out]; omega
    rw [hq] at hu
    have HQ : Hid (((L.set no X).take j).length = q) := hq
    have hq24 : q ≤ 24 := by omega
    subst hu
    by_cases hlt : j < n
    · obtain ⟨y, hyk⟩ : ∃ y, L[j]? = some y := ⟨_, List.getElem?_eq_getElem (by rw [HN.out]; exact hlt)⟩
      obtain ⟨⟨b, off, rfl, hB, hc⟩, _⟩ := HX.out j y hyk
      obtain ⟨d0, d1, d2, d3, d4, d5, d6, d7⟩ := hc.below (HB0.out.trans (HB.out.mono HB0.out.size)) hB
      have hlt' : (j : Int) < (n : Int) := by omega
      have HR : Hid (Row EI wr W.heap.size 65 (.slice pu q cu) ((L.set no X).take j)) := hrow
      obtain ⟨Y, hY⟩ : ∃ Y, Y = y := ⟨_, rfl⟩
      rw [← hY] at hyk
      obtain ⟨⟨yg, yk, yl, ys, yt, yrs, yes, ynx⟩, yrp, yrn, yrc, yep, yen, yec⟩ := y
      simp only at d0 d1 d2 d3 d4 d5 d6 d7
      have HYC : Hid (Obj.cells (EI.cells Y).toArray 65 (0, 0) = B8 yg yk yl ys yt (.slice yrp yrn yrc) (.slice yep yen yec) ynx) := by show _ = _; rw [hY]; rfl
      have HYK : Hid (L[j]? = some Y) := hyk
      clear hrow hyk hc hB hY
      by_cases hjn : j = no
      · have HT : Hid ((L.set no X).take (j + 1) = (L.set no X).take j ++ [X]) := It.take_succ (by rw [hjn, List.getElem?_set_self (by rw [HN.out]; omega)])
        have hjn' : ((j : Int) == (no : Int)) = true := by simp [hjn]
        have HA2 : Hid ((wr.alloc (B8 yg yk yl ys yt (.slice yrp yrn yrc) (.slice yep yen yec) ynx)).heap[w.heap.size]? = some (B8 g k l s t (.slice rp rn rc) (.slice ep en ec) nx)) := (Below.heap_alloc _ _ _ (by omega)).trans HA1.out
        obtain ⟨q0, q1, q2, q3, q4, q5, q6, q7⟩ := (eight_of HA2.out).1
        have HI : Hid (AtW EI ((wr.alloc (B8 yg yk yl ys yt (.slice yrp yrn yrc) (.slice yep yen yec) ynx)).alloc (B8 g k l s t (.slice rp rn rc) (.slice ep en ec) nx)) (.slice (some ⟨wr.heap.size + 1, 0, none⟩) 1 1) [X]) := by
          refine one_tab _ _ _ _ trivial ?_
          rw [HXC.out]
          have := heap_alloc_new (wr.alloc (B8 yg yk yl ys yt (.slice yrp yrn yrc) (.slice yep yen yec) ynx)) (B8 g k l s t (.slice rp rn rc) (.slice ep en ec) nx)
          rwa [show (wr.alloc (B8 yg yk yl ys yt (.slice yrp yrn yrc) (.slice yep yen yec) ynx)).heap.size = wr.heap.size + 1 by simp] at this
        clear hjn
        go_wp2_with (at_builtin; refine wpList_row _ rfl _ _ 22 rfl EI (fun _ => True) W.heap.size 65 i0 (.agg #[.int .i64 0, .int .i64 0, .int .i64 0, .int .i64 0, .int .i64 0, .slice none 0 0, .slice none 0 0, .int .i64 0]) 96 Tryz.underlying22 hi hz0 hz1 hz2 rfl (.slice pu q cu) ((L.set no X).take j) rfl ((HR.out.still (World.grownBy_alloc _ _ _)).still (World.grownBy_alloc _ _ _)) _ [X] rfl HI.out (by rw [HQ.out]; unfold maxLen; simp; omega) (by rw [HQ.out]; simp; omega) (by simp; omega) ?_; intro v7 w7 hrow7 hg7 hmv7)
        have HB7 : Hid (Below W.heap.size W w7) := ((HB.out.alloc hbs _).alloc (by simp; omega) _).grown hg7 (by simp; omega) (fun i hi => (HR.out.lt i hi).1)
        have HR7 : Hid (Row EI w7 W.heap.size 65 v7 ((L.set no X).take j ++ [X])) := hrow7
        clear hrow7 hg7 hmv7
        go_wp2
        go_roundw
        case rel => exact ⟨j + 1, by omega, by go_num, by rw [HT.out]; exact HR7.out, HB7⟩
        case measure => simp [intOf]; omega
      · have HT : Hid ((L.set no X).take (j + 1) = (L.set no X).take j ++ [Y]) := It.take_succ (by rw [List.getElem?_set_ne (fun e => hjn e.symm)]; exact HYK.out)
        have hjn' : ((j : Int) == (no : Int)) = false := by simp; omega
        have HI : Hid (AtW EI ((wr.alloc (B8 yg yk yl ys yt (.slice yrp yrn yrc) (.slice yep yen yec) ynx)).alloc (B8 yg yk yl ys yt (.slice yrp yrn yrc) (.slice yep yen yec) ynx)) (.slice (some ⟨wr.heap.size + 1, 0, none⟩) 1 1) [Y]) := by
          refine one_tab _ _ _ _ trivial ?_
          rw [HYC.out]
          have := heap_alloc_new (wr.alloc (B8 yg yk yl ys yt (.slice yrp yrn yrc) (.slice yep yen yec) ynx)) (B8 yg yk yl ys yt (.slice yrp yrn yrc) (.slice yep yen yec) ynx)
          rwa [show (wr.alloc (B8 yg yk yl ys yt (.slice yrp yrn yrc) (.slice yep yen yec) ynx)).heap.size = wr.heap.size + 1 by simp] at this
        clear hjn
        go_wp2_with (at_builtin; refine wpList_row _ rfl _ _ 22 rfl EI (fun _ => True) W.heap.size 65 i0 (.agg #[.int .i64 0, .int .i64 0, .int .i64 0, .int .i64 0, .int .i64 0, .slice none 0 0, .slice none 0 0, .int .i64 0]) 96 Tryz.underlying22 hi hz0 hz1 hz2 rfl (.slice pu q cu) ((L.set no X).take j) rfl ((HR.out.still (World.grownBy_alloc _ _ _)).still (World.grownBy_alloc _ _ _)) _ [Y] rfl HI.out (by rw [HQ.out]; unfold maxLen; simp; omega) (by rw [HQ.out]; simp; omega) (by simp; omega) ?_; intro v7 w7 hrow7 hg7 hmv7)
        have HB7 : Hid (Below W.heap.size W w7) := ((HB.out.alloc hbs _).alloc (by simp; omega) _).grown hg7 (by simp; omega) (fun i hi => (HR.out.lt i hi).1)
        have HR7 : Hid (Row EI w7 W.heap.size 65 v7 ((L.set no X).take j ++ [Y])) := hrow7
        clear hrow7 hg7 hmv7
        go_wp2
        go_roundw
        case rel => exact ⟨j + 1, by omega, by go_num, by rw [HT.out]; exact HR7.out, HB7⟩
        case measure => simp [intOf]; omega
    · obtain rfl : j = n := by omega
      have HR : Hid (Row EI wr W.heap.size 65 (.slice pu q cu) (L.set no X)) := by
        rw [List.take_of_length_le (by simp [HN.out])] at hrow
        exact hrow
      have HLS : Hid ((L.set no X).length = j) := by show (L.set no X).length = j; simp [HN.out]
      have HBW : Hid (Below w.heap.size w wr) := HB0.out.trans (HB.out.mono HB0.out.size)
      clear hrow hq HQ
      subst hqj
      by_cases hno2 : no = q
      · have hno' : ((no : Int) == (q : Int)) = true := by simp [hno2]
        obtain ⟨q0, q1, q2, q3, q4, q5, q6, q7⟩ := (eight_of HA1.out).1
        have HLX : Hid (L.set no X = L) := by show L.set no X = L; rw [List.set_eq_of_length_le (by rw [HN.out]; omega)]
        have HEND : Hid ((if no = q then L ++ [X] else L.set no X) = L.set no X ++ [X]) := by show (if no = q then L ++ [X] else L.set no X) = L.set no X ++ [X]; rw [if_pos hno2, HLX.out]
        have HI : Hid (AtW EI (wr.alloc (B8 g k l s t (.slice rp rn rc) (.slice ep en ec) nx)) (.slice (some ⟨wr.heap.size, 0, none⟩) 1 1) [X]) := by
          refine one_tab _ _ _ _ trivial ?_
          rw [HXC.out]
          exact heap_alloc_new _ _
        clear hno2
        go_wp2_with (at_builtin; refine wpList_row _ rfl _ _ 22 rfl EI (fun _ => True) W.heap.size 65 i0 (.agg #[.int .i64 0, .int .i64 0, .int .i64 0, .int .i64 0, .int .i64 0, .slice none 0 0, .slice none 0 0, .int .i64 0]) 96 Tryz.underlying22 hi hz0 hz1 hz2 rfl (.slice pu q cu) (L.set no X) rfl (HR.out.still (World.grownBy_alloc _ _ _)) _ [X] rfl HI.out (by rw [HLS.out]; unfold maxLen; simp; omega) (by rw [HLS.out]; simp; omega) (by simp; omega) ?_; intro v7 w7 hrow7 hg7 hmv7)
        have hbw7 : Below w.heap.size w w7 := (HBW.out.alloc HBW.out.size _).grown hg7 (by simp; have := HBW.out.size; omega) (fun i hi => by have := (HR.out.lt i hi).1; omega)
        have HB7 : Hid (Below w.heap.size w w7) := hbw7
        have HR7 : Hid (Row EI w7 W.heap.size 65 v7 (L.set no X ++ [X])) := hrow7
        obtain ⟨p7, c7, hv7⟩ := hrow7.slice
        generalize (L.set no X ++ [X]).length = m7 at hv7
        subst hv7
        clear hrow7 hg7 hmv7 hbw7
        go_wp2
        go_ret
        refine ⟨_, L.set no X ++ [X], rfl, ⟨HR7.out.at.imp fun b hb _ => .inr (.inr (by omega)), fun z hz => ?_⟩, by rw [← HEND.out]; exact HPP.out, HB7.out⟩
        refine HGALL.out z ?_ _ HB7.out
        rcases List.mem_append.1 hz with hz | hz
        · rw [HLX.out] at hz
          exact .inr hz
        · simp at hz
          exact .inl hz
      · have hno' : ((no : Int) == (q : Int)) = false := by simp; omega
        have HEND : Hid ((if no = q then L ++ [X] else L.set no X) = L.set no X) := if_neg hno2
        clear hno2
        go_wp2
        go_ret
        refine ⟨_, L.set no X, rfl, ⟨HR.out.at.imp fun b hb _ => .inr (.inr (by omega)), fun z hz => ?_⟩, by rw [← HEND.out]; exact HPP.out, HBW.out⟩
        refine HGALL.out z ?_ _ HBW.out
        rcases List.mem_or_eq_of_mem_set hz with hz | hz
        · exact .inr hz
        · exact .inl hz
end Go.Proofs.YtacghcoikekfeaaGreat
