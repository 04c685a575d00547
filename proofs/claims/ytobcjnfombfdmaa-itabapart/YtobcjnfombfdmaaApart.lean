/-
  For any table, any handle and any inode sextonlaw09.ItabApart returns true, whatever the memory: what was put is found, and all others are as they were. No condition.
-/
import Derived.Test.YtobcjnfombfdmaaPut
import Derived.Test.YtobcjnfombfdmaaSame
import Derived.Test.YtobcjnfombfdmaaOpenT
import Derived.Test.YtobcjnfombfdmaaPlainS
import Derived.Test.YtobcjnfombfdmaaLaw
namespace Go.Proofs.Ytobcjnfombfdmaa
open Go.ChangeShapes Go.WideShapes Go.ChangeAt Go.RowKit Go.Deep It

theorem It.put_ok {L : List Ino} {a b : Int} {x : Ino} (h : putErr L a b x = 0) : ∃ no : Nat, a = (no : Int) ∧ no < L.length ∧ L.length ≤ 24 ∧ putTab L a b x = put L no x ∧ It.right (put L no x) = true ∧ findErr (put L no x) no b = 0 ∧ findI (put L no x) no b = x := by
  have ht : putTab L a b x = put L a.toNat x := by unfold putTab; rw [if_pos h]
  unfold putErr at h
  split at h
  · rename_i hf
    split at h
    · rename_i hc
      split at h
      · rename_i hr
        have hrn : It.right L = true ∧ names L a b = true := by
          unfold findErr at hf
          split at hf
          · rename_i h1
            split at hf
            · rename_i h2
              exact ⟨h1, h2⟩
            · cases hf
          · cases hf
        obtain ⟨no, y, hy, rfl, _, _⟩ := It.names_iff.1 hrn.2
        have hlt : no < L.length := (List.getElem?_eq_some_iff.1 hy).1
        rw [show ((no : Int)).toNat = no from by omega] at hr ht
        have hp := put_at (L := L) (x := x) (Nat.le_of_lt hlt) no
        rw [if_pos rfl] at hp
        have hn : names (put L no x) no b = true := by rw [names_some hp]; exact decide_eq_true hc
        have hf2 : findErr (put L no x) no b = 0 := by rw [find_err hr, if_pos hn]
        refine ⟨no, rfl, hlt, (right_len24 hrn.1).2, ht, hr, hf2, ?_⟩
        unfold findI
        rw [if_pos hf2, show ((no : Int)).toNat = no from by omega, hp]
        rfl
      · cases h
    · cases h
  · rename_i hf
    exact absurd h hf
theorem At.sub {α : Type} {E : Enc α} {S : Nat → Prop} {w : World} {ao : Option Addr} {n cap : Nat} {l : List α} (h : At E S w (.slice ao n cap) l) {i : Nat} {x : α} (hx : l[i]? = some x) :
    ∃ b off, ao = some ⟨b, off, none⟩ ∧ i + 1 ≤ cap ∧ cap ≤ maxLen ∧ At E S w (.slice (some ⟨b, off + i * E.sz, none⟩) 1 (cap - i)) [x] := by
  have hlt : i < l.length := (List.getElem?_eq_some_iff.1 hx).1
  rcases h with ⟨_, _, _, rfl⟩ | ⟨b, off, c, hv, hS, hb, hp, hc, hm, hcell⟩
  · simp at hx
  · simp only [Value.slice.injEq] at hv
    obtain ⟨rfl, rfl, rfl⟩ := hv
    refine ⟨b, off, rfl, by omega, hm, .inr ⟨b, off + i * E.sz, cap - i, rfl, hS, hb, by simp, by simp; omega, by omega, fun j u hj => ?_⟩⟩
    have hj' : (E.cells x)[j]? = some u := by simpa [Enc.flat] using hj
    have := hcell _ _ (E.flat_at l i x hx j u hj')
    rw [Nat.add_assoc]
    exact this
theorem TabAt.sub {S : Nat → Prop} {w : World} {ao : Option Addr} {n cap : Nat} {L : List Rw} (h : TabAt S w (.slice ao n cap) L) {i : Nat} {x : Rw} (hx : L[i]? = some x) :
    ∃ b off, ao = some ⟨b, off, none⟩ ∧ i + 1 ≤ cap ∧ cap ≤ maxLen ∧ TabAt S w (.slice (some ⟨b, off + i * 8, none⟩) 1 (cap - i)) [x] := by
  obtain ⟨b, off, h1, h2, h3, h4⟩ := h.1.sub hx
  exact ⟨b, off, h1, h2, h3, h4, fun y hy => by
    simp at hy
    subst hy
    exact h.2 y (List.mem_of_getElem? hx)⟩
theorem one_tabW {w : World} {B : Nat} {x : Rw} (h : w.heap[B]? = some (.cells (EI.cells x).toArray 29 (0, 0))) (hg : GoodW w x) : TabW w (.slice (some ⟨B, 0, none⟩) 1 1) [x] :=
  ⟨one_tab _ _ _ _ trivial h, fun y hy => by
    simp at hy
    subst hy
    exact hg⟩

set_option maxHeartbeats 8000000 in
set_option maxRecDepth 100000 in
theorem apart_any {S T : Nat → Prop} (v : Value) (L : List Rw) (a b : Int) (x : Rw) (w : World) (hv : TabAt S w v L) (hx : Good T w x) :
    Calls Try.prog 8 #[v, .agg #[.int .i64 a, .int .i64 b], VI x] w fun e w' => e = .returned (.bool true) ∧ Below w.heap.size w w' := by
  replace hx : GoodW w x := hx.imp fun _ _ _ => trivial
  replace hv : TabW w v L := hv.wide
  obtain ⟨W, hW⟩ : ∃ W, W = (w.alloc (BH a b)).alloc (B8 x.i.gen x.i.kind x.i.links x.i.size x.i.stamp (.slice x.rp x.rn x.rc) (.slice x.ep x.en x.ec) x.i.next) := ⟨_, rfl⟩
  have HB0 : Hid (Below w.heap.size w W) := by show Below w.heap.size w W; rw [hW]; exact ((Below.refl _ w).alloc (Nat.le_refl _) _).alloc (by simp) _
  have HA0 : Hid (W.heap[w.heap.size]? = some (BH a b) ∧ W.heap[w.heap.size + 1]? = some (B8 x.i.gen x.i.kind x.i.links x.i.size x.i.stamp (.slice x.rp x.rn x.rc) (.slice x.ep x.en x.ec) x.i.next)) := by
    rw [hW]
    refine ⟨(Below.heap_alloc _ _ _ (by simp)).trans (heap_alloc_new _ _), ?_⟩
    have := heap_alloc_new (w.alloc (BH a b)) (B8 x.i.gen x.i.kind x.i.links x.i.size x.i.stamp (.slice x.rp x.rn x.rc) (.slice x.ep x.en x.ec) x.i.next)
    rwa [show (w.alloc (BH a b)).heap.size = w.heap.size + 1 by simp] at this
  have hws : w.heap.size + 1 < W.heap.size := by rw [hW]; simp
  have HV : Hid (TabW W v L) := hv.up HB0.out
  have HGX : Hid (GoodW W x) := hx.up HB0.out
  obtain ⟨ao, cap, rfl, _, _⟩ := hv.open
  obtain ⟨n, hn⟩ : ∃ n, L.length = n := ⟨_, rfl⟩
  rw [hn] at HV ⊢
  have HN : Hid (L.length = n) := hn
  have HXX : Hid (∀ W', Below W.heap.size W W' → GoodW W' x) := fun W' hb => (hx.up HB0.out).up hb
  obtain ⟨X, hX⟩ : ∃ X, X = x := ⟨_, rfl⟩
  rw [← hX] at HGX HXX
  rw [← hX]
  obtain ⟨⟨g, k, l, s, t, rs, es, nx⟩, rp, rn, rc, ep, en, ec⟩ := x
  simp only at hW HA0
  have HVI : Hid (VI X = .agg #[.int .i64 g, .int .i64 k, .int .i64 l, .int .i64 s, .int .i64 t, .slice rp rn rc, .slice ep en ec, .int .i64 nx]) := by show VI X = _; rw [hX]
  have HXC : Hid (Obj.cells (EI.cells X).toArray 29 (0, 0) = B8 g k l s t (.slice rp rn rc) (.slice ep en ec) nx) := by show _ = _; rw [hX]; rfl
  rw [HVI.out]
  clear hv hx hn hX
  by_cases hpe : putErr (pl L) a b X.i = 0
  · obtain ⟨no, rfl, hnl, h24, hpt, hrt, hfe, hfi⟩ := It.put_ok hpe
    have HPE : Hid (putErr (pl L) no b X.i = 0 ∧ putTab (pl L) no b X.i = put (pl L) no X.i ∧ It.right (put (pl L) no X.i) = true ∧ findErr (put (pl L) no X.i) no b = 0 ∧ findI (put (pl L) no X.i) no b = X.i ∧ no < n ∧ n ≤ 24) := ⟨hpe, hpt, hrt, hfe, hfi, by simpa [pl, HN.out] using hnl, by simpa [pl, HN.out] using h24⟩
    have hn24 : n ≤ 24 := HPE.out.2.2.2.2.2.2
    clear hpe hpt hrt hfe hfi hnl h24
    go_enter Try.func8, Try.ntmps8
    go_wp2_with fail
    rw [← hW, ← HVI.out]
    refine (put_any _ L no b X _ HV.out HGX.out).mono ?_
    rintro e w1 ⟨tb, L1, rfl, ht1, hp1, hb1⟩
    rw [HPE.out.1]
    rw [HPE.out.2.1] at hp1
    have HP1 : Hid (pl L1 = put (pl L) no X.i) := hp1
    have hl1 : L1.length = n := by
      have h := congrArg List.length hp1
      rw [put_length] at h
      have h2 := HPE.out.2.2.2.2.2.1
      simp only [pl, List.length_map, HN.out] at h
      rw [if_pos h2] at h
      omega
    obtain ⟨ap, cp, rfl, _, _⟩ := ht1.open
    rw [hl1] at ht1 ⊢
    have HT1 : Hid (TabW w1 (.slice ap n cp) L1) := ht1.wide
    have HV1 : Hid (TabW w1 (.slice ao n cap) L) := HV.out.up hb1
    have HB1 : Hid (Below w.heap.size w w1) := HB0.out.trans (hb1.mono HB0.out.size)
    have HW1 : Hid (Below W.heap.size W w1) := hb1
    have HA1 : Hid (w1.heap[w.heap.size]? = some (BH no b) ∧ w1.heap[w.heap.size + 1]? = some (B8 g k l s t (.slice rp rn rc) (.slice ep en ec) nx)) := ⟨(hb1.block _ (by omega)).trans HA0.out.1, (hb1.block _ hws).trans HA0.out.2⟩
    obtain ⟨⟨e0, e1⟩, _⟩ := two_of HA1.out.1
    have hws1 : w.heap.size + 1 < w1.heap.size := by have := hb1.size; omega
    clear ht1 hp1 hb1 hW HV hl1 HA0
    go_wp2_with fail
    refine (find_any _ L1 no b _ HT1.out).mono ?_
    rintro e w2 ⟨y, rfl, hyi, hyg, hb2⟩
    rw [HP1.out] at hyi ⊢
    rw [HPE.out.2.2.2.1]
    rw [HPE.out.2.2.2.2.1] at hyi
    have hyg0 : GoodW w2 y := hyg
    obtain ⟨Y, hY⟩ : ∃ Y, Y = y := ⟨_, rfl⟩
    rw [← hY] at hyi hyg0
    obtain ⟨⟨yg, yk, yl, ys, yt, yrs, yes, ynx⟩, yrp, yrn, yrc, yep, yen, yec⟩ := y
    have HYC : Hid (Obj.cells (EI.cells Y).toArray 29 (0, 0) = B8 yg yk yl ys yt (.slice yrp yrn yrc) (.slice yep yen yec) ynx) := by show _ = _; rw [hY]; rfl
    obtain ⟨W3, hW3⟩ : ∃ W3, W3 = w2.alloc (B8 yg yk yl ys yt (.slice yrp yrn yrc) (.slice yep yen yec) ynx) := ⟨_, rfl⟩
    obtain ⟨W4, hW4⟩ : ∃ W4, W4 = W3.alloc (B8 yg yk yl ys yt (.slice yrp yrn yrc) (.slice yep yen yec) ynx) := ⟨_, rfl⟩
    obtain ⟨W5, hW5⟩ : ∃ W5, W5 = W4.alloc (B8 g k l s t (.slice rp rn rc) (.slice ep en ec) nx) := ⟨_, rfl⟩
    have b3 : Below w2.heap.size w2 W3 := by rw [hW3]; exact (Below.refl _ _).alloc (Nat.le_refl _) _
    have b4 : Below W3.heap.size W3 W4 := by rw [hW4]; exact (Below.refl _ _).alloc (Nat.le_refl _) _
    have b5 : Below W4.heap.size W4 W5 := by rw [hW5]; exact (Below.refl _ _).alloc (Nat.le_refl _) _
    have b25 : Below w2.heap.size w2 W5 := (b3.trans (b4.mono b3.size)).trans (b5.mono (by have := b3.size; have := b4.size; omega))
    have b15 : Below w1.heap.size w1 W5 := hb2.trans (b25.mono hb2.size)
    have HB5 : Hid (Below w.heap.size w W5) := HB1.out.trans (b15.mono HB1.out.size)
    have s3 : W3.heap.size = w2.heap.size + 1 := by rw [hW3]; simp
    have s4 : W4.heap.size = w2.heap.size + 1 + 1 := by rw [hW4]; simp [s3]
    have hy4 : W5.heap[w2.heap.size + 1]? = some (Obj.cells (EI.cells Y).toArray 29 (0, 0)) := by
      rw [hW5, Below.heap_alloc _ _ _ (by omega), hW4, HYC.out, ← s3]
      exact heap_alloc_new _ _
    have hx5 : W5.heap[w2.heap.size + 1 + 1]? = some (Obj.cells (EI.cells X).toArray 29 (0, 0)) := by
      rw [hW5, HXC.out, ← s4]
      exact heap_alloc_new _ _
    have HTY : Hid (TabW W5 (.slice (some ⟨w2.heap.size + 1, 0, none⟩) 1 1) [Y]) := one_tabW hy4 (hyg0.up b25)
    have HTX : Hid (TabW W5 (.slice (some ⟨w2.heap.size + 1 + 1, 0, none⟩) 1 1) [X]) := one_tabW hx5 (HXX.out _ (HW1.out.trans (b15.mono HW1.out.size)))
    have HYX : Hid (pl [Y] = pl [X]) := by show [Y.i] = [X.i]; rw [hyi]
    have HT5 : Hid (TabW W5 (.slice ap n cp) L1) := HT1.out.up b15
    have HV5 : Hid (TabW W5 (.slice ao n cap) L) := HV1.out.up b15
    have HA5 : Hid (W5.heap[w.heap.size]? = some (BH no b)) := (b15.block _ (by omega)).trans HA1.out.1
    have HA2 : Hid (W4.heap[w.heap.size + 1]? = some (B8 g k l s t (.slice rp rn rc) (.slice ep en ec) nx)) := by
      have h2 := (hb2.block _ hws1).trans HA1.out.2
      have hs2 := hb2.size
      show W4.heap[w.heap.size + 1]? = _
      rw [hW4, Below.heap_alloc _ _ _ (by omega), hW3, Below.heap_alloc _ _ _ (by omega)]
      exact h2
    have hy3 : W3.heap[w2.heap.size]? = some (B8 yg yk yl ys yt (.slice yrp yrn yrc) (.slice yep yen yec) ynx) := by rw [hW3]; exact heap_alloc_new _ _
    obtain ⟨q0, q1, q2, q3, q4, q5, q6, q7⟩ := (eight_of HA2.out).1
    obtain ⟨z0, z1, z2, z3, z4, z5, z6, z7⟩ := (eight_of hy3).1
    rw [hW4] at q0 q1 q2 q3 q4 q5 q6 q7
    rw [hW3] at q0 q1 q2 q3 q4 q5 q6 q7 z0 z1 z2 z3 z4 z5 z6 z7
    clear hyg hyg0 hyi hb2 b3 b4 b5 b25 b15 hy4 hx5 e0 e1 hy3
    go_wp2_with fail
    rw [hW4, hW3] at hW5
    rw [show w2.heap.size + 1 + 1 = w2.heap.size + 2 from rfl] at HTX
    (try rw [← hW5])
    refine (inodes_same _ _ [Y] [X] _ HTY.out HTX.out HYX.out).mono ?_
    rintro e w6 ⟨rfl, hb6⟩
    have HB6 : Hid (Below w.heap.size w w6) := HB5.out.trans (hb6.mono HB5.out.size)
    have HT6 : Hid (TabW w6 (.slice ap n cp) L1) := HT5.out.up hb6
    have HV6 : Hid (TabW w6 (.slice ao n cap) L) := HV5.out.up hb6
    have HA6 : Hid (w6.heap[w.heap.size]? = some (BH no b)) := (hb6.block _ (Array.getElem?_eq_some_iff.1 HA5.out).1).trans HA5.out
    clear hb6 hW5 hW4 hW3 q0 q1 q2 q3 q4 q5 q6 q7 z0 z1 z2 z3 z4 z5 z6 z7
    go_wp2
    go_loopw [52] (fun i wr => ∃ j : Nat, j ≤ n ∧ i = .int .i64 j ∧ Below w6.heap.size w6 wr) (fun i _ => n - (intOf i).toNat)
    case atStart => exact ⟨0, Nat.zero_le _, rfl, Below.refl _ _⟩
    case round =>
      obtain ⟨j, hj, rfl, hbl⟩ := hrel
      have HA7 : Hid (wr.heap[w.heap.size]? = some (BH no b)) := (hbl.block _ (Array.getElem?_eq_some_iff.1 HA6.out).1).trans HA6.out
      obtain ⟨⟨e0, e1⟩, _⟩ := two_of HA7.out
      by_cases hjn : j < n
      · have hjI : (j : Int) < (n : Int) := by omega
        by_cases hjo : j = no
        · have hjo' : ((j : Int) != (no : Int)) = false := by simp [hjo]
          have HB7 : Hid (Below w6.heap.size w6 wr) := hbl
          clear hjo hbl
          go_wp2
          go_quiet (fail)
          go_wp2
          go_roundw
          case rel => exact ⟨j + 1, by omega, by go_num, Go.below_drewN HB7.out _⟩
          case measure => simp [intOf]; omega
        · have hjo' : ((j : Int) != (no : Int)) = true := by simp; omega
          obtain ⟨x1, hx1⟩ : ∃ y, L[j]? = some y := ⟨_, List.getElem?_eq_getElem (by rw [HN.out]; exact hjn)⟩
          obtain ⟨y1, hy1⟩ : ∃ y, L1[j]? = some y := by
            have h := congrArg List.length HP1.out
            rw [put_length] at h
            have h2 := HPE.out.2.2.2.2.2.1
            simp only [pl, List.length_map, HN.out] at h
            rw [if_pos h2] at h
            exact ⟨_, List.getElem?_eq_getElem (by omega)⟩
          have hxy : y1.i = x1.i := by
            have h := congrArg (fun l => l[j]?) HP1.out
            rw [put_at (by simp only [pl, List.length_map, HN.out]; have := HPE.out.2.2.2.2.2.1; omega), if_neg hjo] at h
            simp only [pl, List.getElem?_map, hx1, hy1, Option.map_some, Option.some.injEq] at h
            exact h
          obtain ⟨b1, o1, rfl, hc1, hm1, hs1⟩ := (HT6.out.up hbl).sub hy1
          obtain ⟨b2, o2, rfl, hc2, hm2, hs2⟩ := (HV6.out.up hbl).sub hx1
          have HI : Hid (∀ W', wr.grownBy W' none → Calls Try.prog 14 #[.slice (some ⟨b1, o1 + j * 8, none⟩) 1 (cp - j), .slice (some ⟨b2, o2 + j * 8, none⟩) 1 (cap - j)] W' fun e w' => e = .returned (.bool true) ∧ Below W'.heap.size W' w') := fun W' hW' =>
            inodes_same _ _ [y1] [x1] W' (hs1.up (below_none hW' (Nat.le_refl _))) (hs2.up (below_none hW' (Nat.le_refl _))) (by show [y1.i] = [x1.i]; rw [hxy])
          have f0 : ∀ p : Grw wr, p.out.cell? ⟨w.heap.size, 0, none⟩ = some (.int .i64 no) := fun p => p.grown.cell e0 (by simp)
          have HB7 : Hid (Below w6.heap.size w6 wr) := hbl
          have hne9 : Nonempty (Grw wr) := grw_some wr
          unfold maxLen at hm1 hm2
          have hc1I : (j : Int) + 1 ≤ (cp : Int) := by omega
          have hc2I : (j : Int) + 1 ≤ (cap : Int) := by omega
          have hj0 : (0 : Int) ≤ (j : Int) := by omega
          have hjs : j + 1 - j = 1 := by omega
          clear hjo hbl hx1 hy1 hxy hs1 hs2 e0 e1
          go_wp2_with fail
          refine wp_region_grw (by kernel_rfl) (by kernel_rfl) ?_
          repeat (go_big_quiet_step (first | (go_at_call 14; refine calls_grw (Grw.grown _) (HI.out _ (Grw.grown _)))))
          refine wpQuiet_nil ?_
          rintro wq ⟨p, rfl⟩
          have HBq : Hid (Below w6.heap.size w6 p.out) := HB7.out.trans (p.below.mono HB7.out.size)
          go_wp2
          go_roundw
          case rel => exact ⟨j + 1, by omega, by go_num, HBq.out⟩
          case measure => simp [intOf]; omega
      · obtain rfl : j = n := by omega
        have HB7 : Hid (Below w.heap.size w wr) := HB6.out.trans (hbl.mono HB6.out.size)
        have HT7 : Hid (TabW wr (.slice ap j cp) L1) := HT6.out.up hbl
        have HC7 : Hid (It.checkErr (pl L1) = 0) := by show It.checkErr (pl L1) = 0; unfold It.checkErr; rw [HP1.out, if_pos HPE.out.2.2.1]
        clear hbl e0 e1
        go_wp2_with fail
        refine (check_any _ L1 _ HT7.out).mono ?_
        rintro e w8 ⟨rfl, hb8⟩
        rw [HC7.out]
        have HB8 : Hid (Below w.heap.size w w8) := HB7.out.trans (hb8.mono HB7.out.size)
        clear hb8
        go_wp2_with fail
        refine (again_any _).mono ?_
        rintro e w9 ⟨rfl, hb9⟩
        have HB9 : Hid (Below w.heap.size w w9) := HB8.out.trans (hb9.mono HB8.out.size)
        clear hb9
        go_wp2
        go_ret
        exact ⟨rfl, HB9.out⟩
  · obtain ⟨pe, hpe'⟩ : ∃ pe, putErr (pl L) a b X.i = pe := ⟨_, rfl⟩
    have HPE : Hid (putErr (pl L) a b X.i = pe ∧ putTab (pl L) a b X.i = []) := ⟨hpe', by unfold putTab; rw [if_neg hpe]⟩
    rw [hpe'] at hpe
    have hpz : (pe == 0) = false := by simp [hpe]
    clear hpe hpe'
    go_enter Try.func8, Try.ntmps8
    go_wp2_with fail
    rw [← hW, ← HVI.out]
    refine (put_any _ L a b X _ HV.out HGX.out).mono ?_
    rintro e w1 ⟨tb, L1, rfl, ht1, hp1, hb1⟩
    rw [HPE.out.1]
    rw [HPE.out.2] at hp1
    have hl1 : L1.length = 0 := by have h := congrArg List.length hp1; simpa [pl] using h
    obtain ⟨ap, cp, rfl, _, _⟩ := ht1.open
    rw [hl1]
    have HB1 : Hid (Below w.heap.size w w1) := HB0.out.trans (hb1.mono HB0.out.size)
    clear ht1 hp1 hb1 hW HV hl1
    go_wp2_with fail
    refine (again_any _).mono ?_
    rintro e w9 ⟨rfl, hb9⟩
    have HB9 : Hid (Below w.heap.size w w9) := HB1.out.trans (hb9.mono HB1.out.size)
    clear hb9
    go_wp2
    go_ret
    exact ⟨rfl, HB9.out⟩

set_option maxRecDepth 100000 in
theorem itabApart_lifted (os : Os) (started : os.Started) (H : Type) (enc : TypeId × Value → H) :
    ReturnsInHanded {} Try.checked os 8 .any (Rows.itabApartSpec.pre6 enc Try.prog Try.f8 Rows.itabApartRow.domain false) (Rows.itabApartSpec.post enc Try.prog Try.f8 false true false false) := by
  refine returnsInHanded_of_change_sized (C := Try.checked) own started (by kernel_rfl) Try.func8
    (ChangeSpec.witness6 (enc := enc) (C := Try.checked) false ⟨#[], #[.slice none 0 0, .agg #[.int .i64 0, .int .i64 0], .agg #[.int .i64 0, .int .i64 0, .int .i64 0, .int .i64 0, .int .i64 0, .slice none 0 0, .slice none 0 0, .int .i64 0]], []⟩ 8 (by kernel_rfl) (by kernel_rfl) (by kernel_rfl) (by kernel_rfl)) ?_
  intro W base args ds gs before hval0 hW hcnd hsized _
  have hval : ∀ (j : Nat) t v, Try.f8.params[j]? = some t → args[j]? = some v → Value.okWide Try.prog W .any base t v := hval0
  have hW' := hW
  have hlt : ∀ x ∈ before, x.block < W.heap.size := fun x hx => by simpa using hW'.lt x hx
  obtain ⟨p, q, hA0, hV, rfl, hfz, hnd⟩ := hW
  have hA : DataW.TrodAll enc Try.prog W 0 (fun _ => true) true Try.f8.params.toList args.toList ds p := hA0
  rw [Try.params8] at hA hval
  obtain ⟨v0, v1, v2, d0, d1, d2, p0, p1, p2, rfl, rfl, rfl, h0, h1, h2⟩ := trodAll_three hA
  obtain ⟨rfl, rfl⟩ := trodVars_none hV
  have hwt0 : ∀ n ∈ d0.weights Try.prog 22, n ≤ reachBytes := fun n hn => by
    have := List.all_eq_true.1 hsized n (DataW.weights_mem_each (j := 0) (t := 22) (d := d0) rfl rfl n hn)
    simpa using this
  have hwt2 : ∀ n ∈ d2.weights Try.prog 29, n ≤ reachBytes := fun n hn => by
    have := List.all_eq_true.1 hsized n (DataW.weights_mem_each (j := 2) (t := 29) (d := d2) rfl rfl n hn)
    simpa using this
  obtain ⟨L, hL, hLn⟩ := open_tab (okWide_slice Try.underlying22 (hval 0 22 v0 rfl rfl)) h0 hwt0
  obtain ⟨a, b, rfl⟩ := open_handle (hval 1 31 v1 rfl rfl) h1
  obtain ⟨x, rfl, hx⟩ := open_inode (hval 2 29 v2 rfl rfl) h2 hwt2
  refine (apart_any v0 L a b x W hL hx).mono fun e W' ⟨he, hg⟩ => ⟨_, he, ?_⟩
  exact Law.post laidOut (by kernel_rfl) rfl Try.underlying4 hW' rfl rfl hg

theorem itabApart_holds : Rows.ItabApartSaid :=
  OpenClaim.holds_of_wide 8 Try.f8 rfl rfl rfl rfl rfl rfl rfl ⟨rfl, rfl, rfl, rfl, rfl⟩ rfl rfl rfl rfl rfl (by kernel_rfl) Try.func8 (by kernel_rfl)
    (of_decide_eq_true (by kernel_rfl)) (by unfold Func.isWrapper; first | (rw [if_pos (by decide +kernel)]; kernel_rfl) | (rw [if_neg (by decide +kernel)]; exact ⟨rfl, rfl⟩))
    (fun os started H enc _ => itabApart_lifted os started H enc)
#print axioms itabApart_holds
end Go.Proofs.Ytobcjnfombfdmaa
