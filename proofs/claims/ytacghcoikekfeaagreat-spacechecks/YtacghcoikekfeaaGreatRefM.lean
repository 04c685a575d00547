/-
  The document's answer for tables: Make.
-/
import Derived.Test.YtacghcoikekfeaaGreatRefB
namespace Go.Proofs.YtacghcoikekfeaaGreat
open Go.ChangeShapes Go.WideShapes Go.ChangeAt Go.RowKit Go.Deep It
set_option maxRecDepth 100000

namespace It
/-- The least free place from k on; -1: there is none. -/
def noOf (L : List Ino) (k : Nat) : Int := if (nextFrom k (L.drop k)).1 = L.length then -1 else (nextFrom k (L.drop k)).1
def genOf (L : List Ino) (k : Nat) : Int := (nextFrom k (L.drop k)).2
theorem down_end (L : List Ino) : noOf L L.length = -1 ∧ genOf L L.length = 1 := by
  unfold noOf genOf
  simp [nextFrom]
theorem down_step {L : List Ino} {k : Nat} {x : Ino} (hx : L[k]? = some x) : (noOf L k = if x.kind = 0 ∧ x.gen < 1099511627776 then (k : Int) else noOf L (k + 1)) ∧ (genOf L k = if x.kind = 0 ∧ x.gen < 1099511627776 then x.gen + 1 else genOf L (k + 1)) := by
  have hk : k < L.length := (List.getElem?_eq_some_iff.1 hx).1
  have hxe : L[k] = x := (List.getElem?_eq_some_iff.1 hx).2
  unfold noOf genOf
  rw [List.drop_eq_getElem_cons hk, hxe]
  by_cases h : x.kind = 0 ∧ x.gen < 1099511627776
  · have e : nextFrom k (x :: L.drop (k + 1)) = ((k : Int), x.gen + 1) := by simp only [nextFrom]; rw [if_pos h]
    rw [if_pos h, if_pos h, e]
    exact ⟨if_neg (by show ¬ ((k : Int) = (L.length : Int)); omega), rfl⟩
  · have e : nextFrom k (x :: L.drop (k + 1)) = nextFrom (k + 1) (L.drop (k + 1)) := by simp only [nextFrom]; rw [if_neg h]
    rw [if_neg h, if_neg h, e]
    exact ⟨rfl, rfl⟩
theorem down_zero (L : List Ino) : (noOf L 0 = if (next L).1 = L.length then -1 else (next L).1) ∧ genOf L 0 = (next L).2 := ⟨rfl, rfl⟩
end It
def RMakeSaid (w : World) (L : List Ino) (kind stamp : Int) (e : Ending) (w' : World) : Prop :=
  ∃ u L', e = .returned (.tuple #[u, VH (makeH L kind stamp), .int .i64 (makeErr L kind stamp)]) ∧ TabW w' u L' ∧ pl L' = makeTab L kind stamp ∧ Below w.heap.size w w'
theorem rmake_said {w w' : World} {L : List Ino} {kind stamp : Int} {e : Ending} {er : Int} (h : makeErr L kind stamp = er) (hz : er ≠ 0) (he : e = .returned (.tuple #[.slice none 0 0, .agg #[.int .i64 0, .int .i64 0], .int .i64 er])) (hb : Below w.heap.size w w') : RMakeSaid w L kind stamp e w' := by
  refine ⟨_, [], ?_, tab_nil _ _, ?_, hb⟩
  · rw [he]
    unfold makeH
    rw [h, if_neg hz]
  · unfold makeTab
    rw [h, if_neg hz]
    rfl
set_option maxHeartbeats 2000000 in
theorem rmake_form {S : Nat → Prop} (v : Value) (L : List Rw) (kind stamp : Int) (w : World) (hv : TabAt S w v L) (hr : It.right (pl L) = false) :
    Calls Tryz.prog 50 #[v, .int .i64 kind, .int .i64 stamp] w fun e w' => RMakeSaid w (pl L) kind stamp e w' := by
  obtain ⟨W, hW⟩ : ∃ W, W = w.alloc (BH 0 0) := ⟨_, rfl⟩
  have HB0 : Hid (Below w.heap.size w W) := by show Below w.heap.size w W; rw [hW]; exact (Below.refl _ w).alloc (Nat.le_refl _) _
  have HA0 : Hid (W.heap[w.heap.size]? = some (BH 0 0)) := by show W.heap[w.heap.size]? = _; rw [hW]; exact heap_alloc_new _ _
  have hws : w.heap.size < W.heap.size := by rw [hW]; simp
  have HV : Hid (TabAt S W v L) := hv.up HB0.out
  have HR : Hid (It.right (pl L) = false) := hr
  have HE : Hid (makeErr (pl L) kind stamp = 4) := by show makeErr (pl L) kind stamp = 4; unfold makeErr; rw [hr]; rfl
  obtain ⟨ao, cap, rfl, _, _⟩ := hv.open
  clear hv hr
  go_enter Tryz.func50, Tryz.ntmps50
  go_wp2_with fail
  rw [← hW]
  refine (rright_any _ L _ HV.out).mono ?_
  rintro e w1 ⟨rfl, hb1⟩
  rw [HR.out]
  have HB1 : Hid (Below w.heap.size w w1) := HB0.out.trans (hb1.mono HB0.out.size)
  have HA1 : Hid (w1.heap[w.heap.size]? = some (BH 0 0)) := (hb1.block _ hws).trans HA0.out
  obtain ⟨⟨e0, e1⟩, ef⟩ := two_of HA1.out
  clear hb1 hW
  go_wp2
  (try simp only [Exit.inBlock, Exit.then])
  refine bodyPost_ret (v := .tuple #[.slice none 0 0, .agg #[.int .i64 0, .int .i64 0], .int .i64 4]) ?_ rfl (rmake_said HE.out (by decide) rfl ?_)
  · rw [results_tct rfl]
    go_simp
  · repeat (refine Below.setCell ?_ (by simp) _)
    exact HB1.out
set_option maxHeartbeats 2000000 in
theorem rmake_arg {S : Nat → Prop} (v : Value) (L : List Rw) (kind stamp : Int) (w : World) (hv : TabAt S w v L) (hr : It.right (pl L) = true) (ha : ¬ ((kind = 1 ∨ kind = 2) ∧ (0 ≤ stamp ∧ stamp ≤ 1099511627776))) :
    Calls Tryz.prog 50 #[v, .int .i64 kind, .int .i64 stamp] w fun e w' => RMakeSaid w (pl L) kind stamp e w' := by
  obtain ⟨W, hW⟩ : ∃ W, W = w.alloc (BH 0 0) := ⟨_, rfl⟩
  have HB0 : Hid (Below w.heap.size w W) := by show Below w.heap.size w W; rw [hW]; exact (Below.refl _ w).alloc (Nat.le_refl _) _
  have HA0 : Hid (W.heap[w.heap.size]? = some (BH 0 0)) := by show W.heap[w.heap.size]? = _; rw [hW]; exact heap_alloc_new _ _
  have hws : w.heap.size < W.heap.size := by rw [hW]; simp
  have HV : Hid (TabAt S W v L) := hv.up HB0.out
  have HR : Hid (It.right (pl L) = true) := hr
  have HE : Hid (makeErr (pl L) kind stamp = 1) := by show makeErr (pl L) kind stamp = 1; unfold makeErr; rw [if_pos hr, if_neg (by rw [It.arg_not ha]; decide)]
  obtain ⟨ao, cap, rfl, _, _⟩ := hv.open
  have hor : kind < 1 ∨ (¬ kind < 1 ∧ 2 < kind) ∨ (¬ kind < 1 ∧ ¬ 2 < kind ∧ stamp < 0) ∨ (¬ kind < 1 ∧ ¬ 2 < kind ∧ ¬ stamp < 0 ∧ 1099511627776 < stamp) := by omega
  clear hv hr ha
  rcases hor with h1 | ⟨h1, h2⟩ | ⟨h1, h2, h3⟩ | ⟨h1, h2, h3, h4⟩
  all_goals
    go_enter Tryz.func50, Tryz.ntmps50
    go_wp2_with fail
    rw [← hW]
    refine (rright_any _ L _ HV.out).mono ?_
    rintro e w1 ⟨rfl, hb1⟩
    rw [HR.out]
    have HB1 : Hid (Below w.heap.size w w1) := HB0.out.trans (hb1.mono HB0.out.size)
    have HA1 : Hid (w1.heap[w.heap.size]? = some (BH 0 0)) := (hb1.block _ hws).trans HA0.out
    obtain ⟨⟨e0, e1⟩, ef⟩ := two_of HA1.out
    clear hb1 hW
    go_wp2
    (try simp only [Exit.inBlock, Exit.then])
    refine bodyPost_ret (v := .tuple #[.slice none 0 0, .agg #[.int .i64 0, .int .i64 0], .int .i64 1]) ?_ rfl (rmake_said HE.out (by decide) rfl ?_)
    · rw [results_tct rfl]
      go_simp
    · repeat (refine Below.setCell ?_ (by simp) _)
      exact HB1.out
set_option maxHeartbeats 4000000 in
set_option maxRecDepth 100000 in
theorem rmake_ok {S : Nat → Prop} (v : Value) (L : List Rw) (kind stamp : Int) (w : World) (hv : TabAt S w v L) (hr : It.right (pl L) = true) (ha : (kind = 1 ∨ kind = 2) ∧ (0 ≤ stamp ∧ stamp ≤ 1099511627776)) :
    Calls Tryz.prog 50 #[v, .int .i64 kind, .int .i64 stamp] w fun e w' => RMakeSaid w (pl L) kind stamp e w' := by
  replace hv : TabAt (fun b => b < w.heap.size) w v L := hv.imp fun _ _ h => h
  obtain ⟨W, hW⟩ : ∃ W, W = w.alloc (BH 0 0) := ⟨_, rfl⟩
  have HB0 : Hid (Below w.heap.size w W) := by show Below w.heap.size w W; rw [hW]; exact (Below.refl _ w).alloc (Nat.le_refl _) _
  have HA0 : Hid (W.heap[w.heap.size]? = some (BH 0 0)) := by show W.heap[w.heap.size]? = _; rw [hW]; exact heap_alloc_new _ _
  have hws : w.heap.size < W.heap.size := by rw [hW]; simp
  have HV : Hid (TabAt (fun b => b < w.heap.size) W v L) := hv.up HB0.out
  have HR : Hid (It.right (pl L) = true) := hr
  have hao : argOk kind stamp = true := by unfold argOk; rw [decide_eq_true ha.1, decide_eq_true ha.2]; rfl
  have HME : Hid (makeErr (pl L) kind stamp = if (next (pl L)).1 = 24 then 407 else 0) := by show makeErr (pl L) kind stamp = _; unfold makeErr; rw [if_pos hr, if_pos hao]
  obtain ⟨ao, cap, rfl, _, _⟩ := hv.open
  obtain ⟨n, hn⟩ : ∃ n, L.length = n := ⟨_, rfl⟩
  rw [hn] at HV ⊢
  have HN : Hid (L.length = n) := hn
  have hn24 : n ≤ 24 := by rw [← hn]; exact It.right_len hr
  have hn1 : 1 ≤ n := by have := (It.right_iff.1 hr).1; simp only [pl, List.length_map] at this; omega
  have HPN : Hid ((pl L).length = n) := by show (pl L).length = n; simp [pl, hn]
  have HONE : Hid (∀ x ∈ L, one x.i = true) := fun x hx => (It.right_iff.1 hr).2.2 x.i (List.mem_map.2 ⟨x, hx, rfl⟩)
  have h1 : ¬ kind < 1 := by omega
  have h2 : ¬ 2 < kind := by omega
  have h3 : ¬ stamp < 0 := by omega
  have h4 : ¬ 1099511627776 < stamp := by omega
  clear hv hr ha hao hn
  go_enter Tryz.func50, Tryz.ntmps50
  go_wp2_with fail
  rw [← hW]
  refine (rright_any _ L _ HV.out).mono ?_
  rintro e w1 ⟨rfl, hb1⟩
  rw [HR.out]
  have HB1 : Hid (Below w.heap.size w w1) := HB0.out.trans (hb1.mono HB0.out.size)
  have HA1 : Hid (w1.heap[w.heap.size]? = some (BH 0 0)) := (hb1.block _ hws).trans HA0.out
  have HV1 : Hid (TabAt (fun b => b < w.heap.size) w1 (.slice ao n cap) L) := HV.out.up hb1
  obtain ⟨ao', cap', hv', _, hx⟩ := HV1.out.open
  simp only [Value.slice.injEq] at hv'
  obtain ⟨rfl, -, rfl⟩ := hv'
  have HX : Hid (∀ i x, L[i]? = some x → (∃ b off, ao = some ⟨b, off, none⟩ ∧ b < w1.heap.size ∧ eight w1 b (off + i * 8) x) ∧ Good (fun b => b < w.heap.size) w1 x) := hx
  clear hb1 hW hx
  go_wp2
  go_loopw [9, 10, 11] (fun a b i wr => ∃ k : Nat, k ≤ n ∧ i = .int .i64 ((k : Int) - 1) ∧ a = .int .i64 (noOf (pl L) k) ∧ b = .int .i64 (genOf (pl L) k) ∧ wr = w1) (fun _ _ i _ => (intOf i + 1).toNat)
  case atStart => exact ⟨n, Nat.le_refl _, by go_num, by rw [show noOf (pl L) n = -1 from by rw [← HPN.out]; exact (down_end _).1], by rw [show genOf (pl L) n = 1 from by rw [← HPN.out]; exact (down_end _).2], rfl⟩
  case round =>
    obtain ⟨k, hk, rfl, rfl, rfl, rfl⟩ := hrel
    by_cases hk0 : k = 0
    · subst hk0
      have hdz := down_zero (pl L)
      rw [HPN.out] at hdz
      obtain ⟨nx, hnx⟩ : ∃ nx, next (pl L) = nx := ⟨_, rfl⟩
      obtain ⟨hb0, hb1⟩ := It.next_bd (pl L)
      rw [hnx] at hdz hb0 hb1
      rw [HPN.out] at hb1
      obtain ⟨na, gen⟩ := nx
      obtain ⟨no, rfl⟩ := Int.eq_ofNat_of_zero_le hb0
      simp only at hdz hb1
      have HNX : Hid (next (pl L) = ((no : Int), gen)) := hnx
      have HNO : Hid (no ≤ n) := by show no ≤ n; omega
      rw [hdz.2]
      rw [show (((0 : Nat) : Int) - 1) = -1 from rfl]
      by_cases hnn : no = n
      · rw [show noOf (pl L) 0 = -1 from by rw [hdz.1, if_pos (by omega)]]
        have hm1 : ((-1 : Int) < 0) := by decide
        clear hdz hnx hb0 hb1
        by_cases h24 : n = 24
        · have HE2 : Hid (makeErr (pl L) kind stamp = 407) := by show makeErr (pl L) kind stamp = 407; rw [HME.out, HNX.out]; simp only; rw [if_pos (by omega)]
          have h24' : ((n : Int) == 24) = true := by simp [h24]
          obtain ⟨⟨e0, e1⟩, ef⟩ := two_of HA1.out
          clear h24 hnn
          go_wp2
          (try simp only [Exit.inBlock, Exit.then])
          refine bodyPost_ret (v := .tuple #[.slice none 0 0, .agg #[.int .i64 0, .int .i64 0], .int .i64 407]) ?_ rfl (rmake_said HE2.out (by decide) rfl ?_)
          · rw [results_tct rfl]
            go_simp
          · repeat (refine Below.setCell ?_ (by simp) _)
            exact HB1.out
        · have HE2 : Hid (makeErr (pl L) kind stamp = 0) := by show makeErr (pl L) kind stamp = 0; rw [HME.out, HNX.out]; simp only; rw [if_neg (by omega)]
          have h24' : ((n : Int) == 24) = false := by simp; omega
          subst hnn
          clear h24
          have HBF : Hid (Below w.heap.size w (wr.alloc (B8 gen kind 1 0 stamp (.slice none 0 0) (.slice none 0 0) 0))) := HB1.out.alloc HB1.out.size _
          have HVF : Hid (TabAt (fun b => b < w.heap.size) (wr.alloc (B8 gen kind 1 0 stamp (.slice none 0 0) (.slice none 0 0) 0)) (.slice ao no cap) L) := HV1.out.up ((Below.refl _ _).alloc (Nat.le_refl _) _)
          have HAF : Hid ((wr.alloc (B8 gen kind 1 0 stamp (.slice none 0 0) (.slice none 0 0) 0)).heap[w.heap.size]? = some (BH 0 0)) := (Below.heap_alloc _ _ _ (Array.getElem?_eq_some_iff.1 HA1.out).1).trans HA1.out
          go_wp2_with fail
          refine (rwith_any _ L no (It.bare (fresh gen kind stamp)) _ HVF.out (good_bare (fun _ => False) _ rfl rfl) (by rw [HN.out]; exact hn24) (by rw [HN.out]; exact HNO.out)).mono ?_
          rintro e w4 ⟨tb, L4, rfl, ht4, hp4, hb4⟩
          have HA4 : Hid (w4.heap[w.heap.size]? = some (BH 0 0)) := (hb4.block _ (Array.getElem?_eq_some_iff.1 HAF.out).1).trans HAF.out
          have HNE : Hid (TabAt (fun b => b ≠ w.heap.size) w4 tb L4 ∧ pl L4 = put (pl L) no (fresh gen kind stamp) ∧ Below w.heap.size w w4) := ⟨ht4.imp fun b hb _ => by
            have h5 : w.heap.size < (wr.alloc (B8 gen kind 1 0 stamp (.slice none 0 0) (.slice none 0 0) 0)).heap.size := (Array.getElem?_eq_some_iff.1 HAF.out).1
            rcases hb with hb | hb | hb
            · omega
            · exact hb.elim
            · omega, hp4, HBF.out.trans (hb4.mono HBF.out.size)⟩
          obtain ⟨⟨r0, r1⟩, rf⟩ := two_of HA4.out
          clear ht4 hp4 hb4
          go_wp2
          (try simp only [Exit.inBlock, Exit.then])
          refine bodyPost_ret (v := .tuple #[tb, .agg #[.int .i64 no, .int .i64 gen], .int .i64 0]) ?_ rfl ⟨tb, L4, ?_, ?_, ?_, ?_⟩
          · rw [results_tct rfl]
            go_simp
          · unfold makeH
            rw [HE2.out, if_pos rfl, HNX.out]
          · refine ⟨?_, fun y hy => ?_⟩
            · refine At.imp (S := fun b => b ≠ w.heap.size) ?_ (fun _ _ _ => trivial)
              repeat (refine At.setCell ?_ (by simp) _)
              exact HNE.out.1.1
            · refine Good.imp (S := fun b => b ≠ w.heap.size) ?_ (fun _ _ _ => trivial)
              repeat (refine Good.setCell ?_ (by simp) _)
              exact HNE.out.1.2 y hy
          · unfold makeTab
            rw [HE2.out, if_pos rfl, HNX.out]
            exact HNE.out.2.1
          · repeat (refine Below.setCell ?_ (by simp) _)
            exact HNE.out.2.2
      · rw [show noOf (pl L) 0 = (no : Int) from by rw [hdz.1, if_neg (by omega)]]
        have HE2 : Hid (makeErr (pl L) kind stamp = 0) := by show makeErr (pl L) kind stamp = 0; rw [HME.out, HNX.out]; simp only; rw [if_neg (by omega)]
        have hno0 : ¬ ((no : Int) < 0) := by omega
        clear hdz hnx hb0 hb1 hnn
        have HBF : Hid (Below w.heap.size w (wr.alloc (B8 gen kind 1 0 stamp (.slice none 0 0) (.slice none 0 0) 0))) := HB1.out.alloc HB1.out.size _
        have HVF : Hid (TabAt (fun b => b < w.heap.size) (wr.alloc (B8 gen kind 1 0 stamp (.slice none 0 0) (.slice none 0 0) 0)) (.slice ao n cap) L) := HV1.out.up ((Below.refl _ _).alloc (Nat.le_refl _) _)
        have HAF : Hid ((wr.alloc (B8 gen kind 1 0 stamp (.slice none 0 0) (.slice none 0 0) 0)).heap[w.heap.size]? = some (BH 0 0)) := (Below.heap_alloc _ _ _ (Array.getElem?_eq_some_iff.1 HA1.out).1).trans HA1.out
        go_wp2_with fail
        refine (rwith_any _ L no (It.bare (fresh gen kind stamp)) _ HVF.out (good_bare (fun _ => False) _ rfl rfl) (by rw [HN.out]; exact hn24) (by rw [HN.out]; exact HNO.out)).mono ?_
        rintro e w4 ⟨tb, L4, rfl, ht4, hp4, hb4⟩
        have HA4 : Hid (w4.heap[w.heap.size]? = some (BH 0 0)) := (hb4.block _ (Array.getElem?_eq_some_iff.1 HAF.out).1).trans HAF.out
        have HNE : Hid (TabAt (fun b => b ≠ w.heap.size) w4 tb L4 ∧ pl L4 = put (pl L) no (fresh gen kind stamp) ∧ Below w.heap.size w w4) := ⟨ht4.imp fun b hb _ => by
          have h5 : w.heap.size < (wr.alloc (B8 gen kind 1 0 stamp (.slice none 0 0) (.slice none 0 0) 0)).heap.size := (Array.getElem?_eq_some_iff.1 HAF.out).1
          rcases hb with hb | hb | hb
          · omega
          · exact hb.elim
          · omega, hp4, HBF.out.trans (hb4.mono HBF.out.size)⟩
        obtain ⟨⟨r0, r1⟩, rf⟩ := two_of HA4.out
        clear ht4 hp4 hb4
        go_wp2
        (try simp only [Exit.inBlock, Exit.then])
        refine bodyPost_ret (v := .tuple #[tb, .agg #[.int .i64 no, .int .i64 gen], .int .i64 0]) ?_ rfl ⟨tb, L4, ?_, ?_, ?_, ?_⟩
        · rw [results_tct rfl]
          go_simp
        · unfold makeH
          rw [HE2.out, if_pos rfl, HNX.out]
        · refine ⟨?_, fun y hy => ?_⟩
          · refine At.imp (S := fun b => b ≠ w.heap.size) ?_ (fun _ _ _ => trivial)
            repeat (refine At.setCell ?_ (by simp) _)
            exact HNE.out.1.1
          · refine Good.imp (S := fun b => b ≠ w.heap.size) ?_ (fun _ _ _ => trivial)
            repeat (refine Good.setCell ?_ (by simp) _)
            exact HNE.out.1.2 y hy
        · unfold makeTab
          rw [HE2.out, if_pos rfl, HNX.out]
          exact HNE.out.2.1
        · repeat (refine Below.setCell ?_ (by simp) _)
          exact HNE.out.2.2
    · obtain ⟨j, rfl⟩ : ∃ j, k = j + 1 := ⟨k - 1, by omega⟩
      obtain ⟨y, hyk⟩ : ∃ y, L[j]? = some y := ⟨_, List.getElem?_eq_getElem (by rw [HN.out]; omega)⟩
      obtain ⟨⟨b, off, rfl, hB, hc⟩, _⟩ := HX.out j y hyk
      obtain ⟨c0, c1, _⟩ := hc
      obtain ⟨hs1, hs2⟩ := down_step (It.pl_get hyk)
      have hbd := It.one_bd (HONE.out y (List.mem_of_getElem? hyk))
      rw [show (((j + 1 : Nat) : Int) - 1) = (j : Int) from by omega]
      have hjI : (j : Int) < (n : Int) := by omega
      have hj0 : (0 : Int) ≤ (j : Int) := by omega
      obtain ⟨A, hA⟩ : ∃ A, noOf (pl L) (j + 1) = A := ⟨_, rfl⟩
      obtain ⟨G, hG⟩ : ∃ G, genOf (pl L) (j + 1) = G := ⟨_, rfl⟩
      rw [hA] at hs1 ⊢
      rw [hG] at hs2 ⊢
      obtain ⟨⟨g, kk, l, s, t, rs, es, nx⟩, rp, rn, rc, ep, en, ec⟩ := y
      simp only at c0 c1 hs1 hs2 hbd
      obtain ⟨hg1, hg2⟩ := hbd
      clear hyk hA hG hB hk0
      by_cases hkd : kk = 0
      · have hkd' : (kk == 0) = true := by simp [hkd]
        by_cases hge : g < 1099511627776
        · have HS : Hid (noOf (pl L) j = (j : Int) ∧ genOf (pl L) j = g + 1) := by rw [hs1, hs2, if_pos ⟨hkd, hge⟩, if_pos ⟨hkd, hge⟩]; exact ⟨rfl, rfl⟩
          clear hkd hs1 hs2
          go_wp2
          go_roundw
          case rel => exact ⟨j, by omega, by go_num, by rw [HS.out.1], by rw [HS.out.2], trivial⟩
          case measure => simp [intOf]
        · have HS : Hid (noOf (pl L) j = A ∧ genOf (pl L) j = G) := by rw [hs1, hs2, if_neg (fun h => hge h.2), if_neg (fun h => hge h.2)]; exact ⟨rfl, rfl⟩
          clear hkd hs1 hs2
          go_wp2
          go_roundw
          case rel => exact ⟨j, by omega, by go_num, by rw [HS.out.1], by rw [HS.out.2], trivial⟩
          case measure => simp [intOf]
      · have hkd' : (kk == 0) = false := by simp [hkd]
        have HS : Hid (noOf (pl L) j = A ∧ genOf (pl L) j = G) := by rw [hs1, hs2, if_neg (fun h => hkd h.1), if_neg (fun h => hkd h.1)]; exact ⟨rfl, rfl⟩
        clear hkd hs1 hs2
        go_wp2
        go_roundw
        case rel => exact ⟨j, by omega, by go_num, by rw [HS.out.1], by rw [HS.out.2], trivial⟩
        case measure => simp [intOf]
theorem rmake_any {S : Nat → Prop} (v : Value) (L : List Rw) (kind stamp : Int) (w : World) (hv : TabAt S w v L) :
    Calls Tryz.prog 50 #[v, .int .i64 kind, .int .i64 stamp] w fun e w' => RMakeSaid w (pl L) kind stamp e w' := by
  cases hr : It.right (pl L) with
  | true =>
    by_cases ha : (kind = 1 ∨ kind = 2) ∧ (0 ≤ stamp ∧ stamp ≤ 1099511627776)
    · exact rmake_ok v L kind stamp w hv hr ha
    · exact rmake_arg v L kind stamp w hv hr ha
  | false => exact rmake_form v L kind stamp w hv hr
end Go.Proofs.YtacghcoikekfeaaGreat
