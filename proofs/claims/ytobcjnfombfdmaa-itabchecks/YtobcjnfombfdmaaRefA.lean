/-
  The document's answer for tables: Right, Names, Find.
-/
import Derived.Test.YtobcjnfombfdmaaRefOne
import Derived.Test.YtobcjnfombfdmaaMakeB
namespace Go.Proofs.Ytobcjnfombfdmaa
open Go.ChangeShapes Go.WideShapes Go.ChangeAt Go.RowKit Go.Deep It

theorem It.not_right {L : List Ino} (h : It.right L = true → False) : It.right L = false := by
  cases hr : It.right L with
  | false => rfl
  | true => exact absurd hr h
set_option maxHeartbeats 1000000 in
theorem rright_any {S : Nat → Prop} (v : Value) (L : List Rw) (w : World) (hv : TabAt S w v L) :
    Calls Try.prog 11 #[v] w fun e w' => e = .returned (.bool (It.right (pl L))) ∧ Below w.heap.size w w' := by
  obtain ⟨ao, cap, rfl, hm, hx⟩ := hv.open
  clear hv
  unfold maxLen at hm
  obtain ⟨n, hn⟩ : ∃ n, L.length = n := ⟨_, rfl⟩
  rw [hn] at hm ⊢
  have HN : Hid (L.length = n) := hn
  have HX : Hid (∀ i x, L[i]? = some x → (∃ b off, ao = some ⟨b, off, none⟩ ∧ b < w.heap.size ∧ eight w b (off + i * 8) x) ∧ Good S w x) := hx
  clear hn hx
  obtain ⟨res, hres⟩ : ∃ res, It.right (pl L) = res := ⟨_, rfl⟩
  have HRES : Hid (It.right (pl L) = res) := hres
  rw [hres]
  clear hres
  by_cases hr : 1 ≤ n ∧ n ≤ 24
  · have h0 : L[0]? = some (L[0]'(by have := HN.out; omega)) := List.getElem?_eq_getElem _
    obtain ⟨x, hx0⟩ : ∃ x, L[0]? = some x := ⟨_, h0⟩
    clear h0
    obtain ⟨⟨b, off, rfl, hB, hc⟩, hg⟩ := HX.out 0 x hx0
    have c1 := hc.2.1
    simp only [Nat.zero_mul, Nat.add_zero] at c1
    have hn1 : ¬ (n : Int) < 1 := by omega
    have hn2 : ¬ (24 : Int) < (n : Int) := by omega
    have hn0 : (0 : Int) < (n : Int) := by omega
    by_cases hk : x.i.kind = 2
    · have HR0 : Hid (rootB (pl L) = true) := by
        cases L with
        | nil => simp at hx0
        | cons y l =>
          simp at hx0
          subst hx0
          exact decide_eq_true hk
      rw [hk] at c1
      clear hc hg hk
      go_enter Try.func11, Try.ntmps11
      go_wp2
      go_loopw [23] (fun i wr => ∃ k : Nat, k ≤ n ∧ i = .int .i64 k ∧ (∀ y ∈ L.take k, one y.i = true) ∧ Below w.heap.size w wr) (fun i _ => n - (intOf i).toNat)
      case atStart => exact ⟨0, Nat.zero_le _, rfl, by simp, Below.refl _ _⟩
      case round =>
        obtain ⟨k, hk, rfl, hall, hbl⟩ := hrel
        have HALL : Hid (∀ y ∈ L.take k, one y.i = true) := hall
        clear hall
        have hsz := hbl.size
        by_cases hlt : k < n
        · have h0 : L[k]? = some (L[k]'(by have := HN.out; omega)) := List.getElem?_eq_getElem _
          obtain ⟨y, hyk⟩ : ∃ y, L[k]? = some y := ⟨_, h0⟩
          clear h0
          obtain ⟨⟨b', off', hbe, hB', hc'⟩, hg'⟩ := HX.out k y hyk
          cases hbe
          obtain ⟨d0, d1, d2, d3, d4, d5, d6, d7⟩ := hc'.below hbl hB'
          have HGY : Hid (Good S wr y) := hg'.up hbl
          have HT : Hid (L.take (k + 1) = L.take k ++ [y]) := It.take_succ hyk
          have HMY : Hid (y ∈ L) := List.mem_of_getElem? hyk
          have hlt' : (k : Int) < (n : Int) := by omega
          clear hyk hc' hg'
          go_wp2_with fail
          refine (rone_any y _ (HGY.out.up ((Below.refl _ _).alloc (Nat.le_refl _) _))).mono ?_
          rintro e w2 ⟨rfl, hb2⟩
          have HB2 : Hid (Below w.heap.size w w2) := (hbl.alloc hsz _).trans (hb2.mono (by simp; omega))
          clear hb2
          cases ho : one y.i with
          | false =>
            have HE : Hid (res = false) := by
              show res = false
              rw [← HRES.out]
              exact It.not_right fun h => by
                have := (It.right_iff.1 h).2.2 y.i (List.mem_map.2 ⟨y, HMY.out, rfl⟩)
                rw [ho] at this
                cases this
            clear ho
            go_wp2
            go_ret
            rw [HE.out]
            exact ⟨rfl, HB2.out⟩
          | true =>
            have HO : Hid (one y.i = true) := ho
            clear ho
            go_wp2
            go_roundw
            case rel =>
              refine ⟨k + 1, by omega, by go_num, fun z hz => ?_, HB2.out⟩
              rw [HT.out, List.mem_append] at hz
              rcases hz with hz | hz
              · exact HALL.out z hz
              · simp at hz
                subst hz
                exact HO.out
            case measure => simp [intOf]; omega
        · obtain rfl : k = n := by omega
          have HE : Hid (res = true) := by
            show res = true
            rw [← HRES.out]
            refine It.right_iff.2 ⟨?_, HR0.out, fun z hz => ?_⟩
            · have := HN.out
              simp only [pl, List.length_map]
              omega
            · obtain ⟨y, hy, rfl⟩ := List.mem_map.1 hz
              refine HALL.out y ?_
              rw [← HN.out, List.take_length]
              exact hy
          go_wp2
          go_ret
          rw [HE.out]
          exact ⟨rfl, hbl⟩
    · have hk' : (x.i.kind != 2) = true := by simp [hk]
      have HE : Hid (res = false) := by
        show res = false
        rw [← HRES.out]
        exact It.not_right fun h => by
          have := (It.right_iff.1 h).2.1
          cases L with
          | nil => simp at hx0
          | cons y l =>
            simp at hx0
            subst hx0
            exact hk (of_decide_eq_true this)
      clear hc hg hk
      go_enter Try.func11, Try.ntmps11
      go_wp2
      go_ret
      rw [HE.out]
      exact ⟨rfl, Below.refl _ _⟩
  · have HE : Hid (res = false) := by
      show res = false
      rw [← HRES.out]
      exact It.not_right fun h => by
        have := (It.right_iff.1 h).1
        simp only [pl, List.length_map] at this
        have := HN.out
        omega
    have hor : (n : Int) < 1 ∨ (¬ (n : Int) < 1 ∧ (24 : Int) < (n : Int)) := by omega
    clear hr
    rcases hor with h1 | ⟨h1, h2⟩
    all_goals
      go_enter Try.func11, Try.ntmps11
      go_wp2
      go_ret
      rw [HE.out]
      exact ⟨rfl, Below.refl _ _⟩

set_option maxHeartbeats 2000000 in
theorem rnames_any {S : Nat → Prop} (v : Value) (L : List Rw) (a b : Int) (w : World) (hv : TabAt S w v L) :
    Calls Try.prog 35 #[v, .agg #[.int .i64 a, .int .i64 b]] w fun e w' => e = .returned (.bool (names (pl L) a b)) ∧ Below w.heap.size w w' := by
  obtain ⟨ao, cap, rfl, hm, hx⟩ := hv.open
  clear hv
  unfold maxLen at hm
  obtain ⟨n, hn⟩ : ∃ n, L.length = n := ⟨_, rfl⟩
  rw [hn] at hm ⊢
  have HN : Hid (L.length = n) := hn
  have HX : Hid (∀ i x, L[i]? = some x → (∃ b off, ao = some ⟨b, off, none⟩ ∧ b < w.heap.size ∧ eight w b (off + i * 8) x) ∧ Good S w x) := hx
  obtain ⟨W, hW⟩ : ∃ W, W = w.alloc (BH a b) := ⟨_, rfl⟩
  have HB0 : Hid (Below w.heap.size w W) := by show Below w.heap.size w W; rw [hW]; exact (Below.refl _ w).alloc (Nat.le_refl _) _
  have HA0 : Hid (W.heap[w.heap.size]? = some (BH a b)) := by show W.heap[w.heap.size]? = _; rw [hW]; exact heap_alloc_new _ _
  have hws : w.heap.size < W.heap.size := by rw [hW]; simp
  obtain ⟨res, hres⟩ : ∃ res, names (pl L) a b = res := ⟨_, rfl⟩
  have HRES : Hid (names (pl L) a b = res) := hres
  rw [hres]
  clear hn hx hres
  go_enter Try.func35, Try.ntmps35
  go_wp2
  rw [← hW]
  clear hW
  go_loopw [9] (fun i wr => ∃ k : Nat, k ≤ n ∧ i = .int .i64 k ∧ (∀ j x, j < k → L[j]? = some x → ¬ ((j : Int) = a ∧ x.i.gen = b ∧ x.i.kind ≠ 0)) ∧ Below W.heap.size W wr) (fun i _ => n - (intOf i).toNat)
  case atStart => exact ⟨0, Nat.zero_le _, rfl, fun j x hj => by omega, Below.refl _ _⟩
  case round =>
    obtain ⟨k, hk, rfl, hno, hbl⟩ := hrel
    have HNO : Hid (∀ j x, j < k → L[j]? = some x → ¬ ((j : Int) = a ∧ x.i.gen = b ∧ x.i.kind ≠ 0)) := hno
    have hsz := hbl.size
    have HBW : Hid (Below w.heap.size w wr) := HB0.out.trans (hbl.mono HB0.out.size)
    have HA1 : Hid (wr.heap[w.heap.size]? = some (BH a b)) := (hbl.block _ hws).trans HA0.out
    clear hno
    by_cases hlt : k < n
    · obtain ⟨y, hyk⟩ : ∃ y, L[k]? = some y := ⟨_, List.getElem?_eq_getElem (by rw [HN.out]; exact hlt)⟩
      obtain ⟨⟨b', off, rfl, hB, hc⟩, _⟩ := HX.out k y hyk
      obtain ⟨d0, d1, d2, d3, d4, d5, d6, d7⟩ := hc.below HBW.out hB
      have HYK : Hid (L[k]? = some y) := hyk
      have HNEXT : ¬ ((k : Int) = a ∧ y.i.gen = b ∧ y.i.kind ≠ 0) → Hid (∀ j x, j < k + 1 → L[j]? = some x → ¬ ((j : Int) = a ∧ x.i.gen = b ∧ x.i.kind ≠ 0)) := fun hne j x hj hx hq => by
        rcases Nat.lt_or_ge j k with h | h
        · exact HNO.out j x h hx hq
        · obtain rfl : j = k := by omega
          rw [HYK.out] at hx
          cases hx
          exact hne hq
      have HYES : ((k : Int) = a ∧ y.i.gen = b ∧ y.i.kind ≠ 0) → Hid (res = true) := fun hq => by
        show res = true
        rw [← HRES.out]
        exact It.names_iff.2 ⟨k, y.i, It.pl_get HYK.out, hq.1.symm, hq.2.1, hq.2.2⟩
      obtain ⟨⟨g, kk, l, s, t, rs, es, nx⟩, rp, rn, rc, ep, en, ec⟩ := y
      simp only at d0 d1 d2 d3 d4 d5 d6 d7 HNEXT HYES
      have HA2 : Hid ((wr.alloc (B8 g kk l s t (.slice rp rn rc) (.slice ep en ec) nx)).heap[w.heap.size]? = some (BH a b)) := (Below.heap_alloc _ _ _ (by omega)).trans HA1.out
      obtain ⟨⟨a0, a1⟩, _⟩ := two_of HA2.out
      have hlt' : (k : Int) < (n : Int) := by omega
      clear hyk hc hB HYK
      by_cases h1 : (k : Int) = a
      · by_cases h2 : g = b
        · by_cases h3 : kk = 0
          · have HN2 := HNEXT (fun h => h.2.2 h3)
            have h1' : ((k : Int) == a) = true := by simp [h1]
            have h2' : (g == b) = true := by simp [h2]
            have h3' : (kk != 0) = false := by simp [h3]
            clear h1 h2 h3 HNEXT HYES
            go_wp2
            go_roundw
            case rel => exact ⟨k + 1, by omega, by go_num, HN2.out, hbl.alloc hsz _⟩
            case measure => simp [intOf]; omega
          · have HE := HYES ⟨h1, h2, h3⟩
            have h1' : ((k : Int) == a) = true := by simp [h1]
            have h2' : (g == b) = true := by simp [h2]
            have h3' : (kk != 0) = true := by simp [h3]
            clear h1 h2 h3 HNEXT HYES
            go_wp2
            go_ret
            rw [HE.out]
            exact ⟨rfl, HBW.out.alloc HBW.out.size _⟩
        · have HN2 := HNEXT (fun h => h2 h.2.1)
          have h1' : ((k : Int) == a) = true := by simp [h1]
          have h2' : (g == b) = false := by simp [h2]
          clear h1 h2 HNEXT HYES
          go_wp2
          go_roundw
          case rel => exact ⟨k + 1, by omega, by go_num, HN2.out, hbl.alloc hsz _⟩
          case measure => simp [intOf]; omega
      · have HN2 := HNEXT (fun h => h1 h.1)
        have h1' : ((k : Int) == a) = false := by simp [h1]
        clear h1 HNEXT HYES
        go_wp2
        go_roundw
        case rel => exact ⟨k + 1, by omega, by go_num, HN2.out, hbl.alloc hsz _⟩
        case measure => simp [intOf]; omega
    · obtain rfl : k = n := by omega
      have HE : Hid (res = false) := by
        show res = false
        rw [← HRES.out]
        cases hq : names (pl L) a b with
        | false => rfl
        | true =>
          obtain ⟨j, y, hja, hy, hyg, hyk, hjl⟩ := It.named hq
          exact absurd ⟨hja.symm, hyg, hyk⟩ (HNO.out j y (by rw [← HN.out]; exact hjl) hy)
      go_wp2
      go_ret
      rw [HE.out]
      exact ⟨rfl, HBW.out⟩

set_option maxHeartbeats 2000000 in
theorem rfind_any {S : Nat → Prop} (v : Value) (L : List Rw) (a b : Int) (w : World) (hv : TabAt S w v L) :
    Calls Try.prog 19 #[v, .agg #[.int .i64 a, .int .i64 b]] w fun e w' => ∃ x : Rw, e = .returned (.tuple #[VI x, .int .i64 (findErr (pl L) a b)]) ∧ x.i = findI (pl L) a b ∧ GoodW w' x ∧ Below w.heap.size w w' := by
  obtain ⟨W, hW⟩ : ∃ W, W = (w.alloc (BH a b)).alloc BZ := ⟨_, rfl⟩
  have HB0 : Hid (Below w.heap.size w W) := by show Below w.heap.size w W; rw [hW]; exact ((Below.refl _ w).alloc (Nat.le_refl _) _).alloc (by simp) _
  have HA0 : Hid (W.heap[w.heap.size]? = some (BH a b) ∧ W.heap[w.heap.size + 1]? = some BZ) := by
    rw [hW]
    refine ⟨(Below.heap_alloc _ _ _ (by simp)).trans (heap_alloc_new _ _), ?_⟩
    have := heap_alloc_new (w.alloc (BH a b)) BZ
    rwa [show (w.alloc (BH a b)).heap.size = w.heap.size + 1 by simp] at this
  have hws : w.heap.size + 1 < W.heap.size := by rw [hW]; simp
  have HV0 : Hid (TabAt (fun b => b < w.heap.size) w v L) := hv.imp fun _ _ h => h
  have HV : Hid (TabAt (fun b => b < w.heap.size) W v L) := HV0.out.up HB0.out
  obtain ⟨⟨a0, a1⟩, _⟩ := two_of HA0.out.1
  obtain ⟨ao, cap, rfl, _, _⟩ := hv.open
  clear hv
  cases hr : It.right (pl L) with
  | false =>
    have HE : Hid (findErr (pl L) a b = 4 ∧ findI (pl L) a b = zeroI) := by
      have h1 : findErr (pl L) a b = 4 := by unfold findErr; rw [hr]; rfl
      exact ⟨h1, by unfold findI; rw [h1]; rfl⟩
    have HR : Hid (It.right (pl L) = false) := hr
    rw [HE.out.1, HE.out.2]
    clear hr HE
    go_enter Try.func19, Try.ntmps19
    go_wp2_with fail
    rw [← hW]
    refine (rright_any _ L _ HV.out).mono ?_
    rintro e w1 ⟨rfl, hb1⟩
    rw [HR.out]
    have HB1 : Hid (Below w.heap.size w w1) := HB0.out.trans (hb1.mono HB0.out.size)
    have HA1 : Hid (w1.heap[w.heap.size + 1]? = some BZ) := (hb1.block _ (by omega)).trans HA0.out.2
    obtain ⟨⟨z0, z1, z2, z3, z4, z5, z6, z7⟩, zf⟩ := eight_of HA1.out
    clear hb1 hW a0 a1
    go_wp2
    (try simp only [Exit.inBlock, Exit.then])
    refine bodyPost_ret (v := .tuple #[.agg #[.int .i64 0, .int .i64 0, .int .i64 0, .int .i64 0, .int .i64 0, .slice none 0 0, .slice none 0 0, .int .i64 0], .int .i64 4]) ?_ rfl ⟨zeroR, rfl, rfl, good_zero _ _, ?_⟩
    · rw [results_cell_tmp rfl]
      go_simp
    · repeat (refine Below.setCell ?_ (by simp) _)
      exact HB1.out
  | true =>
    have HR : Hid (It.right (pl L) = true) := hr
    cases hn : names (pl L) a b with
    | false =>
      have HE : Hid (findErr (pl L) a b = 401 ∧ findI (pl L) a b = zeroI) := by
        have h1 : findErr (pl L) a b = 401 := by unfold findErr; rw [if_pos hr, hn]; rfl
        exact ⟨h1, by unfold findI; rw [h1]; rfl⟩
      have HNM : Hid (names (pl L) a b = false) := hn
      rw [HE.out.1, HE.out.2]
      clear hr hn HE
      go_enter Try.func19, Try.ntmps19
      go_wp2_with fail
      rw [← hW]
      refine (rright_any _ L _ HV.out).mono ?_
      rintro e w1 ⟨rfl, hb1⟩
      rw [HR.out]
      have HB1 : Hid (Below w.heap.size w w1) := HB0.out.trans (hb1.mono HB0.out.size)
      have HA1 : Hid (w1.heap[w.heap.size]? = some (BH a b) ∧ w1.heap[w.heap.size + 1]? = some BZ) := ⟨(hb1.block _ (by omega)).trans HA0.out.1, (hb1.block _ (by omega)).trans HA0.out.2⟩
      have HV1 : Hid (TabAt (fun b => b < w.heap.size) w1 (.slice ao L.length cap) L) := HV.out.up hb1
      obtain ⟨⟨e0, e1⟩, _⟩ := two_of HA1.out.1
      have hws1 : w.heap.size + 1 < w1.heap.size := by have := hb1.size; omega
      clear hb1 hW a0 a1
      go_wp2_with fail
      refine (rnames_any _ L a b _ HV1.out).mono ?_
      rintro e w2 ⟨rfl, hb2⟩
      rw [HNM.out]
      have HB2 : Hid (Below w.heap.size w w2) := HB1.out.trans (hb2.mono HB1.out.size)
      have HA2 : Hid (w2.heap[w.heap.size + 1]? = some BZ) := (hb2.block _ hws1).trans HA1.out.2
      obtain ⟨⟨z0, z1, z2, z3, z4, z5, z6, z7⟩, zf⟩ := eight_of HA2.out
      clear hb2
      go_wp2
      (try simp only [Exit.inBlock, Exit.then])
      refine bodyPost_ret (v := .tuple #[.agg #[.int .i64 0, .int .i64 0, .int .i64 0, .int .i64 0, .int .i64 0, .slice none 0 0, .slice none 0 0, .int .i64 0], .int .i64 401]) ?_ rfl ⟨zeroR, rfl, rfl, good_zero _ _, ?_⟩
      · rw [results_cell_tmp rfl]
        go_simp
      · repeat (refine Below.setCell ?_ (by simp) _)
        exact HB2.out
    | true =>
      obtain ⟨k, x, rfl, hxk, hg, hk, hkl⟩ := It.named hn
      have HE : Hid (findErr (pl L) k b = 0 ∧ findI (pl L) k b = x.i) := by
        have h1 : findErr (pl L) k b = 0 := by unfold findErr; rw [if_pos hr, if_pos hn]
        refine ⟨h1, ?_⟩
        unfold findI
        rw [if_pos h1, show ((k : Int)).toNat = k from by omega, It.pl_get hxk]
        rfl
      have HNM : Hid (names (pl L) k b = true) := hn
      rw [HE.out.1, HE.out.2]
      obtain ⟨m, hm⟩ : ∃ m, L.length = m := ⟨_, rfl⟩
      have hkI : (k : Int) < (m : Int) := by omega
      rw [hm] at HV HV0 ⊢
      have HXK : Hid (L[k]? = some x) := hxk
      clear hr hn hxk hg hk hkl hm HE
      go_enter Try.func19, Try.ntmps19
      go_wp2_with fail
      rw [← hW]
      refine (rright_any _ L _ HV.out).mono ?_
      rintro e w1 ⟨rfl, hb1⟩
      rw [HR.out]
      have HB1 : Hid (Below w.heap.size w w1) := HB0.out.trans (hb1.mono HB0.out.size)
      have HA1 : Hid (w1.heap[w.heap.size]? = some (BH k b) ∧ w1.heap[w.heap.size + 1]? = some BZ) := ⟨(hb1.block _ (by omega)).trans HA0.out.1, (hb1.block _ (by omega)).trans HA0.out.2⟩
      have HV1 : Hid (TabAt (fun b => b < w.heap.size) w1 (.slice ao m cap) L) := HV.out.up hb1
      obtain ⟨⟨e0, e1⟩, _⟩ := two_of HA1.out.1
      have hws1 : w.heap.size + 1 < w1.heap.size := by have := hb1.size; omega
      clear hb1 hW a0 a1
      go_wp2_with fail
      refine (rnames_any _ L k b _ HV1.out).mono ?_
      rintro e w2 ⟨rfl, hb2⟩
      rw [HNM.out]
      have HB2 : Hid (Below w.heap.size w w2) := HB1.out.trans (hb2.mono HB1.out.size)
      have HA2 : Hid (w2.heap[w.heap.size]? = some (BH k b) ∧ w2.heap[w.heap.size + 1]? = some BZ) := ⟨(hb2.block _ (by omega)).trans HA1.out.1, (hb2.block _ hws1).trans HA1.out.2⟩
      have HV2 : Hid (TabAt (fun b => b < w.heap.size) w2 (.slice ao m cap) L) := HV1.out.up hb2
      obtain ⟨⟨z0, z1, z2, z3, z4, z5, z6, z7⟩, zf⟩ := eight_of HA2.out.2
      obtain ⟨ao', cap', hv', _, hx'⟩ := HV2.out.open
      obtain ⟨⟨bb, off, hbo, hB, hc⟩, hgx⟩ := hx' k x HXK.out
      simp only [Value.slice.injEq] at hv'
      obtain ⟨rfl, -, rfl⟩ := hv'
      subst hbo
      obtain ⟨c0, c1, c2, c3, c4, c5, c6, c7⟩ := hc
      have HGX : Hid (Good (fun b => b < w.heap.size) w2 x) := hgx
      clear e0 e1
      obtain ⟨⟨e0, e1⟩, _⟩ := two_of HA2.out.1
      obtain ⟨⟨g, kk, l, s, t, rs, es, nx⟩, rp, rn, rc, ep, en, ec⟩ := x
      simp only at c0 c1 c2 c3 c4 c5 c6 c7
      clear hb2 hx' hgx
      go_wp2
      (try simp only [Exit.inBlock, Exit.then])
      refine bodyPost_ret (v := .tuple #[.agg #[.int .i64 g, .int .i64 kk, .int .i64 l, .int .i64 s, .int .i64 t, .slice rp rn rc, .slice ep en ec, .int .i64 nx], .int .i64 0]) ?_ rfl ⟨⟨⟨g, kk, l, s, t, rs, es, nx⟩, rp, rn, rc, ep, en, ec⟩, rfl, rfl, ?_, ?_⟩
      · rw [results_cell_tmp rfl]
        go_simp
      · refine Good.imp (S := fun b => b < w.heap.size) ?_ (fun _ _ _ => trivial)
        repeat (refine Good.setCell ?_ (by simp) _)
        exact HGX.out
      · repeat (refine Below.setCell ?_ (by simp) _)
        exact HB2.out
end Go.Proofs.Ytobcjnfombfdmaa
