/-
  The document's answer for tables: Right, Names, Find.
-/
import Derived.Test.YtacghcoikekfeaaGreatRefOne
import Derived.Test.YtacghcoikekfeaaGreatMakeB
namespace Go.Proofs.YtacghcoikekfeaaGreat
open Go.ChangeShapes Go.WideShapes Go.ChangeAt Go.RowKit Go.Deep It
set_option maxRecDepth 100000

theorem It.not_right {L : List Ino} (h : It.right L = true → False) : It.right L = false := by
  cases hr : It.right L with
  | false => rfl
  | true => exact absurd hr h
set_option maxHeartbeats 1000000 in
theorem rright_any {S : Nat → Prop} (v : Value) (L : List Rw) (w : World) (hv : TabAt S w v L) :
    Calls Tryz.prog 35 #[v] w fun e w' => e = .returned (.bool (It.right (pl L))) ∧ Below w.heap.size w w' := by
  obtain ⟨ao, cap, rfl, hm, hx⟩ := hv.open
  clear hv
  unfold maxLen at hm
  obtain ⟨n, hn⟩ : ∃ n, L.length = n := ⟨_, rfl⟩
  rw [hn] at hm ⊢
  have HN : Hid (L.length = n) := hn
  have HX : Hid (∀ i x, L[i]? = some x → (∃ b off, ao = some ⟨b, off, none⟩ ∧ b < w.heap.size ∧ eight w b (off + i * 8) x) ∧ Good S w x) := hx
  clear hn hx
  obtain ⟨res, hres⟩ : ∃ res, It.right (pl L) = res := ⟨_, rfl⟩
  have HRES : Hid (It.right (pl L) = res) := hres
  rw [hres]
  clear hres
  by_cases hr : 1 ≤ n ∧ n ≤ 24
  · have h0 : L[0]? = some (L[0]'(by have := HN.out; omega)) := List.getElem?_eq_getElem _
    obtain ⟨x, hx0⟩ : ∃ x, L[0]? = some x := ⟨_, h0⟩
    clear h0
    obtain ⟨⟨b, off, rfl, hB, hc⟩, hg⟩ := HX.out 0 x hx0
    have c1 := hc.2.1
    simp only [Nat.zero_mul, Nat.add_zero] at c1
    have hn1 : ¬ (n : Int) < 1 := by omega
    have hn2 : ¬ (24 : Int) < (n : Int) := by omega
    have hn0 : (0 : Int) < (n : Int) := by omega
    by_cases hk : x.i.kind = 2
    · have HR0 : Hid (rootB (pl L) = true) := by
        cases L with
        | nil => simp at hx0
        | cons y l =>
          simp at hx0
          subst hx0
          exact decide_eq_true hk
      rw [hk] at c1
      clear hc hg hk
      go_enter Tryz.func35, Tryz.ntmps35
      go_wp2
      go_loopw [23] (fun i wr => ∃ k : Nat, k ≤ n ∧ i = .int .i64 k ∧ (∀ y ∈ L.take k, one y.i = true) ∧ Below w.heap.size w wr) (fun i _ => n - (intOf i).toNat)
      case atStart => exact ⟨0, Nat.zero_le _, rfl, by simp, Below.refl _ _⟩
      case round =>
        obtain ⟨k, hk, rfl, hall, hbl⟩ := hrel
        have HALL : Hid (∀ y ∈ L.take k, one y.i = true) := hall
        clear hall
        have hsz := hbl.size
        by_cases hlt : k < n
        · have h0 : L[k]? = some (L[k]'(by have := HN.out; omega)) := List.getElem?_eq_getElem _
          obtain ⟨y, hyk⟩ : ∃ y, L[k]? = some y := ⟨_, h0⟩
          clear h0
          obtain ⟨⟨b', off', hbe, hB', hc'⟩, hg'⟩ := HX.out k y hyk
          cases hbe
          obtain ⟨d0, d1, d2, d3, d4, d5, d6, d7⟩ := hc'.below hbl hB'
          have HGY : Hid (Good S wr y) := hg'.up hbl
          have HT : Hid (L.take (k + 1) = L.take k ++ [y]) := It.take_succ hyk
          have HMY : Hid (y ∈ L) := List.mem_of_getElem? hyk
          have hlt' : (k : Int) < (n : Int) := by omega
          clear hyk hc' hg'
          go_wp2_with fail
          refine (rone_any y _ (HGY.out.up ((Below.refl _ _).alloc (Nat.le_refl _) _))).mono ?_
          rintro e w2 ⟨rfl, hb2⟩
          have HB2 : Hid (Below w.heap.size w w2) := (hbl.alloc hsz _).trans (hb2.mono (by simp; omega))
          clear hb2
          cases ho : one y.i with
          | false =>
            have HE : Hid (res = false) := by
              show res = false
              rw [← HRES.out]
              exact It.not_right fun h => by
                have := (It.right_iff.1 h).2.2 y.i (List.mem_map.2 ⟨y, HMY.out, rfl⟩)
                rw [ho] at this
                cases this
            clear ho
            go_wp2
            go_ret
            rw [HE.out]
            exact ⟨rfl, HB2.out⟩
          | true =>
            have HO : Hid (one y.i = true) := ho
            clear ho
            go_wp2
            go_roundw
            case rel =>
              refine ⟨k + 1, by omega, by go_num, fun z hz => ?_, HB2.out⟩
              rw [HT.out, List.mem_append] at hz
              rcases hz with hz | hz
              · exact HALL.out z hz
              · simp at hz
                subst hz
                exact HO.out
            case measure => simp [intOf]; omega
        · obtain rfl : k = n := by omega
          have HE : Hid (res = true) := by
            show res = true
            rw [← HRES.out]
            refine It.right_iff.2 ⟨?_, HR0.out, fun z hz => ?_⟩
            · have := HN.out
              simp only [pl, List.length_map]
              omega
            · obtain ⟨y, hy, rfl⟩ := List.mem_map.1 hz
              refine HALL.out y ?_
              rw [← HN.out, List.take_length]
              exact hy
          go_wp2
          go_ret
          rw [HE.out]
          exact ⟨rfl, hbl⟩
    · have hk' : (x.i.kind != 2) = true := by simp [hk]
      have HE : Hid (res = false) := by
        show res = false
        rw [← HRES.out]
        exact It.not_right fun h => by
          have := (It.right_iff.1 h).2.1
          cases L with
          | nil => simp at hx0
          | cons y l =>
            simp at hx0
            subst hx0
            exact hk (of_decide_eq_true this)
      clear hc hg hk
      go_enter Tryz.func35, Tryz.ntmps35
      go_wp2
      go_ret
      rw [HE.out]
      exact ⟨rfl, Below.refl _ _⟩
  · have HE : Hid (res = false) := by
      show res = false
      rw [← HRES.out]
      exact It.not_right fun h => by
        have := (It.right_iff.1 h).1
        simp only [pl, List.length_map] at this
        have := HN.out
        omega
    have hor : (n : Int) < 1 ∨ (¬ (n : Int) < 1 ∧ (24 : Int) < (n : Int)) := by omega
    clear hr
    rcases hor with h1 | ⟨h1, h2⟩
    all_goals
      go_enter Tryz.func35, Tryz.ntmps35
      go_wp2
      go_ret
      rw [HE.out]
      exact ⟨rfl, Below.refl _ _⟩

set_option maxHeartbeats 2000000 in
theorem rnames_any {S : Nat → Prop} (v : Value) (L : List Rw) (a b : Int) (w : World) (hv : TabAt S w v L) :
    Calls Tryz.prog 37 #[v, .agg #[.int .i64 a, .int .i64 b]] w fun e w' => e = .returned (.bool (names (pl L) a b)) ∧ Below w.heap.size w w' := by
  obtain ⟨ao, cap, rfl, hm, hx⟩ := hv.open
  clear hv
  unfold maxLen at hm
  obtain ⟨n, hn⟩ : ∃ n, L.length = n := ⟨_, rfl⟩
  rw [hn] at hm ⊢
  have HN : Hid (L.length = n) := hn
  have HX : Hid (∀ i x, L[i]? = some x → (∃ b off, ao = some ⟨b, off, none⟩ ∧ b < w.heap.size ∧ eight w b (off + i * 8) x) ∧ Good S w x) := hx
  obtain ⟨W, hW⟩ : ∃ W, W = w.alloc (BH a b) := ⟨_, rfl⟩
  have HB0 : Hid (Below w.heap.size w W) := by show Below w.heap.size w W; rw [hW]; exact (Below.refl _ w).alloc (Nat.le_refl _) _
  have HA0 : Hid (W.heap[w.heap.size]? = some (BH a b)) := by show W.heap[w.heap.size]? = _; rw [hW]; exact heap_alloc_new _ _
  have hws : w.heap.size < W.heap.size := by rw [hW]; simp
  obtain ⟨res, hres⟩ : ∃ res, names (pl L) a b = res := ⟨_, rfl⟩
  have HRES : Hid (names (pl L) a b = res) := hres
  rw [hres]
  clear hn hx hres
  go_enter Tryz.func37, Tryz.ntmps37
  go_wp2
  rw [← hW]
  clear hW
  go_loopw [9] (fun i wr => ∃ k : Nat, k ≤ n ∧ i = .int .i64 k ∧ (∀ j x, j < k → L[j]? = some x → ¬ ((j : Int) = a ∧ x.i.gen = b ∧ x.i.kind ≠ 0)) ∧ Below W.heap.size W wr) (fun i _ => n - (intOf i).toNat)
  case atStart => exact ⟨0, Nat.zero_le _, rfl, fun j x hj => by omega, Below.refl _ _⟩
  case round =>
    obtain ⟨k, hk, rfl, hno, hbl⟩ := hrel
    have HNO : Hid (∀ j x, j < k → L[j]? = some x → ¬ ((j : Int) = a ∧ x.i.gen = b ∧ x.i.kind ≠ 0)) := hno
    have hsz := hbl.size
    have HBW : Hid (Below w.heap.size w wr) := HB0.out.trans (hbl.mono HB0.out.size)
    have HA1 : Hid (wr.heap[w.heap.size]? = some (BH a b)) := (hbl.block _ hws).trans HA0.out
    clear hno
    by_cases hlt : k < n
    · obtain ⟨y, hyk⟩ : ∃ y, L[k]? = some y := ⟨_, List.getElem?_eq_getElem (by rw [HN.out]; exact hlt)⟩
      obtain ⟨⟨b', off, rfl, hB, hc⟩, _⟩ := HX.out k y hyk
      obtain ⟨d0, d1, d2, d3, d4, d5, d6, d7⟩ := hc.below HBW.out hB
      have HYK : Hid (L[k]? = some y) := hyk
      have HNEXT : ¬ ((k : Int) = a ∧ y.i.gen = b ∧ y.i.kind ≠ 0) → Hid (∀ j x, j < k + 1 → L[j]? = some x → ¬ ((j : Int) = a ∧ x.i.gen = b ∧ x.i.kind ≠ 0)) := fun hne j x hj hx hq => by
        rcases Nat.lt_or_ge j k with h | h
        · exact HNO.out j x h hx hq
        · obtain rfl : j = k := by omega
          rw [HYK.out] at hx
          cases hx
          exact hne hq
      have HYES : ((k : Int) = a ∧ y.i.gen = b ∧ y.i.kind ≠ 0) → Hid (res = true) := fun hq => by
        show res = true
        rw [← HRES.out]
        exact It.names_iff.2 ⟨k, y.i, It.pl_get HYK.out, hq.1.symm, hq.2.1, hq.2.2⟩
      obtain ⟨⟨g, kk, l, s, t, rs, es, nx⟩, rp, rn, rc, ep, en, ec⟩ := y
      simp only at d0 d1 d2 d3 d4 d5 d6 d7 HNEXT HYES
      have HA2 : Hid ((wr.alloc (B8 g kk l s t (.slice rp rn rc) (.slice ep en ec) nx)).heap[w.heap.size]? = some (BH a b)) := (Below.heap_alloc _ _ _ (by omega)).trans HA1.out
      obtain ⟨⟨a0, a1⟩, _⟩ := two_of HA2.out
      have hlt' : (k : Int) < (n : Int) := by omega
      clear hyk hc hB HYK
      by_cases h1 : (k : Int) = a
      · by_cases h2 : g = b
        · by_cases h3 : kk = 0
          · have HN2 := HNEXT (fun h => h.2.2 h3)
            have h1' : ((k : Int) == a) = true := by simp [h1]
            have h2' : (g == b) = true := by simp [h2]
            have h3' : (kk != 0) = false := by simp [h3]
            clear h1 h2 h3 HNEXT HYES
            go_wp2
            go_roundw
            case rel => exact ⟨k + 1, by omega, by go_num, HN2.out, hbl.alloc hsz _⟩
            case measure => simp [intOf]; omega
          · have HE := HYES ⟨h1, h2, h3⟩
            have h1' : ((k : Int) == a) = true := by simp [h1]
            have h2' : (g == b) = true := by simp [h2]
            have h3' : (kk != 0) = true := by simp [h3]
            clear h1 h2 h3 HNEXT HYES
            go_wp2
            go_ret
            rw [HE.out]
            exact ⟨rfl, HBW.out.alloc HBW.out.size _⟩
        · have HN2 := HNEXT (fun h => h2 h.2.1)
          have h1' : ((k : Int) == a) = true := by simp [h1]
          have h2' : (g == b) = false := by simp [h2]
          clear h1 h2 HNEXT HYES
          go_wp2
          go_roundw
          case rel => exact ⟨k + 1, by omega, by go_num, HN2.out, hbl.alloc hsz _⟩
          case measure => simp [intOf]; omega
      · have HN2 := HNEXT (fun h => h1 h.1)
        have h1' : ((k : Int) == a) = false := by simp [h1]
        clear h1 HNEXT HYES
        go_wp2
        go_roundw
        case rel => exact ⟨k + 1, by omega, by go_num, HN2.out, hbl.alloc hsz _⟩
        case measure => simp [intOf]; omega
    · obtain rfl : k = n := by omega
      have HE : Hid (res = false) := by
        show res = false
        rw [← HRES.out]
        cases hq : names (pl L) a b with
        | false => rfl
        | true =>
          obtain ⟨j, y, hja, hy, hyg, hyk, hjl⟩ := It.named hq
          exact absurd ⟨hja.symm, hyg, hyk⟩ (HNO.out j y (by rw [← HN.out]; exact hjl) hy)
      go_wp2
      go_ret
      rw [HE.out]
      exact ⟨rfl, HBW.out⟩

end Go.Proofs.YtacghcoikekfeaaGreat
