/-
  itab's fresh, New and next: what they answer.
-/
import Derived.Test.YtacghcoikekfeaaGreatWithA
namespace Go.Proofs.YtacghcoikekfeaaGreat
open Go.ChangeShapes Go.WideShapes Go.ChangeAt Go.RowKit Go.Deep It
set_option maxRecDepth 100000

/-- An inode without lists. -/
def It.bare (i : Ino) : Rw := ⟨i, none, 0, 0, none, 0, 0⟩
theorem good_bare (S : Nat → Prop) (w : World) {i : Ino} (h1 : i.runs = []) (h2 : i.ents = []) : Good S w (It.bare i) := by
  refine ⟨.inl ⟨_, _, rfl, h1⟩, .inl ⟨_, _, rfl, h2⟩, ?_⟩
  unfold It.bare okI
  simp only
  rw [h1, h2]
  exact ⟨fun x hx => (by cases hx), Nat.zero_le _, Nat.zero_le _⟩
set_option maxHeartbeats 1000000 in
theorem fresh_any (a b c : Int) (w : World) : Calls Tryz.prog 62 #[.int .i64 a, .int .i64 b, .int .i64 c] w fun e w' => e = .returned (VI (It.bare (fresh a b c))) ∧ Below w.heap.size w w' := by
  go_enter Tryz.func62, Tryz.ntmps62
  go_wp2
  (try simp only [Exit.inBlock, Exit.then])
  refine bodyPost_ret (v := .agg #[.int .i64 a, .int .i64 b, .int .i64 1, .int .i64 0, .int .i64 c, .slice none 0 0, .slice none 0 0, .int .i64 0]) ?_ rfl ⟨rfl, ?_⟩
  · rw [results_cell1 rfl]
    go_simp
  · exact (Below.refl _ w).alloc (Nat.le_refl _) _
theorem one_tab (S : Nat → Prop) (w : World) (B : Nat) (x : Rw) (hS : S B) (h : w.heap[B]? = some (.cells (EI.cells x).toArray 65 (0, 0))) : At EI S w (.slice (some ⟨B, 0, none⟩) 1 1) [x] := by
  refine .inr ⟨B, 0, 1, rfl, hS, (Array.getElem?_eq_some_iff.1 h).1, by simp, by simp, by simp [maxLen], fun j u hj => ?_⟩
  have hj' : (EI.cells x)[j]? = some u := by simpa [Enc.flat] using hj
  simp [World.cell?, h, hj']
set_option maxHeartbeats 1000000 in
theorem new_any (w : World) : Calls Tryz.prog 28 #[] w fun e w' => ∃ u L, e = .returned u ∧ TabAt (fun b => w.heap.size ≤ b) w' u L ∧ pl L = It.new ∧ Below w.heap.size w w' := by
  go_enter Tryz.func28, Tryz.ntmps28
  go_wp2_with fail
  refine (fresh_any 1 2 0 _).mono ?_
  rintro e w1 ⟨rfl, hb1⟩
  have HB1 : Hid (Below w.heap.size w w1) := hb1
  clear hb1
  go_wp2
  go_ret
  refine ⟨_, [It.bare (fresh 1 2 0)], rfl, ⟨one_tab _ _ _ _ HB1.out.size ?_, fun x hx => ?_⟩, rfl, HB1.out.alloc HB1.out.size _⟩
  · exact heap_alloc_new w1 _
  · simp at hx
    subst hx
    exact good_bare _ _ rfl rfl
theorem two_of {w : World} {A : Nat} {a b : Int} (h : w.heap[A]? = some (BH a b)) : (w.cell? ⟨A, 0, none⟩ = some (.int .i64 a) ∧ w.cell? ⟨A, 1, none⟩ = some (.int .i64 b)) ∧ ∀ j, w.frozen? ⟨A, j, none⟩ = false := by
  refine ⟨⟨?_, ?_⟩, fun j => ?_⟩ <;> simp [World.cell?, World.frozen?, h]

set_option maxHeartbeats 2000000 in
theorem next_any {S : Nat → Prop} (v : Value) (L : List Rw) (w : World) (hv : TabAt S w v L) (hr : It.right (pl L) = true) :
    Calls Tryz.prog 82 #[v] w fun e w' => e = .returned (VH (next (pl L))) ∧ Below w.heap.size w w' := by
  obtain ⟨ao, cap, rfl, hm, hx⟩ := hv.open
  clear hv
  unfold maxLen at hm
  have HR : Hid (∀ x ∈ L, one x.i = true) := fun x hx => (It.right_iff.1 hr).2.2 x.i (List.mem_map.2 ⟨x, hx, rfl⟩)
  obtain ⟨n, hn⟩ : ∃ n, L.length = n := ⟨_, rfl⟩
  rw [hn] at hm ⊢
  have HN : Hid (L.length = n) := hn
  have HX : Hid (∀ i x, L[i]? = some x → (∃ b off, ao = some ⟨b, off, none⟩ ∧ b < w.heap.size ∧ eight w b (off + i * 8) x) ∧ Good S w x) := hx
  obtain ⟨W, hW⟩ : ∃ W, W = w.alloc (BH 0 0) := ⟨_, rfl⟩
  have HB0 : Hid (Below w.heap.size w W) := by show Below w.heap.size w W; rw [hW]; exact (Below.refl _ w).alloc (Nat.le_refl _) _
  have HA0 : Hid (W.heap[w.heap.size]? = some (BH 0 0)) := by show W.heap[w.heap.size]? = _; rw [hW]; exact heap_alloc_new _ _
  have hws : w.heap.size < W.heap.size := by rw [hW]; simp
  clear hn hx hr
  go_enter Tryz.func82, Tryz.ntmps82
  go_wp2
  rw [← hW]
  clear hW
  go_loopw [7] (fun i wr => ∃ k : Nat, k ≤ n ∧ i = .int .i64 k ∧ (∀ j x, j < k → (pl L)[j]? = some x → ¬ (x.kind = 0 ∧ x.gen < 1099511627776)) ∧ Below W.heap.size W wr) (fun i _ => n - (intOf i).toNat)
  case atStart => exact ⟨0, Nat.zero_le _, rfl, fun j x hj => by omega, Below.refl _ _⟩
  case round =>
    obtain ⟨k, hk, rfl, hno, hbl⟩ := hrel
    have HNO : Hid (∀ j x, j < k → (pl L)[j]? = some x → ¬ (x.kind = 0 ∧ x.gen < 1099511627776)) := hno
    have hsz := hbl.size
    have HBW : Hid (Below w.heap.size w wr) := HB0.out.trans (hbl.mono HB0.out.size)
    have HA1 : Hid (wr.heap[w.heap.size]? = some (BH 0 0)) := (hbl.block _ hws).trans HA0.out
    clear hno
    by_cases hlt : k < n
    · obtain ⟨y, hyk⟩ : ∃ y, L[k]? = some y := ⟨_, List.getElem?_eq_getElem (by rw [HN.out]; exact hlt)⟩
      obtain ⟨⟨b, off, rfl, hB, hc⟩, _⟩ := HX.out k y hyk
      obtain ⟨d0, d1, d2, d3, d4, d5, d6, d7⟩ := hc.below HBW.out hB
      have HYK : Hid ((pl L)[k]? = some y.i) := It.pl_get hyk
      have HO := HR.out y (List.mem_of_getElem? hyk)
      have hbd := It.one_bd HO
      obtain ⟨⟨g, kk, l, s, t, rs, es, nx⟩, rp, rn, rc, ep, en, ec⟩ := y
      simp only at d0 d1 d2 d3 d4 d5 d6 d7 hbd HYK
      have HA2 : Hid ((wr.alloc (B8 g kk l s t (.slice rp rn rc) (.slice ep en ec) nx)).heap[w.heap.size]? = some (BH 0 0)) := (Below.heap_alloc _ _ _ (by omega)).trans HA1.out
      obtain ⟨⟨a0, a1⟩, af⟩ := two_of HA2.out
      have hlt' : (k : Int) < (n : Int) := by omega
      obtain ⟨hg1, hg2⟩ := hbd
      clear hyk hc HO hB
      by_cases hkd : kk = 0
      · by_cases hge : g < 1099511627776
        · have HE : Hid (next (pl L) = ((k : Int), g + 1)) := It.next_here HYK.out HNO.out ⟨hkd, hge⟩
          have hkd' : (kk == 0) = true := by simp [hkd]
          clear hkd
          go_wp2
          (try simp only [Exit.inBlock, Exit.then])
          refine bodyPost_ret (v := .agg #[.int .i64 k, .int .i64 (g + 1)]) ?_ rfl ⟨by rw [HE.out], ?_⟩
          · rw [results_cell1 rfl]
            go_simp
          · exact ((HBW.out.alloc HBW.out.size _).setCell (p := ⟨w.heap.size, 0, none⟩) (Nat.le_refl _) _).setCell (p := ⟨w.heap.size, 1, none⟩) (Nat.le_refl _) _
        · have hkd' : (kk == 0) = true := by simp [hkd]
          have HN2 : Hid (∀ j x, j < k + 1 → (pl L)[j]? = some x → ¬ (x.kind = 0 ∧ x.gen < 1099511627776)) := fun j x hj hx hq => by
            rcases Nat.lt_or_ge j k with h | h
            · exact HNO.out j x h hx hq
            · obtain rfl : j = k := by omega
              rw [HYK.out] at hx
              cases hx
              exact hge hq.2
          clear hkd
          go_wp2
          go_roundw
          case rel => exact ⟨k + 1, by omega, by go_num, HN2.out, hbl.alloc hsz _⟩
          case measure => simp [intOf]; omega
      · have hkd' : (kk == 0) = false := by simp [hkd]
        have HN2 : Hid (∀ j x, j < k + 1 → (pl L)[j]? = some x → ¬ (x.kind = 0 ∧ x.gen < 1099511627776)) := fun j x hj hx hq => by
          rcases Nat.lt_or_ge j k with h | h
          · exact HNO.out j x h hx hq
          · obtain rfl : j = k := by omega
            rw [HYK.out] at hx
            cases hx
            exact hkd hq.1
        clear hkd
        go_wp2
        go_roundw
        case rel => exact ⟨k + 1, by omega, by go_num, HN2.out, hbl.alloc hsz _⟩
        case measure => simp [intOf]; omega
    · obtain rfl : k = n := by omega
      have HE : Hid (next (pl L) = ((k : Int), 1)) := by
        have h := It.next_none (L := pl L) (fun i x hi hx => HNO.out i x (by simp only [pl, List.length_map, HN.out] at hi; exact hi) hx)
        simp only [pl, List.length_map, HN.out] at h
        exact h
      obtain ⟨⟨a0, a1⟩, af⟩ := two_of HA1.out
      go_wp2
      (try simp only [Exit.inBlock, Exit.then])
      refine bodyPost_ret (v := .agg #[.int .i64 k, .int .i64 1]) ?_ rfl ⟨by rw [HE.out], ?_⟩
      · rw [results_cell1 rfl]
        go_simp
      · exact (HBW.out.setCell (p := ⟨w.heap.size, 0, none⟩) (Nat.le_refl _) _).setCell (p := ⟨w.heap.size, 1, none⟩) (Nat.le_refl _) _
end Go.Proofs.YtacghcoikekfeaaGreat
