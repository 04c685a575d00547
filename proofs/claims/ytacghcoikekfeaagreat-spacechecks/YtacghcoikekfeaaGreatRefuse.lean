/-
  slices.Contains at handles, and itab's refuse: whether a handle names an inode of a right table.
-/
import Derived.Test.YtacghcoikekfeaaGreatUsed
namespace Go.Proofs.YtacghcoikekfeaaGreat
open Go.ChangeShapes Go.WideShapes Go.ChangeAt Go.RowKit Go.Deep It
set_option maxRecDepth 100000

set_option maxHeartbeats 1000000 in
theorem index_any {S : Nat → Prop} (v : Value) (l : List (Int × Int)) (a b : Int) (w : World) (hv : At EH S w v l) :
    Calls Tryz.prog 138 #[v, .agg #[.int .i64 a, .int .i64 b]] w fun e w' => ∃ r : Int, e = .returned (.int .i64 r) ∧ decide (0 ≤ r) = decide ((a, b) ∈ l) ∧ Below w.heap.size w w' := by
  obtain ⟨ao, cap, rfl, hm, hx⟩ := hv.open
  clear hv
  unfold maxLen at hm
  obtain ⟨n, hn⟩ : ∃ n, l.length = n := ⟨_, rfl⟩
  rw [hn] at hm ⊢
  have HN : Hid (l.length = n) := hn
  have HX : Hid (∀ i x, l[i]? = some x → ∃ b off, ao = some ⟨b, off, none⟩ ∧ S b ∧ b < w.heap.size ∧ ∀ k u, (EH.cells x)[k]? = some u → w.cell? ⟨b, off + (i * 2 + k), none⟩ = some u) := hx
  have HB0 : Hid (Below w.heap.size w (w.alloc (BH a b))) := (Below.refl _ w).alloc (Nat.le_refl _) _
  obtain ⟨W, hW⟩ : ∃ W, W = w.alloc (BH a b) := ⟨_, rfl⟩
  have e0 : W.cell? ⟨w.heap.size, 0, none⟩ = some (.int .i64 a) := by rw [hW]; simp
  have e1 : W.cell? ⟨w.heap.size, 1, none⟩ = some (.int .i64 b) := by rw [hW]; simp
  have hws : w.heap.size < W.heap.size := by rw [hW]; simp
  rw [← hW] at HB0
  clear hn hx
  go_enter Tryz.func138, Tryz.ntmps138
  go_wp2
  rw [← hW]
  clear hW
  go_loopw [8] (fun i wr => ∃ k : Nat, k ≤ n ∧ i = .int .i64 k ∧ (a, b) ∉ l.take k ∧ Below W.heap.size W wr) (fun i _ => n - (intOf i).toNat)
  case atStart => exact ⟨0, Nat.zero_le _, rfl, by simp, Below.refl _ _⟩
  case round =>
    obtain ⟨k, hk, rfl, hno, hbl⟩ := hrel
    have HNO : Hid ((a, b) ∉ l.take k) := hno
    clear hno
    rw [← hbl.cell (p := ⟨w.heap.size, 0, none⟩) hws] at e0
    rw [← hbl.cell (p := ⟨w.heap.size, 1, none⟩) hws] at e1
    by_cases hlt : k < n
    · have h0 : l[k]? = some (l[k]'(by have := HN.out; omega)) := List.getElem?_eq_getElem _
      obtain ⟨y, hyk⟩ : ∃ y, l[k]? = some y := ⟨_, h0⟩
      clear h0
      obtain ⟨b', off, rfl, _, hB, hc⟩ := HX.out k y hyk
      have hBW : b' < W.heap.size := by omega
      have c0 := hc 0 _ rfl
      have c1 := hc 1 _ rfl
      rw [← HB0.out.cell (p := ⟨b', off + (k * 2 + 0), none⟩) hB, ← hbl.cell (p := ⟨b', off + (k * 2 + 0), none⟩) hBW, Nat.add_zero] at c0
      rw [← HB0.out.cell (p := ⟨b', off + (k * 2 + 1), none⟩) hB, ← hbl.cell (p := ⟨b', off + (k * 2 + 1), none⟩) hBW, ← Nat.add_assoc] at c1
      have HT : Hid (l.take (k + 1) = l.take k ++ [y]) := It.take_succ hyk
      have HMY : Hid (y ∈ l) := List.mem_of_getElem? hyk
      have hlt' : (k : Int) < (n : Int) := by omega
      have hk0 : (0 : Int) ≤ (k : Int) := by omega
      obtain ⟨ya, yb⟩ := y
      simp only at c0 c1
      clear hyk hc hB hBW
      by_cases h : a = ya ∧ b = yb
      · have HE : Hid (decide ((0 : Int) ≤ (k : Int)) = decide ((a, b) ∈ l)) := by
          show _ = _
          rw [decide_eq_true hk0, decide_eq_true (show (a, b) ∈ l by rw [h.1, h.2]; exact HMY.out)]
        obtain ⟨rfl, rfl⟩ := h
        go_wp2
        go_quiet (fail)
        go_wp2
        go_ret
        exact ⟨_, rfl, HE.out, Go.below_drewN (HB0.out.trans (hbl.mono HB0.out.size)) _⟩
      · have HNY : Hid ((a, b) ∉ l.take (k + 1)) := by
          show (a, b) ∉ l.take (k + 1)
          rw [HT.out, List.mem_append]
          rintro (hh | hh)
          · exact HNO.out hh
          · simp at hh
            exact h hh
        have hq : (a == ya && b == yb) = false := by simpa using h
        have hq2 : (a == ya) = true → (b == yb) = false := fun h1 => by simpa [h1] using hq
        by_cases h1 : a = ya
        · subst h1
          have h2 : (b == yb) = false := hq2 (by simp)
          clear h hq hq2
          go_wp2
          go_quiet (fail)
          go_wp2
          go_roundw
          case rel => exact ⟨k + 1, by omega, by go_num, HNY.out, Go.below_drewN hbl _⟩
          case measure => simp [intOf]; omega
        · have h2 : (a == ya) = false := by simp [h1]
          clear h hq hq2 h1
          go_wp2
          go_quiet (fail)
          go_wp2
          go_roundw
          case rel => exact ⟨k + 1, by omega, by go_num, HNY.out, Go.below_drewN hbl _⟩
          case measure => simp [intOf]; omega
    · obtain rfl : k = n := by omega
      have HE : Hid (decide ((0 : Int) ≤ -1) = decide ((a, b) ∈ l)) := by
        have := HNO.out
        rw [List.take_of_length_le (by have := HN.out; omega)] at this
        show _ = _
        rw [decide_eq_false this]
        rfl
      go_wp2
      go_ret
      exact ⟨_, rfl, HE.out, HB0.out.trans (hbl.mono HB0.out.size)⟩

set_option maxHeartbeats 1000000 in
theorem contains_any {S : Nat → Prop} (v : Value) (l : List (Int × Int)) (a b : Int) (w : World) (hv : At EH S w v l) :
    Calls Tryz.prog 124 #[v, .agg #[.int .i64 a, .int .i64 b]] w fun e w' => e = .returned (.bool (decide ((a, b) ∈ l))) ∧ Below w.heap.size w w' := by
  have HV : Hid (At EH S (w.alloc (BH a b)) v l) := hv.up ((Below.refl _ w).alloc (Nat.le_refl _) _)
  obtain ⟨ao, cap, rfl, hm, hx⟩ := hv.open
  clear hv hx
  go_enter Tryz.func124, Tryz.ntmps124
  go_wp2_with fail
  refine (index_any _ l a b _ HV.out).mono ?_
  rintro e w1 ⟨r, rfl, hr, hb⟩
  have HB : Hid (Below w.heap.size w w1) := ((Below.refl _ w).alloc (Nat.le_refl _) _).trans (hb.mono (by simp))
  have HR : Hid (decide (0 ≤ r) = decide ((a, b) ∈ l)) := hr
  clear hr hb
  go_wp2
  go_ret
  refine ⟨?_, HB.out⟩
  rw [← HR.out]
  rfl

theorem TabAt.drew {S : Nat → Prop} {w : World} {v : Value} {L : List Rw} (h : TabAt S w v L) : TabAt S w.drew v L := h
theorem two_next {w w' : World} {b o1 o2 : Nat} {x y : Value} (h : w.cell? ⟨b, o1, none⟩ = some x ∧ w.cell? ⟨b, o2, none⟩ = some y) (hb : Below w.heap.size w w') : w'.cell? ⟨b, o1, none⟩ = some x ∧ w'.cell? ⟨b, o2, none⟩ = some y :=
  ⟨(hb.cell (p := ⟨b, o1, none⟩) (World.block_lt_of_cell? _ _ h.1)).trans h.1, (hb.cell (p := ⟨b, o2, none⟩) (World.block_lt_of_cell? _ _ h.2)).trans h.2⟩
set_option maxHeartbeats 1000000 in
theorem refuse_any {S : Nat → Prop} (v : Value) (L : List Rw) (a b : Int) (w : World) (hv : TabAt S w v L) :
    Calls Tryz.prog 95 #[v, .agg #[.int .i64 a, .int .i64 b]] w fun e w' => e = .returned (.int .i64 (findErr (pl L) a b)) ∧ Below w.heap.size w w' := by
  have HB0 : Hid (Below w.heap.size w (w.alloc (BH a b))) := (Below.refl _ w).alloc (Nat.le_refl _) _
  obtain ⟨W, hW⟩ : ∃ W, W = w.alloc (BH a b) := ⟨_, rfl⟩
  have e0 : W.cell? ⟨w.heap.size, 0, none⟩ = some (.int .i64 a) := by rw [hW]; simp
  have e1 : W.cell? ⟨w.heap.size, 1, none⟩ = some (.int .i64 b) := by rw [hW]; simp
  have hws : w.heap.size < W.heap.size := by rw [hW]; simp
  rw [← hW] at HB0
  have HV : Hid (TabAt S W v L) := hv.up HB0.out
  obtain ⟨ao, cap, rfl, _, _⟩ := hv.open
  clear hv
  by_cases hr : It.right (pl L) = true
  · have HC : Hid (It.checkErr (pl L) = 0) := by show It.checkErr (pl L) = 0; unfold It.checkErr; rw [if_pos hr]
    have HL : Hid (L.length ≤ 1466015503701) := by
      have := (It.right_iff.1 hr).1
      simp only [pl, List.length_map] at this
      show L.length ≤ _
      omega
    have HF : Hid (findErr (pl L) a b = if decide ((a, b) ∈ used (pl L)) = true then 0 else 401) := by
      show findErr (pl L) a b = _
      unfold findErr
      rw [if_pos hr]
      simp only [decide_eq_true_eq, It.mem_used]
    cases hd : decide ((a, b) ∈ used (pl L)) with
    | true =>
      have HD : Hid (decide ((a, b) ∈ used (pl L)) = true) := hd
      have HF2 : Hid (findErr (pl L) a b = 0) := by show findErr (pl L) a b = 0; rw [HF.out, hd]; rfl
      rw [HF2.out]
      clear HF HF2 hr hd
      go_enter Tryz.func95, Tryz.ntmps95
      go_wp2_with fail
      rw [← hW]
      refine (check_any _ L _ HV.out).mono ?_
      rintro e w1 ⟨rfl, hb1⟩
      rw [HC.out]
      have HB1 : Hid (Below w.heap.size w w1) := HB0.out.trans (hb1.mono HB0.out.size)
      have HV1 : Hid (TabAt S w1 (.slice ao L.length cap) L) := HV.out.up hb1
      have HSS : Hid (w1.cell? ⟨w.heap.size, 0, none⟩ = some (.int .i64 a) ∧ w1.cell? ⟨w.heap.size, 1, none⟩ = some (.int .i64 b)) := two_next ⟨e0, e1⟩ hb1
      clear hb1 hW HV
      go_wp2_with fail
      go_region_held3 (fun w' => w'.cell? ⟨w.heap.size, 0, none⟩ = some (.int .i64 a) ∧ w'.cell? ⟨w.heap.size, 1, none⟩ = some (.int .i64 b)) (first | exact HSS.out | exact two_next (by assumption) (by assumption)) (first
        | (go_at_call 68; refine (used_any (S := S) _ L _ HV1.out.drew HL.out).mono ?_; rintro e w2 ⟨u2, rfl, hu2, hb2⟩)
        | (go_at_call 124; refine (contains_any _ (used (pl L)) a b _ hu2).mono ?_; rintro e w3 ⟨rfl, hb3⟩; rw [HD.out]))
      have HB3 : Hid (Below w.heap.size w w3) := by
        have b2 : Below w1.heap.size w1 w2 := ⟨hb2.os, hb2.tape, hb2.output, hb2.size, hb2.block⟩
        have h2 := HB1.out.trans (b2.mono HB1.out.size)
        exact h2.trans (hb3.mono h2.size)
      clear hb2 hb3 hu2
      go_wp2
      go_ret
      exact ⟨rfl, HB3.out⟩
    | false =>
      have HD : Hid (decide ((a, b) ∈ used (pl L)) = false) := hd
      have HF2 : Hid (findErr (pl L) a b = 401) := by show findErr (pl L) a b = 401; rw [HF.out, hd]; rfl
      rw [HF2.out]
      clear HF HF2 hr hd
      go_enter Tryz.func95, Tryz.ntmps95
      go_wp2_with fail
      rw [← hW]
      refine (check_any _ L _ HV.out).mono ?_
      rintro e w1 ⟨rfl, hb1⟩
      rw [HC.out]
      have HB1 : Hid (Below w.heap.size w w1) := HB0.out.trans (hb1.mono HB0.out.size)
      have HV1 : Hid (TabAt S w1 (.slice ao L.length cap) L) := HV.out.up hb1
      have HSS : Hid (w1.cell? ⟨w.heap.size, 0, none⟩ = some (.int .i64 a) ∧ w1.cell? ⟨w.heap.size, 1, none⟩ = some (.int .i64 b)) := two_next ⟨e0, e1⟩ hb1
      clear hb1 hW HV
      go_wp2_with fail
      go_region_held3 (fun w' => w'.cell? ⟨w.heap.size, 0, none⟩ = some (.int .i64 a) ∧ w'.cell? ⟨w.heap.size, 1, none⟩ = some (.int .i64 b)) (first | exact HSS.out | exact two_next (by assumption) (by assumption)) (first
        | (go_at_call 68; refine (used_any (S := S) _ L _ HV1.out.drew HL.out).mono ?_; rintro e w2 ⟨u2, rfl, hu2, hb2⟩)
        | (go_at_call 124; refine (contains_any _ (used (pl L)) a b _ hu2).mono ?_; rintro e w3 ⟨rfl, hb3⟩; rw [HD.out]))
      have HB3 : Hid (Below w.heap.size w w3) := by
        have b2 : Below w1.heap.size w1 w2 := ⟨hb2.os, hb2.tape, hb2.output, hb2.size, hb2.block⟩
        have h2 := HB1.out.trans (b2.mono HB1.out.size)
        exact h2.trans (hb3.mono h2.size)
      clear hb2 hb3 hu2
      go_wp2
      go_ret
      exact ⟨rfl, HB3.out⟩
  · have HC : Hid (It.checkErr (pl L) = 4) := by show It.checkErr (pl L) = 4; unfold It.checkErr; rw [if_neg hr]
    have HF : Hid (findErr (pl L) a b = 4) := by show findErr (pl L) a b = 4; unfold findErr; rw [if_neg hr]
    rw [HF.out]
    clear HF hr
    go_enter Tryz.func95, Tryz.ntmps95
    go_wp2_with fail
    rw [← hW]
    refine (check_any _ L _ HV.out).mono ?_
    rintro e w1 ⟨rfl, hb1⟩
    rw [HC.out]
    have HB1 : Hid (Below w.heap.size w w1) := HB0.out.trans (hb1.mono HB0.out.size)
    clear hb1 hW
    go_wp2
    go_ret
    exact ⟨rfl, HB1.out⟩
end Go.Proofs.YtacghcoikekfeaaGreat
