/-
  For any two ints sextonlaw06.PanelTurns returns true, whatever the memory: every replica's turn comes once in as many views as there are replicas. No condition.
-/
import Derived.Test.YtoplngccejkkcaaFive
import Derived.Test.YtoplngccejkkcaaLaw
namespace Go.Proofs.Ytoplngccejkkcaa
open Go.ChangeShapes Go.WideShapes Go.ChangeAt Go.RowKit

/-- Block A is an array of seven, and says g. -/
def ArrAt (w : World) (A : Nat) (T : TypeId) (g : Nat → Value) : Prop := ∃ cur : Array Value, w.heap[A]? = some (.cells cur T (0, 0)) ∧ ∀ i, i < 7 → cur[i]? = some (g i)
theorem ArrAt.lt {w : World} {A : Nat} {T : TypeId} {g : Nat → Value} (h : ArrAt w A T g) : A < w.heap.size := by
  obtain ⟨cur, hb, _⟩ := h
  exact (Array.getElem?_eq_some_iff.1 hb).1
theorem ArrAt.cell {w : World} {A : Nat} {T : TypeId} {g : Nat → Value} (h : ArrAt w A T g) {i : Nat} (hi : i < 7) : w.cell? ⟨A, i, none⟩ = some (g i) ∧ w.frozen? ⟨A, i, none⟩ = false := by
  obtain ⟨cur, hb, hg⟩ := h
  exact ⟨by simp [World.cell?, hb, hg i hi], by simp [World.frozen?, hb]⟩
theorem ArrAt.put {w : World} {A : Nat} {T : TypeId} {g g' : Nat → Value} (h : ArrAt w A T g) {i : Nat} {v : Value} (hg : ∀ j, j < 7 → g' j = if j = i then v else g j) : ArrAt (w.setCell ⟨A, i, none⟩ v) A T g' := by
  obtain ⟨cur, hb, hc⟩ := h
  refine ⟨cur.setIfInBounds i v, by simp [World.setCell, Array.getElem?_modify, hb], fun j hj => ?_⟩
  rw [hg j hj]
  have hjs : j < cur.size := (Array.getElem?_eq_some_iff.1 (hc j hj)).1
  by_cases e : j = i
  · subst e
    rw [if_pos rfl]
    simp [hjs]
  · rw [if_neg e, Array.getElem?_setIfInBounds_ne (Ne.symm e)]
    exact hc j hj
/-- Which nodes were the primaries of the j views from v on. -/
def Pn.seen (f v : Int) (j i : Nat) : Bool := (List.range j).any fun t => decide ((v + t) % (f + 1) = i)
theorem Pn.seen_succ (f v : Int) (j i : Nat) : Pn.seen f v (j + 1) i = (Pn.seen f v j i || decide ((v + j) % (f + 1) = i)) := by
  simp [Pn.seen, List.range_succ]
theorem Pn.seen_not {n f v : Int} {j q : Nat} (h : Pn.Is n f) (hj : (j : Int) ≤ f) (hq : (v + j) % (f + 1) = q) : Pn.seen f v j q = false := by
  unfold Pn.seen
  rw [List.any_eq_false]
  intro t ht
  have htj : t < j := List.mem_range.1 ht
  simp only [decide_eq_true_eq]
  rcases h with ⟨rfl, rfl⟩ | ⟨rfl, rfl⟩ | ⟨rfl, rfl⟩ | ⟨rfl, rfl⟩ <;> simp only [Int.reduceAdd] at * <;> omega

theorem turns_no (n v : Int) (w : World) (h : Pn.No n) : Calls Try.prog 7 #[.int .i64 n, .int .i64 v] w fun e w' => e = .returned (.bool true) ∧ Below w.heap.size w w' := by
  have H : Hid (Pn.No n) := h
  clear h
  go_enter Try.func7, Try.ntmps7
  go_wp2_with fail
  refine (faults_no _ H.out).mono ?_
  rintro e w' ⟨rfl, rfl⟩
  go_wp2_with fail
  refine (five_any _).mono ?_
  rintro x w3 ⟨rfl, hb⟩
  have HB3 : Hid (Below w'.heap.size w' w3) := hb
  clear hb
  go_wp2
  go_ret
  exact ⟨rfl, HB3.out⟩
theorem turns_view (n f v : Int) (w : World) (h : Pn.Is n f) (hv : v < 0 ∨ (¬ v < 0 ∧ 549755813888 < v)) : Calls Try.prog 7 #[.int .i64 n, .int .i64 v] w fun e w' => e = .returned (.bool true) ∧ Below w.heap.size w w' := by
  have H : Hid (Pn.Is n f) := h
  clear h
  rcases hv with hv | ⟨hv0, hv⟩
  all_goals
    go_enter Try.func7, Try.ntmps7
    go_wp2_with fail
    refine (faults_yes _ H.out).mono ?_
    rintro e w' ⟨rfl, rfl⟩
    go_wp2_with fail
    refine (five_any _).mono ?_
    rintro x w3 ⟨rfl, hb⟩
    have HB3 : Hid (Below w'.heap.size w' w3) := hb
    clear hb
    go_wp2
    go_ret
    exact ⟨rfl, HB3.out⟩
theorem arr_new (w : World) : ArrAt (w.alloc (.cells #[.bool false, .bool false, .bool false, .bool false, .bool false, .bool false, .bool false] 45)) w.heap.size 45 (fun _ => .bool false) := by
  refine ⟨#[.bool false, .bool false, .bool false, .bool false, .bool false, .bool false, .bool false], heap_alloc_new w _, fun i hi => ?_⟩
  match i, hi with
  | 0, _ => rfl
  | 1, _ => rfl
  | 2, _ => rfl
  | 3, _ => rfl
  | 4, _ => rfl
  | 5, _ => rfl
  | 6, _ => rfl
theorem turn_in {n f : Int} (v k : Int) (w : World) (h : Pn.Is n f) (h0 : 0 ≤ v) (h1 : v ≤ 549755813888) (k0 : 0 ≤ k) (k1 : k ≤ f) : Calls Try.prog 12 #[.int .i64 n, .int .i64 v, .int .i64 k] w fun e w' => e = .returned (.tuple #[.int .i64 (Pn.nxt f v k), .int .i64 0]) ∧ w' = w := by
  have c := turn_yes v k w h h0 (by omega) k0 k1
  have := Pn.nxt_le (v := v) h k0 k1
  rw [if_neg (by obtain ⟨m, hm, _, _⟩ := h.nat; omega)] at c
  exact c
set_option maxRecDepth 100000 in
set_option maxHeartbeats 4000000 in
theorem turns_go0 (v : Int) (w : World) (v0 : 0 ≤ v) (v1 : v ≤ 549755813888) : Calls Try.prog 7 #[.int .i64 1, .int .i64 v] w fun e w' => e = .returned (.bool true) ∧ Below w.heap.size w w' := by
  have h : Pn.Is 1 0 := .inl ⟨rfl, rfl⟩
  have H : Hid (Pn.Is 1 0) := h
  have v0' : ¬ v < 0 := by omega
  have v1' : ¬ 549755813888 < v := by omega
  have HP : Hid (∀ j : Nat, (j : Int) ≤ 0 → ∃ q : Nat, (q : Int) ≤ 0 ∧ (v + j) % (0 + 1) = q) := fun j _ => by
    have h1 := Int.emod_nonneg (v + j) (show (0 : Int) + 1 ≠ 0 by omega)
    have h2 := Int.emod_lt_of_pos (v + j) (show (0 : Int) < 0 + 1 by omega)
    exact ⟨((v + j) % (0 + 1)).toNat, by omega, by omega⟩
  have HS : Hid (∀ j q : Nat, (j : Int) ≤ 0 → (v + j) % (0 + 1) = q → Pn.seen 0 v j q = false) := fun j q a b => Pn.seen_not h a b
  have HN : Hid (∀ q : Nat, (q : Int) ≤ 0 → v + 1 ≤ Pn.nxt 0 v q ∧ Pn.nxt 0 v q ≤ v + 1 + 0 ∧ Pn.nxt 0 v q % (0 + 1) = q) := fun q hq => by
    have := Pn.nxt_le (v := v) h (show (0 : Int) ≤ (q : Int) by omega) hq
    exact ⟨this.1, this.2.1, this.2.2 v0⟩
  clear h
  go_enter Try.func7, Try.ntmps7
  go_wp2_with fail
  refine (faults_yes _ H.out).mono ?_
  rintro e w' ⟨rfl, rfl⟩
  have HA : Hid (ArrAt (w'.alloc (.cells #[.bool false, .bool false, .bool false, .bool false, .bool false, .bool false, .bool false] 45)) w'.heap.size 45 (fun _ => .bool false)) := arr_new w'
  have HB0 : Hid (Below w'.heap.size w' (w'.alloc (.cells #[.bool false, .bool false, .bool false, .bool false, .bool false, .bool false, .bool false] 45))) := (Below.refl _ _).alloc (Nat.le_refl _) _
  go_wp2
  go_loopw [8] (fun t wr => ∃ j : Nat, j ≤ 0 + 1 ∧ t = .int .i64 (v + j) ∧ Hid (ArrAt wr w'.heap.size 45 (fun i => .bool (Pn.seen 0 v j i))) ∧ Hid (Below w'.heap.size w' wr)) (fun t _ => (v + 0 + 1 - intOf t).toNat)
  case atStart => exact ⟨0, Nat.zero_le _, by simp, HA.out, HB0.out⟩
  case round =>
    obtain ⟨j, hj, rfl, HJ, HB⟩ := hrel
    by_cases hlt : j ≤ 0
    · have hjf : (j : Int) ≤ 0 := by omega
      obtain ⟨q, hq, hpq⟩ := HP.out j hjf
      obtain rfl : q = 0 := by omega
      obtain rfl : j = 0 := by omega
      have hsn := HS.out 0 0 hjf hpq
      obtain ⟨n1, n2, n3⟩ := HN.out 0 hq
      obtain ⟨hcell, hfree⟩ := HJ.out.cell (i := 0) (by omega)
      rw [hsn] at hcell
      have HA' : Hid (ArrAt (wr.setCell ⟨w'.heap.size, 0, none⟩ (.bool true)) w'.heap.size 45 (fun i => .bool (Pn.seen 0 v (0 + 1) i))) := HJ.out.put (fun i hi => by
        rw [Pn.seen_succ, hpq]
        by_cases e : i = 0
        · subst e; simp
        · rw [if_neg e]
          simp
          intro h
          omega)
      have HB' : Hid (Below w'.heap.size w' (wr.setCell ⟨w'.heap.size, 0, none⟩ (.bool true))) := HB.out.setCell (by simp) _
      have HPQ : Hid ((v + (0 : Nat)) % (0 + 1) = (0 : Nat)) := hpq
      generalize hx : Pn.nxt 0 v ((0 : Nat) : Int) = x at *
      have HX : Hid (Pn.nxt 0 v ((0 : Nat) : Int) = x) := hx
      simp only [Int.reduceAdd] at n3
      have n2' : ¬ v + 0 + 1 < x := by omega
      have q7 : ((0 : Nat) : Int) < 7 := by omega
      have q0 : ¬ ((0 : Nat) : Int) < 0 := by omega
      have qf : ¬ 0 < ((0 : Nat) : Int) := by omega
      have x1 : ¬ x ≤ v := by omega
      have hvj : v + (0 : Nat) ≤ v + 0 := by omega
      clear hsn hpq hx HS HP HN HJ HB HA HB0
      go_wp2_with fail
      refine (primary_yes _ _ H.out (by omega) (by omega)).mono ?_
      rintro e w2 ⟨rfl, rfl⟩
      rw [show v % ((0 : Int) + 1) = 0 from by omega]
      go_wp2_with fail
      refine (turn_in v 0 _ H.out v0 v1 (by omega) (by omega)).mono ?_
      rintro e w3 ⟨rfl, rfl⟩
      rw [show Pn.nxt 0 v 0 = x from HX.out]
      go_wp2
      go_roundw
      case rel => exact ⟨0 + 1, by omega, by go_num, HA', HB'⟩
      case measure => simp [intOf]; omega
    · obtain rfl : j = 0 + 1 := by omega
      have HB' : Hid (Below w'.heap.size w' wr) := HB.out
      clear HJ HB HA HB0 HS HP HN
      go_wp2_with fail
      refine (five_any _).mono ?_
      rintro x w3 ⟨rfl, hb⟩
      have HB3 : Hid (Below w'.heap.size w' w3) := HB'.out.trans (hb.mono HB'.out.size)
      clear hb
      go_wp2
      go_ret
      exact ⟨rfl, HB3.out⟩
set_option maxRecDepth 100000 in
set_option maxHeartbeats 4000000 in
theorem turns_go1 (v : Int) (w : World) (v0 : 0 ≤ v) (v1 : v ≤ 549755813888) : Calls Try.prog 7 #[.int .i64 3, .int .i64 v] w fun e w' => e = .returned (.bool true) ∧ Below w.heap.size w w' := by
  have h : Pn.Is 3 1 := .inr (.inl ⟨rfl, rfl⟩)
  have H : Hid (Pn.Is 3 1) := h
  have v0' : ¬ v < 0 := by omega
  have v1' : ¬ 549755813888 < v := by omega
  have HP : Hid (∀ j : Nat, (j : Int) ≤ 1 → ∃ q : Nat, (q : Int) ≤ 1 ∧ (v + j) % (1 + 1) = q) := fun j _ => by
    have h1 := Int.emod_nonneg (v + j) (show (1 : Int) + 1 ≠ 0 by omega)
    have h2 := Int.emod_lt_of_pos (v + j) (show (0 : Int) < 1 + 1 by omega)
    exact ⟨((v + j) % (1 + 1)).toNat, by omega, by omega⟩
  have HS : Hid (∀ j q : Nat, (j : Int) ≤ 1 → (v + j) % (1 + 1) = q → Pn.seen 1 v j q = false) := fun j q a b => Pn.seen_not h a b
  have HN : Hid (∀ q : Nat, (q : Int) ≤ 1 → v + 1 ≤ Pn.nxt 1 v q ∧ Pn.nxt 1 v q ≤ v + 1 + 1 ∧ Pn.nxt 1 v q % (1 + 1) = q) := fun q hq => by
    have := Pn.nxt_le (v := v) h (show (0 : Int) ≤ (q : Int) by omega) hq
    exact ⟨this.1, this.2.1, this.2.2 v0⟩
  clear h
  go_enter Try.func7, Try.ntmps7
  go_wp2_with fail
  refine (faults_yes _ H.out).mono ?_
  rintro e w' ⟨rfl, rfl⟩
  have HA : Hid (ArrAt (w'.alloc (.cells #[.bool false, .bool false, .bool false, .bool false, .bool false, .bool false, .bool false] 45)) w'.heap.size 45 (fun _ => .bool false)) := arr_new w'
  have HB0 : Hid (Below w'.heap.size w' (w'.alloc (.cells #[.bool false, .bool false, .bool false, .bool false, .bool false, .bool false, .bool false] 45))) := (Below.refl _ _).alloc (Nat.le_refl _) _
  go_wp2
  go_loopw [8] (fun t wr => ∃ j : Nat, j ≤ 1 + 1 ∧ t = .int .i64 (v + j) ∧ Hid (ArrAt wr w'.heap.size 45 (fun i => .bool (Pn.seen 1 v j i))) ∧ Hid (Below w'.heap.size w' wr)) (fun t _ => (v + 1 + 1 - intOf t).toNat)
  case atStart => exact ⟨0, Nat.zero_le _, by simp, HA.out, HB0.out⟩
  case round =>
    obtain ⟨j, hj, rfl, HJ, HB⟩ := hrel
    by_cases hlt : j ≤ 1
    · have hjf : (j : Int) ≤ 1 := by omega
      obtain ⟨q, hq, hpq⟩ := HP.out j hjf
      have hsn := HS.out j q hjf hpq
      obtain ⟨n1, n2, n3⟩ := HN.out q hq
      obtain ⟨hcell, hfree⟩ := HJ.out.cell (i := q) (by omega)
      rw [hsn] at hcell
      have HA' : Hid (ArrAt (wr.setCell ⟨w'.heap.size, q, none⟩ (.bool true)) w'.heap.size 45 (fun i => .bool (Pn.seen 1 v (j + 1) i))) := HJ.out.put (fun i hi => by
        rw [Pn.seen_succ, hpq]
        by_cases e : i = q
        · subst e; simp
        · rw [if_neg e]
          have : ¬ (q : Int) = (i : Int) := by omega
          simp [this])
      have HB' : Hid (Below w'.heap.size w' (wr.setCell ⟨w'.heap.size, q, none⟩ (.bool true))) := HB.out.setCell (by simp) _
      have HPQ : Hid ((v + j) % (1 + 1) = q) := hpq
      generalize hx : Pn.nxt 1 v (q : Int) = x at *
      have HX : Hid (Pn.nxt 1 v (q : Int) = x) := hx
      simp only [Int.reduceAdd] at n3
      have n2' : ¬ v + 1 + 1 < x := by omega
      have q7 : (q : Int) < 7 := by omega
      have q0 : ¬ (q : Int) < 0 := by omega
      have qf : ¬ 1 < (q : Int) := by omega
      have x1 : ¬ x ≤ v := by omega
      have hvj : v + j ≤ v + 1 := by omega
      clear hsn hpq hx HS HP HN HJ HB HA HB0
      go_wp2_with fail
      refine (primary_yes _ _ H.out (by omega) (by omega)).mono ?_
      rintro e w2 ⟨rfl, rfl⟩
      rw [HPQ.out]
      go_wp2_with fail
      refine (turn_in v q _ H.out v0 v1 (by omega) (by omega)).mono ?_
      rintro e w3 ⟨rfl, rfl⟩
      rw [HX.out]
      go_wp2
      go_roundw
      case rel => exact ⟨j + 1, by omega, by go_num, HA', HB'⟩
      case measure => simp [intOf]; omega
    · obtain rfl : j = 1 + 1 := by omega
      have HB' : Hid (Below w'.heap.size w' wr) := HB.out
      clear HJ HB HA HB0 HS HP HN
      go_wp2_with fail
      refine (five_any _).mono ?_
      rintro x w3 ⟨rfl, hb⟩
      have HB3 : Hid (Below w'.heap.size w' w3) := HB'.out.trans (hb.mono HB'.out.size)
      clear hb
      go_wp2
      go_ret
      exact ⟨rfl, HB3.out⟩
set_option maxRecDepth 100000 in
set_option maxHeartbeats 4000000 in
theorem turns_go2 (v : Int) (w : World) (v0 : 0 ≤ v) (v1 : v ≤ 549755813888) : Calls Try.prog 7 #[.int .i64 5, .int .i64 v] w fun e w' => e = .returned (.bool true) ∧ Below w.heap.size w w' := by
  have h : Pn.Is 5 2 := .inr (.inr (.inl ⟨rfl, rfl⟩))
  have H : Hid (Pn.Is 5 2) := h
  have v0' : ¬ v < 0 := by omega
  have v1' : ¬ 549755813888 < v := by omega
  have HP : Hid (∀ j : Nat, (j : Int) ≤ 2 → ∃ q : Nat, (q : Int) ≤ 2 ∧ (v + j) % (2 + 1) = q) := fun j _ => by
    have h1 := Int.emod_nonneg (v + j) (show (2 : Int) + 1 ≠ 0 by omega)
    have h2 := Int.emod_lt_of_pos (v + j) (show (0 : Int) < 2 + 1 by omega)
    exact ⟨((v + j) % (2 + 1)).toNat, by omega, by omega⟩
  have HS : Hid (∀ j q : Nat, (j : Int) ≤ 2 → (v + j) % (2 + 1) = q → Pn.seen 2 v j q = false) := fun j q a b => Pn.seen_not h a b
  have HN : Hid (∀ q : Nat, (q : Int) ≤ 2 → v + 1 ≤ Pn.nxt 2 v q ∧ Pn.nxt 2 v q ≤ v + 1 + 2 ∧ Pn.nxt 2 v q % (2 + 1) = q) := fun q hq => by
    have := Pn.nxt_le (v := v) h (show (0 : Int) ≤ (q : Int) by omega) hq
    exact ⟨this.1, this.2.1, this.2.2 v0⟩
  clear h
  go_enter Try.func7, Try.ntmps7
  go_wp2_with fail
  refine (faults_yes _ H.out).mono ?_
  rintro e w' ⟨rfl, rfl⟩
  have HA : Hid (ArrAt (w'.alloc (.cells #[.bool false, .bool false, .bool false, .bool false, .bool false, .bool false, .bool false] 45)) w'.heap.size 45 (fun _ => .bool false)) := arr_new w'
  have HB0 : Hid (Below w'.heap.size w' (w'.alloc (.cells #[.bool false, .bool false, .bool false, .bool false, .bool false, .bool false, .bool false] 45))) := (Below.refl _ _).alloc (Nat.le_refl _) _
  go_wp2
  go_loopw [8] (fun t wr => ∃ j : Nat, j ≤ 2 + 1 ∧ t = .int .i64 (v + j) ∧ Hid (ArrAt wr w'.heap.size 45 (fun i => .bool (Pn.seen 2 v j i))) ∧ Hid (Below w'.heap.size w' wr)) (fun t _ => (v + 2 + 1 - intOf t).toNat)
  case atStart => exact ⟨0, Nat.zero_le _, by simp, HA.out, HB0.out⟩
  case round =>
    obtain ⟨j, hj, rfl, HJ, HB⟩ := hrel
    by_cases hlt : j ≤ 2
    · have hjf : (j : Int) ≤ 2 := by omega
      obtain ⟨q, hq, hpq⟩ := HP.out j hjf
      have hsn := HS.out j q hjf hpq
      obtain ⟨n1, n2, n3⟩ := HN.out q hq
      obtain ⟨hcell, hfree⟩ := HJ.out.cell (i := q) (by omega)
      rw [hsn] at hcell
      have HA' : Hid (ArrAt (wr.setCell ⟨w'.heap.size, q, none⟩ (.bool true)) w'.heap.size 45 (fun i => .bool (Pn.seen 2 v (j + 1) i))) := HJ.out.put (fun i hi => by
        rw [Pn.seen_succ, hpq]
        by_cases e : i = q
        · subst e; simp
        · rw [if_neg e]
          have : ¬ (q : Int) = (i : Int) := by omega
          simp [this])
      have HB' : Hid (Below w'.heap.size w' (wr.setCell ⟨w'.heap.size, q, none⟩ (.bool true))) := HB.out.setCell (by simp) _
      have HPQ : Hid ((v + j) % (2 + 1) = q) := hpq
      generalize hx : Pn.nxt 2 v (q : Int) = x at *
      have HX : Hid (Pn.nxt 2 v (q : Int) = x) := hx
      simp only [Int.reduceAdd] at n3
      have n2' : ¬ v + 2 + 1 < x := by omega
      have q7 : (q : Int) < 7 := by omega
      have q0 : ¬ (q : Int) < 0 := by omega
      have qf : ¬ 2 < (q : Int) := by omega
      have x1 : ¬ x ≤ v := by omega
      have hvj : v + j ≤ v + 2 := by omega
      clear hsn hpq hx HS HP HN HJ HB HA HB0
      go_wp2_with fail
      refine (primary_yes _ _ H.out (by omega) (by omega)).mono ?_
      rintro e w2 ⟨rfl, rfl⟩
      rw [HPQ.out]
      go_wp2_with fail
      refine (turn_in v q _ H.out v0 v1 (by omega) (by omega)).mono ?_
      rintro e w3 ⟨rfl, rfl⟩
      rw [HX.out]
      go_wp2
      go_roundw
      case rel => exact ⟨j + 1, by omega, by go_num, HA', HB'⟩
      case measure => simp [intOf]; omega
    · obtain rfl : j = 2 + 1 := by omega
      have HB' : Hid (Below w'.heap.size w' wr) := HB.out
      clear HJ HB HA HB0 HS HP HN
      go_wp2_with fail
      refine (five_any _).mono ?_
      rintro x w3 ⟨rfl, hb⟩
      have HB3 : Hid (Below w'.heap.size w' w3) := HB'.out.trans (hb.mono HB'.out.size)
      clear hb
      go_wp2
      go_ret
      exact ⟨rfl, HB3.out⟩
set_option maxRecDepth 100000 in
set_option maxHeartbeats 4000000 in
theorem turns_go3 (v : Int) (w : World) (v0 : 0 ≤ v) (v1 : v ≤ 549755813888) : Calls Try.prog 7 #[.int .i64 7, .int .i64 v] w fun e w' => e = .returned (.bool true) ∧ Below w.heap.size w w' := by
  have h : Pn.Is 7 3 := .inr (.inr (.inr ⟨rfl, rfl⟩))
  have H : Hid (Pn.Is 7 3) := h
  have v0' : ¬ v < 0 := by omega
  have v1' : ¬ 549755813888 < v := by omega
  have HP : Hid (∀ j : Nat, (j : Int) ≤ 3 → ∃ q : Nat, (q : Int) ≤ 3 ∧ (v + j) % (3 + 1) = q) := fun j _ => by
    have h1 := Int.emod_nonneg (v + j) (show (3 : Int) + 1 ≠ 0 by omega)
    have h2 := Int.emod_lt_of_pos (v + j) (show (0 : Int) < 3 + 1 by omega)
    exact ⟨((v + j) % (3 + 1)).toNat, by omega, by omega⟩
  have HS : Hid (∀ j q : Nat, (j : Int) ≤ 3 → (v + j) % (3 + 1) = q → Pn.seen 3 v j q = false) := fun j q a b => Pn.seen_not h a b
  have HN : Hid (∀ q : Nat, (q : Int) ≤ 3 → v + 1 ≤ Pn.nxt 3 v q ∧ Pn.nxt 3 v q ≤ v + 1 + 3 ∧ Pn.nxt 3 v q % (3 + 1) = q) := fun q hq => by
    have := Pn.nxt_le (v := v) h (show (0 : Int) ≤ (q : Int) by omega) hq
    exact ⟨this.1, this.2.1, this.2.2 v0⟩
  clear h
  go_enter Try.func7, Try.ntmps7
  go_wp2_with fail
  refine (faults_yes _ H.out).mono ?_
  rintro e w' ⟨rfl, rfl⟩
  have HA : Hid (ArrAt (w'.alloc (.cells #[.bool false, .bool false, .bool false, .bool false, .bool false, .bool false, .bool false] 45)) w'.heap.size 45 (fun _ => .bool false)) := arr_new w'
  have HB0 : Hid (Below w'.heap.size w' (w'.alloc (.cells #[.bool false, .bool false, .bool false, .bool false, .bool false, .bool false, .bool false] 45))) := (Below.refl _ _).alloc (Nat.le_refl _) _
  go_wp2
  go_loopw [8] (fun t wr => ∃ j : Nat, j ≤ 3 + 1 ∧ t = .int .i64 (v + j) ∧ Hid (ArrAt wr w'.heap.size 45 (fun i => .bool (Pn.seen 3 v j i))) ∧ Hid (Below w'.heap.size w' wr)) (fun t _ => (v + 3 + 1 - intOf t).toNat)
  case atStart => exact ⟨0, Nat.zero_le _, by simp, HA.out, HB0.out⟩
  case round =>
    obtain ⟨j, hj, rfl, HJ, HB⟩ := hrel
    by_cases hlt : j ≤ 3
    · have hjf : (j : Int) ≤ 3 := by omega
      obtain ⟨q, hq, hpq⟩ := HP.out j hjf
      have hsn := HS.out j q hjf hpq
      obtain ⟨n1, n2, n3⟩ := HN.out q hq
      obtain ⟨hcell, hfree⟩ := HJ.out.cell (i := q) (by omega)
      rw [hsn] at hcell
      have HA' : Hid (ArrAt (wr.setCell ⟨w'.heap.size, q, none⟩ (.bool true)) w'.heap.size 45 (fun i => .bool (Pn.seen 3 v (j + 1) i))) := HJ.out.put (fun i hi => by
        rw [Pn.seen_succ, hpq]
        by_cases e : i = q
        · subst e; simp
        · rw [if_neg e]
          have : ¬ (q : Int) = (i : Int) := by omega
          simp [this])
      have HB' : Hid (Below w'.heap.size w' (wr.setCell ⟨w'.heap.size, q, none⟩ (.bool true))) := HB.out.setCell (by simp) _
      have HPQ : Hid ((v + j) % (3 + 1) = q) := hpq
      generalize hx : Pn.nxt 3 v (q : Int) = x at *
      have HX : Hid (Pn.nxt 3 v (q : Int) = x) := hx
      simp only [Int.reduceAdd] at n3
      have n2' : ¬ v + 3 + 1 < x := by omega
      have q7 : (q : Int) < 7 := by omega
      have q0 : ¬ (q : Int) < 0 := by omega
      have qf : ¬ 3 < (q : Int) := by omega
      have x1 : ¬ x ≤ v := by omega
      have hvj : v + j ≤ v + 3 := by omega
      clear hsn hpq hx HS HP HN HJ HB HA HB0
      go_wp2_with fail
      refine (primary_yes _ _ H.out (by omega) (by omega)).mono ?_
      rintro e w2 ⟨rfl, rfl⟩
      rw [HPQ.out]
      go_wp2_with fail
      refine (turn_in v q _ H.out v0 v1 (by omega) (by omega)).mono ?_
      rintro e w3 ⟨rfl, rfl⟩
      rw [HX.out]
      go_wp2
      go_roundw
      case rel => exact ⟨j + 1, by omega, by go_num, HA', HB'⟩
      case measure => simp [intOf]; omega
    · obtain rfl : j = 3 + 1 := by omega
      have HB' : Hid (Below w'.heap.size w' wr) := HB.out
      clear HJ HB HA HB0 HS HP HN
      go_wp2_with fail
      refine (five_any _).mono ?_
      rintro x w3 ⟨rfl, hb⟩
      have HB3 : Hid (Below w'.heap.size w' w3) := HB'.out.trans (hb.mono HB'.out.size)
      clear hb
      go_wp2
      go_ret
      exact ⟨rfl, HB3.out⟩

theorem turns_any (n v : Int) (w : World) : Calls Try.prog 7 #[.int .i64 n, .int .i64 v] w fun e w' => e = .returned (.bool true) ∧ Below w.heap.size w w' := by
  rcases Pn.either n with h | ⟨f, h⟩
  · exact turns_no n v w h
  by_cases hv : v < 0
  · exact turns_view n f v w h (.inl hv)
  by_cases hv1 : 549755813888 < v
  · exact turns_view n f v w h (.inr ⟨hv, hv1⟩)
  have v0 : 0 ≤ v := by omega
  have v1 : v ≤ 549755813888 := by omega
  rcases h with ⟨rfl, rfl⟩ | ⟨rfl, rfl⟩ | ⟨rfl, rfl⟩ | ⟨rfl, rfl⟩
  · exact turns_go0 v w v0 v1
  · exact turns_go1 v w v0 v1
  · exact turns_go2 v w v0 v1
  · exact turns_go3 v w v0 v1

set_option maxRecDepth 100000 in
theorem panelTurns_lifted (os : Os) (started : os.Started) (H : Type) (enc : TypeId × Value → H) :
    ReturnsInHanded {} Try.checked os 7 .any (Rows.panelTurnsSpec.pre6 enc Try.prog Try.f7 Rows.panelTurnsRow.domain false) (Rows.panelTurnsSpec.post enc Try.prog Try.f7 false true false false) := by
  refine returnsInHanded_of_change (C := Try.checked) own started (by kernel_rfl) Try.func7
    (ChangeSpec.witness6 (enc := enc) (C := Try.checked) false ⟨#[], #[.int .i64 0, .int .i64 0], []⟩ 8 (by kernel_rfl) (by kernel_rfl) (by kernel_rfl) (by kernel_rfl)) ?_
  intro W base args ds gs before hval0 hW hcnd _
  have hval : ∀ (j : Nat) t v, Try.f7.params[j]? = some t → args[j]? = some v → Value.okWide Try.prog W .any base t v := hval0
  have hW' := hW
  obtain ⟨p, q, hA0, hV, rfl, hfz, hnd⟩ := hW
  have hA : DataW.TrodAll enc Try.prog W 0 (fun _ => true) true Try.f7.params.toList args.toList ds p := hA0
  rw [Try.params7] at hA hval
  obtain ⟨v0, v1, d0, d1, p0, p1, rfl, rfl, rfl, h0, h1⟩ := trodAll_two hA
  obtain ⟨rfl, rfl⟩ := trodVars_none hV
  obtain ⟨a, rfl, rfl, rfl, w0⟩ := open_int Try.underlying3 (hval 0 3 v0 rfl rfl) h0
  obtain ⟨b, rfl, rfl, rfl, w1⟩ := open_int Try.underlying3 (hval 1 3 v1 rfl rfl) h1
  refine (turns_any a b W).mono fun e W' ⟨he, hg⟩ => ⟨_, he, ?_⟩
  exact Law.post laidOut (by kernel_rfl) rfl Try.underlying4 hW' rfl rfl hg

theorem panelTurns_holds : Rows.PanelTurnsSaid :=
  OpenClaim.holds_of_wide 7 Try.f7 rfl rfl rfl rfl rfl rfl rfl ⟨rfl, rfl, rfl, rfl, rfl⟩ rfl rfl rfl rfl rfl (by kernel_rfl) Try.func7 (by kernel_rfl)
    (of_decide_eq_true (by kernel_rfl)) (by unfold Func.isWrapper; first | (rw [if_pos (by decide +kernel)]; kernel_rfl) | (rw [if_neg (by decide +kernel)]; exact ⟨rfl, rfl⟩))
    (fun os started H enc _ => panelTurns_lifted os started H enc)
#print axioms panelTurns_holds
end Go.Proofs.Ytoplngccejkkcaa
