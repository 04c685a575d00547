/-
  itab's Make, at any table.
-/
import Derived.Test.YtacghcoikekfeaaGreatMake
namespace Go.Proofs.YtacghcoikekfeaaGreat
open Go.ChangeShapes Go.WideShapes Go.ChangeAt Go.RowKit Go.Deep It
set_option maxRecDepth 100000

theorem It.arg_of {kind stamp : Int} (h : argOk kind stamp = true) : (kind = 1 ∨ kind = 2) ∧ (0 ≤ stamp ∧ stamp ≤ 1099511627776) := by
  unfold argOk at h
  simp only [Bool.and_eq_true, decide_eq_true_eq] at h
  exact h
theorem It.arg_not {kind stamp : Int} (h : ¬ ((kind = 1 ∨ kind = 2) ∧ (0 ≤ stamp ∧ stamp ≤ 1099511627776))) : argOk kind stamp = false := by
  cases hq : argOk kind stamp with
  | false => rfl
  | true => exact absurd (It.arg_of hq) h

def MakeSaid (w : World) (L : List Ino) (kind stamp : Int) (e : Ending) (w' : World) : Prop :=
  ∃ u L', e = .returned (.tuple #[u, VH (makeH L kind stamp), .int .i64 (makeErr L kind stamp)]) ∧ TabAt (fun b => w.heap.size ≤ b) w' u L' ∧ pl L' = makeTab L kind stamp ∧ Below w.heap.size w w'
theorem make_said {w w' : World} {L : List Ino} {kind stamp : Int} {e : Ending} {er : Int} (h : makeErr L kind stamp = er) (hz : er ≠ 0) (he : e = .returned (.tuple #[.slice none 0 0, .agg #[.int .i64 0, .int .i64 0], .int .i64 er])) (hb : Below w.heap.size w w') : MakeSaid w L kind stamp e w' := by
  refine ⟨_, [], ?_, tab_nil _ _, ?_, hb⟩
  · rw [he]
    unfold makeH
    rw [h, if_neg hz]
  · unfold makeTab
    rw [h, if_neg hz]
    rfl

set_option maxHeartbeats 2000000 in
theorem make_form {S : Nat → Prop} (v : Value) (L : List Rw) (kind stamp : Int) (w : World) (hv : TabAt S w v L) (hr : ¬ It.right (pl L) = true) :
    Calls Tryz.prog 46 #[v, .int .i64 kind, .int .i64 stamp] w fun e w' => MakeSaid w (pl L) kind stamp e w' := by
  obtain ⟨W, hW⟩ : ∃ W, W = w.alloc (BH 0 0) := ⟨_, rfl⟩
  have HB0 : Hid (Below w.heap.size w W) := by show Below w.heap.size w W; rw [hW]; exact (Below.refl _ w).alloc (Nat.le_refl _) _
  have HA0 : Hid (W.heap[w.heap.size]? = some (BH 0 0)) := by show W.heap[w.heap.size]? = _; rw [hW]; exact heap_alloc_new _ _
  have hws : w.heap.size < W.heap.size := by rw [hW]; simp
  have HV : Hid (TabAt S W v L) := hv.up HB0.out
  have HC : Hid (It.checkErr (pl L) = 4) := by show It.checkErr (pl L) = 4; unfold It.checkErr; rw [if_neg hr]
  have HE : Hid (makeErr (pl L) kind stamp = 4) := by show makeErr (pl L) kind stamp = 4; unfold makeErr; rw [if_neg hr]
  obtain ⟨ao, cap, rfl, _, _⟩ := hv.open
  clear hv hr
  go_enter Tryz.func46, Tryz.ntmps46
  go_wp2_with fail
  rw [← hW]
  refine (check_any _ L _ HV.out).mono ?_
  rintro e w1 ⟨rfl, hb1⟩
  rw [HC.out]
  have HB1 : Hid (Below w.heap.size w w1) := HB0.out.trans (hb1.mono HB0.out.size)
  have HA1 : Hid (w1.heap[w.heap.size]? = some (BH 0 0)) := (hb1.block _ hws).trans HA0.out
  obtain ⟨⟨e0, e1⟩, ef⟩ := two_of HA1.out
  clear hb1 hW
  go_wp2
  (try simp only [Exit.inBlock, Exit.then])
  refine bodyPost_ret (v := .tuple #[.slice none 0 0, .agg #[.int .i64 0, .int .i64 0], .int .i64 4]) ?_ rfl (make_said HE.out (by decide) rfl ?_)
  · rw [results_tct rfl]
    go_simp
  · repeat (refine Below.setCell ?_ (by simp) _)
    exact HB1.out

set_option maxHeartbeats 2000000 in
theorem make_arg {S : Nat → Prop} (v : Value) (L : List Rw) (kind stamp : Int) (w : World) (hv : TabAt S w v L) (hr : It.right (pl L) = true) (ha : ¬ ((kind = 1 ∨ kind = 2) ∧ (0 ≤ stamp ∧ stamp ≤ 1099511627776))) :
    Calls Tryz.prog 46 #[v, .int .i64 kind, .int .i64 stamp] w fun e w' => MakeSaid w (pl L) kind stamp e w' := by
  obtain ⟨W, hW⟩ : ∃ W, W = w.alloc (BH 0 0) := ⟨_, rfl⟩
  have HB0 : Hid (Below w.heap.size w W) := by show Below w.heap.size w W; rw [hW]; exact (Below.refl _ w).alloc (Nat.le_refl _) _
  have HA0 : Hid (W.heap[w.heap.size]? = some (BH 0 0)) := by show W.heap[w.heap.size]? = _; rw [hW]; exact heap_alloc_new _ _
  have hws : w.heap.size < W.heap.size := by rw [hW]; simp
  have HV : Hid (TabAt S W v L) := hv.up HB0.out
  have HC : Hid (It.checkErr (pl L) = 0) := by show It.checkErr (pl L) = 0; unfold It.checkErr; rw [if_pos hr]
  have HE : Hid (makeErr (pl L) kind stamp = 1) := by show makeErr (pl L) kind stamp = 1; unfold makeErr; rw [if_pos hr, if_neg (by rw [It.arg_not ha]; decide)]
  obtain ⟨ao, cap, rfl, _, _⟩ := hv.open
  clear hv hr
  have hcase : ((kind != 1) = true ∧ (kind != 2) = true) ∨ ((kind = 1 ∨ kind = 2) ∧ Hid (¬ (0 ≤ stamp ∧ stamp ≤ 1099511627776))) := by
    by_cases h1 : kind = 1
    · exact .inr ⟨.inl h1, fun h => ha ⟨.inl h1, h⟩⟩
    · by_cases h2 : kind = 2
      · exact .inr ⟨.inr h2, fun h => ha ⟨.inr h2, h⟩⟩
      · exact .inl ⟨by simp [h1], by simp [h2]⟩
  clear ha
  rcases hcase with ⟨h1, h2⟩ | ⟨rfl | rfl, HS⟩
  · go_enter Tryz.func46, Tryz.ntmps46
    go_wp2_with fail
    rw [← hW]
    refine (check_any _ L _ HV.out).mono ?_
    rintro e w1 ⟨rfl, hb1⟩
    rw [HC.out]
    have HB1 : Hid (Below w.heap.size w w1) := HB0.out.trans (hb1.mono HB0.out.size)
    have HA1 : Hid (w1.heap[w.heap.size]? = some (BH 0 0)) := (hb1.block _ hws).trans HA0.out
    obtain ⟨⟨e0, e1⟩, ef⟩ := two_of HA1.out
    clear hb1 hW
    go_wp2
    (try simp only [Exit.inBlock, Exit.then])
    refine bodyPost_ret (v := .tuple #[.slice none 0 0, .agg #[.int .i64 0, .int .i64 0], .int .i64 1]) ?_ rfl (make_said HE.out (by decide) rfl ?_)
    · rw [results_tct rfl]
      go_simp
    · repeat (refine Below.setCell ?_ (by simp) _)
      exact HB1.out
  all_goals
    go_enter Tryz.func46, Tryz.ntmps46
    go_wp2_with fail
    rw [← hW]
    refine (check_any _ L _ HV.out).mono ?_
    rintro e w1 ⟨rfl, hb1⟩
    rw [HC.out]
    have HB1 : Hid (Below w.heap.size w w1) := HB0.out.trans (hb1.mono HB0.out.size)
    have HA1 : Hid (w1.heap[w.heap.size]? = some (BH 0 0)) := (hb1.block _ hws).trans HA0.out
    obtain ⟨⟨e0, e1⟩, ef⟩ := two_of HA1.out
    clear hb1 hW
    go_wp2_with fail
    refine (within_no _ _ _ _ HS.out).mono ?_
    rintro e w' ⟨rfl, rfl⟩
    go_wp2
    (try simp only [Exit.inBlock, Exit.then])
    refine bodyPost_ret (v := .tuple #[.slice none 0 0, .agg #[.int .i64 0, .int .i64 0], .int .i64 1]) ?_ rfl (make_said HE.out (by decide) rfl ?_)
    · rw [results_tct rfl]
      go_simp
    · repeat (refine Below.setCell ?_ (by simp) _)
      exact HB1.out

theorem two_set {w : World} {A B : Nat} {a b : Int} {x y : Value} (h : w.cell? ⟨A, 0, none⟩ = some (.int .i64 a) ∧ w.cell? ⟨A, 1, none⟩ = some (.int .i64 b)) (hne : A ≠ B) :
    ((w.setCell ⟨B, 0, none⟩ x).setCell ⟨B, 1, none⟩ y).cell? ⟨A, 0, none⟩ = some (.int .i64 a) ∧ ((w.setCell ⟨B, 0, none⟩ x).setCell ⟨B, 1, none⟩ y).cell? ⟨A, 1, none⟩ = some (.int .i64 b) := by
  have hk : ((w.setCell ⟨B, 0, none⟩ x).setCell ⟨B, 1, none⟩ y).heap[A]? = w.heap[A]? := (Below.heap_setCell _ _ _ _ hne).trans (Below.heap_setCell _ _ _ _ hne)
  exact ⟨(cell_block (p := ⟨A, 0, none⟩) hk).trans h.1, (cell_block (p := ⟨A, 1, none⟩) hk).trans h.2⟩
theorem kept_two {w2 w3 w4 : World} {R : Nat} {o : Obj} (hb3 : Below w2.heap.size w2 w3) (hb4 : Below w3.heap.size w3 w4) (h : w2.heap[R]? = some o) : w4.heap[R]? = some o := by
  have h1 : R < w2.heap.size := (Array.getElem?_eq_some_iff.1 h).1
  have := hb3.size
  exact (hb4.block _ (by omega)).trans ((hb3.block _ h1).trans h)
theorem Good.setCell {S : Nat → Prop} {w : World} {x : Rw} (h : Good S w x) {p : Addr} (hp : ¬ S p.block) (u : Value) : Good S (w.setCell p u) x := ⟨h.1.setCell hp u, h.2.1.setCell hp u, h.2.2⟩
set_option maxHeartbeats 4000000 in
theorem make_ok {S : Nat → Prop} (v : Value) (L : List Rw) (kind stamp : Int) (w : World) (hv : TabAt S w v L) (hr : It.right (pl L) = true) (ha : (kind = 1 ∨ kind = 2) ∧ (0 ≤ stamp ∧ stamp ≤ 1099511627776)) :
    Calls Tryz.prog 46 #[v, .int .i64 kind, .int .i64 stamp] w fun e w' => MakeSaid w (pl L) kind stamp e w' := by
  obtain ⟨W, hW⟩ : ∃ W, W = w.alloc (BH 0 0) := ⟨_, rfl⟩
  have HB0 : Hid (Below w.heap.size w W) := by show Below w.heap.size w W; rw [hW]; exact (Below.refl _ w).alloc (Nat.le_refl _) _
  have HA0 : Hid (W.heap[w.heap.size]? = some (BH 0 0)) := by show W.heap[w.heap.size]? = _; rw [hW]; exact heap_alloc_new _ _
  have hws : w.heap.size < W.heap.size := by rw [hW]; simp
  have HV : Hid (TabAt S W v L) := hv.up HB0.out
  have HC : Hid (It.checkErr (pl L) = 0) := by show It.checkErr (pl L) = 0; unfold It.checkErr; rw [if_pos hr]
  have hao : argOk kind stamp = true := by unfold argOk; rw [decide_eq_true ha.1, decide_eq_true ha.2]; rfl
  have HE : Hid (makeErr (pl L) kind stamp = if (next (pl L)).1 = 24 then 407 else 0) := by show makeErr (pl L) kind stamp = _; unfold makeErr; rw [if_pos hr, if_pos hao]
  have HR : Hid (It.right (pl L) = true) := hr
  have HS : Hid (0 ≤ stamp ∧ stamp ≤ 1099511627776) := ha.2
  obtain ⟨hb0, hb1⟩ := It.next_bd (pl L)
  have HLL : Hid (L.length ≤ 24) := It.right_len hr
  obtain ⟨nx, hnx⟩ : ∃ nx, next (pl L) = nx := ⟨_, rfl⟩
  have HNX : Hid (next (pl L) = nx) := hnx
  rw [hnx] at hb0 hb1 HE
  obtain ⟨na, gen⟩ := nx
  obtain ⟨no, rfl⟩ := Int.eq_ofNat_of_zero_le hb0
  have HNL : Hid (no ≤ L.length) := by
    simp only [pl, List.length_map] at hb1
    show no ≤ L.length
    omega
  obtain ⟨ao, cap, rfl, _, _⟩ := hv.open
  have hcase : kind = 1 ∨ kind = 2 := ha.1
  clear hv hr ha hao hb0 hb1 hnx
  by_cases h24 : no = 24
  · have HE2 : Hid (makeErr (pl L) kind stamp = 407) := by show makeErr (pl L) kind stamp = 407; rw [HE.out]; simp only; rw [if_pos (by omega)]
    have h24' : ((no : Int) == 24) = true := by simp [h24]
    clear h24 HE
    rcases hcase with rfl | rfl
    all_goals
      go_enter Tryz.func46, Tryz.ntmps46
      go_wp2_with fail
      rw [← hW]
      refine (check_any _ L _ HV.out).mono ?_
      rintro e w1 ⟨rfl, hb1⟩
      rw [HC.out]
      have HB1 : Hid (Below w.heap.size w w1) := HB0.out.trans (hb1.mono HB0.out.size)
      have HA1 : Hid (w1.heap[w.heap.size]? = some (BH 0 0)) := (hb1.block _ hws).trans HA0.out
      have HV1 : Hid (TabAt S w1 (.slice ao L.length cap) L) := HV.out.up hb1
      clear hb1 hW
      go_wp2_with fail
      refine (within_yes _ _ _ _ HS.out).mono ?_
      rintro e w' ⟨rfl, rfl⟩
      go_wp2_with fail
      refine (next_any _ L _ HV1.out HR.out).mono ?_
      rintro e w2 ⟨rfl, hb2⟩
      rw [HNX.out]
      have HB2 : Hid (Below w.heap.size w w2) := HB1.out.trans (hb2.mono HB1.out.size)
      have HA2 : Hid (w2.heap[w.heap.size]? = some (BH 0 0)) := (hb2.block _ (Array.getElem?_eq_some_iff.1 HA1.out).1).trans HA1.out
      have HA3 : Hid ((w2.alloc (BH no gen)).heap[w.heap.size]? = some (BH 0 0)) := (Below.heap_alloc _ _ _ (Array.getElem?_eq_some_iff.1 HA2.out).1).trans HA2.out
      obtain ⟨⟨e0, e1⟩, ef⟩ := two_of HA3.out
      clear hb2
      go_wp2
      (try simp only [Exit.inBlock, Exit.then])
      refine bodyPost_ret (v := .tuple #[.slice none 0 0, .agg #[.int .i64 0, .int .i64 0], .int .i64 407]) ?_ rfl (make_said HE2.out (by decide) rfl ?_)
      · rw [results_tct rfl]
        go_simp
      · repeat (refine Below.setCell ?_ (by simp) _)
        exact HB2.out.alloc HB2.out.size _
  · have HE2 : Hid (makeErr (pl L) kind stamp = 0) := by show makeErr (pl L) kind stamp = 0; rw [HE.out]; simp only; rw [if_neg (by omega)]
    have h24' : ((no : Int) == 24) = false := by simp; omega
    clear h24 HE
    rcases hcase with rfl | rfl
    all_goals
      go_enter Tryz.func46, Tryz.ntmps46
      go_wp2_with fail
      rw [← hW]
      refine (check_any _ L _ HV.out).mono ?_
      rintro e w1 ⟨rfl, hb1⟩
      rw [HC.out]
      have HB1 : Hid (Below w.heap.size w w1) := HB0.out.trans (hb1.mono HB0.out.size)
      have HA1 : Hid (w1.heap[w.heap.size]? = some (BH 0 0)) := (hb1.block _ hws).trans HA0.out
      have HV1 : Hid (TabAt S w1 (.slice ao L.length cap) L) := HV.out.up hb1
      clear hb1 hW
      go_wp2_with fail
      refine (within_yes _ _ _ _ HS.out).mono ?_
      rintro e w' ⟨rfl, rfl⟩
      go_wp2_with fail
      refine (next_any _ L _ HV1.out HR.out).mono ?_
      rintro e w2 ⟨rfl, hb2⟩
      rw [HNX.out]
      have HB2 : Hid (Below w.heap.size w w2) := HB1.out.trans (hb2.mono HB1.out.size)
      have HA2 : Hid (w2.heap[w.heap.size]? = some (BH 0 0)) := (hb2.block _ (Array.getElem?_eq_some_iff.1 HA1.out).1).trans HA1.out
      have HA3 : Hid ((w2.alloc (BH no gen)).heap[w.heap.size]? = some (BH 0 0)) := (Below.heap_alloc _ _ _ (Array.getElem?_eq_some_iff.1 HA2.out).1).trans HA2.out
      have HV2 : Hid (TabAt S (w2.alloc (BH no gen)) (.slice ao L.length cap) L) := (HV1.out.up hb2).up ((Below.refl _ _).alloc (Nat.le_refl _) _)
      have HH3 : Hid ((w2.alloc (BH no gen)).heap[w2.heap.size]? = some (BH no gen)) := heap_alloc_new _ _
      have HB3 : Hid (Below w.heap.size w (w2.alloc (BH no gen))) := HB2.out.alloc HB2.out.size _
      have HSS : Hid ((w2.alloc (BH no gen)).cell? ⟨w2.heap.size, 0, none⟩ = some (.int .i64 no) ∧ (w2.alloc (BH no gen)).cell? ⟨w2.heap.size, 1, none⟩ = some (.int .i64 gen)) := (two_of HH3.out).1
      have hne : w2.heap.size ≠ w.heap.size := by
        have := (Array.getElem?_eq_some_iff.1 HA2.out).1
        omega
      clear hb2
      go_wp2_with fail
      go_region_held3 (fun w' => w'.cell? ⟨w2.heap.size, 0, none⟩ = some (.int .i64 no) ∧ w'.cell? ⟨w2.heap.size, 1, none⟩ = some (.int .i64 gen)) (first | exact HSS.out | exact two_next (by assumption) (by assumption) | exact two_set (by assumption) hne) (first
        | (go_at_call 62; refine (fresh_any gen _ stamp _).mono ?_; rintro e w3 ⟨rfl, hb3⟩)
        | (go_at_call 83; refine (with_any (S := S) _ L no (It.bare (fresh gen _ stamp)) _ (HV2.out.drew.up hb3) (good_bare _ _ rfl rfl) HLL.out HNL.out).mono ?_; rintro e w4 ⟨u4, L4, rfl, ht4, hpl4, hb4⟩; obtain ⟨⟨r0, r1⟩, rf⟩ := two_of (kept_two hb3 hb4 HA3.out)))
      have HB3' : Below w.heap.size w w3 := HB3.out.trans ((⟨hb3.os, hb3.tape, hb3.output, hb3.size, hb3.block⟩ : Below (w2.alloc (BH no gen)).heap.size (w2.alloc (BH no gen)) w3).mono HB3.out.size)
      have HEND : Hid (TabAt (fun b => w3.heap.size ≤ b) w4 u4 L4 ∧ pl L4 = put (pl L) no (fresh gen _ stamp) ∧ Below w.heap.size w w4 ∧ w.heap.size < w3.heap.size) := ⟨ht4, hpl4, HB3'.trans (hb4.mono HB3'.size), by
        have h1 := (Array.getElem?_eq_some_iff.1 HA2.out).1
        have := hb3.size
        simp at this
        omega⟩
      clear ht4 hpl4 hb4 hb3 HB3'
      go_wp2
      (try simp only [Exit.inBlock, Exit.then])
      refine bodyPost_ret (v := .tuple #[u4, .agg #[.int .i64 no, .int .i64 gen], .int .i64 0]) ?_ rfl ⟨u4, L4, ?_, ?_, ?_, ?_⟩
      · rw [results_tct rfl]
        go_simp
      · unfold makeH
        rw [HE2.out, if_pos rfl, HNX.out]
      · have hS := HEND.out.2.2.2
        refine ⟨?_, fun y hy => ?_⟩
        · refine At.imp (S := fun b => w3.heap.size ≤ b) ?_ (fun b hb _ => by omega)
          repeat (refine At.setCell ?_ (by simp; omega) _)
          exact HEND.out.1.1
        · refine Good.imp (S := fun b => w3.heap.size ≤ b) ?_ (fun b hb _ => by omega)
          repeat (refine Good.setCell ?_ (by simp; omega) _)
          exact HEND.out.1.2 y hy
      · unfold makeTab
        rw [HE2.out, if_pos rfl, HNX.out]
        exact HEND.out.2.1
      · repeat (refine Below.setCell ?_ (by simp) _)
        exact HEND.out.2.2.1
theorem make_any {S : Nat → Prop} (v : Value) (L : List Rw) (kind stamp : Int) (w : World) (hv : TabAt S w v L) :
    Calls Tryz.prog 46 #[v, .int .i64 kind, .int .i64 stamp] w fun e w' => MakeSaid w (pl L) kind stamp e w' := by
  by_cases hr : It.right (pl L) = true
  · by_cases ha : (kind = 1 ∨ kind = 2) ∧ (0 ≤ stamp ∧ stamp ≤ 1099511627776)
    · exact make_ok v L kind stamp w hv hr ha
    · exact make_arg v L kind stamp w hv hr ha
  · exact make_form v L kind stamp w hv hr
end Go.Proofs.YtacghcoikekfeaaGreat
