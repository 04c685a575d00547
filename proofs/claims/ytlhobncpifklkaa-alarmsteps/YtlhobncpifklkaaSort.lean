/-
  alarm's order: the function that upTo hands to slices.SortFunc compares two numbers by the moments that the clock's map has for them, then by themselves.
-/
import Derived.Test.YtlhobncpifklkaaClock
import Derived.Test.YtlhobncpifklkaaShelf
import Derived.Lib.RowBridge
import Derived.Lib.SortBridge
namespace Go.Proofs.Ytlhobncpifklkaa
open Go.RowKit Go.Maps Go.Shelf Go.Sort

theorem lit_inj {a c : Int} (h : (DataW.lit (Lit.int .i64 a) : DataW Unit) = .lit (.int .i64 c)) : c = a := by
  cases h
  rfl

theorem compare_any (x y : Int) (W : World) : Calls Try.prog 47 #[.int .i64 x, .int .i64 y] W fun e w' => e = .returned (.int .i64 (Lib.compareInt x y)) ∧ w' = W := by
  have h := AnyG.cmp_Compare_int Lay.cmpL x y W
  change Calls Try.prog 47 _ _ _ at h
  exact h

theorem or_any {g : Nat} {x y : Int} (w : World) (h0 : w.cell? ⟨g, 0, none⟩ = some (.int .i64 x)) (h1 : w.cell? ⟨g, 1, none⟩ = some (.int .i64 y)) :
    Calls Try.prog 46 #[.slice (some ⟨g, 0, none⟩) 2 2] w fun e w' => e = .returned (.int .i64 (if x ≠ 0 then x else y)) ∧ w' = w := by
  by_cases hx : x = 0
  · subst hx
    by_cases hy : y = 0
    · subst hy
      go_enter Try.func46, Try.ntmps46
      go_wp2
      refine wp_loop_rounds 3 ?_
      rw [rounds_succ]
      go_wp2
      rw [rounds_succ]
      go_wp2
      rw [rounds_succ]
      go_wp2
      go_ret
      exact ⟨rfl, rfl⟩
    · go_enter Try.func46, Try.ntmps46
      go_wp2
      refine wp_loop_rounds 3 ?_
      rw [rounds_succ]
      go_wp2
      rw [rounds_succ]
      go_wp2
      go_ret
      exact ⟨rfl, rfl⟩
  · have e : (if x ≠ 0 then x else y) = x := by simp [hx]
    rw [e]
    clear e
    go_enter Try.func46, Try.ntmps46
    go_wp2
    refine wp_loop_rounds 3 ?_
    rw [rounds_succ]
    go_wp2
    go_ret
    exact ⟨rfl, rfl⟩

set_option maxHeartbeats 1000000 in
set_option maxRecDepth 100000 in
/-- upTo's own closure, in whatever world has the clock's map. -/
theorem closure_any {box bm n : Nat} {D : DataW Unit} {L : List (Int × Int)} (W : World) (hbox : W.cell? ⟨box, 0, none⟩ = some (.map (some bm))) (hown : W.ownsMap Try.prog 3 (plainElem Try.prog 3) bm n D) (hR : Al.Reads D L) (x y : Al.I64) :
    Calls Try.prog 45 (#[Al.enc x, Al.enc y] ++ #[.pointer (some ⟨box, 0, none⟩)]) W fun e w' => e = .returned (.int .i64 (Al.cf L x y)) ∧ ∃ q os, w' = grow (W.drewN q) os := by
  obtain ⟨x, hx⟩ := x
  obtain ⟨y, hy⟩ := y
  have hkx := keyOf_int_mk Try.underlying3 (wf_i64 hx)
  have hky := keyOf_int_mk Try.underlying3 (wf_i64 hy)
  have zx : Hid (D.atKey (.int .i64 x) (.lit (.int .i64 0)) = .lit (.int .i64 (Al.mom L x))) := hR.zero x
  have zy : Hid (D.atKey (.int .i64 y) (.lit (.int .i64 0)) = .lit (.int .i64 (Al.mom L y))) := hR.zero y
  have E : Hid (Al.cf L ⟨x, hx⟩ ⟨y, hy⟩ = if Lib.compareInt (Al.mom L x) (Al.mom L y) ≠ 0 then Lib.compareInt (Al.mom L x) (Al.mom L y) else Lib.compareInt x y) := by
    unfold Al.cf
    exact Eq.refl _
  change Calls Try.prog 45 #[.int .i64 x, .int .i64 y, .pointer (some ⟨box, 0, none⟩)] W _
  rw [E.out]
  clear hR E
  generalize hu : Lib.compareInt (Al.mom L x) (Al.mom L y) = u
  generalize hv : Lib.compareInt x y = v
  generalize hz : (if u ≠ 0 then u else v) = z
  have HU : Hid (Lib.compareInt (Al.mom L x) (Al.mom L y) = u) := hu
  have HV : Hid (Lib.compareInt x y = v) := hv
  have HZ : Hid ((if u ≠ 0 then u else v) = z) := hz
  clear hu hv hz
  go_enter Try.func45, Try.ntmps45
  go_wp2_with (at_lookup; refine wpList_lookup_own_int _ rfl _ _ 75 rfl 3 3 .i64 law3 Try.underlying75 Try.underlying3 (zero3 _) bm n D rfl hown _ _ rfl (by first | exact hkx | exact hky) ?_; intro c hat hwc; first | (rw [zx.out] at hat; have hc := lit_inj hat; subst hc) | (rw [zy.out] at hat; have hc := lit_inj hat; subst hc))
  refine (compare_any _ _ _).mono ?_
  rintro e w' ⟨rfl, rfl⟩
  rw [HU.out]
  go_wp2_with fail
  refine (compare_any _ _ _).mono ?_
  rintro e w' ⟨rfl, rfl⟩
  rw [HV.out]
  go_wp2_with fail
  refine (or_any _ (x := u) (y := v) (by simp) (by simp)).mono ?_
  rintro e w1 ⟨rfl, rfl⟩
  rw [HZ.out]
  go_wp2
  go_ret
  exact ⟨rfl, 0, _, alloc_eq_grow _ _⟩

section
variable {α : Type} [Inhabited α] {enc : α → Value}
theorem holds_of_row {w : World} {g : Nat} {cur : Array Value} {e : TypeId} {ss : List α} (hb : w.heap[g]? = some (.cells cur e (0, 0))) (ht : cur.toList.take ss.length = ss.map enc) : Holds enc w g 0 ss.toArray := by
  intro j hj
  have hj' : j < ss.length := by simpa using hj
  refine ⟨?_, by simp [World.frozen?, hb]⟩
  have h1 : (cur.toList.take ss.length)[j]? = (ss.map enc)[j]? := by rw [ht]
  rw [List.getElem?_take_of_lt hj'] at h1
  simp only [World.cell?, hb, Nat.zero_add]
  simp only [Option.isSome_none, Bool.false_eq_true, if_false]
  rw [← Array.getElem?_toList, h1]
  simp [hj']
theorem sorted_heap {w : World} {g n : Nat} {os : Array Obj} {cur : Array Value} {e : TypeId} {fr : Nat × Nat} (d : Array α) (hb : w.heap[g]? = some (.cells cur e fr)) :
    (sortWorld enc w g 0 n d os).heap[g]? = some (.cells (putCells enc 0 d cur) e fr) := by
  have hg : g < w.heap.size := (Array.getElem?_eq_some_iff.1 hb).1
  unfold sortWorld
  rw [heap_grow_old _ _ (by simpa using hg)]
  simp [putRow, mapBlock, Sort.ahead, Array.getElem?_modify, hb, onCells]
theorem sorted_grown {w : World} {g n : Nat} {os : Array Obj} (d : Array α) : w.grownBy (sortWorld enc w g 0 n d os) (some g) := by
  unfold sortWorld
  refine ⟨rfl, rfl, rfl, by simp, fun k hk hne => ?_⟩
  rw [heap_grow_old _ _ (by simpa using hk)]
  have : g ≠ k := fun e => hne (by rw [e])
  simp [putRow, mapBlock, Sort.ahead, Array.getElem?_modify, this]
theorem put_take (cur : Array Value) (ts : List α) (h : ts.length ≤ cur.size) : (putCells enc 0 ts.toArray cur).toList.take ts.length = ts.map enc := by
  apply List.ext_getElem?
  intro j
  by_cases hj : j < ts.length
  · rw [List.getElem?_take_of_lt hj, Array.getElem?_toList]
    simp [putCells, hj, show j < cur.size by omega]
  · rw [List.getElem?_take_eq_none (by omega), List.getElem?_eq_none (by simp; omega)]
theorem sorted_owns {w : World} {base g cap n : Nat} {e : TypeId} {os : Array Obj} {cur : Array Value} {k : Nat} {ts : List α} (hl : ts.length = k) (hbase : base ≤ g) (hb : w.heap[g]? = some (.cells cur e (0, 0)))
    (h1 : k ≤ cap) (h2 : cap ≤ maxLen) (h3 : cur.size = cap * 1) :
    (sortWorld enc w g 0 n ts.toArray os).ownsRow base e 1 (.slice (some ⟨g, 0, none⟩) k cap) k (ts.map enc) :=
  ⟨by simp [hl], .inr ⟨g, cap, _, rfl, hbase, sorted_heap _ hb, h1, h2, by simp [putCells, h3], by rw [Nat.mul_one, ← hl]; exact put_take cur ts (by omega)⟩⟩
end

theorem lifted {cs : List Int} (h : ∀ x ∈ cs, -9223372036854775808 ≤ x ∧ x ≤ 9223372036854775807) : ∃ d : List Al.I64, d.map (·.1) = cs := by
  induction cs with
  | nil => exact ⟨[], rfl⟩
  | cons x cs ih =>
    obtain ⟨d, rfl⟩ := ih (fun y hy => h y (by simp [hy]))
    exact ⟨⟨x, h x (by simp)⟩ :: d, rfl⟩

/-- slices.SortFunc with upTo's closure on what was collected: the row holds what is due, in its order. -/
theorem sort_any {box bm n base cnt : Nat} {D : DataW Unit} {L : List (Int × Int)} {now : Int} {v : Value} {cs : List Int} (W : World) (hbox : W.cell? ⟨box, 0, none⟩ = some (.map (some bm))) (hown : W.ownsMap Try.prog 3 (plainElem Try.prog 3) bm n D) (hR : Al.Reads D L) (hG : Al.Good L)
    (hrow : W.ownsRow base 3 1 v cnt (cs.map (Value.int .i64))) (h1 : box < base) (h2 : bm < base) (hl : cnt = cs.length) (hnd : cs.Nodup) (hm : ∀ x, x ∈ cs ↔ x ∈ Al.due L now) :
    Calls Try.prog 44 #[v, .func (.func 45) #[] #[.pointer (some ⟨box, 0, none⟩)]] W fun e w' => e = .returned (.tuple #[]) ∧ w'.ownsRow base 3 1 v (Al.due L now).length ((Al.due L now).map (Value.int .i64)) ∧ W.grownBy w' v.ownBlock := by
  have hlen : (Al.due L now).length = cs.length := ((List.perm_ext_iff_of_nodup hnd (Al.nodup_due hG.nodup now)).2 hm).length_eq.symm
  have hrange : ∀ x ∈ cs, -9223372036854775808 ≤ x ∧ x ≤ 9223372036854775807 := fun x hx => by
    obtain ⟨a, ha, _⟩ := (Al.mem_due hG.nodup).1 ((hm x).1 hx)
    have := (hG.inside _ (Al.mem_of_find ha)).1
    simp only [Al.fits] at this
    omega
  have hle : cs.length ≤ 256 := by
    rw [← hlen]
    unfold Al.due
    rw [List.length_map]
    exact Nat.le_trans (List.length_filter_le _ _) hG.len
  obtain ⟨d, rfl⟩ := lifted hrange
  subst hl
  rcases hrow.2 with ⟨rfl, h0⟩ | ⟨g, cap, cur, rfl, hbg, hb, hnc, hcm, hcs, htake⟩
  · have hS := AnyF.slices_SortFunc_none (P := Try.prog) (ρ := Lay.sortL_ren) { Lay.sortL with } none 0 (.func (.func 45) #[] #[.pointer (some ⟨box, 0, none⟩)]) W
    change Calls Try.prog 44 _ _ _ at hS
    refine hS.mono ?_
    rintro e w' ⟨rfl, rfl⟩
    have e0 : Al.due L now = [] := List.eq_nil_of_length_eq_zero (by omega)
    rw [e0]
    exact ⟨rfl, World.ownsRow_nil _ _ _ _, grown_refl _ _⟩
  · have eg : ∀ args w, (callFunc 45 args).run Try.prog w = .ok (.enter 45 args) w := enters_of Try.func45 (by kernel_rfl) rfl
    have hH : Holds Al.enc W g 0 d.toArray := holds_of_row hb (by simpa [Al.enc, Function.comp_def] using htake)
    have hg : g < W.heap.size := (Array.getElem?_eq_some_iff.1 hb).1
    have hcmp : CmpLays1 Try.prog 45 #[.pointer (some ⟨box, 0, none⟩)] Al.enc (Al.cf L) g 0 d.toArray.size W := by
      intro m os dk _ x y
      have hg := sorted_grown (enc := Al.enc) (w := W) (g := g) (n := m) (os := os) dk
      exact closure_any _ (hg.cell hbox (by simp; omega)) (hown.kept hg (by simp; omega)) hR x y
    have hS := Any.slices_SortFunc_total Lay.sortL Al.enc (fun _ => rfl) (Al.cf L) (Al.swo_cf L) 45 #[.pointer (some ⟨box, 0, none⟩)] g 0 cap d.toArray W eg hcmp hH hg (by simp at hle ⊢; omega) (Al.tot_cf L)
    change Calls Try.prog 44 _ _ _ at hS
    have es := Al.sorted_due hG now d hnd hm
    simp only [List.length_map, List.size_toArray] at hS hnc ⊢
    refine hS.mono ?_
    rintro e w' ⟨rfl, q, os, rfl⟩
    refine ⟨rfl, ?_, sorted_grown _⟩
    have ho := sorted_owns (enc := Al.enc) (n := q) (os := os) (k := d.length) (ts := d.mergeSort fun x y => !(ltOf (Al.cf L)) y x) (base := base) (by simp) hbg hb hnc hcm hcs
    rw [← es]
    simpa [Al.enc, Function.comp_def] using ho
end Go.Proofs.Ytlhobncpifklkaa
