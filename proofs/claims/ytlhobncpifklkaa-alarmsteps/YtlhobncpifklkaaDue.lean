/-
  alarm's Due and Next: what they answer and what they leave, at any clock.
-/
import Derived.Test.YtlhobncpifklkaaSort
import Derived.Sort.OwnSorted
namespace Go.Proofs.Ytlhobncpifklkaa
open Go.RowKit Go.Maps Go.Shelf Go.Sort

theorem info3 : (Try.prog.info? 3).map (fun i => (i.zero, i.size, i.bytes)) = some (some (.int .i64 0), 1, 8) := by kernel_rfl

theorem owns_base {w : World} {base base' : Nat} {e : TypeId} {size : Nat} {v : Value} {n : Nat} {xs : List Value} (h : w.ownsRow base e size v n xs) (hb : base' ≤ base) : w.ownsRow base' e size v n xs := by
  obtain ⟨h1, h2⟩ := h
  refine ⟨h1, ?_⟩
  rcases h2 with h2 | ⟨g, cap, cur, h3, h4, h5⟩
  · exact .inl h2
  · exact .inr ⟨g, cap, cur, h3, by omega, h5⟩
theorem one_new (W : World) (a : Value) (T : TypeId) : ∀ j u, [a][j]? = some u → (W.alloc (.cells #[a] T)).cell? ((⟨W.heap.size, 0, none⟩ : Addr).add j) = some u := by
  intro j u hj
  rw [Go.WideShapes.add_plain]
  match j, hj with
  | 0, hj => simp at hj; subst hj; simp

namespace Al
/-- What has been collected of a map under way. -/
structure Picked (L : List (Int × Int)) (now : Int) (left : Lit → Bool) (cs : List Int) : Prop where
  nodup : cs.Nodup
  mem : ∀ x, x ∈ cs ↔ ∃ a, find L x = some a ∧ a ≤ now ∧ left (.int .i64 x) = false
theorem picked_start {D : DataW Unit} {L : List (Int × Int)} (hR : Reads D L) (now : Int) : Picked L now (Maps.has D) [] := by
  refine ⟨List.nodup_nil, fun x => ⟨fun h => (by cases h), fun ⟨a, hf, _, hl⟩ => ?_⟩⟩
  rw [hR.has x, hf] at hl
  cases hl
theorem sameKey_int (x y : Int) : (Lit.int .i64 y).sameKey (.int .i64 x) = decide (y = x) := by
  by_cases h : y = x
  · subst h
    rw [WideAt.sameKey_self (a := .int .i64 y) trivial]
    simp
  · rw [sameKey_ne (by simpa using h)]
    simp [h]
theorem Picked.hit {L : List (Int × Int)} {now : Int} {left : Lit → Bool} {cs : List Int} (h : Picked L now left cs) {x c : Int} (hf : find L x = some c) (hl : left (.int .i64 x) = true) (hc : c ≤ now) :
    Picked L now (fun z => left z && !z.sameKey (.int .i64 x)) (cs ++ [x]) := by
  have hn : x ∉ cs := fun hx => by
    obtain ⟨_, _, _, h2⟩ := (h.mem x).1 hx
    rw [hl] at h2
    cases h2
  refine ⟨List.nodup_append.2 ⟨h.nodup, by simp, fun a ha b hb e => hn (by simp at hb; rw [← hb, ← e]; exact ha)⟩, fun y => ?_⟩
  simp only [List.mem_append, List.mem_singleton, h.mem y, sameKey_int]
  by_cases e : y = x
  · subst e
    simp [hf, hc]
  · simp [e]
theorem Picked.miss {L : List (Int × Int)} {now : Int} {left : Lit → Bool} {cs : List Int} (h : Picked L now left cs) {x c : Int} (hf : find L x = some c) (hc : ¬ c ≤ now) :
    Picked L now (fun z => left z && !z.sameKey (.int .i64 x)) cs := by
  refine ⟨h.nodup, fun y => ?_⟩
  rw [h.mem y]
  simp only [sameKey_int]
  by_cases e : y = x
  · subst e
    constructor
    · rintro ⟨a, h1, h2, _⟩
      rw [hf] at h1
      cases h1
      exact absurd h2 hc
    · rintro ⟨a, h1, h2, _⟩
      rw [hf] at h1
      cases h1
      exact absurd h2 hc
  · simp [e]
theorem Picked.all {L : List (Int × Int)} {now : Int} {left : Lit → Bool} {cs : List Int} (h : Picked L now left cs) (hn : L.Pairwise (fun p q => p.1 ≠ q.1)) (h0 : ∀ kl, left kl = false) (x : Int) : x ∈ cs ↔ x ∈ due L now := by
  rw [h.mem x, mem_due hn]
  simp [h0]
theorem find_of_reads {D : DataW Unit} {L : List (Int × Int)} (hR : Reads D L) {x c : Int} (h : ∀ z, D.atKey (.int .i64 x) z = .lit (.int .i64 c)) : find L x = some c := by
  have h1 := has_true_of_atKey h
  rw [hR.has x] at h1
  obtain ⟨a, ha⟩ := Option.isSome_iff_exists.1 h1
  have h2 := hR.elem x a ha .nil
  rw [h] at h2
  cases h2
  exact ha
end Al

set_option maxHeartbeats 2000000 in
set_option maxRecDepth 100000 in
theorem upTo_any {s bm : Nat} {L : List (Int × Int)} {now : Int} (w : World) (hk : ClockAt w s bm L) :
    Calls Try.prog 31 #[.pointer (some ⟨s, 0, none⟩), .int .i64 now] w fun e w' => ∃ v, e = .returned v ∧ w'.ownsRow w.heap.size 3 1 v (Al.due L now).length ((Al.due L now).map (Value.int .i64)) ∧ w.grownBy w' none := by
  obtain ⟨i0, hi, hz0, hz1, hz2⟩ := info_parts info3
  have hlt := hk.lt
  obtain ⟨hc, hG, D, hown, hR⟩ := hk
  have HG : Hid (Al.Good L) := hG
  have HR : Hid (Al.Reads D L) := hR
  have HO : Hid (mapped w bm L D) := hown
  have hlb := hG.len
  clear hG hR
  go_enter Try.func31, Try.ntmps31
  go_wp2_with fail
  refine (alarms_any _ hc).mono ?_
  rintro e w' ⟨rfl, rfl⟩
  go_wp2_with (at_range; refine wpList_range_own _ rfl _ 75 rfl 3 3 law3 Try.underlying75 _ bm _ D rfl (hown.alloc _) ?_; intro w0 hrg0 hg0 hs0)
  have e1 : (w'.alloc (Obj.cells #[Value.map (some bm)] 75)).heap.size = w'.heap.size + 1 := by simp
  rw [e1] at hrg0 hs0
  go_frame
  rw [e1]
  have hbox0 : w0.cell? ⟨w'.heap.size, 0, none⟩ = some (.map (some bm)) := hg0.cell (by rw [World.cell?_alloc_at _ _ _ _ (by simp)]; rfl) (by simp)
  have hgw0 : w'.grownBy w0 none := grown_trans (World.grownBy_alloc _ _ none) hg0
  have hs1 : w'.heap.size + 2 ≤ w0.heap.size := by omega
  clear hg0 hs0 e1
  go_loopw [6] (fun v wr => ∃ (left : Lit → Bool) (cnt : Nat) (cs : List Int), wr.ranges Try.prog 3 (plainElem Try.prog 3) bm (w'.heap.size + 1) L.length D left cnt ∧ wr.ownsRow (w'.heap.size + 2) 3 1 v cs.length (cs.map (Value.int .i64)) ∧
      wr.cell? ⟨w'.heap.size, 0, none⟩ = some (.map (some bm)) ∧ w'.grownBy wr none ∧ w'.heap.size + 2 ≤ wr.heap.size ∧ Hid (Al.Picked L now left cs) ∧ cs.length + cnt ≤ L.length)
    (fun _ wr => wr.rangeLeft bm (w'.heap.size + 1))
  case atStart => exact ⟨_, _, [], hrg0, World.ownsRow_nil _ _ _ _, hbox0, hgw0, hs1, Al.picked_start HR.out now, by rw [HR.out.size]; simp⟩
  case round =>
    obtain ⟨left, cnt, cs, hrg, hrow, hbox, hgw, hsz, HP, hcnt⟩ := hrel
    go_wp2_with (at_next; refine wpList_next_ranges_ii _ rfl _ rfl 3 3 .i64 .i64 law3 Try.underlying3 Try.underlying3 bm (w'.heap.size + 1) L.length _ _ _ rfl hrg ?_ ?_)
    · intro _ hl0
      go_wp2_with fail
      refine (sort_any (now := now) _ hbox hrg.owns HR.out HG.out hrow (by omega) (by omega) rfl HP.out.nodup (HP.out.all HG.out.nodup hl0)).mono ?_
      rintro e w2 ⟨rfl, hrow2, hg2⟩
      have hb : ∀ j, u6.ownBlock = some j → w'.heap.size ≤ j ∨ (none : Option Nat) = some j := fun j hj => by have := (hrow.lt j hj).1; omega
      have HG2 : Hid (w'.grownBy w2 none) := hgw.andThen hg2 hb
      have HROW : Hid (w2.ownsRow w'.heap.size 3 1 u6 (Al.due L now).length ((Al.due L now).map (Value.int .i64))) := owns_base hrow2 (by omega)
      clear hrow2 hg2 hb hrow hrg hgw hbox
      go_wp2
      go_ret
      exact ⟨_, rfl, HROW.out, HG2.out⟩
    · intro x c w1 cnt1 hwx hwc hlx hat hrg1 hlt1 hg1 hs1' hen
      have hf := Al.find_of_reads HR.out hat
      have hgw1 : w'.grownBy w1 none := hgw.andThen hg1 (fun j hj => by cases hj; exact Or.inl (by omega))
      have hbox1 := hg1.cell hbox (by simp)
      have hrow1 := hrow.kept hg1 (Or.inr (fun e => row_ne_iter hrow hrg e.symm))
      have hsz1 : w'.heap.size + 2 ≤ w1.heap.size := by omega
      have hle0 := hrg.left_eq
      have hle1 := hrg1.left_eq
      clear hat hrow hg1
      by_cases hcn : c ≤ now
      · have HP1 : Hid (Al.Picked L now (fun z => left z && !z.sameKey (.int .i64 x)) (cs ++ [x])) := HP.out.hit hf hlx hcn
        clear hf hlx HP hs1'
        go_wp2_with (at_builtin; refine wpList_append_own _ rfl _ _ 39 rfl (w'.heap.size + 2) 3 i0 (.int .i64 0) 1 8 Try.underlying39 hi hz0 hz1 hz2 rfl (by decide) _ _ _ rfl (hrow1.alloc _) ⟨w1.heap.size, 0, none⟩ 1 1 [.int .i64 x] rfl rfl ?c1 ?c2 ?c3 ?c4 ?c5 ?_)
        case c1 => exact one_new _ _ _
        case c2 => exact ints_oneCell .i64 [x]
        case c3 => unfold maxLen; omega
        case c4 => omega
        case c5 => simp; omega
        intro v' w2 hown2 hg2 _
        have hbl : ∀ j, u6.ownBlock = some j → w'.heap.size + 2 ≤ j := fun j hj => (hrow1.lt j hj).1
        have hga := grown_trans (World.grownBy_alloc w1 (.cells #[.int .i64 x] 3) u6.ownBlock) hg2
        have hrg2 := hrg1.kept hga (fun e => by have := hbl _ e.symm; omega) (fun e => by have := hbl _ e.symm; omega)
        have hbox2 := hga.cell hbox1 (fun e => by have := hbl w'.heap.size e.symm; omega)
        have HG2 : Hid (w'.grownBy w2 none) := hgw1.andThen hga (fun j hj => Or.inl (by have := hbl j hj; omega))
        have hsz2 : w'.heap.size + 2 ≤ w2.heap.size := Nat.le_trans hsz1 hga.size
        have HROW : Hid (w2.ownsRow (w'.heap.size + 2) 3 1 v' (cs ++ [x]).length ((cs ++ [x]).map (Value.int .i64))) := by
          have : w2.ownsRow (w'.heap.size + 2) 3 1 v' (cs ++ [x]).length ((cs ++ [x]).map (Value.int .i64)) := by simpa using hown2
          exact this
        have HRG : Hid (w2.ranges Try.prog 3 (plainElem Try.prog 3) bm (w'.heap.size + 1) L.length D (fun z => left z && !z.sameKey (.int .i64 x)) cnt1) := hrg2
        have hle2 := hrg2.left_eq
        clear hown2 hga hg2 hrg2 hrg1 hrow1 hbl
        go_wp2
        go_roundw
        case rel => exact ⟨_, cnt1, cs ++ [x], HRG.out, HROW.out, hbox2, HG2.out, hsz2, HP1, by simp; omega⟩
        case measure => rw [hle2, hle0]; exact hlt1
      · have HP1 : Hid (Al.Picked L now (fun z => left z && !z.sameKey (.int .i64 x)) cs) := HP.out.miss hf hcn
        clear hf hlx HP hs1'
        go_wp2
        go_roundw
        case rel => exact ⟨_, cnt1, cs, hrg1, hrow1, hbox1, hgw1, hsz1, HP1, by omega⟩
        case measure => rw [hle1, hle0]; exact hlt1

theorem upTo_nil {now : Int} (w : World) : Calls Try.prog 31 #[.pointer none, .int .i64 now] w fun e w' => e = .returned (.slice none 0 0) ∧ w.grownBy w' none := by
  have hrg := fun W => run_range_nilMap (P := Try.prog) W 75 3 3 Try.underlying75
  have hnx : ∀ ty, (Instr.next (.pointer (some ⟨w.heap.size + 1, 0, none⟩)) false ty).run Try.prog ((w.alloc (.cells #[.map none] 75)).alloc (.mapIter none 0 #[] 0)) = .ok (.tuple #[.bool false]) ((w.alloc (.cells #[.map none] 75)).alloc (.mapIter none 0 #[] 0)) := fun ty => by
    have := run_next_nilMap (P := Try.prog) (w.alloc (.cells #[.map none] 75)) ty 0 0 #[]
    rwa [World.size_alloc] at this
  have hS := fun W => AnyF.slices_SortFunc_none (P := Try.prog) (ρ := Lay.sortL_ren) { Lay.sortL with } none 0 (.func (.func 45) #[] #[.pointer (some ⟨w.heap.size, 0, none⟩)]) W
  change ∀ W, Calls Try.prog 44 _ _ _ at hS
  go_enter Try.func31, Try.ntmps31
  go_wp2_with fail
  refine (alarms_nil _).mono ?_
  rintro e w' ⟨rfl, rfl⟩
  go_wp2
  refine wp_loop_rounds 1 ?_
  rw [rounds_succ]
  go_wp2_with (go_at_call 44; refine (hS _).mono ?_; rintro e w1 ⟨rfl, rfl⟩)
  go_ret
  exact ⟨rfl, grown_trans (World.grownBy_alloc _ _ none) (World.grownBy_alloc _ _ none)⟩

theorem dueArg_any {now : Int} (p : Option Addr) (w : World) (h : ¬ Al.fits now) : Calls Try.prog 15 #[.pointer p, .int .i64 now] w fun e w' => e = .returned (.tuple #[.slice none 0 0, .int .i64 1]) ∧ w' = w := by
  have c1 : Hid (¬ Al.fits now) := h
  clear h
  go_enter Try.func15, Try.ntmps15
  go_wp2_with fail
  refine (fits_no _ c1.out).mono ?_
  rintro e w' ⟨rfl, rfl⟩
  go_wp2
  go_ret2
  exact ⟨rfl, rfl⟩
theorem dueNil_any {now : Int} (w : World) (h : Al.fits now) : Calls Try.prog 15 #[.pointer none, .int .i64 now] w fun e w' => e = .returned (.tuple #[.slice none 0 0, .int .i64 0]) ∧ w.grownBy w' none := by
  have c1 : Hid (Al.fits now) := h
  clear h
  go_enter Try.func15, Try.ntmps15
  go_wp2_with fail
  refine (fits_yes _ c1.out).mono ?_
  rintro e w' ⟨rfl, rfl⟩
  go_wp2_with fail
  refine (upTo_nil _).mono ?_
  rintro e w1 ⟨rfl, hg⟩
  have HG : Hid (w'.grownBy w1 none) := hg
  clear hg
  go_wp2
  refine wp_loop_rounds 1 ?_
  rw [rounds_succ]
  go_wp2
  go_ret2
  exact ⟨rfl, HG.out⟩

set_option maxHeartbeats 1000000 in
set_option maxRecDepth 100000 in
theorem dueOk_any {s bm : Nat} {L : List (Int × Int)} {now : Int} (w : World) (hk : ClockAt w s bm L) (h : Al.fits now) :
    Calls Try.prog 15 #[.pointer (some ⟨s, 0, none⟩), .int .i64 now] w fun e w' => ∃ v, e = .returned (.tuple #[v, .int .i64 0]) ∧ w'.ownsRow w.heap.size 3 1 v (Al.due L now).length ((Al.due L now).map (Value.int .i64)) ∧ ClockAt w' s bm (Al.rest L now) ∧ w.grownBy w' (some bm) := by
  have c1 : Hid (Al.fits now) := h
  have HK : Hid (ClockAt w s bm L) := hk
  have HD : Hid ((Al.due L now).foldl Al.drop L = Al.rest L now) := Al.dropped hk.2.1.nodup now
  have hr : ∀ x ∈ Al.due L now, -9223372036854775808 ≤ x ∧ x ≤ 9223372036854775807 := fun x hx => by
    obtain ⟨a, ha, _⟩ := (Al.mem_due hk.2.1.nodup).1 hx
    have := (hk.2.1.inside _ (Al.mem_of_find ha)).1
    simp only [Al.fits] at this
    omega
  have HR : Hid (∀ x ∈ Al.due L now, -9223372036854775808 ≤ x ∧ x ≤ 9223372036854775807) := hr
  have hbm := hk.lt
  clear h hk hr
  generalize hds : Al.due L now = ds at HD HR ⊢
  have HDS : Hid (Al.due L now = ds) := hds
  clear hds
  go_enter Try.func15, Try.ntmps15
  go_wp2_with fail
  refine (fits_yes _ c1.out).mono ?_
  rintro e w' ⟨rfl, rfl⟩
  go_wp2_with fail
  refine (upTo_any _ HK.out).mono ?_
  rintro e w1 ⟨v, rfl, hrow, hg⟩
  have HK1 : Hid (ClockAt w1 s bm L) := HK.out.kept hg (by simp) (by simp)
  rw [HDS.out] at hrow
  have HG : Hid (w'.grownBy w1 none) := hg
  have HROW : Hid (w1.ownsRow w'.heap.size 3 1 v ds.length (ds.map (Value.int .i64))) := hrow
  clear HK
  rcases hrow.2 with ⟨rfl, h0⟩ | ⟨g, cap, cur, rfl, hbg, hb, hnc, hcm, hcs, htake⟩
  · have e0 : ds = [] := List.eq_nil_of_length_eq_zero h0
    subst e0
    clear hrow hg h0
    go_wp2
    refine wp_loop_rounds 1 ?_
    rw [rounds_succ]
    go_wp2
    go_ret2
    have hd := HD.out
    simp only [List.foldl_nil] at hd
    exact ⟨_, rfl, HROW.out, hd ▸ HK1.out, HG.out.but _⟩
  · have hcell : Hid (∀ j, j < ds.length → w1.cell? ⟨g, j, none⟩ = some (.int .i64 (ds.getD j 0))) := fun j hj => by
      have := hrow.cells (g := g) rfl j (.int .i64 (ds.getD j 0)) (by simp [List.getD, hj])
      rw [Go.WideShapes.add_plain, Nat.zero_add] at this
      exact this
    unfold maxLen at hcm
    clear hrow hg hcs htake hb
    obtain ⟨n, hn⟩ : ∃ n, ds.length = n := ⟨_, rfl⟩
    have HN : Hid (ds.length = n) := hn
    rw [hn] at hnc ⊢
    clear hn
    go_wp2
    go_loopw [17] (fun i wr => ∃ k : Nat, k ≤ n ∧ i = .int .i64 k ∧ Hid (ClockAt wr s bm ((ds.take k).foldl Al.drop L)) ∧ Hid (w1.grownBy wr (some bm))) (fun i _ => n - (intOf i).toNat)
    case atStart => exact ⟨0, Nat.zero_le _, rfl, HK1, grown_refl _ _⟩
    case round =>
      obtain ⟨k, hkn, rfl, HKr, HGr⟩ := hrel
      by_cases hlt : k < n
      · have hc := HGr.out.cell (hcell.out k (by rw [HN.out]; exact hlt)) (by simp; omega)
        have hx : ds.getD k 0 ∈ ds := by have := HN.out; simp [List.getD, show k < ds.length by omega]
        have hxr := HR.out _ hx
        have HT : Hid (ds.take (k + 1) = ds.take k ++ [ds.getD k 0]) := by
          have := HN.out
          show _ = _
          rw [List.take_succ_eq_append_getElem (by omega)]
          simp [List.getD, show k < ds.length by omega]
        generalize ds.getD k 0 = x at *
        obtain ⟨hcc, hG, D, hown, hR⟩ := HKr.out
        have hkey := keyOf_int_mk Try.underlying3 (wf_i64 hxr)
        have hG' : Hid (Al.Good (Al.drop ((ds.take k).foldl Al.drop L) x)) := hG.drop x
        have hR' : Hid (Al.Reads (D.del (.int .i64 x)) (Al.drop ((ds.take k).foldl Al.drop L) x)) := hR.del (hown.tidy law3) hG.nodup x
        clear hG hR hx hxr
        generalize hM : ((ds.take k).foldl Al.drop L) = M at *
        have HM : Hid ((ds.take k).foldl Al.drop L = M) := hM
        clear hM
        go_wp2_with fail
        refine (alarms_any _ hcc).mono ?_
        rintro e w2 ⟨rfl, rfl⟩
        go_wp2_with (at_delete; refine wpList_delete_own _ rfl _ _ 75 3 rfl 3 law3 Try.underlying75 _ bm _ D rfl hown _ _ rfl hkey ?_; intro w3 hown1 hturn1)
        have HK3 : Hid (ClockAt w3 s bm (Al.drop M x)) := HKr.out.turned hturn1.grown hG'.out hown1 hR'.out
        have HG3 : Hid (w1.grownBy w3 (some bm)) := grown_trans HGr.out hturn1.grown
        clear hown1 hturn1 hown
        go_wp2
        go_roundw
        case rel => exact ⟨k + 1, by omega, by go_num, (by rw [HT.out, List.foldl_append, HM.out]; exact HK3), HG3⟩
        case measure => simp [intOf]; omega
      · obtain rfl : k = n := by omega
        have hd := HD.out
        have e0 : ds.take k = ds := List.take_of_length_le (by rw [HN.out]; exact Nat.le_refl _)
        rw [e0, hd] at HKr
        have HROW3 : Hid (wr.ownsRow w'.heap.size 3 1 (.slice (some ⟨g, 0, none⟩) ds.length cap) ds.length (ds.map (Value.int .i64))) := HROW.out.kept HGr.out (Or.inr (by simp [Value.ownBlock]; omega))
        have HG3 : Hid (w'.grownBy wr (some bm)) := grown_trans (HG.out.but _) HGr.out
        clear hd e0
        rw [HN.out] at HROW3
        go_wp2
        go_ret2
        have e := HN.out
        exact ⟨_, rfl, by rw [e]; exact HROW3.out, HKr.out, HG3.out⟩
end Go.Proofs.Ytlhobncpifklkaa
