/-
  OpensAsks: for every list of open files, every client and every handle the call answers true, and the arguments read as before. No condition.
-/
import Derived.Test.YtlikcijoejgkkaaRef
import Derived.Test.YtlikcijoejgkkaaSame
import Derived.Test.YtlikcijoejgkkaaTwo
import Derived.Test.YtlikcijoejgkkaaOpenA
import Derived.Test.YtlikcijoejgkkaaLaw
namespace Go.Proofs.Ytlikcijoejgkkaa
open Go.ChangeShapes Go.WideShapes Go.ChangeAt Go.RowKit Go.Deep
namespace Op
def mfd (l : List Opn) (c : Int) (k : Nat) : List Int := ((l.take k).filter fun x => x.2.1 == c).map fdOf
theorem mfd_in {l : List Opn} {c : Int} {k : Nat} {x : Opn} (h : l[k]? = some x) (hx : x.2.1 = c) : mfd l c (k + 1) = mfd l c k ++ [fdOf x] := by
  unfold mfd
  rw [filter_in h (by simp [hx]), List.map_append]
  rfl
theorem mfd_out {l : List Opn} {c : Int} {k : Nat} {x : Opn} (h : l[k]? = some x) (hx : ¬ x.2.1 = c) : mfd l c (k + 1) = mfd l c k := by
  unfold mfd
  rw [filter_out h (by simp [hx])]
theorem mfd_len (l : List Opn) (c : Int) (k : Nat) : (mfd l c k).length ≤ k := by
  unfold mfd
  rw [List.length_map]
  exact filter_len l _ k
end Op
set_option maxHeartbeats 4000000 in
theorem asks_any (v : Value) (l : List Opn) (c no gen : Int) (w : World) (hv : AtW EO w v l) (hl : l.length ≤ 4398046511104) :
    Calls Try.prog 3 #[v, .int .i64 c, VH no gen] w fun e w' => e = .returned (.bool true) ∧ Below w.heap.size w w' := by
  have hv0 := hv
  obtain ⟨ao, cap, rfl, hm, hx⟩ := hv0.open
  clear hv0 hm
  have HLL : Hid (l.length ≤ 4398046511104) := hl
  obtain ⟨n, hn⟩ : ∃ n, l.length = n := ⟨_, rfl⟩
  rw [hn] at hv hl ⊢
  have HN : Hid (l.length = n) := hn
  have HX : Hid (Over w ao l) := hx
  have HV : Hid (AtW EO w (.slice ao n cap) l) := hv
  obtain ⟨W, hW⟩ : ∃ W, W = w.alloc (BH no gen) := ⟨_, rfl⟩
  have HB0 : Hid (Below w.heap.size w W) := by show Below w.heap.size w W; rw [hW]; exact (Below.refl _ w).alloc (Nat.le_refl _) _
  have HA0 : Hid (W.heap[w.heap.size]? = some (BH no gen)) := by show W.heap[w.heap.size]? = some (BH no gen); rw [hW]; exact heap_alloc_new w (BH no gen)
  have hWs : W.heap.size = w.heap.size + 1 := by rw [hW]; simp
  obtain ⟨j0, hj, hy0, hy1, hy2⟩ := info_parts infoN
  clear hn hx hv
  go_enter Try.func3, Try.ntmps3
  go_wp2
  rw [← hW]
  clear hW
  go_loopw [7, 8, 13] (fun t u i wr => ∃ (k m : Nat) (pp : Option Addr) (jj q : Nat), k ≤ n ∧ m ≤ k ∧ i = .int .i64 k ∧ t = .int .i64 m ∧ u = .slice pp jj q ∧ Hid (m = Op.held (l.take k) no gen) ∧ Hid (Row EI wr W.heap.size 3 (.slice pp jj q) (Op.mfd l c k)) ∧ Hid (Below W.heap.size W wr)) (fun _ _ i _ => n - (intOf i).toNat)
  case atStart => exact ⟨0, 0, none, 0, 0, Nat.zero_le _, Nat.le_refl _, rfl, rfl, rfl, rfl, Row.nil _ _ _ _, Below.refl _ _⟩
  case round =>
    obtain ⟨k, m, pp, jj, q, hk, hmk, rfl, rfl, rfl, HM, HR, HB⟩ := hrel
    have hsz := HB.out.size
    have HB1 : Hid (Below w.heap.size w wr) := HB0.out.trans (HB.out.mono HB0.out.size)
    obtain ⟨z0, z1⟩ := hand_of ((HB.out.block _ (Array.getElem?_eq_some_iff.1 HA0.out).1).trans HA0.out)
    by_cases hlt : k < n
    · obtain ⟨x, hxk⟩ : ∃ x, l[k]? = some x := ⟨_, List.getElem?_eq_getElem (by rw [HN.out]; exact hlt)⟩
      have HXK : Hid (l[k]? = some x) := hxk
      obtain ⟨b, off, rfl, -, hB, hc⟩ := HX.out k x hxk
      obtain ⟨c0, c1, c2, c3⟩ := opn_cells HB1.out hB hc
      clear hc hxk
      rw [← cell_older (by omega) (BO x)] at z0 z1
      have hlt' : (k : Int) < (n : Int) := by omega
      have HLEN : Hid ((Op.mfd l c k).length ≤ k) := Op.mfd_len l c k
      cases g : (x.2.2.1 == no && x.2.2.2 == gen) with
      | true =>
        by_cases gc : x.2.1 = c
        · have HGH : Hid (Op.held (l.take (k + 1)) no gen = Op.held (l.take k) no gen + 1) := Op.held_in HXK.out g
          have heq : ∀ w', (binOp .eql 24 (VH x.2.2.1 x.2.2.2) (VH no gen)).run Try.prog w' = .ok (.bool true) w' := fun w' => by rw [eql_hand, g]
          have g1 : (x.2.1 == c) = true := by simp [gc]
          have HGC : Hid (Op.mfd l c (k + 1) = Op.mfd l c k ++ [Op.fdOf x]) := Op.mfd_in HXK.out gc
          have HR3 : Hid (Row EI ((wr.alloc (BO x)).alloc (.cells #[.int .i64 x.1] 3)) W.heap.size 3 (.slice pp jj q) (Op.mfd l c k)) := (HR.out.up ((Below.refl _ _).alloc (Nat.le_refl _) _)).up ((Below.refl _ _).alloc (Nat.le_refl _) _)
          have HB4 : Hid (Below W.heap.size W ((wr.alloc (BO x)).alloc (.cells #[.int .i64 x.1] 3))) := (HB.out.alloc hsz _).alloc (by simp; omega) _
          have HO : Hid (AtW EI ((wr.alloc (BO x)).alloc (.cells #[.int .i64 x.1] 3)) (.slice (some ⟨wr.heap.size + 1, 0, none⟩) 1 1) [Op.fdOf x]) := by
            have h2 := heap_alloc_new (wr.alloc (BO x)) (.cells #[.int .i64 x.1] 3)
            rw [show (wr.alloc (BO x)).heap.size = wr.heap.size + 1 by simp] at h2
            exact at_oneI h2
          clear g gc
          go_wp2_with (at_builtin; refine wpList_row _ rfl _ _ 25 rfl EI (fun _ => True) W.heap.size 3 j0 _ 8 Try.underlying25 hj hy0 hy1 hy2 rfl _ (Op.mfd l c k) rfl HR3.out _ [Op.fdOf x] rfl HO.out (by have := HLEN.out; unfold maxLen; simp only [List.length_cons, List.length_nil]; omega) (by have := HLEN.out; simp only [List.length_cons, List.length_nil]; omega) (by simp; omega) ?_; intro v7 w7 hrow7 hg7 hloc7)
          have HEND : Hid (Row EI w7 W.heap.size 3 v7 (Op.mfd l c (k + 1)) ∧ Below W.heap.size W w7) := ⟨by rw [HGC.out]; exact hrow7, HB4.out.grown hg7 (by simp; omega) (fun k hk => (HR3.out.lt k hk).1)⟩
          clear hrow7 hg7 hloc7
          obtain ⟨p7, n7, c7, rfl⟩ := HEND.out.1.slice3
          go_wp2
          go_roundw
          case rel => exact ⟨k + 1, m + 1, p7, n7, c7, by omega, by omega, by go_num, by go_num, rfl, by rw [HGH.out, ← HM.out]; exact rfl, HEND.out.1, HEND.out.2⟩
          case measure => simp [intOf]; omega
        · have HGH : Hid (Op.held (l.take (k + 1)) no gen = Op.held (l.take k) no gen + 1) := Op.held_in HXK.out g
          have heq : ∀ w', (binOp .eql 24 (VH x.2.2.1 x.2.2.2) (VH no gen)).run Try.prog w' = .ok (.bool true) w' := fun w' => by rw [eql_hand, g]
          have g1 : (x.2.1 == c) = false := beq_eq_false_iff_ne.2 gc
          have HGC : Hid (Op.mfd l c (k + 1) = Op.mfd l c k) := Op.mfd_out HXK.out gc
          clear g gc
          go_wp2
          go_roundw
          case rel => exact ⟨k + 1, m + 1, pp, jj, q, by omega, by omega, by go_num, by go_num, rfl, by rw [HGH.out, ← HM.out]; exact rfl, by rw [HGC.out]; exact HR.out.up ((Below.refl _ _).alloc (Nat.le_refl _) _), HB.out.alloc hsz _⟩
          case measure => simp [intOf]; omega
      | false =>
        by_cases gc : x.2.1 = c
        · have HGH : Hid (Op.held (l.take (k + 1)) no gen = Op.held (l.take k) no gen) := Op.held_out HXK.out g
          have heq : ∀ w', (binOp .eql 24 (VH x.2.2.1 x.2.2.2) (VH no gen)).run Try.prog w' = .ok (.bool false) w' := fun w' => by rw [eql_hand, g]
          have g1 : (x.2.1 == c) = true := by simp [gc]
          have HGC : Hid (Op.mfd l c (k + 1) = Op.mfd l c k ++ [Op.fdOf x]) := Op.mfd_in HXK.out gc
          have HR3 : Hid (Row EI ((wr.alloc (BO x)).alloc (.cells #[.int .i64 x.1] 3)) W.heap.size 3 (.slice pp jj q) (Op.mfd l c k)) := (HR.out.up ((Below.refl _ _).alloc (Nat.le_refl _) _)).up ((Below.refl _ _).alloc (Nat.le_refl _) _)
          have HB4 : Hid (Below W.heap.size W ((wr.alloc (BO x)).alloc (.cells #[.int .i64 x.1] 3))) := (HB.out.alloc hsz _).alloc (by simp; omega) _
          have HO : Hid (AtW EI ((wr.alloc (BO x)).alloc (.cells #[.int .i64 x.1] 3)) (.slice (some ⟨wr.heap.size + 1, 0, none⟩) 1 1) [Op.fdOf x]) := by
            have h2 := heap_alloc_new (wr.alloc (BO x)) (.cells #[.int .i64 x.1] 3)
            rw [show (wr.alloc (BO x)).heap.size = wr.heap.size + 1 by simp] at h2
            exact at_oneI h2
          clear g gc
          go_wp2_with (at_builtin; refine wpList_row _ rfl _ _ 25 rfl EI (fun _ => True) W.heap.size 3 j0 _ 8 Try.underlying25 hj hy0 hy1 hy2 rfl _ (Op.mfd l c k) rfl HR3.out _ [Op.fdOf x] rfl HO.out (by have := HLEN.out; unfold maxLen; simp only [List.length_cons, List.length_nil]; omega) (by have := HLEN.out; simp only [List.length_cons, List.length_nil]; omega) (by simp; omega) ?_; intro v7 w7 hrow7 hg7 hloc7)
          have HEND : Hid (Row EI w7 W.heap.size 3 v7 (Op.mfd l c (k + 1)) ∧ Below W.heap.size W w7) := ⟨by rw [HGC.out]; exact hrow7, HB4.out.grown hg7 (by simp; omega) (fun k hk => (HR3.out.lt k hk).1)⟩
          clear hrow7 hg7 hloc7
          obtain ⟨p7, n7, c7, rfl⟩ := HEND.out.1.slice3
          go_wp2
          go_roundw
          case rel => exact ⟨k + 1, m, p7, n7, c7, by omega, by omega, by go_num, rfl, rfl, by rw [HGH.out, ← HM.out]; exact rfl, HEND.out.1, HEND.out.2⟩
          case measure => simp [intOf]; omega
        · have HGH : Hid (Op.held (l.take (k + 1)) no gen = Op.held (l.take k) no gen) := Op.held_out HXK.out g
          have heq : ∀ w', (binOp .eql 24 (VH x.2.2.1 x.2.2.2) (VH no gen)).run Try.prog w' = .ok (.bool false) w' := fun w' => by rw [eql_hand, g]
          have g1 : (x.2.1 == c) = false := beq_eq_false_iff_ne.2 gc
          have HGC : Hid (Op.mfd l c (k + 1) = Op.mfd l c k) := Op.mfd_out HXK.out gc
          clear g gc
          go_wp2
          go_roundw
          case rel => exact ⟨k + 1, m, pp, jj, q, by omega, by omega, by go_num, rfl, rfl, by rw [HGH.out, ← HM.out]; exact rfl, by rw [HGC.out]; exact HR.out.up ((Below.refl _ _).alloc (Nat.le_refl _) _), HB.out.alloc hsz _⟩
          case measure => simp [intOf]; omega
    · obtain rfl : k = n := by omega
      have HMF : Hid (Op.mfd l c k = (Op.owned l c).map Op.fdOf) := by
        show ((l.take k).filter _).map _ = _
        rw [← HN.out, List.take_length]
        rfl
      have HHD : Hid (Op.held l no gen = m) := by
        have h2 := HM.out
        rw [← HN.out, List.take_length] at h2
        exact h2.symm
      cases hr : Op.right 0 l with
      | true =>
        have HRR : Hid (Op.right 0 l = true) := hr
        have HCE : Hid ((if Op.right 0 l = true then (0 : Int) else 4) = 0) := by show (if Op.right 0 l = true then (0 : Int) else 4) = _; rw [hr]; rfl
        clear hr
        go_wp2_with fail
        refine (check_any _ l _ (HV.out.up HB1.out)).mono ?_
        rintro e w2 ⟨rfl, hb2⟩
        rw [HCE.out]
        have HB2 : Hid (Below w.heap.size w w2) := HB1.out.trans (hb2.mono HB1.out.size)
        have z2 := cell_step z0 hb2
        have z3 := cell_step z1 hb2
        have HR2 : Hid (AtW EI w2 (.slice pp jj q) (Op.mfd l c k)) := HR.out.at.wide.up hb2
        clear hb2 z0 z1
        go_wp2_with fail
        refine (rright_any _ l _ (HV.out.up HB2.out)).mono ?_
        rintro e w3 ⟨rfl, hb3⟩
        rw [HRR.out]
        have HB3 : Hid (Below w.heap.size w w3) := HB2.out.trans (hb3.mono HB2.out.size)
        have z4 := cell_step z2 hb3
        have z5 := cell_step z3 hb3
        have HR3 : Hid (AtW EI w3 (.slice pp jj q) (Op.mfd l c k)) := HR2.out.up hb3
        clear hb3 z2 z3
        go_wp2_with fail
        refine (held_any _ l no gen _ (HV.out.up HB3.out)).mono ?_
        rintro e w4 ⟨rfl, hb4⟩
        rw [HHD.out]
        have HB4 : Hid (Below w.heap.size w w4) := HB3.out.trans (hb4.mono HB3.out.size)
        have HR4 : Hid (AtW EI w4 (.slice pp jj q) (Op.mfd l c k)) := HR3.out.up hb4
        clear hb4 z4 z5
        go_wp2_with fail
        refine (of_any _ l c _ (HV.out.up HB4.out) HLL.out).mono ?_
        rintro e w5 ⟨p5, n5, q5, rfl, hu5, hb5⟩
        have HB5 : Hid (Below w.heap.size w w5) := HB4.out.trans (hb5.mono HB4.out.size)
        have HR5 : Hid (AtW EI w5 (.slice pp jj q) (Op.mfd l c k) ∧ AtW EI w5 (.slice p5 n5 q5) (Op.mfd l c k)) := ⟨HR4.out.up hb5, by rw [HMF.out]; exact hu5.wide⟩
        clear hb5 hu5
        go_wp2_with fail
        refine (ints_same _ _ (Op.mfd l c k) _ HR5.out.2 HR5.out.1).mono ?_
        rintro e w6 ⟨rfl, hb6⟩
        have HB6 : Hid (Below w.heap.size w w6) := HB5.out.trans (hb6.mono HB5.out.size)
        clear hb6
        go_wp2_with fail
        refine (two_any _).mono ?_
        rintro e w7 ⟨rfl, hb7⟩
        have HB7 : Hid (Below w.heap.size w w7) := HB6.out.trans (hb7.mono HB6.out.size)
        clear hb7
        go_wp2
        go_ret
        exact ⟨rfl, HB7.out⟩
      | false =>
        have HRR : Hid (Op.right 0 l = false) := hr
        have HCE : Hid ((if Op.right 0 l = true then (0 : Int) else 4) = 4) := by show (if Op.right 0 l = true then (0 : Int) else 4) = _; rw [hr]; rfl
        clear hr
        go_wp2_with fail
        refine (check_any _ l _ (HV.out.up HB1.out)).mono ?_
        rintro e w2 ⟨rfl, hb2⟩
        rw [HCE.out]
        have HB2 : Hid (Below w.heap.size w w2) := HB1.out.trans (hb2.mono HB1.out.size)
        have z2 := cell_step z0 hb2
        have z3 := cell_step z1 hb2
        have HR2 : Hid (AtW EI w2 (.slice pp jj q) (Op.mfd l c k)) := HR.out.at.wide.up hb2
        clear hb2 z0 z1
        go_wp2_with fail
        refine (rright_any _ l _ (HV.out.up HB2.out)).mono ?_
        rintro e w3 ⟨rfl, hb3⟩
        rw [HRR.out]
        have HB3 : Hid (Below w.heap.size w w3) := HB2.out.trans (hb3.mono HB2.out.size)
        have z4 := cell_step z2 hb3
        have z5 := cell_step z3 hb3
        have HR3 : Hid (AtW EI w3 (.slice pp jj q) (Op.mfd l c k)) := HR2.out.up hb3
        clear hb3 z2 z3
        go_wp2_with fail
        refine (held_any _ l no gen _ (HV.out.up HB3.out)).mono ?_
        rintro e w4 ⟨rfl, hb4⟩
        rw [HHD.out]
        have HB4 : Hid (Below w.heap.size w w4) := HB3.out.trans (hb4.mono HB3.out.size)
        have HR4 : Hid (AtW EI w4 (.slice pp jj q) (Op.mfd l c k)) := HR3.out.up hb4
        clear hb4 z4 z5
        go_wp2_with fail
        refine (of_any _ l c _ (HV.out.up HB4.out) HLL.out).mono ?_
        rintro e w5 ⟨p5, n5, q5, rfl, hu5, hb5⟩
        have HB5 : Hid (Below w.heap.size w w5) := HB4.out.trans (hb5.mono HB4.out.size)
        have HR5 : Hid (AtW EI w5 (.slice pp jj q) (Op.mfd l c k) ∧ AtW EI w5 (.slice p5 n5 q5) (Op.mfd l c k)) := ⟨HR4.out.up hb5, by rw [HMF.out]; exact hu5.wide⟩
        clear hb5 hu5
        go_wp2_with fail
        refine (ints_same _ _ (Op.mfd l c k) _ HR5.out.2 HR5.out.1).mono ?_
        rintro e w6 ⟨rfl, hb6⟩
        have HB6 : Hid (Below w.heap.size w w6) := HB5.out.trans (hb6.mono HB5.out.size)
        clear hb6
        go_wp2_with fail
        refine (two_any _).mono ?_
        rintro e w7 ⟨rfl, hb7⟩
        have HB7 : Hid (Below w.heap.size w w7) := HB6.out.trans (hb7.mono HB6.out.size)
        clear hb7
        go_wp2
        go_ret
        exact ⟨rfl, HB7.out⟩

set_option maxRecDepth 100000 in
theorem opensAsks_lifted (os : Os) (started : os.Started) (H : Type) (enc : TypeId × Value → H) :
    ReturnsInHanded {} Try.checked os 3 .any (Rows.opensAsksSpec.pre6 enc Try.prog Try.f3 Rows.opensAsksRow.domain false) (Rows.opensAsksSpec.post enc Try.prog Try.f3 false true false false) := by
  refine returnsInHanded_of_change_sized (C := Try.checked) own started (by kernel_rfl) Try.func3
    (ChangeSpec.witness6 (enc := enc) (C := Try.checked) false ⟨#[], #[.slice none 0 0, .int .i64 0, .agg #[.int .i64 0, .int .i64 0]], []⟩ 8 (by kernel_rfl) (by kernel_rfl) (by kernel_rfl) (by kernel_rfl)) ?_
  intro W base args ds gs before hval0 hW hcnd hsized _
  have hval : ∀ (j : Nat) t v, Try.f3.params[j]? = some t → args[j]? = some v → Value.okWide Try.prog W .any base t v := hval0
  have hW' := hW
  have hlt : ∀ x ∈ before, x.block < W.heap.size := fun x hx => by simpa using hW'.lt x hx
  obtain ⟨p, q, hA0, hV, rfl, hfz, hnd⟩ := hW
  have hA : DataW.TrodAll enc Try.prog W 0 (fun _ => true) true Try.f3.params.toList args.toList ds p := hA0
  rw [Try.params3] at hA hval
  obtain ⟨v0, v1, v2, d0, d1, d2, p0, p1, p2, rfl, rfl, rfl, h0, h1, h2⟩ := trodAll_three hA
  obtain ⟨rfl, rfl⟩ := trodVars_none hV
  have hwt0 : ∀ n ∈ d0.weights Try.prog 22, n ≤ reachBytes := fun n hn => by
    have := List.all_eq_true.1 hsized n (DataW.weights_mem_each (j := 0) (t := 22) (d := d0) rfl rfl n hn)
    simpa using this
  obtain ⟨l, hl, hln⟩ := open_opens (okWide_slice Try.underlying22 (hval 0 22 v0 rfl rfl)) h0 hwt0
  obtain ⟨c, rfl, -, -, -⟩ := open_int Try.underlying3 (hval 1 3 v1 rfl rfl) h1
  obtain ⟨no, gen, rfl⟩ := open_handle (hval 2 24 v2 rfl rfl) h2
  refine (asks_any v0 l c no gen W hl hln).mono fun e W' ⟨he, hg⟩ => ⟨_, he, ?_⟩
  exact Law.post laidOut (by kernel_rfl) rfl Try.underlying4 hW' rfl rfl hg

theorem opensAsks_holds : Rows.OpensAsksSaid :=
  OpenClaim.holds_of_wide 3 Try.f3 rfl rfl rfl rfl rfl rfl rfl ⟨rfl, rfl, rfl, rfl, rfl⟩ rfl rfl rfl rfl rfl (by kernel_rfl) Try.func3 (by kernel_rfl)
    (of_decide_eq_true (by kernel_rfl)) (by unfold Func.isWrapper; first | (rw [if_pos (by decide +kernel)]; kernel_rfl) | (rw [if_neg (by decide +kernel)]; exact ⟨rfl, rfl⟩))
    (fun os started H enc _ => opensAsks_lifted os started H enc)
#print axioms opensAsks_holds
end Go.Proofs.Ytlikcijoejgkkaa
