/-
  The reference's log: Behind, at any one that stands for a list of items; and the log's own, in one sentence.
-/
import Derived.Test.YtbjcleeiobaegaaRefD
namespace Go.Proofs.Ytbjcleeiobaegaa
open Go.RowKit
def Ol.behindErr (base : Int) (len : Nat) (n most : Int) : Int := if most < 0 then 1 else Ol.reach base len n
def Ol.behindOf (base : Int) (ls : List Ol.It) (n most : Int) : List Ol.It := if most < 0 then [] else if Ol.reach base ls.length n = 0 then (ls.drop (n - base).toNat).take most.toNat else []
theorem behind_any {s : Nat} {base : Int} {v : Value} {ls : List Ol.It} (n most : Int) (w : World) (h : LogAt w s base v ls) (hM : most ≤ 9223372036854775807) : Calls Try.prog 21 #[.pointer (some ⟨s, 0, none⟩), .int .i64 n, .int .i64 most] w fun e w' => ∃ u, e = .returned (.tuple #[u, .int .i64 (Ol.behindErr base ls.length n most)]) ∧ ItemsAt w' u (Ol.behindOf base ls n most) ∧ w.grownBy w' none := by
  unfold Ol.behindErr Ol.behindOf
  by_cases h1 : most < 0
  · rw [if_pos h1, if_pos h1]
    exact (behind_arg _ n most w h1).mono fun _ _ ⟨he, hw⟩ => ⟨_, he, .inl ⟨_, _, rfl, rfl⟩, by rw [hw]; exact grown_refl _ _⟩
  · rw [if_neg h1, if_neg h1]
    by_cases hr : Ol.reach base ls.length n = 0
    · rw [if_pos hr, hr]
      obtain ⟨h0, h2, h3⟩ := Ol.reach_zero hr
      exact (behind_ok (n - base).toNat n most w h (by omega) (by omega) (by omega) hM).mono fun _ _ ⟨u, he, hrow, hg⟩ => ⟨u, he, hrow.items, hg⟩
    · rw [if_neg hr]
      exact (behind_err n most w h (by omega) hr).mono fun _ _ ⟨he, hg⟩ => ⟨_, he, .inl ⟨_, _, rfl, rfl⟩, hg⟩
def Ol.cutout (ls : List Ol.It) (k M j : Nat) : List Ol.It := ((ls.take j).drop k).take M
theorem Ol.cutout_small {ls : List Ol.It} {k M j : Nat} (hj : j < ls.length) (h : j < k) : Ol.cutout ls k M (j + 1) = Ol.cutout ls k M j := by
  unfold Ol.cutout
  rw [List.drop_eq_nil_iff.2 (by rw [List.length_take]; omega), List.drop_eq_nil_iff.2 (by rw [List.length_take]; omega)]
theorem Ol.cutout_full {ls : List Ol.It} {k M j : Nat} (hj : j < ls.length) (h : k ≤ j) (hM : M ≤ (Ol.cutout ls k M j).length) : Ol.cutout ls k M (j + 1) = Ol.cutout ls k M j := by
  unfold Ol.cutout at hM ⊢
  rw [Ol.take_succ hj, List.drop_append_of_le_length (by rw [List.length_take]; omega)]
  have h2 := List.length_take_le' M ((ls.take j).drop k)
  rw [List.take_append_of_le_length (by omega)]
theorem Ol.cutout_more {ls : List Ol.It} {k M j : Nat} (hj : j < ls.length) (h : k ≤ j) (hM : (Ol.cutout ls k M j).length < M) : Ol.cutout ls k M (j + 1) = Ol.cutout ls k M j ++ [ls.getD j Ol.d0] := by
  unfold Ol.cutout at hM ⊢
  have e := List.length_take (i := M) (l := (ls.take j).drop k)
  rw [Ol.take_succ hj, List.drop_append_of_le_length (by rw [List.length_take]; omega), List.take_of_length_le (l := (ls.take j).drop k) (by omega), List.take_of_length_le (by rw [List.length_append, List.length_singleton]; omega)]
theorem Ol.cutout_le (ls : List Ol.It) (k M j : Nat) : (Ol.cutout ls k M j).length ≤ j := by
  unfold Ol.cutout
  rw [List.length_take, List.length_drop, List.length_take]
  omega
namespace Rf
set_option maxHeartbeats 2000000 in
set_option maxRecDepth 100000 in
theorem behind_ok {s : Nat} {base : Int} {v : Value} {ls : List Ol.It} (k M : Nat) (n : Int) (w : World) (h : LogAt w s base v ls) (hr : Ol.reach base ls.length n = 0) (hk : k ≤ ls.length) (hn : n = base + k) : Calls Try.prog 30 #[.pointer (some ⟨s, 0, none⟩), .int .i64 n, .int .i64 M] w fun e w' => ∃ u, e = .returned (.tuple #[u, .int .i64 0]) ∧ ItemsAt w' u ((ls.drop k).take M) ∧ w.grownBy w' none := by
  obtain ⟨i0, hi, hz0, hz1, hz2⟩ := info_parts info32
  have H : Hid (LogAt w s base v ls) := h
  have HR : Hid (Ol.reach base ls.length n = 0) := hr
  have HN : Hid (n = base + k) := hn
  have g0 := h.good.zero
  have g1 := h.good.top
  have g2 := h.good.len
  obtain ⟨m, hmd⟩ : ∃ m, ls.length = m := ⟨_, rfl⟩
  have HM : Hid (ls.length = m) := hmd
  have hM0 : ¬ ((M : Int) < 0) := by omega
  rw [hmd] at g1 g2 hk
  clear h hr hn hmd
  go_enter Try.func30, Try.ntmps30
  go_wp2_with fail
  refine (at_any _ _ H.out).mono ?_
  rintro e w1 ⟨rfl, hg1⟩
  rw [HR.out]
  have HL1 : Hid (LogAt w1 s base v ls) := H.out.still hg1
  have HG1 : Hid (w.grownBy w1 none) := hg1
  obtain ⟨c0, c1⟩ := HL1.out.cells
  obtain ⟨ao, cp, rfl, hx⟩ := HL1.out.open
  have HX : Hid (∀ j, j < ls.length → ∃ b off, ao = some ⟨b, off, none⟩ ∧ b < w1.heap.size ∧ fourAt w1 b (off + j * 4) (ls.getD j Ol.d0)) := hx
  rw [HM.out] at c1
  clear hg1 hx
  go_wp2
  go_loopw [9, 25] (fun u i wr => ∃ j : Nat, j ≤ m ∧ i = .int .i64 j ∧ Row wr w1.heap.size 32 u (Ol.cutout ls k M j) ∧ Hid (Below w1.heap.size w1 wr))
    (fun _ i _ => m - (intOf i).toNat)
  case atStart => exact ⟨0, Nat.zero_le _, rfl, by unfold Ol.cutout; simp; exact Row.nil _ _ _, Below.refl _ _⟩
  case round =>
    obtain ⟨j, hjm, rfl, hrow, HB⟩ := hrel
    by_cases hjl : j < m
    · have hjs : j < ls.length := by have := HM.out; omega
      obtain ⟨b, off, rfl, hb, hf⟩ := HX.out j hjs
      obtain ⟨k0, k1, k2, k3⟩ := hf.below HB.out hb
      have cc0 := (grown_of_below HB.out none).cell c0 (by simp)
      have HCM := @Ol.cutout_more ls k M j hjs
      have HCF := @Ol.cutout_full ls k M j hjs
      have HCS := @Ol.cutout_small ls k M j hjs
      have hcl := Ol.cutout_le ls k M j
      generalize ls.getD j Ol.d0 = x at k0 k1 k2 k3 HCM
      obtain ⟨x0, x1, x2, x3⟩ := x
      simp only at k0 k1 k2 k3
      have cc1 := (World.grownBy_alloc wr (.cells #[.int .i64 x0, .int .i64 x1, .int .i64 x2, .string x3] 32) none).cell cc0 (by simp)
      obtain ⟨pu, cu, hu⟩ := hrow.slice
      generalize Ol.cutout ls k M j = O at hrow hu hcl HCM HCF HCS
      obtain ⟨q, hq⟩ : ∃ q, O.length = q := ⟨_, rfl⟩
      have HQ : Hid (O.length = q) := hq
      rw [hq] at hu hcl HCM HCF
      subst hu
      clear hf hb hq
      by_cases hkj : k ≤ j
      · by_cases hqM : q < M
        · have HC : Hid (Ol.cutout ls k M (j + 1) = O ++ [(x0, x1, x2, x3)]) := HCM hkj hqM
          have hnj : n ≤ base + (j : Int) := by have := HN.out; omega
          have hqI : (q : Int) < (M : Int) := by omega
          have HRW : Hid (Row wr w1.heap.size 32 (.slice pu q cu) O) := hrow
          have hbs := HB.out.size
          have HI : Hid (ItemsAt ((wr.alloc (B4 x0 x1 x2 x3)).alloc (B4 x0 x1 x2 x3)) (.slice (some ⟨wr.heap.size + 1, 0, none⟩) 1 1) [(x0, x1, x2, x3)]) := by
            refine one_item_at _ _ x0 x1 x2 x3 ?_
            have := heap_alloc_new (wr.alloc (B4 x0 x1 x2 x3)) (B4 x0 x1 x2 x3)
            rw [show (wr.alloc (B4 x0 x1 x2 x3)).heap.size = wr.heap.size + 1 by simp] at this
            exact this
          clear HCM HCF HCS hrow
          go_wp2_with (at_builtin; refine wpList_row _ rfl _ _ 33 rfl w1.heap.size 32 i0 (.agg #[.int .i64 0, .int .i64 0, .int .i64 0, .string ⟨#[]⟩]) 40 Try.underlying33 hi hz0 hz1 hz2 rfl (.slice pu q cu) O rfl ((HRW.out.still (World.grownBy_alloc _ _ _)).still (World.grownBy_alloc _ _ _)) _ [(x0, x1, x2, x3)] rfl HI.out (by have := HQ.out; unfold maxLen; simp; omega) (by have := HQ.out; simp; omega) (by simp; omega) ?_; intro v7 w7 hrow7 hg7 hmv7)
          have gA := grown_trans (World.grownBy_alloc wr (B4 x0 x1 x2 x3) none) (World.grownBy_alloc (wr.alloc (B4 x0 x1 x2 x3)) (B4 x0 x1 x2 x3) none)
          have HB7 : Hid (Below w1.heap.size w1 w7) := (HB.out.trans (below_none gA HB.out.size)).grown hg7 (by simp; omega) (fun i hi => (HRW.out.lt i hi).1)
          have HR7 : Hid (Row w7 w1.heap.size 32 v7 (O ++ [(x0, x1, x2, x3)])) := hrow7
          clear hrow7 hg7 hmv7 gA
          go_wp2
          go_roundw
          case rel => exact ⟨j + 1, by omega, by go_num, by rw [HC.out]; exact HR7.out, HB7⟩
          case measure => simp [intOf]; omega
        · have HC : Hid (Ol.cutout ls k M (j + 1) = O) := HCF hkj (by omega)
          have hnj : n ≤ base + (j : Int) := by have := HN.out; omega
          have hqI : ¬ (q : Int) < (M : Int) := by omega
          clear HCM HCF HCS
          go_wp2
          go_roundw
          case rel => exact ⟨j + 1, by omega, by go_num, by rw [HC.out]; exact hrow.still (World.grownBy_alloc _ _ _), HB.out.trans (below_none (World.grownBy_alloc _ _ _) HB.out.size)⟩
          case measure => simp [intOf]; omega
      · have HC : Hid (Ol.cutout ls k M (j + 1) = O) := HCS (by omega)
        have hnj : ¬ n ≤ base + (j : Int) := by have := HN.out; omega
        clear HCM HCF HCS
        go_wp2
        go_roundw
        case rel => exact ⟨j + 1, by omega, by go_num, by rw [HC.out]; exact hrow.still (World.grownBy_alloc _ _ _), HB.out.trans (below_none (World.grownBy_alloc _ _ _) HB.out.size)⟩
        case measure => simp [intOf]; omega
    · obtain rfl : j = m := by omega
      have HE : Hid (ItemsAt wr u9 ((ls.drop k).take M) ∧ w.grownBy wr none) := by
        have hi := hrow.items
        unfold Ol.cutout at hi
        rw [← HM.out, List.take_length] at hi
        exact ⟨hi, grown_trans HG1.out (grown_of_below HB.out none)⟩
      obtain ⟨pu, cu, hu⟩ := hrow.slice
      generalize (Ol.cutout ls k M j).length = q at hu
      subst hu
      clear hrow
      go_wp2
      go_ret2
      exact ⟨_, rfl, HE.out⟩

set_option maxHeartbeats 1000000 in
set_option maxRecDepth 100000 in
theorem behind_any {s : Nat} {base : Int} {v : Value} {ls : List Ol.It} (n most : Int) (w : World) (h : LogAt w s base v ls) : Calls Try.prog 30 #[.pointer (some ⟨s, 0, none⟩), .int .i64 n, .int .i64 most] w fun e w' => ∃ u, e = .returned (.tuple #[u, .int .i64 (Ol.behindErr base ls.length n most)]) ∧ ItemsAt w' u (Ol.behindOf base ls n most) ∧ w.grownBy w' none := by
  unfold Ol.behindErr Ol.behindOf
  by_cases h1 : most < 0
  · rw [if_pos h1, if_pos h1]
    have HG0 : Hid (w.grownBy w none) := grown_refl _ _
    clear h
    go_enter Try.func30, Try.ntmps30
    go_wp2
    go_ret2
    exact ⟨_, rfl, .inl ⟨_, _, rfl, rfl⟩, HG0.out⟩
  · rw [if_neg h1, if_neg h1]
    by_cases hr : Ol.reach base ls.length n = 0
    · rw [if_pos hr, hr]
      obtain ⟨h0, h2, h3⟩ := Ol.reach_zero hr
      have := behind_ok (n - base).toNat most.toNat n w h hr (by omega) (by omega)
      rw [Int.toNat_of_nonneg (by omega : 0 ≤ most)] at this
      exact this
    · rw [if_neg hr]
      have H : Hid (LogAt w s base v ls) := h
      obtain ⟨e0, hee⟩ : ∃ e0, Ol.reach base ls.length n = e0 := ⟨_, rfl⟩
      have HEE : Hid (Ol.reach base ls.length n = e0) := hee
      rw [hee] at hr ⊢
      clear h hee
      go_enter Try.func30, Try.ntmps30
      go_wp2_with fail
      refine (at_any _ _ H.out).mono ?_
      rintro e w1 ⟨rfl, hg1⟩
      rw [HEE.out]
      have HG1 : Hid (w.grownBy w1 none) := hg1
      clear hg1
      go_wp2
      go_ret2
      exact ⟨_, rfl, .inl ⟨_, _, rfl, rfl⟩, HG1.out⟩
end Rf
end Go.Proofs.Ytbjcleeiobaegaa
