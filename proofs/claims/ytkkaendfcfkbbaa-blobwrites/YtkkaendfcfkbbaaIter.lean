/-
  blob.within: the iterator that it hands back: what each loop over it is handed.
-/
import Derived.Test.YtkkaendfcfkbbaaBase
import Derived.RangeFuncNested
import Derived.RangeFuncBound
import Derived.RangeFuncCalls
import Derived.RangeFuncLeaves
import Derived.Shelf.Abstract
import Derived.Shelf.RegionOpen
import Derived.OwnWalkIn
import Derived.TacticsInMore
import Derived.LoopNIn
import Derived.LoopIn
import Derived.Deep.RegionHeld3
namespace Go.Proofs.Ytkkaendfcfkbbaa
open Go.RowKit Go.Shelf
attribute [local go_sem] Oper.semAt_some

/-- What lay below n₀, and the three boxes from B on, lie as they lay. -/
structure Kept (n₀ B : Nat) (W W' : World) : Prop where
  size : W.heap.size ≤ W'.heap.size
  block : ∀ k, (k < n₀ ∨ (B ≤ k ∧ k < B + 3)) → k < W.heap.size → W'.heap[k]? = W.heap[k]?
theorem Kept.refl (n₀ B : Nat) (W : World) : Kept n₀ B W W := ⟨Nat.le_refl _, fun _ _ _ => rfl⟩
theorem Kept.trans {n₀ B : Nat} {X Y Z : World} (h : Kept n₀ B X Y) (k : Kept n₀ B Y Z) : Kept n₀ B X Z :=
  ⟨Nat.le_trans h.size k.size, fun i hi hl => (k.block i hi (Nat.lt_of_lt_of_le hl h.size)).trans (h.block i hi hl)⟩
theorem Kept.grown {n₀ B : Nat} {W W' : World} {row : Option Nat} (hg : W.grownBy W' row) (hr : ∀ k, row = some k → n₀ ≤ k ∧ (k < B ∨ B + 3 ≤ k)) : Kept n₀ B W W' :=
  ⟨hg.size, fun k hk hl => hg.block k hl (fun e => by have := hr k e.symm; omega)⟩
theorem Kept.still {n₀ B : Nat} {W W' : World} (hg : W.grownBy W' none) : Kept n₀ B W W' := Kept.grown hg (fun k e => by cases e)
theorem keptK_t {n₀ B : Nat} {X Y Z : World} (h : Kept n₀ B X Y) (k : Kept n₀ B Y Z) : Kept n₀ B X Z := h.trans k
theorem keptK_b {n₀ B : Nat} {w : World} (hn : n₀ ≤ w.heap.size) (hB : B + 3 ≤ w.heap.size) (W : World) (l : Nat) (o o' : Obj) (hl : w.heap.size ≤ l) (_ : W.heap[l]? = some o) (_ : o.isCells = false) (_ : o.isWalk = false) : Kept n₀ B W (W.putObj l o') :=
  Kept.grown (grownBy_putObj' W l o') (fun k e => by cases e; omega)
theorem Kept.cell {n₀ B : Nat} {W W' : World} (h : Kept n₀ B W W') {k o : Nat} (hk : k < n₀ ∨ (B ≤ k ∧ k < B + 3)) (hl : k < W.heap.size) : W'.cell? ⟨k, o, none⟩ = W.cell? ⟨k, o, none⟩ :=
  World.cell?_of_block (a := ⟨k, o, none⟩) (h.block k hk hl)

/-- What the iterator hands over. -/
abbrev In (a b : Int) := { x : Bl.R // a ≤ x.1 ∧ Bl.rend x ≤ b ∧ 0 < x.2.size }
def encs {a b : Int} (x : In a b) : Array Value := #[.agg #[.int .i64 x.1.1, .string x.1.2]]

theorem within_any (v : Value) (a b : Int) (w : World) (hv : ∃ ao n cap, v = .slice ao n cap) :
    Calls Try.prog 23 #[v, .int .i64 a, .int .i64 b] w fun e w' => e = .returned (.func (.func 27) #[] #[.pointer (some ⟨w.heap.size, 0, none⟩), .pointer (some ⟨w.heap.size + 1, 0, none⟩), .pointer (some ⟨w.heap.size + 1 + 1, 0, none⟩)]) ∧
      w' = ((w.alloc (.cells #[v] 22)).alloc (.cells #[.int .i64 a] 3)).alloc (.cells #[.int .i64 b] 3) := by
  obtain ⟨ao, n, cap, rfl⟩ := hv
  go_enter Try.func23, Try.ntmps23
  go_wp2
  go_ret
  exact ⟨rfl, rfl⟩

theorem four_next {w' w'' : World} {R C D : Nat} {x0 x1 x2 x3 : Value} (h : w'.cell? ⟨R, 0, none⟩ = some x0 ∧ w'.cell? ⟨R, 1, none⟩ = some x1 ∧ w'.cell? ⟨C, 0, none⟩ = some x2 ∧ w'.cell? ⟨D, 0, none⟩ = some x3) (hg : w'.grownBy w'' none) :
    w''.cell? ⟨R, 0, none⟩ = some x0 ∧ w''.cell? ⟨R, 1, none⟩ = some x1 ∧ w''.cell? ⟨C, 0, none⟩ = some x2 ∧ w''.cell? ⟨D, 0, none⟩ = some x3 :=
  ⟨hg.cell h.1 (by simp), hg.cell h.2.1 (by simp), hg.cell h.2.2.1 (by simp), hg.cell h.2.2.2 (by simp)⟩

set_option maxRecDepth 100000 in
set_option maxHeartbeats 2000000 in
theorem iter_in (n : Nat) (hn : 1 ≤ n) (lp B n₀ : Nat) (ao : Option Addr) (cap : Nat) (l : List Bl.R) (a b : Int) (hr : Bl.right (-1) l) (J Jx : List (In a b) → World → Prop)
    (W : World) (hn0 : n₀ ≤ W.heap.size) (hB : B + 3 ≤ W.heap.size) (hm : l.length ≤ maxLen)
    (hx : ∀ j, j < l.length → ∃ b off, ao = some ⟨b, off, none⟩ ∧ b < n₀ ∧ W.cell? ⟨b, off + j * 2, none⟩ = some (.int .i64 (l.getD j (0, .empty)).1) ∧ W.cell? ⟨b, off + j * 2 + 1, none⟩ = some (.string (l.getD j (0, .empty)).2))
    (c0 : W.cell? ⟨B, 0, none⟩ = some (.slice ao l.length cap)) (c1 : W.cell? ⟨B + 1, 0, none⟩ = some (.int .i64 a)) (c2 : W.cell? ⟨B + 1 + 1, 0, none⟩ = some (.int .i64 b))
    (hJ : AbidesFrom W.heap.size J)
    (hY : ∀ pre x W1, J pre W1 → pre.length < l.length → YieldAt Fence.wide (n - 1) Try.prog lp (encs x) W1 fun e W' =>
      (e = .returned (.bool true) ∧ J (pre ++ [x]) W' ∧ Kept n₀ B W1 W') ∨ (e = .returned (.bool false) ∧ Jx (pre ++ [x]) W'))
    (h0 : J [] W) :
    CallsIn Fence.wide n Try.prog 27 #[.func (.yield lp) #[] #[], .pointer (some ⟨B, 0, none⟩), .pointer (some ⟨B + 1, 0, none⟩), .pointer (some ⟨B + 1 + 1, 0, none⟩)] W fun e W' => (∃ v, e = .returned v) ∧
      ((∃ ys, ys.map (·.1) = Bl.within a b l ∧ J ys W') ∨ (∃ pre, True ∧ Jx pre W')) := by
  unfold maxLen at hm
  obtain ⟨m, hml⟩ : ∃ m, l.length = m := ⟨_, rfl⟩
  rw [hml] at hm hx c0 hY
  refine callsIn_of_wp Try.func27 rfl trivial ?_ rfl
  simp only [Try.ntmps27, List.size_toArray, List.length_cons, List.length_nil, Nat.reduceAdd, Nat.reduceSub, Array.replicate_succ, Array.replicate_zero, List.push_toArray, List.append_toArray, List.nil_append, List.cons_append]
  gi_wp2
  gi_loopw [11] (fun i wr => ∃ (k : Nat) (pre : List (In a b)), k ≤ m ∧ i = .int .i64 k ∧ pre.map (·.1) = Bl.within a b (l.take k) ∧ J pre wr ∧ Kept n₀ B W wr)
    (fun i _ => m - (intOf i).toNat)
  case atStart => exact ⟨0, [], Nat.zero_le _, rfl, rfl, h0, Kept.refl _ _ _⟩
  case round =>
    obtain ⟨k, pre, hk, rfl, hpre, hJs, hkp⟩ := hrel
    have hsz := hkp.size
    have e1 := (hkp.cell (k := B + 1) (o := 0) (.inr ⟨by omega, by omega⟩) (by omega)).trans c1
    have e2 := (hkp.cell (k := B + 1 + 1) (o := 0) (.inr ⟨by omega, by omega⟩) (by omega)).trans c2
    by_cases hlt : k < m
    · obtain ⟨bb, off, rfl, hbb, d0, d1⟩ := hx k hlt
      rw [← hkp.cell (k := bb) (.inl hbb) (by omega)] at d0 d1
      have HX : Hid (l.getD k (0, .empty) = l.getD k (0, .empty)) := rfl
      obtain ⟨x, hxk⟩ : ∃ x, l.getD k (0, .empty) = x := ⟨_, rfl⟩
      rw [hxk] at d0 d1
      obtain ⟨xa, xs⟩ := x
      simp only at d0 d1
      have hmem : (xa, xs) ∈ l := by rw [← hxk]; simp [List.getD, hml, hlt]
      obtain ⟨q0, q1, q2⟩ := Bl.right_mem hr _ hmem
      unfold Bl.rend at q2
      simp only at q0 q1 q2
      replace q2 : xa + (xs.size : Int) ≤ 1048576 := q2
      have hlt' : (k : Int) < (m : Int) := by omega
      clear hx
      obtain ⟨mx, hmx⟩ : ∃ mx, (if xa < a then a else xa) = mx := ⟨_, rfl⟩
      obtain ⟨mn, hmn⟩ : ∃ mn, (if b < xa + (xs.size : Int) then b else xa + (xs.size : Int)) = mn := ⟨_, rfl⟩
      have HS : Hid ((wr.alloc (BR xa xs)).cell? ⟨wr.heap.size, 0, none⟩ = some (.int .i64 xa) ∧ (wr.alloc (BR xa xs)).cell? ⟨wr.heap.size, 1, none⟩ = some (.string xs) ∧ (wr.alloc (BR xa xs)).cell? ⟨B + 1, 0, none⟩ = some (.int .i64 a) ∧ (wr.alloc (BR xa xs)).cell? ⟨B + 1 + 1, 0, none⟩ = some (.int .i64 b)) := ⟨by simp, by simp, (World.grownBy_alloc wr _ none).cell e1 (by simp), (World.grownBy_alloc wr _ none).cell e2 (by simp)⟩
      have HK : Hid (Kept n₀ B W wr ∧ J pre wr ∧ pre.map (·.1) = Bl.within a b (l.take k)) := ⟨hkp, hJs, hpre⟩
      clear e1 e2 c0 c1 c2 hkp hJs hpre
      gi_wp2
      refine wpIn_wide.2 ?_
      obtain ⟨w1, hw1⟩ : ∃ w1, wr.alloc (BR xa xs) = w1 := ⟨_, rfl⟩
      obtain ⟨R, hR⟩ : ∃ R, wr.heap.size = R := ⟨_, rfl⟩
      rw [hw1, hR] at HS ⊢
      go_region_held3 (fun w' => w'.cell? ⟨R, 0, none⟩ = some (.int .i64 xa) ∧ w'.cell? ⟨R, 1, none⟩ = some (.string xs) ∧ w'.cell? ⟨B + 1, 0, none⟩ = some (.int .i64 a) ∧ w'.cell? ⟨B + 1 + 1, 0, none⟩ = some (.int .i64 b)) (first | exact HS.out | assumption | exact four_next (by assumption) (by assumption)) (first | (go_at_call 22; refine (end_grow xa xs _ (by omega) (by omega)).mono ?_; rintro e w2 ⟨rfl, hg2⟩))
      all_goals
        as_aux_lemma =>
        obtain ⟨f0, f1, f2, f3⟩ : w2.cell? ⟨R, 0, none⟩ = some (.int .i64 xa) ∧ w2.cell? ⟨R, 1, none⟩ = some (.string xs) ∧ w2.cell? ⟨B + 1, 0, none⟩ = some (.int .i64 a) ∧ w2.cell? ⟨B + 1 + 1, 0, none⟩ = some (.int .i64 b) := by assumption
        have HG : Hid (wr.grownBy w2 none) := by
          have h1 : wr.grownBy w1 none := by rw [← hw1]; exact World.grownBy_alloc _ _ _
          exact grown_trans h1 ⟨hg2.os, hg2.tape, hg2.output, hg2.size, hg2.block⟩
        have HJ2 : Hid (J pre w2) := hJ _ _ _ none HK.out.2.1 HG.out (fun r e => by cases e)
        have HK2 : Hid (Kept n₀ B W w2) := HK.out.1.trans (Kept.still HG.out)
        have HPL : Hid (pre.length < m) := by
          have h1 := congrArg List.length HK.out.2.2
          have h2 : (Bl.within a b (l.take k)).length ≤ (l.take k).length := List.length_filterMap_le _ _
          simp only [List.length_map, List.length_take] at h1 h2
          show pre.length < m
          omega
        have HCL : Hid (Bl.within a b (l.take (k + 1)) = Bl.within a b (l.take k) ++ (Bl.clip a b (xa, xs)).toList) := by
          show Bl.within a b (l.take (k + 1)) = _
          rw [Bl.take_succ l (by omega) hxk, Bl.within_snoc]
        have HMX : Hid (mx = max xa a ∧ mn = min (xa + xs.size) b) := by
          refine ⟨?_, ?_⟩
          · rw [← hmx]; split <;> omega
          · rw [← hmn]; split <;> omega
        have HPR : Hid (pre.map (·.1) = Bl.within a b (l.take k)) := HK.out.2.2
        have HXK := hxk
        clear hg2 hw1 HS HK hmx hmn hxk HX
        by_cases hge : mn ≤ mx
        · have HC0 : Hid (Bl.clip a b (xa, xs) = none) := by
            show Bl.clip a b (xa, xs) = none
            unfold Bl.clip Bl.rend
            rw [if_neg (by have := HMX.out; simp only; omega)]
          gi_wp2
          go_roundw
          case rel => exact ⟨k + 1, pre, by omega, by go_num, by rw [HCL.out, HC0.out]; simpa using HPR.out, HJ2.out, HK2.out⟩
          case measure => simp [intOf]; omega
        · obtain ⟨p, hp⟩ := Int.eq_ofNat_of_zero_le (show 0 ≤ mx - xa by have := HMX.out; omega)
          obtain ⟨q, hq⟩ := Int.eq_ofNat_of_zero_le (show 0 ≤ mn - xa by have := HMX.out; omega)
          have hpq : p < q := by omega
          have hqs : q ≤ xs.size := by have := HMX.out; omega
          have HC1 : Hid (Bl.clip a b (xa, xs) = some (mx, xs.extract p q)) := by
            show Bl.clip a b (xa, xs) = some (mx, xs.extract p q)
            have h1 := HMX.out
            unfold Bl.clip Bl.rend
            simp only
            rw [if_pos (by omega), ← h1.1, ← h1.2, hp, hq]
            simp
          obtain ⟨y, hy⟩ : ∃ y : In a b, y.1 = (mx, xs.extract p q) := by
            obtain ⟨g1, g2, g3⟩ := Bl.clip_some HC1.out
            exact ⟨⟨(mx, xs.extract p q), by simp only at g1 ⊢; omega, by rw [g2]; omega, g3⟩, rfl⟩
          obtain ⟨fn, tmps, assign, body, hyy, hR2⟩ := hY pre y w2 HJ2.out HPL.out
          unfold encs at hyy
          rw [hy] at hyy
          simp only at hyy
          have HYE : Hid (y.1 = (mx, xs.extract p q)) := hy
          clear hy
          have hpq' : (p : Int) ≤ (q : Int) := by omega
          have hqs' : (q : Int) ≤ (xs.size : Int) := by omega
          gi_wp2
          refine hR2.mono ?_
          rintro e W3 (⟨rfl, hJ3, hk3⟩ | ⟨rfl, hJx3⟩)
          · gi_wp2
            go_roundw
            case rel => exact ⟨k + 1, pre ++ [y], by omega, by go_num, by rw [HCL.out, HC1.out, List.map_append, HPR.out]; simp [HYE.out], hJ3, HK2.out.trans hk3⟩
            case measure => simp [intOf]; omega
          · gi_wp2
            refine bodyPost_ret (results_none rfl _ _ _) rfl ?_
            exact ⟨⟨_, rfl⟩, .inr ⟨_, trivial, hJx3⟩⟩
    · obtain rfl : k = m := by omega
      gi_wp2
      go_end0
      exact ⟨⟨_, rfl⟩, .inl ⟨pre, by rw [hpre, ← hml, List.take_length], hJs⟩⟩
end Go.Proofs.Ytkkaendfcfkbbaa
