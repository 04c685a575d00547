/-
  oplog's Cut, Trim, Behind and Put.
-/
import Derived.Test.YtbjcleeiobaegaaGet
namespace Go.Proofs.Ytbjcleeiobaegaa
open Go.RowKit Go.Shelf

theorem row_set {W : World} {B s : Nat} {e : TypeId} {v : Value} {ls : List Ol.It} (h : Row W B e v ls) (hs : s < B) (o : Nat) (u : Value) : Row (W.setCell ⟨s, o, none⟩ u) B e v ls := by
  have hg : W.grownBy (W.setCell ⟨s, o, none⟩ u) (some s) := ⟨rfl, rfl, rfl, by simp [World.setCell], fun k _ hne => Below.heap_setCell _ _ _ _ (fun e => hne (by rw [e]))⟩
  refine h.kept hg ?_
  cases hv : v.ownBlock with
  | none => exact .inl rfl
  | some j => exact .inr (fun e => by have := (h.lt j hv).1; cases e; omega)
/-- The struct gets another slice. -/
theorem log_put {W : World} {s : Nat} {base : Int} {v u : Value} {ls : List Ol.It} (hb : W.heap[s]? = some (.cells #[.int .i64 base, v] 58 (0, 0))) (hr : Row W (s + 1) 32 u ls) (hg : Ol.Good base ls) : LogAt (W.setCell ⟨s, 1, none⟩ u) s base u ls :=
  ⟨by simp [World.setCell, Array.getElem?_modify, hb], row_set hr (by omega) 1 u, hg⟩
theorem turns_set {w W : World} {s : Nat} {v : Value} (h : Turns w W s v) (o : Nat) (u : Value) : Turns w (W.setCell ⟨s, o, none⟩ u) s v :=
  ⟨h.os, h.tape, h.output, by rw [show (W.setCell ⟨s, o, none⟩ u).heap.size = W.heap.size by simp [World.setCell]]; exact h.size, fun k hk hs hv => (Below.heap_setCell _ _ _ _ hs).trans (h.block k hk hs hv)⟩

set_option maxHeartbeats 400000 in
theorem cut_err {s : Nat} {base : Int} {v : Value} {ls : List Ol.It} (n : Int) (w : World) (h : LogAt w s base v ls) (hn : Ol.reach base ls.length n ≠ 0) : Calls Try.prog 19 #[.pointer (some ⟨s, 0, none⟩), .int .i64 n] w fun e w' => e = .returned (.int .i64 (Ol.reach base ls.length n)) ∧ w.grownBy w' none := by
  have H : Hid (LogAt w s base v ls) := h
  generalize hx : Ol.reach base ls.length n = x at *
  have HX : Hid (Ol.reach base ls.length n = x) := hx
  clear h hx
  go_enter Try.func19, Try.ntmps19
  go_wp2_with fail
  refine (reach_any _ _ H.out).mono ?_
  rintro e w1 ⟨rfl, q, rfl⟩
  rw [HX.out]
  go_wp2
  go_ret
  exact ⟨rfl, grown_drew (grown_refl _ _) q⟩
set_option maxHeartbeats 1000000 in
theorem cut_ok {s : Nat} {base : Int} {v : Value} {ls : List Ol.It} (k : Nat) (n : Int) (w : World) (h : LogAt w s base v ls) (hk : k ≤ ls.length) (hn : n = base + k) : Calls Try.prog 19 #[.pointer (some ⟨s, 0, none⟩), .int .i64 n] w fun e w' => ∃ v', e = .returned (.int .i64 0) ∧ LogAt w' s base v' (ls.take k) ∧ Turns w w' s v ∧ Moves w v v' := by
  have H : Hid (LogAt w s base v ls) := h
  have HK : Hid (k ≤ ls.length ∧ n = base + k) := ⟨hk, hn⟩
  have HR : Hid (Ol.reach base ls.length n = 0) := by
    have := h.good.zero
    show Ol.reach base ls.length n = 0
    unfold Ol.reach
    rw [if_neg (by omega), if_neg (by omega)]
  clear h hk hn
  go_enter Try.func19, Try.ntmps19
  go_wp2_with fail
  refine (reach_any _ _ H.out).mono ?_
  rintro e w1 ⟨rfl, q, hw1⟩
  rw [HR.out]
  have hg1 : w.grownBy w1 none := by rw [hw1]; exact grown_drew (grown_refl _ _) q
  have HL1 : Hid (LogAt w1 s base v ls) := H.out.still hg1
  have HG1 : Hid (w.grownBy w1 none) := hg1
  obtain ⟨c0, c1⟩ := HL1.out.cells
  clear hw1 hg1
  go_wp2_with fail
  refine (between_any 0 k _ _ _ HL1.out (Nat.zero_le _) HK.out.1 (by simp) HK.out.2).mono ?_
  rintro e w2 ⟨u, rfl, hrow, hob, q2, hw2⟩
  obtain ⟨pu, cu, hu⟩ := hrow.slice
  generalize ((ls.take k).drop 0).length = mu at hu
  subst hu
  have hg2 : w1.grownBy w2 none := by rw [hw2]; exact grown_drew (grown_refl _ _) q2
  have hl2 := HL1.out.still hg2
  have HE : Hid (LogAt (w2.setCell ⟨s, 1, none⟩ (.slice pu mu cu)) s base (.slice pu mu cu) (ls.take k) ∧ Turns w (w2.setCell ⟨s, 1, none⟩ (.slice pu mu cu)) s v ∧ Moves w v (.slice pu mu cu)) := by
    refine ⟨log_put hl2.block ?_ (H.out.good.cut k), turns_set (Turns.of_grown (grown_trans HG1.out hg2)) 1 _, .inl hob⟩
    have := hrow.still hg2
    rw [List.drop_zero] at this
    exact this
  have f1 := hl2.free 1
  have c1' := hl2.cells.2
  have hs : s < w2.heap.size := hl2.lt
  clear hrow hob hw2 hg2 hl2
  go_wp2
  go_ret
  exact ⟨_, rfl, HE.out⟩
set_option maxHeartbeats 400000 in
theorem trim_err {s : Nat} {base : Int} {v : Value} {ls : List Ol.It} (n : Int) (w : World) (h : LogAt w s base v ls) (hn : n < 0 ∨ base + ls.length < n) : Calls Try.prog 20 #[.pointer (some ⟨s, 0, none⟩), .int .i64 n] w fun e w' => e = .returned (.int .i64 6) ∧ w.grownBy w' none := by
  have H : Hid (LogAt w s base v ls) := h
  clear h
  by_cases n0 : n < 0
  · clear hn
    go_enter Try.func20, Try.ntmps20
    go_wp2
    go_ret
    exact ⟨rfl, grown_refl _ _⟩
  · have n1 : base + ls.length < n := by omega
    clear hn
    go_enter Try.func20, Try.ntmps20
    go_wp2_with fail
    refine (last_any _ H.out).mono ?_
    rintro e w1 ⟨rfl, q, rfl⟩
    go_wp2
    go_ret
    exact ⟨rfl, grown_drew (grown_refl _ _) q⟩
set_option maxHeartbeats 400000 in
theorem trim_old {s : Nat} {base : Int} {v : Value} {ls : List Ol.It} (n : Int) (w : World) (h : LogAt w s base v ls) (n0 : 0 ≤ n) (n1 : n ≤ base) : Calls Try.prog 20 #[.pointer (some ⟨s, 0, none⟩), .int .i64 n] w fun e w' => e = .returned (.int .i64 0) ∧ w.grownBy w' none := by
  have H : Hid (LogAt w s base v ls) := h
  have n2 : ¬ n < 0 := by omega
  have n3 : ¬ base + ls.length < n := by omega
  have n4 : ¬ base < n := by omega
  clear h
  go_enter Try.func20, Try.ntmps20
  go_wp2_with fail
  refine (last_any _ H.out).mono ?_
  rintro e w1 ⟨rfl, q, hw1⟩
  have hg1 : w.grownBy w1 none := by rw [hw1]; exact grown_drew (grown_refl _ _) q
  have HG1 : Hid (w.grownBy w1 none) := hg1
  obtain ⟨c0, c1⟩ := (H.out.still hg1).cells
  clear hw1 hg1
  go_wp2
  go_ret
  exact ⟨rfl, HG1.out⟩
set_option maxHeartbeats 1000000 in
theorem trim_ok {s : Nat} {base : Int} {v : Value} {ls : List Ol.It} (k : Nat) (n : Int) (w : World) (h : LogAt w s base v ls) (hk : k ≤ ls.length) (h0 : 0 < k) (hn : n = base + k) : Calls Try.prog 20 #[.pointer (some ⟨s, 0, none⟩), .int .i64 n] w fun e w' => ∃ v', e = .returned (.int .i64 0) ∧ LogAt w' s n v' (ls.drop k) ∧ Turns w w' s v ∧ Moves w v v' := by
  have H : Hid (LogAt w s base v ls) := h
  have HK : Hid (k ≤ ls.length ∧ n = base + k) := ⟨hk, hn⟩
  have g0 := h.good.zero
  have n2 : ¬ n < 0 := by omega
  have n3 : ¬ base + ls.length < n := by omega
  have n4 : base < n := by omega
  clear h hk hn h0
  go_enter Try.func20, Try.ntmps20
  go_wp2_with fail
  refine (last_any _ H.out).mono ?_
  rintro e w1 ⟨rfl, q, hw1⟩
  have hg1 : w.grownBy w1 none := by rw [hw1]; exact grown_drew (grown_refl _ _) q
  have HL1 : Hid (LogAt w1 s base v ls) := H.out.still hg1
  have HG1 : Hid (w.grownBy w1 none) := hg1
  obtain ⟨c0, c1⟩ := HL1.out.cells
  clear hw1 hg1
  go_wp2_with fail
  refine (last_any _ HL1.out).mono ?_
  rintro e w2 ⟨rfl, q, hw1⟩
  have hg2 : w1.grownBy w2 none := by rw [hw1]; exact grown_drew (grown_refl _ _) q
  have HL2 : Hid (LogAt w2 s base v ls) := HL1.out.still hg2
  have HG2 : Hid (w.grownBy w2 none) := grown_trans HG1.out hg2
  clear hw1 hg2 HG1 HL1 c0 c1
  go_wp2_with fail
  refine (between_any k ls.length _ _ _ HL2.out HK.out.1 (Nat.le_refl _) HK.out.2 rfl).mono ?_
  rintro e w3 ⟨u, rfl, hrow, hob, q2, hw3⟩
  have hg3 : w2.grownBy w3 none := by rw [hw3]; exact grown_drew (grown_refl _ _) q2
  have HL3 : Hid (LogAt w3 s base v ls) := HL2.out.still hg3
  have HG3 : Hid (w.grownBy w3 none) := grown_trans HG2.out hg3
  rw [List.take_length] at hrow
  have HI : Hid (ItemsAt w3 u (ls.drop k)) := (hrow.still hg3).items
  clear hw3 hg3 HG2 HL2 hrow hob
  go_wp2_with fail
  refine (fresh_any _ _ _ HI.out (by have := HL3.out.good.len; simp; omega)).mono ?_
  rintro e w4 ⟨u', rfl, hrow, hg4⟩
  obtain ⟨pu, cu, hu⟩ := hrow.slice
  generalize (ls.drop k).length = mu at hu
  subst hu
  have hl4 := HL3.out.still hg4
  have hB : s + 1 ≤ w3.heap.size := HL3.out.lt
  have HE : Hid (LogAt ((w4.setCell ⟨s, 1, none⟩ (.slice pu mu cu)).setCell ⟨s, 0, none⟩ (.int .i64 n)) s n (.slice pu mu cu) (ls.drop k) ∧ Turns w ((w4.setCell ⟨s, 1, none⟩ (.slice pu mu cu)).setCell ⟨s, 0, none⟩ (.int .i64 n)) s v ∧ Moves w v (.slice pu mu cu)) := by
    refine ⟨⟨?_, row_set (row_set (hrow.mono hB) (by omega) 1 _) (by omega) 0 _, ?_⟩, turns_set (turns_set (Turns.of_grown (grown_trans HG3.out hg4)) 1 _) 0 _, .inr fun j hj => ?_⟩
    · simp [World.setCell, Array.getElem?_modify, hl4.block]
    · rw [HK.out.2]
      exact H.out.good.trim HK.out.1
    · have := (hrow.lt j hj).1
      have := HG3.out.size
      omega
  have f1 := hl4.free 1
  have f0 := hl4.free 0
  obtain ⟨d0, d1⟩ := hl4.cells
  have hs : s < w4.heap.size := hl4.lt
  clear hrow hg4 hl4 hB
  go_wp2
  go_ret
  exact ⟨_, rfl, HE.out⟩
end Go.Proofs.Ytbjcleeiobaegaa
