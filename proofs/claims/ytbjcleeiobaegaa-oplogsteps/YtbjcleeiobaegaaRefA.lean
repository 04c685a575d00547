/-
  The reference's log: New, Last, View and at, at any one that stands for a list of items.
-/
import Derived.Test.YtbjcleeiobaegaaNil
import Derived.Test.YtbjcleeiobaegaaKeepsA
import Derived.Deep.CutRange
namespace Go.Proofs.Ytbjcleeiobaegaa
namespace Rf
open Go.RowKit

/-- The struct at block s is a log that begins behind 'base' and has the items ls; v is the slice that holds them. -/
structure LogAt (w : World) (s : Nat) (base : Int) (v : Value) (ls : List Ol.It) : Prop where
  block : w.heap[s]? = some (.cells #[.int .i64 base, v] 43 (0, 0))
  row : Row w (s + 1) 32 v ls
  good : Ol.Good base ls
section
variable {w w' : World} {s : Nat} {base : Int} {v : Value} {ls : List Ol.It}
theorem LogAt.lt (h : LogAt w s base v ls) : s < w.heap.size := (Array.getElem?_eq_some_iff.1 h.block).1
theorem LogAt.below {B : Nat} (h : LogAt w s base v ls) (ht : Turns w w' s v) (hB : B ≤ s) : Below B w w' :=
  ⟨ht.os, ht.tape, ht.output, ht.size, fun k hk => ht.block k (by have := h.lt; omega) (by omega) (fun e => by have := (h.row.lt k e.symm).1; omega)⟩
theorem LogAt.kept {row : Option Nat} (h : LogAt w s base v ls) (hg : w.grownBy w' row) (h1 : some s ≠ row) (h2 : v.ownBlock = none ∨ v.ownBlock ≠ row) : LogAt w' s base v ls := ⟨(hg.block s h.lt h1).trans h.block, h.row.kept hg h2, h.good⟩
theorem LogAt.still (h : LogAt w s base v ls) (hg : w.grownBy w' none) : LogAt w' s base v ls := h.kept hg (by simp) (by cases hv : v.ownBlock <;> simp)
theorem LogAt.cells (h : LogAt w s base v ls) : w.cell? ⟨s, 0, none⟩ = some (.int .i64 base) ∧ w.cell? ⟨s, 1, none⟩ = some v := by
  refine ⟨?_, ?_⟩ <;> simp [World.cell?, h.block]
theorem LogAt.free (h : LogAt w s base v ls) (o : Nat) : w.frozen? ⟨s, o, none⟩ = false := by simp [World.frozen?, h.block]
theorem LogAt.drew (h : LogAt w s base v ls) : LogAt w.drew s base v ls := ⟨h.block, h.row.drew, h.good⟩
end
theorem LogAt.open {w : World} {s : Nat} {base : Int} {v : Value} {ls : List Ol.It} (h : LogAt w s base v ls) : ∃ ao cap, v = .slice ao ls.length cap ∧ ∀ j, j < ls.length → ∃ b off, ao = some ⟨b, off, none⟩ ∧ b < w.heap.size ∧ fourAt w b (off + j * 4) (ls.getD j Ol.d0) := by
  obtain ⟨ao, cap, h1, _, h2⟩ := h.row.items.open
  exact ⟨ao, cap, h1, h2⟩
theorem four_grown {w w' : World} {b o : Nat} {x : Ol.It} (h : fourAt w b o x) (hg : w.grownBy w' none) : fourAt w' b o x := by
  obtain ⟨h0, h1, h2, h3⟩ := h
  exact ⟨hg.cell h0 (by simp), hg.cell h1 (by simp), hg.cell h2 (by simp), hg.cell h3 (by simp)⟩

theorem new_arg {n : Int} (w : World) (h : n < 0 ∨ 1099511627776 < n) : Calls Try.prog 8 #[.int .i64 n] w fun e w' => e = .returned (.tuple #[.pointer none, .int .i64 1]) ∧ w' = w := by
  by_cases h1 : n < 0
  · clear h
    go_enter Try.func8, Try.ntmps8
    go_wp2
    go_ret2
    exact ⟨rfl, rfl⟩
  · have h2 : 1099511627776 < n := by omega
    clear h
    go_enter Try.func8, Try.ntmps8
    go_wp2
    go_ret2
    exact ⟨rfl, rfl⟩
theorem new_ok {n : Int} (w : World) (h0 : 0 ≤ n) (h1 : n ≤ 1099511627776) : Calls Try.prog 8 #[.int .i64 n] w fun e w' => ∃ s, e = .returned (.tuple #[.pointer (some ⟨s, 0, none⟩), .int .i64 0]) ∧ w.heap.size ≤ s ∧ LogAt w' s n (.slice none 0 0) [] ∧ w.grownBy w' none := by
  have H0 : Hid (0 ≤ n ∧ n ≤ 1099511627776) := ⟨h0, h1⟩
  go_enter Try.func8, Try.ntmps8
  go_wp2
  go_ret2
  exact ⟨w.heap.size, rfl, Nat.le_refl _, ⟨heap_alloc_new _ _, Row.nil _ _ _, Ol.good_nil H0.out.1 H0.out.2⟩, World.grownBy_alloc _ _ _⟩
theorem last_any {s : Nat} {base : Int} {v : Value} {ls : List Ol.It} (w : World) (h : LogAt w s base v ls) : Calls Try.prog 15 #[.pointer (some ⟨s, 0, none⟩)] w fun e w' => e = .returned (.int .i64 (base + ls.length)) ∧ ∃ q, w' = w.drewN q := by
  obtain ⟨c0, c1⟩ := h.cells
  obtain ⟨p, cp, rfl⟩ := h.row.slice
  have g0 := h.good.zero
  have g1 := h.good.top
  have g2 := h.good.len
  generalize ls.length = m at *
  clear h
  go_enter Try.func15, Try.ntmps15
  go_wp2
  go_quiet (fail)
  go_wp2
  go_ret
  exact ⟨rfl, _, rfl⟩
theorem last_g {s : Nat} {base : Int} {v : Value} {ls : List Ol.It} (w : World) (h : LogAt w s base v ls) : Calls Try.prog 15 #[.pointer (some ⟨s, 0, none⟩)] w fun e w' => e = .returned (.int .i64 (base + ls.length)) ∧ w.grownBy w' none :=
  (last_any w h).mono fun _ _ ⟨he, q, hq⟩ => ⟨he, by rw [hq]; exact grown_drew (grown_refl _ _) q⟩

set_option maxHeartbeats 1000000 in
set_option maxRecDepth 100000 in
theorem view_any {s : Nat} {base : Int} {v : Value} {ls : List Ol.It} (w : World) (h : LogAt w s base v ls) : Calls Try.prog 17 #[.pointer (some ⟨s, 0, none⟩)] w fun e w' => e = .returned (.int .i64 (Ol.view 0 ls)) ∧ w.grownBy w' none := by
  obtain ⟨_, c1⟩ := h.cells
  obtain ⟨ao, cp, rfl, hx⟩ := h.open
  have HX : Hid (∀ j, j < ls.length → ∃ b off, ao = some ⟨b, off, none⟩ ∧ b < w.heap.size ∧ fourAt w b (off + j * 4) (ls.getD j Ol.d0)) := hx
  obtain ⟨m, hm⟩ : ∃ m, ls.length = m := ⟨_, rfl⟩
  have HM : Hid (ls.length = m) := hm
  have hl : m ≤ 256 := by rw [← hm]; exact h.good.len
  rw [hm] at c1
  clear h hm hx
  go_enter Try.func17, Try.ntmps17
  go_wp2
  go_loopw [3, 11] (fun u i wr => ∃ j : Nat, j ≤ m ∧ i = .int .i64 j ∧ u = .int .i64 (Ol.view 0 (ls.take j)) ∧ Hid (w.grownBy wr none))
    (fun _ i _ => m - (intOf i).toNat)
  case atStart => exact ⟨0, Nat.zero_le _, rfl, rfl, grown_refl _ _⟩
  case round =>
    obtain ⟨j, hjm, rfl, rfl, HG⟩ := hrel
    by_cases hjl : j < m
    · have hjs : j < ls.length := by have := HM.out; omega
      obtain ⟨b, off, rfl, hb, hf⟩ := HX.out j hjs
      obtain ⟨k0, k1, k2, k3⟩ := four_grown hf HG.out
      have HV : Hid (Ol.view 0 (ls.take (j + 1)) = (ls.getD j Ol.d0).1) := Ol.view_take 0 hjs
      generalize ls.getD j Ol.d0 = x at k0 k1 k2 k3 HV
      obtain ⟨x0, x1, x2, x3⟩ := x
      simp only at k0 k1 k2 k3 HV
      clear hf hb
      generalize Ol.view 0 (ls.take j) = vj
      go_wp2
      go_roundw
      case rel => exact ⟨j + 1, by omega, by go_num, by rw [HV.out], grown_trans HG.out (World.grownBy_alloc _ _ _)⟩
      case measure => simp [intOf]; omega
    · obtain rfl : j = m := by omega
      have HV : Hid (Ol.view 0 (ls.take j) = Ol.view 0 ls) := by
        have : Ol.view 0 (ls.take j) = Ol.view 0 ls := by rw [← HM.out, List.take_length]
        exact this
      generalize Ol.view 0 (ls.take j) = vj at HV
      go_wp2
      go_ret
      exact ⟨by rw [← HV.out]; rfl, HG.out⟩

set_option maxHeartbeats 1000000 in
set_option maxRecDepth 100000 in
theorem at_any {s : Nat} {base : Int} {v : Value} {ls : List Ol.It} (n : Int) (w : World) (h : LogAt w s base v ls) : Calls Try.prog 36 #[.pointer (some ⟨s, 0, none⟩), .int .i64 n] w fun e w' => e = .returned (.int .i64 (Ol.reach base ls.length n)) ∧ w.grownBy w' none := by
  have HL : Hid (LogAt w s base v ls) := h
  obtain ⟨m, hm⟩ : ∃ m, ls.length = m := ⟨_, rfl⟩
  have HM : Hid (ls.length = m) := hm
  have HG0 : Hid (w.grownBy w none) := grown_refl _ _
  unfold Ol.reach
  rw [hm]
  clear h hm
  by_cases h0 : n < 0
  · rw [if_pos (.inl h0)]
    go_enter Try.func36, Try.ntmps36
    go_wp2
    go_ret
    exact ⟨rfl, HG0.out⟩
  · by_cases h1 : base + (m : Int) < n
    · rw [if_pos (.inr h1)]
      go_enter Try.func36, Try.ntmps36
      go_wp2_with fail
      refine (last_g _ HL.out).mono ?_
      rintro e w1 ⟨rfl, hg⟩
      have HG : Hid (w.grownBy w1 none) := hg
      clear hg
      rw [HM.out]
      go_wp2
      go_ret
      exact ⟨rfl, HG.out⟩
    · rw [if_neg (by omega)]
      by_cases h2 : n < base
      · rw [if_pos h2]
        go_enter Try.func36, Try.ntmps36
        go_wp2_with fail
        refine (last_g _ HL.out).mono ?_
        rintro e w1 ⟨rfl, hg⟩
        have HG : Hid (w.grownBy w1 none) := hg
        obtain ⟨c0, _⟩ := (HL.out.still hg).cells
        clear hg
        rw [HM.out]
        go_wp2
        go_ret
        exact ⟨rfl, HG.out⟩
      · rw [if_neg h2]
        go_enter Try.func36, Try.ntmps36
        go_wp2_with fail
        refine (last_g _ HL.out).mono ?_
        rintro e w1 ⟨rfl, hg⟩
        have HG : Hid (w.grownBy w1 none) := hg
        obtain ⟨c0, _⟩ := (HL.out.still hg).cells
        clear hg
        rw [HM.out]
        go_wp2
        go_ret
        exact ⟨rfl, HG.out⟩
end Rf
end Go.Proofs.Ytbjcleeiobaegaa
