/-
  oplog's at, View, reach, between, fresh.
-/
import Derived.Test.YtbjcleeiobaegaaBase
namespace Go.Proofs.Ytbjcleeiobaegaa
open Go.RowKit

def item (x : Ol.It) : Value := .agg #[.int .i64 x.1, .int .i64 x.2.1, .int .i64 x.2.2.1, .string x.2.2.2]
abbrev Z4 : Obj := .cells #[.int .i64 0, .int .i64 0, .int .i64 0, .string ⟨#[]⟩] 32
theorem four_of {w : World} {b : Nat} {x y z u : Value} {t : TypeId} (hb : w.heap[b]? = some (.cells #[x, y, z, u] t (0, 0))) : (w.cell? ⟨b, 0, none⟩ = some x ∧ w.cell? ⟨b, 1, none⟩ = some y ∧ w.cell? ⟨b, 2, none⟩ = some z ∧ w.cell? ⟨b, 3, none⟩ = some u) ∧ ∀ o, w.frozen? ⟨b, o, none⟩ = false := by
  refine ⟨⟨?_, ?_, ?_, ?_⟩, fun o => ?_⟩ <;> simp [World.cell?, World.frozen?, hb]
theorem grown_set4 {w W : World} (h : w.grownBy W none) {b : Nat} (hb : w.heap.size ≤ b) (a0 a1 a2 a3 : Value) : w.grownBy ((((W.setCell ⟨b, 0, none⟩ a0).setCell ⟨b, 1, none⟩ a1).setCell ⟨b, 2, none⟩ a2).setCell ⟨b, 3, none⟩ a3) none :=
  grown_set (grown_set (grown_set (grown_set h hb _) hb _) hb _) hb _

set_option maxHeartbeats 400000 in
theorem at_nil (n : Int) (w : World) : Calls Try.prog 31 #[.pointer none, .int .i64 n] w fun e w' => e = .returned (item Ol.d0) ∧ w.grownBy w' none := by
  by_cases hn : n ≤ 0
  · go_enter Try.func31, Try.ntmps31
    go_wp2_with fail
    refine (base_nil _).mono ?_
    rintro e w2 ⟨rfl, rfl⟩
    go_wp2
    (try simp only [Exit.inBlock, Exit.then])
    refine bodyPost_ret (v := item Ol.d0) ?_ rfl ⟨rfl, ?_⟩
    · unfold item
      simp [results, Try.results31, go_sem]
    · exact World.grownBy_alloc _ _ _
  · have hn' : 0 < n := by omega
    go_enter Try.func31, Try.ntmps31
    go_wp2_with fail
    refine (base_nil _).mono ?_
    rintro e w2 ⟨rfl, rfl⟩
    go_wp2_with fail
    refine (last_nil _).mono ?_
    rintro e w2 ⟨rfl, rfl⟩
    go_wp2
    (try simp only [Exit.inBlock, Exit.then])
    refine bodyPost_ret (v := item Ol.d0) ?_ rfl ⟨rfl, ?_⟩
    · unfold item
      simp [results, Try.results31, go_sem]
    · exact World.grownBy_alloc _ _ _
set_option maxHeartbeats 400000 in
theorem at_out {s : Nat} {base : Int} {v : Value} {ls : List Ol.It} (n : Int) (w : World) (h : LogAt w s base v ls) (hn : n ≤ base ∨ base + ls.length < n) : Calls Try.prog 31 #[.pointer (some ⟨s, 0, none⟩), .int .i64 n] w fun e w' => e = .returned (item Ol.d0) ∧ w.grownBy w' none := by
  have H : Hid (LogAt (w.alloc Z4) s base v ls) := h.still (World.grownBy_alloc _ _ _)
  clear h
  by_cases hn' : n ≤ base
  · clear hn
    go_enter Try.func31, Try.ntmps31
    go_wp2_with fail
    refine (base_any _ H.out).mono ?_
    rintro e w2 ⟨rfl, rfl⟩
    go_wp2
    (try simp only [Exit.inBlock, Exit.then])
    refine bodyPost_ret (v := item Ol.d0) ?_ rfl ⟨rfl, ?_⟩
    · unfold item
      simp [results, Try.results31, go_sem]
    · exact World.grownBy_alloc _ _ _
  · have hn2 : base + ls.length < n := by omega
    clear hn
    go_enter Try.func31, Try.ntmps31
    go_wp2_with fail
    refine (base_any _ H.out).mono ?_
    rintro e w2 ⟨rfl, rfl⟩
    go_wp2_with fail
    refine (last_any _ H.out).mono ?_
    rintro e w2 ⟨rfl, q, rfl⟩
    go_wp2
    (try simp only [Exit.inBlock, Exit.then])
    refine bodyPost_ret (v := item Ol.d0) ?_ rfl ⟨rfl, ?_⟩
    · unfold item
      simp [results, Try.results31, go_sem]
    · exact grown_set4 (grown_drew (World.grownBy_alloc _ _ _) q) (Nat.le_refl _) _ _ _ _
set_option maxHeartbeats 1000000 in
set_option maxRecDepth 100000 in
theorem at_in {s : Nat} {base : Int} {v : Value} {ls : List Ol.It} (k : Nat) (n : Int) (w : World) (h : LogAt w s base v ls) (hk : k < ls.length) (hn : n = base + k + 1) : Calls Try.prog 31 #[.pointer (some ⟨s, 0, none⟩), .int .i64 n] w fun e w' => e = .returned (item (ls.getD k Ol.d0)) ∧ w.grownBy w' none := by
  have H : Hid (LogAt (w.alloc Z4) s base v ls) := h.still (World.grownBy_alloc _ _ _)
  have g0 := h.good.zero
  have g1 := h.good.top
  have g2 := h.good.len
  have n1 : ¬ n ≤ base := by omega
  have n2 : ¬ base + ls.length < n := by omega
  have n3 : n ≤ 1099511627776 := by omega
  have n4 : n - base = k + 1 := by omega
  have HN : Hid (n = base + k + 1) := hn
  clear h hn
  go_enter Try.func31, Try.ntmps31
  go_wp2_with fail
  refine (base_any _ H.out).mono ?_
  rintro e w2 ⟨rfl, rfl⟩
  go_wp2_with fail
  refine (last_any _ H.out).mono ?_
  rintro e w2 ⟨rfl, q, hw2⟩
  have hg : w.grownBy w2 none := by rw [hw2]; exact grown_drew (World.grownBy_alloc _ _ _) q
  have hA : w2.heap[w.heap.size]? = some Z4 := by rw [hw2]; exact heap_alloc_new _ _
  have hL : LogAt w2 s base v ls := by rw [hw2]; exact H.out.still (grown_drew (grown_refl _ _) q)
  clear hw2
  obtain ⟨⟨a0, a1, a2, a3⟩, af⟩ := four_of hA
  obtain ⟨c0, c1⟩ := hL.cells
  have HG : Hid (w.grownBy w2 none) := hg
  have hit := hL.row.items
  rcases hL.row with ⟨_, h0⟩ | ⟨g, off, cap, cur, rfl, _⟩
  · subst h0; simp at hk
  rcases hit with ⟨ao, cap', he, h0⟩ | ⟨b, o, cap', he, _, _, hlc, hcm, hx⟩
  · subst h0; simp at hk
  simp only [Value.slice.injEq, Option.some.injEq, Addr.mk.injEq, and_true, true_and] at he
  obtain ⟨⟨rfl, rfl⟩, rfl⟩ := he
  obtain ⟨r0, r1, r2, r3⟩ := hx k hk
  have hkI : (k : Int) < (ls.length : Int) := by omega
  generalize hxx : ls.getD k Ol.d0 = x at *
  obtain ⟨x0, x1, x2, x3⟩ := x
  simp only at r0 r1 r2 r3
  have hs : ¬ w.heap.size = s := fun e => by have := hL.block; rw [← e, hA] at this; cases this
  have HXX : Hid (ls.getD k Ol.d0 = (x0, x1, x2, x3)) := hxx
  clear hg hA hL hx H hxx HN hlc hcm
  go_wp2
  go_region
  go_wp2
  (try simp only [Exit.inBlock, Exit.then])
  refine bodyPost_ret (v := item (x0, x1, x2, x3)) ?_ rfl ⟨by rw [HXX.out], ?_⟩
  · unfold item
    simp [results, Try.results31, go_sem, a0, a1, a2, a3]
  · exact grown_drew (grown_set4 HG.out (Nat.le_refl _) _ _ _ _) 1

/-- The item of number n, or the zero item. -/
def Ol.at (base : Int) (ls : List Ol.It) (n : Int) : Ol.It := if base < n ∧ n ≤ base + ls.length then ls.getD (n - base - 1).toNat Ol.d0 else Ol.d0
theorem at_any {s : Nat} {base : Int} {v : Value} {ls : List Ol.It} (n : Int) (w : World) (h : LogAt w s base v ls) : Calls Try.prog 31 #[.pointer (some ⟨s, 0, none⟩), .int .i64 n] w fun e w' => e = .returned (item (Ol.at base ls n)) ∧ w.grownBy w' none := by
  unfold Ol.at
  by_cases hn : base < n ∧ n ≤ base + ls.length
  · rw [if_pos hn]
    exact at_in _ n w h (by omega) (by omega)
  · rw [if_neg hn]
    exact at_out n w h (by omega)
theorem field_view (a b c : Int) (d : ByteArray) (w : World) : (Instr.field 32 (.agg #[.int .i64 a, .int .i64 b, .int .i64 c, .string d]) 0).run Try.prog w = .ok (.int .i64 a) w := by kernel_rfl
set_option maxHeartbeats 400000 in
theorem view_nil (w : World) : Calls Try.prog 16 #[.pointer none] w fun e w' => e = .returned (.int .i64 0) ∧ w.grownBy w' none := by
  go_enter Try.func16, Try.ntmps16
  go_wp2_with fail
  refine (last_nil _).mono ?_
  rintro e w2 ⟨rfl, rfl⟩
  go_wp2_with fail
  refine (at_nil _ _).mono ?_
  rintro e w3 ⟨rfl, hg⟩
  have HG : Hid (w2.grownBy w3 none) := hg
  clear hg
  unfold item
  have hfd := fun w => field_view 0 0 0 ⟨#[]⟩ w
  go_wp2
  go_ret
  exact ⟨rfl, HG.out⟩
theorem Ol.at_last (base : Int) (ls : List Ol.It) (_h : 0 ≤ base) : (Ol.at base ls (base + ls.length)).1 = Ol.view 0 ls := by
  unfold Ol.at
  by_cases hl : 0 < ls.length
  · rw [if_pos (by omega), show (base + (ls.length : Int) - base - 1).toNat = ls.length - 1 from by omega]
    have := Ol.view_take (l := ls) (k := ls.length - 1) 0 (by omega)
    rw [show ls.length - 1 + 1 = ls.length from by omega, List.take_length] at this
    exact this.symm
  · have : ls = [] := List.eq_nil_of_length_eq_zero (by omega)
    subst this
    rw [if_neg (by simp)]
    rfl
/-- The view behind which the log goes on behind operation base + k. -/
theorem Ol.at_view {base : Int} {ls : List Ol.It} {k : Nat} (hk : k ≤ ls.length) : (Ol.at base ls (base + k)).1 = Ol.view 0 (ls.take k) := by
  unfold Ol.at
  cases k with
  | zero => rw [if_neg (by simp)]; rfl
  | succ k =>
    rw [if_pos (by omega), show (base + ((k + 1 : Nat) : Int) - base - 1).toNat = k from by omega, Ol.view_take 0 (by omega)]
set_option maxHeartbeats 400000 in
theorem view_any {s : Nat} {base : Int} {v : Value} {ls : List Ol.It} (w : World) (h : LogAt w s base v ls) : Calls Try.prog 16 #[.pointer (some ⟨s, 0, none⟩)] w fun e w' => e = .returned (.int .i64 (Ol.view 0 ls)) ∧ w.grownBy w' none := by
  have H : Hid (LogAt w s base v ls) := h
  have HV : Hid ((Ol.at base ls (base + ls.length)).1 = Ol.view 0 ls) := Ol.at_last base ls h.good.zero
  clear h
  go_enter Try.func16, Try.ntmps16
  go_wp2_with fail
  refine (last_any _ H.out).mono ?_
  rintro e w2 ⟨rfl, q, hw2⟩
  have hg0 : w.grownBy w2 none := by rw [hw2]; exact grown_drew (grown_refl _ _) q
  have HG0 : Hid (w.grownBy w2 none) := hg0
  clear hw2 hg0
  go_wp2_with fail
  refine (at_any _ _ (H.out.still HG0.out)).mono ?_
  rintro e w3 ⟨rfl, hg⟩
  have HG : Hid (w.grownBy w3 none) := grown_trans HG0.out hg
  have hx := HV.out
  generalize Ol.at base ls (base + ls.length) = x at *
  obtain ⟨x0, x1, x2, x3⟩ := x
  have HX : Hid (x0 = Ol.view 0 ls) := hx
  clear hg hx HV
  unfold item
  simp only
  have hfd := fun w => field_view x0 x1 x2 x3 w
  go_wp2
  go_ret
  rw [← HX.out]
  exact ⟨rfl, HG.out⟩
theorem reach_nil (n : Int) (w : World) : Calls Try.prog 33 #[.pointer none, .int .i64 n] w fun e w' => e = .returned (.int .i64 6) ∧ w' = w := by
  go_enter Try.func33, Try.ntmps33
  go_wp2
  go_ret
  exact ⟨rfl, rfl⟩
/-- What is wrong with an operation behind which something is asked. -/
def Ol.reach (base : Int) (len : Nat) (n : Int) : Int := if n < 0 ∨ base + len < n then 6 else if n < base then 50 else 0
set_option maxHeartbeats 400000 in
theorem reach_any {s : Nat} {base : Int} {v : Value} {ls : List Ol.It} (n : Int) (w : World) (h : LogAt w s base v ls) : Calls Try.prog 33 #[.pointer (some ⟨s, 0, none⟩), .int .i64 n] w fun e w' => e = .returned (.int .i64 (Ol.reach base ls.length n)) ∧ ∃ q, w' = w.drewN q := by
  have H : Hid (LogAt w s base v ls) := h
  obtain ⟨c0, c1⟩ := h.cells
  unfold Ol.reach
  by_cases n0 : n < 0
  · rw [if_pos (.inl n0)]
    clear h
    go_enter Try.func33, Try.ntmps33
    go_wp2
    go_ret
    exact ⟨rfl, 0, rfl⟩
  by_cases n1 : base + ls.length < n
  · rw [if_pos (.inr n1)]
    clear h
    go_enter Try.func33, Try.ntmps33
    go_wp2_with fail
    refine (last_any _ H.out).mono ?_
    rintro e w2 ⟨rfl, q, rfl⟩
    go_wp2
    go_ret
    exact ⟨rfl, q, rfl⟩
  rw [if_neg (by omega)]
  by_cases n2 : n < base
  · rw [if_pos n2]
    clear h
    go_enter Try.func33, Try.ntmps33
    go_wp2_with fail
    refine (last_any _ H.out).mono ?_
    rintro e w2 ⟨rfl, q, rfl⟩
    go_wp2
    go_ret
    exact ⟨rfl, q, rfl⟩
  · rw [if_neg n2]
    clear h
    go_enter Try.func33, Try.ntmps33
    go_wp2_with fail
    refine (last_any _ H.out).mono ?_
    rintro e w2 ⟨rfl, q, rfl⟩
    go_wp2
    go_ret
    exact ⟨rfl, q, rfl⟩
end Go.Proofs.Ytbjcleeiobaegaa
