/-
  For any base and any slice of steps sextonlaw05.OplogSteps returns true, whatever the memory: step by step the log answers as the reference. No condition.
-/
import Derived.Test.YtbjcleeiobaegaaDoes
import Derived.Test.YtbjcleeiobaegaaOpen
import Derived.Test.YtbjcleeiobaegaaTwo
import Derived.Test.YtbjcleeiobaegaaLaw
namespace Go.Proofs.Ytbjcleeiobaegaa
open Go.ChangeShapes Go.WideShapes Go.ChangeAt Go.RowKit Go.Deep

theorem guard32 : Try.prog.eqGuardType Try.prog.depth 32 = false := by kernel_rfl
theorem neq_item (x0 x1 x2 : Int) (x3 : ByteArray) (w : World) : (binOp .neq 32 (.agg #[.int .i64 x0, .int .i64 x1, .int .i64 x2, .string x3]) (.agg #[.int .i64 x0, .int .i64 x1, .int .i64 x2, .string x3])).run Try.prog w = .ok (.bool false) w := by
  have u3 := Try.underlying3
  have u9 := Try.underlying9
  have hS : Try.prog.underlying 32 = some (.struct (Try.prog.fieldsOf 32)) := by kernel_rfl
  have hp : Try.prog.stoodInHeld 32 = false := by kernel_rfl
  rw [run_neq_struct, show (10000 : Nat) = 9999 + 1 from rfl, run_equalIn_agg w 9999 32 _ _ hS hp]
  simp only [Program.fieldsOf, Try.underlying32]
  go_simp
theorem base_g {s : Nat} {base : Int} {v : Value} {ls : List Ol.It} (w : World) (h : LogAt w s base v ls) : Calls Try.prog 13 #[.pointer (some ⟨s, 0, none⟩)] w fun e w' => e = .returned (.int .i64 base) ∧ w.grownBy w' none :=
  (base_any w h).mono fun _ _ ⟨he, hw⟩ => ⟨he, by rw [hw]; exact grown_refl _ _⟩

set_option maxHeartbeats 4000000 in
set_option maxRecDepth 100000 in
theorem steps_ok (ao : Option Addr) (cap : Nat) (l : List St) (b0 : Int) (w : World) (h1 : 0 ≤ b0) (h2 : b0 ≤ 1099511627776) (h400 : l.length ≤ 400)
    (hx : ∀ j, j < l.length → ∃ b off, ao = some ⟨b, off, none⟩ ∧ b < w.heap.size ∧ eightAt w b (off + j * 8) (l.getD j default) ∧ stOk2 w (l.getD j default)) :
    Calls Try.prog 3 #[.int .i64 b0, .slice ao l.length cap] w fun e w' => e = .returned (.bool true) ∧ Below w.heap.size w w' := by
  obtain ⟨n, hn⟩ : ∃ n, l.length = n := ⟨_, rfl⟩
  rw [hn] at hx h400 ⊢
  have HX : Hid (∀ j, j < n → ∃ b off, ao = some ⟨b, off, none⟩ ∧ b < w.heap.size ∧ eightAt w b (off + j * 8) (l.getD j default) ∧ stOk2 w (l.getD j default)) := hx
  have h4' : ¬ ((400 : Int) < (n : Int)) := by omega
  have HN1 : Hid (0 ≤ b0 ∧ b0 ≤ 1099511627776) := ⟨h1, h2⟩
  clear hn hx h1 h2
  go_enter Try.func3, Try.ntmps3
  go_wp2_with fail
  refine (new_ok _ HN1.out.1 HN1.out.2).mono ?_
  rintro e w1 ⟨s, rfl, hs, hp1, hg1⟩
  have HP1 : Hid (LogAt w1 s b0 (.slice none 0 0) []) := hp1
  have HG1 : Hid (w.grownBy w1 none) := hg1
  clear hp1 hg1
  go_wp2_with fail
  refine (Rf.new_ok _ HN1.out.1 HN1.out.2).mono ?_
  rintro e w2 ⟨r, rfl, hr, hp2, hg2⟩
  have HB2 : Hid (Both w2 s r b0 (.slice none 0 0) (.slice none 0 0) []) := ⟨HP1.out.still hg2, hp2, fun j hj => by simp [Value.ownBlock] at hj⟩
  have HW2 : Hid (Below w.heap.size w w2) := below_none (grown_trans HG1.out hg2) (Nat.le_refl _)
  have HSR : Hid (w.heap.size ≤ s ∧ w.heap.size ≤ r) := ⟨hs, Nat.le_trans HG1.out.size hr⟩
  clear hp2 hg2 hs hr HP1 HG1
  go_wp2
  go_loopw [45] (fun i wr => ∃ (k : Nat) (base : Int) (v u : Value) (ls : List Ol.It), k ≤ n ∧ i = .int .i64 k ∧ Hid (Both wr s r base v u ls) ∧ Hid (Below w.heap.size w wr))
    (fun i _ => n - (intOf i).toNat)
  case atStart => exact ⟨0, _, _, _, [], Nat.zero_le _, rfl, HB2, HW2⟩
  case round =>
    clear HB2 HW2
    obtain ⟨k, base, v, u, ls, hkn, rfl, HB, HW⟩ := hrel
    by_cases hlt : k < n
    · obtain ⟨b, off, rfl, hbw, hf, hok⟩ := HX.out k hlt
      obtain ⟨c0, c1, c2, c3, c4, c5, c6, c7⟩ := hf.below HW.out hbw
      obtain ⟨_, hm2, p, lm, lc, xs, hvl, hxi, hxz⟩ := hok
      generalize l.getD k default = st at c0 c1 c2 c3 c4 c5 c6 c7 hm2 hvl hxi
      obtain ⟨x0, x1, x2, ⟨y0, y1, y2, y3⟩, vl⟩ := st
      simp only at c0 c1 c2 c3 c4 c5 c6 c7 hm2 hvl hxi
      subst hvl
      have ga := World.grownBy_alloc wr (.cells #[.int .i64 x0, .int .i64 x1, .int .i64 x2, .int .i64 y0, .int .i64 y1, .int .i64 y2, .string y3, .slice p lm lc] 35) none
      have HBb : Hid (Both (wr.alloc (.cells #[.int .i64 x0, .int .i64 x1, .int .i64 x2, .int .i64 y0, .int .i64 y1, .int .i64 y2, .string y3, .slice p lm lc] 35)) s r base v u ls) := HB.out.still ga
      have HWb : Hid (Below w.heap.size w (wr.alloc (.cells #[.int .i64 x0, .int .i64 x1, .int .i64 x2, .int .i64 y0, .int .i64 y1, .int .i64 y2, .string y3, .slice p lm lc] 35))) := HW.out.trans (below_none ga HW.out.size)
      have HXb : Hid ((wr.alloc (.cells #[.int .i64 x0, .int .i64 x1, .int .i64 x2, .int .i64 y0, .int .i64 y1, .int .i64 y2, .string y3, .slice p lm lc] 35)).heap[wr.heap.size]? = some (.cells #[.int .i64 x0, .int .i64 x1, .int .i64 x2, .int .i64 y0, .int .i64 y1, .int .i64 y2, .string y3, .slice p lm lc] 35 (0, 0))) := heap_alloc_new _ _
      have HII : Hid (∀ W, Below w.heap.size (wr.alloc (.cells #[.int .i64 x0, .int .i64 x1, .int .i64 x2, .int .i64 y0, .int .i64 y1, .int .i64 y2, .string y3, .slice p lm lc] 35)) W → ItemsAt W (.slice p lm lc) xs) := fun W hW => hxi.below (HWb.out.trans hW) (Nat.le_refl _)
      have HZZ : Hid (xs.length ≤ 3518437208880 ∧ x2 ≤ 9223372036854775807) := ⟨hxz, hm2⟩
      clear ga hbw hf hm2 hxi hxz
      go_wp2_with fail
      refine (does_any x0 x1 x2 y0 y1 y2 y3 p lm lc _ HBb.out xs w.heap.size HSR.out.1 HII.out HZZ.out.1 HZZ.out.2).mono ?_
      rintro e w5 ⟨rfl, base', v', u', ls', hb5, hw5, hk5⟩
      have HB5 : Hid (Both w5 s r base' v' u' ls') := hb5
      have HW5 : Hid (Below w.heap.size w w5) := HWb.out.trans (hw5 _ HSR.out.1 HSR.out.2)
      have HX5 : Hid (w5.heap[wr.heap.size]? = some (.cells #[.int .i64 x0, .int .i64 x1, .int .i64 x2, .int .i64 y0, .int .i64 y1, .int .i64 y2, .string y3, .slice p lm lc] 35 (0, 0))) := hk5 _ _ HXb.out
      clear hb5 hw5 hk5 HBb HWb HXb HII HZZ HB HW c0 c1 c2 c3 c4 c5 c6 c7
      generalize wr.heap.size = X at HX5 ⊢
      obtain ⟨d0, d1, d2, d3, d4, d5, d6, d7⟩ := eight_all HX5.out
      go_wp2_with fail
      refine (get_any x1 _ HB5.out.code).mono ?_
      rintro e w6 ⟨rfl, hg6⟩
      obtain ⟨z, hz⟩ : ∃ z, Ol.at base' ls' x1 = z := ⟨_, rfl⟩
      have HZ : Hid (Ol.at base' ls' x1 = z) := hz
      rw [hz]
      clear hz
      obtain ⟨z0, z1, z2, z3⟩ := z
      have ga := grown_trans hg6 (World.grownBy_alloc w6 (.cells #[.int .i64 z0, .int .i64 z1, .int .i64 z2, .string z3] 32) none)
      have HX7 : Hid ((w6.alloc (.cells #[.int .i64 z0, .int .i64 z1, .int .i64 z2, .string z3] 32)).heap[X]? = some (.cells #[.int .i64 x0, .int .i64 x1, .int .i64 x2, .int .i64 y0, .int .i64 y1, .int .i64 y2, .string y3, .slice p lm lc] 35 (0, 0))) := (ga.block X (Array.getElem?_eq_some_iff.1 HX5.out).1 (by simp)).trans HX5.out
      have HA7 : Hid ((w6.alloc (.cells #[.int .i64 z0, .int .i64 z1, .int .i64 z2, .string z3] 32)).heap[w6.heap.size]? = some (.cells #[.int .i64 z0, .int .i64 z1, .int .i64 z2, .string z3] 32 (0, 0))) := heap_alloc_new _ _
      have HG7 : Hid (w5.grownBy (w6.alloc (.cells #[.int .i64 z0, .int .i64 z1, .int .i64 z2, .string z3] 32)) none) := ga
      unfold item
      simp only
      clear hg6 ga d0 d1 d2 d3 d4 d5 d6 d7
      go_upto_region 13 with fail
      generalize w6.alloc (.cells #[.int .i64 z0, .int .i64 z1, .int .i64 z2, .string z3] 32) = w7 at HX7 HA7 HG7 ⊢
      generalize w6.heap.size = A at HA7 ⊢
      obtain ⟨d0, d1, d2, d3, d4, d5, d6, d7⟩ := eight_all HX7.out
      go_wp2_with fail
      refine (Rf.get_any x1 _ (HB5.out.ref.still HG7.out)).mono ?_
      rintro e w8 ⟨rfl, hg8⟩
      rw [HZ.out]
      have gb := grown_trans hg8 (World.grownBy_alloc w8 (.cells #[.int .i64 z0, .int .i64 z1, .int .i64 z2, .string z3] 32) none)
      have HA9 : Hid ((w8.alloc (.cells #[.int .i64 z0, .int .i64 z1, .int .i64 z2, .string z3] 32)).heap[A]? = some (.cells #[.int .i64 z0, .int .i64 z1, .int .i64 z2, .string z3] 32 (0, 0))) := (gb.block A (Array.getElem?_eq_some_iff.1 HA7.out).1 (by simp)).trans HA7.out
      have HD9 : Hid ((w8.alloc (.cells #[.int .i64 z0, .int .i64 z1, .int .i64 z2, .string z3] 32)).heap[w8.heap.size]? = some (.cells #[.int .i64 z0, .int .i64 z1, .int .i64 z2, .string z3] 32 (0, 0))) := heap_alloc_new _ _
      have HG9 : Hid (w5.grownBy (w8.alloc (.cells #[.int .i64 z0, .int .i64 z1, .int .i64 z2, .string z3] 32)) none) := grown_trans HG7.out gb
      unfold item
      simp only
      clear hg8 gb d0 d1 d2 d3 d4 d5 d6 d7
      generalize Ol.getErr base' ls'.length x1 = ge
      go_upto_region 14 with fail
      generalize w8.alloc (.cells #[.int .i64 z0, .int .i64 z1, .int .i64 z2, .string z3] 32) = w9 at HA9 HD9 HG9 ⊢
      generalize w8.heap.size = D at HD9 ⊢
      have HB9 : Hid (Both w9 s r base' v' u' ls') := HB5.out.still HG9.out
      have HW9 : Hid (Below w.heap.size w w9) := HW5.out.trans (below_none HG9.out HW5.out.size)
      have hcA : ∀ p : Grw w9, p.out.cell? ⟨A, 0, none⟩ = some (.int .i64 z0) := fun p => p.grown.cell (four_of HA9.out).1.1 (by simp)
      have hcB : ∀ p : Grw w9, p.out.cell? ⟨A, 1, none⟩ = some (.int .i64 z1) := fun p => p.grown.cell (four_of HA9.out).1.2.1 (by simp)
      have hcC : ∀ p : Grw w9, p.out.cell? ⟨A, 2, none⟩ = some (.int .i64 z2) := fun p => p.grown.cell (four_of HA9.out).1.2.2.1 (by simp)
      have hcD : ∀ p : Grw w9, p.out.cell? ⟨A, 3, none⟩ = some (.string z3) := fun p => p.grown.cell (four_of HA9.out).1.2.2.2 (by simp)
      have hdA : ∀ p : Grw w9, p.out.cell? ⟨D, 0, none⟩ = some (.int .i64 z0) := fun p => p.grown.cell (four_of HD9.out).1.1 (by simp)
      have hdB : ∀ p : Grw w9, p.out.cell? ⟨D, 1, none⟩ = some (.int .i64 z1) := fun p => p.grown.cell (four_of HD9.out).1.2.1 (by simp)
      have hdC : ∀ p : Grw w9, p.out.cell? ⟨D, 2, none⟩ = some (.int .i64 z2) := fun p => p.grown.cell (four_of HD9.out).1.2.2.1 (by simp)
      have hdD : ∀ p : Grw w9, p.out.cell? ⟨D, 3, none⟩ = some (.string z3) := fun p => p.grown.cell (four_of HD9.out).1.2.2.2 (by simp)
      have hrb : ∀ p : Grw w9, p.out.cell? ⟨r, 0, none⟩ = some (.int .i64 base') := fun p => p.grown.cell HB9.out.ref.cells.1 (by simp)
      have hneq : ∀ W, (binOp .neq 32 (.agg #[.int .i64 z0, .int .i64 z1, .int .i64 z2, .string z3]) (.agg #[.int .i64 z0, .int .i64 z1, .int .i64 z2, .string z3])).run Try.prog W = .ok (.bool false) W := fun W => neq_item z0 z1 z2 z3 W
      have hgu := guard32
      have hne9 : Nonempty (Grw w9) := grw_some w9
      obtain ⟨la, hla⟩ : ∃ la, base' + (ls'.length : Int) = la := ⟨_, rfl⟩
      have HLA : Hid (base' + (ls'.length : Int) = la) := hla
      obtain ⟨vw, hvw⟩ : ∃ vw, Ol.view 0 ls' = vw := ⟨_, rfl⟩
      have HVW : Hid (Ol.view 0 ls' = vw) := hvw
      have HC14 : Hid (∀ W, w9.grownBy W none → Calls Try.prog 14 #[.pointer (some ⟨s, 0, none⟩)] W fun e w' => e = .returned (.int .i64 la) ∧ W.grownBy w' none) := fun W hW => by
        have := last_g W (HB9.out.code.still hW)
        rw [HLA.out] at this
        exact this
      have HC15 : Hid (∀ W, w9.grownBy W none → Calls Try.prog 15 #[.pointer (some ⟨r, 0, none⟩)] W fun e w' => e = .returned (.int .i64 la) ∧ W.grownBy w' none) := fun W hW => by
        have := Rf.last_g W (HB9.out.ref.still hW)
        rw [HLA.out] at this
        exact this
      have HC16 : Hid (∀ W, w9.grownBy W none → Calls Try.prog 16 #[.pointer (some ⟨s, 0, none⟩)] W fun e w' => e = .returned (.int .i64 vw) ∧ W.grownBy w' none) := fun W hW => by
        have := view_any W (HB9.out.code.still hW)
        rw [HVW.out] at this
        exact this
      have HC17 : Hid (∀ W, w9.grownBy W none → Calls Try.prog 17 #[.pointer (some ⟨r, 0, none⟩)] W fun e w' => e = .returned (.int .i64 vw) ∧ W.grownBy w' none) := fun W hW => by
        have := Rf.view_any W (HB9.out.ref.still hW)
        rw [HVW.out] at this
        exact this
      clear hla hvw
      refine wp_region_grw (by kernel_rfl) (by kernel_rfl) ?_
      repeat (go_big_quiet_step (first | (go_at_call 13; refine calls_grw (Grw.grown _) (base_g _ (HB9.out.code.still (Grw.grown _)))) | (go_at_call 14; refine calls_grw (Grw.grown _) (HC14.out _ (Grw.grown _))) | (go_at_call 15; refine calls_grw (Grw.grown _) (HC15.out _ (Grw.grown _))) | (go_at_call 16; refine calls_grw (Grw.grown _) (HC16.out _ (Grw.grown _))) | (go_at_call 17; refine calls_grw (Grw.grown _) (HC17.out _ (Grw.grown _)))))
      refine wpQuiet_nil ?_
      intro wq hwq
      have hgq : w9.grownBy wq none := by
        obtain ⟨p, rfl⟩ := hwq
        exact p.grown
      have HBq : Hid (Both wq s r base' v' u' ls') := HB9.out.still hgq
      have HWq : Hid (Below w.heap.size w wq) := HW9.out.trans (below_none hgq HW9.out.size)
      clear hgu hgq hwq hcA hcB hcC hcD hdA hdB hdC hdD hrb hneq
      go_wp2
      go_roundw
      case rel => exact ⟨k + 1, base', v', u', ls', by omega, by go_num, HBq, HWq⟩
      case measure => simp [intOf]; omega
    · obtain rfl : k = n := by omega
      go_wp2_with fail
      refine (two_any _).mono ?_
      rintro e w9 ⟨rfl, hg9⟩
      have HB9 : Hid (Below w.heap.size w w9) := HW.out.trans (below_none hg9 HW.out.size)
      clear hg9
      go_wp2
      go_ret
      exact ⟨rfl, HB9.out⟩

set_option maxHeartbeats 1000000 in
set_option maxRecDepth 100000 in
theorem steps_long (p : Option Addr) (n cap : Nat) (b0 : Int) (w : World) (h1 : 0 ≤ b0) (h2 : b0 ≤ 1099511627776) (h : 400 < n) : Calls Try.prog 3 #[.int .i64 b0, .slice p n cap] w fun e w' => e = .returned (.bool true) ∧ Below w.heap.size w w' := by
  have h' : (400 : Int) < (n : Int) := by omega
  have HN1 : Hid (0 ≤ b0 ∧ b0 ≤ 1099511627776) := ⟨h1, h2⟩
  clear h1 h2
  go_enter Try.func3, Try.ntmps3
  go_wp2_with fail
  refine (new_ok _ HN1.out.1 HN1.out.2).mono ?_
  rintro e w1 ⟨s, rfl, hs, hp1, hg1⟩
  have HG1 : Hid (w.grownBy w1 none) := hg1
  clear hp1 hg1
  go_wp2_with fail
  refine (Rf.new_ok _ HN1.out.1 HN1.out.2).mono ?_
  rintro e w2 ⟨r, rfl, hr, hp2, hg2⟩
  have HG2 : Hid (w.grownBy w2 none) := grown_trans HG1.out hg2
  clear hp2 hg2 hs hr
  go_wp2_with fail
  refine (two_any _).mono ?_
  rintro e w9 ⟨rfl, hg9⟩
  have HB9 : Hid (Below w.heap.size w w9) := below_none (grown_trans HG2.out hg9) (Nat.le_refl _)
  clear hg9
  go_wp2
  go_ret
  exact ⟨rfl, HB9.out⟩
set_option maxHeartbeats 1000000 in
set_option maxRecDepth 100000 in
theorem steps_arg (p : Option Addr) (n cap : Nat) (b0 : Int) (w : World) (h : b0 < 0 ∨ 1099511627776 < b0) : Calls Try.prog 3 #[.int .i64 b0, .slice p n cap] w fun e w' => e = .returned (.bool true) ∧ Below w.heap.size w w' := by
  have HN1 : Hid (b0 < 0 ∨ 1099511627776 < b0) := h
  clear h
  go_enter Try.func3, Try.ntmps3
  go_wp2_with fail
  refine (new_arg _ HN1.out).mono ?_
  rintro e w1 ⟨rfl, rfl⟩
  go_wp2_with fail
  refine (Rf.new_arg _ HN1.out).mono ?_
  rintro e w2 ⟨rfl, rfl⟩
  go_wp2_with fail
  refine (two_any _).mono ?_
  rintro e w9 ⟨rfl, hg9⟩
  have HB9 : Hid (Below w2.heap.size w2 w9) := below_none hg9 (Nat.le_refl _)
  clear hg9
  go_wp2
  go_ret
  exact ⟨rfl, HB9.out⟩

theorem steps_any (v : Value) (l : List St) (b0 : Int) (w : World) (hv : Steps2 w v l) : Calls Try.prog 3 #[.int .i64 b0, v] w fun e w' => e = .returned (.bool true) ∧ Below w.heap.size w w' := by
  obtain ⟨ao, cap, rfl, _, hx⟩ := hv
  by_cases h1 : b0 < 0
  · exact steps_arg _ _ _ _ _ (.inl h1)
  by_cases h2 : 1099511627776 < b0
  · exact steps_arg _ _ _ _ _ (.inr h2)
  by_cases h : l.length ≤ 400
  · exact steps_ok ao cap l b0 w (by omega) (by omega) h hx
  · exact steps_long _ _ _ _ w (by omega) (by omega) (by omega)

set_option maxRecDepth 100000 in
theorem oplogSteps_lifted (os : Os) (started : os.Started) (H : Type) (enc : TypeId × Value → H) :
    ReturnsInHanded {} Try.checked os 3 .any (Rows.oplogStepsSpec.pre6 enc Try.prog Try.f3 Rows.oplogStepsRow.domain false) (Rows.oplogStepsSpec.post enc Try.prog Try.f3 false true false false) := by
  refine returnsInHanded_of_change_sized (C := Try.checked) own started (by kernel_rfl) Try.func3
    (ChangeSpec.witness6 (enc := enc) (C := Try.checked) false ⟨#[], #[.int .i64 0, .slice none 0 0], []⟩ 8 (by kernel_rfl) (by kernel_rfl) (by kernel_rfl) (by kernel_rfl)) ?_
  intro W base args ds gs before hval0 hW hcnd hsized _
  have hval : ∀ (j : Nat) t v, Try.f3.params[j]? = some t → args[j]? = some v → Value.okWide Try.prog W .any base t v := hval0
  have hW' := hW
  obtain ⟨p, q, hA0, hV, rfl, hfz, hnd⟩ := hW
  have hA : DataW.TrodAll enc Try.prog W 0 (fun _ => true) true Try.f3.params.toList args.toList ds p := hA0
  rw [Try.params3] at hA hval
  obtain ⟨v0, v1, d0, d1, p0, p1, rfl, rfl, rfl, h0, h1⟩ := trodAll_two hA
  obtain ⟨rfl, rfl⟩ := trodVars_none hV
  obtain ⟨a, rfl, rfl, rfl, w0⟩ := open_int Try.underlying3 (hval 0 3 v0 rfl rfl) h0
  have hwt : ∀ n ∈ d1.weights Try.prog 22, n ≤ reachBytes := fun n hn => by
    have := List.all_eq_true.1 hsized n (DataW.weights_mem_each (j := 1) (t := 22) (d := d1) rfl rfl n hn)
    simpa using this
  obtain ⟨l, hl⟩ := open_ssteps Try.underlying22 Try.underlying35 (by kernel_rfl) ⟨by kernel_rfl, by kernel_rfl⟩ ⟨by kernel_rfl, by kernel_rfl⟩ ⟨by kernel_rfl, by kernel_rfl⟩ ⟨by kernel_rfl, by kernel_rfl⟩ ⟨by kernel_rfl, by kernel_rfl⟩ Try.underlying3 Try.underlying3 Try.underlying3 Try.underlying32 Try.underlying33 ⟨by kernel_rfl, by kernel_rfl⟩ ⟨by kernel_rfl, by kernel_rfl⟩ ⟨by kernel_rfl, by kernel_rfl⟩ ⟨by kernel_rfl, by kernel_rfl⟩ Try.underlying3 Try.underlying3 Try.underlying3 Try.underlying9 (by kernel_rfl) Try.underlying32 (by kernel_rfl) (by kernel_rfl) hwt (okWide_slice Try.underlying22 (hval 1 22 v1 rfl rfl)) h1
  refine (steps_any v1 l a W hl).mono fun e W' ⟨he, hg⟩ => ⟨_, he, ?_⟩
  exact Law.post laidOut (by kernel_rfl) rfl Try.underlying4 hW' rfl rfl hg

theorem oplogSteps_holds : Rows.OplogStepsSaid :=
  OpenClaim.holds_of_wide 3 Try.f3 rfl rfl rfl rfl rfl rfl rfl ⟨rfl, rfl, rfl, rfl, rfl⟩ rfl rfl rfl rfl rfl (by kernel_rfl) Try.func3 (by kernel_rfl)
    (of_decide_eq_true (by kernel_rfl)) (by unfold Func.isWrapper; first | (rw [if_pos (by decide +kernel)]; kernel_rfl) | (rw [if_neg (by decide +kernel)]; exact ⟨rfl, rfl⟩))
    (fun os started H enc _ => oplogSteps_lifted os started H enc)
#print axioms oplogSteps_holds
end Go.Proofs.Ytbjcleeiobaegaa
