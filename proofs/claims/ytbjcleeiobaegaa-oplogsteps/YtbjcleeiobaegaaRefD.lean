/-
  The reference's log: Add, at any one that stands for a list of items; and the log's own, in one sentence.
-/
import Derived.Test.YtbjcleeiobaegaaRefC
namespace Go.Proofs.Ytbjcleeiobaegaa
open Go.RowKit

/-- A world that is w grown by blocks of its own. -/
structure Grw (w : World) where
  out : World
  grown : w.grownBy out none
theorem grw_some (w : World) : Nonempty (Grw w) := ⟨⟨w, grown_refl _ _⟩⟩
/-- A region that only reads, and whose callees read and lay blocks of their own, walked once. -/
theorem wp_region_grw {P : Program} {id : Nat} {Q : Exit → Act → World → Prop} {a : Act} {w : World} {l : List Oper} (hm : P.follows .mixedOrders = true) (hB : Region.lexB .any l.toArray = true)
    (h : wpQuiet P l.toArray (fun w' => ∃ p : Grw w, w' = p.out) (fun a' => ∀ w', (∃ p : Grw w, w' = p.out) → Q .normal a' w') l a) : (Code.region id l.toArray true).wp P Q a w :=
  wp_region_quiet (C := fun w' => ∃ p : Grw w, w' = p.out) hm hB ⟨⟨w.drew, ⟨rfl, rfl, rfl, Nat.le_refl _, fun _ _ _ => rfl⟩⟩, rfl⟩ (by simpa using h)
theorem calls_grw {P : Program} {f : FuncId} {args : Array Value} {w W : World} {v : Value} (hg : w.grownBy W none)
    (h : Calls P f args W fun e w' => e = .returned v ∧ W.grownBy w' none) : Calls P f args W fun e w'' => e = .returned v ∧ ∃ p : Grw w, w'' = p.out :=
  h.mono fun _ w' ⟨he, hw⟩ => ⟨he, ⟨w', grown_trans hg hw⟩, rfl⟩

def Ol.addNum (base : Int) (ls : List Ol.It) (x : Ol.It) : Int := if Ol.refuse base ls [x] = 0 then base + ls.length + 1 else 0
def Ol.addTo (base : Int) (ls : List Ol.It) (x : Ol.It) : List Ol.It := if Ol.refuse base ls [x] = 0 then ls ++ [x] else ls
theorem add_any {s : Nat} {base : Int} {v : Value} {ls : List Ol.It} (x : Ol.It) (w : World) (h : LogAt w s base v ls) : Calls Try.prog 18 #[.pointer (some ⟨s, 0, none⟩), item x] w fun e w' => ∃ v', e = .returned (.tuple #[.int .i64 (Ol.addNum base ls x), .int .i64 (Ol.refuse base ls [x])]) ∧ LogAt w' s base v' (Ol.addTo base ls x) ∧ Turns w w' s v ∧ Moves w v v' := by
  unfold Ol.addNum Ol.addTo
  by_cases hr : Ol.refuse base ls [x] = 0
  · rw [if_pos hr, if_pos hr, hr]
    exact add_ok x w h hr
  · rw [if_neg hr, if_neg hr]
    exact (add_err x w h hr).mono fun _ _ ⟨he, hg⟩ => ⟨v, he, h.still hg, .of_grown hg, .refl _ _⟩
theorem Ol.refuse_one (base : Int) (ls : List Ol.It) (x : Ol.It) : Ol.refuse base ls [x] = if ¬ Ol.right x then 4 else if x.1 < Ol.view 0 ls then 7 else if 256 < ls.length + 1 ∨ 1099511627776 < base + ls.length + 1 then 5 else 0 := by
  unfold Ol.refuse
  by_cases h1 : Ol.right x
  · simp [h1, Ol.fall]
  · simp [h1]
namespace Rf
/-- What the world is behind the first region of Add, in whatever order. -/
structure Behind1 (w W : World) (s : Nat) (base : Int) (v : Value) (ls : List Ol.It) (x0 x1 x2 : Int) (x3 : ByteArray) : Prop where
  grown : w.grownBy W none
  log : LogAt W s base v ls
  box : W.heap[w.heap.size]? = some (B4 x0 x1 x2 x3)
theorem Behind1.next {w W W' : World} {s : Nat} {base : Int} {v : Value} {ls : List Ol.It} {x0 x1 x2 : Int} {x3 : ByteArray} (h : Behind1 w W s base v ls x0 x1 x2 x3) (hg : W.grownBy W' none) : Behind1 w W' s base v ls x0 x1 x2 x3 :=
  ⟨grown_trans h.grown hg, h.log.still hg, (hg.block _ (Array.getElem?_eq_some_iff.1 h.box).1 (by simp)).trans h.box⟩
theorem Behind1.start {w : World} {s : Nat} {base : Int} {v : Value} {ls : List Ol.It} (h : LogAt w s base v ls) (x0 x1 x2 : Int) (x3 : ByteArray) : Behind1 w (w.alloc (B4 x0 x1 x2 x3)) s base v ls x0 x1 x2 x3 :=
  ⟨World.grownBy_alloc _ _ _, h.still (World.grownBy_alloc _ _ _), heap_alloc_new _ _⟩
theorem Behind1.drew {w W : World} {s : Nat} {base : Int} {v : Value} {ls : List Ol.It} {x0 x1 x2 : Int} {x3 : ByteArray} (h : Behind1 w W s base v ls x0 x1 x2 x3) : Behind1 w W.drew s base v ls x0 x1 x2 x3 := h.next (grown_drew (grown_refl _ _) 1)
theorem addB_after {w w2 w3 : World} {s : Nat} {base : Int} {v : Value} {ls : List Ol.It} {x0 x1 x2 : Int} {x3 : ByteArray} (h : Behind1 w w2 s base v ls x0 x1 x2 x3) (hg : (w2.drew.alloc (B4 x0 x1 x2 x3)).grownBy w3 v.ownBlock) :
    w3.heap[s]? = some (.cells #[.int .i64 base, v] 43 (0, 0)) ∧ w3.cell? ⟨s, 1, none⟩ = some v ∧ w3.frozen? ⟨s, 1, none⟩ = false := by
  have hl := h.log.still (grown_trans (grown_drew (grown_refl w2 none) 1) (World.grownBy_alloc w2.drew (B4 x0 x1 x2 x3) none))
  have hb : w3.heap[s]? = some (.cells #[.int .i64 base, v] 43 (0, 0)) := (hg.block s hl.lt (fun e => by have := (hl.row.lt s e.symm).1; omega)).trans hl.block
  refine ⟨hb, ?_, ?_⟩ <;> simp [World.cell?, World.frozen?, hb]
theorem addB_end {w w2 w3 : World} {s : Nat} {base : Int} {v u : Value} {ls : List Ol.It} {x0 x1 x2 : Int} {x3 : ByteArray} (h : Behind1 w w2 s base v ls x0 x1 x2 x3) (hg : (w2.drew.alloc (B4 x0 x1 x2 x3)).grownBy w3 v.ownBlock)
    (hrow : Row w3 (s + 1) 32 u (ls ++ [(x0, x1, x2, x3)])) (hmv : u.ownBlock = v.ownBlock ∨ ∀ j, u.ownBlock = some j → (w2.drew.alloc (B4 x0 x1 x2 x3)).heap.size ≤ j) (hgd : Ol.Good base (ls ++ [(x0, x1, x2, x3)])) :
    LogAt (w3.setCell ⟨s, 1, none⟩ u) s base u (ls ++ [(x0, x1, x2, x3)]) ∧ Turns w (w3.setCell ⟨s, 1, none⟩ u) s v ∧ Moves w v u := by
  have hb := (addB_after h hg).1
  have hg2 : w.grownBy (w2.drew.alloc (B4 x0 x1 x2 x3)) none := grown_trans h.grown (grown_trans (grown_drew (grown_refl w2 none) 1) (World.grownBy_alloc w2.drew (B4 x0 x1 x2 x3) none))
  refine ⟨log_put hb hrow hgd, turns_set ⟨hg.os.trans hg2.os, hg.tape.trans hg2.tape, hg.output.trans hg2.output, Nat.le_trans hg2.size hg.size, fun j hj _ hjv => ?_⟩ 1 _, ?_⟩
  · exact (hg.block j (Nat.lt_of_lt_of_le hj hg2.size) hjv).trans (hg2.block j hj (by simp))
  · rcases hmv with hmv | hmv
    · exact .inl hmv
    · exact .inr fun j hj => Nat.le_trans hg2.size (hmv j hj)

set_option maxHeartbeats 2000000 in
set_option maxRecDepth 100000 in
theorem add_any {s : Nat} {base : Int} {v : Value} {ls : List Ol.It} (x : Ol.It) (w : World) (h : LogAt w s base v ls) : Calls Try.prog 26 #[.pointer (some ⟨s, 0, none⟩), item x] w fun e w' => ∃ v', e = .returned (.tuple #[.int .i64 (Ol.addNum base ls x), .int .i64 (Ol.refuse base ls [x])]) ∧ LogAt w' s base v' (Ol.addTo base ls x) ∧ Turns w w' s v ∧ Moves w v v' := by
  obtain ⟨i0, hi, hz0, hz1, hz2⟩ := info_parts info32
  unfold Ol.addNum Ol.addTo
  have HRO : Hid (Ol.refuse base ls [x] = if ¬ Ol.right x then 4 else if x.1 < Ol.view 0 ls then 7 else if 256 < ls.length + 1 ∨ 1099511627776 < base + ls.length + 1 then 5 else 0) := Ol.refuse_one base ls x
  obtain ⟨x0, x1, x2, x3⟩ := x
  have H1 : Hid (Behind1 w (w.alloc (B4 x0 x1 x2 x3)) s base v ls x0 x1 x2 x3) := Behind1.start h x0 x1 x2 x3
  have HLG : Hid (LogAt w s base v ls) := h
  have g0 := h.good.zero
  have g1 := h.good.top
  have g2 := h.good.len
  by_cases hr : Ol.right (x0, x1, x2, x3)
  · have HD : Hid (decide (Ol.right (x0, x1, x2, x3)) = true) := decide_eq_true hr
    have HRO2 : Hid (Ol.refuse base ls [(x0, x1, x2, x3)] = if x0 < Ol.view 0 ls then 7 else if 256 < ls.length + 1 ∨ 1099511627776 < base + ls.length + 1 then 5 else 0) := HRO.out.trans (if_neg (fun hh => hh hr))
    clear h hr HRO
    by_cases hv : x0 < Ol.view 0 ls
    · have HRE : Hid (Ol.refuse base ls [(x0, x1, x2, x3)] = 7) := HRO2.out.trans (if_pos hv)
      rw [HRE.out, if_neg (by decide), if_neg (by decide)]
      obtain ⟨vw, hvw⟩ : ∃ vw, Ol.view 0 ls = vw := ⟨_, rfl⟩
      have HVW : Hid (Ol.view 0 ls = vw) := hvw
      rw [hvw] at hv
      clear hvw
      unfold item
      simp only
      go_enter Try.func26, Try.ntmps26
      go_wp2_with fail
      refine (refRight_any (x0, x1, x2, x3) _).mono ?_
      rintro e w1 ⟨rfl, hg1⟩
      have HX : Hid (Behind1 w w1 s base v ls x0 x1 x2 x3) := H1.out.next hg1
      rw [HD.out]
      clear hg1
      have hc0 : ∀ p : Grw w1, p.out.cell? ⟨w.heap.size, 0, none⟩ = some (.int .i64 x0) := fun p => p.grown.cell (four_of HX.out.box).1.1 (by simp)
      have HVC : Hid (∀ W, w1.grownBy W none → Calls Try.prog 17 #[.pointer (some ⟨s, 0, none⟩)] W fun e w' => e = .returned (.int .i64 vw) ∧ W.grownBy w' none) := fun W hW => by
        have := view_any W (HX.out.log.still hW)
        rw [HVW.out] at this
        exact this
      have hne9 : Nonempty (Grw w1) := grw_some w1
      have hvd : decide (x0 < vw) = true := decide_eq_true hv
      go_wp2_with fail
      refine wp_region_grw (by kernel_rfl) (by kernel_rfl) ?_
      repeat (go_big_quiet_step (first | (go_at_call 17; refine calls_grw (Grw.grown _) (HVC.out _ (Grw.grown _)))))
      refine wpQuiet_nil ?_
      intro wq hwq
      have hgq : w1.grownBy wq none := by
        obtain ⟨p, rfl⟩ := hwq
        exact p.grown
      have HQ : Hid (LogAt wq s base v ls ∧ w.grownBy wq none) := ⟨HX.out.log.still hgq, grown_trans HX.out.grown hgq⟩
      clear hgq hwq hc0
      go_wp2
      go_ret2
      exact ⟨v, rfl, HQ.out.1, .of_grown HQ.out.2, .refl _ _⟩
    · have HRE : Hid (Ol.refuse base ls [(x0, x1, x2, x3)] = if 256 < ls.length + 1 ∨ 1099511627776 < base + ls.length + 1 then 5 else 0) := HRO2.out.trans (if_neg hv)
      obtain ⟨vw, hvw⟩ : ∃ vw, Ol.view 0 ls = vw := ⟨_, rfl⟩
      have HVW : Hid (Ol.view 0 ls = vw) := hvw
      rw [hvw] at hv
      clear hvw
      obtain ⟨pv, cv, rfl⟩ := HLG.out.row.slice
      obtain ⟨m, hmd⟩ : ∃ m, ls.length = m := ⟨_, rfl⟩
      have HM : Hid (ls.length = m) := hmd
      rw [HRE.out]
      by_cases hfull : 256 < ls.length + 1 ∨ 1099511627776 < base + ls.length + 1
      · rw [if_pos hfull, if_neg (by decide), if_neg (by decide)]
        rw [hmd] at hfull g1 g2
        clear hmd
        unfold item
        simp only
        by_cases h256 : 256 ≤ m
        · have hI : (256 : Int) ≤ (m : Int) := by omega
          clear hfull
          go_enter Try.func26, Try.ntmps26
          go_wp2_with fail
          refine (refRight_any (x0, x1, x2, x3) _).mono ?_
          rintro e w1 ⟨rfl, hg1⟩
          have HX : Hid (Behind1 w w1 s base (.slice pv ls.length cv) ls x0 x1 x2 x3) := H1.out.next hg1
          rw [HD.out]
          clear hg1
          have hc0 : ∀ p : Grw w1, p.out.cell? ⟨w.heap.size, 0, none⟩ = some (.int .i64 x0) := fun p => p.grown.cell (four_of HX.out.box).1.1 (by simp)
          have HVC : Hid (∀ W, w1.grownBy W none → Calls Try.prog 17 #[.pointer (some ⟨s, 0, none⟩)] W fun e w' => e = .returned (.int .i64 vw) ∧ W.grownBy w' none) := fun W hW => by
            have := view_any W (HX.out.log.still hW)
            rw [HVW.out] at this
            exact this
          have hne9 : Nonempty (Grw w1) := grw_some w1
          have hvd : decide (x0 < vw) = false := decide_eq_false (by omega)
          go_wp2_with fail
          refine wp_region_grw (by kernel_rfl) (by kernel_rfl) ?_
          repeat (go_big_quiet_step (first | (go_at_call 17; refine calls_grw (Grw.grown _) (HVC.out _ (Grw.grown _)))))
          refine wpQuiet_nil ?_
          intro wq hwq
          have hgq : w1.grownBy wq none := by
            obtain ⟨p, rfl⟩ := hwq
            exact p.grown
          have HXQ : Hid (Behind1 w wq s base (.slice pv ls.length cv) ls x0 x1 x2 x3) := HX.out.next hgq
          have HQ : Hid (LogAt wq s base (.slice pv ls.length cv) ls ∧ w.grownBy wq none) := ⟨HXQ.out.log, HXQ.out.grown⟩
          obtain ⟨_, c1⟩ := HXQ.out.log.cells
          rw [HM.out] at c1
          clear hgq hwq hc0
          go_wp2
          go_ret2
          exact ⟨_, rfl, HQ.out.1, .of_grown HQ.out.2, .refl _ _⟩
        · have hI : ¬ (256 : Int) ≤ (m : Int) := by omega
          have hB : (1099511627776 : Int) ≤ base + (m : Int) := by omega
          clear hfull
          go_enter Try.func26, Try.ntmps26
          go_wp2_with fail
          refine (refRight_any (x0, x1, x2, x3) _).mono ?_
          rintro e w1 ⟨rfl, hg1⟩
          have HX : Hid (Behind1 w w1 s base (.slice pv ls.length cv) ls x0 x1 x2 x3) := H1.out.next hg1
          rw [HD.out]
          clear hg1
          have hc0 : ∀ p : Grw w1, p.out.cell? ⟨w.heap.size, 0, none⟩ = some (.int .i64 x0) := fun p => p.grown.cell (four_of HX.out.box).1.1 (by simp)
          have HVC : Hid (∀ W, w1.grownBy W none → Calls Try.prog 17 #[.pointer (some ⟨s, 0, none⟩)] W fun e w' => e = .returned (.int .i64 vw) ∧ W.grownBy w' none) := fun W hW => by
            have := view_any W (HX.out.log.still hW)
            rw [HVW.out] at this
            exact this
          have hne9 : Nonempty (Grw w1) := grw_some w1
          have hvd : decide (x0 < vw) = false := decide_eq_false (by omega)
          go_wp2_with fail
          refine wp_region_grw (by kernel_rfl) (by kernel_rfl) ?_
          repeat (go_big_quiet_step (first | (go_at_call 17; refine calls_grw (Grw.grown _) (HVC.out _ (Grw.grown _)))))
          refine wpQuiet_nil ?_
          intro wq hwq
          have hgq : w1.grownBy wq none := by
            obtain ⟨p, rfl⟩ := hwq
            exact p.grown
          have HXQ : Hid (Behind1 w wq s base (.slice pv ls.length cv) ls x0 x1 x2 x3) := HX.out.next hgq
          have HQ : Hid (LogAt wq s base (.slice pv ls.length cv) ls ∧ w.grownBy wq none) := ⟨HXQ.out.log, HXQ.out.grown⟩
          obtain ⟨_, c1⟩ := HXQ.out.log.cells
          rw [HM.out] at c1
          clear hgq hwq hc0
          go_wp2_with fail
          refine (last_g _ HQ.out.1).mono ?_
          rintro e w5 ⟨rfl, hg5⟩
          have HQ5 : Hid (LogAt w5 s base (.slice pv ls.length cv) ls ∧ w.grownBy w5 none) := ⟨HQ.out.1.still hg5, grown_trans HQ.out.2 hg5⟩
          rw [HM.out]
          clear hg5
          go_wp2
          go_ret2
          exact ⟨_, rfl, HQ5.out.1, .of_grown HQ5.out.2, .refl _ _⟩
      · rw [if_neg hfull, if_pos rfl, if_pos rfl]
        have HGD : Hid (Ol.Good base (ls ++ [(x0, x1, x2, x3)])) := by
          have hok := Ol.refuse_ok (HRE.out.trans (if_neg hfull))
          exact HLG.out.good.put hok.1 hok.2.1 hok.2.2.1 hok.2.2.2
        rw [hmd] at hfull g1 g2 ⊢
        have HLN : Hid (ls.length + 1 ≤ 256) := by
          have : ls.length + 1 ≤ 256 := by rw [hmd]; omega
          exact this
        clear hmd
        unfold item
        simp only
        have hI : ¬ (256 : Int) ≤ (m : Int) := by omega
        have hB : ¬ (1099511627776 : Int) ≤ base + (m : Int) := by omega
        have hB2 : base + (m : Int) + 1 ≤ 1099511627776 := by omega
        clear hfull
        go_enter Try.func26, Try.ntmps26
        go_wp2_with fail
        refine (refRight_any (x0, x1, x2, x3) _).mono ?_
        rintro e w1 ⟨rfl, hg1⟩
        have HX : Hid (Behind1 w w1 s base (.slice pv ls.length cv) ls x0 x1 x2 x3) := H1.out.next hg1
        rw [HD.out]
        clear hg1
        have hc0 : ∀ p : Grw w1, p.out.cell? ⟨w.heap.size, 0, none⟩ = some (.int .i64 x0) := fun p => p.grown.cell (four_of HX.out.box).1.1 (by simp)
        have HVC : Hid (∀ W, w1.grownBy W none → Calls Try.prog 17 #[.pointer (some ⟨s, 0, none⟩)] W fun e w' => e = .returned (.int .i64 vw) ∧ W.grownBy w' none) := fun W hW => by
          have := view_any W (HX.out.log.still hW)
          rw [HVW.out] at this
          exact this
        have hne9 : Nonempty (Grw w1) := grw_some w1
        have hvd : decide (x0 < vw) = false := decide_eq_false (by omega)
        go_wp2_with fail
        refine wp_region_grw (by kernel_rfl) (by kernel_rfl) ?_
        repeat (go_big_quiet_step (first | (go_at_call 17; refine calls_grw (Grw.grown _) (HVC.out _ (Grw.grown _)))))
        refine wpQuiet_nil ?_
        intro wq hwq
        have hgq : w1.grownBy wq none := by
          obtain ⟨p, rfl⟩ := hwq
          exact p.grown
        have HXQ : Hid (Behind1 w wq s base (.slice pv ls.length cv) ls x0 x1 x2 x3) := HX.out.next hgq
        have HQ : Hid (LogAt wq s base (.slice pv ls.length cv) ls ∧ w.grownBy wq none) := ⟨HXQ.out.log, HXQ.out.grown⟩
        obtain ⟨_, c1⟩ := HXQ.out.log.cells
        rw [HM.out] at c1
        clear hgq hwq hc0
        go_wp2_with fail
        refine (last_g _ HQ.out.1).mono ?_
        rintro e w2 ⟨rfl, hg5⟩
        have HX2 : Hid (Behind1 w w2 s base (.slice pv ls.length cv) ls x0 x1 x2 x3) := HXQ.out.next hg5
        rw [HM.out]
        clear hg5 c1
        obtain ⟨c0, c1⟩ := HX2.out.log.cells
        rw [HM.out] at c1
        have f1 := HX2.out.log.free 1
        obtain ⟨⟨b0, b1, b2, b3⟩, bf⟩ := four_of HX2.out.box
        have hsW : s + 1 ≤ w2.heap.size := HX2.out.log.lt
        have hsl : s < w2.heap.size := HX2.out.log.lt
        have hsn : ¬ s = w2.heap.size := by omega
        have hbl : w.heap.size < w2.heap.size := (Array.getElem?_eq_some_iff.1 HX2.out.box).1
        have hbn : ¬ w.heap.size = w2.heap.size := by have := (Array.getElem?_eq_some_iff.1 HX2.out.box).1; omega
        have HRD : Hid (Row (w2.drew.alloc (B4 x0 x1 x2 x3)) (s + 1) 32 (.slice pv ls.length cv) ls) := HX2.out.log.row.drew.still (World.grownBy_alloc _ _ _)
        have HI : Hid (ItemsAt (w2.drew.alloc (B4 x0 x1 x2 x3)) (.slice (some ⟨w2.heap.size, 0, none⟩) 1 1) [(x0, x1, x2, x3)]) := one_item w2.drew x0 x1 x2 x3
        go_wp2
        go_region_law (refine step_row _ rfl (.tmp 29) (.tmp 31) 33 rfl (s + 1) 32 i0 (.agg #[.int .i64 0, .int .i64 0, .int .i64 0, .string ⟨#[]⟩]) 40 Try.underlying33 hi hz0 hz1 hz2 rfl (.slice pv ls.length cv) ls (by rw [HM.out]; simp [Act.eval]) HRD.out _ [(x0, x1, x2, x3)] (by simp [Act.eval]) HI.out (by have := HLN.out; unfold maxLen; simp; omega) (by have := HLN.out; simp; omega) (by simp; omega) ?_; intro v' w3 hrow3 hg3 hmv; obtain ⟨pu, cu, hu⟩ := hrow3.slice; generalize (ls ++ [(x0, x1, x2, x3)]).length = mu at hu; subst hu; obtain ⟨hbs, d1, fd⟩ := addB_after HX2.out hg3)
        all_goals
          have HE : Hid (LogAt (w3.setCell ⟨s, 1, none⟩ (.slice pu mu cu)) s base (.slice pu mu cu) (ls ++ [(x0, x1, x2, x3)]) ∧ Turns w (w3.setCell ⟨s, 1, none⟩ (.slice pu mu cu)) s (.slice pv ls.length cv) ∧ Moves w (.slice pv ls.length cv) (.slice pu mu cu)) := addB_end HX2.out hg3 hrow3 hmv HGD.out
          clear hrow3 hg3 hmv hbs
          go_wp2_with fail
          refine (last_g _ HE.out.1).mono ?_
          rintro e w4 ⟨rfl, hg4⟩
          have HE2 : Hid (LogAt w4 s base (.slice pu mu cu) (ls ++ [(x0, x1, x2, x3)]) ∧ Turns w w4 s (.slice pv ls.length cv) ∧ Moves w (.slice pv ls.length cv) (.slice pu mu cu)) := ⟨HE.out.1.still hg4, HE.out.2.1.trans HE.out.2.2 (Turns.of_grown hg4), HE.out.2.2⟩
          have HL : Hid (base + ((ls ++ [(x0, x1, x2, x3)]).length : Int) = base + (m : Int) + 1) := show base + ((ls ++ [(x0, x1, x2, x3)]).length : Int) = base + (m : Int) + 1 by rw [List.length_append, HM.out]; simp; omega
          rw [HL.out]
          clear hg4 HE
          rw [HM.out] at HE2
          go_wp2
          go_ret2
          exact ⟨_, rfl, HE2.out⟩
  · have HD : Hid (decide (Ol.right (x0, x1, x2, x3)) = false) := decide_eq_false hr
    have HRE : Hid (Ol.refuse base ls [(x0, x1, x2, x3)] = 4) := HRO.out.trans (if_pos hr)
    rw [HRE.out, if_neg (by decide), if_neg (by decide)]
    clear h hr HRO
    unfold item
    simp only
    go_enter Try.func26, Try.ntmps26
    go_wp2_with fail
    refine (refRight_any (x0, x1, x2, x3) _).mono ?_
    rintro e w1 ⟨rfl, hg1⟩
    have HX : Hid (Behind1 w w1 s base v ls x0 x1 x2 x3) := H1.out.next hg1
    rw [HD.out]
    clear hg1
    go_wp2
    go_ret2
    exact ⟨v, rfl, HX.out.log, .of_grown HX.out.grown, .refl _ _⟩
end Rf
end Go.Proofs.Ytbjcleeiobaegaa
