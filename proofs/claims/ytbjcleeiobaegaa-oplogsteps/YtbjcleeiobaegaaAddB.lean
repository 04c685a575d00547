/-
  oplog's Add, where nothing is wrong.
-/
import Derived.Test.YtbjcleeiobaegaaAdd
namespace Go.Proofs.Ytbjcleeiobaegaa
open Go.RowKit Go.Shelf

theorem addB_after {w w2 w3 : World} {s : Nat} {base : Int} {v : Value} {ls : List Ol.It} {x0 x1 x2 : Int} {x3 : ByteArray} (h : Behind1 w w2 s base v ls x0 x1 x2 x3) (hg : (w2.drew.alloc (B4 x0 x1 x2 x3)).grownBy w3 v.ownBlock) :
    w3.heap[s]? = some (.cells #[.int .i64 base, v] 58 (0, 0)) ∧ w3.cell? ⟨s, 1, none⟩ = some v ∧ w3.frozen? ⟨s, 1, none⟩ = false := by
  have hl := h.log.still (grown_trans (grown_drew (grown_refl w2 none) 1) (World.grownBy_alloc w2.drew (B4 x0 x1 x2 x3) none))
  have hb : w3.heap[s]? = some (.cells #[.int .i64 base, v] 58 (0, 0)) := (hg.block s hl.lt (fun e => by have := (hl.row.lt s e.symm).1; omega)).trans hl.block
  refine ⟨hb, ?_, ?_⟩ <;> simp [World.cell?, World.frozen?, hb]
theorem addB_end {w w2 w3 : World} {s : Nat} {base : Int} {v u : Value} {ls : List Ol.It} {x0 x1 x2 : Int} {x3 : ByteArray} (h : Behind1 w w2 s base v ls x0 x1 x2 x3) (hg : (w2.drew.alloc (B4 x0 x1 x2 x3)).grownBy w3 v.ownBlock)
    (hrow : Row w3 (s + 1) 32 u (ls ++ [(x0, x1, x2, x3)])) (hmv : u.ownBlock = v.ownBlock ∨ ∀ j, u.ownBlock = some j → (w2.drew.alloc (B4 x0 x1 x2 x3)).heap.size ≤ j) (hgd : Ol.Good base (ls ++ [(x0, x1, x2, x3)])) :
    LogAt (w3.setCell ⟨s, 1, none⟩ u) s base u (ls ++ [(x0, x1, x2, x3)]) ∧ Turns w (w3.setCell ⟨s, 1, none⟩ u) s v ∧ Moves w v u := by
  have hb := (addB_after h hg).1
  have hg2 : w.grownBy (w2.drew.alloc (B4 x0 x1 x2 x3)) none := grown_trans h.grown (grown_trans (grown_drew (grown_refl w2 none) 1) (World.grownBy_alloc w2.drew (B4 x0 x1 x2 x3) none))
  refine ⟨log_put hb hrow hgd, turns_set ⟨hg.os.trans hg2.os, hg.tape.trans hg2.tape, hg.output.trans hg2.output, Nat.le_trans hg2.size hg.size, fun j hj _ hjv => ?_⟩ 1 _, ?_⟩
  · exact (hg.block j (Nat.lt_of_lt_of_le hj hg2.size) hjv).trans (hg2.block j hj (by simp))
  · rcases hmv with hmv | hmv
    · exact .inl hmv
    · exact .inr fun j hj => Nat.le_trans hg2.size (hmv j hj)
set_option maxHeartbeats 2000000 in
theorem add_ok {s : Nat} {base : Int} {v : Value} {ls : List Ol.It} (x : Ol.It) (w : World) (h : LogAt w s base v ls) (hr : Ol.refuse base ls [x] = 0) : Calls Try.prog 18 #[.pointer (some ⟨s, 0, none⟩), item x] w fun e w' => ∃ v', e = .returned (.tuple #[.int .i64 (base + ls.length + 1), .int .i64 0]) ∧ LogAt w' s base v' (ls ++ [x]) ∧ Turns w w' s v ∧ Moves w v v' := by
  obtain ⟨i0, hi, hz0, hz1, hz2⟩ := info_parts info32
  obtain ⟨x0, x1, x2, x3⟩ := x
  have H1 : Hid (Behind1 w (w.alloc (B4 x0 x1 x2 x3)).drew s base v ls x0 x1 x2 x3) := (Behind1.start h x0 x1 x2 x3).drew
  have H2 : Hid (Behind1 w ((w.alloc (B4 x0 x1 x2 x3)).alloc (B4 x0 x1 x2 x3)).drew s base v ls x0 x1 x2 x3) := ((Behind1.start h x0 x1 x2 x3).next (World.grownBy_alloc _ _ _)).drew
  have H3 : Hid (True ∧ ∀ w1, ((w.alloc (B4 x0 x1 x2 x3)).alloc (B4 x0 x1 x2 x3)).drew.grownBy w1 none → w1.heap[w.heap.size + 1]? = some (B4 x0 x1 x2 x3)) := ⟨trivial, fun w1 hg => by
    refine (hg.block _ (by simp) (by simp)).trans ?_
    have := heap_alloc_new (w.alloc (B4 x0 x1 x2 x3)) (B4 x0 x1 x2 x3)
    rw [show (w.alloc (B4 x0 x1 x2 x3)).heap.size = w.heap.size + 1 by simp] at this
    exact this⟩
  have hok := Ol.refuse_ok hr
  have HGD : Hid (Ol.Good base (ls ++ [(x0, x1, x2, x3)])) := h.good.put hok.1 hok.2.1 hok.2.2.1 hok.2.2.2
  have hln : ls.length + 1 ≤ 256 := hok.2.2.1
  have HLN : Hid (ls.length + 1 ≤ 256) := hln
  have HY : Hid (Ol.refuse base (ls.take ls.length) [(x0, x1, x2, x3)] = 0) := by rw [List.take_length]; exact hr
  have hs0 := h.lt
  have g0 := h.good.zero
  have g1 : base + (ls.length : Int) + 1 ≤ 1099511627776 := hok.2.2.2
  clear h hr hok hln
  unfold item
  simp only
  go_enter Try.func18, Try.ntmps18
  go_wp2
  go_region_with (first | (go_at_call 14; with_reducible refine (last_g _ H1.out.log).mono ?_; rintro e w1 ⟨rfl, hg⟩; have hx := H1.out.next hg; obtain ⟨⟨a0, a1, a2, a3⟩, _⟩ := four_of hx.box) | (go_at_call 14; with_reducible refine (last_g _ H2.out.log).mono ?_; rintro e w1 ⟨rfl, hg⟩; have hx := H2.out.next hg; have hf := H3.out.2 w1 hg) | (go_at_call 32; with_reducible show Calls _ _ _ (World.alloc w1 _) _; refine (refuse_any ls.length _ _ [(x0, x1, x2, x3)] (w1.alloc (B4 x0 x1 x2 x3)) (hx.next (World.grownBy_alloc _ _ _)).log (Nat.le_refl _) rfl (one_item w1 x0 x1 x2 x3) (by simp)).mono ?_; rintro e w2 ⟨rfl, hg2⟩; have hx2 := (hx.next (World.grownBy_alloc w1 (B4 x0 x1 x2 x3) none)).next hg2; clear hx hg2; rw [HY.out]) | (go_at_call 32; refine (refuse_any ls.length _ _ [(x0, x1, x2, x3)] w1 hx.log (Nat.le_refl _) rfl (one_item_at w1 _ x0 x1 x2 x3 hf) (by simp)).mono ?_; rintro e w2 ⟨rfl, hg2⟩; have hx2 := hx.next hg2; clear hx hg2; rw [HY.out]))
  all_goals
    have HX : Hid (Behind1 w w2 s base v ls x0 x1 x2 x3) := hx2
    obtain ⟨c0, c1⟩ := hx2.log.cells
    have f1 := hx2.log.free 1
    obtain ⟨⟨b0, b1, b2, b3⟩, bf⟩ := four_of hx2.box
    have HRW : Hid (Row w2 (s + 1) 32 v ls) := hx2.log.row
    have hsW : s + 1 ≤ w2.heap.size := hx2.log.lt
    have hsl : s < w2.heap.size := hx2.log.lt
    have hsn : ¬ s = w2.heap.size := by omega
    have hbl : w.heap.size < w2.heap.size := (Array.getElem?_eq_some_iff.1 hx2.box).1
    have hbn : ¬ w.heap.size = w2.heap.size := by omega
    clear hx2
  all_goals
    have HRD : Hid (Row (w2.drew.alloc (B4 x0 x1 x2 x3)) (s + 1) 32 v ls) := HRW.out.drew.still (World.grownBy_alloc _ _ _)
    have HI : Hid (ItemsAt (w2.drew.alloc (B4 x0 x1 x2 x3)) (.slice (some ⟨w2.heap.size, 0, none⟩) 1 1) [(x0, x1, x2, x3)]) := one_item w2.drew x0 x1 x2 x3
    go_wp2
    go_region_law (refine step_row _ rfl (.tmp 20) (.tmp 22) 33 rfl (s + 1) 32 i0 (.agg #[.int .i64 0, .int .i64 0, .int .i64 0, .string ⟨#[]⟩]) 40 Try.underlying33 hi hz0 hz1 hz2 rfl v ls (by simp [Act.eval]) HRD.out _ [(x0, x1, x2, x3)] (by simp [Act.eval]) HI.out (by have := HLN.out; unfold maxLen; simp; omega) (by have := HLN.out; simp; omega) (by simp; omega) ?_; intro v' w3 hrow3 hg3 hmv; obtain ⟨pu, cu, hu⟩ := hrow3.slice; generalize (ls ++ [(x0, x1, x2, x3)]).length = mu at hu; subst hu; obtain ⟨hbs, d1, fd⟩ := addB_after HX.out hg3)
    all_goals
      have HE : Hid (LogAt (w3.setCell ⟨s, 1, none⟩ (.slice pu mu cu)) s base (.slice pu mu cu) (ls ++ [(x0, x1, x2, x3)]) ∧ Turns w (w3.setCell ⟨s, 1, none⟩ (.slice pu mu cu)) s v ∧ Moves w v (.slice pu mu cu)) := addB_end HX.out hg3 hrow3 hmv HGD.out
      clear hrow3 hg3 hmv hbs
      go_wp2_with fail
      refine (last_g _ HE.out.1).mono ?_
      rintro e w4 ⟨rfl, hg4⟩
      have HE2 : Hid (LogAt w4 s base (.slice pu mu cu) (ls ++ [(x0, x1, x2, x3)]) ∧ Turns w w4 s v ∧ Moves w v (.slice pu mu cu)) := ⟨HE.out.1.still hg4, HE.out.2.1.trans HE.out.2.2 (Turns.of_grown hg4), HE.out.2.2⟩
      have HL : Hid (base + ((ls ++ [(x0, x1, x2, x3)]).length : Int) = base + (ls.length : Int) + 1) := show base + ((ls ++ [(x0, x1, x2, x3)]).length : Int) = base + (ls.length : Int) + 1 by simp; omega
      rw [HL.out]
      clear hg4 HE
      go_wp2
      go_ret2
      exact ⟨_, rfl, HE2.out⟩
end Go.Proofs.Ytbjcleeiobaegaa
