/-
  tally.Add: a node's bid.
-/
import Derived.Test.YtdcknokggjbebaaYSet
import Derived.Test.YtdcknokggjbebaaLate
namespace Go.Proofs.Ytdcknokggjbebaa
open Go.ChangeShapes Go.WideShapes Go.ChangeAt Go.RowKit Go.Deep
theorem bel_drew {B : Nat} {w w' : World} (h : Below B w w') : Below B w w'.drew := ⟨h.os, h.tape, h.output, h.size, h.block⟩
theorem cell_older {w1 : World} {p : Nat} (hp : p < w1.heap.size) (o : Obj) (j : Nat) : (w1.alloc o).cell? ⟨p, j, none⟩ = w1.cell? ⟨p, j, none⟩ := ((Below.refl w1.heap.size w1).alloc (Nat.le_refl _) o).cell (p := ⟨p, j, none⟩) hp
theorem bid_of {w : World} {A : Nat} {x : Bd} {T : TypeId} (h : w.heap[A]? = some (.cells #[.int .i64 x.1, .int .i64 x.2.1, .int .i64 x.2.2] T)) :
    (w.cell? ⟨A, 0, none⟩ = some (.int .i64 x.1) ∧ w.cell? ⟨A, 1, none⟩ = some (.int .i64 x.2.1) ∧ w.cell? ⟨A, 2, none⟩ = some (.int .i64 x.2.2)) ∧ ∀ j, w.frozen? ⟨A, j, none⟩ = false := by
  refine ⟨⟨?_, ?_, ?_⟩, fun j => ?_⟩ <;> simp [World.cell?, World.frozen?, h]
theorem tadd_nil (b : Bd) (w : World) : Calls Try.prog 10 #[.pointer none, VB b] w fun e w' => e = .returned (.tuple #[.bool false, .int .i64 1]) ∧ w.grownBy w' none := by
  have HG : Hid (w.grownBy (w.alloc (BB b)) none) := World.grownBy_alloc _ _ none
  go_enter Try.func10, Try.ntmps10
  go_wp2_with fail
  refine (tisNode_nil _ _).mono ?_
  rintro e w' ⟨rfl, rfl⟩
  go_wp2
  go_ret2
  exact ⟨rfl, HG.out⟩
theorem tadd_no {s bm : Nat} {m f : Int} {L : List Bd} (b : Bd) (w : World) (h : TA w s bm m f L) (hb : ¬ Ty.Fits m b) : Calls Try.prog 10 #[.pointer (some ⟨s, 0, none⟩), VB b] w fun e w' => e = .returned (.tuple #[.bool false, .int .i64 1]) ∧ w.grownBy w' none := by
  have HG : Hid (w.grownBy (w.alloc (BB b)) none) := World.grownBy_alloc _ _ none
  have HT : Hid (TA (w.alloc (BB b)) s bm m f L) := h.still HG.out
  clear h
  by_cases h0 : 0 ≤ b.1 ∧ b.1 < m
  · have H0 : Hid (0 ≤ b.1 ∧ b.1 < m) := h0
    by_cases h1 : Ty.big b.2.1
    · have H1 : Hid (Ty.big b.2.1) := h1
      have H2 : Hid (¬ Ty.big b.2.2) := show ¬ Ty.big b.2.2 from fun h2 => hb ⟨h0, h1, h2⟩
      clear h0 h1 hb
      go_enter Try.func10, Try.ntmps10
      go_wp2_with fail
      refine (tisNode_yes _ HT.out.c0 H0.out).mono ?_
      rintro e w' ⟨rfl, rfl⟩
      go_wp2_with fail
      refine (tfits_yes _ H1.out).mono ?_
      rintro e w' ⟨rfl, rfl⟩
      go_wp2_with fail
      refine (tfits_no _ H2.out).mono ?_
      rintro e w' ⟨rfl, rfl⟩
      go_wp2
      go_ret2
      exact ⟨rfl, HG.out⟩
    · have H1 : Hid (¬ Ty.big b.2.1) := h1
      clear h0 h1 hb
      go_enter Try.func10, Try.ntmps10
      go_wp2_with fail
      refine (tisNode_yes _ HT.out.c0 H0.out).mono ?_
      rintro e w' ⟨rfl, rfl⟩
      go_wp2_with fail
      refine (tfits_no _ H1.out).mono ?_
      rintro e w' ⟨rfl, rfl⟩
      go_wp2
      go_ret2
      exact ⟨rfl, HG.out⟩
  · have H0 : Hid (¬ (0 ≤ b.1 ∧ b.1 < m)) := h0
    clear h0 hb
    go_enter Try.func10, Try.ntmps10
    go_wp2_with fail
    refine (tisNode_no _ HT.out.c0 H0.out).mono ?_
    rintro e w' ⟨rfl, rfl⟩
    go_wp2
    go_ret2
    exact ⟨rfl, HG.out⟩
set_option maxRecDepth 100000 in
set_option maxHeartbeats 4000000 in
theorem tadd_yes {s bm : Nat} {m f : Int} {L : List Bd} (b : Bd) (w : World) (h : TA w s bm m f L) (hb : Ty.Fits m b) : Calls Try.prog 10 #[.pointer (some ⟨s, 0, none⟩), VB b] w fun e w' => e = .returned (.tuple #[.bool (!Ty.has L b.1), .int .i64 0]) ∧ TA w' s bm m f (Ty.add L b) ∧ w.grownBy w' (some bm) := by
  have HF : Hid (Ty.Fits m b) := hb
  obtain ⟨H0, H1, H2⟩ : Hid (0 ≤ b.1 ∧ b.1 < m) ∧ Hid (Ty.big b.2.1) ∧ Hid (Ty.big b.2.2) := hb
  obtain ⟨W, hW⟩ : ∃ W, w.alloc (BB b) = W := ⟨_, rfl⟩
  have HG : Hid (w.grownBy W none) := by rw [← hW]; exact World.grownBy_alloc _ _ none
  have HT : Hid (TA W s bm m f L) := h.still HG.out
  obtain ⟨A, hA⟩ : ∃ A, w.heap.size = A := ⟨_, rfl⟩
  have HX : Hid (W.heap[A]? = some (BB b)) := by rw [← hW, ← hA]; exact heap_alloc_new _ _
  have HAL : Hid (A < W.heap.size) := (Array.getElem?_eq_some_iff.1 HX.out).1
  have HSW : Hid (s < W.heap.size ∧ bm < W.heap.size) := ⟨HT.out.lt.1, HT.out.lt.2.1⟩
  obtain ⟨g, hg⟩ : ∃ g, Ty.get L b.1 = g := ⟨_, rfl⟩
  obtain ⟨hs, hhs⟩ : ∃ hs, Ty.has L b.1 = hs := ⟨_, rfl⟩
  have HUP : Hid (∀ V, Below W.heap.size W V → TA V s bm m f L ∧ V.heap[A]? = some (BB b)) := fun V hV => ⟨HT.out.up hV, (hV.block A HAL.out).trans HX.out⟩
  have HS : Hid (∀ V, Below W.heap.size W V → V.cell? ⟨s, 1, none⟩ = some (.map (some bm)) ∧ V.cell? ⟨A, 0, none⟩ = some (.int .i64 b.1) ∧ (Instr.lookup 63 (.map (some bm)) (.int .i64 b.1) true).run Try.prog V = .ok (.tuple #[VB g, .bool hs]) V) := fun V hV => by
    obtain ⟨h1, h2⟩ := HUP.out V hV
    refine ⟨h1.c1, (bid_of h2).1.1, ?_⟩
    have := h1.ma.look2 b.1
    rwa [hg, hhs] at this
  rw [hhs]
  have HW : Hid (w.alloc (BB b) = W) := hW
  have HA : Hid (w.heap.size = A) := hA
  clear h hg hhs hW hA
  go_enter Try.func10, Try.ntmps10
  go_wp2_with fail
  rw [HW.out, HA.out]
  refine (tisNode_yes _ HT.out.c0 H0.out).mono ?_
  rintro e w' ⟨rfl, rfl⟩
  obtain ⟨⟨x0, x1, x2⟩, -⟩ := bid_of HX.out
  go_wp2_with fail
  refine (tfits_yes _ H1.out).mono ?_
  rintro e w' ⟨rfl, rfl⟩
  go_wp2_with fail
  refine (tfits_yes _ H2.out).mono ?_
  rintro e w' ⟨rfl, rfl⟩
  clear x0 x1 x2
  go_wp2_with fail
  go_region_held3 (fun V => V.cell? ⟨s, 1, none⟩ = some (.map (some bm)) ∧ V.cell? ⟨A, 0, none⟩ = some (.int .i64 b.1) ∧ (Instr.lookup 63 (.map (some bm)) (.int .i64 b.1) true).run Try.prog V = .ok (.tuple #[VB g, .bool hs]) V) (first | exact HS.out _ (by (repeat (first | with_reducible assumption | with_reducible exact Below.refl _ _ | with_reducible refine bel_drew ?_ | with_reducible refine Below.setCell ?_ (by first | exact Nat.le_refl _ | assumption | (simp; done)) _ | with_reducible refine Below.alloc ?_ (by first | exact Nat.le_refl _ | assumption) _)))) (fail)
  all_goals
    obtain ⟨V, hV⟩ : ∃ V, (w'.alloc (.cells #[.int .i64 g.1, .int .i64 g.2.1, .int .i64 g.2.2] 32)).drew = V := ⟨_, rfl⟩
    have HV : Hid (Below w'.heap.size w' V) := by rw [← hV]; exact bel_drew ((Below.refl _ _).alloc (Nat.le_refl _) _)
    rw [hV]
    obtain ⟨hTV, hXV⟩ := HUP.out V HV.out
    have HTV : Hid (TA V s bm m f L) := hTV
    have HXV : Hid (V.heap[A]? = some (BB b)) := hXV
    clear hV hTV hXV
    go_wp2_with fail
    have HS0 : Hid ((fun V : World => V.cell? ⟨s, 1, none⟩ = some (.map (some bm)) ∧ V.cell? ⟨A, 0, none⟩ = some (.int .i64 b.1) ∧ V.cell? ⟨A, 1, none⟩ = some (.int .i64 b.2.1) ∧ V.cell? ⟨A, 2, none⟩ = some (.int .i64 b.2.2)) V.drew) := ⟨HTV.out.c1, (bid_of HXV.out).1⟩
    refine Late.start (fun V => V.cell? ⟨s, 1, none⟩ = some (.map (some bm)) ∧ V.cell? ⟨A, 0, none⟩ = some (.int .i64 b.1) ∧ V.cell? ⟨A, 1, none⟩ = some (.int .i64 b.2.1) ∧ V.cell? ⟨A, 2, none⟩ = some (.int .i64 b.2.2)) 7 (by kernel_rfl) ?_
    refine Late.take 0 (.pointer (some ⟨s, 0, none⟩)) rfl (by kernel_rfl) (by kernel_rfl) (by kernel_rfl) (by kernel_rfl) rfl (fun V hV => by obtain ⟨hV1, hV2, hV3, hV4⟩ := hV; go_simp) HS0.out ?_
    refine Late.take 1 (.pointer (some ⟨s, 0, none⟩)) rfl (by kernel_rfl) (by kernel_rfl) (by kernel_rfl) (by kernel_rfl) rfl (fun V hV => by obtain ⟨hV1, hV2, hV3, hV4⟩ := hV; go_simp) HS0.out ?_
    refine Late.take 2 (.pointer (some ⟨s, 1, none⟩)) rfl (by kernel_rfl) (by kernel_rfl) (by kernel_rfl) (by kernel_rfl) rfl (fun V hV => by obtain ⟨hV1, hV2, hV3, hV4⟩ := hV; go_simp) HS0.out ?_
    refine Late.take 3 (.map (some bm)) rfl (by kernel_rfl) (by kernel_rfl) (by kernel_rfl) (by kernel_rfl) rfl (fun V hV => by obtain ⟨hV1, hV2, hV3, hV4⟩ := hV; go_simp) HS0.out ?_
    refine Late.take 4 (.pointer (some ⟨A, 0, none⟩)) rfl (by kernel_rfl) (by kernel_rfl) (by kernel_rfl) (by kernel_rfl) rfl (fun V hV => by obtain ⟨hV1, hV2, hV3, hV4⟩ := hV; go_simp) HS0.out ?_
    refine Late.take 5 (.int .i64 b.1) rfl (by kernel_rfl) (by kernel_rfl) (by kernel_rfl) (by kernel_rfl) rfl (fun V hV => by obtain ⟨hV1, hV2, hV3, hV4⟩ := hV; go_simp) HS0.out ?_
    refine Late.take 6 (VB b) rfl (by kernel_rfl) (by kernel_rfl) (by kernel_rfl) (by kernel_rfl) rfl (fun V hV => by obtain ⟨hV1, hV2, hV3, hV4⟩ := hV; go_simp) HS0.out ?_
    generalize haa : Act.put _ _ _ = aa
    refine Late.one 7 rfl (by kernel_rfl) rfl ?_
    have HMD : Hid (MA V.drew bm m L) := HTV.out.ma.kept rfl
    obtain ⟨w2, hrun, hm2, hg2⟩ := HMD.out.upd b HF.out
    have hgV : w.grownBy V.drew (some bm) := ⟨(bel_drew HV.out).os.trans HG.out.os, (bel_drew HV.out).tape.trans HG.out.tape, (bel_drew HV.out).output.trans HG.out.output, Nat.le_trans HG.out.size HV.out.size, fun k hk _ => (HV.out.block k (Nat.lt_of_lt_of_le hk HG.out.size)).trans (HG.out.block k hk (by simp))⟩
    have HE : Hid (TA w2 s bm m f (Ty.add L b) ∧ w.grownBy w2 (some bm)) := ⟨(HTV.out.kept (w' := V.drew) rfl rfl).put hg2 hm2, grown_trans hgV hg2⟩
    have ea : aa.eval (.tmp 38) = .map (some bm) ∧ aa.eval (.tmp 40) = .int .i64 b.1 ∧ aa.eval (.tmp 41) = VB b := by
      rw [← haa]
      simp [Act.eval, Act.put]
    simp only [List.getElem_toArray, List.getElem_cons_succ, List.getElem_cons_zero]
    unfold Oper.wp
    clear hm2 hg2 hgV
    simp only [execOp, ea.1, ea.2.1, ea.2.2, hrun, Sem.run_bind, Sem.run_pure, Result.andThen]
    refine ⟨fun h => absurd rfl h, ?_⟩
    refine Late.done (by kernel_rfl) ?_
    clear ea
    subst haa
    simp only [Exit.then, Act.put, List.setIfInBounds_toArray]
    clear hrun
    go_wp2
    go_ret2
    exact ⟨rfl, HE.out.1, HE.out.2⟩
end Go.Proofs.Ytdcknokggjbebaa
