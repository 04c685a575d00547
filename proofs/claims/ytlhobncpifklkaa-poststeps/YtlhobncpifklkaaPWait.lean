/-
  post: Waiting: the numbers of all that wait, rising, in new memory; and the statements' own Ints.
-/
import Derived.Test.YtlhobncpifklkaaPTake
namespace Go.Proofs.Ytlhobncpifklkaa
open Go.RowKit

/-- The value v stands for the list l of ints. -/
def IntsAt (w : World) (v : Value) (l : List Int) : Prop :=
  (∃ ao cap, v = .slice ao 0 cap ∧ l = []) ∨
  (∃ b off cap, v = .slice (some ⟨b, off, none⟩) l.length cap ∧ b < w.heap.size ∧ 0 < l.length ∧ l.length ≤ cap ∧ cap ≤ maxLen ∧
    ∀ i, i < l.length → w.cell? ⟨b, off + i, none⟩ = some (.int .i64 (l.getD i 0)))
theorem IntsAt.kept {w w' : World} {v : Value} {l : List Int} {row : Option Nat} (h : IntsAt w v l) (hg : w.grownBy w' row) (hne : ∀ j, row = some j → v.ownBlock ≠ some j) : IntsAt w' v l := by
  rcases h with h | ⟨b, off, cap, rfl, hb, hp, hc, hm, hx⟩
  · exact .inl h
  · refine .inr ⟨b, off, cap, rfl, Nat.lt_of_lt_of_le hb hg.size, hp, hc, hm, fun i hi => hg.cell (hx i hi) ?_⟩
    intro e
    exact hne b e.symm rfl
theorem IntsAt.still {w w' : World} {v : Value} {l : List Int} (h : IntsAt w v l) (hg : w.grownBy w' none) : IntsAt w' v l := h.kept hg (fun j hj => by cases hj)

set_option maxHeartbeats 1000000 in
theorem ints_same (u v : Value) (l : List Int) (w : World) (hu : IntsAt w u l) (hv : IntsAt w v l) :
    Calls Try.prog 17 #[u, v] w fun e w' => e = .returned (.bool true) ∧ w.grownBy w' none := by
  rcases hu with ⟨ao, cap, rfl, rfl⟩ | ⟨b, off, cap, rfl, hB, hp, hlc, hm, hx⟩
  · rcases hv with ⟨ao', cap', rfl, _⟩ | ⟨b', off', cap', rfl, hB', hp', hlc', hm', hx'⟩
    · go_enter Try.func17, Try.ntmps17
      go_wp2
      refine wp_loop_rounds 1 ?_
      rw [rounds_succ]
      go_wp2
      go_ret
      exact ⟨rfl, grown_refl _ _⟩
    · simp at hp'
  · rcases hv with ⟨ao', cap', rfl, rfl⟩ | ⟨b', off', cap', rfl, hB', hp', hlc', hm', hx'⟩
    · simp at hp
    · unfold maxLen at hm hm'
      obtain ⟨n, hn⟩ : ∃ n, l.length = n := ⟨_, rfl⟩
      rw [hn] at hp hlc hlc' hx hx' ⊢
      have HX : Hid ((∀ i, i < n → w.cell? ⟨b, off + i, none⟩ = some (.int .i64 (l.getD i 0))) ∧ ∀ i, i < n → w.cell? ⟨b', off' + i, none⟩ = some (.int .i64 (l.getD i 0))) := ⟨hx, hx'⟩
      clear hn hx hx' hp'
      go_enter Try.func17, Try.ntmps17
      go_wp2
      go_loopw [8] (fun i wr => ∃ k : Nat, k ≤ n ∧ i = .int .i64 k ∧ Below w.heap.size w wr) (fun i _ => n - (intOf i).toNat)
      case atStart => exact ⟨0, Nat.zero_le _, rfl, Below.refl _ _⟩
      case round =>
        obtain ⟨k, hk, rfl, hbl⟩ := hrel
        by_cases hlt : k < n
        · have c0 := HX.out.1 k hlt
          have c1 := HX.out.2 k hlt
          rw [← hbl.cell (p := ⟨b, off + k, none⟩) hB] at c0
          rw [← hbl.cell (p := ⟨b', off' + k, none⟩) hB'] at c1
          generalize l.getD k 0 = s at c0 c1
          have hg : decide ((n : Int) ≤ (k : Int)) = false := by simp; omega
          have hlt' : (k : Int) < (n : Int) := by omega
          go_wp2
          go_quiet (fail)
          go_wp2
          go_roundw
          case rel => exact ⟨k + 1, by omega, by go_num, Go.below_drewN hbl _⟩
          case measure => simp [intOf]; omega
        · obtain rfl : k = n := by omega
          go_wp2
          go_ret
          exact ⟨rfl, grown_of_below hbl _⟩
theorem info3 : (Try.prog.info? 3).map (fun i => (i.zero, i.size, i.bytes)) = some (some (.int .i64 0), 1, 8) := by kernel_rfl

theorem waiting_nil (w : World) : Calls Try.prog 26 #[.pointer none] w fun e w' => e = .returned (.slice none 0 0) ∧ w' = w := by
  go_enter Try.func26, Try.ntmps26
  go_wp2
  go_ret
  exact ⟨rfl, rfl⟩

theorem wait_step {wr : World} {R k : Nat} {kv : Value} (hkv : wr.cell? ⟨R, k, none⟩ = some kv) (hR : R < wr.heap.size) (v : Value) (o : Obj) (j : Nat) :
    ((wr.setCell ⟨R, k, none⟩ v).alloc o).cell? ⟨R, j, none⟩ = (if j = k then some v else wr.cell? ⟨R, j, none⟩) ∧ ((wr.setCell ⟨R, k, none⟩ v).alloc o).frozen? ⟨R, j, none⟩ = wr.frozen? ⟨R, j, none⟩ := by
  have hsz : (wr.setCell ⟨R, k, none⟩ v).heap.size = wr.heap.size := by simp [World.setCell]
  have hg := World.grownBy_alloc (wr.setCell ⟨R, k, none⟩ v) o none
  constructor
  · rw [World.cell?_of_block (hg.block R (by rw [hsz]; exact hR) (by simp))]
    split
    · rename_i e
      subst e
      exact World.cell?_setCell_same _ _ _ hkv
    · rename_i e
      exact World.cell?_setCell_other _ _ _ _ (fun e2 => e (by cases e2; rfl))
  · rw [World.frozen?_of_block (hg.block R (by rw [hsz]; exact hR) (by simp))]
    exact World.frozen?_setCell _ _ _ _

set_option maxHeartbeats 1000000 in
set_option maxRecDepth 100000 in
theorem waiting_any {s : Nat} {nodes last : Int} {v : Value} {ls : List Po.Lt} (w : World) (h : PostAt w s nodes last v ls) :
    Calls Try.prog 26 #[.pointer (some ⟨s, 0, none⟩)] w fun e w' => ∃ cp, e = .returned (.slice (some ⟨w.heap.size, 0, none⟩) ls.length cp) ∧ IntsAt w' (.slice (some ⟨w.heap.size, 0, none⟩) ls.length cp) (ls.map (·.1)) ∧ w.grownBy w' none := by
  obtain ⟨i0, hi, hz0, hz1, hz2⟩ := info_parts info3
  obtain ⟨_, _, c2⟩ := h.cells
  have hlen := h.good.len
  have hsw := h.lt
  have HP : Hid (PostAt w s nodes last v ls) := h
  rcases h.row.2 with ⟨rfl, h0⟩ | ⟨g, cap, cur, rfl, hsg, hgb, hnc, hcm, _⟩
  · have e0 : ls = [] := List.eq_nil_of_length_eq_zero h0
    subst e0
    clear h
    go_enter Try.func26, Try.ntmps26
    go_wp2_with (at_make; refine wpList_make_full _ rfl _ _ 39 rfl w.heap.size 3 i0 (.int .i64 0) 1 Try.underlying39 hi hz0 hz1 _ _ _ _ 0 rfl rfl rfl rfl (by rw [hz2]; omega) (by unfold maxLen; omega) (Nat.le_refl _) ?_; intro w1 hown1 hg1; have c2' := hg1.cell c2 (by simp))
    have HG : Hid (w.grownBy w1 none) := hg1
    clear hown1 hg1
    refine wp_loop_rounds 1 ?_
    rw [rounds_succ]
    go_wp2
    go_ret
    exact ⟨_, rfl, .inl ⟨_, _, rfl, rfl⟩, HG.out⟩
  · clear h
    have hgw : g < w.heap.size := (Array.getElem?_eq_some_iff.1 hgb).1
    unfold maxLen at hcm
    go_enter Try.func26, Try.ntmps26
    obtain ⟨n, hn⟩ : ∃ n, ls.length = n := ⟨_, rfl⟩
    rw [hn] at c2 hlen hnc
    have HN : Hid (ls.length = n) := hn
    clear hn hgb
    have HX : Hid (∀ i, i < n → w.cell? ⟨g, i * 4, none⟩ = some (.int .i64 (ls.getD i Po.d0).1) ∧ w.cell? ⟨g, i * 4 + 1, none⟩ = some (.int .i64 (ls.getD i Po.d0).2.1) ∧ w.cell? ⟨g, i * 4 + 2, none⟩ = some (.int .i64 (ls.getD i Po.d0).2.2.1) ∧ w.cell? ⟨g, i * 4 + 3, none⟩ = some (.string (ls.getD i Po.d0).2.2.2)) := fun i hi => row_at HP.out.row (by rw [HN.out]; exact hi)
    go_wp2_with (at_make; refine wpList_make_full _ rfl _ _ 39 rfl w.heap.size 3 i0 (.int .i64 0) 1 Try.underlying39 hi hz0 hz1 _ _ _ _ n rfl rfl rfl rfl (by rw [hz2]; omega) (by unfold maxLen; omega) (Nat.le_refl _) ?_; intro w1 hown1 hg1; have c2' := hg1.cell c2 (by simp))
    have HB1 : Hid (Below w.heap.size w w1) := below_none hg1 (Nat.le_refl _)
    have HR1 : Hid (∀ j, j < n → (w1.cell? ⟨w.heap.size, j, none⟩).isSome = true ∧ w1.frozen? ⟨w.heap.size, j, none⟩ = false) := fun j hj => by
      rcases hown1.2 with ⟨hv, _⟩ | ⟨g', cap', cur', hv, _, hb', hn', _, hcs', _⟩
      · cases hv
      cases hv
      constructor
      · simp [World.cell?, hb']; omega
      · simp [World.frozen?, hb']
    have hsz1 : w.heap.size < w1.heap.size := by
      rcases hown1.2 with ⟨hv, _⟩ | ⟨g', cap', cur', hv, _, hb', _⟩
      · cases hv
      cases hv
      exact (Array.getElem?_eq_some_iff.1 hb').1
    clear hown1 hg1
    go_loopw [19] (fun i wr => ∃ k : Nat, k ≤ n ∧ i = .int .i64 k ∧ Below w.heap.size w wr ∧ w.heap.size < wr.heap.size ∧ Hid (∀ j, j < n → (wr.cell? ⟨w.heap.size, j, none⟩).isSome = true ∧ wr.frozen? ⟨w.heap.size, j, none⟩ = false) ∧ Hid (∀ j, j < k → wr.cell? ⟨w.heap.size, j, none⟩ = some (.int .i64 (ls.getD j Po.d0).1))) (fun i _ => n - (intOf i).toNat)
    case atStart => exact ⟨0, Nat.zero_le _, rfl, HB1.out, hsz1, HR1, fun j hj => absurd hj (Nat.not_lt_zero _)⟩
    case round =>
      obtain ⟨k, hk, rfl, hbl, hszr, HR, HD⟩ := hrel
      by_cases hlt : k < n
      · obtain ⟨r0, r1, r2, r3⟩ := HX.out k hlt
        rw [← hbl.cell (p := ⟨g, k * 4, none⟩) hgw] at r0
        rw [← hbl.cell (p := ⟨g, k * 4 + 1, none⟩) hgw] at r1
        rw [← hbl.cell (p := ⟨g, k * 4 + 2, none⟩) hgw] at r2
        rw [← hbl.cell (p := ⟨g, k * 4 + 3, none⟩) hgw] at r3
        have HY : Hid ((ls.getD k Po.d0).1 = (ls.getD k Po.d0).1) := rfl
        generalize hy : ls.getD k Po.d0 = y at r0 r1 r2 r3
        have HYY : Hid (ls.getD k Po.d0 = y) := hy
        clear hy HY
        obtain ⟨y0, y1, y2, y3⟩ := y
        simp only at r0 r1 r2 r3
        obtain ⟨hks, hkf⟩ := HR.out k hlt
        obtain ⟨kv, hkv⟩ := Option.isSome_iff_exists.1 hks
        have hkI : (k : Int) < (n : Int) := by omega
        clear hks
        go_wp2
        go_roundw
        case rel =>
          refine ⟨k + 1, by omega, by go_num, (hbl.setCell (p := ⟨w.heap.size, k, none⟩) (Nat.le_refl _) _).alloc (by simp [World.setCell]; omega) _, by simp [World.setCell]; omega, fun j hj => ?_, fun j hj => ?_⟩
          · obtain ⟨h1, h2⟩ := HR.out j hj
            rw [(wait_step hkv hszr _ _ j).1, (wait_step hkv hszr _ _ j).2]
            refine ⟨?_, h2⟩
            split
            · rfl
            · exact h1
          · rw [(wait_step hkv hszr _ _ j).1]
            split
            · rename_i e
              subst e
              rw [HYY.out]
            · exact HD.out j (by omega)
        case measure => simp [intOf]; omega
      · obtain rfl : k = n := by omega
        have HE : Hid (IntsAt wr (.slice (some ⟨w.heap.size, 0, none⟩) ls.length k) (ls.map (·.1))) := by
          by_cases hp : 0 < k
          · refine Or.inr ⟨w.heap.size, 0, k, by simp [HN.out], hszr, by simp [HN.out]; exact hp, by simp [HN.out], by unfold maxLen; omega, fun i hi => ?_⟩
            have hi' : i < ls.length := by simpa using hi
            have := HD.out i (by rw [← HN.out]; exact hi')
            rw [Nat.zero_add, this]
            simp [List.getD, hi']
          · have e0 : ls = [] := List.eq_nil_of_length_eq_zero (by rw [HN.out]; omega)
            exact Or.inl ⟨_, _, by rw [e0]; rfl, by rw [e0]; rfl⟩
        rw [HN.out] at HE
        clear HR HD
        go_wp2
        go_ret
        have e := HN.out
        exact ⟨_, by rw [e]; rfl, by rw [e]; exact HE.out, grown_of_below hbl _⟩
end Go.Proofs.Ytlhobncpifklkaa
