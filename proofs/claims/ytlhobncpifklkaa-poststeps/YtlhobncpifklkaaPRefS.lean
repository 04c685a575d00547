/-
  The reference's post: See, at any one that stands for a list of letters.
-/
import Derived.Test.YtlhobncpifklkaaPRefA
import Derived.Deep.CutRange
namespace Go.Proofs.Ytlhobncpifklkaa
namespace Po
theorem get_here {L : List Lt} {n : Int} {j : Nat} (hj : j < L.length) (h : get (L.take j) n = none) (he : (L.getD j d0).1 = n) : get L n = some (L.getD j d0) := by
  induction L generalizing j with
  | nil => simp at hj
  | cons p L ih =>
    match j, hj with
    | 0, _ =>
      simp only [List.getD_cons_zero] at he ⊢
      rw [get_cons, if_pos he]
    | j + 1, hj =>
      rw [List.take_succ_cons, get_cons] at h
      split at h
      · cases h
      · rename_i hp
        simp only [List.getD_cons_succ] at he ⊢
        rw [get_cons, if_neg hp]
        exact ih (by simpa using hj) h he
theorem get_more {L : List Lt} {n : Int} {j : Nat} (hj : j < L.length) (h : get (L.take j) n = none) (he : ¬ (L.getD j d0).1 = n) : get (L.take (j + 1)) n = none := by
  rw [get_none] at h ⊢
  intro p hp
  rw [List.take_succ_eq_append_getElem hj] at hp
  rcases List.mem_append.1 hp with hp | hp
  · exact h p hp
  · rw [List.mem_singleton.1 hp]
    have e : L.getD j d0 = L[j] := by simp [List.getD, hj]
    rwa [e] at he
theorem drop_more {L : List Lt} {j : Nat} (hj : j < L.length) (n : Int) : drop (L.take (j + 1)) n = if (L.getD j d0).1 = n then drop (L.take j) n else drop (L.take j) n ++ [L.getD j d0] := by
  have e : L.getD j d0 = L[j] := by simp [List.getD, hj]
  rw [List.take_succ_eq_append_getElem hj, e]
  unfold drop
  rw [List.filter_append]
  by_cases h : L[j].1 = n
  · rw [if_pos h]
    simp [h]
  · rw [if_neg h]
    simp [h]
end Po
theorem row_slice {w : World} {base : Nat} {e : TypeId} {sz : Nat} {v : Value} {n : Nat} {xs : List Value} (h : w.ownsRow base e sz v n xs) : ∃ ao cp, v = .slice ao n cp := by
  rcases h.2 with ⟨rfl, h0⟩ | ⟨g, cap, cur, rfl, _⟩
  · exact ⟨_, _, by rw [h0]⟩
  · exact ⟨_, _, rfl⟩
namespace Rf
open Go.RowKit

theorem row_at {w : World} {base g cap : Nat} {ls : List Po.Lt} (h : w.ownsRow base 72 4 (.slice (some ⟨g, 0, none⟩) ls.length cap) ls.length (Po.cells ls)) {i : Nat} (hi : i < ls.length) :
    w.cell? ⟨g, i * 4, none⟩ = some (.int .i64 (ls.getD i Po.d0).1) ∧ w.cell? ⟨g, i * 4 + 1, none⟩ = some (.int .i64 (ls.getD i Po.d0).2.1) ∧ w.cell? ⟨g, i * 4 + 2, none⟩ = some (.int .i64 (ls.getD i Po.d0).2.2.1) ∧ w.cell? ⟨g, i * 4 + 3, none⟩ = some (.string (ls.getD i Po.d0).2.2.2) := by
  obtain ⟨h0, h1, h2, h3⟩ := Po.cells_at ls i hi
  have q0 := h.cells (g := g) rfl _ _ h0
  have q1 := h.cells (g := g) rfl _ _ h1
  have q2 := h.cells (g := g) rfl _ _ h2
  have q3 := h.cells (g := g) rfl _ _ h3
  rw [Go.WideShapes.add_plain, Nat.zero_add] at q0 q1 q2 q3
  exact ⟨q0, q1, q2, q3⟩
abbrev Z4 : Obj := .cells #[.int .i64 0, .int .i64 0, .int .i64 0, .string ⟨#[]⟩] 72
abbrev B4 (x0 x1 x2 : Int) (x3 : ByteArray) : Obj := .cells #[.int .i64 x0, .int .i64 x1, .int .i64 x2, .string x3] 72

set_option maxHeartbeats 1000000 in
set_option maxRecDepth 100000 in
theorem see_any {s : Nat} {nodes last : Int} {v : Value} {ls : List Po.Lt} (n : Int) (w : World) (h : PostAt w s nodes last v ls) : Calls Try.prog 43 #[.pointer (some ⟨s, 0, none⟩), .int .i64 n] w fun e w' => e = .returned (.tuple #[letter ((Po.get ls n).getD Po.d0), .int .i64 (seeErr (Po.get ls n))]) ∧ w.grownBy w' none := by
  obtain ⟨_, _, c2⟩ := h.cells
  have hs := h.lt
  obtain ⟨ao, cp, rfl⟩ := row_slice h.row
  have HR : Hid (PostAt w s nodes last (.slice ao ls.length cp) ls) := h
  obtain ⟨m, hm⟩ : ∃ m, ls.length = m := ⟨_, rfl⟩
  have HM : Hid (ls.length = m) := hm
  have hl : m ≤ 2048 := by rw [← hm]; exact h.good.len
  rw [hm] at c2
  clear h hm
  have HA : Hid ((w.alloc Z4).heap[w.heap.size]? = some Z4) := heap_alloc_new _ _
  have HGA : Hid (w.grownBy (w.alloc Z4) none) := World.grownBy_alloc _ _ _
  have HSZ : Hid ((w.alloc Z4).heap.size = w.heap.size + 1) := World.size_alloc _ _
  go_enter Try.func43, Try.ntmps43
  go_wp2
  generalize w.alloc Z4 = w0 at HA HGA HSZ ⊢
  go_loopw [13] (fun i wr => ∃ j : Nat, j ≤ m ∧ i = .int .i64 j ∧ Hid (Po.get (ls.take j) n = none) ∧ Hid (w0.grownBy wr none))
    (fun i _ => m - (intOf i).toNat)
  case atStart => exact ⟨0, Nat.zero_le _, rfl, rfl, grown_refl _ _⟩
  case round =>
    obtain ⟨j, hjm, rfl, HF, HG⟩ := hrel
    have hA : wr.heap[w.heap.size]? = some Z4 := (HG.out.block w.heap.size (by have := HSZ.out; omega) (by simp)).trans HA.out
    obtain ⟨⟨a0, a1, a2, a3⟩, af⟩ := four_of hA
    have HGW : Hid (w.grownBy wr none) := grown_trans HGA.out HG.out
    have hAlt : ¬ (w.heap.size = wr.heap.size) := by have := HSZ.out; have := HG.out.size; omega
    by_cases hjl : j < m
    · have hjs : j < ls.length := by have := HM.out; omega
      rcases HR.out.row.2 with ⟨e, h0⟩ | ⟨g, cp', cur, e, hbg, _⟩
      · have := HM.out
        omega
      injection e with e1 e2 e3
      subst e1 e3
      obtain ⟨q0, q1, q2, q3⟩ := row_at HR.out.row hjs
      have k0 := HGW.out.cell q0 (by simp)
      have k1 := HGW.out.cell q1 (by simp)
      have k2 := HGW.out.cell q2 (by simp)
      have k3 := HGW.out.cell q3 (by simp)
      clear q0 q1 q2 q3 hbg
      by_cases he : (ls.getD j Po.d0).1 = n
      · have HE : Hid (Po.get ls n = some (ls.getD j Po.d0)) := Po.get_here hjs HF.out he
        generalize ls.getD j Po.d0 = x at k0 k1 k2 k3 HE he
        obtain ⟨x0, x1, x2, x3⟩ := x
        simp only at k0 k1 k2 k3 HE he
        subst he
        go_upto_region 5 with fail
        have HG2 : Hid (w.grownBy (wr.alloc (.cells #[.int .i64 x0, .int .i64 x1, .int .i64 x2, .string x3] 72)) none) := grown_trans HGW.out (World.grownBy_alloc _ _ _)
        have hA2 : (wr.alloc (.cells #[.int .i64 x0, .int .i64 x1, .int .i64 x2, .string x3] 72)).heap[w.heap.size]? = some Z4 := (Below.heap_alloc _ _ _ (Array.getElem?_eq_some_iff.1 hA).1).trans hA
        have hB2 : (wr.alloc (.cells #[.int .i64 x0, .int .i64 x1, .int .i64 x2, .string x3] 72)).heap[wr.heap.size]? = some (.cells #[.int .i64 x0, .int .i64 x1, .int .i64 x2, .string x3] 72 (0, 0)) := heap_alloc_new _ _
        clear a0 a1 a2 a3 af hA
        generalize wr.alloc (.cells #[.int .i64 x0, .int .i64 x1, .int .i64 x2, .string x3] 72) = W at HG2 hA2 hB2 ⊢
        obtain ⟨⟨a0, a1, a2, a3⟩, af⟩ := four_of hA2
        obtain ⟨⟨b0, b1, b2, b3⟩, bf⟩ := four_of hB2
        clear hA2 hB2 k0 k1 k2 k3
        go_wp2
        (try simp only [Exit.inBlock, Exit.then])
        refine bodyPost_ret (v := .tuple #[letter (x0, x1, x2, x3), .int .i64 0]) ?_ rfl ⟨by rw [HE.out]; rfl, ?_⟩
        · rw [results_cell_tmp rfl]
          unfold letter
          go_simp
        · exact grown_set (grown_set (grown_set (grown_set HG2.out (Nat.le_refl _) _) (Nat.le_refl _) _) (Nat.le_refl _) _) (Nat.le_refl _) _
      · have HE : Hid (Po.get (ls.take (j + 1)) n = none) := Po.get_more hjs HF.out he
        generalize ls.getD j Po.d0 = x at k0 k1 k2 k3 he
        obtain ⟨x0, x1, x2, x3⟩ := x
        simp only at k0 k1 k2 k3 he
        go_wp2
        go_roundw
        case rel => exact ⟨j + 1, by omega, by go_num, HE, grown_trans HG.out (World.grownBy_alloc _ _ _)⟩
        case measure => simp [intOf]; omega
    · obtain rfl : j = m := by omega
      have HE : Hid (Po.get ls n = none) := by
        have : Po.get ls n = none := by
          have := HF.out
          rw [← HM.out, List.take_length] at this
          exact this
        exact this
      go_wp2
      (try simp only [Exit.inBlock, Exit.then])
      refine bodyPost_ret (v := .tuple #[letter Po.d0, .int .i64 6]) ?_ rfl ⟨by rw [HE.out]; rfl, ?_⟩
      · rw [results_cell_tmp rfl]
        unfold letter
        go_simp
      · exact grown_set (grown_set (grown_set (grown_set HGW.out (Nat.le_refl _) _) (Nat.le_refl _) _) (Nat.le_refl _) _) (Nat.le_refl _) _
theorem see_none {s : Nat} {nodes last : Int} {v : Value} {ls : List Po.Lt} (n : Int) (w : World) (h : PostAt w s nodes last v ls) (hg : Po.get ls n = none) : Calls Try.prog 43 #[.pointer (some ⟨s, 0, none⟩), .int .i64 n] w fun e w' => e = .returned (.tuple #[letter Po.d0, .int .i64 6]) ∧ w.grownBy w' none := by
  have := see_any n w h
  rw [hg] at this
  exact this
theorem see_some {s : Nat} {nodes last : Int} {v : Value} {ls : List Po.Lt} {x : Po.Lt} (n : Int) (w : World) (h : PostAt w s nodes last v ls) (hg : Po.get ls n = some x) : Calls Try.prog 43 #[.pointer (some ⟨s, 0, none⟩), .int .i64 n] w fun e w' => e = .returned (.tuple #[letter x, .int .i64 0]) ∧ w.grownBy w' none := by
  have := see_any n w h
  rw [hg] at this
  exact this
end Rf
end Go.Proofs.Ytlhobncpifklkaa
