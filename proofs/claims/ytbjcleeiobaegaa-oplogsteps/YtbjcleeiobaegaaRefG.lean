/-
  The reference's log: Get, at any one that stands for a list of items.
-/
import Derived.Test.YtbjcleeiobaegaaRefA
namespace Go.Proofs.Ytbjcleeiobaegaa
namespace Rf
open Go.RowKit

set_option maxHeartbeats 2000000 in
set_option maxRecDepth 100000 in
theorem get_any {s : Nat} {base : Int} {v : Value} {ls : List Ol.It} (n : Int) (w : World) (h : LogAt w s base v ls) : Calls Try.prog 12 #[.pointer (some ⟨s, 0, none⟩), .int .i64 n] w fun e w' => e = .returned (.tuple #[item (Ol.at base ls n), .int .i64 (Ol.getErr base ls.length n)]) ∧ w.grownBy w' none := by
  obtain ⟨c0, c1⟩ := h.cells
  have hs := h.lt
  have g0 := h.good.zero
  have g1 := h.good.top
  obtain ⟨ao, cp, rfl, hx⟩ := h.open
  have HX : Hid (∀ j, j < ls.length → ∃ b off, ao = some ⟨b, off, none⟩ ∧ b < w.heap.size ∧ fourAt w b (off + j * 4) (ls.getD j Ol.d0)) := hx
  obtain ⟨m, hm⟩ : ∃ m, ls.length = m := ⟨_, rfl⟩
  have HM : Hid (ls.length = m) := hm
  have hl : m ≤ 256 := by rw [← hm]; exact h.good.len
  rw [hm] at c1 g1 ⊢
  clear h hm hx
  have HA : Hid ((w.alloc Z4).heap[w.heap.size]? = some Z4) := heap_alloc_new _ _
  have HGA : Hid (w.grownBy (w.alloc Z4) none) := World.grownBy_alloc _ _ _
  have HSZ : Hid ((w.alloc Z4).heap.size = w.heap.size + 1) := World.size_alloc _ _
  by_cases hgone : 1 ≤ n ∧ n ≤ base
  · have HE : Hid (item (Ol.at base ls n) = item Ol.d0 ∧ Ol.getErr base m n = 50) := by
      have : item (Ol.at base ls n) = item Ol.d0 ∧ Ol.getErr base m n = 50 := by
        unfold Ol.at Ol.getErr
        rw [if_neg (by omega), if_pos hgone]
        exact ⟨rfl, rfl⟩
      exact this
    obtain ⟨h1, h2⟩ := hgone
    obtain ⟨⟨a0, a1, a2, a3⟩, af⟩ := four_of HA.out
    go_enter Try.func12, Try.ntmps12
    go_wp2
    (try simp only [Exit.inBlock, Exit.then])
    refine bodyPost_ret (v := .tuple #[item Ol.d0, .int .i64 50]) ?_ rfl ⟨by rw [HE.out.1, HE.out.2], ?_⟩
    · rw [results_cell_tmp rfl]
      unfold item
      go_simp
    · exact HGA.out
  · by_cases hn1 : n < 1
    · go_enter Try.func12, Try.ntmps12
      go_wp2
      generalize w.alloc Z4 = w0 at HA HGA HSZ ⊢
      go_loopw [24] (fun i wr => ∃ j : Nat, j ≤ m ∧ i = .int .i64 j ∧ Hid (∀ i : Nat, i < j → n ≠ base + i + 1) ∧ Hid (w0.grownBy wr none))
        (fun i _ => m - (intOf i).toNat)
      case atStart => exact ⟨0, Nat.zero_le _, rfl, (fun i hi => by omega), grown_refl _ _⟩
      case round =>
        obtain ⟨j, hjm, rfl, HF, HG⟩ := hrel
        have hA : wr.heap[w.heap.size]? = some Z4 := (HG.out.block w.heap.size (by have := HSZ.out; omega) (by simp)).trans HA.out
        obtain ⟨⟨a0, a1, a2, a3⟩, af⟩ := four_of hA
        have HGW : Hid (w.grownBy wr none) := grown_trans HGA.out HG.out
        by_cases hjl : j < m
        · have hjs : j < ls.length := by have := HM.out; omega
          obtain ⟨b, off, rfl, hb, hf⟩ := HX.out j hjs
          obtain ⟨k0, k1, k2, k3⟩ := four_grown hf HGW.out
          have cc0 := HGW.out.cell c0 (by simp)
          clear hf hb
          generalize hxd : ls.getD j Ol.d0 = x at k0 k1 k2 k3
          have HXD : Hid (ls.getD j Ol.d0 = x) := hxd
          obtain ⟨x0, x1, x2, x3⟩ := x
          simp only at k0 k1 k2 k3
          clear hxd
          have cc1 := (World.grownBy_alloc wr (.cells #[.int .i64 x0, .int .i64 x1, .int .i64 x2, .string x3] 32) none).cell cc0 (by simp)
          by_cases he : base + (j : Int) + 1 = n
          · omega
          · have HE : Hid (∀ i : Nat, i < j + 1 → n ≠ base + i + 1) := fun i hi => by
              by_cases hij : i = j
              · subst hij
                omega
              · exact HF.out i (by omega)
            go_wp2
            go_roundw
            case rel => exact ⟨j + 1, by omega, by go_num, HE, grown_trans HG.out (World.grownBy_alloc _ _ _)⟩
            case measure => simp [intOf]; omega
        · obtain rfl : j = m := by omega
          have HE : Hid (Ol.at base ls n = Ol.d0 ∧ Ol.getErr base j n = 6) := by
            have hout : ¬ (base < n ∧ n ≤ base + (j : Int)) := fun hh => HF.out (n - base - 1).toNat (by omega) (by omega)
            have : Ol.at base ls n = Ol.d0 ∧ Ol.getErr base j n = 6 := by
              unfold Ol.at Ol.getErr
              rw [if_neg (by rw [HM.out]; exact hout), if_neg (by omega), if_pos (by omega)]
              exact ⟨rfl, rfl⟩
            exact this
          clear hA
          go_wp2
          (try simp only [Exit.inBlock, Exit.then])
          refine bodyPost_ret (v := .tuple #[item Ol.d0, .int .i64 6]) ?_ rfl ⟨by rw [HE.out.1, HE.out.2], ?_⟩
          · rw [results_cell_tmp rfl]
            unfold item
            go_simp
          · exact grown_set4 HGW.out (Nat.le_refl _) _ _ _ _
    · have hnb : base < n := by omega
      go_enter Try.func12, Try.ntmps12
      go_wp2
      generalize w.alloc Z4 = w0 at HA HGA HSZ ⊢
      go_loopw [24] (fun i wr => ∃ j : Nat, j ≤ m ∧ i = .int .i64 j ∧ Hid (∀ i : Nat, i < j → n ≠ base + i + 1) ∧ Hid (w0.grownBy wr none))
        (fun i _ => m - (intOf i).toNat)
      case atStart => exact ⟨0, Nat.zero_le _, rfl, (fun i hi => by omega), grown_refl _ _⟩
      case round =>
        obtain ⟨j, hjm, rfl, HF, HG⟩ := hrel
        have hA : wr.heap[w.heap.size]? = some Z4 := (HG.out.block w.heap.size (by have := HSZ.out; omega) (by simp)).trans HA.out
        obtain ⟨⟨a0, a1, a2, a3⟩, af⟩ := four_of hA
        have HGW : Hid (w.grownBy wr none) := grown_trans HGA.out HG.out
        by_cases hjl : j < m
        · have hjs : j < ls.length := by have := HM.out; omega
          obtain ⟨b, off, rfl, hb, hf⟩ := HX.out j hjs
          obtain ⟨k0, k1, k2, k3⟩ := four_grown hf HGW.out
          have cc0 := HGW.out.cell c0 (by simp)
          clear hf hb
          generalize hxd : ls.getD j Ol.d0 = x at k0 k1 k2 k3
          have HXD : Hid (ls.getD j Ol.d0 = x) := hxd
          obtain ⟨x0, x1, x2, x3⟩ := x
          simp only at k0 k1 k2 k3
          clear hxd
          have cc1 := (World.grownBy_alloc wr (.cells #[.int .i64 x0, .int .i64 x1, .int .i64 x2, .string x3] 32) none).cell cc0 (by simp)
          by_cases he : base + (j : Int) + 1 = n
          · have HE : Hid (Ol.at base ls n = (x0, x1, x2, x3) ∧ Ol.getErr base m n = 0) := by
              have : Ol.at base ls n = (x0, x1, x2, x3) ∧ Ol.getErr base m n = 0 := by
                unfold Ol.at Ol.getErr
                rw [if_pos (by rw [HM.out]; omega), if_neg (by omega), if_neg (by omega), show (n - base - 1).toNat = j by omega]
                exact ⟨HXD.out, rfl⟩
              exact this
            have HN : Hid (n = base + (j : Int) + 1) := he.symm
            go_upto_region 7 with fail
            have HG2 : Hid (w.grownBy (wr.alloc (.cells #[.int .i64 x0, .int .i64 x1, .int .i64 x2, .string x3] 32)) none) := grown_trans HGW.out (World.grownBy_alloc _ _ _)
            have hA2 : (wr.alloc (.cells #[.int .i64 x0, .int .i64 x1, .int .i64 x2, .string x3] 32)).heap[w.heap.size]? = some Z4 := (Below.heap_alloc _ _ _ (Array.getElem?_eq_some_iff.1 hA).1).trans hA
            have hB2 : (wr.alloc (.cells #[.int .i64 x0, .int .i64 x1, .int .i64 x2, .string x3] 32)).heap[wr.heap.size]? = some (.cells #[.int .i64 x0, .int .i64 x1, .int .i64 x2, .string x3] 32 (0, 0)) := heap_alloc_new _ _
            clear a0 a1 a2 a3 af hA cc1
            generalize wr.alloc (.cells #[.int .i64 x0, .int .i64 x1, .int .i64 x2, .string x3] 32) = W at HG2 hA2 hB2 ⊢
            obtain ⟨⟨a0, a1, a2, a3⟩, af⟩ := four_of hA2
            obtain ⟨⟨b0, b1, b2, b3⟩, bf⟩ := four_of hB2
            clear hA2 hB2 k0 k1 k2 k3 cc0 he
            go_wp2
            (try simp only [Exit.inBlock, Exit.then])
            refine bodyPost_ret (v := .tuple #[item (x0, x1, x2, x3), .int .i64 0]) ?_ rfl ⟨by rw [HE.out.1, HE.out.2], ?_⟩
            · rw [results_cell_tmp rfl]
              unfold item
              go_simp
            · exact grown_set4 HG2.out (Nat.le_refl _) _ _ _ _
          · have HE : Hid (∀ i : Nat, i < j + 1 → n ≠ base + i + 1) := fun i hi => by
              by_cases hij : i = j
              · subst hij
                omega
              · exact HF.out i (by omega)
            go_wp2
            go_roundw
            case rel => exact ⟨j + 1, by omega, by go_num, HE, grown_trans HG.out (World.grownBy_alloc _ _ _)⟩
            case measure => simp [intOf]; omega
        · obtain rfl : j = m := by omega
          have HE : Hid (Ol.at base ls n = Ol.d0 ∧ Ol.getErr base j n = 6) := by
            have hout : ¬ (base < n ∧ n ≤ base + (j : Int)) := fun hh => HF.out (n - base - 1).toNat (by omega) (by omega)
            have : Ol.at base ls n = Ol.d0 ∧ Ol.getErr base j n = 6 := by
              unfold Ol.at Ol.getErr
              rw [if_neg (by rw [HM.out]; exact hout), if_neg (by omega), if_pos (by omega)]
              exact ⟨rfl, rfl⟩
            exact this
          clear hA
          go_wp2
          (try simp only [Exit.inBlock, Exit.then])
          refine bodyPost_ret (v := .tuple #[item Ol.d0, .int .i64 6]) ?_ rfl ⟨by rw [HE.out.1, HE.out.2], ?_⟩
          · rw [results_cell_tmp rfl]
            unfold item
            go_simp
          · exact grown_set4 HGW.out (Nat.le_refl _) _ _ _ _
end Rf
end Go.Proofs.Ytbjcleeiobaegaa
