/-
  The reference's post: Flip, at any one that stands for a list of letters.
-/
import Derived.Test.YtlhobncpifklkaaPRefT
import Derived.Test.YtlhobncpifklkaaPFlip
namespace Go.Proofs.Ytlhobncpifklkaa
namespace Po
theorem pos_here {L : List Lt} {n : Int} {j : Nat} (hs : L.Pairwise (fun x y => x.1 < y.1)) (hj : j < L.length) (h : get L n = some (L.getD j d0)) : pos L n = j := by
  obtain ⟨h1, h2⟩ := pos_get hs h
  have e1 : L.getD (pos L n) d0 = L[pos L n] := by simp [List.getD, h1]
  have e2 : L.getD j d0 = L[j] := by simp [List.getD, hj]
  rw [e1, e2] at h2
  rcases Nat.lt_trichotomy (pos L n) j with h3 | h3 | h3
  · have := (List.pairwise_iff_getElem.1 hs) _ _ h1 hj h3
    rw [h2] at this
    omega
  · exact h3
  · have := (List.pairwise_iff_getElem.1 hs) _ _ hj h1 h3
    rw [h2] at this
    omega
end Po
namespace Rf
open Go.RowKit

theorem row_put {W : World} {s g cap k : Nat} {nodes last : Int} {ls : List Po.Lt} (h : PostAt W s nodes last (.slice (some ⟨g, 0, none⟩) ls.length cap) ls) (hk : k < ls.length) (b : ByteArray) :
    (W.setCell ⟨g, k * 4 + 3, none⟩ (.string b)).heap[s]? = some (.cells #[.int .i64 nodes, .int .i64 last, .slice (some ⟨g, 0, none⟩) ls.length cap] 70 (0, 0)) ∧
      (W.setCell ⟨g, k * 4 + 3, none⟩ (.string b)).ownsRow (s + 1) 72 4 (.slice (some ⟨g, 0, none⟩) ls.length cap) ls.length (Po.cells (ls.take k ++ ((ls.getD k Po.d0).1, (ls.getD k Po.d0).2.1, (ls.getD k Po.d0).2.2.1, b) :: ls.drop (k + 1))) := by
  rcases h.row.2 with ⟨hv, _⟩ | ⟨g', cap', cur, hv, hbg, hb, hnc, hcm, hcs, ht⟩
  · cases hv
  cases hv
  refine ⟨?_, ?_, .inr ⟨g, cap, cur.setIfInBounds (k * 4 + 3) (.string b), rfl, hbg, ?_, hnc, hcm, by simp [hcs], ?_⟩⟩
  · rw [Below.heap_setCell _ _ _ _ (show s ≠ g by omega)]
    exact h.block
  · rw [Po.cells_length]
    simp
    omega
  · simp [World.setCell, Array.getElem?_modify, hb]
  · rw [← cells_set b ls k hk, ← ht]
    simp [List.take_set]


set_option maxHeartbeats 2000000 in
set_option maxRecDepth 100000 in
theorem flip_any {s : Nat} {nodes last : Int} {v : Value} {ls : List Po.Lt} (n bit : Int) (w : World) (h : PostAt w s nodes last v ls) (hbi : bit ≤ 9223372036854775807) :
    Calls Try.prog 41 #[.pointer (some ⟨s, 0, none⟩), .int .i64 n, .int .i64 bit] w fun e w' => e = .returned (.int .i64 (Po.flipErr ls n bit)) ∧ PostAt w' s nodes last v (Po.flipTo ls n bit) ∧ Turns w w' s v := by
  obtain ⟨_, _, c2⟩ := h.cells
  have hsw := h.lt
  obtain ⟨ao, cp0, rfl⟩ := row_slice h.row
  have HR : Hid (PostAt w s nodes last (.slice ao ls.length cp0) ls) := h
  obtain ⟨m, hm⟩ : ∃ m, ls.length = m := ⟨_, rfl⟩
  have HM : Hid (ls.length = m) := hm
  have hl : m ≤ 2048 := by rw [← hm]; exact h.good.len
  rw [hm] at c2
  clear h hm
  go_enter Try.func41, Try.ntmps41
  go_wp2
  go_loopw [15] (fun i wr => ∃ j : Nat, j ≤ m ∧ i = .int .i64 j ∧ Hid (Po.get (ls.take j) n = none) ∧ Hid (w.grownBy wr none))
    (fun i _ => m - (intOf i).toNat)
  case atStart => exact ⟨0, Nat.zero_le _, rfl, rfl, grown_refl _ _⟩
  case round =>
    obtain ⟨j, hjm, rfl, HF, HG⟩ := hrel
    by_cases hjl : j < m
    · have hjs : j < ls.length := by have := HM.out; omega
      rcases HR.out.row.2 with ⟨e, h0⟩ | ⟨g, cp', cur, e, hbg, hbb, _⟩
      · have := HM.out
        omega
      injection e with e1 e2 e3
      subst e1 e3
      have hgw : g < w.heap.size := (Array.getElem?_eq_some_iff.1 hbb).1
      obtain ⟨q0, q1, q2, q3⟩ := row_at HR.out.row hjs
      have k0 := HG.out.cell q0 (by simp)
      have k1 := HG.out.cell q1 (by simp)
      have k2 := HG.out.cell q2 (by simp)
      have k3 := HG.out.cell q3 (by simp)
      have hszr := HG.out.size
      clear q0 q1 q2 q3 hbb
      by_cases he : (ls.getD j Po.d0).1 = n
      · have hge := Po.get_here hjs HF.out he
        have hpos := Po.pos_here HR.out.good.sorted hjs hge
        have hshort := HR.out.good.short _ (Po.get_mem hge).1
        have HPE : Hid (∀ b, Po.put ls n b = ls.take j ++ ((ls.getD j Po.d0).1, (ls.getD j Po.d0).2.1, (ls.getD j Po.d0).2.2.1, b) :: ls.drop (j + 1)) := fun b => by
          have := Po.put_eq HR.out.good.sorted hge b
          rw [hpos] at this
          exact this
        have HE : Hid (Po.get ls n = some (ls.getD j Po.d0)) := hge
        have HJS : Hid (j < ls.length) := hjs
        have HX : Hid (ls.getD j Po.d0 = ls.getD j Po.d0) := rfl
        generalize hxd : ls.getD j Po.d0 = x at k0 k1 k2 k3 HE he HPE hshort HX
        have HXD : Hid (ls.getD j Po.d0 = x) := hxd
        obtain ⟨x0, x1, x2, x3⟩ := x
        simp only at k0 k1 k2 k3 HE he HPE hshort
        subst he
        clear hge hpos hxd HX hjs
        go_upto_region 5 with fail
        have HG2 : Hid (w.grownBy (wr.alloc (.cells #[.int .i64 x0, .int .i64 x1, .int .i64 x2, .string x3] 72)) none) := grown_trans HG.out (World.grownBy_alloc _ _ _)
        have hB2 : (wr.alloc (.cells #[.int .i64 x0, .int .i64 x1, .int .i64 x2, .string x3] 72)).heap[wr.heap.size]? = some (.cells #[.int .i64 x0, .int .i64 x1, .int .i64 x2, .string x3] 72 (0, 0)) := heap_alloc_new _ _
        generalize wr.alloc (.cells #[.int .i64 x0, .int .i64 x1, .int .i64 x2, .string x3] 72) = W0 at HG2 hB2 ⊢
        obtain ⟨⟨b0, b1, b2, b3⟩, bf⟩ := four_of hB2
        have HP0 : Hid (PostAt W0 s nodes last (.slice (some ⟨g, 0, none⟩) ls.length cp0) ls) := HR.out.still HG2.out
        have hs8 : (x3.size : Int) ≤ 65535 := by omega
        clear hB2 k0 k1 k2 k3 b0 b1 b2 bf
        by_cases hb0 : bit < 0
        · have HFE : Hid (Po.flipErr ls x0 bit = 1 ∧ Po.flipTo ls x0 bit = ls) := by
            have : Po.flipErr ls x0 bit = 1 ∧ Po.flipTo ls x0 bit = ls := by
              unfold Po.flipErr Po.flipTo
              rw [HE.out]
              simp only
              rw [if_neg (fun hh => by have := hh.1; omega), if_neg (fun hh => by have := hh.1; omega)]
              exact ⟨rfl, rfl⟩
            exact this
          go_wp2
          go_ret
          rw [HFE.out.1, HFE.out.2]
          exact ⟨rfl, HP0.out, .of_grown HG2.out⟩
        · obtain ⟨t, rfl⟩ : ∃ t : Nat, bit = (t : Int) := ⟨bit.toNat, by omega⟩
          obtain ⟨q, hqd⟩ : ∃ q, t / 8 = q := ⟨_, rfl⟩
          obtain ⟨r, hrd⟩ : ∃ r, t % 8 = r := ⟨_, rfl⟩
          have HQR : Hid (t / 8 = q ∧ t % 8 = r) := ⟨hqd, hrd⟩
          have hr8 : r < 8 := by omega
          have hdiv : (t : Int).tdiv 8 = (q : Int) := by rw [Int.tdiv_eq_ediv_of_nonneg (by omega)]; omega
          have hmod : (t : Int).tmod 8 = (r : Int) := by rw [Int.tmod_eq_emod_of_nonneg (by omega)]; omega
          have hdiv' : (t : Int) / 8 = (q : Int) := by omega
          have hmod' : (t : Int) % 8 = (r : Int) := by omega
          have hq0 : (0 : Int) ≤ (q : Int) := by omega
          by_cases hqs : x3.size ≤ q
          · have HFE : Hid (Po.flipErr ls x0 (t : Int) = 1 ∧ Po.flipTo ls x0 (t : Int) = ls) := by
              have : Po.flipErr ls x0 (t : Int) = 1 ∧ Po.flipTo ls x0 (t : Int) = ls := by
                unfold Po.flipErr Po.flipTo
                rw [HE.out]
                simp only
                rw [if_neg (fun hh => by have := hh.2; omega), if_neg (fun hh => by have := hh.2; omega)]
                exact ⟨rfl, rfl⟩
              exact this
            have hqI : (x3.size : Int) ≤ (q : Int) := by omega
            have hwq : wrap64 (q : Int) = (q : Int) := by unfold wrap64; omega
            clear hqd hrd
            go_wp2
            go_ret
            rw [HFE.out.1, HFE.out.2]
            exact ⟨rfl, HP0.out, .of_grown HG2.out⟩
          · have hq : q < x3.size := by omega
            have HFE : Hid (Po.flipErr ls x0 (t : Int) = 0 ∧ Po.flipTo ls x0 (t : Int) = Po.put ls x0 (Po.flipAt x3 t)) := by
              have : Po.flipErr ls x0 (t : Int) = 0 ∧ Po.flipTo ls x0 (t : Int) = Po.put ls x0 (Po.flipAt x3 t) := by
                unfold Po.flipErr Po.flipTo
                rw [HE.out]
                simp only
                have hb : Po.bitOf x3 (t : Int) := ⟨by omega, by omega⟩
                rw [if_pos hb, if_pos hb]
                exact ⟨rfl, by rw [Int.toNat_natCast]⟩
              exact this
            have HGG : Hid (Po.Good last (Po.put ls x0 (Po.flipAt x3 t))) := HR.out.good.put x0 (by rw [Po.flip_size]; exact hshort)
            obtain ⟨W, cp, hcv, hgW, hWs, hWc⟩ := bytes_laid W0 x3
            have HGW : Hid (w.grownBy W none) := grown_trans HG2.out hgW
            have HPW : Hid (PostAt W s nodes last (.slice (some ⟨g, 0, none⟩) ls.length cp0) ls) := HP0.out.still hgW
            have hg2 := HG2.out.size
            obtain ⟨cy, fy⟩ := hWc q hq
            have hqI : (q : Int) < (x3.size : Int) := by omega
            have hrI : (r : Int) < 8 := by omega
            have hr0 : (0 : Int) ≤ (r : Int) := by omega
            clear hqd hrd
            have hxo := xor_pow (x3.data[q]'hq) hr8
            generalize hz : ((x3.data[q]'hq) ^^^ UInt8.ofNat (2 ^ r)).toNat = z at hxo
            have HZZ : Hid (((x3.data[q]'hq) ^^^ UInt8.ofNat (2 ^ r)).toNat = z) := hz
            clear hz
            generalize hy : ((x3.data[q]'hq).toNat : Int) = y at cy hxo
            clear hy
            have HWC : Hid (∀ j (hj : j < x3.size), W.cell? ⟨W0.heap.size, j, none⟩ = some (.int .u8 ((x3.data[j]'hj).toNat : Int)) ∧ W.frozen? ⟨W0.heap.size, j, none⟩ = false) := hWc
            clear hgW hWc
            go_wp2_with fail
            have hgS : W.grownBy (W.setCell ⟨W0.heap.size, q, none⟩ (.int .u8 (z : Int))) (some W0.heap.size) := ⟨rfl, rfl, rfl, by simp [World.setCell], fun j _ hne => Below.heap_setCell _ _ _ _ (fun e => hne (by rw [e]))⟩
            have hp3 := HPW.out.kept hgS (by simp; omega) (.inr (by simp [Value.ownBlock]; omega))
            have hcb : (convert 103 9 (.slice (some ⟨W0.heap.size, 0, none⟩) x3.size cp)).run Try.prog (W.setCell ⟨W0.heap.size, q, none⟩ (.int .u8 (z : Int))).drew = .ok (.string (Po.flipAt x3 t)) (W.setCell ⟨W0.heap.size, q, none⟩ (.int .u8 (z : Int))).drew := by
              have := run_convert_bytes_back (P := Try.prog) (W.setCell ⟨W0.heap.size, q, none⟩ (.int .u8 (z : Int))).drew 103 9 5 ⟨W0.heap.size, 0, none⟩ cp (Po.flipAt x3 t).data.toList Try.underlying103 Try.underlying5 Try.underlying9 (fun j hj => by
                have hj' : j < x3.size := by
                  have := hj
                  rw [Array.length_toList] at this
                  have e := Po.flip_size x3 t
                  exact e ▸ this
                rw [Go.WideShapes.add_plain, Nat.zero_add]
                show (W.setCell ⟨W0.heap.size, q, none⟩ (.int .u8 (z : Int))).cell? ⟨W0.heap.size, j, none⟩ = _
                have hjd : j < x3.data.size := hj'
                by_cases e : j = q
                · subst e
                  rw [World.cell?_setCell_same _ _ _ cy, ← HZZ.out]
                  simp [Po.flipAt, HQR.out.1, HQR.out.2]
                · rw [World.cell?_setCell_other _ _ _ _ (fun e2 => e (by cases e2; rfl)), (HWC.out j hj').1]
                  have e' : ¬ (t / 8 = j) := by rw [HQR.out.1]; exact fun h => e h.symm
                  simp [Po.flipAt, e'])
              have hl : (Po.flipAt x3 t).data.toList.length = x3.size := by
                rw [Array.length_toList]
                exact Po.flip_size x3 t
              rw [hl] at this
              simpa using this
            have HT3 : Hid (Turns w (W.setCell ⟨W0.heap.size, q, none⟩ (.int .u8 (z : Int))) s (.slice (some ⟨g, 0, none⟩) ls.length cp0)) := turns_set (.of_grown HGW.out) (.inl hg2) _
            have HP3 : Hid (PostAt (W.setCell ⟨W0.heap.size, q, none⟩ (.int .u8 (z : Int))) s nodes last (.slice (some ⟨g, 0, none⟩) ls.length cp0) ls) := hp3
            clear hgS hp3 hcv
            generalize W.setCell ⟨W0.heap.size, q, none⟩ (.int .u8 (z : Int)) = W2 at *
            obtain ⟨_, _, d2⟩ := HP3.out.cells
            obtain ⟨_, _, _, d3⟩ := row_at HP3.out.row HJS.out
            rw [HM.out] at d2
            have f3 : W2.frozen? ⟨g, j * 4 + 3, none⟩ = false := by
              rcases HP3.out.row.2 with ⟨hv, _⟩ | ⟨g', cap', cur', hv, _, hb', _⟩
              · cases hv
              cases hv
              simp [World.frozen?, hb']
            clear cy fy c2 b3
            have hjI : (j : Int) < (m : Int) := by omega
            have hj0 : (0 : Int) ≤ (j : Int) := by omega
            go_region
            have HE1 := row_put HP3.out HJS.out (Po.flipAt x3 t)
            rw [HXD.out] at HE1
            have HE2 : Hid (PostAt (W2.setCell ⟨g, j * 4 + 3, none⟩ (.string (Po.flipAt x3 t))) s nodes last (.slice (some ⟨g, 0, none⟩) ls.length cp0) (Po.put ls x0 (Po.flipAt x3 t)) ∧ Turns w (W2.setCell ⟨g, j * 4 + 3, none⟩ (.string (Po.flipAt x3 t))) s (.slice (some ⟨g, 0, none⟩) ls.length cp0)) := by
              refine ⟨⟨HE1.1, ?_, HGG.out⟩, ⟨HT3.out.os, HT3.out.tape, HT3.out.output, ?_, fun j' hj' hs hv => ?_⟩⟩
              · rw [Po.put_length, HPE.out]
                exact HE1.2
              · rw [show (W2.setCell ⟨g, j * 4 + 3, none⟩ (.string (Po.flipAt x3 t))).heap.size = W2.heap.size by simp [World.setCell]]
                exact HT3.out.size
              · rw [Below.heap_setCell _ _ _ _ (fun e => hv (by rw [e]; rfl))]
                exact HT3.out.block j' hj' hs hv
            clear HE1
            go_wp2
            go_ret
            rw [HFE.out.1, HFE.out.2]
            exact ⟨rfl, HE2.out.1.drew, ⟨HE2.out.2.os, HE2.out.2.tape, HE2.out.2.output, HE2.out.2.size, HE2.out.2.block⟩⟩
      · have HE : Hid (Po.get (ls.take (j + 1)) n = none) := Po.get_more hjs HF.out he
        generalize ls.getD j Po.d0 = x at k0 k1 k2 k3 he
        obtain ⟨x0, x1, x2, x3⟩ := x
        simp only at k0 k1 k2 k3 he
        go_wp2
        go_roundw
        case rel => exact ⟨j + 1, by omega, by go_num, HE, grown_trans HG.out (World.grownBy_alloc _ _ _)⟩
        case measure => simp [intOf]; omega
    · obtain rfl : j = m := by omega
      have HFE : Hid (Po.flipErr ls n bit = 6 ∧ Po.flipTo ls n bit = ls) := by
        have hgn : Po.get ls n = none := by
          have := HF.out
          rw [← HM.out, List.take_length] at this
          exact this
        have : Po.flipErr ls n bit = 6 ∧ Po.flipTo ls n bit = ls := by
          unfold Po.flipErr Po.flipTo
          rw [hgn]
          exact ⟨rfl, rfl⟩
        exact this
      go_wp2
      go_ret
      rw [HFE.out.1, HFE.out.2]
      exact ⟨rfl, HR.out.still HG.out, .of_grown HG.out⟩
end Rf
end Go.Proofs.Ytlhobncpifklkaa
