/-
  ask.Unpack: what it answers of a string that is not too long.
-/
import Derived.Test.YtfdajcakmbpicaaKUnp
import Derived.Test.YtfdajcakmbpicaaKPack
import Derived.Test.YtfdajcakmbpicaaUnpack
namespace Go.Proofs.Ytfdajcakmbpicaa
open Go.ChangeShapes Go.WideShapes Go.ChangeAt Go.RowKit Go.Deep
open Ak

namespace Ak
theorem parse_small : ∀ (f : Nat) (last : Int) (l : List UInt8), ∀ x ∈ (Pl.parse f last l).1, x.2.size ≤ 65535
  | 0, _, _, x, hx => by simp [Pl.parse] at hx
  | f + 1, last, l, x, hx => by
    unfold Pl.parse at hx
    split at hx
    · simp at hx
    · split at hx
      · unfold Pl.join at hx
        split at hx
        · simp only [List.cons_append, List.nil_append, List.mem_cons] at hx
          rcases hx with rfl | hx
          · simp only [Pl.fieldOf, Pl.txt_size, List.length_take]
            have h1 := (l.getD 1 0).toNat_lt
            have h2 := (l.getD 2 0).toNat_lt
            unfold Pl.lenOf
            omega
          · exact parse_small f _ _ x hx
        · simp at hx
      · simp at hx
theorem unp_small (L : List UInt8) {k : Nat} (h : k < (Pl.unpOut L).length) : ((Pl.unpOut L).getD k (0, .empty)).2.size ≤ 65535 := by
  have : (Pl.unpOut L).getD k (0, .empty) = (Pl.unpOut L)[k] := by simp [List.getD, h]
  rw [this]
  exact parse_small _ _ _ _ (List.getElem_mem h)
theorem callOf_take {l : List (Int × ByteArray)} {k : Nat} (h : k < l.length) : callOf (l.take (k + 1)) = withF (callOf (l.take k)) (l.getD k (0, .empty)) := by
  rw [List.take_succ_eq_append_getElem h, callOf_snoc]
  simp [List.getD, h]
theorem isCall_yes {s : ByteArray} (h0 : Pl.unpErr s.data.toList = 0) (h1 : packErr (callOf (Pl.unpOut s.data.toList)) = 0) (h2 : packOut (callOf (Pl.unpOut s.data.toList)) = s) : unpC s.data.toList = callOf (Pl.unpOut s.data.toList) ∧ unpE s.data.toList = 0 := by
  have hr : right (callOf (Pl.unpOut s.data.toList)) = true := by
    unfold packErr at h1
    split at h1
    · assumption
    · cases h1
  have he : Pl.encs (fields (callOf (Pl.unpOut s.data.toList))) = s.data.toList := by
    unfold packOut at h2
    rw [if_pos hr] at h2
    rw [← Pl.txt_data (Pl.encs (fields (callOf (Pl.unpOut s.data.toList)))), h2]
  have hc : isCall s.data.toList = true := by
    unfold isCall
    rw [h0, hr, he]
    simp
  unfold unpC unpE
  rw [if_pos hc, if_pos hc]
  exact ⟨rfl, rfl⟩
theorem isCall_no {s : ByteArray} (h : Pl.unpErr s.data.toList ≠ 0 ∨ packErr (callOf (Pl.unpOut s.data.toList)) ≠ 0 ∨ packOut (callOf (Pl.unpOut s.data.toList)) ≠ s) : unpC s.data.toList = zero ∧ unpE s.data.toList = 413 := by
  have hc : isCall s.data.toList = false := by
    rw [Bool.eq_false_iff]
    intro hc
    unfold isCall at hc
    simp only [Bool.and_eq_true, decide_eq_true_eq] at hc
    obtain ⟨⟨a, b⟩, c⟩ := hc
    rcases h with h | h | h
    · exact h a
    · exact h (by unfold packErr; rw [if_pos b])
    · refine h ?_
      unfold packOut
      rw [if_pos b, c, Pl.txt_toList]
  unfold unpC unpE
  rw [hc]
  exact ⟨rfl, rfl⟩
end Ak
theorem str_ne {a b : ByteArray} (h : a ≠ b) : (a.toList == b.toList) = false := by
  rw [ByteArray.toList_eq, ByteArray.toList_eq, beq_eq_false_iff_ne]
  intro e
  apply h
  rw [← Pl.txt_toList a, ← Pl.txt_toList b, e]
theorem FieldsAt.open {B : Nat} {w : World} {v : Value} {l : List (Int × ByteArray)} (h : FieldsAt B w v l) : ∃ ao cap, v = .slice ao l.length cap ∧ l.length ≤ maxLen ∧ ∀ i, i < l.length → ∃ b off, ao = some ⟨b, off, none⟩ ∧ b < B ∧ w.cell? ⟨b, off + i * 2, none⟩ = some (.int .i64 (l.getD i (0, .empty)).1) ∧ w.cell? ⟨b, off + i * 2 + 1, none⟩ = some (.string (l.getD i (0, .empty)).2) := by
  rcases h with ⟨ao, cap, rfl, rfl⟩ | ⟨b, off, cap, rfl, hB, hp, hlc, hm, hx⟩
  · exact ⟨ao, cap, rfl, Nat.zero_le _, fun i hi => by simp at hi⟩
  · exact ⟨_, cap, rfl, Nat.le_trans hlc hm, fun i hi => ⟨b, off, rfl, hB, hx i hi⟩⟩
/-- A call's box, written anew. -/
def put10 (w : World) (b : Nat) (c : Cl) : World := (((((((((w.setCell ⟨b, 0, none⟩ (.int .i64 c.k)).setCell ⟨b, 1, none⟩ (.int .i64 c.no)).setCell ⟨b, 2, none⟩ (.int .i64 c.gen)).setCell ⟨b, 3, none⟩ (.int .i64 c.no2)).setCell ⟨b, 4, none⟩ (.int .i64 c.gen2)).setCell ⟨b, 5, none⟩ (.string c.nm)).setCell ⟨b, 6, none⟩ (.string c.nm2)).setCell ⟨b, 7, none⟩ (.int .i64 c.pl)).setCell ⟨b, 8, none⟩ (.int .i64 c.n)).setCell ⟨b, 9, none⟩ (.string c.data)
theorem put10_heap {w : World} {b : Nat} {c : Cl} (h : w.heap[b]? = some (BC c)) (d : Cl) : (put10 w b d).heap[b]? = some (BC d) := by
  unfold put10
  simp [World.setCell, Array.getElem?_modify, h]
theorem put10_below {B b : Nat} {w w' : World} (h : Below B w w') (hb : B ≤ b) (d : Cl) : Below B w (put10 w' b d) :=
  (((((((((h.setCell (p := ⟨b, 0, none⟩) hb _).setCell (p := ⟨b, 1, none⟩) hb _).setCell (p := ⟨b, 2, none⟩) hb _).setCell (p := ⟨b, 3, none⟩) hb _).setCell (p := ⟨b, 4, none⟩) hb _).setCell (p := ⟨b, 5, none⟩) hb _).setCell (p := ⟨b, 6, none⟩) hb _).setCell (p := ⟨b, 7, none⟩) hb _).setCell (p := ⟨b, 8, none⟩) hb _).setCell (p := ⟨b, 9, none⟩) hb _
set_option maxHeartbeats 4000000 in
theorem askUnpack_any (s : ByteArray) (w : World) (hs : s.size ≤ 1048576) :
    Calls Try.prog 11 #[.string s] w fun e w' => e = .returned (.tuple #[VC (unpC s.data.toList), .int .i64 (unpE s.data.toList)]) ∧ Below w.heap.size w w' := by
  have HS : Hid (s.size ≤ 1048576) := hs
  clear hs
  obtain ⟨l, hl⟩ : ∃ l, Pl.unpOut s.data.toList = l := ⟨_, rfl⟩
  have HL : Hid (Pl.unpOut s.data.toList = l) := hl
  have HSM : Hid (∀ k, k < l.length → (l.getD k (0, .empty)).2.size ≤ 65535) := by rw [← hl]; exact fun k hk => unp_small _ hk
  obtain ⟨C, hC⟩ : ∃ C, unpC s.data.toList = C := ⟨_, rfl⟩
  obtain ⟨E, hE⟩ : ∃ E, unpE s.data.toList = E := ⟨_, rfl⟩
  have HCE : Hid (unpC s.data.toList = C ∧ unpE s.data.toList = E) := ⟨hC, hE⟩
  rw [hC, hE]
  clear hC hE hl
  by_cases h0 : Pl.unpErr s.data.toList = 0
  · have H0 : Hid (Pl.unpErr s.data.toList = 0) := h0
    clear h0
    go_enter Try.func11, Try.ntmps11
    go_wp2_with fail
    refine (unpack_any s _ HS.out).mono ?_
    rintro e w1 ⟨r, rfl, hown, hb1⟩
    rw [H0.out]
    rw [HL.out] at hown
    obtain ⟨ao, cap, rfl, hm, hx⟩ := (FieldsAt.of_own hown).open
    unfold maxLen at hm
    obtain ⟨n, hn⟩ : ∃ n, l.length = n := ⟨_, rfl⟩
    rw [hn] at hm hx ⊢
    have HN : Hid (l.length = n) := hn
    have HX : Hid (∀ i, i < n → ∃ b off, ao = some ⟨b, off, none⟩ ∧ b < w1.heap.size ∧ w1.cell? ⟨b, off + i * 2, none⟩ = some (.int .i64 (l.getD i (0, .empty)).1) ∧ w1.cell? ⟨b, off + i * 2 + 1, none⟩ = some (.string (l.getD i (0, .empty)).2)) := hx
    have HB1 : Hid (Below w.heap.size w w1) := ((Below.refl _ _).alloc (Nat.le_refl _) _).trans (hb1.mono (by simp))
    have HR1 : Hid (w1.heap[w.heap.size]? = some (BC Ak.zero)) := block_step (heap_alloc_new w (BC Ak.zero)) hb1
    have hlt1 : w.heap.size < w1.heap.size := block_lt HR1.out
    clear hown hb1 hn hx
    go_wp2_with fail
    go_loopw [21] (fun i wr => ∃ k : Nat, k ≤ n ∧ i = .int .i64 k ∧ Hid (wr.heap[w1.heap.size]? = some (BC (callOf (l.take k)))) ∧ Hid (Below w1.heap.size w1 wr)) (fun i _ => n - (intOf i).toNat)
    case atStart => exact ⟨0, Nat.zero_le _, rfl, heap_alloc_new w1 _, (Below.refl _ _).alloc (Nat.le_refl _) _⟩
    case round =>
      obtain ⟨k, hk, rfl, HK, HB⟩ := hrel
      obtain ⟨c, hc⟩ : ∃ c, callOf (l.take k) = c := ⟨_, rfl⟩
      have HCK : Hid (callOf (l.take k) = c) := hc
      rw [hc] at HK
      clear hc
      obtain ⟨c0, c1, c2, c3, c4, c5, c6, c7, c8, c9⟩ := ten_of HK.out
      have hlt2 : w1.heap.size < wr.heap.size := block_lt HK.out
      by_cases hlt : k < n
      · obtain ⟨b, off, rfl, hB, x0, x1⟩ := HX.out k hlt
        rw [← HB.out.cell (p := ⟨b, off + k * 2, none⟩) hB] at x0
        rw [← HB.out.cell (p := ⟨b, off + k * 2 + 1, none⟩) hB] at x1
        have HSZ : Hid ((l.getD k (0, .empty)).2.size ≤ 65535) := HSM.out k (by rw [HN.out]; exact hlt)
        have HNX : Hid (callOf (l.take (k + 1)) = withF c (l.getD k (0, .empty))) := by show callOf (l.take (k + 1)) = _; rw [callOf_take (by rw [HN.out]; exact hlt), HCK.out]
        generalize l.getD k (0, .empty) = f at *
        obtain ⟨t, y⟩ := f
        go_wp2_with fail
        refine (with_any c t y _ (by have h9 : y.size ≤ 65535 := HSZ.out; unfold maxLen; omega)).mono ?_
        rintro e w2 ⟨rfl, hb2⟩
        have HK2 : Hid (w2.heap[w1.heap.size]? = some (BC c)) := (hb2.block _ (by simp; omega)).trans ((Below.heap_alloc _ _ _ hlt2).trans HK.out)
        have HB2 : Hid (Below w1.heap.size w1 w2) := (HB.out.alloc (by omega) _).trans (hb2.mono (by simp; omega))
        obtain ⟨d, hd⟩ : ∃ d, withF c (t, y) = d := ⟨_, rfl⟩
        rw [hd] at HNX ⊢
        have fa : ∀ j, w2.frozen? ⟨w1.heap.size, j, none⟩ = false := fun j => by simp [World.frozen?, HK2.out]
        have e0 := (ten_of HK2.out)
        obtain ⟨e0, e1, e2, e3, e4, e5, e6, e7, e8, e9⟩ := e0
        have hlt3 : w1.heap.size < w2.heap.size := block_lt HK2.out
        clear hb2 hd c0 c1 c2 c3 c4 c5 c6 c7 c8 c9 x0 x1
        go_wp2
        go_roundw
        case rel => exact ⟨k + 1, by omega, by go_num, by rw [HNX.out]; exact put10_heap HK2.out d, put10_below HB2.out (Nat.le_refl _) d⟩
        case measure => simp [intOf]; omega
      · obtain rfl : k = n := by omega
        have HCC : Hid (callOf (Pl.unpOut s.data.toList) = c) := by
          show _ = c
          rw [← HCK.out, HL.out, List.take_of_length_le (by rw [HN.out]; exact Nat.le_refl _)]
        have HR2 : Hid (wr.heap[w.heap.size]? = some (BC Ak.zero)) := (HB.out.block _ hlt1).trans HR1.out
        have HBW : Hid (Below w.heap.size w wr) := HB1.out.trans (HB.out.mono HB1.out.size)
        go_wp2_with fail
        refine (askPack_any c _).mono ?_
        rintro e w2 ⟨rfl, hb2⟩
        have HK2 : Hid (w2.heap[w1.heap.size]? = some (BC c)) := block_step HK.out hb2
        have HR3 : Hid (w2.heap[w.heap.size]? = some (BC Ak.zero)) := block_step HR2.out hb2
        have HB2 : Hid (Below w.heap.size w w2) := HBW.out.trans (hb2.mono HBW.out.size)
        have fa : ∀ j, w2.frozen? ⟨w.heap.size, j, none⟩ = false := fun j => by simp [World.frozen?, HR3.out]
        have hl3 : w.heap.size < w2.heap.size := block_lt HR3.out
        obtain ⟨d0, d1, d2, d3, d4, d5, d6, d7, d8, d9⟩ := ten_of HR3.out
        clear hb2 c0 c1 c2 c3 c4 c5 c6 c7 c8 c9
        obtain ⟨c0, c1, c2, c3, c4, c5, c6, c7, c8, c9⟩ := ten_of HK2.out
        by_cases hp : packErr c = 0
        · by_cases hq : packOut c = s
          · have HY := Ak.isCall_yes H0.out (by rw [HCC.out]; exact hp) (by rw [HCC.out]; exact hq)
            have H : Hid (C = c ∧ E = 0) := ⟨by rw [← HCE.out.1, HY.1, HCC.out], by rw [← HCE.out.2, HY.2]⟩
            rw [hp, hq]
            have t1 : (s.toList == s.toList) = true := beq_self_eq_true _
            clear hp hq HY
            go_wp2
            refine bodyPost_ret (v := .tuple #[VC c, .int .i64 0]) (by simp [results, Try.results11, go_sem, d0, d1, d2, d3, d4, d5, d6, d7, d8, d9]) rfl ⟨?_, put10_below HB2.out (Nat.le_refl _) c⟩
            rw [H.out.1, H.out.2]
          · have HY := Ak.isCall_no (s := s) (.inr (.inr (by rw [HCC.out]; exact hq)))
            have H : Hid (C = Ak.zero ∧ E = 413) := ⟨by rw [← HCE.out.1, HY.1], by rw [← HCE.out.2, HY.2]⟩
            rw [hp]
            have t1 := str_ne hq
            clear hp hq HY
            generalize packOut c = p at *
            go_wp2
            refine bodyPost_ret (v := .tuple #[VC Ak.zero, .int .i64 413]) (by simp [results, Try.results11, go_sem, Ak.zero, d0, d1, d2, d3, d4, d5, d6, d7, d8, d9]) rfl ⟨?_, put10_below HB2.out (Nat.le_refl _) Ak.zero⟩
            rw [H.out.1, H.out.2]
        · have HY := Ak.isCall_no (s := s) (.inr (.inl (by rw [HCC.out]; exact hp)))
          have H : Hid (C = Ak.zero ∧ E = 413) := ⟨by rw [← HCE.out.1, HY.1], by rw [← HCE.out.2, HY.2]⟩
          have hp' : packErr c = 413 := by unfold packErr at hp ⊢; split at hp <;> simp_all
          rw [hp']
          clear hp hp' HY
          generalize packOut c = p at *
          go_wp2
          refine bodyPost_ret (v := .tuple #[VC Ak.zero, .int .i64 413]) (by simp [results, Try.results11, go_sem, Ak.zero, d0, d1, d2, d3, d4, d5, d6, d7, d8, d9]) rfl ⟨?_, put10_below HB2.out (Nat.le_refl _) Ak.zero⟩
          rw [H.out.1, H.out.2]
  · have H1 := Ak.isCall_no (.inl h0)
    have H : Hid (C = Ak.zero ∧ E = 413) := ⟨HCE.out.1.symm.trans H1.1, HCE.out.2.symm.trans H1.2⟩
    obtain ⟨q, hq⟩ : ∃ q, Pl.unpErr s.data.toList = q := ⟨_, rfl⟩
    have hq1 : (q != 0) = true := by rw [← hq]; simpa using h0
    have HQ : Hid (Pl.unpErr s.data.toList = q) := hq
    clear h0 H1 hq
    go_enter Try.func11, Try.ntmps11
    go_wp2_with fail
    refine (unpack_any s _ HS.out).mono ?_
    rintro e w1 ⟨r, rfl, hown, hb1⟩
    rw [HQ.out]
    have HB1 : Hid (Below w.heap.size w w1) := ((Below.refl _ _).alloc (Nat.le_refl _) _).trans (hb1.mono (by simp))
    have HR1 : Hid (w1.heap[w.heap.size]? = some (BC Ak.zero)) := block_step (heap_alloc_new w (BC Ak.zero)) hb1
    have fa : ∀ j, w1.frozen? ⟨w.heap.size, j, none⟩ = false := fun j => by simp [World.frozen?, HR1.out]
    have hl3 : w.heap.size < w1.heap.size := block_lt HR1.out
    obtain ⟨d0, d1, d2, d3, d4, d5, d6, d7, d8, d9⟩ := ten_of HR1.out
    clear hown hb1
    go_wp2
    refine bodyPost_ret (v := .tuple #[VC Ak.zero, .int .i64 413]) (by simp [results, Try.results11, go_sem, Ak.zero, d0, d1, d2, d3, d4, d5, d6, d7, d8, d9]) rfl ⟨?_, put10_below HB1.out (Nat.le_refl _) Ak.zero⟩
    rw [H.out.1, H.out.2]
end Go.Proofs.Ytfdajcakmbpicaa
