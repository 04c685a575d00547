/-
  For any numbers and steps sextonlaw25.StubSteps returns true, whatever the memory that holds the table halves as the text of the program lays it: step by step the stub does as the document says. No other condition.
-/
import Derived.Test.YtkdhbjmpjbdobaaGreatDoorCards
import Derived.Test.YtkdhbjmpjbdobaaGreatDoorTie
import Derived.Deep.CutRange
import Derived.Deep.CutBlock
import Derived.Deep.RegionHeld3
import Derived.Test.YtkdhbjmpjbdobaaGreatDoorM29
namespace Go.Proofs.YtkdhbjmpjbdobaaGreatDoor
open Go.ChangeShapes Go.WideShapes Go.ChangeAt Go.RowKit Go.Deep Sk
set_option maxRecDepth 100000
open Go.ChangeMaps (open_string)

set_option maxRecDepth 100000 in
set_option maxRecDepth 100000 in
set_option maxHeartbeats 4000000 in
theorem steps_law (id n : Int) (v : Value) (l : List Stp) (w : World) (hv : AtW ET w v l) (hT : Po.Tab w) : Calls Tryz.prog 3 #[.int .i64 id, .int .i64 n, v] w fun e w' => e = .returned (.bool true) ∧ Below w.heap.size w w' := by
  have HT : Hid (Po.Tab w) := hT
  obtain ⟨ao, ca0, rfl, hm, hx⟩ := hv.open
  unfold maxLen at hm
  obtain ⟨n2, hn2⟩ : ∃ n, l.length = n := ⟨_, rfl⟩
  rw [hn2] at hm ⊢
  have HX : Hid (∀ wr, Below w.heap.size w wr → ∀ j, j < n2 → ∃ (y : Stp) (b off : Nat), ao = some ⟨b, off, none⟩ ∧ wr.cell? ⟨b, off + j * 13, none⟩ = some (.int .i64 y.w) ∧ wr.cell? ⟨b, off + j * 13 + 1, none⟩ = some (.int .i64 y.f) ∧ wr.cell? ⟨b, off + j * 13 + 2, none⟩ = some (.int .i64 y.c.k) ∧ wr.cell? ⟨b, off + j * 13 + 3, none⟩ = some (.int .i64 y.c.no) ∧ wr.cell? ⟨b, off + j * 13 + 4, none⟩ = some (.int .i64 y.c.gen) ∧ wr.cell? ⟨b, off + j * 13 + 5, none⟩ = some (.int .i64 y.c.no2) ∧ wr.cell? ⟨b, off + j * 13 + 6, none⟩ = some (.int .i64 y.c.gen2) ∧ wr.cell? ⟨b, off + j * 13 + 7, none⟩ = some (.string y.c.nm) ∧ wr.cell? ⟨b, off + j * 13 + 8, none⟩ = some (.string y.c.nm2) ∧ wr.cell? ⟨b, off + j * 13 + 9, none⟩ = some (.int .i64 y.c.pl) ∧ wr.cell? ⟨b, off + j * 13 + 10, none⟩ = some (.int .i64 y.c.n) ∧ wr.cell? ⟨b, off + j * 13 + 11, none⟩ = some (.string y.c.data) ∧ wr.cell? ⟨b, off + j * 13 + 12, none⟩ = some (.string y.x)) := fun wr hb j hj => by
    have hj' : j < l.length := by omega
    obtain ⟨b, off, e1, -, h1, c1⟩ := hx j l[j] (List.getElem?_eq_getElem hj')
    exact ⟨l[j], b, off, e1, (hb.cell (p := ⟨b, off + j * 13, none⟩) h1).trans (c1 0 _ rfl), (hb.cell (p := ⟨b, off + j * 13 + 1, none⟩) h1).trans (c1 1 _ rfl), (hb.cell (p := ⟨b, off + j * 13 + 2, none⟩) h1).trans (c1 2 _ rfl), (hb.cell (p := ⟨b, off + j * 13 + 3, none⟩) h1).trans (c1 3 _ rfl), (hb.cell (p := ⟨b, off + j * 13 + 4, none⟩) h1).trans (c1 4 _ rfl), (hb.cell (p := ⟨b, off + j * 13 + 5, none⟩) h1).trans (c1 5 _ rfl), (hb.cell (p := ⟨b, off + j * 13 + 6, none⟩) h1).trans (c1 6 _ rfl), (hb.cell (p := ⟨b, off + j * 13 + 7, none⟩) h1).trans (c1 7 _ rfl), (hb.cell (p := ⟨b, off + j * 13 + 8, none⟩) h1).trans (c1 8 _ rfl), (hb.cell (p := ⟨b, off + j * 13 + 9, none⟩) h1).trans (c1 9 _ rfl), (hb.cell (p := ⟨b, off + j * 13 + 10, none⟩) h1).trans (c1 10 _ rfl), (hb.cell (p := ⟨b, off + j * 13 + 11, none⟩) h1).trans (c1 11 _ rfl), (hb.cell (p := ⟨b, off + j * 13 + 12, none⟩) h1).trans (c1 12 _ rfl)⟩
  clear hn2 hx hv hT
  rcases Pn.either n with hno | ⟨f, his⟩
  · have HNO : Hid (Pn.No n) := hno
    clear hno
    go_enter Tryz.func3, Tryz.ntmps3
    go_wp2_with fail
    refine (snew_no id _ HNO.out).mono ?_
    rintro e w1 ⟨rfl, rfl⟩
    go_wp2_with fail
    refine (rnew_no id _ HNO.out).mono ?_
    rintro e w2 ⟨rfl, rfl⟩
    go_wp2_with fail
    refine (goes_any _ (tab_up HT.out (Below.refl _ _))).mono ?_
    rintro e w3 ⟨rfl, hb2⟩
    have HB2 : Hid (Below w2.heap.size w2 w3) := bup (Below.refl _ _) hb2
    clear hb2
    go_wp2
    go_ret
    exact ⟨rfl, HB2.out⟩
  by_cases hid : id < n ∨ 31 < id
  · have HIS : Hid (Pn.Is n f ∧ (id < n ∨ 31 < id)) := ⟨his, hid⟩
    clear his hid
    go_enter Tryz.func3, Tryz.ntmps3
    go_wp2_with fail
    refine (snew_arg id _ HIS.out.1 HIS.out.2).mono ?_
    rintro e w1 ⟨rfl, rfl⟩
    go_wp2_with fail
    refine (rnew_arg id _ HIS.out.1 HIS.out.2).mono ?_
    rintro e w2 ⟨rfl, rfl⟩
    go_wp2_with fail
    refine (goes_any _ (tab_up HT.out (Below.refl _ _))).mono ?_
    rintro e w3 ⟨rfl, hb2⟩
    have HB2 : Hid (Below w2.heap.size w2 w3) := bup (Below.refl _ _) hb2
    clear hb2
    go_wp2
    go_ret
    exact ⟨rfl, HB2.out⟩
  have HIS : Hid (Pn.Is n f ∧ n ≤ id ∧ id ≤ 31) := ⟨his, by omega, by omega⟩
  clear his hid
  go_enter Tryz.func3, Tryz.ntmps3
  go_wp2_with fail
  refine (snew_ok id _ HIS.out.1 HIS.out.2.1 HIS.out.2.2).mono ?_
  rintro e w1 ⟨A, B, cu, cn, rfl, hs, hlt, hb⟩
  have H0 : Hid (Su w1 A B cu cn (s0 id n) ∧ Below w.heap.size w w1 ∧ (w.heap.size ≤ A ∧ w.heap.size ≤ B ∧ w.heap.size ≤ cu ∧ w.heap.size ≤ cn)) := ⟨hs, hb, hlt⟩
  clear hs hlt hb
  go_wp2_with fail
  refine (rnew_ok id _ HIS.out.1 HIS.out.2.1 HIS.out.2.2).mono ?_
  rintro e w2 ⟨rfl, hf2, hb2⟩
  obtain ⟨R, hR⟩ : ∃ R, w1.heap.size = R := ⟨_, rfl⟩
  rw [hR] at hf2 ⊢
  have HLO : Hid (w.heap.size ≤ A ∧ w.heap.size ≤ B ∧ w.heap.size ≤ cu ∧ w.heap.size ≤ cn ∧ w.heap.size ≤ R) := ⟨H0.out.2.2.1, H0.out.2.2.2.1, H0.out.2.2.2.2.1, H0.out.2.2.2.2.2, by rw [← hR]; exact H0.out.2.1.size⟩
  have H1 : Hid (Su w2 A B cu cn (s0 id n) ∧ Rp w2 ⟨w.heap.size, A, B, cu, cn, R⟩ (s0 id n) ⟨#[]⟩ none 0 [] ∧ Bi f (s0 id n) ⟨#[]⟩ [] ∧ Below w.heap.size w w2) := ⟨H0.out.1.up hb2, ⟨hf2, Rg.nil _ _, fun _ h => by cases h⟩, Bi.zero HIS.out.1 HIS.out.2.1 HIS.out.2.2, bup H0.out.2.1 hb2⟩
  clear hf2 hb2 hR H0
  by_cases h300 : (300 : Int) < (n2 : Int)
  · go_wp2_with fail
    refine (goes_any _ (tab_up HT.out H1.out.2.2.2)).mono ?_
    rintro e w3 ⟨rfl, hb2⟩
    have HB2 : Hid (Below w.heap.size w w3) := bup H1.out.2.2.2 hb2
    clear hb2
    go_wp2
    go_ret
    exact ⟨rfl, HB2.out⟩
  have hn300 : n2 ≤ 300 := by omega
  go_wp2
  go_loopw [54] (fun i wr => ∃ (k : Nat) (s : Sb) (b : ByteArray) (p : Option Addr) (c : Nat) (W : List Wa), i = .int .i64 k ∧ k ≤ n2 ∧ Hid (Su wr A B cu cn s ∧ Rp wr ⟨w.heap.size, A, B, cu, cn, R⟩ s b p c W ∧ Bi f s b W ∧ Below w.heap.size w wr)) (fun i _ => n2 - (intOf i).toNat)
  case atStart => exact ⟨0, s0 id n, ⟨#[]⟩, none, 0, [], rfl, Nat.zero_le _, H1.out⟩
  case round =>
    obtain ⟨k, s, b, p, c, W, rfl, hk, HR⟩ := hrel
    clear H1
    by_cases hlt : k < n2
    · obtain ⟨y, b0, off, rfl, f0, f1, f2, f3, f4, f5, f6, f7, f8, f9, f10, f11, f12⟩ := HX.out wr HR.out.2.2.2 k hlt
      obtain ⟨X, hX⟩ : ∃ X, wr.alloc (BX y) = X := ⟨_, rfl⟩
      have HXX : Hid (wr.alloc (BX y) = X) := hX
      have HU : Hid (Su X A B cu cn s ∧ Rp X ⟨w.heap.size, A, B, cu, cn, R⟩ s b p c W ∧ Bi f s b W ∧ Below w.heap.size w X) := by
        rw [← hX]
        exact ⟨HR.out.1.up (below_alloc _ _), HR.out.2.1.up (below_alloc _ _), HR.out.2.2.1, bup HR.out.2.2.2 (below_alloc _ _)⟩
      have HT1 : Hid (Po.Tab X) := tab_up HT.out HU.out.2.2.2
      have HBX : Hid (X.heap[wr.heap.size]? = some (BX y)) := by rw [← hX]; exact heap_alloc_new _ _
      have hlt' : (k : Int) < (n2 : Int) := by omega
      clear hX
      go_upto_block 2 with fail
      rw [HXX.out]
      clear HXX f0 f1 f2 f3 f4 f5 f6 f7 f8 f9 f10 f11 f12
      obtain ⟨x0, x1, x2, x3, x4, x5, x6, x7, x8, x9, x10, x11, x12⟩ := bx_of HBX.out
      go_cut [13, 14, 15, 16, 17, 18, 19] from 55 to 218 (fun u13 u14 u15 u16 u17 u18 u19 wc => ∃ (s : Sb) (b : ByteArray) (p : Option Addr) (c : Nat) (W : List Wa), Hid (Su wc A B cu cn s ∧ Rp wc ⟨w.heap.size, A, B, cu, cn, R⟩ s b p c W ∧ Bi f s b W ∧ Below w.heap.size w wc))
      case first =>
        by_cases hw0 : y.w = 0
        · as_aux_lemma =>
            go_wp2_with fail
            have hlen : W.length = s.L.length := HU.out.2.2.1.m.len
            by_cases hc : callE y.c s = 0
            · refine (call_ok y.c A B cu cn s _ HU.out.1 HT1.out ⟨by have := HU.out.2.2.1.id; have := HU.out.2.2.1.fp; omega, HU.out.2.2.1.id.2⟩ HU.out.2.2.1.r hc).mono ?_
              rintro e w3 ⟨E, v, rfl, ho, hD, hD2, hs, hot⟩
              obtain rfl := ho.is
              have H3 : Hid (Su w3 A B cu cn (callS y.c s) ∧ Rp w3 ⟨w.heap.size, A, B, cu, cn, R⟩ s b p c W ∧ Below w.heap.size w w3 ∧ Out1 w3 (.slice (some ⟨E, 0, none⟩) 1 1) E s.t (callS y.c s).lt ∧ E ≠ R) := ⟨hs, HU.out.2.1.ot (k := ⟨w.heap.size, A, B, cu, cn, R⟩) HU.out.1 hot, hot.below HU.out.2.2.2 HU.out.2.2.2.size HLO.out.1 HLO.out.2.1 HLO.out.2.2.1 HLO.out.2.2.2.1, ho, by have := some_lt HU.out.2.1.rf; dsimp only at this; omega⟩
              have HX3 : Hid (w3.heap[wr.heap.size]? = some (BX y)) := step_ot (K := ⟨w.heap.size, A, B, cu, cn, R⟩) HU.out.1 hot HBX.out
              have HF3 : Hid (Rf w3 R s b (.slice p s.L.length c)) := by rw [← hlen]; exact H3.out.2.1.rf
              clear ho hD hD2 hs hot x0 x1 x2 x3 x4 x5 x6 x7 x8 x9 x10 x11 x12
              obtain ⟨x0, x1, x2, x3, x4, x5, x6, x7, x8, x9, x10, x11, x12⟩ := bx_of HX3.out
              go_wp2_with fail
              refine (rcall_ok y.c R s b p c _ HF3.out HU.out.2.2.1.l HU.out.2.2.1.r hc).mono ?_
              rintro e w4 ⟨rfl, hf4, hao⟩
              rw [← hlen] at hf4
              have BI : Bi f (callS y.c s) (Ks.Ak.packOut y.c) W := HU.out.2.2.1.call hc
              have H4 : Hid (Su w4 A B cu cn (callS y.c s) ∧ Rp w4 ⟨w.heap.size, A, B, cu, cn, R⟩ (callS y.c s) (Ks.Ak.packOut y.c) p c W ∧ Bi f (callS y.c s) (Ks.Ak.packOut y.c) W ∧ Below w.heap.size w w4 ∧ Out1 w4 (.slice (some ⟨E, 0, none⟩) 1 1) E (callS y.c s).t (callS y.c s).lt) := ⟨H3.out.1.ao (k := ⟨w.heap.size, A, B, cu, cn, R⟩) H3.out.2.1 hao, H3.out.2.1.ao (k := ⟨w.heap.size, A, B, cu, cn, R⟩) H3.out.1 hf4 hao, BI, hao.below H3.out.2.2.1 H3.out.2.2.1.size HLO.out.2.2.2.2, ⟨rfl, (hao.block E (some_lt H3.out.2.2.2.1.blk) H3.out.2.2.2.2).trans H3.out.2.2.2.1.blk⟩⟩
              clear hf4 hao BI x0 x1 x2 x3 x4 x5 x6 x7 x8 x9 x10 x11 x12
              go_wp2_with fail
              refine (sent_any _ E R (callS y.c s) (Ks.Ak.packOut y.c) _ _ H4.out.2.2.2.2 H4.out.2.1.rf ⟨by have := HU.out.2.2.1.id; have := HU.out.2.2.1.fp; show 0 ≤ s.id; omega, HU.out.2.2.1.id.2⟩ H4.out.2.2.1.r (askSz _) rfl).mono ?_
              rintro e w5 ⟨rfl, hb5⟩
              have H5 : Hid (Su w5 A B cu cn (callS y.c s) ∧ Rp w5 ⟨w.heap.size, A, B, cu, cn, R⟩ (callS y.c s) (Ks.Ak.packOut y.c) p c W ∧ Bi f (callS y.c s) (Ks.Ak.packOut y.c) W ∧ Below w.heap.size w w5) := ⟨H4.out.1.up hb5, H4.out.2.1.up hb5, H4.out.2.2.1, bup H4.out.2.2.2.1 hb5⟩
              clear hb5
              go_wp2
              go_meet
              case rel => exact ⟨callS y.c s, Ks.Ak.packOut y.c, p, c, W, H5.out⟩
            · refine (call_no y.c A B cu cn s _ HU.out.1 hc).mono ?_
              rintro e w3 ⟨rfl, hs, hot⟩
              have H3 : Hid (Su w3 A B cu cn s ∧ Rp w3 ⟨w.heap.size, A, B, cu, cn, R⟩ s b p c W ∧ Bi f s b W ∧ Below w.heap.size w w3) := ⟨hs, HU.out.2.1.ot (k := ⟨w.heap.size, A, B, cu, cn, R⟩) HU.out.1 hot, HU.out.2.2.1, hot.below HU.out.2.2.2 HU.out.2.2.2.size HLO.out.1 HLO.out.2.1 HLO.out.2.2.1 HLO.out.2.2.2.1⟩
              have HX3 : Hid (w3.heap[wr.heap.size]? = some (BX y)) := step_ot (K := ⟨w.heap.size, A, B, cu, cn, R⟩) HU.out.1 hot HBX.out
              have HF3 : Hid (Rf w3 R s b (.slice p s.L.length c)) := by rw [← hlen]; exact H3.out.2.1.rf
              have HCN : Hid (∀ V : World, Rf V R s b (.slice p s.L.length c) → Calls Tryz.prog 10 #[.pointer (some ⟨R, 0, none⟩), Ks.VC y.c] V fun e w' => e = .returned (.int .i64 (callE y.c s)) ∧ Below V.heap.size V w') := fun V hV => rcall_no y.c R s b p c V hV HU.out.2.2.1.l hc
              clear hs hot x0 x1 x2 x3 x4 x5 x6 x7 x8 x9 x10 x11 x12
              obtain ⟨x0, x1, x2, x3, x4, x5, x6, x7, x8, x9, x10, x11, x12⟩ := bx_of HX3.out
              have hc1 : (callE y.c s == 0) = false := by simpa using hc
              have hc2 : (callE y.c s != 0) = true := by simpa using hc
              generalize callE y.c s = ce at hc hc1 hc2 HCN ⊢
              go_wp2_with fail
              refine (HCN.out _ HF3.out).mono ?_
              rintro e w4 ⟨rfl, hb4⟩
              have H4 : Hid (Su w4 A B cu cn s ∧ Rp w4 ⟨w.heap.size, A, B, cu, cn, R⟩ s b p c W ∧ Bi f s b W ∧ Below w.heap.size w w4) := ⟨H3.out.1.up hb4, H3.out.2.1.up hb4, H3.out.2.2.1, bup H3.out.2.2.2 hb4⟩
              clear hb4 HCN x0 x1 x2 x3 x4 x5 x6 x7 x8 x9 x10 x11 x12
              go_wp2
              go_meet
              case rel => exact ⟨s, b, p, c, W, H4.out⟩
        by_cases hw1 : y.w = 1
        · as_aux_lemma =>
            have HSS : Hid (X.drew.cell? ⟨wr.heap.size, 1, none⟩ = some (.int .i64 y.f) ∧ X.drew.cell? ⟨wr.heap.size, 12, none⟩ = some (.string y.x)) := ⟨x1, x12⟩
            have HLc : Hid (∀ (V : World) (s2 : Sb) (p2 : Option Addr) (c2 : Nat) (W2 : List Wa), Su V A B cu cn s → Rp V ⟨w.heap.size, A, B, cu, cn, R⟩ s2 b p2 c2 W2 → Below w.heap.size w V → V.heap[wr.heap.size]? = some (BX y) → Calls Tryz.prog 12 #[.pointer (some ⟨A, 0, none⟩), .int .i64 y.f, .string y.x] V fun e w' => e = .returned (.bool (hB s y.f y.x)) ∧ Su w' A B cu cn (hS f s y.f y.x) ∧ Rp w' ⟨w.heap.size, A, B, cu, cn, R⟩ s2 b p2 c2 W2 ∧ Below w.heap.size w w' ∧ w'.heap[wr.heap.size]? = some (BX y)) := fun V s2 p2 c2 W2 h1 h2 h3 h4 =>
              (letter_all y.f y.x A B cu cn s V h1 (tab_up HT.out h3) HU.out.2.2.1.is (fun e => (HU.out.2.2.1.y e).2.2)).mono fun e w' ⟨he, h5, h6⟩ => ⟨he, h5, h2.ot (k := ⟨w.heap.size, A, B, cu, cn, R⟩) h1 h6, h6.below h3 h3.size HLO.out.1 HLO.out.2.1 HLO.out.2.2.1 HLO.out.2.2.2.1, step_ot (K := ⟨w.heap.size, A, B, cu, cn, R⟩) h1 h6 h4⟩
            have HHc : Hid (∀ (V : World) (s1 : Sb), Rp V ⟨w.heap.size, A, B, cu, cn, R⟩ s b p c W → Su V A B cu cn s1 → Below w.heap.size w V → V.heap[wr.heap.size]? = some (BX y) → Calls Tryz.prog 13 #[.pointer (some ⟨R, 0, none⟩), .int .i64 y.f, .string y.x] V fun e w' => e = .returned (.bool (hB s y.f y.x)) ∧ (∃ p' c' W', Rp w' ⟨w.heap.size, A, B, cu, cn, R⟩ (hS f s y.f y.x) b p' c' W' ∧ Bi f (hS f s y.f y.x) b W') ∧ Su w' A B cu cn s1 ∧ Below w.heap.size w w' ∧ w'.heap[wr.heap.size]? = some (BX y)) := fun V s1 h1 h2 h3 h4 =>
              (hear_all y.f y.x ⟨w.heap.size, A, B, cu, cn, R⟩ s s1 b p c W w V h1 h2 h3 h3.size HLO.out.2.2.2.2 HU.out.2.2.1).mono fun e w' ⟨he, h5, h6, h7, h8⟩ => ⟨he, h5, h6, h7, h8 _ _ h4⟩
            have HUd : Hid (Su X.drew A B cu cn s ∧ Rp X.drew ⟨w.heap.size, A, B, cu, cn, R⟩ s b p c W ∧ Below w.heap.size w X.drew ∧ X.drew.heap[wr.heap.size]? = some (BX y)) := ⟨HU.out.1.up (Below.refl _ _).drew, HU.out.2.1.up (Below.refl _ _).drew, HU.out.2.2.2.drew, HBX.out⟩
            generalize hB s y.f y.x = lb at HLc HHc ⊢
            generalize hS f s y.f y.x = s9 at HLc HHc ⊢
            have hcell : ∀ {V : World}, V.heap[wr.heap.size]? = some (BX y) → V.cell? ⟨wr.heap.size, 1, none⟩ = some (.int .i64 y.f) ∧ V.cell? ⟨wr.heap.size, 12, none⟩ = some (.string y.x) := fun {V} h => ⟨(bx_of h).2.1, (bx_of h).2.2.2.2.2.2.2.2.2.2.2.2⟩
            clear x0 x1 x2 x3 x4 x5 x6 x7 x8 x9 x10 x11 x12
            go_wp2_with fail
            go_region_held3 (fun w' => w'.cell? ⟨wr.heap.size, 1, none⟩ = some (.int .i64 y.f) ∧ w'.cell? ⟨wr.heap.size, 12, none⟩ = some (.string y.x)) (first | exact HSS.out | assumption) (first
              | (go_at_call 12; refine (HLc.out _ _ _ _ _ HH.out.2.1 HH.out.1 HH.out.2.2.1 HH.out.2.2.2.1).mono ?_; rintro e w4 ⟨rfl, a1, a2, a3, a4⟩; have HE : Hid (Su w4 A B cu cn s9 ∧ (∃ p' c' W', Rp w4 ⟨w.heap.size, A, B, cu, cn, R⟩ s9 b p' c' W' ∧ Bi f s9 b W') ∧ Below w.heap.size w w4) := ⟨a1, ⟨_, _, _, a2, HH.out.2.2.2.2⟩, a3⟩; have hkk := hcell a4; clear a1 a2 a3 a4)
              | (go_at_call 13; refine (HHc.out _ _ HL.out.2.1 HL.out.1 HL.out.2.2.1 HL.out.2.2.2).mono ?_; rintro e w4 ⟨rfl, a1, a2, a3, a4⟩; have HE : Hid (Su w4 A B cu cn s9 ∧ (∃ p' c' W', Rp w4 ⟨w.heap.size, A, B, cu, cn, R⟩ s9 b p' c' W' ∧ Bi f s9 b W') ∧ Below w.heap.size w w4) := ⟨a2, a1, a3⟩; have hkk := hcell a4; clear a1 a2 a3 a4)
              | (go_at_call 12; refine (HLc.out _ _ _ _ _ HUd.out.1 HUd.out.2.1 HUd.out.2.2.1 HUd.out.2.2.2).mono ?_; rintro e w3 ⟨rfl, a1, a2, a3, a4⟩; have HL : Hid (Su w3 A B cu cn s9 ∧ Rp w3 ⟨w.heap.size, A, B, cu, cn, R⟩ s b p c W ∧ Below w.heap.size w w3 ∧ w3.heap[wr.heap.size]? = some (BX y)) := ⟨a1, a2, a3, a4⟩; have hkk := hcell a4; clear a1 a2 a3 a4)
              | (go_at_call 13; refine (HHc.out _ _ HUd.out.2.1 HUd.out.1 HUd.out.2.2.1 HUd.out.2.2.2).mono ?_; rintro e w3 ⟨rfl, ⟨p', c', W', a1, b1⟩, a2, a3, a4⟩; have HH : Hid (Rp w3 ⟨w.heap.size, A, B, cu, cn, R⟩ s9 b p' c' W' ∧ Su w3 A B cu cn s ∧ Below w.heap.size w w3 ∧ w3.heap[wr.heap.size]? = some (BX y) ∧ Bi f s9 b W') := ⟨a1, a2, a3, a4, b1⟩; have hkk := hcell a4; clear a1 a2 a3 a4 b1))
            all_goals
              go_wp2
              go_meet
              case rel =>
                obtain ⟨e1, ⟨p', c', W', e2, e3⟩, e4⟩ := HE.out
                exact ⟨s9, b, p', c', W', e1, e2, e3, e4⟩
        by_cases hw2 : y.w = 2
        · as_aux_lemma =>
            go_wp2_with fail
            cases hb : bz s with
            | false =>
              refine (tick_no A B cu cn s _ HU.out.1 hb).mono ?_
              rintro e w3 ⟨rfl, rfl⟩
              clear x0 x1 x2 x3 x4 x5 x6 x7 x8 x9 x10 x11 x12
              go_wp2_with fail
              refine (rtick_no R s b _ _ HU.out.2.1.rf hb).mono ?_
              rintro e w4 ⟨rfl, rfl⟩
              go_wp2
              go_meet
              case rel => exact ⟨s, b, p, c, W, HU.out⟩
            | true =>
              refine (tick_yes A B cu cn s _ HU.out.1 HU.out.2.2.1.is HU.out.2.2.1.t.1 (by have := HU.out.2.2.1.t; have := HU.out.2.2.1.fp; omega) hb).mono ?_
              rintro e w3 ⟨E, v, rfl, ho, hD, hD2, hs, hot⟩
              obtain rfl := ho.is
              have H3 : Hid (Su w3 A B cu cn (tickS f s) ∧ Rp w3 ⟨w.heap.size, A, B, cu, cn, R⟩ s b p c W ∧ Below w.heap.size w w3 ∧ Out1 w3 (.slice (some ⟨E, 0, none⟩) 1 1) E (tickS f s).t (tickS f s).lt ∧ E ≠ R) := ⟨hs, HU.out.2.1.ot (k := ⟨w.heap.size, A, B, cu, cn, R⟩) HU.out.1 hot, hot.below HU.out.2.2.2 HU.out.2.2.2.size HLO.out.1 HLO.out.2.1 HLO.out.2.2.1 HLO.out.2.2.2.1, ho, by have := some_lt HU.out.2.1.rf; dsimp only at this; omega⟩
              clear ho hD hD2 hs hot x0 x1 x2 x3 x4 x5 x6 x7 x8 x9 x10 x11 x12
              go_wp2_with fail
              refine (rtick_yes R s b _ _ H3.out.2.1.rf HU.out.2.2.1.is HU.out.2.2.1.t hb).mono ?_
              rintro e w4 ⟨rfl, hf4, hao⟩
              have BI : Bi f (tickS f s) b W := HU.out.2.2.1.tick
              have H4 : Hid (Su w4 A B cu cn (tickS f s) ∧ Rp w4 ⟨w.heap.size, A, B, cu, cn, R⟩ (tickS f s) b p c W ∧ Bi f (tickS f s) b W ∧ Below w.heap.size w w4 ∧ Out1 w4 (.slice (some ⟨E, 0, none⟩) 1 1) E (tickS f s).t (tickS f s).lt) := ⟨H3.out.1.ao (k := ⟨w.heap.size, A, B, cu, cn, R⟩) H3.out.2.1 hao, H3.out.2.1.ao (k := ⟨w.heap.size, A, B, cu, cn, R⟩) H3.out.1 hf4 hao, BI, hao.below H3.out.2.2.1 H3.out.2.2.1.size HLO.out.2.2.2.2, ⟨rfl, (hao.block E (some_lt H3.out.2.2.2.1.blk) H3.out.2.2.2.2).trans H3.out.2.2.2.1.blk⟩⟩
              have hy9 := BI.y hb
              clear hf4 hao BI
              go_wp2_with fail
              refine (sent_any _ E R (tickS f s) b _ _ H4.out.2.2.2.2 H4.out.2.1.rf ⟨by have := HU.out.2.2.1.id; have := HU.out.2.2.1.fp; show 0 ≤ s.id; omega, HU.out.2.2.1.id.2⟩ H4.out.2.2.1.r hy9.2.1 hy9.1).mono ?_
              rintro e w5 ⟨rfl, hb5⟩
              have H5 : Hid (Su w5 A B cu cn (tickS f s) ∧ Rp w5 ⟨w.heap.size, A, B, cu, cn, R⟩ (tickS f s) b p c W ∧ Bi f (tickS f s) b W ∧ Below w.heap.size w w5) := ⟨H4.out.1.up hb5, H4.out.2.1.up hb5, H4.out.2.2.1, bup H4.out.2.2.2.1 hb5⟩
              clear hb5 hy9
              go_wp2
              go_meet
              case rel => exact ⟨tickS f s, b, p, c, W, H5.out⟩
        by_cases hw3 : y.w = 3
        · as_aux_lemma =>
            go_wp2_with fail
            cases hL : s.L with
            | nil =>
              obtain rfl := HU.out.2.2.1.none hL
              refine (answer_no A B cu cn s _ HU.out.1 hL).mono ?_
              rintro e w3 ⟨rfl, hs, hot⟩
              have H3 : Hid (Su w3 A B cu cn s ∧ Rp w3 ⟨w.heap.size, A, B, cu, cn, R⟩ s b p c [] ∧ Bi f s b [] ∧ Below w.heap.size w w3) := ⟨hs, HU.out.2.1.ot (k := ⟨w.heap.size, A, B, cu, cn, R⟩) HU.out.1 hot, HU.out.2.2.1, hot.below HU.out.2.2.2 HU.out.2.2.2.size HLO.out.1 HLO.out.2.1 HLO.out.2.2.1 HLO.out.2.2.2.1⟩
              have H4 : Hid (∀ o, Su (w3.alloc o) A B cu cn s ∧ Rp (w3.alloc o) ⟨w.heap.size, A, B, cu, cn, R⟩ s b p c [] ∧ Bi f s b [] ∧ Below w.heap.size w (w3.alloc o)) := fun o => ⟨H3.out.1.up (below_alloc _ _), H3.out.2.1.up (below_alloc _ _), H3.out.2.2.1, bup H3.out.2.2.2 (below_alloc _ _)⟩
              have e8 : ∀ o, (w3.alloc o).cell? ⟨R, 8, none⟩ = some (.slice p 0 c) := fun o => (H4.out o).2.1.rf.cells.2.2.2.2.2.2.2.2
              clear hs hot x0 x1 x2 x3 x4 x5 x6 x7 x8 x9 x10 x11 x12
              go_wp2
              go_meet
              case rel => exact ⟨s, b, p, c, [], H4.out _⟩
            | cons x l =>
              obtain ⟨z, m, rfl, bi2, o2, o3, o4⟩ := HU.out.2.2.1.take hL
              refine (answer_yes A B cu cn s x l _ HU.out.1 HT1.out hL o2).mono ?_
              rintro e w3 ⟨v, rfl, hat, hs, hot⟩
              rw [o3, o4] at *
              obtain ⟨p3, d3, hv3, -, -⟩ := hat.open
              have H3 : Hid (Su w3 A B cu cn { s with L := l } ∧ Rp w3 ⟨w.heap.size, A, B, cu, cn, R⟩ s b p c (z :: m) ∧ Below w.heap.size w w3 ∧ At Ns.EE (fun j => X.heap.size ≤ j) w3 v z.r.ents) := ⟨hs, HU.out.2.1.ot (k := ⟨w.heap.size, A, B, cu, cn, R⟩) HU.out.1 hot, hot.below HU.out.2.2.2 HU.out.2.2.2.size HLO.out.1 HLO.out.2.1 HLO.out.2.2.1 HLO.out.2.2.2.1, hat⟩
              subst hv3
              have hpl : ∃ g off2, p = some ⟨g, off2, none⟩ := by
                obtain ⟨g, off2, cap, esl, -, -, -⟩ := H3.out.2.1.rg.head
                simp only [Value.slice.injEq] at esl
                exact ⟨g, off2, esl.1⟩
              obtain ⟨g, off2, rfl⟩ := hpl
              obtain ⟨Y, hY⟩ : ∃ Y, w3.alloc (BA1 z.q z.r (.slice p3 z.r.ents.length d3)) = Y := ⟨_, rfl⟩
              have HYY : Hid (w3.alloc (BA1 z.q z.r (.slice p3 z.r.ents.length d3)) = Y) := hY
              have HY : Hid (Su Y A B cu cn { s with L := l } ∧ Rp Y ⟨w.heap.size, A, B, cu, cn, R⟩ s b (some ⟨g, off2, none⟩) c (z :: m) ∧ Below w.heap.size w Y ∧ At Ns.EE (fun j => X.heap.size ≤ j) Y (.slice p3 z.r.ents.length d3) z.r.ents ∧ Y.heap[w3.heap.size]? = some (BA1 z.q z.r (.slice p3 z.r.ents.length d3))) := by
                rw [← hY]
                exact ⟨H3.out.1.up (below_alloc _ _), H3.out.2.1.up (below_alloc _ _), bup H3.out.2.2.1 (below_alloc _ _), H3.out.2.2.2.up (below_alloc _ _), heap_alloc_new _ _⟩
              have e8 : ∀ o, (w3.alloc o).cell? ⟨R, 8, none⟩ = some (.slice (some ⟨g, off2, none⟩) (m.length + 1) c) := fun o => (H3.out.2.1.up (below_alloc w3 o)).rf.cells.2.2.2.2.2.2.2.2
              have hpos : (0 : Int) < ((m.length + 1 : Nat) : Int) := by omega
              have hpos2 : (0 : Int) < (m.length : Int) + 1 := by omega
              have HB2 : Hid (Bi f { s with L := l } b m) := bi2
              clear hY hs hot hat o2 o3 o4 bi2 x0 x1 x2 x3 x4 x5 x6 x7 x8 x9 x10 x11 x12
              go_wp2_with fail
              rw [HYY.out]
              clear e8
              obtain ⟨z0, z1, z2, z3, z4, z5, z6, z7, z8, z9, z10⟩ := el_of HY.out.2.2.2.2
              obtain ⟨g', off', cap', esl, -, hcap, hcells⟩ := HY.out.2.1.rg.head
              simp only [Value.slice.injEq, Option.some.injEq, Addr.mk.injEq, and_true, List.length_cons, true_and] at esl
              obtain ⟨⟨rfl, rfl⟩, rfl⟩ := esl
              have r0 := hcells 0 _ rfl
              have r1 := hcells 1 _ rfl
              have r2 := hcells 2 _ rfl
              have r3 := hcells 3 _ rfl
              have r4 := hcells 4 _ rfl
              have r5 := hcells 5 _ rfl
              have r6 := hcells 6 _ rfl
              have r7 := hcells 7 _ rfl
              have r8 := hcells 8 _ rfl
              have r9 := hcells 9 _ rfl
              have r10 := hcells 10 _ rfl
              rw [Nat.add_zero] at r0
              have d8 := HY.out.2.1.rf.cells.2.2.2.2.2.2.2.2
              rw [List.length_cons] at d8
              have XZ0 := fun q : Grw Y => q.cell z0
              have XR0 := fun q : Grw Y => q.cell r0
              have XZ1 := fun q : Grw Y => q.cell z1
              have XR1 := fun q : Grw Y => q.cell r1
              have XZ2 := fun q : Grw Y => q.cell z2
              have XR2 := fun q : Grw Y => q.cell r2
              have XZ3 := fun q : Grw Y => q.cell z3
              have XR3 := fun q : Grw Y => q.cell r3
              have XZ4 := fun q : Grw Y => q.cell z4
              have XR4 := fun q : Grw Y => q.cell r4
              have XZ5 := fun q : Grw Y => q.cell z5
              have XR5 := fun q : Grw Y => q.cell r5
              have XZ6 := fun q : Grw Y => q.cell z6
              have XR6 := fun q : Grw Y => q.cell r6
              have XZ7 := fun q : Grw Y => q.cell z7
              have XR7 := fun q : Grw Y => q.cell r7
              have XZ8 := fun q : Grw Y => q.cell z8
              have XR8 := fun q : Grw Y => q.cell r8
              have XZ9 := fun q : Grw Y => q.cell z9
              have XR9 := fun q : Grw Y => q.cell r9
              have XZ10 := fun q : Grw Y => q.cell z10
              have XR10 := fun q : Grw Y => q.cell r10
              have XD := fun q : Grw Y => q.cell d8
              have HRS : Hid (∀ q : Grw Y, Calls Tryz.prog 17 #[Ns.VR z.r (.slice p3 z.r.ents.length d3), Ns.VR z.r (.slice z.p z.r.ents.length z.c)] q.out fun e w' => e = .returned (.bool true) ∧ Below q.out.heap.size q.out w') := fun q => Ns.reply_same z.r _ _ q.out (HY.out.2.2.2.1.up q.below) ((HY.out.2.1.en z (by simp)).up q.below)
              have hne9 : Nonempty (Grw Y) := grw_some Y
              clear hcells d8 z0 r0 z1 r1 z2 r2 z3 r3 z4 r4 z5 r5 z6 r6 z7 r7 z8 r8 z9 r9 z10 r10
              refine wp_region_grw (by kernel_rfl) (by kernel_rfl) ?_
              repeat (go_big_quiet_step (first
                | (go_at_call 17; with_reducible refine calls_grw (Grw.grown _) (HRS.out _))))
              rintro w9 ⟨p9, rfl⟩
              have H9 : Hid (Su p9.out A B cu cn { s with L := l } ∧ Rp p9.out ⟨w.heap.size, A, B, cu, cn, R⟩ s b (some ⟨g, off2, none⟩) c (z :: m) ∧ Below w.heap.size w p9.out) := ⟨HY.out.1.up p9.below, HY.out.2.1.up p9.below, bup HY.out.2.2.1 p9.below⟩
              obtain ⟨⟨hc1, hc2⟩, hpop⟩ := Rp.pop (k := ⟨w.heap.size, A, B, cu, cn, R⟩) (n := m.length + 1) H9.out.2.1 rfl H9.out.1 (l := l)
              have k8 : p9.out.cell? ⟨R, 8, none⟩ = some (.slice (some ⟨g, off2, none⟩) (m.length + 1) c) := XD p9
              have f8 := H9.out.2.1.rf.fr 8
              have HP : Hid (Su (p9.out.setCell ⟨R, 8, none⟩ (.slice (if c = 1 then some ⟨g, off2, none⟩ else some ⟨g, off2 + 11, none⟩) m.length (c - 1))) A B cu cn { s with L := l } ∧ Rp (p9.out.setCell ⟨R, 8, none⟩ (.slice (if c = 1 then some ⟨g, off2, none⟩ else some ⟨g, off2 + 11, none⟩) m.length (c - 1))) ⟨w.heap.size, A, B, cu, cn, R⟩ { s with L := l } b (if c = 1 then some ⟨g, off2, none⟩ else some ⟨g, off2 + 11, none⟩) (c - 1) m ∧ Below w.heap.size w (p9.out.setCell ⟨R, 8, none⟩ (.slice (if c = 1 then some ⟨g, off2, none⟩ else some ⟨g, off2 + 11, none⟩) m.length (c - 1)))) := by
                have ne := Rp.neS (k := ⟨w.heap.size, A, B, cu, cn, R⟩) H9.out.2.1 H9.out.1
                exact ⟨H9.out.1.put ne.1 ne.2.1 ne.2.2.1 ne.2.2.2, hpop, Below.setCell H9.out.2.2 (by show w.heap.size ≤ R; exact HLO.out.2.2.2.2) _⟩
              clear hpop XZ0 XR0 XZ1 XR1 XZ2 XR2 XZ3 XR3 XZ4 XR4 XZ5 XR5 XZ6 XR6 XZ7 XR7 XZ8 XR8 XZ9 XR9 XZ10 XR10 XD HRS
              by_cases hcc : c = 1
              · have hp := HP.out
                rw [if_pos hcc] at hp
                subst hcc
                obtain rfl : m = [] := List.eq_nil_of_length_eq_zero (by omega)
                have HP1 : Hid (Su (p9.out.setCell ⟨R, 8, none⟩ (.slice (some ⟨g, off2, none⟩) 0 0)) A B cu cn { s with L := l } ∧ Rp (p9.out.setCell ⟨R, 8, none⟩ (.slice (some ⟨g, off2, none⟩) 0 0)) ⟨w.heap.size, A, B, cu, cn, R⟩ { s with L := l } b (some ⟨g, off2, none⟩) 0 [] ∧ Below w.heap.size w (p9.out.setCell ⟨R, 8, none⟩ (.slice (some ⟨g, off2, none⟩) 0 0))) := hp
                clear hp HP
                go_wp2
                go_meet
                case rel => exact ⟨{ s with L := l }, b, some ⟨g, off2, none⟩, 0, [], HP1.out.1, HP1.out.2.1, HB2.out, HP1.out.2.2⟩
              · have hp := HP.out
                rw [if_neg hcc] at hp
                have HP1 : Hid (Su (p9.out.setCell ⟨R, 8, none⟩ (.slice (some ⟨g, off2 + 11, none⟩) m.length (c - 1))) A B cu cn { s with L := l } ∧ Rp (p9.out.setCell ⟨R, 8, none⟩ (.slice (some ⟨g, off2 + 11, none⟩) m.length (c - 1))) ⟨w.heap.size, A, B, cu, cn, R⟩ { s with L := l } b (some ⟨g, off2 + 11, none⟩) (c - 1) m ∧ Below w.heap.size w (p9.out.setCell ⟨R, 8, none⟩ (.slice (some ⟨g, off2 + 11, none⟩) m.length (c - 1)))) := hp
                clear hp HP
                go_wp2
                go_meet
                case rel => exact ⟨{ s with L := l }, b, some ⟨g, off2 + 11, none⟩, c - 1, m, HP1.out.1, HP1.out.2.1, HB2.out, HP1.out.2.2⟩
        clear x0 x1 x2 x3 x4 x5 x6 x7 x8 x9 x10 x11 x12
        go_wp2
        go_meet
        case rel => exact ⟨s, b, p, c, W, HU.out⟩
      case rest =>
        obtain ⟨s', b', p', c', W', HC⟩ := hcut
        go_wp2_with fail
        refine (under_any A B cu cn s' _ HC.out.1).mono ?_
        rintro e w4 ⟨rfl, hb4⟩
        have H4 : Hid (Su w4 A B cu cn s' ∧ Rp w4 ⟨w.heap.size, A, B, cu, cn, R⟩ s' b' p' c' W' ∧ Bi f s' b' W' ∧ Below w.heap.size w w4) := ⟨HC.out.1.up hb4, HC.out.2.1.up hb4, HC.out.2.2.1, bup HC.out.2.2.2 hb4⟩
        clear hb4
        obtain ⟨d0, d1, d2, d3, d4, d5, d6, d7, d8⟩ := H4.out.2.1.rf.cells
        have X2 := fun q : Grw w4 => q.cell d2
        have X4 := fun q : Grw w4 => q.cell d4
        have X5 := fun q : Grw w4 => q.cell d5
        have HTG : Hid (∀ q : Grw w4, Calls Tryz.prog 19 #[.pointer (some ⟨A, 0, none⟩)] q.out fun e w' => e = .returned (.int .i64 s'.t) ∧ Below q.out.heap.size q.out w') := fun q => target_any A B cu cn s' _ (H4.out.1.up q.below)
        have hne9 : Nonempty (Grw w4) := grw_some w4
        clear d0 d1 d2 d3 d4 d5 d6 d7 d8
        generalize s'.t = st at HTG X2
        generalize s'.r = sr at X4 ⊢
        cases hz : bz s' <;>
        · rw [hz] at X5
          go_wp2
          refine wp_region_grw (by kernel_rfl) (by kernel_rfl) ?_
          repeat (go_big_quiet_step (first
            | (go_at_call 19; with_reducible refine calls_grw (Grw.grown _) (HTG.out _))))
          rintro w9 ⟨p9, rfl⟩
          have H9 : Hid (Su p9.out A B cu cn s' ∧ Rp p9.out ⟨w.heap.size, A, B, cu, cn, R⟩ s' b' p' c' W' ∧ Bi f s' b' W' ∧ Below w.heap.size w p9.out) := ⟨H4.out.1.up p9.below, H4.out.2.1.up p9.below, H4.out.2.2.1, bup H4.out.2.2.2 p9.below⟩
          go_wp2
          go_roundw
          case rel => exact ⟨k + 1, s', b', p', c', W', by go_num, by omega, H9.out⟩
          case measure => simp [intOf]; omega
    · obtain rfl : k = n2 := by omega
      go_wp2_with fail
      refine (goes_any _ (tab_up HT.out HR.out.2.2.2)).mono ?_
      rintro e w3 ⟨rfl, hb2⟩
      have HB2 : Hid (Below w.heap.size w w3) := bup HR.out.2.2.2 hb2
      clear hb2
      go_wp2
      go_ret
      exact ⟨rfl, HB2.out⟩

theorem stubSteps_contract (H : Type) (enc : TypeId × Value → H) (W : World) (base : Nat) (args : Array Value) (ds gs : List (DataW H)) (before : List MemPlace)
    (hval : ∀ (j : Nat) t v, Tryz.f3.params[j]? = some t → args[j]? = some v → Value.okWide Tryz.prog W .any base t v)
    (hW : DataW.Whole enc Tryz.prog Tryz.f3.params.toList Rows.stubStepsSpec.vars false W args.toList ds gs before) (hL : laidMetH Tryz.prog Rows.stubStepsRow.laid W) :
    Calls Tryz.prog 3 args W fun e W' => ∃ v, e = .returned v ∧ Rows.stubStepsSpec.post enc Tryz.prog Tryz.f3 false true false false W args v W' := by
  have hW' := hW
  obtain ⟨p, q, hA0, hV, rfl, hfz, hnd⟩ := hW
  have hA : DataW.TrodAll enc Tryz.prog W 0 (fun _ => true) true Tryz.f3.params.toList args.toList ds p := hA0
  rw [Tryz.params3] at hA hval
  obtain ⟨v0, v1, v2, d0, d1, d2, p0, p1, p2, rfl, rfl, rfl, h0, h1, h2⟩ := trodAll_three hA
  obtain ⟨rfl, rfl⟩ := trodVars_none hV
  obtain ⟨a2, w2⟩ := open_steps (hval 2 22 v2 rfl rfl) h2
  obtain ⟨a0, rfl, rfl, rfl, w0⟩ := open_int Tryz.underlying3 (hval 0 3 v0 rfl rfl) h0
  obtain ⟨a1, rfl, rfl, rfl, w1⟩ := open_int Tryz.underlying3 (hval 1 3 v1 rfl rfl) h1
  refine (steps_law a0 a1 _ a2 W w2 (table hL)).mono fun e W' ⟨he, hg⟩ => ⟨_, he, ?_⟩
  exact Law.post laidOut (by kernel_rfl) rfl Tryz.underlying4 hW' rfl rfl hg
theorem stubSteps_laid_met (os : Os) : laidMet Tryz.prog Rows.stubStepsRow.laid ((laidWorld Tryz.prog os).forCall (fun _ _ => 0) ⟨#[], #[.int .i64 0, .int .i64 0, .slice none 0 0], []⟩).memory :=
  laidMet_of_run' 8 (by kernel_rfl) (by kernel_rfl)
theorem stubSteps_reads (os : Os) {H : Type} (enc : TypeId × Value → H) : ∃ places, DataW.whole enc Tryz.prog ((laidWorld Tryz.prog os).forCall (fun _ _ => 0) ⟨#[], #[.int .i64 0, .int .i64 0, .slice none 0 0], []⟩).memory Tryz.f3.params.toList Rows.stubStepsSpec.vars false (#[.int .i64 0, .int .i64 0, .slice none 0 0] : Array Value).toList 8 = some ([.lit (.int .i64 0), .lit (.int .i64 0), .nil], [], places) :=
  ⟨[], by kernel_rfl⟩

set_option maxRecDepth 100000 in
theorem stubSteps_lifted (os : Os) (started : os.Started) (H : Type) (enc : TypeId × Value → H) (F : Stop.Interp) :
    ReturnsInHanded {} Tryz.checked os 3 .any ((OpenSpec.ofChange Rows.stubStepsSpec).preRow enc Tryz.prog Tryz.f3 Rows.stubStepsRow.domain false Rows.stubStepsRow.laid) (((OpenSpec.ofChange Rows.stubStepsSpec).at F).post enc Tryz.prog Tryz.f3 false true false false) := by
  obtain ⟨places, hx⟩ := stubSteps_reads os enc
  refine returnsInHanded_of_row (C := Tryz.checked) (s := OpenSpec.ofChange Rows.stubStepsSpec) own started (by kernel_rfl) Tryz.func3
    (witness_row_at (enc := enc) (C := Tryz.checked) false (laidWorld Tryz.prog os) #[.int .i64 0, .int .i64 0, .slice none 0 0] rfl (by kernel_rfl) (by kernel_rfl) (by kernel_rfl)
      (OpenSpec.preRow_of_cond 8 hx (by kernel_rfl) (fun k hk => by cases hk) (by kernel_rfl) (stubSteps_laid_met os))) ?_
  intro W base args ds gs before hval hW _ _ _ hL _ _
  exact stubSteps_contract H enc W base args ds gs before hval hW hL

theorem stubSteps_said : Rows.StubStepsSaid :=
  OpenClaim.holds_of_cond 3 Tryz.f3 rfl rfl rfl rfl rfl rfl rfl ⟨rfl, rfl, rfl, rfl, rfl⟩ rfl rfl rfl rfl rfl (by kernel_rfl) Tryz.func3 (by kernel_rfl)
    (of_decide_eq_true (by kernel_rfl)) (by unfold Func.isWrapper; first | (rw [if_pos (by decide +kernel)]; kernel_rfl) | (rw [if_neg (by decide +kernel)]; exact ⟨rfl, rfl⟩))
    (fun os started H enc _ F => by rw [OpenClaim.pre_eq_preRow]; exact stubSteps_lifted os started H enc F)

theorem stubSteps_plain (f : FuncId) (fn : Func) (hf : Tryz.pinned.checked.prog.funcNamed "sexton/sextonlaw25.StubSteps" = some f) (hfn : Tryz.pinned.checked.prog.funcs[f]? = some fn) :
    true = Tryz.pinned.checked.prog.looks [] ∧ ∀ (j : Nat) t, fn.params[j]? = some t → Tryz.pinned.checked.prog.wantsStandIn t = false := by
  obtain rfl : f = 3 := Option.some.inj ((show Tryz.prog.funcNamed "sexton/sextonlaw25.StubSteps" = some 3 by kernel_rfl).symm.trans hf) |>.symm
  obtain rfl : fn = Tryz.f3 := (Option.some.inj (Tryz.func3.symm.trans hfn)).symm
  refine ⟨by kernel_rfl, fun j t ht => ?_⟩
  rw [Tryz.params3] at ht
  have hm : t = 3 ∨ t = 22 := by simpa using Array.mem_of_getElem? ht
  rcases hm with rfl | rfl
  · exact (show Tryz.prog.wantsStandIn 3 = false by kernel_rfl)
  · exact (show Tryz.prog.wantsStandIn 22 = false by kernel_rfl)

theorem stubSteps_card : Rows.StubStepsCardSaid :=
  Claim7.holds_tied_plain_at .later [] _ _ _ _ stubSteps_said (fun _ h => by cases h) (by kernel_rfl) (fun _ h => by cases h) stubSteps_row_tie rfl ⟨rfl, rfl⟩ (by kernel_rfl) rfl stubSteps_plain (by kernel_rfl)
#print axioms stubSteps_card
end Go.Proofs.YtkdhbjmpjbdobaaGreatDoor
