/-
  For any steps sextonlaw25.StubOnce returns true, whatever the memory that holds the table halves as the text of the program lays it: each call is answered once at most, and the numbers of requests rise; whatever comes, what is sent is the call under way, to a replica. No other condition.
-/
import Derived.Test.YtkdhbjmpjbdobaaGreatDoorCards
import Derived.Test.YtkdhbjmpjbdobaaGreatDoorTie
import Derived.Deep.CutRange
import Derived.Deep.CutBlock
import Derived.Test.YtkdhbjmpjbdobaaGreatDoorM23
namespace Go.Proofs.YtkdhbjmpjbdobaaGreatDoor
open Go.ChangeShapes Go.WideShapes Go.ChangeAt Go.RowKit Go.Deep Sk
set_option maxRecDepth 100000
open Go.ChangeMaps (open_string)

set_option maxRecDepth 100000 in
set_option maxRecDepth 100000 in
set_option maxHeartbeats 4000000 in
theorem once_law (v : Value) (l : List Stp) (w : World) (hv : AtW ET w v l) (hT : Po.Tab w) : Calls Tryz.prog 4 #[v] w fun e w' => e = .returned (.bool true) ∧ Below w.heap.size w w' := by
  have HT : Hid (Po.Tab w) := hT
  obtain ⟨ao, ca0, rfl, hm, hx⟩ := hv.open
  unfold maxLen at hm
  obtain ⟨n, hn⟩ : ∃ n, l.length = n := ⟨_, rfl⟩
  rw [hn] at hm ⊢
  have HX : Hid (∀ wr, Below w.heap.size w wr → ∀ j, j < n → ∃ (y : Stp) (b off : Nat), ao = some ⟨b, off, none⟩ ∧ wr.cell? ⟨b, off + j * 13, none⟩ = some (.int .i64 y.w) ∧ wr.cell? ⟨b, off + j * 13 + 1, none⟩ = some (.int .i64 y.f) ∧ wr.cell? ⟨b, off + j * 13 + 2, none⟩ = some (.int .i64 y.c.k) ∧ wr.cell? ⟨b, off + j * 13 + 3, none⟩ = some (.int .i64 y.c.no) ∧ wr.cell? ⟨b, off + j * 13 + 4, none⟩ = some (.int .i64 y.c.gen) ∧ wr.cell? ⟨b, off + j * 13 + 5, none⟩ = some (.int .i64 y.c.no2) ∧ wr.cell? ⟨b, off + j * 13 + 6, none⟩ = some (.int .i64 y.c.gen2) ∧ wr.cell? ⟨b, off + j * 13 + 7, none⟩ = some (.string y.c.nm) ∧ wr.cell? ⟨b, off + j * 13 + 8, none⟩ = some (.string y.c.nm2) ∧ wr.cell? ⟨b, off + j * 13 + 9, none⟩ = some (.int .i64 y.c.pl) ∧ wr.cell? ⟨b, off + j * 13 + 10, none⟩ = some (.int .i64 y.c.n) ∧ wr.cell? ⟨b, off + j * 13 + 11, none⟩ = some (.string y.c.data) ∧ wr.cell? ⟨b, off + j * 13 + 12, none⟩ = some (.string y.x)) := fun wr hb j hj => by
    have hj' : j < l.length := by omega
    obtain ⟨b, off, e1, -, h1, c1⟩ := hx j l[j] (List.getElem?_eq_getElem hj')
    exact ⟨l[j], b, off, e1, (hb.cell (p := ⟨b, off + j * 13, none⟩) h1).trans (c1 0 _ rfl), (hb.cell (p := ⟨b, off + j * 13 + 1, none⟩) h1).trans (c1 1 _ rfl), (hb.cell (p := ⟨b, off + j * 13 + 2, none⟩) h1).trans (c1 2 _ rfl), (hb.cell (p := ⟨b, off + j * 13 + 3, none⟩) h1).trans (c1 3 _ rfl), (hb.cell (p := ⟨b, off + j * 13 + 4, none⟩) h1).trans (c1 4 _ rfl), (hb.cell (p := ⟨b, off + j * 13 + 5, none⟩) h1).trans (c1 5 _ rfl), (hb.cell (p := ⟨b, off + j * 13 + 6, none⟩) h1).trans (c1 6 _ rfl), (hb.cell (p := ⟨b, off + j * 13 + 7, none⟩) h1).trans (c1 7 _ rfl), (hb.cell (p := ⟨b, off + j * 13 + 8, none⟩) h1).trans (c1 8 _ rfl), (hb.cell (p := ⟨b, off + j * 13 + 9, none⟩) h1).trans (c1 9 _ rfl), (hb.cell (p := ⟨b, off + j * 13 + 10, none⟩) h1).trans (c1 10 _ rfl), (hb.cell (p := ⟨b, off + j * 13 + 11, none⟩) h1).trans (c1 11 _ rfl), (hb.cell (p := ⟨b, off + j * 13 + 12, none⟩) h1).trans (c1 12 _ rfl)⟩
  clear hn hx hv hT
  go_enter Tryz.func4, Tryz.ntmps4
  go_wp2_with fail
  refine (snew_ok 5 _ (.inr (.inr (.inl ⟨rfl, rfl⟩))) (by omega) (by omega)).mono ?_
  rintro e w1 ⟨A, B, cu, cn, rfl, hs, hlt, hb⟩
  have H1 : Hid (Su w1 A B cu cn (s0 5 5) ∧ On 0 (s0 5 5) 0 0 0 ⟨#[]⟩ ∧ Below w.heap.size w w1) := ⟨hs, On.zero, hb⟩
  have HLO : Hid (w.heap.size ≤ A ∧ w.heap.size ≤ B ∧ w.heap.size ≤ cu ∧ w.heap.size ≤ cn) := hlt
  clear hs hlt hb
  by_cases h300 : (300 : Int) < (n : Int)
  · go_wp2_with fail
    refine (goes_any _ (tab_up HT.out H1.out.2.2)).mono ?_
    rintro e w2 ⟨rfl, hb2⟩
    have HB2 : Hid (Below w.heap.size w w2) := bup H1.out.2.2 hb2
    clear hb2
    go_wp2
    go_ret
    exact ⟨rfl, HB2.out⟩
  have hn300 : n ≤ 300 := by omega
  go_wp2
  go_loopw [5, 6, 7, 8, 48] (fun v5 v6 v7 v8 i wr => ∃ (k : Nat) (s : Sb) (ca an td : Int) (body : ByteArray), i = .int .i64 k ∧ k ≤ n ∧ v5 = .int .i64 ca ∧ v6 = .int .i64 an ∧ v7 = .int .i64 td ∧ v8 = .string body ∧ Hid (Su wr A B cu cn s ∧ On k s ca an td body ∧ Below w.heap.size w wr)) (fun _ _ _ _ i _ => n - (intOf i).toNat)
  case atStart => exact ⟨0, s0 5 5, 0, 0, 0, ⟨#[]⟩, rfl, Nat.zero_le _, rfl, rfl, rfl, rfl, H1.out⟩
  case round =>
    obtain ⟨k, s, ca, an, td, body, rfl, hk, rfl, rfl, rfl, rfl, HR0⟩ := hrel
    clear H1
    by_cases hlt : k < n
    · have HR : Hid (Su wr A B cu cn s ∧ On k s ca an td body ∧ Below w.heap.size w wr ∧ True) := ⟨HR0.out.1, HR0.out.2.1, HR0.out.2.2, trivial⟩
      clear HR0
      have HO : Hid (On k s ca an td body) := HR.out.2.1
      obtain ⟨y, b, off, rfl, f0, f1, f2, f3, f4, f5, f6, f7, f8, f9, f10, f11, f12⟩ := HX.out wr HR.out.2.2.1 k hlt
      obtain ⟨X, hX⟩ : ∃ X, wr.alloc (BX y) = X := ⟨_, rfl⟩
      have HXX : Hid (wr.alloc (BX y) = X) := hX
      have HU : Hid (Su X A B cu cn s ∧ Ot A B cu cn wr X ∧ Po.Tab X) := by
        rw [← hX]
        exact ⟨HR.out.1.up (below_alloc _ _), Ot.of (below_alloc _ _), tab_up HT.out (bup HR.out.2.2.1 (below_alloc _ _))⟩
      have HBX : Hid (X.heap[wr.heap.size]? = some (BX y)) := by rw [← hX]; exact heap_alloc_new _ _
      have HNE : Hid (wr.heap.size ≠ A ∧ wr.heap.size ≠ B ∧ wr.heap.size ≠ cu ∧ wr.heap.size ≠ cn) := by
        have := HR.out.1.lts
        show _ ∧ _ ∧ _ ∧ _
        omega
      have hlt' : (k : Int) < (n : Int) := by omega
      have HS : Hid ((0 ≤ s.id ∧ s.id ≤ 31) ∧ 0 ≤ s.r ∧ s.r ≤ 1099511627776) := by
        have h1 := HO.out.id
        have h2 := HO.out.r
        have h3 := HO.out.up
        show _ ∧ _
        omega
      have HWR : Hid (wrap64 (ca + 1) = ca + 1 ∧ wrap64 (an + 1) = an + 1 ∧ wrap64 (td + 1) = td + 1) := by
        have h3 := HO.out.up
        show _ ∧ _ ∧ _
        unfold wrap64
        omega
      clear hX
      go_upto_block 2 with fail
      rw [HXX.out]
      clear HXX f0 f1 f2 f3 f4 f5 f6 f7 f8 f9 f10 f11 f12
      obtain ⟨x0, x1, x2, x3, x4, x5, x6, x7, x8, x9, x10, x11, x12⟩ := bx_of HBX.out
      go_cut [5, 6, 7, 8, 11, 12, 13, 14, 15, 16, 17] from 49 to 175 (fun u5 u6 u7 u8 u11 u12 u13 u14 u15 u16 u17 wc => ∃ (s : Sb) (ca an td : Int) (body : ByteArray), u5 = .int .i64 ca ∧ u6 = .int .i64 an ∧ u7 = .int .i64 td ∧ u8 = .string body ∧ Hid (Su wc A B cu cn s ∧ On (k + 1) s ca an td body ∧ Ot A B cu cn wr wc) ∧ (u11 = .slice none 0 0 ∨ bz s = true ∧ ∃ D, Hid (Out1 wc u11 D s.t s.lt)))
      case first =>
        by_cases hw0 : y.w = 0
        · go_wp2_with fail
          by_cases hc : callE y.c s = 0
          · refine (call_ok y.c A B cu cn s _ HU.out.1 HU.out.2.2 HS.out.1 HS.out.2 hc).mono ?_
            rintro e w3 ⟨D, v, rfl, ho, hD, hD2, hs, hot⟩
            obtain rfl := ho.is
            have H3 : Hid (Su w3 A B cu cn (callS y.c s) ∧ Ot A B cu cn wr w3 ∧ Out1 w3 (.slice (some ⟨D, 0, none⟩) 1 1) D s.t (callS y.c s).lt) := ⟨hs, HU.out.2.1.trans hot, ho⟩
            have HX3 : Hid (w3.heap[wr.heap.size]? = some (BX y)) := (hot.block _ (some_lt HBX.out) HNE.out.1 HNE.out.2.1 HNE.out.2.2.1 HNE.out.2.2.2).trans HBX.out
            clear ho hD hD2 hs hot x0 x1 x2 x3 x4 x5 x6 x7 x8 x9 x10 x11 x12
            obtain ⟨x0, x1, x2, x3, x4, x5, x6, x7, x8, x9, x10, x11, x12⟩ := bx_of HX3.out
            go_wp2_with fail
            refine (Ks.askRefPack_any y.c _).mono ?_
            rintro e w4 ⟨rfl, hb4⟩
            have H4 : Hid (Su w4 A B cu cn (callS y.c s) ∧ Ot A B cu cn wr w4 ∧ Out1 w4 (.slice (some ⟨D, 0, none⟩) 1 1) D s.t (callS y.c s).lt) := ⟨H3.out.1.up hb4, H3.out.2.1.trans (Ot.of hb4), H3.out.2.2.up hb4⟩
            have HO4 : Hid (On (k + 1) (callS y.c s) (ca + 1) an td (Ks.Ak.packOut y.c) ∧ bz (callS y.c s) = true) := ⟨HO.out.call hc, bz_call _ _⟩
            clear hb4 x0 x1 x2 x3 x4 x5 x6 x7 x8 x9 x10 x11 x12
            go_wp2
            go_meet
            case rel => exact ⟨callS y.c s, ca + 1, an, td, Ks.Ak.packOut y.c, congrArg (Value.int .i64) HWR.out.1, rfl, rfl, rfl, ⟨H4.out.1, HO4.out.1, H4.out.2.1⟩, .inr ⟨HO4.out.2, D, H4.out.2.2⟩⟩
          · refine (call_no y.c A B cu cn s _ HU.out.1 hc).mono ?_
            rintro e w3 ⟨rfl, hs, hot⟩
            have H3 : Hid (Su w3 A B cu cn s ∧ Ot A B cu cn wr w3) := ⟨hs, HU.out.2.1.trans hot⟩
            clear hs hot x0 x1 x2 x3 x4 x5 x6 x7 x8 x9 x10 x11 x12
            generalize callE y.c s = ce at hc ⊢
            go_wp2
            go_meet
            case rel => exact ⟨s, ca, an, td, body, rfl, rfl, rfl, rfl, ⟨H3.out.1, HO.out.more, H3.out.2⟩, .inl rfl⟩
        by_cases hw1 : y.w = 1
        · go_wp2_with fail
          cases hl : letB s y.f y.x with
          | false =>
            refine (letter_no y.f y.x A B cu cn s _ HU.out.1 HU.out.2.2 HO.out.is hl).mono ?_
            rintro e w3 ⟨rfl, hs, hot⟩
            have H3 : Hid (Su w3 A B cu cn s ∧ Ot A B cu cn wr w3) := ⟨hs, HU.out.2.1.trans hot⟩
            have HO3 : Hid (On (k + 1) s ca (an) td body) := HO.out.more
            clear hs hot x0 x1 x2 x3 x4 x5 x6 x7 x8 x9 x10 x11 x12
            go_wp2
            go_meet
            case rel => exact ⟨s, ca, an, td, body, rfl, rfl, rfl, rfl, ⟨H3.out.1, HO3.out, H3.out.2⟩, .inl rfl⟩
          | true =>
            by_cases ho : (Me.unpM y.x).o = 0
            · refine (letter_fol y.f y.x A B cu cn s _ HU.out.1 HU.out.2.2 HO.out.is hl ho).mono ?_
              rintro e w3 ⟨rfl, hs, hot⟩
              have H3 : Hid (Su w3 A B cu cn (folS 2 s (Me.unpM y.x).v) ∧ Ot A B cu cn wr w3) := ⟨hs, HU.out.2.1.trans hot⟩
              have HO3 : Hid (On (k + 1) (folS 2 s (Me.unpM y.x).v) ca (an) td body) := HO.out.fol
              clear hs hot x0 x1 x2 x3 x4 x5 x6 x7 x8 x9 x10 x11 x12
              go_wp2
              go_meet
              case rel => exact ⟨(folS 2 s (Me.unpM y.x).v), ca, an, td, body, rfl, rfl, rfl, rfl, ⟨H3.out.1, HO3.out, H3.out.2⟩, .inl rfl⟩
            · cases hb : setB s (Me.unpM y.x).o (Me.unpM y.x).d with
              | false =>
                refine (letter_non y.f y.x A B cu cn s _ HU.out.1 HU.out.2.2 HO.out.is hl ho hb).mono ?_
                rintro e w3 ⟨rfl, hs, hot⟩
                have H3 : Hid (Su w3 A B cu cn s ∧ Ot A B cu cn wr w3) := ⟨hs, HU.out.2.1.trans hot⟩
                have HO3 : Hid (On (k + 1) s ca (an) td body) := HO.out.more
                clear hs hot x0 x1 x2 x3 x4 x5 x6 x7 x8 x9 x10 x11 x12
                go_wp2
                go_meet
                case rel => exact ⟨s, ca, an, td, body, rfl, rfl, rfl, rfl, ⟨H3.out.1, HO3.out, H3.out.2⟩, .inl rfl⟩
              | true =>
                refine (letter_set y.f y.x A B cu cn s _ HU.out.1 HU.out.2.2 HO.out.is hl ho hb (HO.out.yes (setB_parts hb).1).2.2.2).mono ?_
                rintro e w3 ⟨rfl, hs, hot⟩
                have H3 : Hid (Su w3 A B cu cn (setS s (Me.unpM y.x).o (Me.unpM y.x).d) ∧ Ot A B cu cn wr w3) := ⟨hs, HU.out.2.1.trans hot⟩
                have HO3 : Hid (On (k + 1) (setS s (Me.unpM y.x).o (Me.unpM y.x).d) ca (an + 1) td body) := HO.out.set hb (unp_nums (letB_iff.1 hl).1).2.2
                clear hs hot x0 x1 x2 x3 x4 x5 x6 x7 x8 x9 x10 x11 x12
                go_wp2
                go_meet
                case rel => exact ⟨(setS s (Me.unpM y.x).o (Me.unpM y.x).d), ca, an + 1, td, body, rfl, congrArg (Value.int .i64) HWR.out.2.1, rfl, rfl, ⟨H3.out.1, HO3.out, H3.out.2⟩, .inl rfl⟩
        by_cases hw2 : y.w = 2
        · go_wp2_with fail
          cases hb : bz s with
          | false =>
            refine (tick_no A B cu cn s _ HU.out.1 hb).mono ?_
            rintro e w3 ⟨rfl, rfl⟩
            clear x0 x1 x2 x3 x4 x5 x6 x7 x8 x9 x10 x11 x12
            go_wp2
            go_meet
            case rel => exact ⟨s, ca, an, td, body, rfl, rfl, rfl, rfl, ⟨HU.out.1, HO.out.more, HU.out.2.1⟩, .inl rfl⟩
          | true =>
            refine (tick_yes A B cu cn s _ HU.out.1 HO.out.is HO.out.t.1 (by have := HO.out.t; omega) hb).mono ?_
            rintro e w3 ⟨D, v, rfl, ho, hD, hD2, hs, hot⟩
            obtain rfl := ho.is
            have H3 : Hid (Su w3 A B cu cn (tickS 2 s) ∧ Ot A B cu cn wr w3 ∧ Out1 w3 (.slice (some ⟨D, 0, none⟩) 1 1) D (tickS 2 s).t (tickS 2 s).lt) := ⟨hs, HU.out.2.1.trans hot, ho⟩
            have HO3 : Hid (On (k + 1) (tickS 2 s) ca an td body ∧ bz (tickS 2 s) = true) := ⟨HO.out.tick, hb⟩
            clear ho hD hD2 hs hot x0 x1 x2 x3 x4 x5 x6 x7 x8 x9 x10 x11 x12
            go_wp2
            go_meet
            case rel => exact ⟨tickS 2 s, ca, an, td, body, rfl, rfl, rfl, rfl, ⟨H3.out.1, HO3.out.1, H3.out.2.1⟩, .inr ⟨HO3.out.2, D, H3.out.2.2⟩⟩
        by_cases hw3 : y.w = 3
        · go_wp2_with fail
          cases hL : s.L with
          | nil =>
            refine (answer_no A B cu cn s _ HU.out.1 hL).mono ?_
            rintro e w3 ⟨rfl, hs, hot⟩
            have H3 : Hid (Su w3 A B cu cn s ∧ Ot A B cu cn wr w3) := ⟨hs, HU.out.2.1.trans hot⟩
            clear hs hot x0 x1 x2 x3 x4 x5 x6 x7 x8 x9 x10 x11 x12
            have H4 : Hid (∀ o, Su (w3.alloc o) A B cu cn s ∧ Ot A B cu cn wr (w3.alloc o)) := fun o => ⟨H3.out.1.up (below_alloc _ _), H3.out.2.trans (Ot.of (below_alloc _ _))⟩
            go_wp2
            go_meet
            case rel => exact ⟨s, ca, an, td, body, rfl, rfl, rfl, rfl, ⟨(H4.out _).1, HO.out.more, (H4.out _).2⟩, .inl rfl⟩
          | cons x l =>
            obtain ⟨o1, o2, o3⟩ := HO.out.take hL (by omega)
            refine (answer_yes A B cu cn s x l _ HU.out.1 HU.out.2.2 hL o2).mono ?_
            rintro e w3 ⟨v, rfl, hat, hs, hot⟩
            rw [o3]
            obtain ⟨p3, d3, hv3, -, -⟩ := hat.open
            generalize Ns.Re.unpR (Me.unpM x).d.data.toList = r at hat hv3 ⊢
            generalize r.ents.length = n3 at hv3
            subst hv3
            have H3 : Hid (Su w3 A B cu cn { s with L := l } ∧ Ot A B cu cn wr w3) := ⟨hs, HU.out.2.1.trans hot⟩
            have HO3 : Hid (On (k + 1) { s with L := l } ca an (td + 1) body) := o1
            have H4 : Hid (∀ o, Su (w3.alloc o) A B cu cn { s with L := l } ∧ Ot A B cu cn wr (w3.alloc o)) := fun o => ⟨H3.out.1.up (below_alloc _ _), H3.out.2.trans (Ot.of (below_alloc _ _))⟩
            have hx1 : wrap64 (td + 1) = td + 1 := by have := HO.out.up; unfold wrap64; omega
            clear hs hot hat o1 o2 o3 x0 x1 x2 x3 x4 x5 x6 x7 x8 x9 x10 x11 x12
            go_wp2
            go_meet
            case rel => exact ⟨{ s with L := l }, ca, an, td + 1, body, rfl, rfl, congrArg (Value.int .i64) HWR.out.2.2, rfl, ⟨(H4.out _).1, HO3.out, (H4.out _).2⟩, .inl rfl⟩
        clear HS
        go_wp2
        go_meet
        case rel => exact ⟨s, ca, an, td, body, rfl, rfl, rfl, rfl, ⟨HU.out.1, HO.out.more, HU.out.2.1⟩, .inl rfl⟩
      case rest =>
        obtain ⟨s', ca', an', td', body', rfl, rfl, rfl, rfl, HC, hout⟩ := hcut
        have hu := HC.out.2.1.up
        have g1 : ¬ ca' < an' := by omega
        have g2 : ¬ an' < td' := by omega
        have hy := HC.out.2.1.yes
        have hno := HC.out.2.1.no
        have hle : ca' ≤ an' + 1 := by
          cases hb : bz s' with
          | true => have := (hy hb).1; omega
          | false => have := hno hb; omega
        have hx : wrap64 (an' + 1) = an' + 1 := by unfold wrap64; omega
        have g3 : ¬ an' + 1 < ca' := by omega
        have HBC : Hid (Below w.heap.size w wc) := HC.out.2.2.below HR.out.2.2.1 HR.out.2.2.1.size HLO.out.1 HLO.out.2.1 HLO.out.2.2.1 HLO.out.2.2.2
        have HTC : Hid (Po.Tab wc) := HC.out.2.2.tab HR.out.1 (tab_up HT.out HR.out.2.2.1)
        have HO' : Hid (On (k + 1) s' ca' an' td' body') := HC.out.2.1
        clear hy hno hle hu
        rcases hout with rfl | ⟨hbz, D, HD⟩
        · go_wp2
          go_loopw [124] (fun i wq => i = .int .i64 0 ∧ wq = wc) (fun _ _ => 0)
          case atStart => exact ⟨rfl, rfl⟩
          case round =>
            obtain ⟨rfl, rfl⟩ := hrel
            go_wp2
            go_roundw
            case rel => exact ⟨k + 1, s', ca', an', td', body', by go_num, by omega, rfl, rfl, rfl, rfl, ⟨HC.out.1, HO'.out, HBC.out⟩⟩
            case measure => simp [intOf]; omega
        · obtain ⟨sm, se, sc⟩ := HO'.out.sent hbz (by omega)
          obtain rfl := HD.out.is
          have HSE : Hid (Me.unpM s'.lt = mk 1 0 ca' 5 body' ∧ Me.unpE s'.lt = 0) := ⟨sm, se⟩
          have hyy : (body'.toList == body'.toList) = true := beq_self_eq_true _
          have t1 : ¬ s'.t < 0 := by have := HO'.out.t; omega
          have t2 : ¬ 2 < s'.t := by have := HO'.out.t; omega
          subst sc
          clear sm se
          go_wp2
          go_loopw [124] (fun i wq => ∃ j : Nat, j ≤ 1 ∧ i = .int .i64 j ∧ Hid (Below wc.heap.size wc wq)) (fun i _ => 1 - (intOf i).toNat)
          case atStart => exact ⟨0, by omega, rfl, Below.refl _ _⟩
          case round =>
            obtain ⟨j, hj, rfl, HQ⟩ := hrel
            by_cases hj1 : j < 1
            · obtain rfl : j = 0 := by omega
              obtain ⟨a0, a1⟩ := (HD.out.up HQ.out).cells
              obtain ⟨Y, hY⟩ : ∃ Y, wr.alloc (BO s'.t s'.lt) = Y := ⟨_, rfl⟩
              have HYY : Hid (wr.alloc (BO s'.t s'.lt) = Y) := hY
              have HY : Hid (Below wc.heap.size wc Y ∧ Y.heap[wr.heap.size]? = some (BO s'.t s'.lt)) := by
                rw [← hY]
                exact ⟨bup HQ.out (below_alloc _ _), heap_alloc_new _ _⟩
              clear hY
              go_wp2_with fail
              rw [HYY.out]
              clear a0 a1
              refine (munpack_any s'.lt _ (tab_up HTC.out HY.out.1)).mono ?_
              rintro e w5 ⟨⟨u, z, rfl, hm⟩, hb5⟩
              rw [HSE.out.1] at hm ⊢
              rw [HSE.out.2]
              obtain ⟨p1, d1, rfl, -, -⟩ := hm.lives.open
              obtain ⟨p2, d2, rfl, -, -⟩ := hm.items.open
              clear hm
              generalize (mk 1 0 (an' + 1) 5 body').lives.length = n1
              generalize (mk 1 0 (an' + 1) 5 body').items.length = n2
              obtain ⟨Z, hZ⟩ : ∃ Z, w5.alloc (BM (mk 1 0 (an' + 1) 5 body') (.slice p1 n1 d1) (.slice p2 n2 d2)) = Z := ⟨_, rfl⟩
              have HZ : Hid (Below wc.heap.size wc Z ∧ Z.heap[wr.heap.size]? = some (BO s'.t s'.lt) ∧ Z.heap[w5.heap.size]? = some (BM (mk 1 0 (an' + 1) 5 body') (.slice p1 n1 d1) (.slice p2 n2 d2))) := by
                rw [← hZ]
                have hb := bup hb5 (below_alloc w5 (BM (mk 1 0 (an' + 1) 5 body') (.slice p1 n1 d1) (.slice p2 n2 d2)))
                exact ⟨bup HY.out.1 hb, (hb.block _ (some_lt HY.out.2)).trans HY.out.2, heap_alloc_new _ _⟩
              obtain ⟨q0, q1, q2, q3, q4, q5, q6, q7, q8, q9, q10, q11, q12, q13, q14⟩ := mm_of HZ.out.2.2
              have HZZ : Hid (w5.alloc (BM (mk 1 0 (an' + 1) 5 body') (.slice p1 n1 d1) (.slice p2 n2 d2)) = Z) := hZ
              unfold BM mk at hZ
              unfold mk at q0 q3 q7 q14 ⊢
              dsimp only at hZ q0 q3 q7 q14 ⊢
              obtain ⟨a0, a1⟩ : Z.cell? ⟨wr.heap.size, 0, none⟩ = some (.int .i64 s'.t) ∧ Z.cell? ⟨wr.heap.size, 1, none⟩ = some (.string s'.lt) := by
                constructor <;> simp [World.cell?, HZ.out.2.1]
              clear hb5 q1 q2 q4 q5 q6 q8 q9 q10 q11 q12 q13
              go_wp2
              go_roundw
              case rel => exact ⟨1, by omega, by go_num, HZ.out.1⟩
              case measure => simp [intOf]
            · obtain rfl : j = 1 := by omega
              go_wp2
              go_roundw
              case rel => exact ⟨k + 1, s', an' + 1, an', td', body', by go_num, by omega, rfl, rfl, rfl, rfl, ⟨HC.out.1.up HQ.out, HO'.out, bup HBC.out HQ.out⟩⟩
              case measure => simp [intOf]; omega
    · obtain rfl : k = n := by omega
      go_wp2_with fail
      refine (goes_any _ (tab_up HT.out HR0.out.2.2)).mono ?_
      rintro e w2 ⟨rfl, hb2⟩
      have HB2 : Hid (Below w.heap.size w w2) := bup HR0.out.2.2 hb2
      clear hb2
      go_wp2
      go_ret
      exact ⟨rfl, HB2.out⟩

theorem stubOnce_contract (H : Type) (enc : TypeId × Value → H) (W : World) (base : Nat) (args : Array Value) (ds gs : List (DataW H)) (before : List MemPlace)
    (hval : ∀ (j : Nat) t v, Tryz.f4.params[j]? = some t → args[j]? = some v → Value.okWide Tryz.prog W .any base t v)
    (hW : DataW.Whole enc Tryz.prog Tryz.f4.params.toList Rows.stubOnceSpec.vars false W args.toList ds gs before) (hL : laidMetH Tryz.prog Rows.stubOnceRow.laid W) :
    Calls Tryz.prog 4 args W fun e W' => ∃ v, e = .returned v ∧ Rows.stubOnceSpec.post enc Tryz.prog Tryz.f4 false true false false W args v W' := by
  have hW' := hW
  obtain ⟨p, q, hA0, hV, rfl, hfz, hnd⟩ := hW
  have hA : DataW.TrodAll enc Tryz.prog W 0 (fun _ => true) true Tryz.f4.params.toList args.toList ds p := hA0
  rw [Tryz.params4] at hA hval
  obtain ⟨v0, d0, rfl, rfl, h0⟩ := trodAll_one hA
  obtain ⟨rfl, rfl⟩ := trodVars_none hV
  obtain ⟨a0, w0⟩ := open_steps (hval 0 22 v0 rfl rfl) h0
  refine (once_law _ a0 W w0 (table hL)).mono fun e W' ⟨he, hg⟩ => ⟨_, he, ?_⟩
  exact Law.post laidOut (by kernel_rfl) rfl Tryz.underlying4 hW' rfl rfl hg
theorem stubOnce_laid_met (os : Os) : laidMet Tryz.prog Rows.stubOnceRow.laid ((laidWorld Tryz.prog os).forCall (fun _ _ => 0) ⟨#[], #[.slice none 0 0], []⟩).memory :=
  laidMet_of_run' 8 (by kernel_rfl) (by kernel_rfl)
theorem stubOnce_reads (os : Os) {H : Type} (enc : TypeId × Value → H) : ∃ places, DataW.whole enc Tryz.prog ((laidWorld Tryz.prog os).forCall (fun _ _ => 0) ⟨#[], #[.slice none 0 0], []⟩).memory Tryz.f4.params.toList Rows.stubOnceSpec.vars false (#[.slice none 0 0] : Array Value).toList 8 = some ([.nil], [], places) :=
  ⟨[], by kernel_rfl⟩

set_option maxRecDepth 100000 in
theorem stubOnce_lifted (os : Os) (started : os.Started) (H : Type) (enc : TypeId × Value → H) (F : Stop.Interp) :
    ReturnsInHanded {} Tryz.checked os 4 .any ((OpenSpec.ofChange Rows.stubOnceSpec).preRow enc Tryz.prog Tryz.f4 Rows.stubOnceRow.domain false Rows.stubOnceRow.laid) (((OpenSpec.ofChange Rows.stubOnceSpec).at F).post enc Tryz.prog Tryz.f4 false true false false) := by
  obtain ⟨places, hx⟩ := stubOnce_reads os enc
  refine returnsInHanded_of_row (C := Tryz.checked) (s := OpenSpec.ofChange Rows.stubOnceSpec) own started (by kernel_rfl) Tryz.func4
    (witness_row_at (enc := enc) (C := Tryz.checked) false (laidWorld Tryz.prog os) #[.slice none 0 0] rfl (by kernel_rfl) (by kernel_rfl) (by kernel_rfl)
      (OpenSpec.preRow_of_cond 8 hx (by kernel_rfl) (fun k hk => by cases hk) (by kernel_rfl) (stubOnce_laid_met os))) ?_
  intro W base args ds gs before hval hW _ _ _ hL _ _
  exact stubOnce_contract H enc W base args ds gs before hval hW hL

theorem stubOnce_said : Rows.StubOnceSaid :=
  OpenClaim.holds_of_cond 4 Tryz.f4 rfl rfl rfl rfl rfl rfl rfl ⟨rfl, rfl, rfl, rfl, rfl⟩ rfl rfl rfl rfl rfl (by kernel_rfl) Tryz.func4 (by kernel_rfl)
    (of_decide_eq_true (by kernel_rfl)) (by unfold Func.isWrapper; first | (rw [if_pos (by decide +kernel)]; kernel_rfl) | (rw [if_neg (by decide +kernel)]; exact ⟨rfl, rfl⟩))
    (fun os started H enc _ F => by rw [OpenClaim.pre_eq_preRow]; exact stubOnce_lifted os started H enc F)

theorem stubOnce_plain (f : FuncId) (fn : Func) (hf : Tryz.pinned.checked.prog.funcNamed "sexton/sextonlaw25.StubOnce" = some f) (hfn : Tryz.pinned.checked.prog.funcs[f]? = some fn) :
    true = Tryz.pinned.checked.prog.looks [] ∧ ∀ (j : Nat) t, fn.params[j]? = some t → Tryz.pinned.checked.prog.wantsStandIn t = false := by
  obtain rfl : f = 4 := Option.some.inj ((show Tryz.prog.funcNamed "sexton/sextonlaw25.StubOnce" = some 4 by kernel_rfl).symm.trans hf) |>.symm
  obtain rfl : fn = Tryz.f4 := (Option.some.inj (Tryz.func4.symm.trans hfn)).symm
  refine ⟨by kernel_rfl, fun j t ht => ?_⟩
  rw [Tryz.params4] at ht
  obtain rfl : t = 22 := by simpa using Array.mem_of_getElem? ht
  exact (show Tryz.prog.wantsStandIn 22 = false by kernel_rfl)

theorem stubOnce_card : Rows.StubOnceCardSaid :=
  Claim7.holds_tied_plain_at .later [] _ _ _ _ stubOnce_said (fun _ h => by cases h) (by kernel_rfl) (fun _ h => by cases h) stubOnce_row_tie rfl ⟨rfl, rfl⟩ (by kernel_rfl) rfl stubOnce_plain (by kernel_rfl)
#print axioms stubOnce_card
end Go.Proofs.YtkdhbjmpjbdobaaGreatDoor
