/-
  For any steps sextonlaw09.ItabStale returns true, whatever the memory: a handle of what is gone is stale for ever, whatever is made and dropped, also when its number is used again. No condition.
-/
import Derived.Test.YtobcjnfombfdmaaStaleA
import Derived.Test.YtobcjnfombfdmaaOpen
namespace Go.Proofs.Ytobcjnfombfdmaa
open Go.ChangeShapes Go.WideShapes Go.ChangeAt Go.RowKit Go.Deep It

theorem one_bool (w : World) (b : Bool) (B : Nat) (h : w.heap[B]? = some (.cells #[.bool b] 4 (0, 0))) : AtW EB w (.slice (some ⟨B, 0, none⟩) 1 1) [b] := by
  refine .inr ⟨B, 0, 1, rfl, trivial, (Array.getElem?_eq_some_iff.1 h).1, by simp, by simp, by simp [maxLen], fun j u hj => ?_⟩
  have hj' : [Value.bool b][j]? = some u := hj
  match j, hj' with
  | 0, hj' => simp [World.cell?, h] at hj' ⊢; exact hj'
abbrev BS (a b : Int) : Obj := .cells #[.int .i64 a, .int .i64 b] 60
theorem two_ofS {w : World} {A : Nat} {a b : Int} (h : w.heap[A]? = some (BS a b)) : w.cell? ⟨A, 0, none⟩ = some (.int .i64 a) ∧ w.cell? ⟨A, 1, none⟩ = some (.int .i64 b) := by
  refine ⟨?_, ?_⟩ <;> simp [World.cell?, h]
theorem box_kept {w w' : World} {b : Nat} {x y : Value} {o : Obj} (h : (w.alloc o).cell? ⟨b, 0, none⟩ = some x ∧ (w.alloc o).cell? ⟨b, 1, none⟩ = some y) (hb : Below (w.alloc o).heap.size (w.alloc o) w') : ∃ _u : Unit, w'.cell? ⟨b, 0, none⟩ = some x ∧ w'.cell? ⟨b, 1, none⟩ = some y :=
  ⟨(), two_next h hb⟩
set_option maxHeartbeats 20000000 in
set_option maxRecDepth 100000 in
theorem stale_ok (ao : Option Addr) (cap : Nat) (l : List (Int × Int)) (w : World) (hl : l.length ≤ 200) (hv : AtW EH w (.slice ao l.length cap) l) :
    Calls Try.prog 7 #[.slice ao l.length cap] w fun e w' => e = .returned (.bool true) ∧ Below w.heap.size w w' := by
  obtain ⟨i0, hi, hz0, hz1, hz2⟩ := info_parts infoH
  obtain ⟨j0, hj, hy0, hy1, hy2⟩ := info_parts infoB
  obtain ⟨ao', cap', hv', _, hx⟩ := hv.open
  simp only [Value.slice.injEq] at hv'
  obtain ⟨rfl, -, rfl⟩ := hv'
  clear hv
  obtain ⟨n, hn⟩ : ∃ n, l.length = n := ⟨_, rfl⟩
  rw [hn] at hl ⊢
  have HN : Hid (l.length = n) := hn
  have HX : Hid (∀ i x, l[i]? = some x → ∃ b off, ao = some ⟨b, off, none⟩ ∧ True ∧ b < w.heap.size ∧ ∀ k u, (EH.cells x)[k]? = some u → w.cell? ⟨b, off + (i * 2 + k), none⟩ = some u) := hx
  clear hn hx
  go_enter Try.func7, Try.ntmps7
  go_wp2_with fail
  refine (new_any _).mono ?_
  rintro e w1 ⟨u1, T1, rfl, ht1, hp1, hb1⟩
  obtain ⟨p1, c1, hu1, _, _⟩ := ht1.open
  have hl1 : T1.length = 1 := by have := congrArg List.length hp1; simpa [pl, It.new] using this
  rw [hl1] at hu1
  subst hu1
  have HST0 : Hid (StaleAt w w1 (.slice p1 1 c1) (.slice none 0 0) (.slice none 0 0) T1 []) := StaleAt.start ht1 hp1 hb1
  have hnl : ¬ (200 : Int) < (n : Int) := by omega
  clear ht1 hp1 hb1 hl1
  go_wp2
  go_loopw [3, 4, 5, 34] (fun t a g i wr => ∃ (k : Nat) (T : List Rw) (hs : List (Int × Int)), k ≤ n ∧ i = .int .i64 k ∧ hs.length ≤ k ∧ Hid (StaleAt w wr t a g T hs)) (fun _ _ _ i _ => n - (intOf i).toNat)
  case atStart => exact ⟨0, T1, [], Nat.zero_le _, rfl, Nat.le_refl _, HST0⟩
  case round =>
    obtain ⟨k, T, hs, hk, rfl, hhk, HST⟩ := hrel
    by_cases hlt : k < n
    · obtain ⟨⟨x0, x1⟩, hyk⟩ : ∃ y, l[k]? = some y := ⟨_, List.getElem?_eq_getElem (by rw [HN.out]; exact hlt)⟩
      obtain ⟨b, off, rfl, _, hB, hc⟩ := HX.out k _ hyk
      have s0 := hc 0 _ rfl
      have s1 := hc 1 _ rfl
      rw [← HST.out.below.cell (p := ⟨b, off + (k * 2 + 0), none⟩) hB, Nat.add_zero] at s0
      rw [← HST.out.below.cell (p := ⟨b, off + (k * 2 + 1), none⟩) hB, ← Nat.add_assoc] at s1
      simp only at s0 s1
      have hkI : (k : Int) < (n : Int) := by omega
      have hk200 : k ≤ 200 := by omega
      obtain ⟨pa, ca, hva⟩ := HST.out.all.slice
      obtain ⟨pg, cg, hvg⟩ := HST.out.gon.slice
      rw [gones_length] at hvg
      obtain ⟨m, hm⟩ : ∃ m, hs.length = m := ⟨_, rfl⟩
      rw [hm] at hva hvg
      have HLM : Hid (hs.length = m ∧ m ≤ k) := ⟨hm, by omega⟩
      have hmk : m ≤ k := by omega
      subst hva
      subst hvg
      clear hyk hc hm hhk
      by_cases hx0 : x0 = 0
      · subst hx0
        as_aux_lemma =>
          have HST1 : Hid (StaleAt w (wr.alloc (BS 0 x1)) u3 (.slice pa m ca) (.slice pg m cg) T hs) := HST.out.up ((Below.refl _ _).alloc (Nat.le_refl _) _)
          have HST0 : Hid (StaleAt w wr u3 (.slice pa m ca) (.slice pg m cg) T hs) := HST
          rcases make_err HST.out.inv.right (kind := 1) (by decide) with he | he
          · have HME : Hid (makeErr (pl T) 1 0 = 0) := he
            clear he
            go_wp2_with fail
            refine (make_any _ T 1 0 _ HST1.out.tab).mono ?_
            rintro e w2 ⟨tb2, T2, rfl, ht2, hp2, hb2⟩
            rw [HME.out]
            have HT2 : Hid (TabAt (fun b => (wr.alloc (BS 0 x1)).heap.size ≤ b) w2 tb2 T2) := ht2
            have HP2 : Hid (pl T2 = makeTab (pl T) 1 0) := hp2
            have HB2 : Hid (Below (wr.alloc (BS 0 x1)).heap.size (wr.alloc (BS 0 x1)) w2) := hb2
            have hh2 : ∃ no gen, makeH (pl T) 1 0 = (no, gen) := ⟨_, _, rfl⟩
            obtain ⟨no, gen, hh2⟩ := hh2
            rw [hh2]
            have HH2 : Hid (makeH (pl T) 1 0 = (no, gen)) := hh2
            have HA4 : Hid (Row EH ((w2.alloc (BH no gen)).alloc (BH no gen)) w.heap.size 31 (.slice pa m ca) hs) := (((HST1.out.all.up hb2)).still (World.grownBy_alloc _ _ _)).still (World.grownBy_alloc _ _ _)
            have HG4 : Hid (Row EB ((w2.alloc (BH no gen)).alloc (BH no gen)) w.heap.size 4 (.slice pg m cg) (gones (pl T) hs)) := (((HST1.out.gon.up hb2)).still (World.grownBy_alloc _ _ _)).still (World.grownBy_alloc _ _ _)
            have HI4 : Hid (AtW EH ((w2.alloc (BH no gen)).alloc (BH no gen)) (.slice (some ⟨w2.heap.size + 1, 0, none⟩) 1 1) [(no, gen)]) := by
              refine one_hand _ _ _ _ ?_
              have := heap_alloc_new (w2.alloc (BH no gen)) (BH no gen)
              rw [show (w2.alloc (BH no gen)).heap.size = w2.heap.size + 1 by simp] at this
              exact this
            have hbs4 : w.heap.size ≤ ((w2.alloc (BH no gen)).alloc (BH no gen)).heap.size := by
              have h1 := HST1.out.below.size
              have h2 := hb2.size
              simp only [World.size_alloc] at h1 h2 ⊢
              omega
            clear ht2 hp2 hb2 hh2 HST
            go_wp2_with (first
              | (at_builtin
                 refine wpList_row _ rfl _ _ 23 rfl EH (fun _ => True) w.heap.size 31 i0 (.agg #[.int .i64 0, .int .i64 0]) 16 Try.underlying23 hi hz0 hz1 hz2 rfl (.slice pa m ca) hs rfl HA4.out _ [(no, gen)] rfl HI4.out (by have := HLM.out; unfold maxLen; simp; omega) (by have := HLM.out; simp; omega) hbs4 ?_
                 intro v7 w7 hrow7 hg7 hmv7
                 have HR7 : Hid (Row EH w7 w.heap.size 31 v7 (hs ++ [(no, gen)])) := hrow7
                 have HG7 : Hid (((w2.alloc (BH no gen)).alloc (BH no gen)).grownBy w7 (Value.ownBlock (.slice pa m ca))) := hg7
                 have HM7 : Hid (v7.ownBlock = Value.ownBlock (.slice pa m ca) ∨ ∀ j, v7.ownBlock = some j → ((w2.alloc (BH no gen)).alloc (BH no gen)).heap.size ≤ j) := hmv7
                 have HG8 : Hid (Row EB (w7.alloc (.cells #[.bool false] 4)) w.heap.size 4 (.slice pg m cg) (gones (pl T) hs)) := (HG4.out.kept hg7 HST1.out.apart).still (World.grownBy_alloc _ _ _)
                 have HI8 : Hid (AtW EB (w7.alloc (.cells #[.bool false] 4)) (.slice (some ⟨w7.heap.size, 0, none⟩) 1 1) [false]) := one_bool _ _ _ (heap_alloc_new _ _)
                 have hbs8 : w.heap.size ≤ (w7.alloc (.cells #[.bool false] 4)).heap.size := by
                   have := hg7.size
                   simp only [World.size_alloc] at this hbs4 ⊢
                   omega
                 clear hrow7 hg7 hmv7)
              | (at_builtin
                 refine wpList_row _ rfl _ _ 58 rfl EB (fun _ => True) w.heap.size 4 j0 (.bool false) 1 Try.underlying58 hj hy0 hy1 hy2 rfl (.slice pg m cg) (gones (pl T) hs) rfl HG8.out _ [false] rfl HI8.out (by have := HLM.out; rw [gones_length]; unfold maxLen; simp; omega) (by have := HLM.out; rw [gones_length]; simp; omega) hbs8 ?_
                 intro v8 w8 hrow8 hg8 hmv8
                 have hst8 : StaleAt w w8 tb2 v7 v8 T2 (hs ++ [(no, gen)]) := by
                   have := stale_make (kind := 1) HST0.out ((Below.refl _ _).alloc (Nat.le_refl _) _) HB2.out HT2.out HP2.out HME.out (by rw [HH2.out]; exact HR7.out) HG7.out HM7.out hrow8 hg8 hmv8
                   rw [HH2.out] at this
                   exact this
                 have HS2 : Hid (StaleAt w w8 tb2 v7 v8 T2 (hs ++ [(no, gen)])) := hst8
                 obtain ⟨p7, c7, hv7⟩ := hst8.all.slice
                 obtain ⟨p8, c8, hv8⟩ := hst8.gon.slice
                 rw [gones_length] at hv8
                 obtain ⟨m2, hml⟩ : ∃ m2, (hs ++ [(no, gen)]).length = m2 := ⟨_, rfl⟩
                 rw [hml] at hv7 hv8
                 have HLEN : Hid ((hs ++ [(no, gen)]).length = m2 ∧ m2 ≤ k + 1) := ⟨hml, by have := HLM.out; simp at hml; omega⟩
                 subst hv7
                 subst hv8
                 clear hrow8 hg8 hmv8 hst8 hml HA4 HG4 HI4 HI8 HG8 HR7 HG7 HM7))
            have hm2k : m2 ≤ k + 1 := HLEN.out.2
            go_loopw [104] (fun i w2 => ∃ q : Nat, q ≤ m2 ∧ i = .int .i64 q ∧ Hid (StaleAt w w2 tb2 (.slice p7 m2 c7) (.slice p8 m2 c8) T2 (hs ++ [(no, gen)]))) (fun i _ => m2 - (intOf i).toNat)
            case atStart => exact ⟨0, Nat.zero_le _, rfl, HS2⟩
            case round =>
              obtain ⟨q, hq, rfl, HQ⟩ := hrel
              by_cases hqm : q < m2
              · obtain ⟨⟨ha, hb⟩, hh⟩ : ∃ h, ((hs ++ [(no, gen)]))[q]? = some h := ⟨_, List.getElem?_eq_getElem (by have := HLEN.out; omega)⟩
                obtain ⟨ao1, cap1, hv1, _, hx1⟩ := HQ.out.all.at.open
                obtain ⟨bI, offI, hbo1, _, _, hc1⟩ := hx1 q _ hh
                simp only [Value.slice.injEq] at hv1
                obtain ⟨rfl, -, rfl⟩ := hv1
                cases hbo1
                have d0 := hc1 0 _ rfl
                have d1 := hc1 1 _ rfl
                rw [show q * EH.sz = q * 2 from rfl] at d0 d1
                rw [Nat.add_zero] at d0
                rw [← Nat.add_assoc] at d1
                have hqI : (q : Int) < (m2 : Int) := by omega
                have HHQ : Hid (((hs ++ [(no, gen)]))[q]? = some (ha, hb)) := hh
                have HTB : Hid (TabAt (fun b => some b ≠ Value.ownBlock (.slice (some ⟨bI, offI, none⟩) m2 c7) ∧ some b ≠ Value.ownBlock (.slice p8 m2 c8)) (wr.alloc (BH ha hb)) tb2 T2) := HQ.out.tab.up ((Below.refl _ _).alloc (Nat.le_refl _) _)
                clear hx1 hc1 hh
                cases hnm : names (pl T2) ha hb with
                | true =>
                  have HF : Hid (findErr (pl T2) ha hb = 0) := by show findErr (pl T2) ha hb = 0; rw [find_err HQ.out.inv.right, hnm]; rfl
                  have HNM : Hid (names (pl T2) ha hb = true) := hnm
                  clear hnm
                  go_wp2_with fail
                  refine (find_any _ T2 ha hb _ HTB.out).mono ?_
                  rintro e w4 ⟨x4, rfl, hx4, hg4, hb4⟩
                  rw [HF.out]
                  obtain ⟨⟨yg, yk, yl, ys, yt, yrs, yes, ynx⟩, yrp, yrn, yrc, yep, yen, yec⟩ := x4
                  have HQ5 : Hid (StaleAt w (w4.alloc (B8 yg yk yl ys yt (.slice yrp yrn yrc) (.slice yep yen yec) ynx)) tb2 (.slice (some ⟨bI, offI, none⟩) m2 c7) (.slice p8 m2 c8) T2 (hs ++ [(no, gen)])) := ((HQ.out.up ((Below.refl _ _).alloc (Nat.le_refl _) _)).up hb4).up ((Below.refl _ _).alloc (Nat.le_refl _) _)
                  obtain ⟨ao2, cap2, hv2, _, hx2⟩ := HQ5.out.gon.at.open
                  obtain ⟨bJ, offJ, hbo2, _, _, hc2⟩ := hx2 q _ (gones_at HHQ.out)
                  simp only [Value.slice.injEq] at hv2
                  obtain ⟨rfl, -, rfl⟩ := hv2
                  cases hbo2
                  have e0 := hc2 0 _ rfl
                  rw [show q * EB.sz = q from Nat.mul_one q, Nat.add_zero] at e0
                  (try rw [Nat.zero_add] at e0)
                  simp only [HNM.out, Bool.not_true] at e0
                  clear hx2 hc2 hx4 hg4 hb4 d0 d1 HTB
                  go_wp2
                  go_roundw
                  case rel => exact ⟨q + 1, by omega, by go_num, HQ5⟩
                  case measure => simp [intOf]; omega
                | false =>
                  have HF : Hid (findErr (pl T2) ha hb = 401) := by show findErr (pl T2) ha hb = 401; rw [find_err HQ.out.inv.right, hnm]; rfl
                  have HNM : Hid (names (pl T2) ha hb = false) := hnm
                  clear hnm
                  go_wp2_with fail
                  refine (find_any _ T2 ha hb _ HTB.out).mono ?_
                  rintro e w4 ⟨x4, rfl, hx4, hg4, hb4⟩
                  rw [HF.out]
                  obtain ⟨⟨yg, yk, yl, ys, yt, yrs, yes, ynx⟩, yrp, yrn, yrc, yep, yen, yec⟩ := x4
                  have HQ5 : Hid (StaleAt w (w4.alloc (B8 yg yk yl ys yt (.slice yrp yrn yrc) (.slice yep yen yec) ynx)) tb2 (.slice (some ⟨bI, offI, none⟩) m2 c7) (.slice p8 m2 c8) T2 (hs ++ [(no, gen)])) := ((HQ.out.up ((Below.refl _ _).alloc (Nat.le_refl _) _)).up hb4).up ((Below.refl _ _).alloc (Nat.le_refl _) _)
                  obtain ⟨ao2, cap2, hv2, _, hx2⟩ := HQ5.out.gon.at.open
                  obtain ⟨bJ, offJ, hbo2, _, _, hc2⟩ := hx2 q _ (gones_at HHQ.out)
                  simp only [Value.slice.injEq] at hv2
                  obtain ⟨rfl, -, rfl⟩ := hv2
                  cases hbo2
                  have e0 := hc2 0 _ rfl
                  rw [show q * EB.sz = q from Nat.mul_one q, Nat.add_zero] at e0
                  (try rw [Nat.zero_add] at e0)
                  simp only [HNM.out, Bool.not_false] at e0
                  clear hx2 hc2 hx4 hg4 hb4 d0 d1 HTB
                  go_wp2
                  go_roundw
                  case rel => exact ⟨q + 1, by omega, by go_num, HQ5⟩
                  case measure => simp [intOf]; omega
              · obtain rfl : q = m2 := by omega
                go_wp2
                go_roundw
                case rel => exact ⟨k + 1, T2, (hs ++ [(no, gen)]), by omega, by go_num, by have := HLEN.out; omega, HQ⟩
                case measure => simp [intOf]; omega
          · have HME : Hid (makeErr (pl T) 1 0 = 407 ∧ makeH (pl T) 1 0 = (0, 0)) := ⟨he, by unfold makeH; rw [he]; rfl⟩
            clear he
            go_wp2_with fail
            refine (make_any _ T 1 0 _ HST1.out.tab).mono ?_
            rintro e w2 ⟨tb2, T2, rfl, ht2, hp2, hb2⟩
            rw [HME.out.1, HME.out.2]
            have HS2 : Hid (StaleAt w (w2.alloc (BH 0 0)) u3 (.slice pa m ca) (.slice pg m cg) T hs) := ((HST1.out.up hb2)).up ((Below.refl _ _).alloc (Nat.le_refl _) _)
            have HLEN : Hid (hs.length = m ∧ m ≤ k) := HLM
            clear ht2 hp2 hb2 HST HST1
            go_wp2
            go_loopw [104] (fun i w2 => ∃ q : Nat, q ≤ m ∧ i = .int .i64 q ∧ Hid (StaleAt w w2 u3 (.slice pa m ca) (.slice pg m cg) T hs)) (fun i _ => m - (intOf i).toNat)
            case atStart => exact ⟨0, Nat.zero_le _, rfl, HS2⟩
            case round =>
              obtain ⟨q, hq, rfl, HQ⟩ := hrel
              by_cases hqm : q < m
              · obtain ⟨⟨ha, hb⟩, hh⟩ : ∃ h, (hs)[q]? = some h := ⟨_, List.getElem?_eq_getElem (by have := HLEN.out; omega)⟩
                obtain ⟨ao1, cap1, hv1, _, hx1⟩ := HQ.out.all.at.open
                obtain ⟨bI, offI, hbo1, _, _, hc1⟩ := hx1 q _ hh
                simp only [Value.slice.injEq] at hv1
                obtain ⟨rfl, -, rfl⟩ := hv1
                cases hbo1
                have d0 := hc1 0 _ rfl
                have d1 := hc1 1 _ rfl
                rw [show q * EH.sz = q * 2 from rfl] at d0 d1
                rw [Nat.add_zero] at d0
                rw [← Nat.add_assoc] at d1
                have hqI : (q : Int) < (m : Int) := by omega
                have HHQ : Hid ((hs)[q]? = some (ha, hb)) := hh
                have HTB : Hid (TabAt (fun b => some b ≠ Value.ownBlock (.slice (some ⟨bI, offI, none⟩) m ca) ∧ some b ≠ Value.ownBlock (.slice pg m cg)) (wr.alloc (BH ha hb)) u3 T) := HQ.out.tab.up ((Below.refl _ _).alloc (Nat.le_refl _) _)
                clear hx1 hc1 hh
                cases hnm : names (pl T) ha hb with
                | true =>
                  have HF : Hid (findErr (pl T) ha hb = 0) := by show findErr (pl T) ha hb = 0; rw [find_err HQ.out.inv.right, hnm]; rfl
                  have HNM : Hid (names (pl T) ha hb = true) := hnm
                  clear hnm
                  go_wp2_with fail
                  refine (find_any _ T ha hb _ HTB.out).mono ?_
                  rintro e w4 ⟨x4, rfl, hx4, hg4, hb4⟩
                  rw [HF.out]
                  obtain ⟨⟨yg, yk, yl, ys, yt, yrs, yes, ynx⟩, yrp, yrn, yrc, yep, yen, yec⟩ := x4
                  have HQ5 : Hid (StaleAt w (w4.alloc (B8 yg yk yl ys yt (.slice yrp yrn yrc) (.slice yep yen yec) ynx)) u3 (.slice (some ⟨bI, offI, none⟩) m ca) (.slice pg m cg) T hs) := ((HQ.out.up ((Below.refl _ _).alloc (Nat.le_refl _) _)).up hb4).up ((Below.refl _ _).alloc (Nat.le_refl _) _)
                  obtain ⟨ao2, cap2, hv2, _, hx2⟩ := HQ5.out.gon.at.open
                  obtain ⟨bJ, offJ, hbo2, _, _, hc2⟩ := hx2 q _ (gones_at HHQ.out)
                  simp only [Value.slice.injEq] at hv2
                  obtain ⟨rfl, -, rfl⟩ := hv2
                  cases hbo2
                  have e0 := hc2 0 _ rfl
                  rw [show q * EB.sz = q from Nat.mul_one q, Nat.add_zero] at e0
                  (try rw [Nat.zero_add] at e0)
                  simp only [HNM.out, Bool.not_true] at e0
                  clear hx2 hc2 hx4 hg4 hb4 d0 d1 HTB
                  go_wp2
                  go_roundw
                  case rel => exact ⟨q + 1, by omega, by go_num, HQ5⟩
                  case measure => simp [intOf]; omega
                | false =>
                  have HF : Hid (findErr (pl T) ha hb = 401) := by show findErr (pl T) ha hb = 401; rw [find_err HQ.out.inv.right, hnm]; rfl
                  have HNM : Hid (names (pl T) ha hb = false) := hnm
                  clear hnm
                  go_wp2_with fail
                  refine (find_any _ T ha hb _ HTB.out).mono ?_
                  rintro e w4 ⟨x4, rfl, hx4, hg4, hb4⟩
                  rw [HF.out]
                  obtain ⟨⟨yg, yk, yl, ys, yt, yrs, yes, ynx⟩, yrp, yrn, yrc, yep, yen, yec⟩ := x4
                  have HQ5 : Hid (StaleAt w (w4.alloc (B8 yg yk yl ys yt (.slice yrp yrn yrc) (.slice yep yen yec) ynx)) u3 (.slice (some ⟨bI, offI, none⟩) m ca) (.slice pg m cg) T hs) := ((HQ.out.up ((Below.refl _ _).alloc (Nat.le_refl _) _)).up hb4).up ((Below.refl _ _).alloc (Nat.le_refl _) _)
                  obtain ⟨ao2, cap2, hv2, _, hx2⟩ := HQ5.out.gon.at.open
                  obtain ⟨bJ, offJ, hbo2, _, _, hc2⟩ := hx2 q _ (gones_at HHQ.out)
                  simp only [Value.slice.injEq] at hv2
                  obtain ⟨rfl, -, rfl⟩ := hv2
                  cases hbo2
                  have e0 := hc2 0 _ rfl
                  rw [show q * EB.sz = q from Nat.mul_one q, Nat.add_zero] at e0
                  (try rw [Nat.zero_add] at e0)
                  simp only [HNM.out, Bool.not_false] at e0
                  clear hx2 hc2 hx4 hg4 hb4 d0 d1 HTB
                  go_wp2
                  go_roundw
                  case rel => exact ⟨q + 1, by omega, by go_num, HQ5⟩
                  case measure => simp [intOf]; omega
              · obtain rfl : q = m := by omega
                go_wp2
                go_roundw
                case rel => exact ⟨k + 1, T, hs, by omega, by go_num, by have := HLEN.out; omega, HQ⟩
                case measure => simp [intOf]; omega
      by_cases hx1 : x0 = 1
      · subst hx1
        as_aux_lemma =>
          have HST1 : Hid (StaleAt w (wr.alloc (BS 1 x1)) u3 (.slice pa m ca) (.slice pg m cg) T hs) := HST.out.up ((Below.refl _ _).alloc (Nat.le_refl _) _)
          have HST0 : Hid (StaleAt w wr u3 (.slice pa m ca) (.slice pg m cg) T hs) := HST
          rcases make_err HST.out.inv.right (kind := 2) (by decide) with he | he
          · have HME : Hid (makeErr (pl T) 2 0 = 0) := he
            clear he
            go_wp2_with fail
            refine (make_any _ T 2 0 _ HST1.out.tab).mono ?_
            rintro e w2 ⟨tb2, T2, rfl, ht2, hp2, hb2⟩
            rw [HME.out]
            have HT2 : Hid (TabAt (fun b => (wr.alloc (BS 1 x1)).heap.size ≤ b) w2 tb2 T2) := ht2
            have HP2 : Hid (pl T2 = makeTab (pl T) 2 0) := hp2
            have HB2 : Hid (Below (wr.alloc (BS 1 x1)).heap.size (wr.alloc (BS 1 x1)) w2) := hb2
            have hh2 : ∃ no gen, makeH (pl T) 2 0 = (no, gen) := ⟨_, _, rfl⟩
            obtain ⟨no, gen, hh2⟩ := hh2
            rw [hh2]
            have HH2 : Hid (makeH (pl T) 2 0 = (no, gen)) := hh2
            have HA4 : Hid (Row EH ((w2.alloc (BH no gen)).alloc (BH no gen)) w.heap.size 31 (.slice pa m ca) hs) := (((HST1.out.all.up hb2)).still (World.grownBy_alloc _ _ _)).still (World.grownBy_alloc _ _ _)
            have HG4 : Hid (Row EB ((w2.alloc (BH no gen)).alloc (BH no gen)) w.heap.size 4 (.slice pg m cg) (gones (pl T) hs)) := (((HST1.out.gon.up hb2)).still (World.grownBy_alloc _ _ _)).still (World.grownBy_alloc _ _ _)
            have HI4 : Hid (AtW EH ((w2.alloc (BH no gen)).alloc (BH no gen)) (.slice (some ⟨w2.heap.size + 1, 0, none⟩) 1 1) [(no, gen)]) := by
              refine one_hand _ _ _ _ ?_
              have := heap_alloc_new (w2.alloc (BH no gen)) (BH no gen)
              rw [show (w2.alloc (BH no gen)).heap.size = w2.heap.size + 1 by simp] at this
              exact this
            have hbs4 : w.heap.size ≤ ((w2.alloc (BH no gen)).alloc (BH no gen)).heap.size := by
              have h1 := HST1.out.below.size
              have h2 := hb2.size
              simp only [World.size_alloc] at h1 h2 ⊢
              omega
            clear ht2 hp2 hb2 hh2 HST
            go_wp2_with (first
              | (at_builtin
                 refine wpList_row _ rfl _ _ 23 rfl EH (fun _ => True) w.heap.size 31 i0 (.agg #[.int .i64 0, .int .i64 0]) 16 Try.underlying23 hi hz0 hz1 hz2 rfl (.slice pa m ca) hs rfl HA4.out _ [(no, gen)] rfl HI4.out (by have := HLM.out; unfold maxLen; simp; omega) (by have := HLM.out; simp; omega) hbs4 ?_
                 intro v7 w7 hrow7 hg7 hmv7
                 have HR7 : Hid (Row EH w7 w.heap.size 31 v7 (hs ++ [(no, gen)])) := hrow7
                 have HG7 : Hid (((w2.alloc (BH no gen)).alloc (BH no gen)).grownBy w7 (Value.ownBlock (.slice pa m ca))) := hg7
                 have HM7 : Hid (v7.ownBlock = Value.ownBlock (.slice pa m ca) ∨ ∀ j, v7.ownBlock = some j → ((w2.alloc (BH no gen)).alloc (BH no gen)).heap.size ≤ j) := hmv7
                 have HG8 : Hid (Row EB (w7.alloc (.cells #[.bool false] 4)) w.heap.size 4 (.slice pg m cg) (gones (pl T) hs)) := (HG4.out.kept hg7 HST1.out.apart).still (World.grownBy_alloc _ _ _)
                 have HI8 : Hid (AtW EB (w7.alloc (.cells #[.bool false] 4)) (.slice (some ⟨w7.heap.size, 0, none⟩) 1 1) [false]) := one_bool _ _ _ (heap_alloc_new _ _)
                 have hbs8 : w.heap.size ≤ (w7.alloc (.cells #[.bool false] 4)).heap.size := by
                   have := hg7.size
                   simp only [World.size_alloc] at this hbs4 ⊢
                   omega
                 clear hrow7 hg7 hmv7)
              | (at_builtin
                 refine wpList_row _ rfl _ _ 58 rfl EB (fun _ => True) w.heap.size 4 j0 (.bool false) 1 Try.underlying58 hj hy0 hy1 hy2 rfl (.slice pg m cg) (gones (pl T) hs) rfl HG8.out _ [false] rfl HI8.out (by have := HLM.out; rw [gones_length]; unfold maxLen; simp; omega) (by have := HLM.out; rw [gones_length]; simp; omega) hbs8 ?_
                 intro v8 w8 hrow8 hg8 hmv8
                 have hst8 : StaleAt w w8 tb2 v7 v8 T2 (hs ++ [(no, gen)]) := by
                   have := stale_make (kind := 2) HST0.out ((Below.refl _ _).alloc (Nat.le_refl _) _) HB2.out HT2.out HP2.out HME.out (by rw [HH2.out]; exact HR7.out) HG7.out HM7.out hrow8 hg8 hmv8
                   rw [HH2.out] at this
                   exact this
                 have HS2 : Hid (StaleAt w w8 tb2 v7 v8 T2 (hs ++ [(no, gen)])) := hst8
                 obtain ⟨p7, c7, hv7⟩ := hst8.all.slice
                 obtain ⟨p8, c8, hv8⟩ := hst8.gon.slice
                 rw [gones_length] at hv8
                 obtain ⟨m2, hml⟩ : ∃ m2, (hs ++ [(no, gen)]).length = m2 := ⟨_, rfl⟩
                 rw [hml] at hv7 hv8
                 have HLEN : Hid ((hs ++ [(no, gen)]).length = m2 ∧ m2 ≤ k + 1) := ⟨hml, by have := HLM.out; simp at hml; omega⟩
                 subst hv7
                 subst hv8
                 clear hrow8 hg8 hmv8 hst8 hml HA4 HG4 HI4 HI8 HG8 HR7 HG7 HM7))
            have hm2k : m2 ≤ k + 1 := HLEN.out.2
            go_loopw [104] (fun i w2 => ∃ q : Nat, q ≤ m2 ∧ i = .int .i64 q ∧ Hid (StaleAt w w2 tb2 (.slice p7 m2 c7) (.slice p8 m2 c8) T2 (hs ++ [(no, gen)]))) (fun i _ => m2 - (intOf i).toNat)
            case atStart => exact ⟨0, Nat.zero_le _, rfl, HS2⟩
            case round =>
              obtain ⟨q, hq, rfl, HQ⟩ := hrel
              by_cases hqm : q < m2
              · obtain ⟨⟨ha, hb⟩, hh⟩ : ∃ h, ((hs ++ [(no, gen)]))[q]? = some h := ⟨_, List.getElem?_eq_getElem (by have := HLEN.out; omega)⟩
                obtain ⟨ao1, cap1, hv1, _, hx1⟩ := HQ.out.all.at.open
                obtain ⟨bI, offI, hbo1, _, _, hc1⟩ := hx1 q _ hh
                simp only [Value.slice.injEq] at hv1
                obtain ⟨rfl, -, rfl⟩ := hv1
                cases hbo1
                have d0 := hc1 0 _ rfl
                have d1 := hc1 1 _ rfl
                rw [show q * EH.sz = q * 2 from rfl] at d0 d1
                rw [Nat.add_zero] at d0
                rw [← Nat.add_assoc] at d1
                have hqI : (q : Int) < (m2 : Int) := by omega
                have HHQ : Hid (((hs ++ [(no, gen)]))[q]? = some (ha, hb)) := hh
                have HTB : Hid (TabAt (fun b => some b ≠ Value.ownBlock (.slice (some ⟨bI, offI, none⟩) m2 c7) ∧ some b ≠ Value.ownBlock (.slice p8 m2 c8)) (wr.alloc (BH ha hb)) tb2 T2) := HQ.out.tab.up ((Below.refl _ _).alloc (Nat.le_refl _) _)
                clear hx1 hc1 hh
                cases hnm : names (pl T2) ha hb with
                | true =>
                  have HF : Hid (findErr (pl T2) ha hb = 0) := by show findErr (pl T2) ha hb = 0; rw [find_err HQ.out.inv.right, hnm]; rfl
                  have HNM : Hid (names (pl T2) ha hb = true) := hnm
                  clear hnm
                  go_wp2_with fail
                  refine (find_any _ T2 ha hb _ HTB.out).mono ?_
                  rintro e w4 ⟨x4, rfl, hx4, hg4, hb4⟩
                  rw [HF.out]
                  obtain ⟨⟨yg, yk, yl, ys, yt, yrs, yes, ynx⟩, yrp, yrn, yrc, yep, yen, yec⟩ := x4
                  have HQ5 : Hid (StaleAt w (w4.alloc (B8 yg yk yl ys yt (.slice yrp yrn yrc) (.slice yep yen yec) ynx)) tb2 (.slice (some ⟨bI, offI, none⟩) m2 c7) (.slice p8 m2 c8) T2 (hs ++ [(no, gen)])) := ((HQ.out.up ((Below.refl _ _).alloc (Nat.le_refl _) _)).up hb4).up ((Below.refl _ _).alloc (Nat.le_refl _) _)
                  obtain ⟨ao2, cap2, hv2, _, hx2⟩ := HQ5.out.gon.at.open
                  obtain ⟨bJ, offJ, hbo2, _, _, hc2⟩ := hx2 q _ (gones_at HHQ.out)
                  simp only [Value.slice.injEq] at hv2
                  obtain ⟨rfl, -, rfl⟩ := hv2
                  cases hbo2
                  have e0 := hc2 0 _ rfl
                  rw [show q * EB.sz = q from Nat.mul_one q, Nat.add_zero] at e0
                  (try rw [Nat.zero_add] at e0)
                  simp only [HNM.out, Bool.not_true] at e0
                  clear hx2 hc2 hx4 hg4 hb4 d0 d1 HTB
                  go_wp2
                  go_roundw
                  case rel => exact ⟨q + 1, by omega, by go_num, HQ5⟩
                  case measure => simp [intOf]; omega
                | false =>
                  have HF : Hid (findErr (pl T2) ha hb = 401) := by show findErr (pl T2) ha hb = 401; rw [find_err HQ.out.inv.right, hnm]; rfl
                  have HNM : Hid (names (pl T2) ha hb = false) := hnm
                  clear hnm
                  go_wp2_with fail
                  refine (find_any _ T2 ha hb _ HTB.out).mono ?_
                  rintro e w4 ⟨x4, rfl, hx4, hg4, hb4⟩
                  rw [HF.out]
                  obtain ⟨⟨yg, yk, yl, ys, yt, yrs, yes, ynx⟩, yrp, yrn, yrc, yep, yen, yec⟩ := x4
                  have HQ5 : Hid (StaleAt w (w4.alloc (B8 yg yk yl ys yt (.slice yrp yrn yrc) (.slice yep yen yec) ynx)) tb2 (.slice (some ⟨bI, offI, none⟩) m2 c7) (.slice p8 m2 c8) T2 (hs ++ [(no, gen)])) := ((HQ.out.up ((Below.refl _ _).alloc (Nat.le_refl _) _)).up hb4).up ((Below.refl _ _).alloc (Nat.le_refl _) _)
                  obtain ⟨ao2, cap2, hv2, _, hx2⟩ := HQ5.out.gon.at.open
                  obtain ⟨bJ, offJ, hbo2, _, _, hc2⟩ := hx2 q _ (gones_at HHQ.out)
                  simp only [Value.slice.injEq] at hv2
                  obtain ⟨rfl, -, rfl⟩ := hv2
                  cases hbo2
                  have e0 := hc2 0 _ rfl
                  rw [show q * EB.sz = q from Nat.mul_one q, Nat.add_zero] at e0
                  (try rw [Nat.zero_add] at e0)
                  simp only [HNM.out, Bool.not_false] at e0
                  clear hx2 hc2 hx4 hg4 hb4 d0 d1 HTB
                  go_wp2
                  go_roundw
                  case rel => exact ⟨q + 1, by omega, by go_num, HQ5⟩
                  case measure => simp [intOf]; omega
              · obtain rfl : q = m2 := by omega
                go_wp2
                go_roundw
                case rel => exact ⟨k + 1, T2, (hs ++ [(no, gen)]), by omega, by go_num, by have := HLEN.out; omega, HQ⟩
                case measure => simp [intOf]; omega
          · have HME : Hid (makeErr (pl T) 2 0 = 407 ∧ makeH (pl T) 2 0 = (0, 0)) := ⟨he, by unfold makeH; rw [he]; rfl⟩
            clear he
            go_wp2_with fail
            refine (make_any _ T 2 0 _ HST1.out.tab).mono ?_
            rintro e w2 ⟨tb2, T2, rfl, ht2, hp2, hb2⟩
            rw [HME.out.1, HME.out.2]
            have HS2 : Hid (StaleAt w (w2.alloc (BH 0 0)) u3 (.slice pa m ca) (.slice pg m cg) T hs) := ((HST1.out.up hb2)).up ((Below.refl _ _).alloc (Nat.le_refl _) _)
            have HLEN : Hid (hs.length = m ∧ m ≤ k) := HLM
            clear ht2 hp2 hb2 HST HST1
            go_wp2
            go_loopw [104] (fun i w2 => ∃ q : Nat, q ≤ m ∧ i = .int .i64 q ∧ Hid (StaleAt w w2 u3 (.slice pa m ca) (.slice pg m cg) T hs)) (fun i _ => m - (intOf i).toNat)
            case atStart => exact ⟨0, Nat.zero_le _, rfl, HS2⟩
            case round =>
              obtain ⟨q, hq, rfl, HQ⟩ := hrel
              by_cases hqm : q < m
              · obtain ⟨⟨ha, hb⟩, hh⟩ : ∃ h, (hs)[q]? = some h := ⟨_, List.getElem?_eq_getElem (by have := HLEN.out; omega)⟩
                obtain ⟨ao1, cap1, hv1, _, hx1⟩ := HQ.out.all.at.open
                obtain ⟨bI, offI, hbo1, _, _, hc1⟩ := hx1 q _ hh
                simp only [Value.slice.injEq] at hv1
                obtain ⟨rfl, -, rfl⟩ := hv1
                cases hbo1
                have d0 := hc1 0 _ rfl
                have d1 := hc1 1 _ rfl
                rw [show q * EH.sz = q * 2 from rfl] at d0 d1
                rw [Nat.add_zero] at d0
                rw [← Nat.add_assoc] at d1
                have hqI : (q : Int) < (m : Int) := by omega
                have HHQ : Hid ((hs)[q]? = some (ha, hb)) := hh
                have HTB : Hid (TabAt (fun b => some b ≠ Value.ownBlock (.slice (some ⟨bI, offI, none⟩) m ca) ∧ some b ≠ Value.ownBlock (.slice pg m cg)) (wr.alloc (BH ha hb)) u3 T) := HQ.out.tab.up ((Below.refl _ _).alloc (Nat.le_refl _) _)
                clear hx1 hc1 hh
                cases hnm : names (pl T) ha hb with
                | true =>
                  have HF : Hid (findErr (pl T) ha hb = 0) := by show findErr (pl T) ha hb = 0; rw [find_err HQ.out.inv.right, hnm]; rfl
                  have HNM : Hid (names (pl T) ha hb = true) := hnm
                  clear hnm
                  go_wp2_with fail
                  refine (find_any _ T ha hb _ HTB.out).mono ?_
                  rintro e w4 ⟨x4, rfl, hx4, hg4, hb4⟩
                  rw [HF.out]
                  obtain ⟨⟨yg, yk, yl, ys, yt, yrs, yes, ynx⟩, yrp, yrn, yrc, yep, yen, yec⟩ := x4
                  have HQ5 : Hid (StaleAt w (w4.alloc (B8 yg yk yl ys yt (.slice yrp yrn yrc) (.slice yep yen yec) ynx)) u3 (.slice (some ⟨bI, offI, none⟩) m ca) (.slice pg m cg) T hs) := ((HQ.out.up ((Below.refl _ _).alloc (Nat.le_refl _) _)).up hb4).up ((Below.refl _ _).alloc (Nat.le_refl _) _)
                  obtain ⟨ao2, cap2, hv2, _, hx2⟩ := HQ5.out.gon.at.open
                  obtain ⟨bJ, offJ, hbo2, _, _, hc2⟩ := hx2 q _ (gones_at HHQ.out)
                  simp only [Value.slice.injEq] at hv2
                  obtain ⟨rfl, -, rfl⟩ := hv2
                  cases hbo2
                  have e0 := hc2 0 _ rfl
                  rw [show q * EB.sz = q from Nat.mul_one q, Nat.add_zero] at e0
                  (try rw [Nat.zero_add] at e0)
                  simp only [HNM.out, Bool.not_true] at e0
                  clear hx2 hc2 hx4 hg4 hb4 d0 d1 HTB
                  go_wp2
                  go_roundw
                  case rel => exact ⟨q + 1, by omega, by go_num, HQ5⟩
                  case measure => simp [intOf]; omega
                | false =>
                  have HF : Hid (findErr (pl T) ha hb = 401) := by show findErr (pl T) ha hb = 401; rw [find_err HQ.out.inv.right, hnm]; rfl
                  have HNM : Hid (names (pl T) ha hb = false) := hnm
                  clear hnm
                  go_wp2_with fail
                  refine (find_any _ T ha hb _ HTB.out).mono ?_
                  rintro e w4 ⟨x4, rfl, hx4, hg4, hb4⟩
                  rw [HF.out]
                  obtain ⟨⟨yg, yk, yl, ys, yt, yrs, yes, ynx⟩, yrp, yrn, yrc, yep, yen, yec⟩ := x4
                  have HQ5 : Hid (StaleAt w (w4.alloc (B8 yg yk yl ys yt (.slice yrp yrn yrc) (.slice yep yen yec) ynx)) u3 (.slice (some ⟨bI, offI, none⟩) m ca) (.slice pg m cg) T hs) := ((HQ.out.up ((Below.refl _ _).alloc (Nat.le_refl _) _)).up hb4).up ((Below.refl _ _).alloc (Nat.le_refl _) _)
                  obtain ⟨ao2, cap2, hv2, _, hx2⟩ := HQ5.out.gon.at.open
                  obtain ⟨bJ, offJ, hbo2, _, _, hc2⟩ := hx2 q _ (gones_at HHQ.out)
                  simp only [Value.slice.injEq] at hv2
                  obtain ⟨rfl, -, rfl⟩ := hv2
                  cases hbo2
                  have e0 := hc2 0 _ rfl
                  rw [show q * EB.sz = q from Nat.mul_one q, Nat.add_zero] at e0
                  (try rw [Nat.zero_add] at e0)
                  simp only [HNM.out, Bool.not_false] at e0
                  clear hx2 hc2 hx4 hg4 hb4 d0 d1 HTB
                  go_wp2
                  go_roundw
                  case rel => exact ⟨q + 1, by omega, by go_num, HQ5⟩
                  case measure => simp [intOf]; omega
              · obtain rfl : q = m := by omega
                go_wp2
                go_roundw
                case rel => exact ⟨k + 1, T, hs, by omega, by go_num, by have := HLEN.out; omega, HQ⟩
                case measure => simp [intOf]; omega
      have hx0' : (x0 == 0) = false := by simp [hx0]
      have hx1' : (x0 == 1) = false := by simp [hx1]
      clear hx0 hx1
      by_cases hp0 : 0 ≤ x1
      · by_cases hp1 : x1 < (m : Int)
        · have HBX : Hid ((wr.alloc (BS x0 x1)).cell? ⟨wr.heap.size, 0, none⟩ = some (.int .i64 x0) ∧ (wr.alloc (BS x0 x1)).cell? ⟨wr.heap.size, 1, none⟩ = some (.int .i64 x1)) := (two_ofS (heap_alloc_new _ _))
          as_aux_lemma =>
            obtain ⟨p, rfl⟩ := Int.eq_ofNat_of_zero_le hp0
            have HST1 : Hid (StaleAt w (wr.alloc (BS x0 p)) u3 (.slice pa m ca) (.slice pg m cg) T hs) := HST.out.up ((Below.refl _ _).alloc (Nat.le_refl _) _)
            obtain ⟨⟨da, db⟩, hdd⟩ : ∃ h, hs[p]? = some h := ⟨_, List.getElem?_eq_getElem (by have := HLM.out; omega)⟩
            have HDD : Hid (hs[p]? = some (da, db)) := hdd
            obtain ⟨ao1, cap1, hv1, _, hx1⟩ := HST1.out.all.at.open
            obtain ⟨b1, off1, hbo1, _, _, hc1⟩ := hx1 p _ hdd
            simp only [Value.slice.injEq] at hv1
            obtain ⟨rfl, -, rfl⟩ := hv1
            cases hbo1
            have d0 := hc1 0 _ rfl
            have d1 := hc1 1 _ rfl
            rw [show p * EH.sz = p * 2 from rfl] at d0 d1
            rw [Nat.add_zero] at d0
            rw [← Nat.add_assoc] at d1
            clear hx1 hc1 hdd
            cases hnm : names (pl T) da db with
            | true =>
              have HNM : Hid (names (pl T) da db = true) := hnm
              have HDE : Hid (dropErr (pl T) da db = 0) := (inv_drop HST.out.inv HDD.out hnm).1
              clear hnm
              go_wp2_with fail
              refine (drop_any _ T da db _ HST1.out.tab).mono ?_
              rintro e w2 ⟨tb2, T2, rfl, ht2, hp2, hb2⟩
              rw [HDE.out]
              have HX2 : Hid (StaleAt w w2 u3 (.slice (some ⟨b1, off1, none⟩) m ca) (.slice pg m cg) T hs) := HST1.out.up hb2
              obtain ⟨bx, hbx0, hbx1⟩ := box_kept HBX.out hb2
              obtain ⟨ao2, cap2, hv2, _, hx2⟩ := HX2.out.gon.at.open
              obtain ⟨b2, off2, hbo2, _, _, hc2⟩ := hx2 p _ (gones_at HDD.out)
              obtain ⟨gg, gcap, hgv, _, _, hfz, _⟩ := HX2.out.gon.put1 (p := p) (by rw [gones_length]; have := HLM.out; omega) true
              rw [gones_length] at hgv
              have hgv2 : (.slice pg m cg : Value) = .slice (some ⟨gg, 0, none⟩) hs.length gcap := hgv
              have HSD := (stale_drop HST1.out hb2 ht2 hp2 HDD.out HNM.out hgv2).1
              simp only [Value.slice.injEq] at hv2 hgv
              obtain ⟨rfl, -, rfl⟩ := hv2
              cases hbo2
              have hgo := hgv.1
              simp only [Option.some.injEq, Addr.mk.injEq, and_true] at hgo
              obtain ⟨rfl, rfl⟩ := hgo
              have e0 := hc2 0 _ rfl
              rw [show p * EB.sz = p from Nat.mul_one p, Nat.add_zero, Nat.zero_add] at e0
              simp only [HNM.out, Bool.not_true] at e0
              have HS2 : Hid (StaleAt w (w2.setCell ⟨b2, p, none⟩ (.bool true)) tb2 (.slice (some ⟨b1, off1, none⟩) m ca) (.slice (some ⟨b2, 0, none⟩) m cg) T2 hs) := HSD
              have HLEN : Hid (hs.length = m ∧ m ≤ k) := HLM
              clear hx2 hc2 ht2 hp2 hb2 d0 d1 HST HST1 HX2 hgv hgv2 HSD
              go_wp2
              go_loopw [104] (fun i w2 => ∃ q : Nat, q ≤ m ∧ i = .int .i64 q ∧ Hid (StaleAt w w2 tb2 (.slice (some ⟨b1, off1, none⟩) m ca) (.slice (some ⟨b2, 0, none⟩) m cg) T2 hs)) (fun i _ => m - (intOf i).toNat)
              case atStart => exact ⟨0, Nat.zero_le _, rfl, HS2⟩
              case round =>
                obtain ⟨q, hq, rfl, HQ⟩ := hrel
                by_cases hqm : q < m
                · obtain ⟨⟨ha, hb⟩, hh⟩ : ∃ h, (hs)[q]? = some h := ⟨_, List.getElem?_eq_getElem (by have := HLEN.out; omega)⟩
                  obtain ⟨ao1, cap1, hv1, _, hx1⟩ := HQ.out.all.at.open
                  obtain ⟨bI, offI, hbo1, _, _, hc1⟩ := hx1 q _ hh
                  simp only [Value.slice.injEq] at hv1
                  obtain ⟨rfl, -, rfl⟩ := hv1
                  cases hbo1
                  have d0 := hc1 0 _ rfl
                  have d1 := hc1 1 _ rfl
                  rw [show q * EH.sz = q * 2 from rfl] at d0 d1
                  rw [Nat.add_zero] at d0
                  rw [← Nat.add_assoc] at d1
                  have hqI : (q : Int) < (m : Int) := by omega
                  have HHQ : Hid ((hs)[q]? = some (ha, hb)) := hh
                  have HTB : Hid (TabAt (fun b => some b ≠ Value.ownBlock (.slice (some ⟨b1, off1, none⟩) m ca) ∧ some b ≠ Value.ownBlock (.slice (some ⟨b2, 0, none⟩) m cg)) (wr.alloc (BH ha hb)) tb2 T2) := HQ.out.tab.up ((Below.refl _ _).alloc (Nat.le_refl _) _)
                  clear hx1 hc1 hh
                  cases hnm : names (pl T2) ha hb with
                  | true =>
                    have HF : Hid (findErr (pl T2) ha hb = 0) := by show findErr (pl T2) ha hb = 0; rw [find_err HQ.out.inv.right, hnm]; rfl
                    have HNM : Hid (names (pl T2) ha hb = true) := hnm
                    clear hnm
                    go_wp2_with fail
                    refine (find_any _ T2 ha hb _ HTB.out).mono ?_
                    rintro e w4 ⟨x4, rfl, hx4, hg4, hb4⟩
                    rw [HF.out]
                    obtain ⟨⟨yg, yk, yl, ys, yt, yrs, yes, ynx⟩, yrp, yrn, yrc, yep, yen, yec⟩ := x4
                    have HQ5 : Hid (StaleAt w (w4.alloc (B8 yg yk yl ys yt (.slice yrp yrn yrc) (.slice yep yen yec) ynx)) tb2 (.slice (some ⟨b1, off1, none⟩) m ca) (.slice (some ⟨b2, 0, none⟩) m cg) T2 hs) := ((HQ.out.up ((Below.refl _ _).alloc (Nat.le_refl _) _)).up hb4).up ((Below.refl _ _).alloc (Nat.le_refl _) _)
                    obtain ⟨ao2, cap2, hv2, _, hx2⟩ := HQ5.out.gon.at.open
                    obtain ⟨bJ, offJ, hbo2, _, _, hc2⟩ := hx2 q _ (gones_at HHQ.out)
                    simp only [Value.slice.injEq] at hv2
                    obtain ⟨rfl, -, rfl⟩ := hv2
                    cases hbo2
                    have e0 := hc2 0 _ rfl
                    rw [show q * EB.sz = q from Nat.mul_one q, Nat.add_zero] at e0
                    (try rw [Nat.zero_add] at e0)
                    simp only [HNM.out, Bool.not_true] at e0
                    clear hx2 hc2 hx4 hg4 hb4 d0 d1 HTB
                    go_wp2
                    go_roundw
                    case rel => exact ⟨q + 1, by omega, by go_num, HQ5⟩
                    case measure => simp [intOf]; omega
                  | false =>
                    have HF : Hid (findErr (pl T2) ha hb = 401) := by show findErr (pl T2) ha hb = 401; rw [find_err HQ.out.inv.right, hnm]; rfl
                    have HNM : Hid (names (pl T2) ha hb = false) := hnm
                    clear hnm
                    go_wp2_with fail
                    refine (find_any _ T2 ha hb _ HTB.out).mono ?_
                    rintro e w4 ⟨x4, rfl, hx4, hg4, hb4⟩
                    rw [HF.out]
                    obtain ⟨⟨yg, yk, yl, ys, yt, yrs, yes, ynx⟩, yrp, yrn, yrc, yep, yen, yec⟩ := x4
                    have HQ5 : Hid (StaleAt w (w4.alloc (B8 yg yk yl ys yt (.slice yrp yrn yrc) (.slice yep yen yec) ynx)) tb2 (.slice (some ⟨b1, off1, none⟩) m ca) (.slice (some ⟨b2, 0, none⟩) m cg) T2 hs) := ((HQ.out.up ((Below.refl _ _).alloc (Nat.le_refl _) _)).up hb4).up ((Below.refl _ _).alloc (Nat.le_refl _) _)
                    obtain ⟨ao2, cap2, hv2, _, hx2⟩ := HQ5.out.gon.at.open
                    obtain ⟨bJ, offJ, hbo2, _, _, hc2⟩ := hx2 q _ (gones_at HHQ.out)
                    simp only [Value.slice.injEq] at hv2
                    obtain ⟨rfl, -, rfl⟩ := hv2
                    cases hbo2
                    have e0 := hc2 0 _ rfl
                    rw [show q * EB.sz = q from Nat.mul_one q, Nat.add_zero] at e0
                    (try rw [Nat.zero_add] at e0)
                    simp only [HNM.out, Bool.not_false] at e0
                    clear hx2 hc2 hx4 hg4 hb4 d0 d1 HTB
                    go_wp2
                    go_roundw
                    case rel => exact ⟨q + 1, by omega, by go_num, HQ5⟩
                    case measure => simp [intOf]; omega
                · obtain rfl : q = m := by omega
                  go_wp2
                  go_roundw
                  case rel => exact ⟨k + 1, T2, hs, by omega, by go_num, by have := HLEN.out; omega, HQ⟩
                  case measure => simp [intOf]; omega
            | false =>
              have HNM : Hid (names (pl T) da db = false) := hnm
              have HDE : Hid (dropErr (pl T) da db = 401) := drop_stale HST.out.inv.right hnm
              clear hnm
              go_wp2_with fail
              refine (drop_any _ T da db _ HST1.out.tab).mono ?_
              rintro e w2 ⟨tb2, T2, rfl, ht2, hp2, hb2⟩
              rw [HDE.out]
              have HS2 : Hid (StaleAt w w2 u3 (.slice (some ⟨b1, off1, none⟩) m ca) (.slice pg m cg) T hs) := HST1.out.up hb2
              obtain ⟨bx, hbx0, hbx1⟩ := box_kept HBX.out hb2
              obtain ⟨ao2, cap2, hv2, _, hx2⟩ := HS2.out.gon.at.open
              obtain ⟨b2, off2, hbo2, _, _, hc2⟩ := hx2 p _ (gones_at HDD.out)
              simp only [Value.slice.injEq] at hv2
              obtain ⟨rfl, -, rfl⟩ := hv2
              cases hbo2
              have e0 := hc2 0 _ rfl
              rw [show p * EB.sz = p from Nat.mul_one p, Nat.add_zero] at e0
              simp only [HNM.out, Bool.not_false] at e0
              have HLEN : Hid (hs.length = m ∧ m ≤ k) := HLM
              clear hx2 hc2 ht2 hp2 hb2 d0 d1 HST HST1
              go_wp2
              go_loopw [104] (fun i w2 => ∃ q : Nat, q ≤ m ∧ i = .int .i64 q ∧ Hid (StaleAt w w2 u3 (.slice (some ⟨b1, off1, none⟩) m ca) (.slice (some ⟨b2, off2, none⟩) m cg) T hs)) (fun i _ => m - (intOf i).toNat)
              case atStart => exact ⟨0, Nat.zero_le _, rfl, HS2⟩
              case round =>
                obtain ⟨q, hq, rfl, HQ⟩ := hrel
                by_cases hqm : q < m
                · obtain ⟨⟨ha, hb⟩, hh⟩ : ∃ h, (hs)[q]? = some h := ⟨_, List.getElem?_eq_getElem (by have := HLEN.out; omega)⟩
                  obtain ⟨ao1, cap1, hv1, _, hx1⟩ := HQ.out.all.at.open
                  obtain ⟨bI, offI, hbo1, _, _, hc1⟩ := hx1 q _ hh
                  simp only [Value.slice.injEq] at hv1
                  obtain ⟨rfl, -, rfl⟩ := hv1
                  cases hbo1
                  have d0 := hc1 0 _ rfl
                  have d1 := hc1 1 _ rfl
                  rw [show q * EH.sz = q * 2 from rfl] at d0 d1
                  rw [Nat.add_zero] at d0
                  rw [← Nat.add_assoc] at d1
                  have hqI : (q : Int) < (m : Int) := by omega
                  have HHQ : Hid ((hs)[q]? = some (ha, hb)) := hh
                  have HTB : Hid (TabAt (fun b => some b ≠ Value.ownBlock (.slice (some ⟨b1, off1, none⟩) m ca) ∧ some b ≠ Value.ownBlock (.slice (some ⟨b2, off2, none⟩) m cg)) (wr.alloc (BH ha hb)) u3 T) := HQ.out.tab.up ((Below.refl _ _).alloc (Nat.le_refl _) _)
                  clear hx1 hc1 hh
                  cases hnm : names (pl T) ha hb with
                  | true =>
                    have HF : Hid (findErr (pl T) ha hb = 0) := by show findErr (pl T) ha hb = 0; rw [find_err HQ.out.inv.right, hnm]; rfl
                    have HNM : Hid (names (pl T) ha hb = true) := hnm
                    clear hnm
                    go_wp2_with fail
                    refine (find_any _ T ha hb _ HTB.out).mono ?_
                    rintro e w4 ⟨x4, rfl, hx4, hg4, hb4⟩
                    rw [HF.out]
                    obtain ⟨⟨yg, yk, yl, ys, yt, yrs, yes, ynx⟩, yrp, yrn, yrc, yep, yen, yec⟩ := x4
                    have HQ5 : Hid (StaleAt w (w4.alloc (B8 yg yk yl ys yt (.slice yrp yrn yrc) (.slice yep yen yec) ynx)) u3 (.slice (some ⟨b1, off1, none⟩) m ca) (.slice (some ⟨b2, off2, none⟩) m cg) T hs) := ((HQ.out.up ((Below.refl _ _).alloc (Nat.le_refl _) _)).up hb4).up ((Below.refl _ _).alloc (Nat.le_refl _) _)
                    obtain ⟨ao2, cap2, hv2, _, hx2⟩ := HQ5.out.gon.at.open
                    obtain ⟨bJ, offJ, hbo2, _, _, hc2⟩ := hx2 q _ (gones_at HHQ.out)
                    simp only [Value.slice.injEq] at hv2
                    obtain ⟨rfl, -, rfl⟩ := hv2
                    cases hbo2
                    have e0 := hc2 0 _ rfl
                    rw [show q * EB.sz = q from Nat.mul_one q, Nat.add_zero] at e0
                    (try rw [Nat.zero_add] at e0)
                    simp only [HNM.out, Bool.not_true] at e0
                    clear hx2 hc2 hx4 hg4 hb4 d0 d1 HTB
                    go_wp2
                    go_roundw
                    case rel => exact ⟨q + 1, by omega, by go_num, HQ5⟩
                    case measure => simp [intOf]; omega
                  | false =>
                    have HF : Hid (findErr (pl T) ha hb = 401) := by show findErr (pl T) ha hb = 401; rw [find_err HQ.out.inv.right, hnm]; rfl
                    have HNM : Hid (names (pl T) ha hb = false) := hnm
                    clear hnm
                    go_wp2_with fail
                    refine (find_any _ T ha hb _ HTB.out).mono ?_
                    rintro e w4 ⟨x4, rfl, hx4, hg4, hb4⟩
                    rw [HF.out]
                    obtain ⟨⟨yg, yk, yl, ys, yt, yrs, yes, ynx⟩, yrp, yrn, yrc, yep, yen, yec⟩ := x4
                    have HQ5 : Hid (StaleAt w (w4.alloc (B8 yg yk yl ys yt (.slice yrp yrn yrc) (.slice yep yen yec) ynx)) u3 (.slice (some ⟨b1, off1, none⟩) m ca) (.slice (some ⟨b2, off2, none⟩) m cg) T hs) := ((HQ.out.up ((Below.refl _ _).alloc (Nat.le_refl _) _)).up hb4).up ((Below.refl _ _).alloc (Nat.le_refl _) _)
                    obtain ⟨ao2, cap2, hv2, _, hx2⟩ := HQ5.out.gon.at.open
                    obtain ⟨bJ, offJ, hbo2, _, _, hc2⟩ := hx2 q _ (gones_at HHQ.out)
                    simp only [Value.slice.injEq] at hv2
                    obtain ⟨rfl, -, rfl⟩ := hv2
                    cases hbo2
                    have e0 := hc2 0 _ rfl
                    rw [show q * EB.sz = q from Nat.mul_one q, Nat.add_zero] at e0
                    (try rw [Nat.zero_add] at e0)
                    simp only [HNM.out, Bool.not_false] at e0
                    clear hx2 hc2 hx4 hg4 hb4 d0 d1 HTB
                    go_wp2
                    go_roundw
                    case rel => exact ⟨q + 1, by omega, by go_num, HQ5⟩
                    case measure => simp [intOf]; omega
                · obtain rfl : q = m := by omega
                  go_wp2
                  go_roundw
                  case rel => exact ⟨k + 1, T, hs, by omega, by go_num, by have := HLEN.out; omega, HQ⟩
                  case measure => simp [intOf]; omega
        · as_aux_lemma =>
            have HS2 : Hid (StaleAt w (wr.alloc (BS x0 x1)) u3 (.slice pa m ca) (.slice pg m cg) T hs) := HST.out.up ((Below.refl _ _).alloc (Nat.le_refl _) _)
            have HLEN : Hid (hs.length = m ∧ m ≤ k) := HLM
            clear HST
            go_wp2
            go_loopw [104] (fun i w2 => ∃ q : Nat, q ≤ m ∧ i = .int .i64 q ∧ Hid (StaleAt w w2 u3 (.slice pa m ca) (.slice pg m cg) T hs)) (fun i _ => m - (intOf i).toNat)
            case atStart => exact ⟨0, Nat.zero_le _, rfl, HS2⟩
            case round =>
              obtain ⟨q, hq, rfl, HQ⟩ := hrel
              by_cases hqm : q < m
              · obtain ⟨⟨ha, hb⟩, hh⟩ : ∃ h, (hs)[q]? = some h := ⟨_, List.getElem?_eq_getElem (by have := HLEN.out; omega)⟩
                obtain ⟨ao1, cap1, hv1, _, hx1⟩ := HQ.out.all.at.open
                obtain ⟨bI, offI, hbo1, _, _, hc1⟩ := hx1 q _ hh
                simp only [Value.slice.injEq] at hv1
                obtain ⟨rfl, -, rfl⟩ := hv1
                cases hbo1
                have d0 := hc1 0 _ rfl
                have d1 := hc1 1 _ rfl
                rw [show q * EH.sz = q * 2 from rfl] at d0 d1
                rw [Nat.add_zero] at d0
                rw [← Nat.add_assoc] at d1
                have hqI : (q : Int) < (m : Int) := by omega
                have HHQ : Hid ((hs)[q]? = some (ha, hb)) := hh
                have HTB : Hid (TabAt (fun b => some b ≠ Value.ownBlock (.slice (some ⟨bI, offI, none⟩) m ca) ∧ some b ≠ Value.ownBlock (.slice pg m cg)) (wr.alloc (BH ha hb)) u3 T) := HQ.out.tab.up ((Below.refl _ _).alloc (Nat.le_refl _) _)
                clear hx1 hc1 hh
                cases hnm : names (pl T) ha hb with
                | true =>
                  have HF : Hid (findErr (pl T) ha hb = 0) := by show findErr (pl T) ha hb = 0; rw [find_err HQ.out.inv.right, hnm]; rfl
                  have HNM : Hid (names (pl T) ha hb = true) := hnm
                  clear hnm
                  go_wp2_with fail
                  refine (find_any _ T ha hb _ HTB.out).mono ?_
                  rintro e w4 ⟨x4, rfl, hx4, hg4, hb4⟩
                  rw [HF.out]
                  obtain ⟨⟨yg, yk, yl, ys, yt, yrs, yes, ynx⟩, yrp, yrn, yrc, yep, yen, yec⟩ := x4
                  have HQ5 : Hid (StaleAt w (w4.alloc (B8 yg yk yl ys yt (.slice yrp yrn yrc) (.slice yep yen yec) ynx)) u3 (.slice (some ⟨bI, offI, none⟩) m ca) (.slice pg m cg) T hs) := ((HQ.out.up ((Below.refl _ _).alloc (Nat.le_refl _) _)).up hb4).up ((Below.refl _ _).alloc (Nat.le_refl _) _)
                  obtain ⟨ao2, cap2, hv2, _, hx2⟩ := HQ5.out.gon.at.open
                  obtain ⟨bJ, offJ, hbo2, _, _, hc2⟩ := hx2 q _ (gones_at HHQ.out)
                  simp only [Value.slice.injEq] at hv2
                  obtain ⟨rfl, -, rfl⟩ := hv2
                  cases hbo2
                  have e0 := hc2 0 _ rfl
                  rw [show q * EB.sz = q from Nat.mul_one q, Nat.add_zero] at e0
                  (try rw [Nat.zero_add] at e0)
                  simp only [HNM.out, Bool.not_true] at e0
                  clear hx2 hc2 hx4 hg4 hb4 d0 d1 HTB
                  go_wp2
                  go_roundw
                  case rel => exact ⟨q + 1, by omega, by go_num, HQ5⟩
                  case measure => simp [intOf]; omega
                | false =>
                  have HF : Hid (findErr (pl T) ha hb = 401) := by show findErr (pl T) ha hb = 401; rw [find_err HQ.out.inv.right, hnm]; rfl
                  have HNM : Hid (names (pl T) ha hb = false) := hnm
                  clear hnm
                  go_wp2_with fail
                  refine (find_any _ T ha hb _ HTB.out).mono ?_
                  rintro e w4 ⟨x4, rfl, hx4, hg4, hb4⟩
                  rw [HF.out]
                  obtain ⟨⟨yg, yk, yl, ys, yt, yrs, yes, ynx⟩, yrp, yrn, yrc, yep, yen, yec⟩ := x4
                  have HQ5 : Hid (StaleAt w (w4.alloc (B8 yg yk yl ys yt (.slice yrp yrn yrc) (.slice yep yen yec) ynx)) u3 (.slice (some ⟨bI, offI, none⟩) m ca) (.slice pg m cg) T hs) := ((HQ.out.up ((Below.refl _ _).alloc (Nat.le_refl _) _)).up hb4).up ((Below.refl _ _).alloc (Nat.le_refl _) _)
                  obtain ⟨ao2, cap2, hv2, _, hx2⟩ := HQ5.out.gon.at.open
                  obtain ⟨bJ, offJ, hbo2, _, _, hc2⟩ := hx2 q _ (gones_at HHQ.out)
                  simp only [Value.slice.injEq] at hv2
                  obtain ⟨rfl, -, rfl⟩ := hv2
                  cases hbo2
                  have e0 := hc2 0 _ rfl
                  rw [show q * EB.sz = q from Nat.mul_one q, Nat.add_zero] at e0
                  (try rw [Nat.zero_add] at e0)
                  simp only [HNM.out, Bool.not_false] at e0
                  clear hx2 hc2 hx4 hg4 hb4 d0 d1 HTB
                  go_wp2
                  go_roundw
                  case rel => exact ⟨q + 1, by omega, by go_num, HQ5⟩
                  case measure => simp [intOf]; omega
              · obtain rfl : q = m := by omega
                go_wp2
                go_roundw
                case rel => exact ⟨k + 1, T, hs, by omega, by go_num, by have := HLEN.out; omega, HQ⟩
                case measure => simp [intOf]; omega
      · as_aux_lemma =>
          have HS2 : Hid (StaleAt w (wr.alloc (BS x0 x1)) u3 (.slice pa m ca) (.slice pg m cg) T hs) := HST.out.up ((Below.refl _ _).alloc (Nat.le_refl _) _)
          have HLEN : Hid (hs.length = m ∧ m ≤ k) := HLM
          clear HST
          go_wp2
          go_loopw [104] (fun i w2 => ∃ q : Nat, q ≤ m ∧ i = .int .i64 q ∧ Hid (StaleAt w w2 u3 (.slice pa m ca) (.slice pg m cg) T hs)) (fun i _ => m - (intOf i).toNat)
          case atStart => exact ⟨0, Nat.zero_le _, rfl, HS2⟩
          case round =>
            obtain ⟨q, hq, rfl, HQ⟩ := hrel
            by_cases hqm : q < m
            · obtain ⟨⟨ha, hb⟩, hh⟩ : ∃ h, (hs)[q]? = some h := ⟨_, List.getElem?_eq_getElem (by have := HLEN.out; omega)⟩
              obtain ⟨ao1, cap1, hv1, _, hx1⟩ := HQ.out.all.at.open
              obtain ⟨bI, offI, hbo1, _, _, hc1⟩ := hx1 q _ hh
              simp only [Value.slice.injEq] at hv1
              obtain ⟨rfl, -, rfl⟩ := hv1
              cases hbo1
              have d0 := hc1 0 _ rfl
              have d1 := hc1 1 _ rfl
              rw [show q * EH.sz = q * 2 from rfl] at d0 d1
              rw [Nat.add_zero] at d0
              rw [← Nat.add_assoc] at d1
              have hqI : (q : Int) < (m : Int) := by omega
              have HHQ : Hid ((hs)[q]? = some (ha, hb)) := hh
              have HTB : Hid (TabAt (fun b => some b ≠ Value.ownBlock (.slice (some ⟨bI, offI, none⟩) m ca) ∧ some b ≠ Value.ownBlock (.slice pg m cg)) (wr.alloc (BH ha hb)) u3 T) := HQ.out.tab.up ((Below.refl _ _).alloc (Nat.le_refl _) _)
              clear hx1 hc1 hh
              cases hnm : names (pl T) ha hb with
              | true =>
                have HF : Hid (findErr (pl T) ha hb = 0) := by show findErr (pl T) ha hb = 0; rw [find_err HQ.out.inv.right, hnm]; rfl
                have HNM : Hid (names (pl T) ha hb = true) := hnm
                clear hnm
                go_wp2_with fail
                refine (find_any _ T ha hb _ HTB.out).mono ?_
                rintro e w4 ⟨x4, rfl, hx4, hg4, hb4⟩
                rw [HF.out]
                obtain ⟨⟨yg, yk, yl, ys, yt, yrs, yes, ynx⟩, yrp, yrn, yrc, yep, yen, yec⟩ := x4
                have HQ5 : Hid (StaleAt w (w4.alloc (B8 yg yk yl ys yt (.slice yrp yrn yrc) (.slice yep yen yec) ynx)) u3 (.slice (some ⟨bI, offI, none⟩) m ca) (.slice pg m cg) T hs) := ((HQ.out.up ((Below.refl _ _).alloc (Nat.le_refl _) _)).up hb4).up ((Below.refl _ _).alloc (Nat.le_refl _) _)
                obtain ⟨ao2, cap2, hv2, _, hx2⟩ := HQ5.out.gon.at.open
                obtain ⟨bJ, offJ, hbo2, _, _, hc2⟩ := hx2 q _ (gones_at HHQ.out)
                simp only [Value.slice.injEq] at hv2
                obtain ⟨rfl, -, rfl⟩ := hv2
                cases hbo2
                have e0 := hc2 0 _ rfl
                rw [show q * EB.sz = q from Nat.mul_one q, Nat.add_zero] at e0
                (try rw [Nat.zero_add] at e0)
                simp only [HNM.out, Bool.not_true] at e0
                clear hx2 hc2 hx4 hg4 hb4 d0 d1 HTB
                go_wp2
                go_roundw
                case rel => exact ⟨q + 1, by omega, by go_num, HQ5⟩
                case measure => simp [intOf]; omega
              | false =>
                have HF : Hid (findErr (pl T) ha hb = 401) := by show findErr (pl T) ha hb = 401; rw [find_err HQ.out.inv.right, hnm]; rfl
                have HNM : Hid (names (pl T) ha hb = false) := hnm
                clear hnm
                go_wp2_with fail
                refine (find_any _ T ha hb _ HTB.out).mono ?_
                rintro e w4 ⟨x4, rfl, hx4, hg4, hb4⟩
                rw [HF.out]
                obtain ⟨⟨yg, yk, yl, ys, yt, yrs, yes, ynx⟩, yrp, yrn, yrc, yep, yen, yec⟩ := x4
                have HQ5 : Hid (StaleAt w (w4.alloc (B8 yg yk yl ys yt (.slice yrp yrn yrc) (.slice yep yen yec) ynx)) u3 (.slice (some ⟨bI, offI, none⟩) m ca) (.slice pg m cg) T hs) := ((HQ.out.up ((Below.refl _ _).alloc (Nat.le_refl _) _)).up hb4).up ((Below.refl _ _).alloc (Nat.le_refl _) _)
                obtain ⟨ao2, cap2, hv2, _, hx2⟩ := HQ5.out.gon.at.open
                obtain ⟨bJ, offJ, hbo2, _, _, hc2⟩ := hx2 q _ (gones_at HHQ.out)
                simp only [Value.slice.injEq] at hv2
                obtain ⟨rfl, -, rfl⟩ := hv2
                cases hbo2
                have e0 := hc2 0 _ rfl
                rw [show q * EB.sz = q from Nat.mul_one q, Nat.add_zero] at e0
                (try rw [Nat.zero_add] at e0)
                simp only [HNM.out, Bool.not_false] at e0
                clear hx2 hc2 hx4 hg4 hb4 d0 d1 HTB
                go_wp2
                go_roundw
                case rel => exact ⟨q + 1, by omega, by go_num, HQ5⟩
                case measure => simp [intOf]; omega
            · obtain rfl : q = m := by omega
              go_wp2
              go_roundw
              case rel => exact ⟨k + 1, T, hs, by omega, by go_num, by have := HLEN.out; omega, HQ⟩
              case measure => simp [intOf]; omega
    · obtain rfl : k = n := by omega
      have HB9 : Hid (Below w.heap.size w wr) := HST.out.below
      go_wp2_with fail
      refine (again_any _).mono ?_
      rintro e w9 ⟨rfl, hb9⟩
      have HB8 : Hid (Below w.heap.size w w9) := HB9.out.trans (hb9.mono HB9.out.size)
      clear hb9
      go_wp2
      go_ret
      exact ⟨rfl, HB8.out⟩

set_option maxHeartbeats 2000000 in
theorem stale_long (ao : Option Addr) (cap n : Nat) (w : World) (hl : 200 < n) :
    Calls Try.prog 7 #[.slice ao n cap] w fun e w' => e = .returned (.bool true) ∧ Below w.heap.size w w' := by
  have hnl : (200 : Int) < (n : Int) := by omega
  go_enter Try.func7, Try.ntmps7
  go_wp2_with fail
  refine (new_any _).mono ?_
  rintro e w1 ⟨u1, T1, rfl, ht1, hp1, hb1⟩
  obtain ⟨p1, c1, hu1, _, _⟩ := ht1.open
  have hl1 : T1.length = 1 := by have := congrArg List.length hp1; simpa [pl, It.new] using this
  rw [hl1] at hu1
  subst hu1
  have HB1 : Hid (Below w.heap.size w w1) := hb1
  clear ht1 hp1 hb1 hl1
  go_wp2_with fail
  refine (again_any _).mono ?_
  rintro e w9 ⟨rfl, hb9⟩
  have HB8 : Hid (Below w.heap.size w w9) := HB1.out.trans (hb9.mono HB1.out.size)
  clear hb9
  go_wp2
  go_ret
  exact ⟨rfl, HB8.out⟩
theorem stale_any (v : Value) (l : List (Int × Int)) (w : World) (hv : AtW EH w v l) : Calls Try.prog 7 #[v] w fun e w' => e = .returned (.bool true) ∧ Below w.heap.size w w' := by
  obtain ⟨ao, cap, rfl, _, _⟩ := hv.open
  by_cases h : l.length ≤ 200
  · exact stale_ok ao cap l w h hv
  · exact stale_long ao cap l.length w (by omega)

set_option maxRecDepth 100000 in
theorem itabStale_lifted (os : Os) (started : os.Started) (H : Type) (enc : TypeId × Value → H) :
    ReturnsInHanded {} Try.checked os 7 .any (Rows.itabStaleSpec.pre6 enc Try.prog Try.f7 Rows.itabStaleRow.domain false) (Rows.itabStaleSpec.post enc Try.prog Try.f7 false true false false) := by
  refine returnsInHanded_of_change (C := Try.checked) own started (by kernel_rfl) Try.func7
    (ChangeSpec.witness6 (enc := enc) (C := Try.checked) false ⟨#[], #[.slice none 0 0], []⟩ 8 (by kernel_rfl) (by kernel_rfl) (by kernel_rfl) (by kernel_rfl)) ?_
  intro W base args ds gs before hval0 hW hcnd _
  have hval : ∀ (j : Nat) t v, Try.f7.params[j]? = some t → args[j]? = some v → Value.okWide Try.prog W .any base t v := hval0
  have hW' := hW
  have hlt : ∀ x ∈ before, x.block < W.heap.size := fun x hx => by simpa using hW'.lt x hx
  obtain ⟨p, q, hA0, hV, rfl, hfz, hnd⟩ := hW
  have hA : DataW.TrodAll enc Try.prog W 0 (fun _ => true) true Try.f7.params.toList args.toList ds p := hA0
  rw [Try.params7] at hA hval
  obtain ⟨v0, d0, rfl, rfl, h0⟩ := trodAll_one hA
  obtain ⟨rfl, rfl⟩ := trodVars_none hV
  obtain ⟨l, hl⟩ := open_twos Try.underlying57 Try.underlying60 (by kernel_rfl) rfl rfl (by kernel_rfl) (by kernel_rfl) Try.underlying3 Try.underlying3 (okWide_slice Try.underlying57 (hval 0 57 v0 rfl rfl)) (fun x hx => hlt x (by simp [hx])) h0
  refine (stale_any v0 l W hl).mono fun e W' ⟨he, hg⟩ => ⟨_, he, ?_⟩
  exact Law.post laidOut (by kernel_rfl) rfl Try.underlying4 hW' rfl rfl hg

theorem itabStale_holds : Rows.ItabStaleSaid :=
  OpenClaim.holds_of_wide 7 Try.f7 rfl rfl rfl rfl rfl rfl rfl ⟨rfl, rfl, rfl, rfl, rfl⟩ rfl rfl rfl rfl rfl (by kernel_rfl) Try.func7 (by kernel_rfl)
    (of_decide_eq_true (by kernel_rfl)) (by unfold Func.isWrapper; first | (rw [if_pos (by decide +kernel)]; kernel_rfl) | (rw [if_neg (by decide +kernel)]; exact ⟨rfl, rfl⟩))
    (fun os started H enc _ => itabStale_lifted os started H enc)
#print axioms itabStale_holds
end Go.Proofs.Ytobcjnfombfdmaa
