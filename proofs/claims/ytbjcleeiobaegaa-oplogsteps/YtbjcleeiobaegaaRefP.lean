/-
  The reference's log: Put, at any one that stands for a list of items.
-/
import Derived.Test.YtbjcleeiobaegaaRowW
import Derived.Deep.CutRange
namespace Go.Proofs.Ytbjcleeiobaegaa
open Go.RowKit
theorem Ol.any_right {xs : List Ol.It} (h : ∀ x ∈ xs, Ol.right x) : (xs.any fun x => !decide (Ol.right x)) = false := by
  rw [List.any_eq_false]
  intro x hx
  simp [h x hx]
theorem Ol.any_wrong {xs : List Ol.It} {x : Ol.It} (hx : x ∈ xs) (h : ¬ Ol.right x) : (xs.any fun x => !decide (Ol.right x)) = true := by
  rw [List.any_eq_true]
  exact ⟨x, hx, by simp [h]⟩
theorem Ol.view_getD {ls : List Ol.It} {k : Nat} (hk : k < ls.length) : Ol.view 0 (ls.take (k + 1)) = (ls.getD k Ol.d0).1 := Ol.view_take 0 hk
namespace Rf
set_option maxHeartbeats 4000000 in
set_option maxRecDepth 100000 in
theorem put_main {s : Nat} {base : Int} {v : Value} {ls : List Ol.It} (k : Nat) (n : Int) (u : Value) (xs : List Ol.It) (w : World) (h : LogAt w s base v ls) (hk : k ≤ ls.length) (hn : n = base + k) (hx : ItemsAt w u xs) (hsz : xs.length ≤ 3518437208880) :
    Calls Try.prog 29 #[.pointer (some ⟨s, 0, none⟩), .int .i64 n, u] w fun e w' => ∃ v', e = .returned (.int .i64 (Ol.refuse base (ls.take k) xs)) ∧ LogAt w' s base v' (if Ol.refuse base (ls.take k) xs = 0 then ls.take k ++ xs else ls) ∧ Turns w w' s v ∧ Moves w v v' := by
  obtain ⟨i0, hi, hz0, hz1, hz2⟩ := info_parts info32
  have H : Hid (LogAt w s base v ls) := h
  have HR : Hid (Ol.reach base ls.length n = 0) := by rw [hn]; exact Ol.reach_ok h.good.zero hk
  have HK : Hid (k ≤ ls.length ∧ n = base + k) := ⟨hk, hn⟩
  have g0 := h.good.zero
  have g1 := h.good.top
  have g2 := h.good.len
  have hkl : (ls.take k).length = k := by rw [List.length_take]; omega
  have HKL : Hid ((ls.take k).length = k) := hkl
  obtain ⟨ao, cx, hu, hxm, hxo⟩ := hx.open
  subst hu
  obtain ⟨q, hq⟩ : ∃ q, xs.length = q := ⟨_, rfl⟩
  have HQ : Hid (xs.length = q) := hq
  have HXO : Hid (∀ j, j < xs.length → ∃ b off, ao = some ⟨b, off, none⟩ ∧ b < w.heap.size ∧ fourAt w b (off + j * 4) (xs.getD j Ol.d0)) := hxo
  have HXI : Hid (ItemsAt w (.slice ao q cx) xs) := by rw [← hq]; exact hx
  obtain ⟨rf, hrf⟩ : ∃ rf, Ol.refuse base (ls.take k) xs = rf := ⟨_, rfl⟩
  have HRF : Hid (Ol.refuse base (ls.take k) xs = rf) := hrf
  obtain ⟨lf, hlf⟩ : ∃ lf, (if rf = 0 then ls.take k ++ xs else ls) = lf := ⟨_, rfl⟩
  have HLF : Hid ((if rf = 0 then ls.take k ++ xs else ls) = lf) := hlf
  rw [hrf, hq, hlf]
  have hk' : k ≤ 256 := by omega
  have hbk : base + (k : Int) ≤ 1099511627776 := by omega
  rw [hq] at hsz
  clear h hn hx hxo hq hrf hkl hxm hlf
  go_enter Try.func29, Try.ntmps29
  go_wp2_with fail
  refine (at_any _ _ H.out).mono ?_
  rintro e w1 ⟨rfl, hg1⟩
  rw [HR.out]
  have HL1 : Hid (LogAt w1 s base v ls) := H.out.still hg1
  have HG1 : Hid (w.grownBy w1 none) := hg1
  clear hg1
  go_wp2
  go_loopw [22] (fun i wr => ∃ j : Nat, j ≤ q ∧ i = .int .i64 j ∧ Hid (∀ x ∈ xs.take j, Ol.right x) ∧ Hid (w1.grownBy wr none))
    (fun i _ => q - (intOf i).toNat)
  case atStart => exact ⟨0, Nat.zero_le _, rfl, (fun x hx => by simp at hx), grown_refl _ _⟩
  case round =>
    obtain ⟨j, hjq, rfl, HA, HG⟩ := hrel
    by_cases hjl : j < q
    · have hjs : j < xs.length := by have := HQ.out; omega
      obtain ⟨b, off, rfl, hb, hf⟩ := HXO.out j hjs
      obtain ⟨k0, k1, k2, k3⟩ := four_grown hf (grown_trans HG1.out HG.out)
      have hmem := Ol.getD_mem hjs
      have hts := Ol.take_succ hjs
      generalize xs.getD j Ol.d0 = x at k0 k1 k2 k3 hmem hts
      obtain ⟨x0, x1, x2, x3⟩ := x
      simp only at k0 k1 k2 k3
      have ga := World.grownBy_alloc wr (.cells #[.int .i64 x0, .int .i64 x1, .int .i64 x2, .string x3] 32) none
      clear hf hb
      by_cases hr : Ol.right (x0, x1, x2, x3)
      · have HD : Hid (decide (Ol.right (x0, x1, x2, x3)) = true) := decide_eq_true hr
        have HA2 : Hid (∀ x ∈ xs.take (j + 1), Ol.right x) := by
          have : ∀ x ∈ xs.take (j + 1), Ol.right x := by
            intro y hy
            rw [hts] at hy
            rcases List.mem_append.1 hy with hy | hy
            · exact HA.out y hy
            · rw [List.mem_singleton.1 hy]; exact hr
          exact this
        clear hr hmem hts
        go_wp2_with fail
        refine (refRight_any (x0, x1, x2, x3) _).mono ?_
        rintro e w3 ⟨rfl, hg3⟩
        rw [HD.out]
        have HG3 : Hid (w1.grownBy w3 none) := grown_trans HG.out (grown_trans ga hg3)
        clear hg3 ga
        go_wp2
        go_roundw
        case rel => exact ⟨j + 1, by omega, by go_num, HA2, HG3⟩
        case measure => simp [intOf]; omega
      · have HD : Hid (decide (Ol.right (x0, x1, x2, x3)) = false) := decide_eq_false hr
        have HE : Hid (rf = 4 ∧ lf = ls) := by
          have h4 : rf = 4 := by
            rw [← HRF.out]
            unfold Ol.refuse
            rw [if_pos (Ol.any_wrong hmem hr)]
          exact ⟨h4, by rw [← HLF.out, if_neg (by omega)]⟩
        clear hr hmem hts
        go_wp2_with fail
        refine (refRight_any (x0, x1, x2, x3) _).mono ?_
        rintro e w3 ⟨rfl, hg3⟩
        rw [HD.out]
        have HG3 : Hid (w1.grownBy w3 none) := grown_trans HG.out (grown_trans ga hg3)
        clear hg3 ga
        go_wp2
        go_ret
        rw [HE.out.1, HE.out.2]
        exact ⟨v, rfl, HL1.out.still HG3.out, .of_grown (grown_trans HG1.out HG3.out), .refl _ _⟩
    · obtain rfl : j = q := by omega
      have HA2 : Hid ((xs.any fun x => !decide (Ol.right x)) = false) := by
        have h1 := HA.out
        rw [← HQ.out, List.take_length] at h1
        exact Ol.any_right h1
      have HGr : Hid (w.grownBy wr none) := grown_trans HG1.out HG.out
      have HLr : Hid (LogAt wr s base v ls) := H.out.still HGr.out
      clear HA HG HG1 HL1
      obtain ⟨w2, rfl⟩ : ∃ W, W = wr := ⟨_, rfl⟩
      obtain ⟨c0, c1⟩ := HLr.out.cells
      have hnk : n - base = (k : Int) := by have := HK.out.2; omega
      have hn0 : 0 ≤ n := by have := HK.out.2; omega
      have hnb : base ≤ n := by have := HK.out.2; omega
      have hnt : n ≤ 1099511627776 := by have := HK.out.2; omega
      go_upto_region 11 with fail
      go_cut [10] from 30 to 42 (fun u10 wc => Row wc w2.heap.size 32 u10 (ls.take k) ∧ Hid (w2.grownBy wc none))
      case first =>
        rcases HLr.out.row with ⟨rfl, he⟩ | ⟨g, off, cap, cur, rfl, hB, hg, hlc, hcm, hoc, htk⟩
        · have hk0 : k = 0 := by
            have := HK.out.1
            rw [he] at this
            simpa using this
          subst hk0
          have hw0 : IntKind.i64.wrap 0 = 0 := Go.IntWalk.i64_in 0 (by omega)
          have HI : Hid (ItemsAt w2.drew (.slice none 0 0) (ls.take 0)) := .inl ⟨_, _, rfl, List.take_zero⟩
          go_region_law (refine step_row _ rfl (.tmp 30) (.tmp 41) 33 rfl w2.heap.size 32 i0 (.agg #[.int .i64 0, .int .i64 0, .int .i64 0, .string ⟨#[]⟩]) 40 Try.underlying33 hi hz0 hz1 hz2 rfl (.slice none 0 0) [] (by first | rfl | simp [Act.eval, Act.put]) (Row.nil _ _ _) _ (ls.take 0) (by first | rfl | simp [Act.eval, Act.put]) HI.out (by simp) (by simp) (Nat.le_refl _) ?_; intro v' w3 hrow3 hg3 hmv)
          all_goals
            have HRR : Hid (Row w3 w2.heap.size 32 v' (ls.take 0) ∧ w2.grownBy w3 none) := ⟨by simpa using hrow3, ⟨hg3.os, hg3.tape, hg3.output, hg3.size, hg3.block⟩⟩
            clear hrow3 hg3 hmv
            go_wp2
            go_meet
            case rel => exact ⟨HRR.out.1, HRR.out.2⟩
        · have HI : Hid (ItemsAt w2.drew (.slice (some ⟨g, off, none⟩) k cap) (ls.take k)) := (HLr.out.row.take HK.out.1 (by have := HK.out.1; omega) (Nat.le_refl _)).drew.items
          obtain ⟨m, hmd⟩ : ∃ m, ls.length = m := ⟨_, rfl⟩
          have hkm := HK.out.1
          rw [hmd] at c1 hlc hkm
          have hkI : (k : Int) ≤ (m : Int) := by omega
          have hkc : (k : Int) ≤ (cap : Int) := by omega
          have hk0 : (0 : Int) ≤ (k : Int) := by omega
          have hwk : IntKind.i64.wrap (k : Int) = (k : Int) := Go.IntWalk.i64_in _ (by omega)
          have hcm' : (cap : Int) ≤ 9223372036854775807 := by unfold maxLen at hcm; omega
          clear hg htk hoc hcm hmd
          go_region_law (refine step_row _ rfl (.tmp 30) (.tmp 41) 33 rfl w2.heap.size 32 i0 (.agg #[.int .i64 0, .int .i64 0, .int .i64 0, .string ⟨#[]⟩]) 40 Try.underlying33 hi hz0 hz1 hz2 rfl (.slice none 0 0) [] (by first | rfl | simp [Act.eval, Act.put]) (Row.nil _ _ _) _ (ls.take k) (by first | rfl | simp [Act.eval, Act.put]) HI.out (by rw [HKL.out]; unfold maxLen; simp; omega) (by rw [HKL.out]; simp; omega) (Nat.le_refl _) ?_; intro v' w3 hrow3 hg3 hmv)
          all_goals
            have HRR : Hid (Row w3 w2.heap.size 32 v' (ls.take k) ∧ w2.grownBy w3 none) := ⟨by simpa using hrow3, ⟨hg3.os, hg3.tape, hg3.output, hg3.size, hg3.block⟩⟩
            clear hrow3 hg3 hmv
            go_wp2
            go_meet
            case rel => exact ⟨HRR.out.1, HRR.out.2⟩
      case rest =>
        obtain ⟨hrow, HGc⟩ := hcut
        obtain ⟨p10, cp10, hu10⟩ := hrow.slice
        rw [HKL.out] at hu10
        subst hu10
        have HRc : Hid (Row wc w2.heap.size 32 (.slice p10 k cp10) (ls.take k)) := hrow
        obtain ⟨w3, rfl⟩ : ∃ W, W = wc := ⟨_, rfl⟩
        clear hrow
        obtain ⟨vw, hvw⟩ : ∃ vw, Ol.view 0 (ls.take k) = vw := ⟨_, rfl⟩
        have HVW : Hid (Ol.view 0 (ls.take k) = vw) := hvw
        clear hvw c0 c1
        go_upto_if 45 with fail
        go_cut [11] from 43 to 52 (fun u11 wc => u11 = .int .i64 vw ∧ wc = w3)
        case first =>
          by_cases hk0 : k = 0
          · subst hk0
            have hv0 : vw = 0 := by rw [← HVW.out]; rfl
            subst hv0
            go_wp2
            go_meet
            case rel => exact ⟨rfl, rfl⟩
          · have hk1 : (0 : Int) < (k : Int) := by omega
            obtain ⟨ao3, cx3, hu3, _, ho3⟩ := HRc.out.items.open
            rw [HKL.out] at hu3
            injection hu3 with e1 e2 e3
            subst e1 e3
            obtain ⟨b, off, rfl, hb, hf⟩ := ho3 (k - 1) (by rw [HKL.out]; omega)
            obtain ⟨k0, _, _, _⟩ := hf
            have hvv : (((ls.take k).getD (k - 1) Ol.d0)).1 = vw := by
              rw [← HVW.out]
              have := Ol.view_getD (ls := ls.take k) (k := k - 1) (by rw [HKL.out]; omega)
              rw [← this, show k - 1 + 1 = k by omega, List.take_take, Nat.min_self]
            rw [hvv] at k0
            obtain ⟨k', rfl⟩ : ∃ k', k = k' + 1 := ⟨k - 1, by omega⟩
            rw [Nat.add_sub_cancel] at k0
            go_wp2
            go_meet
            case rel => exact ⟨rfl, rfl⟩
        case rest =>
          obtain ⟨rfl, rfl⟩ := hcut
          go_wp2
          go_loopw [11, 55] (fun u i wr => ∃ i' : Nat, i' ≤ j ∧ i = .int .i64 i' ∧ u = .int .i64 (Ol.view vw (xs.take i')) ∧ Hid (Ol.fall vw (xs.take i') = false) ∧ Hid (wc.grownBy wr none))
            (fun _ i _ => j - (intOf i).toNat)
          case atStart => exact ⟨0, Nat.zero_le _, rfl, rfl, rfl, grown_refl _ _⟩
          case round =>
            obtain ⟨i, hij, rfl, rfl, HFA, HGr2⟩ := hrel
            have HGw : Hid (w.grownBy wr none) := grown_trans HGr.out (grown_trans HGc.out HGr2.out)
            by_cases hil : i < j
            · have his : i < xs.length := by have := HQ.out; omega
              obtain ⟨b, off, rfl, hb, hf⟩ := HXO.out i his
              obtain ⟨k0, k1, k2, k3⟩ := four_grown hf HGw.out
              have hfs := @Ol.fall_take xs i vw his
              have hvs := Ol.view_take vw his
              have hpre : Ol.fall vw (xs.take (i + 1)) = true → Ol.fall vw xs = true := fun hh => by
                cases hc : Ol.fall vw xs with
                | true => rfl
                | false =>
                  rw [Ol.fall_prefix hc] at hh
                  cases hh
              generalize xs.getD i Ol.d0 = x at k0 k1 k2 k3 hfs hvs
              obtain ⟨x0, x1, x2, x3⟩ := x
              simp only at k0 k1 k2 k3 hfs hvs
              obtain ⟨lv, hlv⟩ : ∃ lv, Ol.view vw (xs.take i) = lv := ⟨_, rfl⟩
              rw [hlv] at hfs ⊢
              rw [HFA.out, Bool.false_or] at hfs
              clear hf hb hlv
              by_cases hlt : x0 < lv
              · have HE : Hid (rf = 7 ∧ lf = ls) := by
                  have h7 : rf = 7 := by
                    rw [← HRF.out]
                    unfold Ol.refuse
                    rw [if_neg (by rw [HA2.out]; decide), HVW.out, if_pos (hpre (by rw [hfs]; exact decide_eq_true hlt))]
                  exact ⟨h7, by rw [← HLF.out, if_neg (by omega)]⟩
                clear hfs hvs hpre
                go_wp2
                go_ret
                rw [HE.out.1, HE.out.2]
                exact ⟨v, rfl, H.out.still (grown_trans HGw.out (World.grownBy_alloc _ _ _)), .of_grown (grown_trans HGw.out (World.grownBy_alloc _ _ _)), .refl _ _⟩
              · have HF2 : Hid (Ol.fall vw (xs.take (i + 1)) = false) := by
                  have : Ol.fall vw (xs.take (i + 1)) = false := by rw [hfs]; exact decide_eq_false hlt
                  exact this
                have HV2 : Hid (Ol.view vw (xs.take (i + 1)) = x0) := hvs
                clear hfs hvs hpre
                go_wp2
                go_roundw
                case rel => exact ⟨i + 1, by omega, by go_num, by rw [HV2.out], HF2, grown_trans HGr2.out (World.grownBy_alloc _ _ _)⟩
                case measure => simp [intOf]; omega
            · obtain rfl : i = j := by omega
              have HF3 : Hid (Ol.fall vw xs = false) := by
                have h1 := HFA.out
                rw [← HQ.out, List.take_length] at h1
                exact h1
              generalize Ol.view vw (xs.take i) = lv
              have HRw : Hid (Row wr w2.heap.size 32 (.slice p10 k cp10) (ls.take k)) := HRc.out.still HGr2.out
              have HXw : Hid (ItemsAt wr (.slice ao i cx) xs) := HXI.out.below (below_none HGw.out (Nat.le_refl _)) (Nat.le_refl _)
              have hb2 : w2.heap.size ≤ wr.heap.size := Nat.le_trans HGc.out.size HGr2.out.size
              have HLw : Hid (LogAt wr s base v ls) := H.out.still HGw.out
              clear HFA HGr2
              go_upto_region 23 with (at_builtin; refine wpList_rowW _ rfl _ _ 33 rfl w2.heap.size 32 i0 (.agg #[.int .i64 0, .int .i64 0, .int .i64 0, .string ⟨#[]⟩]) 40 Try.underlying33 hi hz0 hz1 hz2 rfl (.slice p10 k cp10) (ls.take k) rfl HRw.out (.slice ao i cx) xs rfl HXw.out (by rw [HKL.out, HQ.out]; unfold maxLen; omega) (by rw [HKL.out, HQ.out]; omega) hb2 ?_; intro v7 w7 hrow7 hg7 hmv7; obtain ⟨p7, c7, hu7⟩ := hrow7.slice; rw [List.length_append, HKL.out, HQ.out] at hu7; subst hu7)
              have hslt := HLw.out.lt
              have hs2 : s < w2.heap.size := HLr.out.lt
              have hbl7 : w7.heap[s]? = some (.cells #[.int .i64 base, v] 43 (0, 0)) := (hg7.block s hslt (fun e => by have := (HRw.out.lt s e.symm).1; omega)).trans HLw.out.block
              have ht7 : Turns w w7 s v := ⟨hg7.os.trans HGw.out.os, hg7.tape.trans HGw.out.tape, hg7.output.trans HGw.out.output, Nat.le_trans HGw.out.size hg7.size, fun b hb _ _ => (hg7.block b (Nat.lt_of_lt_of_le hb HGw.out.size) (fun e => by have := (HRw.out.lt b e.symm).1; have := HGr.out.size; omega)).trans (HGw.out.block b hb (by simp))⟩
              have HT7 : Hid (Turns w w7 s v) := ht7
              have HL7 : Hid (LogAt w7 s base v ls) := ⟨hbl7, by
                have hv := H.out.row.still HGw.out
                refine hv.kept hg7 ?_
                cases hvo : v.ownBlock with
                | none => exact .inl rfl
                | some b =>
                  refine .inr (fun e => ?_)
                  have h1 := (H.out.row.lt b hvo).2
                  have h2 := (HRw.out.lt b e.symm).1
                  have h3 := HGr.out.size
                  omega, H.out.good⟩
              have HBL : Hid (w7.heap[s]? = some (.cells #[.int .i64 base, v] 43 (0, 0))) := hbl7
              have HR7 : Hid (Row w7 w2.heap.size 32 (.slice p7 (k + i) c7) (ls.take k ++ xs)) := hrow7
              obtain ⟨c0, c1⟩ := HL7.out.cells
              have f1 := HL7.out.free 1
              have hs7 := HL7.out.lt
              have HRG : Hid (rf = if 256 < k + i ∨ 1099511627776 < base + (k : Int) + (i : Int) then 5 else 0) := by
                have : rf = if 256 < k + i ∨ 1099511627776 < base + (k : Int) + (i : Int) then 5 else 0 := by
                  rw [← HRF.out]
                  unfold Ol.refuse
                  rw [if_neg (by rw [HA2.out]; decide), HVW.out, if_neg (by rw [HF3.out]; decide), HKL.out, HQ.out]
                exact this
              clear hg7 hmv7 hrow7 hbl7 ht7
              obtain ⟨t, htd⟩ : ∃ t, k + i = t := ⟨_, rfl⟩
              have HTD : Hid (k + i = t) := htd
              rw [htd] at HR7 ⊢
              by_cases h256 : 256 < t
              · have HE : Hid (rf = 5 ∧ lf = ls) := by
                  have h5 : rf = 5 := HRG.out.trans (if_pos (by left; omega))
                  exact ⟨h5, by rw [← HLF.out, if_neg (by omega)]⟩
                have hI : (256 : Int) < (t : Int) := by omega
                clear htd
                go_wp2
                go_ret
                rw [HE.out.1, HE.out.2]
                exact ⟨v, rfl, HL7.out, HT7.out, .refl _ _⟩
              · have hI : ¬ (256 : Int) < (t : Int) := by omega
                by_cases htop : 1099511627776 < base + (t : Int)
                · have HE : Hid (rf = 5 ∧ lf = ls) := by
                    have h5 : rf = 5 := HRG.out.trans (if_pos (by right; omega))
                    exact ⟨h5, by rw [← HLF.out, if_neg (by omega)]⟩
                  clear htd
                  go_wp2
                  go_ret
                  rw [HE.out.1, HE.out.2]
                  exact ⟨rfl, v, HL7.out, HT7.out, .refl _ _⟩
                · have HE : Hid (rf = 0 ∧ lf = ls.take k ++ xs) := by
                    have h5 : rf = 0 := HRG.out.trans (if_neg (by omega))
                    exact ⟨h5, by rw [← HLF.out, if_pos h5]⟩
                  have HFE : Hid (LogAt (w7.setCell ⟨s, 1, none⟩ (.slice p7 t c7)) s base (.slice p7 t c7) (ls.take k ++ xs) ∧ Turns w (w7.setCell ⟨s, 1, none⟩ (.slice p7 t c7)) s v) := by
                    have hok := Ol.refuse_ok (HRF.out.trans HE.out.1)
                    exact ⟨log_put HBL.out (HR7.out.mono (by omega)) ((H.out.good.cut k).put hok.1 hok.2.1 hok.2.2.1 hok.2.2.2), turns_set HT7.out 1 _⟩
                  clear htd
                  go_wp2
                  go_ret
                  rw [HE.out.1, HE.out.2]
                  refine ⟨rfl, _, HFE.out.1, HFE.out.2, .inr fun b hb => ?_⟩
                  have h1 := (HR7.out.lt b hb).1
                  have h2 := HGr.out.size
                  omega
end Rf
def Ol.putErr (base : Int) (ls : List Ol.It) (n : Int) (xs : List Ol.It) : Int := if Ol.reach base ls.length n = 0 then Ol.refuse base (ls.take (n - base).toNat) xs else Ol.reach base ls.length n
def Ol.putTo (base : Int) (ls : List Ol.It) (n : Int) (xs : List Ol.It) : List Ol.It := if Ol.putErr base ls n xs = 0 then ls.take (n - base).toNat ++ xs else ls
theorem put_any {s : Nat} {base : Int} {v : Value} {ls : List Ol.It} (n : Int) (u : Value) (xs : List Ol.It) (w : World) (h : LogAt w s base v ls) (hx : ItemsAt w u xs) (hsz : xs.length ≤ 3518437208880) :
    Calls Try.prog 22 #[.pointer (some ⟨s, 0, none⟩), .int .i64 n, u] w fun e w' => ∃ v', e = .returned (.int .i64 (Ol.putErr base ls n xs)) ∧ LogAt w' s base v' (Ol.putTo base ls n xs) ∧ Turns w w' s v ∧ Moves w v v' := by
  unfold Ol.putTo Ol.putErr
  by_cases hr : Ol.reach base ls.length n = 0
  · obtain ⟨h0, h1, h2⟩ := Ol.reach_zero hr
    rw [if_pos hr]
    by_cases hf : Ol.refuse base (ls.take (n - base).toNat) xs = 0
    · rw [if_pos hf, hf]
      exact put_ok (n - base).toNat n u xs w h (by omega) (by omega) hx (by omega) hf
    · rw [if_neg hf]
      exact (put_err (n - base).toNat n u xs w h (by omega) (by omega) hx (by omega) hf).mono fun _ _ ⟨he, hg⟩ => ⟨v, he, h.still hg, .of_grown hg, .refl _ _⟩
  · rw [if_neg hr, if_neg hr]
    exact (put_reach n u w h hr).mono fun _ _ ⟨he, hg⟩ => ⟨v, he, h.still hg, .of_grown hg, .refl _ _⟩
namespace Rf
set_option maxRecDepth 100000 in
theorem put_reach {s : Nat} {base : Int} {v : Value} {ls : List Ol.It} (n : Int) (u : Value) (w : World) (h : LogAt w s base v ls) (hn : Ol.reach base ls.length n ≠ 0) : Calls Try.prog 29 #[.pointer (some ⟨s, 0, none⟩), .int .i64 n, u] w fun e w' => e = .returned (.int .i64 (Ol.reach base ls.length n)) ∧ w.grownBy w' none := by
  have H : Hid (LogAt w s base v ls) := h
  generalize hx : Ol.reach base ls.length n = x at *
  have HX : Hid (Ol.reach base ls.length n = x) := hx
  clear h hx
  go_enter Try.func29, Try.ntmps29
  go_wp2_with fail
  refine (at_any _ _ H.out).mono ?_
  rintro e w1 ⟨rfl, hg⟩
  have HG : Hid (w.grownBy w1 none) := hg
  clear hg
  rw [HX.out]
  go_wp2
  go_ret
  exact ⟨rfl, HG.out⟩
theorem put_any {s : Nat} {base : Int} {v : Value} {ls : List Ol.It} (n : Int) (u : Value) (xs : List Ol.It) (w : World) (h : LogAt w s base v ls) (hx : ItemsAt w u xs) (hsz : xs.length ≤ 3518437208880) :
    Calls Try.prog 29 #[.pointer (some ⟨s, 0, none⟩), .int .i64 n, u] w fun e w' => ∃ v', e = .returned (.int .i64 (Ol.putErr base ls n xs)) ∧ LogAt w' s base v' (Ol.putTo base ls n xs) ∧ Turns w w' s v ∧ Moves w v v' := by
  unfold Ol.putTo Ol.putErr
  by_cases hr : Ol.reach base ls.length n = 0
  · obtain ⟨h0, h1, h2⟩ := Ol.reach_zero hr
    rw [if_pos hr]
    exact put_main (n - base).toNat n u xs w h (by omega) (by omega) hx hsz
  · rw [if_neg hr, if_neg hr]
    exact (put_reach n u w h hr).mono fun _ _ ⟨he, hg⟩ => ⟨v, he, h.still hg, .of_grown hg, .refl _ _⟩
end Rf
end Go.Proofs.Ytbjcleeiobaegaa
