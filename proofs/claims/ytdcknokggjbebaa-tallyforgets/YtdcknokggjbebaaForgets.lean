/-
  TallyForgets: for every list of bids and every bid the call answers true, and the arguments read as before. No condition.
-/
import Derived.Test.YtdcknokggjbebaaYTT
import Derived.Test.YtdcknokggjbebaaLaw
namespace Go.Proofs.Ytdcknokggjbebaa
open Go.ChangeShapes Go.WideShapes Go.ChangeAt Go.RowKit Go.Deep

theorem Ty.addL_has {L : List Bd} {k b : Bd} (h : Ty.has L b.1 = false) (hk : k.1 ≠ b.1) : Ty.has (Ty.addL 7 L k) b.1 = false := by
  unfold Ty.addL
  split
  · refine Ty.has_no.2 fun x hx => ?_
    rcases Ty.mem_add.1 hx with rfl | ⟨hx, _⟩
    · exact hk
    · exact Ty.has_no.1 h x hx
  · exact h
theorem Ty.add_len {L : List Bd} (hi : Ty.Inc L) {b : Bd} (h : Ty.has L b.1 = false) : (Ty.add L b).length = L.length + 1 := by
  have : (Ty.add L b).Perm (b :: L) := by
    have hn : (b :: L).Nodup := List.nodup_cons.2 ⟨fun hb => Ty.has_no.1 h b hb rfl, nodup_of_keys (keys_inc hi)⟩
    refine (List.perm_ext_iff_of_nodup (nodup_of_keys (keys_inc (Ty.inc_add hi b))) hn).2 fun x => ?_
    rw [Ty.mem_add, List.mem_cons]
    exact ⟨fun h1 => h1.imp id (fun h2 => h2.1), fun h1 => h1.imp id (fun h2 => ⟨h2, Ty.has_no.1 h x h2⟩)⟩
  rw [this.length_eq]
  rfl
theorem Ty.add_has (L : List Bd) (b : Bd) : Ty.has (Ty.add L b) b.1 = true := Ty.has_iff.2 ⟨b, Ty.mem_add.2 (.inl rfl), rfl⟩
set_option maxRecDepth 100000 in
set_option maxHeartbeats 16000000 in
theorem forgets_any (v : Value) (l : List Bd) (b : Bd) (w : World) (hv : AtW EB w v l) : Calls Try.prog 6 #[v, VB b] w fun e w' => e = .returned (.bool true) ∧ Below w.heap.size w w' := by
  obtain ⟨ao, cap, rfl, hm, hx⟩ := hv.open
  unfold maxLen at hm
  obtain ⟨n, hn⟩ : ∃ n, l.length = n := ⟨_, rfl⟩
  have HN : Hid (l.length = n) := hn
  rw [hn] at hm ⊢
  have HX : Hid (OverB w ao l) := hx
  obtain ⟨W, hW⟩ : ∃ W, w.alloc (BB b) = W := ⟨_, rfl⟩
  have HW : Hid (w.alloc (BB b) = W) := hW
  have HBW : Hid (Below w.heap.size w W) := by rw [← hW]; exact (Below.refl _ _).alloc (Nat.le_refl _) _
  obtain ⟨A, hA⟩ : ∃ A, w.heap.size = A := ⟨_, rfl⟩
  have HA : Hid (w.heap.size = A) := hA
  have HXA : Hid (W.heap[A]? = some (BB b)) := by rw [← hW, ← hA]; exact heap_alloc_new _ _
  have H7 : Hid (Pn.Is 7 3) := is7
  clear hW hA hn hx hv
  go_enter Try.func6, Try.ntmps6
  go_wp2_with fail
  rw [HW.out, HA.out]
  refine (tnew_yes _ H7.out).mono ?_
  rintro e w1 ⟨rfl, ht1, hg1⟩
  have HT1 : Hid (TA w1 (W.heap.size + 1) W.heap.size 7 3 []) := ht1
  have HG1 : Hid (W.grownBy w1 none) := hg1
  clear ht1 hg1
  go_wp2_with fail
  refine (tnew_yes _ H7.out).mono ?_
  rintro e w2 ⟨rfl, ht2, hg2⟩
  have htt := tt_new HT1.out HG1.out ht2 hg2
  obtain ⟨s1, hs1⟩ : ∃ s1, W.heap.size + 1 = s1 := ⟨_, rfl⟩
  obtain ⟨s2, hs2⟩ : ∃ s2, w1.heap.size + 1 = s2 := ⟨_, rfl⟩
  obtain ⟨b1, hb1⟩ : ∃ b1, W.heap.size = b1 := ⟨_, rfl⟩
  obtain ⟨b2, hb2⟩ : ∃ b2, w1.heap.size = b2 := ⟨_, rfl⟩
  rw [hs1, hs2, hb1, hb2] at htt
  rw [hs1, hs2]
  have HTT : Hid (TT W w2 s1 b1 s2 b2 [] []) := htt
  have HA2 : Hid (w2.heap[A]? = some (BB b)) := (hg2.block A (Nat.lt_of_lt_of_le (Array.getElem?_eq_some_iff.1 HXA.out).1 HG1.out.size) (by simp)).trans ((HG1.out.block A (Array.getElem?_eq_some_iff.1 HXA.out).1 (by simp)).trans HXA.out)
  clear ht2 hg2 htt hs1 hs2 hb1 hb2 HT1 HG1
  have HBW2 : Hid (∀ V s1 b1 s2 b2 L1 L2, TT W V s1 b1 s2 b2 L1 L2 → Below w.heap.size w V) := fun V _ _ _ _ _ _ h => HBW.out.trans (h.bel.mono HBW.out.size)
  by_cases hbig : 100 < n
  · have hbig' : (100 : Int) < (n : Int) := by omega
    go_wp2_with fail
    refine (two_any _).mono ?_
    rintro e wz ⟨rfl, hb⟩
    have HBZ : Hid (Below w.heap.size w wz) := (HBW2.out _ _ _ _ _ _ _ HTT.out).trans (hb.mono (HBW2.out _ _ _ _ _ _ _ HTT.out).size)
    clear hb
    go_wp2
    go_ret
    exact ⟨rfl, HBZ.out⟩
  · have hbig' : ¬ (100 : Int) < (n : Int) := by omega
    have hn100 : n ≤ 100 := by omega
    clear hm hbig
    go_wp2
    go_loopw [66] (fun i wr => ∃ (k : Nat) (L : List Bd), k ≤ n ∧ i = .int .i64 k ∧ Hid (TT W wr s1 b1 s2 b2 L L) ∧ Hid (Ty.has L b.1 = false) ∧ Hid (wr.heap[A]? = some (BB b))) (fun i _ => n - (intOf i).toNat)
    case atStart => exact ⟨0, [], Nat.zero_le _, rfl, HTT.out, rfl, HA2.out⟩
    case round =>
      obtain ⟨k, L, hk, rfl, HT, HH, HAK⟩ := hrel
      have HB : Hid (Below w.heap.size w wr) := HBW2.out _ _ _ _ _ _ _ HT.out
      by_cases hlt : k < n
      · obtain ⟨x, hxk⟩ : ∃ x, l[k]? = some x := ⟨_, List.getElem?_eq_getElem (by rw [HN.out]; exact hlt)⟩
        obtain ⟨bb, off, rfl, -, hB, hc⟩ := HX.out k x hxk
        obtain ⟨c0, c1, c2⟩ := bid_cells HB.out hB hc
        obtain ⟨⟨a0, -, -⟩, -⟩ := bid_of HAK.out
        have a0' := fun o => (cell_older (World.block_lt_of_cell? _ _ a0) o 0).trans a0
        have hlt' : (k : Int) < (n : Int) := by omega
        have hup : Below wr.heap.size wr (wr.alloc (BB x)) := (Below.refl _ _).alloc (Nat.le_refl _) _
        have HTA : Hid (TT W (wr.alloc (BB x)) s1 b1 s2 b2 L L) := HT.out.up hup
        have HAA : Hid ((wr.alloc (BB x)).heap[A]? = some (BB b)) := (hup.block A (Array.getElem?_eq_some_iff.1 HAK.out).1).trans HAK.out
        have HXB : Hid ((wr.alloc (BB x)).heap[wr.heap.size]? = some (BB x)) := heap_alloc_new _ _
        clear hc hxk hB hup a0
        by_cases hne : x.1 = b.1
        · have hne' : (x.1 != b.1) = false := by simp [hne]
          clear hne
          go_wp2
          go_roundw
          case rel => exact ⟨k + 1, L, by omega, by go_num, HTA.out, HH.out, HAA.out⟩
          case measure => simp [intOf]; omega
        · have hne' : (x.1 != b.1) = true := by simp [hne]
          have HHN : Hid (Ty.has (Ty.addL 7 L x) b.1 = false) := Ty.addL_has HH.out hne
          clear hne
          go_wp2_with fail
          refine (tadd_any _ _ HTA.out.h1).mono ?_
          rintro e w3 ⟨rfl, ht3, hg3⟩
          have HT3 : Hid (TT W w3 s1 b1 s2 b2 (Ty.addL 7 L x) L) := HTA.out.one hg3 ht3
          have HA3 : Hid (w3.heap[A]? = some (BB b)) := (HTA.out.cells HAA.out).1 _ hg3
          have HX3 : Hid (w3.heap[wr.heap.size]? = some (BB x)) := (HTA.out.cells HXB.out).1 _ hg3
          obtain ⟨⟨d0, d1, d2⟩, -⟩ := bid_of HX3.out
          obtain ⟨q1, q2⟩ : ∃ q1 q2, Ty.addB 7 L x = q1 ∧ Ty.addE 7 x = q2 := ⟨_, _, rfl, rfl⟩
          clear ht3 hg3 c0 c1 c2 a0'
          go_wp2_with fail
          refine (tadd_any _ _ HT3.out.h2).mono ?_
          rintro e w4 ⟨rfl, ht4, hg4⟩
          have HT4 : Hid (TT W w4 s1 b1 s2 b2 (Ty.addL 7 L x) (Ty.addL 7 L x)) := HT3.out.two hg4 ht4
          have HA4 : Hid (w4.heap[A]? = some (BB b)) := (HT3.out.cells HA3.out).2 _ hg4
          clear ht4 hg4 d0 d1 d2
          go_wp2
          go_roundw
          case rel => exact ⟨k + 1, _, by omega, by go_num, HT4.out, HHN.out, HA4.out⟩
          case measure => simp [intOf]; omega
      · obtain rfl : k = n := by omega
        obtain ⟨⟨a0, a1, a2⟩, -⟩ := bid_of HAK.out
        have HL7 : Hid (L.length ≤ 7) := Ty.len_le is7 HT.out.h1.ma.inc HT.out.h1.ma.fits
        by_cases hf : Ty.Fits 7 b
        · have HE : Hid (Ty.addL 7 L b = Ty.add L b ∧ Ty.addB 7 L b = true ∧ Ty.addE 7 b = 0) := by
            unfold Ty.addL Ty.addB Ty.addE
            exact ⟨if_pos hf, by rw [decide_eq_true hf, HH.out]; rfl, if_pos hf⟩
          have HP : Hid (0 ≤ b.1 ∧ b.1 < 7) := hf.1
          have HD : Hid (Ty.del (Ty.add L b) b.1 = L ∧ Ty.has (Ty.add L b) b.1 = true ∧ (Ty.add L b).length = L.length + 1) := ⟨Ty.del_add HT.out.h1.ma.inc HH.out, Ty.add_has L b, Ty.add_len HT.out.h1.ma.inc HH.out⟩
          clear hf
          go_wp2_with fail
          refine (tadd_any _ _ HT.out.h1).mono ?_
          rintro e w3 ⟨rfl, ht3, hg3⟩
          rw [HE.out.2.1, HE.out.2.2]
          have HT3 : Hid (TT W w3 s1 b1 s2 b2 (Ty.add L b) L) := by have := HT.out.one hg3 ht3; rwa [HE.out.1] at this
          have HA3 : Hid (w3.heap[A]? = some (BB b)) := (HT.out.cells HAK.out).1 _ hg3
          clear ht3 hg3 a0 a1 a2
          go_wp2_with fail
          refine (tEnough_any _ HT3.out.h1).mono ?_
          rintro e w4 ⟨rfl, hb4⟩
          rw [HD.out.2.2]
          have HT4 : Hid (TT W w4 s1 b1 s2 b2 (Ty.add L b) L) := HT3.out.up hb4
          have HA4 : Hid (w4.heap[A]? = some (BB b)) := (hb4.block A (Array.getElem?_eq_some_iff.1 HA3.out).1).trans HA3.out
          obtain ⟨en, hen⟩ : ∃ en, decide ((3 : Int) < ((L.length + 1 : Nat) : Int)) = en := ⟨_, rfl⟩
          have HEN : Hid (decide ((3 : Int) < ((L.length + 1 : Nat) : Int)) = en) := hen
          rw [hen]
          obtain ⟨⟨a0, -, -⟩, -⟩ := bid_of HA4.out
          clear hb4 hen HT3 HA3
          go_wp2_with fail
          refine (tforget_yes _ HT4.out.h1 HP.out).mono ?_
          rintro e w5 ⟨rfl, ht5, hg5⟩
          rw [HD.out.2.1]
          have HT5 : Hid (TT W w5 s1 b1 s2 b2 L L) := by have := HT4.out.one hg5 ht5; rwa [HD.out.1] at this
          clear ht5 hg5 a0 HT4 HA4
          obtain ⟨be, hbe⟩ : ∃ be, Ty.best L = be := ⟨_, rfl⟩
          obtain ⟨ee, hee⟩ : ∃ ee, Ty.bestE L = ee := ⟨_, rfl⟩
          have HBE : Hid (Ty.best L = be ∧ Ty.bestE L = ee) := ⟨hbe, hee⟩
          clear hbe hee
          go_wp2_with fail
          refine (tbest_any _ HT5.out.h1).mono ?_
          rintro e w6 ⟨rfl, hb6⟩
          rw [HBE.out.1, HBE.out.2]
          have hb6' : Below w5.heap.size w5 (w6.alloc (BB be)) := hb6.alloc hb6.size _
          obtain ⟨W6, hW6⟩ : ∃ W6, w6.alloc (BB be) = W6 := ⟨_, rfl⟩
          obtain ⟨x6, hx6⟩ : ∃ x6, w6.heap.size = x6 := ⟨_, rfl⟩
          have HW6 : Hid (w6.alloc (BB be) = W6) := hW6
          have HX6 : Hid (w6.heap.size = x6) := hx6
          have HT6 : Hid (TT W W6 s1 b1 s2 b2 L L) := by rw [← hW6]; exact HT5.out.up hb6'
          have HXX6 : Hid (W6.heap[x6]? = some (BB be)) := by rw [← hW6, ← hx6]; exact heap_alloc_new _ _
          clear hb6 hb6' hW6 hx6
          go_wp2_with fail
          rw [HW6.out, HX6.out]
          refine (tbest_any _ HT6.out.h2).mono ?_
          rintro e w7 ⟨rfl, hb7⟩
          rw [HBE.out.1, HBE.out.2]
          have hb7' : Below W6.heap.size W6 (w7.alloc (BB be)) := hb7.alloc hb7.size _
          have HT7 : Hid (TT W (w7.alloc (BB be)) s1 b1 s2 b2 L L) := HT6.out.up hb7'
          obtain ⟨⟨z0, z1, z2⟩, -⟩ := bid_of ((hb7'.block x6 (Array.getElem?_eq_some_iff.1 HXX6.out).1).trans HXX6.out)
          have hq : ∀ V, (binOp .eql 32 (VB be) (VB be)).run Try.prog V = .ok (.bool true) V := fun V => by have := eql_bid V be be; rwa [decide_eq_true rfl] at this
          clear hb7 hb7'
          go_wp2_with fail
          refine (tNodes_any _ HT7.out.h1).mono ?_
          rintro e w8 ⟨n8, rfl, hr8, hb8⟩
          have HT8 : Hid (TT W w8 s1 b1 s2 b2 L L) := HT7.out.up hb8
          have HR8 : Hid (AtW EI w8 n8 (L.map (·.1))) := hr8.at.wide
          clear hr8 hb8 hq z0 z1 z2
          go_wp2_with fail
          refine (tNodes_any _ HT8.out.h2).mono ?_
          rintro e w9 ⟨n9, rfl, hr9, hb9⟩
          have HT9 : Hid (TT W w9 s1 b1 s2 b2 L L) := HT8.out.up hb9
          have HR9 : Hid (AtW EI w9 n9 (L.map (·.1)) ∧ AtW EI w9 n8 (L.map (·.1))) := ⟨hr9.at.wide, HR8.out.up hb9⟩
          clear hr9 hb9
          go_wp2_with fail
          refine (ints_same _ _ _ _ HR9.out.2 HR9.out.1).mono ?_
          rintro e w10 ⟨rfl, hb10⟩
          have HT10 : Hid (TT W w10 s1 b1 s2 b2 L L) := HT9.out.up hb10
          clear hb10
          obtain ⟨eo, heo⟩ : ∃ eo, decide ((3 : Int) < (L.length : Int)) = eo := ⟨_, rfl⟩
          have HEO : Hid (decide ((3 : Int) < (L.length : Int)) = eo) := heo
          have heoo : (eo == eo) = true := beq_self_eq_true eo
          clear heo
          go_wp2_with fail
          refine (tEnough_any _ HT10.out.h1).mono ?_
          rintro e w11 ⟨rfl, hb11⟩
          rw [HEO.out]
          have HT11 : Hid (TT W w11 s1 b1 s2 b2 L L) := HT10.out.up hb11
          clear hb11
          go_wp2_with fail
          refine (tEnough_any _ HT11.out.h2).mono ?_
          rintro e w12 ⟨rfl, hb12⟩
          rw [HEO.out]
          have HT12 : Hid (TT W w12 s1 b1 s2 b2 L L) := HT11.out.up hb12
          clear hb12
          cases en with
          | true =>
            go_wp2_with fail
            refine (two_any _).mono ?_
            rintro e wz ⟨rfl, hb⟩
            have HBZ : Hid (Below w.heap.size w wz) := (HBW2.out _ _ _ _ _ _ _ HT12.out).trans (hb.mono (HBW2.out _ _ _ _ _ _ _ HT12.out).size)
            clear hb
            go_wp2
            go_ret
            exact ⟨rfl, HBZ.out⟩
          | false =>
            obtain rfl : eo = false := by
              rw [← HEO.out]
              have := HEN.out
              simp at this ⊢
              omega
            clear heoo
            go_wp2_with fail
            refine (tEnough_any _ HT12.out.h2).mono ?_
            rintro e w13 ⟨rfl, hb13⟩
            rw [HEO.out]
            have HT13 : Hid (TT W w13 s1 b1 s2 b2 L L) := HT12.out.up hb13
            clear hb13
            go_wp2_with fail
            refine (two_any _).mono ?_
            rintro e wz ⟨rfl, hb⟩
            have HBZ : Hid (Below w.heap.size w wz) := (HBW2.out _ _ _ _ _ _ _ HT13.out).trans (hb.mono (HBW2.out _ _ _ _ _ _ _ HT13.out).size)
            clear hb
            go_wp2
            go_ret
            exact ⟨rfl, HBZ.out⟩
        · have HE : Hid (Ty.addL 7 L b = L ∧ Ty.addB 7 L b = false ∧ Ty.addE 7 b = 1) := by
            unfold Ty.addL Ty.addB Ty.addE
            exact ⟨if_neg hf, by rw [decide_eq_false hf]; rfl, if_neg hf⟩
          clear hf
          go_wp2_with fail
          refine (tadd_any _ _ HT.out.h1).mono ?_
          rintro e w3 ⟨rfl, ht3, hg3⟩
          rw [HE.out.2.1, HE.out.2.2]
          have HT3 : Hid (TT W w3 s1 b1 s2 b2 L L) := by have := HT.out.one hg3 ht3; rwa [HE.out.1] at this
          clear ht3 hg3 a0 a1 a2
          obtain ⟨ll, hll⟩ : ∃ ll, L.length = ll := ⟨_, rfl⟩
          have HLL : Hid (L.length = ll) := hll
          clear hll
          go_wp2_with fail
          refine (tCount_any _ HT3.out.h1).mono ?_
          rintro e w4 ⟨rfl, hb4⟩
          rw [HLL.out]
          have HT4 : Hid (TT W w4 s1 b1 s2 b2 L L) := HT3.out.up hb4
          clear hb4
          go_wp2_with fail
          refine (tCount_any _ HT4.out.h2).mono ?_
          rintro e w5 ⟨rfl, hb5⟩
          rw [HLL.out]
          have HT5 : Hid (TT W w5 s1 b1 s2 b2 L L) := HT4.out.up hb5
          clear hb5
          go_wp2_with fail
          refine (two_any _).mono ?_
          rintro e wz ⟨rfl, hb⟩
          have HBZ : Hid (Below w.heap.size w wz) := (HBW2.out _ _ _ _ _ _ _ HT5.out).trans (hb.mono (HBW2.out _ _ _ _ _ _ _ HT5.out).size)
          clear hb
          go_wp2
          go_ret
          exact ⟨rfl, HBZ.out⟩

set_option maxRecDepth 100000 in
theorem tallyForgets_lifted (os : Os) (started : os.Started) (H : Type) (enc : TypeId × Value → H) :
    ReturnsInHanded {} Try.checked os 6 .any (Rows.tallyForgetsSpec.pre6 enc Try.prog Try.f6 Rows.tallyForgetsRow.domain false) (Rows.tallyForgetsSpec.post enc Try.prog Try.f6 false true false false) := by
  refine returnsInHanded_of_change (C := Try.checked) own started (by kernel_rfl) Try.func6
    (ChangeSpec.witness6 (enc := enc) (C := Try.checked) false ⟨#[], #[.slice none 0 0, .agg #[.int .i64 0, .int .i64 0, .int .i64 0]], []⟩ 8 (by kernel_rfl) (by kernel_rfl) (by kernel_rfl) (by kernel_rfl)) ?_
  intro W base args ds gs before hval0 hW hcnd _
  have hval : ∀ (j : Nat) t v, Try.f6.params[j]? = some t → args[j]? = some v → Value.okWide Try.prog W .any base t v := hval0
  have hW' := hW
  obtain ⟨p, q, hA0, hV, rfl, hfz, hnd⟩ := hW
  have hA : DataW.TrodAll enc Try.prog W 0 (fun _ => true) true Try.f6.params.toList args.toList ds p := hA0
  rw [Try.params6] at hA hval
  obtain ⟨v0, v1, d0, d1, p0, p1, rfl, rfl, rfl, h0, h1⟩ := trodAll_two hA
  obtain ⟨rfl, rfl⟩ := trodVars_none hV
  obtain ⟨x0, hl0⟩ := open_bids (hval 0 56 v0 rfl rfl) h0
  obtain ⟨x1, rfl⟩ := open_bid (hval 1 32 v1 rfl rfl) h1
  refine (forgets_any _ x0 x1 W hl0).mono fun e W' ⟨he, hg⟩ => ⟨_, he, ?_⟩
  exact Law.post laidOut (by kernel_rfl) rfl Try.underlying4 hW' rfl rfl hg

theorem tallyForgets_holds : Rows.TallyForgetsSaid :=
  OpenClaim.holds_of_wide 6 Try.f6 rfl rfl rfl rfl rfl rfl rfl ⟨rfl, rfl, rfl, rfl, rfl⟩ rfl rfl rfl rfl rfl (by kernel_rfl) Try.func6 (by kernel_rfl)
    (of_decide_eq_true (by kernel_rfl)) (by unfold Func.isWrapper; first | (rw [if_pos (by decide +kernel)]; kernel_rfl) | (rw [if_neg (by decide +kernel)]; exact ⟨rfl, rfl⟩))
    (fun os started H enc _ => tallyForgets_lifted os started H enc)
#print axioms tallyForgets_holds
end Go.Proofs.Ytdcknokggjbebaa
