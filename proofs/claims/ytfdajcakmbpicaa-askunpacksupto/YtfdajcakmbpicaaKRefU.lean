/-
  The document's Number, Value, Named and Unpack of calls: what they answer.
-/
import Derived.Test.YtfdajcakmbpicaaKRef
import Derived.Test.YtfdajcakmbpicaaKUnpack
import Derived.Test.YtfdajcakmbpicaaRefUnpack
namespace Go.Proofs.Ytfdajcakmbpicaa
open Go.ChangeShapes Go.WideShapes Go.ChangeAt Go.RowKit Go.Deep
open Ak

theorem rnumber_s (s : ByteArray) (w : World) (hs : s.size ≤ maxLen) : Calls Try.prog 27 #[.string s] w fun e w' => e = .returned (.int .i64 (Pl.numVal s)) ∧ w' = w := by
  have HS : Hid (s.size ≤ maxLen) := hs
  clear hs
  go_enter Try.func27, Try.ntmps27
  go_wp2_with fail
  refine (refNumber_any s _ HS.out).mono ?_
  rintro e w1 ⟨rfl, rfl⟩
  go_wp2
  go_ret
  exact ⟨rfl, rfl⟩
set_option maxHeartbeats 1000000 in
theorem rnamed_any (S : ByteArray) (w : World) : Calls Try.prog 29 #[.string S] w fun e w' => e = .returned (VH (hno S) (hgen S)) ∧ Below w.heap.size w w' := by
  by_cases h7 : S.size = 7
  · have HE : Hid ((S.extract 0 1).size ≤ maxLen ∧ (S.extract 1 7).size ≤ maxLen) := ⟨by rw [ByteArray.size_extract]; unfold maxLen; omega, by rw [ByteArray.size_extract]; unfold maxLen; omega⟩
    have HU : Hid (hno S = Pl.numVal (S.extract 0 1) ∧ hgen S = Pl.numVal (S.extract 1 7)) := ⟨by unfold hno; rw [if_pos h7], by unfold hgen; rw [if_pos h7]⟩
    go_enter Try.func29, Try.ntmps29
    go_wp2
    go_region_held3 (fun _ => True) (trivial) (first
      | (go_at_call_of 27 (Value.string (S.extract 0 1)); refine (rnumber_s _ _ HE.out.1).mono ?_; rintro e w1 ⟨rfl, rfl⟩)
      | (go_at_call_of 27 (Value.string (S.extract 1 7)); refine (rnumber_s _ _ HE.out.2).mono ?_; rintro e w1 ⟨rfl, rfl⟩))
    all_goals
      generalize Pl.numVal (S.extract 0 1) = k at HU ⊢
      generalize Pl.numVal (S.extract 1 7) = l at HU ⊢
      go_wp2
      refine bodyPost_ret (v := VH k l) (by simp [results, Try.results29, go_sem]) rfl ⟨?_, ?_⟩
      · rw [HU.out.1, HU.out.2]
      · first | exact ((Below.refl _ _).alloc (Nat.le_refl _) _).drew | exact ((Below.refl _ _).drew).alloc (Nat.le_refl _) _
  · have H : Hid (hno S = 0 ∧ hgen S = 0) := ⟨by unfold hno; rw [if_neg h7], by unfold hgen; rw [if_neg h7]⟩
    have h7' : ((S.size : Int) != 7) = true := by simp; omega
    clear h7
    rw [H.out.1, H.out.2]
    go_enter Try.func29, Try.ntmps29
    go_wp2
    exact bodyPost_ret (v := VH 0 0) (by simp [results, Try.results29, go_sem]) rfl ⟨rfl, (Below.refl _ _).alloc (Nat.le_refl _) _⟩
theorem lastOf_take {l : List (Int × ByteArray)} {k : Nat} (h : k < l.length) (t : Int) : lastOf (l.take (k + 1)) t = if (l.getD k (0, .empty)).1 = t then (l.getD k (0, .empty)).2 else lastOf (l.take k) t := by
  rw [List.take_succ_eq_append_getElem h, lastOf_snoc]
  simp [List.getD, h]
set_option maxHeartbeats 1000000 in
theorem value_any (v : Value) (l : List (Int × ByteArray)) (t : Int) (w : World) (hv : FieldsAt w.heap.size w v l) : Calls Try.prog 28 #[v, .int .i64 t] w fun e w' => e = .returned (.string (lastOf l t)) ∧ Below w.heap.size w w' := by
  obtain ⟨ao, cap, rfl, hm, hx⟩ := hv.open
  clear hv
  unfold maxLen at hm
  obtain ⟨n, hn⟩ : ∃ n, l.length = n := ⟨_, rfl⟩
  rw [hn] at hm hx ⊢
  have HN : Hid (l.length = n) := hn
  have HX : Hid (∀ i, i < n → ∃ b off, ao = some ⟨b, off, none⟩ ∧ b < w.heap.size ∧ w.cell? ⟨b, off + i * 2, none⟩ = some (.int .i64 (l.getD i (0, .empty)).1) ∧ w.cell? ⟨b, off + i * 2 + 1, none⟩ = some (.string (l.getD i (0, .empty)).2)) := hx
  clear hn hx
  go_enter Try.func28, Try.ntmps28
  go_wp2
  go_loopw [5, 10] (fun s i wr => ∃ k : Nat, k ≤ n ∧ i = .int .i64 k ∧ s = .string (lastOf (l.take k) t) ∧ Hid (Below w.heap.size w wr)) (fun _ i _ => n - (intOf i).toNat)
  case atStart => exact ⟨0, Nat.zero_le _, rfl, rfl, Below.refl _ _⟩
  case round =>
    obtain ⟨k, hk, rfl, rfl, HB⟩ := hrel
    have hsz := HB.out.size
    by_cases hlt : k < n
    · obtain ⟨b, off, rfl, hB, x0, x1⟩ := HX.out k hlt
      rw [← HB.out.cell (p := ⟨b, off + k * 2, none⟩) hB] at x0
      rw [← HB.out.cell (p := ⟨b, off + k * 2 + 1, none⟩) hB] at x1
      have HV : Hid (lastOf (l.take (k + 1)) t = if (l.getD k (0, .empty)).1 = t then (l.getD k (0, .empty)).2 else lastOf (l.take k) t) := lastOf_take (by rw [HN.out]; exact hlt) t
      generalize l.getD k (0, .empty) = f at *
      obtain ⟨u, y⟩ := f
      generalize lastOf (l.take k) t = z at *
      by_cases hu : u = t
      · subst hu
        go_wp2
        go_roundw
        case rel => exact ⟨k + 1, by omega, by go_num, by rw [HV.out, if_pos rfl], HB.out.alloc hsz _⟩
        case measure => simp [intOf]; omega
      · have hu' : (u == t) = false := by simpa using hu
        go_wp2
        go_roundw
        case rel => exact ⟨k + 1, by omega, by go_num, by rw [HV.out, if_neg hu], HB.out.alloc hsz _⟩
        case measure => simp [intOf]; omega
    · obtain rfl : k = n := by omega
      have HV : Hid (lastOf (l.take k) t = lastOf l t) := by show lastOf (l.take k) t = _; rw [List.take_of_length_le (by rw [HN.out]; exact Nat.le_refl _)]
      rw [HV.out]
      go_wp2
      go_ret
      exact ⟨rfl, HB.out⟩
theorem lastOf_small {l : List (Int × ByteArray)} (h : ∀ x ∈ l, x.2.size ≤ 65535) (t : Int) : (lastOf l t).size ≤ 65535 := by
  induction l using rev_ind with
  | h0 => exact Nat.zero_le _
  | h1 l x ih =>
    rw [lastOf_snoc]
    split
    · exact h x (by simp)
    · exact ih fun y hy => h y (by simp [hy])
set_option maxHeartbeats 4000000 in
theorem askRefUnpack_any (s : ByteArray) (w : World) (hs : s.size ≤ 1048576) :
    Calls Try.prog 12 #[.string s] w fun e w' => e = .returned (.tuple #[VC (unpC s.data.toList), .int .i64 (unpE s.data.toList)]) ∧ Below w.heap.size w w' := by
  have HS : Hid (s.size ≤ 1048576) := hs
  clear hs
  obtain ⟨l, hl⟩ : ∃ l, Pl.unpOut s.data.toList = l := ⟨_, rfl⟩
  have HL : Hid (Pl.unpOut s.data.toList = l) := hl
  have HSM : Hid (∀ x ∈ l, x.2.size ≤ 65535) := by rw [← hl]; exact parse_small _ _ _
  obtain ⟨C, hC⟩ : ∃ C, unpC s.data.toList = C := ⟨_, rfl⟩
  obtain ⟨E, hE⟩ : ∃ E, unpE s.data.toList = E := ⟨_, rfl⟩
  have HCE : Hid (unpC s.data.toList = C ∧ unpE s.data.toList = E) := ⟨hC, hE⟩
  rw [hC, hE]
  clear hC hE hl
  by_cases h0 : Pl.unpErr s.data.toList = 0
  · have H0 : Hid (Pl.unpErr s.data.toList = 0) := h0
    clear h0
    obtain ⟨v1, hv1⟩ : ∃ v, lastOf l 1 = v := ⟨_, rfl⟩
    obtain ⟨v2, hv2⟩ : ∃ v, lastOf l 2 = v := ⟨_, rfl⟩
    obtain ⟨v3, hv3⟩ : ∃ v, lastOf l 3 = v := ⟨_, rfl⟩
    obtain ⟨v4, hv4⟩ : ∃ v, lastOf l 4 = v := ⟨_, rfl⟩
    obtain ⟨v5, hv5⟩ : ∃ v, lastOf l 5 = v := ⟨_, rfl⟩
    obtain ⟨v6, hv6⟩ : ∃ v, lastOf l 6 = v := ⟨_, rfl⟩
    obtain ⟨v7, hv7⟩ : ∃ v, lastOf l 7 = v := ⟨_, rfl⟩
    obtain ⟨v8, hv8⟩ : ∃ v, lastOf l 8 = v := ⟨_, rfl⟩
    have HV : Hid (lastOf l 1 = v1 ∧ lastOf l 2 = v2 ∧ lastOf l 3 = v3 ∧ lastOf l 4 = v4 ∧ lastOf l 5 = v5 ∧ lastOf l 6 = v6 ∧ lastOf l 7 = v7 ∧ lastOf l 8 = v8) := ⟨hv1, hv2, hv3, hv4, hv5, hv6, hv7, hv8⟩
    have HZ : Hid (v1.size ≤ 65535 ∧ v6.size ≤ 65535 ∧ v7.size ≤ 65535) := ⟨by rw [← hv1]; exact lastOf_small HSM.out 1, by rw [← hv6]; exact lastOf_small HSM.out 6, by rw [← hv7]; exact lastOf_small HSM.out 7⟩
    have HCC : Hid (callOf (Pl.unpOut s.data.toList) = ⟨Pl.numVal v1, hno v2, hgen v2, hno v3, hgen v3, v4, v5, Pl.numVal v6, Pl.numVal v7, v8⟩) := by
      show callOf (Pl.unpOut s.data.toList) = _
      rw [HL.out, ← refOf_eq, refOf, hv1, hv2, hv3, hv4, hv5, hv6, hv7, hv8]
    clear hv1 hv2 hv3 hv4 hv5 hv6 hv7 hv8
    go_enter Try.func12, Try.ntmps12
    go_wp2_with fail
    refine (refUnpack_any s _ HS.out).mono ?_
    rintro e w1 ⟨r, rfl, hown, hb1⟩
    rw [H0.out]
    rw [HL.out] at hown
    have hF := FieldsAt.of_own hown
    obtain ⟨ao, cap, rfl, -, -⟩ := hF.open
    obtain ⟨n, hn⟩ : ∃ n, l.length = n := ⟨_, rfl⟩
    rw [hn] at hF ⊢
    have HF1 : Hid (FieldsAt w1.heap.size w1 (.slice ao n cap) l) := hF
    have HB1 : Hid (Below w.heap.size w w1) := ((Below.refl _ _).alloc (Nat.le_refl _) _).trans (hb1.mono (by simp))
    have HR1 : Hid (w1.heap[w.heap.size]? = some (BC Ak.zero)) := block_step (heap_alloc_new w (BC Ak.zero)) hb1
    clear hown hb1 hF hn
    go_wp2_with fail
    refine (value_any _ l 1 _ HF1.out).mono ?_
    rintro e w2 ⟨rfl, hb2⟩
    rw [HV.out.1]
    have HB2 : Hid (Below w.heap.size w w2) := HB1.out.trans (hb2.mono HB1.out.size)
    have HR2 : Hid (w2.heap[w.heap.size]? = some (BC Ak.zero)) := block_step HR1.out hb2
    have HF2 : Hid (FieldsAt w2.heap.size w2 (.slice ao n cap) l) := (HF1.out.below hb2 (Nat.le_refl _)).mono hb2.size
    clear hb2 HB1 HR1 HF1
    go_wp2_with fail
    refine (rnumber_s v1 _ (by have := HZ.out.1; unfold maxLen; omega)).mono ?_
    rintro e w' ⟨rfl, rfl⟩
    go_wp2_with fail
    refine (value_any _ l 2 _ HF2.out).mono ?_
    rintro e w3 ⟨rfl, hb3⟩
    rw [HV.out.2.1]
    have HB3 : Hid (Below w.heap.size w w3) := HB2.out.trans (hb3.mono HB2.out.size)
    have HR3 : Hid (w3.heap[w.heap.size]? = some (BC Ak.zero)) := block_step HR2.out hb3
    have HF3 : Hid (FieldsAt w3.heap.size w3 (.slice ao n cap) l) := (HF2.out.below hb3 (Nat.le_refl _)).mono hb3.size
    clear hb3 HB2 HR2 HF2
    go_wp2_with fail
    refine (rnamed_any v2 _).mono ?_
    rintro e w4 ⟨rfl, hb4⟩
    have HB4 : Hid (Below w.heap.size w w4) := HB3.out.trans (hb4.mono HB3.out.size)
    have HR4 : Hid (w4.heap[w.heap.size]? = some (BC Ak.zero)) := block_step HR3.out hb4
    have HF4 : Hid (FieldsAt w4.heap.size w4 (.slice ao n cap) l) := (HF3.out.below hb4 (Nat.le_refl _)).mono hb4.size
    clear hb4 HB3 HR3 HF3
    go_wp2_with fail
    refine (value_any _ l 3 _ HF4.out).mono ?_
    rintro e w5 ⟨rfl, hb5⟩
    rw [HV.out.2.2.1]
    have HB5 : Hid (Below w.heap.size w w5) := HB4.out.trans (hb5.mono HB4.out.size)
    have HR5 : Hid (w5.heap[w.heap.size]? = some (BC Ak.zero)) := block_step HR4.out hb5
    have HF5 : Hid (FieldsAt w5.heap.size w5 (.slice ao n cap) l) := (HF4.out.below hb5 (Nat.le_refl _)).mono hb5.size
    clear hb5 HB4 HR4 HF4
    go_wp2_with fail
    refine (rnamed_any v3 _).mono ?_
    rintro e w6 ⟨rfl, hb6⟩
    have HB6 : Hid (Below w.heap.size w w6) := HB5.out.trans (hb6.mono HB5.out.size)
    have HR6 : Hid (w6.heap[w.heap.size]? = some (BC Ak.zero)) := block_step HR5.out hb6
    have HF6 : Hid (FieldsAt w6.heap.size w6 (.slice ao n cap) l) := (HF5.out.below hb6 (Nat.le_refl _)).mono hb6.size
    clear hb6 HB5 HR5 HF5
    go_wp2_with fail
    refine (value_any _ l 4 _ HF6.out).mono ?_
    rintro e w7 ⟨rfl, hb7⟩
    rw [HV.out.2.2.2.1]
    have HB7 : Hid (Below w.heap.size w w7) := HB6.out.trans (hb7.mono HB6.out.size)
    have HR7 : Hid (w7.heap[w.heap.size]? = some (BC Ak.zero)) := block_step HR6.out hb7
    have HF7 : Hid (FieldsAt w7.heap.size w7 (.slice ao n cap) l) := (HF6.out.below hb7 (Nat.le_refl _)).mono hb7.size
    clear hb7 HB6 HR6 HF6
    go_wp2_with fail
    refine (value_any _ l 5 _ HF7.out).mono ?_
    rintro e w8 ⟨rfl, hb8⟩
    rw [HV.out.2.2.2.2.1]
    have HB8 : Hid (Below w.heap.size w w8) := HB7.out.trans (hb8.mono HB7.out.size)
    have HR8 : Hid (w8.heap[w.heap.size]? = some (BC Ak.zero)) := block_step HR7.out hb8
    have HF8 : Hid (FieldsAt w8.heap.size w8 (.slice ao n cap) l) := (HF7.out.below hb8 (Nat.le_refl _)).mono hb8.size
    clear hb8 HB7 HR7 HF7
    go_wp2_with fail
    refine (value_any _ l 6 _ HF8.out).mono ?_
    rintro e w9 ⟨rfl, hb9⟩
    rw [HV.out.2.2.2.2.2.1]
    have HB9 : Hid (Below w.heap.size w w9) := HB8.out.trans (hb9.mono HB8.out.size)
    have HR9 : Hid (w9.heap[w.heap.size]? = some (BC Ak.zero)) := block_step HR8.out hb9
    have HF9 : Hid (FieldsAt w9.heap.size w9 (.slice ao n cap) l) := (HF8.out.below hb9 (Nat.le_refl _)).mono hb9.size
    clear hb9 HB8 HR8 HF8
    go_wp2_with fail
    refine (rnumber_s v6 _ (by have := HZ.out.2.1; unfold maxLen; omega)).mono ?_
    rintro e w' ⟨rfl, rfl⟩
    go_wp2_with fail
    refine (value_any _ l 7 _ HF9.out).mono ?_
    rintro e w10 ⟨rfl, hb10⟩
    rw [HV.out.2.2.2.2.2.2.1]
    have HB10 : Hid (Below w.heap.size w w10) := HB9.out.trans (hb10.mono HB9.out.size)
    have HR10 : Hid (w10.heap[w.heap.size]? = some (BC Ak.zero)) := block_step HR9.out hb10
    have HF10 : Hid (FieldsAt w10.heap.size w10 (.slice ao n cap) l) := (HF9.out.below hb10 (Nat.le_refl _)).mono hb10.size
    clear hb10 HB9 HR9 HF9
    go_wp2_with fail
    refine (rnumber_s v7 _ (by have := HZ.out.2.2; unfold maxLen; omega)).mono ?_
    rintro e w' ⟨rfl, rfl⟩
    go_wp2_with fail
    refine (value_any _ l 8 _ HF10.out).mono ?_
    rintro e w11 ⟨rfl, hb11⟩
    rw [HV.out.2.2.2.2.2.2.2]
    have HB11 : Hid (Below w.heap.size w w11) := HB10.out.trans (hb11.mono HB10.out.size)
    have HR11 : Hid (w11.heap[w.heap.size]? = some (BC Ak.zero)) := block_step HR10.out hb11
    have HF11 : Hid (FieldsAt w11.heap.size w11 (.slice ao n cap) l) := (HF10.out.below hb11 (Nat.le_refl _)).mono hb11.size
    clear hb11 HB10 HR10 HF10
    have hl3 : w.heap.size < w11.heap.size := block_lt HR11.out
    go_wp2_with fail
    obtain ⟨c, hc⟩ : ∃ c : Cl, c = ⟨Pl.numVal v1, hno v2, hgen v2, hno v3, hgen v3, v4, v5, Pl.numVal v6, Pl.numVal v7, v8⟩ := ⟨_, rfl⟩
    refine (askRefPack_any ⟨Pl.numVal v1, hno v2, hgen v2, hno v3, hgen v3, v4, v5, Pl.numVal v6, Pl.numVal v7, v8⟩ _).mono ?_
    rintro e w2 ⟨rfl, hb2⟩
    rw [← hc] at HCC
    have HK2 : Hid (w2.heap[w11.heap.size]? = some (BC c)) := by show w2.heap[w11.heap.size]? = some (BC c); rw [hc]; exact block_step (heap_alloc_new w11 _) hb2
    have HR3 : Hid (w2.heap[w.heap.size]? = some (BC Ak.zero)) := block_step ((Below.heap_alloc _ _ _ hl3).trans HR11.out) hb2
    have HB2 : Hid (Below w.heap.size w w2) := (HB11.out.alloc (by omega) _).trans (hb2.mono (by simp; omega))
    have fa : ∀ j, w2.frozen? ⟨w.heap.size, j, none⟩ = false := fun j => by simp [World.frozen?, HR3.out]
    have hl4 : w.heap.size < w2.heap.size := block_lt HR3.out
    obtain ⟨d0, d1, d2, d3, d4, d5, d6, d7, d8, d9⟩ := ten_of HR3.out
    obtain ⟨c0, c1, c2, c3, c4, c5, c6, c7, c8, c9⟩ := ten_of HK2.out
    rw [← hc]
    clear hb2
    by_cases hp : packErr c = 0
    · by_cases hq : packOut c = s
      · have HY := Ak.isCall_yes H0.out (by rw [HCC.out]; exact hp) (by rw [HCC.out]; exact hq)
        have H : Hid (C = c ∧ E = 0) := ⟨by rw [← HCE.out.1, HY.1, HCC.out], by rw [← HCE.out.2, HY.2]⟩
        rw [hp, hq]
        have t1 : (s.toList == s.toList) = true := beq_self_eq_true _
        clear hp hq HY hc
        go_wp2
        refine bodyPost_ret (v := .tuple #[VC c, .int .i64 0]) (by simp [results, Try.results12, go_sem, d0, d1, d2, d3, d4, d5, d6, d7, d8, d9]) rfl ⟨?_, put10_below HB2.out (Nat.le_refl _) c⟩
        rw [H.out.1, H.out.2]
      · have HY := Ak.isCall_no (s := s) (.inr (.inr (by rw [HCC.out]; exact hq)))
        have H : Hid (C = Ak.zero ∧ E = 413) := ⟨by rw [← HCE.out.1, HY.1], by rw [← HCE.out.2, HY.2]⟩
        rw [hp]
        have t1 := str_ne hq
        clear hp hq HY hc
        generalize packOut c = p at *
        go_wp2
        refine bodyPost_ret (v := .tuple #[VC Ak.zero, .int .i64 413]) (by simp [results, Try.results12, go_sem, Ak.zero, d0, d1, d2, d3, d4, d5, d6, d7, d8, d9]) rfl ⟨?_, put10_below HB2.out (Nat.le_refl _) Ak.zero⟩
        rw [H.out.1, H.out.2]
    · have HY := Ak.isCall_no (s := s) (.inr (.inl (by rw [HCC.out]; exact hp)))
      have H : Hid (C = Ak.zero ∧ E = 413) := ⟨by rw [← HCE.out.1, HY.1], by rw [← HCE.out.2, HY.2]⟩
      have hp' : packErr c = 413 := by unfold packErr at hp ⊢; split at hp <;> simp_all
      rw [hp']
      clear hp hp' HY hc
      generalize packOut c = p at *
      go_wp2
      refine bodyPost_ret (v := .tuple #[VC Ak.zero, .int .i64 413]) (by simp [results, Try.results12, go_sem, Ak.zero, d0, d1, d2, d3, d4, d5, d6, d7, d8, d9]) rfl ⟨?_, put10_below HB2.out (Nat.le_refl _) Ak.zero⟩
      rw [H.out.1, H.out.2]
  · have H1 := Ak.isCall_no (.inl h0)
    have H : Hid (C = Ak.zero ∧ E = 413) := ⟨HCE.out.1.symm.trans H1.1, HCE.out.2.symm.trans H1.2⟩
    obtain ⟨q, hq⟩ : ∃ q, Pl.unpErr s.data.toList = q := ⟨_, rfl⟩
    have hq1 : (q != 0) = true := by rw [← hq]; simpa using h0
    have HQ : Hid (Pl.unpErr s.data.toList = q) := hq
    clear h0 H1 hq
    go_enter Try.func12, Try.ntmps12
    go_wp2_with fail
    refine (refUnpack_any s _ HS.out).mono ?_
    rintro e w1 ⟨r, rfl, hown, hb1⟩
    rw [HQ.out]
    have HB1 : Hid (Below w.heap.size w w1) := ((Below.refl _ _).alloc (Nat.le_refl _) _).trans (hb1.mono (by simp))
    have HR1 : Hid (w1.heap[w.heap.size]? = some (BC Ak.zero)) := block_step (heap_alloc_new w (BC Ak.zero)) hb1
    have fa : ∀ j, w1.frozen? ⟨w.heap.size, j, none⟩ = false := fun j => by simp [World.frozen?, HR1.out]
    have hl3 : w.heap.size < w1.heap.size := block_lt HR1.out
    obtain ⟨d0, d1, d2, d3, d4, d5, d6, d7, d8, d9⟩ := ten_of HR1.out
    clear hown hb1
    go_wp2
    refine bodyPost_ret (v := .tuple #[VC Ak.zero, .int .i64 413]) (by simp [results, Try.results12, go_sem, Ak.zero, d0, d1, d2, d3, d4, d5, d6, d7, d8, d9]) rfl ⟨?_, put10_below HB1.out (Nat.le_refl _) Ak.zero⟩
    rw [H.out.1, H.out.2]
end Go.Proofs.Ytfdajcakmbpicaa
